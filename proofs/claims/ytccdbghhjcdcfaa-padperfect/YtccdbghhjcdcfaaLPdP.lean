/-
  PadPerfect: Shannon.
-/
import Derived.Test.YtccdbghhjcdcfaaPdL
namespace Go.Proofs.Ytccdbghhjcdcfaa
open Go.RowKit PK Pd

theorem evB_next (f : Nat → Int) (k : Nat) : evB (k + 1) f = (evB k f && decide (f k = f 0)) := by
  unfold evB
  rw [List.range_succ, List.all_append]
  simp
theorem lst_zero {N c : Nat} (h : c < N) : lst N c 0 = c := by rw [lst_once h (by omega), if_pos (by omega)]; omega
theorem lst_self {N c : Nat} (h : c < N) : lst N c c = 0 := by rw [lst_once h h, if_pos (Nat.le_refl _)]; omega
/-- Does sign s become the first k signs as often as 0 does? -/
def rowB (N : Nat) (f : Nat → Int) (s k : Nat) : Bool := (List.range k).all fun c => decide (f (lst N c s) = f c)
theorem rowB_next (N : Nat) (f : Nat → Int) (s k : Nat) : rowB N f s (k + 1) = (rowB N f s k && decide (f (lst N k s) = f k)) := by
  unfold rowB
  rw [List.range_succ, List.all_append]
  simp
/-- Do the signs below s? -/
def alB (N : Nat) (f : Nat → Int) (s : Nat) : Bool := (List.range s).all fun s => rowB N f s N
theorem alB_next (N : Nat) (f : Nat → Int) (s : Nat) : alB N f (s + 1) = (alB N f s && rowB N f s N) := by
  unfold alB
  rw [List.range_succ, List.all_append]
  simp
theorem alB_one (N : Nat) (f : Nat → Int) : alB N f 1 = true := by
  show (rowB N f 0 N && true) = true
  unfold rowB
  rw [Bool.and_true, List.all_eq_true]
  intro c hc
  rw [lst_zero (by simpa using hc)]
  simp
theorem alB_all {N : Nat} (h : 0 < N) (f : Nat → Int) : alB N f N = evB N f := by
  rw [Bool.eq_iff_iff, evB_iff]
  unfold alB rowB
  simp only [List.all_eq_true, List.mem_range, decide_eq_true_eq]
  constructor
  · intro ha i hi
    have := ha i hi i hi
    rw [lst_self hi] at this
    exact this.symm
  · intro he s hs c hc
    rw [he _ (lst_lt h c s), he c hc]
theorem idx_lst {N c s : Nat} (hs : s < N) : ((c : Int) - (s : Int) + (N : Int)).tmod (N : Int) = ((lst N c s : Nat) : Int) := by
  rw [Int.tmod_eq_emod_of_nonneg (by omega), lst_eq, Int.natCast_emod]
  congr 1
  omega
set_option maxRecDepth 100000 in
set_option maxHeartbeats 8000000 in
theorem padperfect_of (n : Int) (vw : Value) (nw : Nat) (fw : Nat → Int) (w : World) (hw : Ans w vw nw fw) : Calls Try.prog 6 #[.int .i64 n, vw] w fun e w' => e = .returned (.bool true) ∧ Below w.heap.size w w' := by
  have HAL := (show Hid (∀ W, Calls Try.prog 21 #[] W fun e w' => e = .returned (.bool true) ∧ Below W.heap.size W w') from alive14)
  have H1 := (show Hid (∀ W, Below w.heap.size w W → Calls Try.prog 15 #[.int .i64 n, vw] W fun e w' => e = .returned (.tuple #[.bool (seB n nw fw), .int .i64 (wtE n 0 nw fw)]) ∧ Below W.heap.size W w') from fun W hb => pse_any n vw nw fw W (hw.2.below hb))
  have H2 := (show Hid (wtE n 0 nw fw = 0 → ∀ s : Nat, s < nw → ∀ W, Below w.heap.size w W → Calls Try.prog 13 #[.int .i64 n, vw, .int .i64 (s : Nat)] W fun e w' => ∃ v', e = .returned (.tuple #[v', .int .i64 0]) ∧ Ans w' v' nw (fun c => fw (lst nw c s)) ∧ Below W.heap.size W w') from fun hE s hs W hb => by
    obtain ⟨k1, k2, k3, k4, k5, k6⟩ := wtE_zero hE
    refine (pch_any n (s : Int) vw nw fw W (hw.2.below hb)).mono ?_
    have h0 : wtE n (s : Int) nw fw = 0 := wtE_ok k1 k2 (by omega) (by omega) k5 k6
    have hn : n.toNat = nw := by omega
    rw [h0]
    rintro e w' ⟨v', h1, h2, h3⟩
    rw [rl_zero, hn] at h2
    refine ⟨v', h1, ⟨h2.1, nums_ext h2.2 fun i hi => ?_⟩, h3⟩
    unfold chF
    rw [hn, Int.toNat_natCast])
  have HS := (show Hid (wtE n 0 nw fw = 0 → seB n nw fw = evB nw fw) from fun h => by unfold seB; rw [if_pos h])
  have HN := (show Hid (wtE n 0 nw fw = 0 → 2 ≤ n ∧ n ≤ 64 ∧ (nw : Int) = n) from fun h => ⟨(wtE_zero h).1, (wtE_zero h).2.1, (wtE_zero h).2.2.2.2.1⟩)
  obtain ⟨⟨aw, cw, rfl, _⟩, _, _, e, hm, hc⟩ := hw
  cases e
  have HC := (show Hid _ from hc)
  unfold maxLen at hm
  clear hc
  generalize wtE n 0 nw fw = E at *
  generalize seB n nw fw = B at *
  by_cases hE : E = 0
  case neg =>
    have hd1 : (E != 0) = true := by simp [hE]
    clear hE H2 HS HN HC
    go_enter Try.func6, Try.ntmps6
    go_wp2_with fail
    refine (HAL.out _).mono ?_
    rintro e W1 ⟨rfl, hb1⟩
    have HB1 := (show Hid (Below w.heap.size w W1) from hb1)
    clear hb1 HAL
    go_wp2_with fail
    refine (H1.out _ HB1.out).mono ?_
    rintro e W2 ⟨rfl, hb2⟩
    have HB2 := (show Hid (Below w.heap.size w W2) from HB1.out.trans (hb2.mono HB1.out.size))
    clear hb2 H1 HB1
    go_wp2
    go_ret
    exact ⟨rfl, HB2.out⟩
  subst hE
  obtain ⟨k1, k2, k3⟩ := HN.out rfl
  have HSB := (show Hid (B = evB nw fw) from HS.out rfl)
  have HCH := (show Hid _ from H2.out rfl)
  clear HN HS H2
  subst k3
  obtain ⟨b0, o0, hab, c0⟩ := HC.out 0 (by omega)
  subst hab
  rw [Nat.add_zero] at c0
  have hm0 : 0 < nw := by omega
  have HFE : Hid (∀ k, evB (k + 1) fw = (evB k fw && decide (fw k = fw 0))) := evB_next fw
  have HE0 : Hid (evB 0 fw = true) := rfl
  have HAN := (show Hid (∀ s, alB nw fw (s + 1) = (alB nw fw s && rowB nw fw s nw)) from alB_next nw fw)
  have HRN := (show Hid (∀ s k, rowB nw fw s (k + 1) = (rowB nw fw s k && decide (fw (lst nw k s) = fw k))) from rowB_next nw fw)
  have HR0 : Hid (∀ s, rowB nw fw s 0 = true) := fun _ => rfl
  have HA1 := (show Hid (alB nw fw 1 = true) from alB_one nw fw)
  have HAA := (show Hid (alB nw fw nw = evB nw fw) from alB_all hm0 fw)
  go_enter Try.func6, Try.ntmps6
  go_wp2_with fail
  refine (HAL.out _).mono ?_
  rintro e W1 ⟨rfl, hb1⟩
  have HB1 := (show Hid (Below w.heap.size w W1) from hb1)
  clear hb1 HAL
  go_wp2_with fail
  refine (H1.out _ HB1.out).mono ?_
  rintro e W2 ⟨rfl, hb2⟩
  have HB2 := (show Hid (Below w.heap.size w W2) from HB1.out.trans (hb2.mono HB1.out.size))
  clear hb2 H1 HB1
  go_wp2_with fail
  go_loopw [7, 28] (fun x i W => ∃ k : Nat, k ≤ nw ∧ i = .int .i64 (k : Nat) ∧ x = .bool (evB k fw) ∧ Below w.heap.size w W) (fun _ i _ => ((nw : Int) - intOf i).toNat)
  case atStart => exact ⟨0, by omega, rfl, by rw [HE0.out], HB2.out⟩
  case round =>
    clear HB2
    obtain ⟨k, hk, rfl, rfl, hbe⟩ := hrel
    by_cases hlt : k < nw
    · have HLT : Hid (k < nw) := hlt
      have hlt2 : (k : Int) < (nw : Int) := by omega
      obtain ⟨b1, o1, e1, c1⟩ := HC.out k hlt
      cases e1
      have d0 := (hbe.cell (p := ⟨b0, o0, none⟩) (cell_block c0)).trans c0
      have d1 := (hbe.cell (p := ⟨b0, o0 + k, none⟩) (cell_block c1)).trans c1
      have HNX := (show Hid _ from HFE.out k)
      have HBE := (show Hid _ from hbe)
      clear hlt hbe c1
      generalize evB k fw = x at *
      by_cases hz : fw k = fw 0
      · have hz1 : (fw k == fw 0) = true := by simp [hz]
        have HN2 : Hid (evB (k + 1) fw = x) := by rw [Hid, HNX.out, decide_eq_true hz, Bool.and_true]
        clear hz
        generalize fw k = z at *
        generalize fw 0 = z0 at *
        cases x
        · go_wp2
          go_roundw
          case rel => exact ⟨k + 1, HLT.out, by go_num, by rw [HN2.out], HBE.out⟩
          case measure => have := HLT.out; simp [intOf]; omega
        · go_wp2
          go_roundw
          case rel => exact ⟨k + 1, HLT.out, by go_num, by rw [HN2.out], HBE.out⟩
          case measure => have := HLT.out; simp [intOf]; omega
      · have hz1 : (fw k == fw 0) = false := by simp [hz]
        have HN2 : Hid (evB (k + 1) fw = false) := by rw [Hid, HNX.out, decide_eq_false hz, Bool.and_false]
        clear hz
        generalize fw k = z at *
        generalize fw 0 = z0 at *
        cases x
        · go_wp2
          go_roundw
          case rel => exact ⟨k + 1, HLT.out, by go_num, by rw [HN2.out], HBE.out⟩
          case measure => have := HLT.out; simp [intOf]; omega
        · go_wp2
          go_roundw
          case rel => exact ⟨k + 1, HLT.out, by go_num, by rw [HN2.out], HBE.out⟩
          case measure => have := HLT.out; simp [intOf]; omega
    obtain rfl : nw = k := by omega
    have hnn : ¬ ((nw : Nat) : Int) < ((nw : Nat) : Int) := by omega
    have HB3 := (show Hid (Below w.heap.size w wr) from hbe)
    clear hlt hbe
    rw [← HSB.out] at HAA ⊢
    clear HFE HE0 HSB
    go_wp2_with fail
    refine (HCH.out 0 hm0 _ HB3.out).mono ?_
    rintro e W4 ⟨v4, rfl, ha4, hb4⟩
    have HB4 := (show Hid (Below w.heap.size w W4) from HB3.out.trans (hb4.mono HB3.out.size))
    obtain ⟨⟨a4, c4, rfl, _⟩, _, _, e, _, hc4⟩ := ha4
    cases e
    have HC4 : Hid (∀ c, c < nw → ∃ b o, a4 = some ⟨b, o, none⟩ ∧ W4.cell? ⟨b, o + c, none⟩ = some (.int .i64 (fw c))) := fun c hc => by
      obtain ⟨b, o, h1, h2⟩ := hc4 c hc
      have h3 : W4.cell? ⟨b, o + c, none⟩ = some (.int .i64 (fw (lst nw c 0))) := h2
      rw [lst_zero hc] at h3
      exact ⟨b, o, h1, h3⟩
    have hnn2 : (((nw : Nat) : Int) != ((nw : Nat) : Int)) = false := by simp
    clear hb4 HB3 hc4
    go_wp2_with fail
    go_loopw [8, 12] (fun x i W => ∃ s : Nat, 1 ≤ s ∧ s ≤ nw ∧ i = .int .i64 (s : Nat) ∧ x = .bool (alB nw fw s) ∧ Below W4.heap.size W4 W) (fun _ i _ => ((nw : Int) - intOf i).toNat)
    case atStart => exact ⟨1, by omega, by omega, rfl, by rw [HA1.out], Below.refl _ _⟩
    case round =>
      obtain ⟨s, hs1, hs, rfl, rfl, hbs⟩ := hrel
      by_cases hlt : s < nw
      case neg =>
        obtain rfl : nw = s := by omega
        have hnn : ¬ ((nw : Nat) : Int) < ((nw : Nat) : Int) := by omega
        have HB5 := (show Hid (Below w.heap.size w wr) from HB4.out.trans (hbs.mono HB4.out.size))
        rw [HAA.out]
        clear hlt hbs HB4 HAA
        cases B
        · go_wp2
          go_ret
          exact ⟨by simp, HB5.out⟩
        · go_wp2
          go_ret
          exact ⟨by simp, HB5.out⟩
      have HLS : Hid (s < nw) := hlt
      have hlt2 : (s : Int) < (nw : Int) := by omega
      have HBS := (show Hid (Below w.heap.size w wr) from HB4.out.trans (hbs.mono HB4.out.size))
      go_wp2_with fail
      refine (HCH.out s hlt _ HBS.out).mono ?_
      rintro e W6 ⟨v6, rfl, ha6, hb6⟩
      have HB6 := (show Hid (Below W4.heap.size W4 W6) from hbs.trans (hb6.mono hbs.size))
      obtain ⟨⟨a6, c6, rfl, _⟩, _, _, e, _, hc6⟩ := ha6
      cases e
      have HC6 := (show Hid (∀ c, c < nw → ∃ b o, a6 = some ⟨b, o, none⟩ ∧ W6.cell? ⟨b, o + c, none⟩ = some (.int .i64 (fw (lst nw c s)))) from hc6)
      clear hb6 hbs hc6 HBS hlt
      go_wp2_with fail
      go_loopw [8, 77] (fun x i W => ∃ c : Nat, c ≤ nw ∧ i = .int .i64 (c : Nat) ∧ x = .bool (alB nw fw s && rowB nw fw s c) ∧ Below W6.heap.size W6 W) (fun _ i _ => ((nw : Int) - intOf i).toNat)
      case atStart => exact ⟨0, by omega, rfl, by rw [HR0.out, Bool.and_true], Below.refl _ _⟩
      case round =>
        obtain ⟨c, hc, rfl, rfl, hbc⟩ := hrel
        by_cases hlt : c < nw
        case neg =>
          obtain rfl : nw = c := by omega
          have hnn : ¬ ((nw : Nat) : Int) < ((nw : Nat) : Int) := by omega
          have HB7 := (show Hid (Below W4.heap.size W4 wr) from HB6.out.trans (hbc.mono HB6.out.size))
          rw [← HAN.out s]
          clear hlt hbc HB6
          generalize hx : alB nw fw (s + 1) = x at *
          have HX := (show Hid _ from hx)
          clear hx
          go_wp2
          go_roundw
          case rel => exact ⟨s + 1, by omega, HLS.out, by go_num, by rw [HX.out], HB7.out⟩
          case measure => have := HLS.out; simp [intOf]; omega
        have HLC : Hid (c < nw) := hlt
        have hltc : (c : Int) < (nw : Int) := by omega
        have HB7 := (show Hid (Below W4.heap.size W4 wr) from HB6.out.trans (hbc.mono HB6.out.size))
        have HB8 := (show Hid (Below w.heap.size w wr) from HB4.out.trans (HB7.out.mono HB4.out.size))
        have hq : lst nw c s < nw := lst_lt hm0 c s
        obtain ⟨b6, o6, rfl, c6'⟩ := HC6.out c hlt
        have d6 := (hbc.cell (p := ⟨b6, o6 + c, none⟩) (cell_block c6')).trans c6'
        obtain ⟨b4, o4, rfl, c4'⟩ := HC4.out c hlt
        have d4 := (HB7.out.cell (p := ⟨b4, o4 + c, none⟩) (cell_block c4')).trans c4'
        obtain ⟨b2, o2, e2, c2'⟩ := HC.out _ hq
        cases e2
        have d2 := (HB8.out.cell (p := ⟨b0, o0 + lst nw c s, none⟩) (cell_block c2')).trans c2'
        have hix := idx_lst (c := c) HLS.out
        have HRX := (show Hid _ from HRN.out s c)
        have HBC := (show Hid (Below W6.heap.size W6 wr) from hbc)
        have hqi : (((lst nw c s : Nat) : Int)) < (nw : Int) := by omega
        generalize lst nw c s = q at *
        have hzz : (fw q != fw q) = false := by simp
        clear hlt hbc c6' c4' c2' c0
        generalize alB nw fw s = A at *
        generalize rowB nw fw s c = R at *
        by_cases hz : fw q = fw c
        · have hz1 : (fw q == fw c) = true := by simp [hz]
          have HN2 : Hid ((A && rowB nw fw s (c + 1)) = (A && R)) := by rw [Hid, HRX.out, decide_eq_true hz, Bool.and_true]
          clear hz HRX
          generalize fw q = z at *
          generalize fw c = z0 at *
          generalize (A && R) = x at *
          cases x
          · go_wp2_with fail
            go_quiet (fail)
            have HBX := (show Hid (Below W6.heap.size W6 (wr.drewN nq)) from HBC.out.trans ⟨rfl, rfl, rfl, Nat.le_refl _, fun _ _ => rfl⟩)
            have d6' : (wr.drewN nq).cell? ⟨b6, o6 + c, none⟩ = some (.int .i64 z) := d6
            have d2' : (wr.drewN nq).cell? ⟨b0, o0 + q, none⟩ = some (.int .i64 z) := d2
            clear d6 d2 d4
            generalize wr.drewN nq = X at *
            go_wp2_with fail
            go_quiet (fail)
            have HBY := (show Hid (Below W6.heap.size W6 (X.drewN nq)) from HBX.out.trans ⟨rfl, rfl, rfl, Nat.le_refl _, fun _ _ => rfl⟩)
            go_wp2
            go_roundw
            case rel => exact ⟨c + 1, HLC.out, by go_num, by rw [HN2.out], HBY.out⟩
            case measure => have := HLC.out; simp [intOf]; omega
          · go_wp2_with fail
            go_quiet (fail)
            have HBX := (show Hid (Below W6.heap.size W6 (wr.drewN nq)) from HBC.out.trans ⟨rfl, rfl, rfl, Nat.le_refl _, fun _ _ => rfl⟩)
            have d6' : (wr.drewN nq).cell? ⟨b6, o6 + c, none⟩ = some (.int .i64 z) := d6
            have d2' : (wr.drewN nq).cell? ⟨b0, o0 + q, none⟩ = some (.int .i64 z) := d2
            clear d6 d2 d4
            generalize wr.drewN nq = X at *
            go_wp2_with fail
            go_quiet (fail)
            have HBY := (show Hid (Below W6.heap.size W6 (X.drewN nq)) from HBX.out.trans ⟨rfl, rfl, rfl, Nat.le_refl _, fun _ _ => rfl⟩)
            go_wp2
            go_roundw
            case rel => exact ⟨c + 1, HLC.out, by go_num, by rw [HN2.out], HBY.out⟩
            case measure => have := HLC.out; simp [intOf]; omega
        · have hz1 : (fw q == fw c) = false := by simp [hz]
          have HN2 : Hid ((A && rowB nw fw s (c + 1)) = false) := by rw [Hid, HRX.out, decide_eq_false hz, Bool.and_false, Bool.and_false]
          clear hz HRX
          generalize fw q = z at *
          generalize fw c = z0 at *
          generalize (A && R) = x at *
          cases x
          · go_wp2_with fail
            go_quiet (fail)
            have HBX := (show Hid (Below W6.heap.size W6 (wr.drewN nq)) from HBC.out.trans ⟨rfl, rfl, rfl, Nat.le_refl _, fun _ _ => rfl⟩)
            have d6' : (wr.drewN nq).cell? ⟨b6, o6 + c, none⟩ = some (.int .i64 z) := d6
            have d2' : (wr.drewN nq).cell? ⟨b0, o0 + q, none⟩ = some (.int .i64 z) := d2
            clear d6 d2 d4
            generalize wr.drewN nq = X at *
            go_wp2_with fail
            go_quiet (fail)
            have HBY := (show Hid (Below W6.heap.size W6 (X.drewN nq)) from HBX.out.trans ⟨rfl, rfl, rfl, Nat.le_refl _, fun _ _ => rfl⟩)
            go_wp2
            go_roundw
            case rel => exact ⟨c + 1, HLC.out, by go_num, by rw [HN2.out], HBY.out⟩
            case measure => have := HLC.out; simp [intOf]; omega
          · go_wp2_with fail
            go_quiet (fail)
            have HBX := (show Hid (Below W6.heap.size W6 (wr.drewN nq)) from HBC.out.trans ⟨rfl, rfl, rfl, Nat.le_refl _, fun _ _ => rfl⟩)
            have d6' : (wr.drewN nq).cell? ⟨b6, o6 + c, none⟩ = some (.int .i64 z) := d6
            have d2' : (wr.drewN nq).cell? ⟨b0, o0 + q, none⟩ = some (.int .i64 z) := d2
            clear d6 d2 d4
            generalize wr.drewN nq = X at *
            go_wp2_with fail
            go_quiet (fail)
            have HBY := (show Hid (Below W6.heap.size W6 (X.drewN nq)) from HBX.out.trans ⟨rfl, rfl, rfl, Nat.le_refl _, fun _ _ => rfl⟩)
            go_wp2
            go_roundw
            case rel => exact ⟨c + 1, HLC.out, by go_num, by rw [HN2.out], HBY.out⟩
            case measure => have := HLC.out; simp [intOf]; omega
end Go.Proofs.Ytccdbghhjcdcfaa
