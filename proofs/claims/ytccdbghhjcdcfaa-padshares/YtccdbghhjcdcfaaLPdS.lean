/-
  PadShares: all shares tell the secret, all but one tell nothing.
-/
import Derived.Test.YtccdbghhjcdcfaaPdL
namespace Go.Proofs.Ytccdbghhjcdcfaa
open Go.RowKit PK Pd

theorem sp_in {n s : Int} {m : Nat} {f : Nat → Int} (h : spE n s m f = 0) {i : Nat} (_hi : i < m + 1) : 0 ≤ spF n s m f i ∧ spF n s m f i < n := by
  obtain ⟨k1, k2, k3, k4, k5, k6⟩ := spE_zero h
  unfold spF
  by_cases e : i < m
  · rw [if_pos e]; exact k5 i e
  · rw [if_neg e]
    have : lst n.toNat s.toNat (sm n.toNat (fun i => (f i).toNat) m) < n.toNat := lst_lt (by omega) _ _
    omega
theorem sp_join {n s : Int} {m : Nat} {f : Nat → Int} (h : spE n s m f = 0) : joE n (m + 1) (spF n s m f) = 0 ∧ joN n (m + 1) (spF n s m f) = s := by
  obtain ⟨k1, k2, k3, k4, k5, k6⟩ := spE_zero h
  have hE : joE n (m + 1) (spF n s m f) = 0 := joE_ok k1 k2 (fun i hi => sp_in h hi) (by omega) (by omega)
  refine ⟨hE, ?_⟩
  unfold joN
  rw [hE, if_pos rfl]
  have h1 : sm n.toNat (fun i => (spF n s m f i).toNat) (m + 1) = s.toNat := by
    show (sm n.toNat (fun i => (spF n s m f i).toNat) m + (spF n s m f m).toNat) % n.toNat = _
    rw [sm_ext (u := fun i => (f i).toNat) (fun i hi => by unfold spF; rw [if_pos hi])]
    unfold spF
    rw [if_neg (by omega), Int.toNat_natCast]
    exact add_lst (by omega) (sm_lt (by omega) _ _)
  rw [h1]
  omega
/-- One share changed: what is joined. -/
theorem sp_changed {n s : Int} {m : Nat} {f : Nat → Int} (h : spE n s m f = 0) {o : Nat} (ho : o < m + 1) : ∃ c, c < n.toNat ∧ ∀ x : Nat, x < n.toNat → joE n (m + 1) (fun i => if i = o then (x : Int) else spF n s m f i) = 0 ∧ joN n (m + 1) (fun i => if i = o then (x : Int) else spF n s m f i) = (((c + x) % n.toNat : Nat) : Int) := by
  obtain ⟨k1, k2, k3, k4, k5, k6⟩ := spE_zero h
  obtain ⟨c, hc, hx⟩ := sm_upd (N := n.toNat) (by omega) (fun i => (spF n s m f i).toNat) o (m + 1) ho
  refine ⟨c, hc, fun x hxn => ?_⟩
  have hE : joE n (m + 1) (fun i => if i = o then (x : Int) else spF n s m f i) = 0 := joE_ok k1 k2 (fun i hi => by
    by_cases e : i = o
    · rw [if_pos e]; omega
    · rw [if_neg e]; exact sp_in h hi) (by omega) (by omega)
  refine ⟨hE, ?_⟩
  unfold joN
  rw [hE, if_pos rfl, ← hx x]
  congr 1
  refine sm_ext fun i _ => ?_
  show (if i = o then (x : Int) else spF n s m f i).toNat = if i = o then x else (spF n s m f i).toNat
  by_cases e : i = o
  · rw [if_pos e, if_pos e, Int.toNat_natCast]
  · rw [if_neg e, if_neg e]
/-- How often each secret was told by the first x signs. -/
def cntF (N c x : Nat) : Nat → Int := fun s => if lst N s c < x then 1 else 0
theorem cntF_zero (N c n : Nat) : ints n (fun _ => 0) = ints n (cntF N c 0) := ints_ext fun i _ => by unfold cntF; rw [if_neg (by omega)]
theorem lst_of {N c x : Nat} (hc : c < N) (hx : x < N) : lst N ((c + x) % N) c = x := by
  rw [Nat.add_comm]
  exact lst_add hx hc
theorem cntF_here {N c x : Nat} (hc : c < N) (hx : x < N) : cntF N c x ((c + x) % N) = 0 := by
  unfold cntF
  rw [lst_of hc hx, if_neg (by omega)]
theorem cntF_next {N c x : Nat} (hc : c < N) (hx : x < N) : ints N (upd (cntF N c x) ((c + x) % N) 1) = ints N (cntF N c (x + 1)) := ints_ext fun i hi => by
  unfold upd
  by_cases e : i = (c + x) % N
  · rw [if_pos e, e]
    unfold cntF
    rw [lst_of hc hx, if_pos (by omega)]
  · rw [if_neg e]
    unfold cntF
    have h1 : lst N i c ≠ x := fun h2 => e (by rw [← h2, add_lst hi hc])
    by_cases h2 : lst N i c < x
    · rw [if_pos h2, if_pos (by omega)]
    · rw [if_neg h2, if_neg (by omega)]
theorem cntF_all {N c : Nat} (h : 0 < N) (i : Nat) : cntF N c N i = 1 := by
  unfold cntF
  rw [if_pos (lst_lt h _ _)]
/-- A list that the call owns, one of its numbers changed. -/
theorem own_change {W : World} {B : Nat} {v : Value} {L : List Nat} {M n : Nat} (hM : L.length = M) (hM0 : 0 < M) (hM1 : M ≤ maxLen) (hn : n = M) (h : W.ownsRow B 3 1 v n ([] ++ nnums L)) : ∃ g cap, v = .slice (some ⟨g, 0, none⟩) M cap ∧ B ≤ g ∧ g < W.heap.size ∧ (∀ i, i < M → W.cell? ⟨g, i, none⟩ = some (.int .i64 ((L.getD i 0 : Nat) : Int)) ∧ W.frozen? ⟨g, i, none⟩ = false) ∧
    ∀ o x, NumsAt (W.setCell ⟨g, o, none⟩ (.int .i64 x)) v M (fun i => if i = o then x else ((L.getD i 0 : Nat) : Int)) := by
  subst hn
  rcases h.2 with ⟨_, h0⟩ | ⟨g, cap, cur, rfl, hB, hg, hnc, hcm, hcs, htake⟩
  · omega
  have hrow : RowAt W g 3 cur := hg
  have hcell : ∀ i, i < n → cur[i]? = some (.int .i64 ((L.getD i 0 : Nat) : Int)) := fun i hi => by
    have h1 : (cur.toList.take (n * 1))[i]? = cur[i]? := by rw [Nat.mul_one, List.getElem?_take_of_lt hi, Array.getElem?_toList]
    rw [← h1, htake]
    simp [nnums, List.getD, hM, hi]
  refine ⟨g, cap, rfl, hB, hrow.lt, fun i hi => ⟨hrow.cell (hcell i hi), hrow.frozen i⟩, fun o x => ⟨some ⟨g, 0, none⟩, cap, rfl, hM1, fun c hc => ⟨g, 0, rfl, ?_⟩⟩⟩
  rw [Nat.zero_add]
  refine (hrow.set o (.int .i64 x)).cell ?_
  rw [Array.getElem?_setIfInBounds]
  show _ = some (Value.int .i64 (if c = o then x else ((L.getD c 0 : Nat) : Int)))
  by_cases e : o = c
  · subst e
    rw [if_pos rfl, if_pos (by omega), if_pos rfl]
  · rw [if_neg e, hcell c hc, if_neg (fun e2 : c = o => e e2.symm)]
set_option maxRecDepth 100000 in
set_option maxHeartbeats 8000000 in
theorem padshares_of (n s out : Int) (vc : Value) (nc : Nat) (fc : Nat → Int) (w : World) (hc : Ans w vc nc fc) : Calls Try.prog 7 #[.int .i64 n, .int .i64 s, vc, .int .i64 out] w fun e w' => e = .returned (.bool true) ∧ Below w.heap.size w w' := by
  have HAL := (show Hid (∀ W, Calls Try.prog 21 #[] W fun e w' => e = .returned (.bool true) ∧ Below W.heap.size W w') from alive14)
  have H1 := (show Hid (∀ W, Below w.heap.size w W → Calls Try.prog 17 #[.int .i64 n, .int .i64 s, vc] W fun e w' => ∃ v', e = .returned (.tuple #[v', .int .i64 (spE n s nc fc)]) ∧ Ans w' v' (rl (spE n s nc fc) (nc + 1)) (spF n s nc fc) ∧ (spE n s nc fc = 0 → ∃ b, v' = .slice (some b) (nc + 1) (nc + 1)) ∧ Below W.heap.size W w') from fun W hb => psp_any n s vc nc fc W (hc.2.below hb))
  have H2 := (show Hid (spE n s nc fc = 0 → ∀ W v, Ans W v (nc + 1) (spF n s nc fc) → Calls Try.prog 19 #[.int .i64 n, v] W fun e w' => e = .returned (.tuple #[.int .i64 s, .int .i64 0]) ∧ Below W.heap.size W w') from fun hE W v hv => by
    have h1 := pjo_any n v (nc + 1) _ W hv.2
    rw [(sp_join hE).1, (sp_join hE).2] at h1
    exact h1)
  have HZ := (show Hid (spE n s nc fc = 0 → _) from fun h => spE_zero h)
  have HCH := (show Hid (spE n s nc fc = 0 → ∀ o, o < nc + 1 → ∃ c, c < n.toNat ∧ ∀ x : Nat, x < n.toNat → ∀ W v, NumsAt W v (nc + 1) (fun i => if i = o then (x : Int) else spF n s nc fc i) → Calls Try.prog 19 #[.int .i64 n, v] W fun e w' => e = .returned (.tuple #[.int .i64 (((c + x) % n.toNat : Nat) : Int), .int .i64 0]) ∧ Below W.heap.size W w') from fun hE o ho => by
    obtain ⟨c, hc, hx⟩ := sp_changed hE ho
    refine ⟨c, hc, fun x hxn W v hv => ?_⟩
    have h1 := pjo_any n v (nc + 1) _ W hv
    rw [(hx x hxn).1, (hx x hxn).2] at h1
    exact h1)
  have HIN := (show Hid (spE n s nc fc = 0 → ∀ i, i < nc + 1 → 0 ≤ spF n s nc fc i ∧ spF n s nc fc i < n) from fun hE i hi => sp_in hE hi)
  obtain ⟨i0, hi0, hz0', hz1, hz2⟩ := y_info_parts g_info_int
  obtain ⟨⟨ac, cc, rfl, _⟩, _, _, e, hmc, _⟩ := hc
  cases e
  unfold maxLen at hmc
  generalize spF n s nc fc = F at *
  generalize spE n s nc fc = E at *
  by_cases hE : E = 0
  case neg =>
    have hd1 : (E != 0) = true := by simp [hE]
    clear hE H2 HZ HCH HIN
    go_enter Try.func7, Try.ntmps7
    go_wp2_with fail
    refine (HAL.out _).mono ?_
    rintro e W1 ⟨rfl, hb1⟩
    have HB1 := (show Hid (Below w.heap.size w W1) from hb1)
    clear hb1 HAL
    go_wp2_with fail
    refine (H1.out _ HB1.out).mono ?_
    rintro e W2 ⟨v2, rfl, ⟨⟨a2, c2, rfl, _⟩, _⟩, _, hb2⟩
    have HB2 := (show Hid (Below w.heap.size w W2) from HB1.out.trans (hb2.mono HB1.out.size))
    clear hb2 H1 HB1
    go_wp2
    go_ret
    exact ⟨rfl, HB2.out⟩
  subst hE
  obtain ⟨k1, k2, k3, k4, _, k6⟩ := HZ.out rfl
  have HJ := (show Hid _ from H2.out rfl)
  have HC := (show Hid _ from HCH.out rfl)
  have HI := (show Hid _ from HIN.out rfl)
  clear HZ H2 HCH HIN
  obtain ⟨N, rfl⟩ : ∃ N : Nat, n = (N : Int) := ⟨n.toNat, by omega⟩
  have hN1 : 2 ≤ N := by omega
  have hN2 : N ≤ 64 := by omega
  have hmk := run_make_row' (P := Try.prog) 22 3 (.int .i64 0) 8 Try.underlying22 g_info_int rfl .i64 .i64 N (by omega) (by omega)
  rw [made_tabT] at hmk
  have HMK := (show Hid _ from hmk)
  clear hmk k1 k2
  have hss : (s != s) = false := by simp
  have hll : ((nc : Int) + 1 != (nc : Int) + 1) = false := by simp
  go_enter Try.func7, Try.ntmps7
  go_wp2_with fail
  refine (HAL.out _).mono ?_
  rintro e W1 ⟨rfl, hb1⟩
  have HB1 := (show Hid (Below w.heap.size w W1) from hb1)
  clear hb1 HAL
  go_wp2_with fail
  refine (H1.out _ HB1.out).mono ?_
  rintro e W2 ⟨v2, rfl, ha2, hf2, hb2⟩
  have HB2 := (show Hid (Below w.heap.size w W2) from HB1.out.trans (hb2.mono HB1.out.size))
  rw [rl_zero] at ha2
  obtain ⟨ad, rfl⟩ := hf2 (by first | rfl | trivial)
  have HA2 : Hid (Ans W2 (.slice (some ad) (nc + 1) (nc + 1)) (nc + 1) F) := ha2
  clear hb2 H1 HB1 ha2 hf2
  go_wp2_with fail
  refine (HJ.out _ _ HA2.out).mono ?_
  rintro e W3 ⟨rfl, hb3⟩
  have HA3 : Hid (Ans W3 (.slice (some ad) (nc + 1) (nc + 1)) (nc + 1) F) := Ans.below HA2.out hb3
  have HB3 := (show Hid (Below w.heap.size w W3) from HB2.out.trans (hb3.mono HB2.out.size))
  clear hb3 HJ HB2 HA2
  by_cases ho1 : out < 0
  · clear HA3 HC HI
    go_wp2
    go_ret
    exact ⟨rfl, HB3.out⟩
  by_cases ho2 : (nc : Int) + 1 ≤ out
  · clear HA3 HC HI
    go_wp2
    go_ret
    exact ⟨rfl, HB3.out⟩
  obtain ⟨o, rfl⟩ : ∃ o : Nat, out = (o : Int) := ⟨out.toNat, by omega⟩
  have ho : o < nc + 1 := by omega
  obtain ⟨c, hcN, hjo⟩ := HC.out o ho
  rw [Int.toNat_natCast] at hcN
  have HJO := (show Hid (∀ x : Nat, x < N → ∀ W v, NumsAt W v (nc + 1) (fun i => if i = o then (x : Int) else F i) → Calls Try.prog 19 #[.int .i64 (N : Int), v] W fun e w' => e = .returned (.tuple #[.int .i64 (((c + x) % N : Nat) : Int), .int .i64 0]) ∧ Below W.heap.size W w') from fun x hx W v hv => by
    have h1 := hjo x (by rw [Int.toNat_natCast]; exact hx) W v hv
    rw [Int.toNat_natCast] at h1
    exact h1)
  clear hjo HC
  obtain ⟨L, hL⟩ : ∃ L : List Nat, L = ups (fun i => (F i).toNat) (nc + 1) := ⟨_, rfl⟩
  have HLN : Hid (L.length = nc + 1) := by rw [hL]; exact ups_len _ _
  have HLG : Hid (∀ i, i < nc + 1 → ((L.getD i 0 : Nat) : Int) = F i) := fun i hi => by
    rw [hL, ups_get _ hi]
    have := HI.out i hi
    omega
  have HNW : Hid (∀ W, Below W3.heap.size W3 W → ∀ j u, (nnums L)[j]? = some u → W.cell? (ad.add j) = some u) := fun W hb j u hj => by
    have hjm : j < nc + 1 := by
      have := (List.getElem?_eq_some_iff.1 hj).1
      rw [nnums_length, HLN.out] at this
      exact this
    obtain ⟨_, _, e, _, hc⟩ := HA3.out.2
    cases e
    obtain ⟨b, o', he, hcell⟩ := hc j hjm
    cases he
    have e1 : u = .int .i64 (F j) := by
      have h1 := nnums_ups (fun i => (F i).toNat) hjm
      rw [← hL, hj] at h1
      injection h1 with h1
      rw [h1]
      have := HI.out j hjm
      have h2 : (((F j).toNat : Nat) : Int) = F j := by omega
      exact congrArg _ h2
    have e2 : ((⟨b, o', none⟩ : Addr).add j) = ⟨b, o' + j, none⟩ := by
      unfold Addr.add; by_cases e0 : j = 0 <;> simp [e0]
    rw [e1, e2]
    exact (hb.cell (p := ⟨b, o' + j, none⟩) (cell_block hcell)).trans hcell
  have hoi : (o : Int) < (nc : Int) + 1 := by omega
  clear hL HI HA3 ho1 ho2
  have hmk := HMK.out
  clear HMK
  go_upto_region 12 with fail
  have hr6 : RowAt (W3.alloc (.cells (tab N fun _ => .int .i64 0) 3)) W3.heap.size 3 (ints N (cntF N c 0)) := by
    rw [← cntF_zero]
    exact RowAt.new W3 _ _
  have hb6 := (Below.refl W3.heap.size W3).alloc (Nat.le_refl _) (.cells (tab N fun _ => .int .i64 0) 3)
  generalize W3.alloc (.cells (tab N fun _ => .int .i64 0) 3) = W4 at *
  have hg3 : W3.heap.size ≤ W3.heap.size := Nat.le_refl _
  obtain ⟨g, hg⟩ : ∃ g, g = W3.heap.size := ⟨_, rfl⟩
  rw [← hg] at hr6 ⊢
  have HG : Hid (W3.heap.size ≤ g) := by rw [hg]; exact Nat.le_refl _
  clear hmk hg hg3
  go_wp2_with fail
  go_loopw [13] (fun y W => ∃ x : Nat, x ≤ N ∧ y = .int .i64 (x : Nat) ∧ RowAt W g 3 (ints N (cntF N c x)) ∧ Below W3.heap.size W3 W) (fun y _ => ((N : Int) - intOf y).toNat)
  case atStart => exact ⟨0, by omega, rfl, hr6, hb6⟩
  case round =>
    clear hr6 hb6
    obtain ⟨x, hx, rfl, hro, hbe⟩ := hrel
    by_cases hlt : x < N
    case neg =>
      obtain rfl : x = N := by omega
      have hnn : ¬ ((x : Nat) : Int) < ((x : Nat) : Int) := by omega
      have HBE := (show Hid (Below w.heap.size w wr) from HB3.out.trans (hbe.mono HB3.out.size))
      have HRO := (show Hid (∀ i, i < x → wr.cell? ⟨g, i, none⟩ = some (.int .i64 1)) from fun i hi => by
        have := hro.cell (ints_get (cntF x c x) hi)
        rw [cntF_all (by omega)] at this
        exact this)
      clear hro hbe hlt HNW HJO HLN HLG
      go_wp2_with fail
      go_loopw [98] (fun y W => ∃ i : Nat, i ≤ x ∧ y = .int .i64 (i : Nat) ∧ wr = W) (fun y _ => ((x : Int) - intOf y).toNat)
      case atStart => exact ⟨0, by omega, rfl, rfl⟩
      case round =>
        obtain ⟨i, hi, rfl, rfl⟩ := hrel
        by_cases hlt : i < x
        · have HLT : Hid (i < x) := hlt
          have hlt2 : (i : Int) < (x : Int) := by omega
          have hcell := HRO.out i hlt
          clear hlt
          go_wp2
          go_roundw
          case rel => exact ⟨i + 1, HLT.out, by go_num, trivial⟩
          case measure => have := HLT.out; simp [intOf]; omega
        · obtain rfl : i = x := by omega
          have hnn : ¬ ((i : Nat) : Int) < ((i : Nat) : Int) := by omega
          clear hlt
          go_wp2
          go_ret
          exact ⟨rfl, HBE.out⟩
    have HLT : Hid (x < N) := hlt
    have hlt2 : (x : Int) < (N : Int) := by omega
    have hgl := hro.lt
    have hoe : (wr.alloc (.cells #[] 3)).ownsRow wr.heap.size 3 1 (.slice (some ⟨wr.heap.size, 0, none⟩) 0 0) 0 [] := own_empty wr wr.heap.size (Nat.le_refl _)
    have hbr := (Below.refl wr.heap.size wr).alloc (Nat.le_refl _) (.cells #[] 3)
    have hz1' := hbr.size
    have hnew := HNW.out _ (hbe.trans (hbr.mono hbe.size))
    go_upto_region 16 with (first
      | (at_builtin; refine wpList_append_own _ rfl _ _ 22 rfl wr.heap.size 3 i0 (.int .i64 0) 1 8 Try.underlying22 hi0 hz0' hz1 hz2 rfl (by decide) _ _ _ rfl hoe ad (nc + 1) (nc + 1) (nnums L) rfl (by rw [nnums_length, HLN.out, Nat.mul_one]) hnew (nnums_one L) (by unfold maxLen; omega) (by omega) hz1' ?_; intro v1 w1 hown1 hgrow1 _))
    have hb1 := hbr.grown hgrow1 hz1' (fun j hj => (World.ownsRow.lt hoe j hj).1)
    obtain ⟨g1, cap1, rfl, hg1, hg1l, hcells, hnums⟩ := own_change HLN.out (by omega) (by unfold maxLen; omega) (by omega) hown1
    have hc1 := (hcells o ho).1
    have hc2 := (hcells o ho).2
    have HNX : Hid (NumsAt (w1.setCell ⟨g1, o, none⟩ (.int .i64 (x : Int))) (.slice (some ⟨g1, 0, none⟩) (nc + 1) cap1) (nc + 1) (fun i => if i = o then (x : Int) else F i)) := nums_ext (hnums o (x : Int)) fun i hi => by
      show (if i = o then (x : Int) else ((L.getD i 0 : Nat) : Int)) = if i = o then (x : Int) else F i
      rw [HLG.out i hi]
    have HRO := (show Hid (RowAt (w1.setCell ⟨g1, o, none⟩ (.int .i64 (x : Int))) g 3 (ints N (cntF N c x))) from (hro.below hb1 hgl).setOther ⟨g1, o, none⟩ _ (by show g ≠ g1; omega))
    have HBE := (show Hid (Below W3.heap.size W3 (w1.setCell ⟨g1, o, none⟩ (.int .i64 (x : Int)))) from (hbe.trans (hb1.mono hbe.size)).setCell (p := ⟨g1, o, none⟩) (by have := hbe.size; show W3.heap.size ≤ g1; omega) _)
    clear hoe hbr hz1' hnew hgrow1 hown1 hcells hnums hro hbe hb1 hgl
    go_wp2_with fail
    refine (HJO.out x hlt _ _ HNX.out).mono ?_
    rintro e W5 ⟨rfl, hb5⟩
    have hro5 := RowAt.below HRO.out hb5 (RowAt.lt HRO.out)
    have hbe5 := HBE.out.trans (hb5.mono HBE.out.size)
    have hq : (c + x) % N < N := Nat.mod_lt _ (by omega)
    have hcell := hro5.cell (ints_get (cntF N c x) hq)
    rw [cntF_here hcN hlt] at hcell
    have hfz := hro5.frozen ((c + x) % N)
    have HN : Hid (RowAt (W5.setCell ⟨g, (c + x) % N, none⟩ (.int .i64 1)) g 3 (ints N (cntF N c (x + 1))) ∧ Below W3.heap.size W3 (W5.setCell ⟨g, (c + x) % N, none⟩ (.int .i64 1))) := by
      refine ⟨?_, hbe5.setCell (p := ⟨g, (c + x) % N, none⟩) HG.out _⟩
      have h1 := hro5.set ((c + x) % N) (.int .i64 1)
      rw [ints_set, cntF_next hcN hlt] at h1
      exact h1
    clear hro5 hbe5 hb5 HRO HBE HNX hlt hc1 hc2
    generalize (c + x) % N = q at *
    have hq1 : ¬ (q : Int) < 0 := by omega
    have hq2 : ¬ (N : Int) ≤ (q : Int) := by omega
    go_wp2
    go_roundw
    case rel => exact ⟨x + 1, HLT.out, by go_num, HN.out.1, HN.out.2⟩
    case measure => have := HLT.out; simp [intOf]; omega
end Go.Proofs.Ytccdbghhjcdcfaa
