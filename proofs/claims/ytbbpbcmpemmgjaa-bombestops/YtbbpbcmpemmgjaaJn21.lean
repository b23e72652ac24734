/-
  Several texts, joined: RoWg, ORSt, ORNo, ORWt, OMa, LOUnd, OPlug.
-/
import Derived.Test.YtbbpbcmpemmgjaaJn20
import Derived.Test.YtbbpbcmpemmgjaaORWr
/-
  Contracts of rotor.wheelWrong, pairsWrong and Wrong.
-/
namespace Go.Proofs.Ytbbpbcmpemmgjaa
open Go.RowKit PK Vg

def wwE (u : Nat → Int) (n : Nat) (f : Nat → Int) : Int := if Pm.wrong u ≠ 0 then Pm.wrong u else if ins n f = true then 0 else 3
set_option maxRecDepth 100000 in
set_option maxHeartbeats 1000000 in
theorem ww_any (u : Nat → Int) (v : Value) (n : Nat) (f : Nat → Int) (w : World) (hv : NumsAt w v n f) : Calls Try.prog 86 #[.agg (whl u v)] w fun e w' => e = .returned (.int .i64 (wwE u n f)) ∧ Below w.heap.size w w' := by
  obtain ⟨E, hE⟩ : ∃ E, E = wwE u n f := ⟨_, rfl⟩
  rw [← hE]
  have hr := RowAt.new w 62 (whl u v)
  have hbe : Below w.heap.size w (w.alloc (.cells (whl u v) 62)) := (Below.refl _ w).alloc (Nat.le_refl _) _
  have HV := (show Hid (NumsAt w v n f) from hv)
  have hmid := mid_wi hr
  clear hv
  go_enter Try.func86, Try.ntmps86
  go_wp2_with (first | refine wpList_load_arr rfl 25 _ rfl w.heap.size 0 rfl (ints 26 u) _ hmid Try.underlying25 rfl (by rw [ints_size]; exact info_perm) ?_)
  refine (wrong_any u _).mono ?_
  rintro e V ⟨rfl, hb⟩
  have hr2 := hr.below hb hr.lt
  have hl := hr2.cell (whl_last u v)
  have hbe2 := hbe.trans (hb.mono hbe.size)
  clear hb hr hbe hmid hr2
  by_cases hz : Pm.wrong u = 0
  · have HE : Hid (E = if ins n f = true then 0 else 3) := by rw [Hid, hE]; unfold wwE; rw [if_neg (fun h => h hz)]
    rw [hz]
    have HIN := (show Hid _ from areLetters_any v n f V (HV.out.below (hbe2)))
    generalize ins n f = B at *
    clear hz HV hE
    go_wp2_with fail
    refine Calls.mono HIN.out ?_
    rintro e V3 ⟨rfl, rfl⟩
    cases B with
    | true =>
      go_wp2
      go_ret
      exact ⟨by rw [HE.out]; rfl, hbe2⟩
    | false =>
      go_wp2
      go_ret
      exact ⟨by rw [HE.out]; rfl, hbe2⟩
  · have hz2 : (Pm.wrong u != 0) = true := by simpa using hz
    have HE : Hid (E = Pm.wrong u) := by rw [Hid, hE]; unfold wwE; rw [if_pos hz]
    clear hz HV hE
    go_wp2
    go_ret
    exact ⟨by rw [HE.out]; rfl, hbe2⟩
set_option maxRecDepth 100000 in
set_option maxHeartbeats 2000000 in
theorem pw_any (f : Nat → Int) (al : Bool) (w : World) : Calls Try.prog 88 #[.agg (ints 26 f), .bool al] w fun e w' => e = .returned (.int .i64 (tl (!al) f 0)) ∧ Below w.heap.size w w' := by
  obtain ⟨E, hE⟩ : ∃ E, E = tl (!al) f 0 := ⟨_, rfl⟩
  rw [← hE]
  have HE : Hid (E = tl (!al) f 0) := hE
  clear hE
  have hr := RowAt.new w 25 (ints 26 f)
  have hbe : Below w.heap.size w (w.alloc (.cells (ints 26 f) 25)) := (Below.refl _ w).alloc (Nat.le_refl _) _
  go_enter Try.func88, Try.ntmps88
  go_wp2_with (first | refine wpList_load_row rfl 25 _ rfl w.heap.size rfl 25 (ints 26 f) (0, 0) _ hr Try.underlying25 rfl (by rw [ints_size]; exact info_perm) ?_)
  refine (wrong_any f _).mono ?_
  rintro e V2 ⟨rfl, hb⟩
  have hr5 := hr.below hb hr.lt
  have hbe2 := hbe.trans (hb.mono hbe.size)
  clear hb hr hbe
  by_cases hwz : Pm.wrong f = 0
  · obtain ⟨pp, hpp, epp⟩ := (Pm.wrong_zero f).1 hwz
    have HEP : Hid (∀ i, i < 26 → f i = (pp i : Int)) := epp
    have HV2 : Hid (E = if undo (!al) f = false then 1 else 0) := by rw [Hid, HE.out]; unfold tl; rw [if_neg (fun h => h hwz)]
    have HUB := (show Hid (∀ i, i < 26 → (pp (pp i) ≠ i ∨ ((!al) = true ∧ pp i = i)) → undo (!al) f = false) from fun i hi h => undo_bad hpp epp hi h)
    have HUT := (show Hid ((∀ i, i < 26 → pp (pp i) = i ∧ ((!al) = true → pp i ≠ i)) → undo (!al) f = true) from (undo_perm hpp epp).2)
    have HLT := (show Hid (∀ i, i < 26 → pp i < 26) from hpp.lt)
    rw [hwz]
    clear hwz epp hpp HE
    go_wp2_with (first | refine wpList_load_row rfl 25 _ rfl w.heap.size rfl 25 (ints 26 f) (0, 0) _ hr5 Try.underlying25 rfl (by rw [ints_size]; exact info_perm) ?_)
    go_loopw [14] (fun i W => ∃ m : Nat, m ≤ 26 ∧ i = .int .i64 (m : Nat) ∧ Hid (∀ j, j < m → pp (pp j) = j ∧ ((!al) = true → pp j ≠ j)) ∧ V2 = W) (fun i _ => ((26 : Int) - intOf i).toNat)
    case atStart => exact ⟨0, by omega, rfl, fun j hj => by omega, rfl⟩
    case round =>
      obtain ⟨m, hm26, rfl, HS, rfl⟩ := hrel
      by_cases hlt : m < 26
      · have h1 := HLT.out m hlt
        have HL : Hid (m < 26) := hlt
        have hgx := run_index_ints 25 3 26 Try.underlying25 Try.underlying3 info_int f m hlt
        have c2 := hr5.cell (ints_get f h1)
        rw [HEP.out m hlt] at hgx
        rw [HEP.out _ h1] at c2
        have HB1 := (show Hid _ from HUB.out m hlt)
        have HNX := (show Hid (pp (pp m) = m → ((!al) = true → pp m ≠ m) → ∀ j, j < m + 1 → pp (pp j) = j ∧ ((!al) = true → pp j ≠ j)) from fun h1 h2 j hj => by
          by_cases e : j = m
          · rw [e]; exact ⟨h1, h2⟩
          · exact HS.out j (by omega))
        generalize pp (pp m) = P2 at *
        generalize pp m = P1 at *
        clear HS
        by_cases hp2 : P2 = m
        · have hp3 : ((P2 : Int) != (m : Int)) = false := by simp [hp2]
          by_cases hp1 : P1 = m
          · have hp4 : ((P1 : Int) == (m : Int)) = true := by simp [hp1]
            cases al with
            | false =>
              have HX : Hid (E = 1) := by rw [Hid, HV2.out, if_pos (HB1.out (.inr ⟨rfl, hp1⟩))]
              clear hp1 hp2
              go_wp2
              go_ret
              exact ⟨by rw [HX.out]; rfl, hbe2⟩
            | true =>
              have HN2 := (show Hid _ from HNX.out hp2 (fun h => by cases h))
              clear hp1 hp2
              go_wp2_with fail
              go_roundw
              case rel => exact ⟨m + 1, HL.out, by go_num, HN2.out, by first | rfl | trivial⟩
              case measure => have := HL.out; simp [intOf] <;> omega
          · have hp4 : ((P1 : Int) == (m : Int)) = false := beq_false_of_ne (by omega)
            have HN2 := (show Hid _ from HNX.out hp2 (fun _ => hp1))
            clear hp1 hp2
            go_wp2_with fail
            go_roundw
            case rel => exact ⟨m + 1, HL.out, by go_num, HN2.out, by first | rfl | trivial⟩
            case measure => have := HL.out; simp [intOf] <;> omega
        · have hp3 : ((P2 : Int) != (m : Int)) = true := by simp; omega
          have HX : Hid (E = 1) := by rw [Hid, HV2.out, if_pos (HB1.out (.inl hp2))]
          clear hp2
          go_wp2
          go_ret
          exact ⟨by rw [HX.out]; rfl, hbe2⟩
      · obtain rfl : m = 26 := by omega
        have HX : Hid (E = 0) := by rw [Hid, HV2.out, if_neg (by rw [HUT.out HS.out]; decide)]
        go_wp2
        go_ret
        exact ⟨by rw [HX.out]; rfl, hbe2⟩
  · have hwz2 : (Pm.wrong f != 0) = true := by simpa using hwz
    have HX : Hid (E = Pm.wrong f) := by rw [Hid, HE.out]; unfold tl; rw [if_pos hwz]
    clear hwz
    go_wp2
    go_ret
    exact ⟨by rw [HX.out]; rfl, hbe2⟩
theorem v_info_nums : (Try.prog.info? 23).map (·.size) = some 1 := by kernel_rfl
theorem run_index_two (x y : Value) (w : World) : (Instr.index 145 (.agg #[x, y]) (.int .i64 0)).run Try.prog w = .ok x w ∧ (Instr.index 145 (.agg #[x, y]) (.int .i64 1)).run Try.prog w = .ok y w := by
  cases hq : Try.prog.info? 23 with
  | none => have := v_info_nums; simp [hq] at this
  | some i =>
    have h1 : i.size = 1 := by have := v_info_nums; simpa [hq] using this
    constructor <;> simp [Instr.index, asIntOf, Sem.run_bind, run_underlying Try.underlying145, part, isAgg, run_underlying Try.underlying23, sizeOf, typeInfo, hq, h1]
theorem tl_zero (st : Bool) (f : Nat → Int) (r : Int) : tl st f r = if tl st f 0 ≠ 0 then tl st f 0 else r := by
  unfold tl
  by_cases h1 : Pm.wrong f ≠ 0
  · rw [if_pos h1, if_pos h1, if_pos h1]
  · rw [if_neg h1, if_neg h1]
    by_cases h2 : undo st f = false
    · rw [if_pos h2, if_pos h2, if_pos (by decide)]
    · rw [if_neg h2, if_neg h2, if_neg (by decide)]
theorem whE_ww {g : Gm} {k : Nat} (h0 : whE g k = 0) : whE g (k + 1) = wwE (g.wi k) (g.nl k) (g.no k) := by
  show (if whE g k ≠ 0 then whE g k else _) = _
  rw [if_neg (fun e => e h0)]
  rfl
set_option maxRecDepth 100000 in
set_option maxHeartbeats 2000000 in
theorem gw_any (v : Value) (g : Gm) (w : World) (hv : MacAt w v g) : Calls Try.prog 62 #[v] w fun e w' => e = .returned (.int .i64 (gE g)) ∧ Below w.heap.size w w' := by
  obtain ⟨a, b, c, rfl, hw, hri, hst⟩ := hv
  have h0 := MgAt.new w a b c g.rf g.pl
  obtain ⟨E, hE⟩ : ∃ E, E = gE g := ⟨_, rfl⟩
  rw [← hE]
  have HE : Hid (E = gE g) := hE
  clear hE
  obtain ⟨ad, cap, R, rfl, hm, hr, hn⟩ := hw
  have hc0 := h0.c0
  have HWH := (show Hid (∀ r, r < g.n → ∃ b o, ad = some ⟨b, o, none⟩ ∧ w.rangeAt b (o + r * 27) (whl (g.wi r) (R r)).toList) from hr)
  have HNO := (show Hid (∀ r, r < g.n → NumsAt w (R r) (g.nl r) (g.no r)) from hn)
  obtain ⟨ar, cr, rfl, hmr, hcr⟩ := hri
  obtain ⟨az, cz, rfl, hms, hcs⟩ := hst
  have HRI := (show Hid (NumsAt w (.slice ar g.rl cr) g.rl g.ri) from ⟨ar, cr, rfl, hmr, hcr⟩)
  have HST := (show Hid (NumsAt w (.slice az g.sl cz) g.sl g.st) from ⟨az, cz, rfl, hms, hcs⟩)
  clear hr hn hcr hcs
  unfold maxLen at hm hmr hms
  go_enter Try.func62, Try.ntmps62
  by_cases hmany : g.n < 1 ∨ 4 < g.n
  · have HX : Hid (E = 5) := by rw [Hid, HE.out, gE_1 hmany]
    have hbe := h0.below
    by_cases hz : g.n < 1
    · have hz2 : (g.n : Int) < 1 := by omega
      go_wp2
      go_ret
      exact ⟨by rw [HX.out]; rfl, hbe⟩
    · have hz2 : ¬ (g.n : Int) < 1 := by omega
      have hz3 : 4 < (g.n : Int) := by omega
      go_wp2
      go_ret
      exact ⟨by rw [HX.out]; rfl, hbe⟩
  · have hz2 : ¬ (g.n : Int) < 1 := by omega
    have hz3 : ¬ 4 < (g.n : Int) := by omega
    have hn4 : g.n ≤ 4 := by omega
    have HMN : Hid (¬ (g.n < 1 ∨ 4 < g.n)) := hmany
    clear hmany
    go_wp2_with fail
    go_loopw [22] (fun i W => ∃ k : Nat, k ≤ g.n ∧ i = .int .i64 (k : Nat) ∧ Hid (whE g k = 0) ∧ MgAt w W (.slice ad g.n cap) (.slice ar g.rl cr) (.slice az g.sl cz) g.rf g.pl) (fun i _ => ((g.n : Int) - intOf i).toNat)
    case atStart => exact ⟨0, by omega, rfl, rfl, h0⟩
    case round =>
      clear h0 hc0
      obtain ⟨k, hk, rfl, HK, hg⟩ := hrel
      by_cases hlt : k < g.n
      · obtain ⟨bw, ow, rfl, hrg⟩ := HWH.out k hlt
        have hrg2 := rangeAt_below hrg hg.below
        have hnk := (HNO.out k hlt).below hg.below
        have HLT : Hid (k < g.n) := hlt
        have hz27 := o_zero v_zero_whl
        have HONE : Hid ((R k).oneCell' = true) := by obtain ⟨a', c', e', _⟩ := hnk; rw [Hid, e']; rfl
        go_upto_region 6 with (first | refine wpList_load_arr rfl 62 _ rfl bw (ow + k * 27) rfl (whl (g.wi k) (R k)) _ hrg2 Try.underlying62 rfl (by rw [whl_size]; exact v_info_whl) ?_ | refine wpList_store_row rfl 62 _ _ rfl wr.heap.size (whl (g.wi k) (R k)) rfl rfl 62 _ (RowAt.new wr _ _) (by rw [whl_size]; exact v_info_whl) (by simp only [whl_size]) (whl_one HONE.out) ?_)
        have hg2 := (hg.alloc (.cells (whl (fun _ => 0) (.slice none 0 0)) 62)).setRow wr.heap.size hg.lt (whl (g.wi k) (R k))
        have hr4 := (RowAt.new wr 62 (whl (fun _ => 0) (.slice none 0 0))).row (whl (g.wi k) (R k))
        generalize (wr.alloc (.cells (whl (fun _ => 0) (.slice none 0 0)) 62)).setRow wr.heap.size (whl (g.wi k) (R k)) = V at *
        obtain ⟨q, hq⟩ : ∃ q, q = wr.heap.size := ⟨_, rfl⟩
        rw [← hq] at hr4 ⊢
        clear hq hrg hrg2 hnk hz27 HONE hg
        have HWW := (show Hid _ from ww_any (g.wi k) (R k) (g.nl k) (g.no k) V ((HNO.out k hlt).below hg2.below))
        have HNX := (show Hid _ from whE_ww HK.out)
        generalize wwE (g.wi k) (g.nl k) (g.no k) = X at *
        go_wp2_with (first | refine wpList_load_row rfl 62 _ rfl q rfl 62 (whl (g.wi k) (R k)) (0, 0) _ hr4 Try.underlying62 rfl (by rw [whl_size]; exact v_info_whl) ?_)
        refine Calls.mono HWW.out ?_
        rintro e V2 ⟨rfl, hb⟩
        have hg3 := hg2.step hb
        clear hb hg2 hr4 HWW
        by_cases hwz : X = 0
        · subst hwz
          have HX : Hid (whE g (k + 1) = 0) := HNX.out
          clear HNX
          go_wp2_with fail
          go_roundw
          case rel => exact ⟨k + 1, HLT.out, by go_num, HX.out, hg3⟩
          case measure => have := HLT.out; simp [intOf] <;> omega
        · have hwz2 : (X != 0) = true := by simpa using hwz
          have HX : Hid (E = X) := by
            have e1 : whE g (k + 1) = X := HNX.out
            have e2 := whE_keep g (k + 1) (by rw [e1]; exact hwz) g.n HLT.out
            rw [Hid, HE.out, gE_2 HMN.out (by rw [e2, e1]; exact hwz), e2, e1]
          have hbe := hg3.below
          clear hwz
          go_wp2
          go_ret
          exact ⟨by rw [HX.out]; rfl, hbe⟩
      · obtain rfl : k = g.n := by omega
        have HX3 : Hid (E = gE3 g) := by rw [Hid, HE.out, gE_3 HMN.out HK.out]
        have hn4 : g.n ≤ 4 := by omega
        have hc1 := hg.c1
        have hc2 := hg.c2
        clear HE HK HWH HNO
        go_wp2_with fail
        go_loopw [37] (fun i W => ∃ k : Nat, k ≤ 2 ∧ i = .int .i64 (k : Nat) ∧ Hid (E = gE5 g k) ∧ MgAt w W (.slice ad g.n cap) (.slice ar g.rl cr) (.slice az g.sl cz) g.rf g.pl) (fun i _ => ((2 : Int) - intOf i).toNat)
        case atStart => exact ⟨0, by omega, rfl, HX3.out, hg⟩
        case round =>
          clear hg hc1 hc2
          obtain ⟨k, hk, rfl, HQ, hg⟩ := hrel
          have hk3 : k = 0 ∨ k = 1 ∨ k = 2 := by omega
          have hc0 := hg.c0
          rcases hk3 with rfl | rfl | rfl
          · have HV := (show Hid (E = nl g.n g.rl g.ri (gE5 g 1)) from HQ.out)
            have HLN := (show Hid (NumsAt wr (.slice ar g.rl cr) g.rl g.ri) from HRI.out.below hg.below)
            have hbe := hg.below
            have HG := (show Hid _ from hg)
            have hgx := fun W => (run_index_two (.slice ar g.rl cr) (.slice az g.sl cz) W).1
            clear hg
            by_cases hln : g.rl = g.n
            · have HV2 : Hid (E = if ins g.rl g.ri = false then 3 else gE5 g 1) := by rw [Hid, HV.out]; unfold nl; rw [if_neg (fun h => h hln)]
              have hln2 : ((g.rl : Int) != (g.n : Int)) = false := by rw [hln]; simp
              clear hln
              have HINS := (show Hid _ from areLetters_any _ _ _ _ HLN.out)
              generalize ins g.rl g.ri = B at *
              go_wp2_with fail
              refine Calls.mono HINS.out ?_
              rintro e V3 ⟨rfl, rfl⟩
              cases B with
              | false =>
                have HX : Hid (E = 3) := by rw [Hid, HV2.out, if_pos rfl]
                go_wp2
                go_ret
                exact ⟨by rw [HX.out]; rfl, hbe⟩
              | true =>
                have HX : Hid (E = gE5 g 1) := by rw [Hid, HV2.out, if_neg (by decide)]
                go_wp2_with fail
                go_roundw
                case rel => exact ⟨1, by omega, by go_num, HX.out, HG.out⟩
                case measure => simp [intOf]
            · have HX : Hid (E = 8) := by rw [Hid, HV.out]; unfold nl; rw [if_pos hln]
              have hln2 : ((g.rl : Int) != (g.n : Int)) = true := by simp; omega
              clear hln
              go_wp2
              go_ret
              exact ⟨by rw [HX.out]; rfl, hbe⟩
          · have HV := (show Hid (E = nl g.n g.sl g.st (gE5 g 2)) from HQ.out)
            have HLN := (show Hid (NumsAt wr (.slice az g.sl cz) g.sl g.st) from HST.out.below hg.below)
            have hbe := hg.below
            have HG := (show Hid _ from hg)
            have hgx := fun W => (run_index_two (.slice ar g.rl cr) (.slice az g.sl cz) W).2
            clear hg
            by_cases hln : g.sl = g.n
            · have HV2 : Hid (E = if ins g.sl g.st = false then 3 else gE5 g 2) := by rw [Hid, HV.out]; unfold nl; rw [if_neg (fun h => h hln)]
              have hln2 : ((g.sl : Int) != (g.n : Int)) = false := by rw [hln]; simp
              clear hln
              have HINS := (show Hid _ from areLetters_any _ _ _ _ HLN.out)
              generalize ins g.sl g.st = B at *
              go_wp2_with fail
              refine Calls.mono HINS.out ?_
              rintro e V3 ⟨rfl, rfl⟩
              cases B with
              | false =>
                have HX : Hid (E = 3) := by rw [Hid, HV2.out, if_pos rfl]
                go_wp2
                go_ret
                exact ⟨by rw [HX.out]; rfl, hbe⟩
              | true =>
                have HX : Hid (E = gE5 g 2) := by rw [Hid, HV2.out, if_neg (by decide)]
                go_wp2_with fail
                go_roundw
                case rel => exact ⟨2, by omega, by go_num, HX.out, HG.out⟩
                case measure => simp [intOf]
            · have HX : Hid (E = 8) := by rw [Hid, HV.out]; unfold nl; rw [if_pos hln]
              have hln2 : ((g.sl : Int) != (g.n : Int)) = true := by simp; omega
              clear hln
              go_wp2
              go_ret
              exact ⟨by rw [HX.out]; rfl, hbe⟩
          · have HV : Hid (E = tl true g.rf (tl false g.pl 0)) := HQ.out
            have HV2 : Hid (E = if tl true g.rf 0 ≠ 0 then tl true g.rf 0 else tl false g.pl 0) := by rw [Hid, HV.out, tl_zero]
            have hmid := mid_rf hg.row
            have HP1 := (show Hid (∀ W, Calls Try.prog 88 #[.agg (ints 26 g.rf), .bool false] W fun e w' => e = .returned (.int .i64 (tl true g.rf 0)) ∧ Below W.heap.size W w') from fun W => pw_any g.rf false W)
            have HP2 := (show Hid (∀ W, Calls Try.prog 88 #[.agg (ints 26 g.pl), .bool true] W fun e w' => e = .returned (.int .i64 (tl false g.pl 0)) ∧ Below W.heap.size W w') from fun W => pw_any g.pl true W)
            generalize tl true g.rf 0 = X at *
            generalize tl false g.pl 0 = Y at *
            clear HQ HV hc0
            go_wp2_with (first | refine wpList_load_arr rfl 25 _ rfl w.heap.size 3 rfl (ints 26 g.rf) _ hmid Try.underlying25 rfl (by rw [ints_size]; exact info_perm) ?_)
            refine (HP1.out _).mono ?_
            rintro e V2 ⟨rfl, hb⟩
            have hg3 := hg.step hb
            have hmid2 := mid_pl hg3.row
            clear hb hg hmid HP1
            by_cases hx : X = 0
            · subst hx
              have HX : Hid (E = Y) := by rw [Hid, HV2.out, if_neg (by decide)]
              go_wp2_with (first | refine wpList_load_arr rfl 25 _ rfl w.heap.size 29 rfl (ints 26 g.pl) _ hmid2 Try.underlying25 rfl (by rw [ints_size]; exact info_perm) ?_)
              refine (HP2.out _).mono ?_
              rintro e V4 ⟨rfl, hb⟩
              have hg4 := hg3.step hb
              have hbe := hg4.below
              clear hb hg3 hg4 hmid2
              go_wp2
              go_ret
              exact ⟨by rw [HX.out]; rfl, hbe⟩
            · have hx2 : (X != 0) = true := by simpa using hx
              have HX : Hid (E = X) := by rw [Hid, HV2.out, if_pos hx]
              have hbe := hg3.below
              clear hx hg3 hmid2
              go_wp2
              go_ret
              exact ⟨by rw [HX.out]; rfl, hbe⟩
end Go.Proofs.Ytbbpbcmpemmgjaa

/-
  Contract of the document's Stepped (chapter 8).
-/
namespace Go.Proofs.Ytbbpbcmpemmgjaa
open Go.RowKit PK

section
variable {P : Program} {ops : Array Oper} {Q : Exit → Act → World → Prop} {md : Region.Mode} {S : World → Prop}
end
theorem own_step {w w' : World} {B : Nat} {T : TypeId} {s n : Nat} {v : Value} {l : List Value} (h : w.ownsRow B T s v n l) (hb : Below w.heap.size w w') : w'.ownsRow B T s v n l := by
  obtain ⟨h1, h2⟩ := h
  refine ⟨h1, ?_⟩
  rcases h2 with h2 | ⟨g, cap, cur, e, hB, hg, h3⟩
  · exact .inl h2
  · exact .inr ⟨g, cap, cur, e, hB, (hb.block g (Array.getElem?_eq_some_iff.1 hg).1).trans hg, h3⟩
theorem own_drew {w : World} {B : Nat} {T : TypeId} {s n : Nat} {v : Value} {l : List Value} (h : w.ownsRow B T s v n l) : w.drew.ownsRow B T s v n l := h
end Go.Proofs.Ytbbpbcmpemmgjaa

/-
  Contract of the document's Now (chapter 8).
-/
namespace Go.Proofs.Ytbbpbcmpemmgjaa
open Go.RowKit PK

def three (f g h : Nat → Int) : Nat → Int := fun i => if i < 26 then f i else if i < 52 then g (i - 26) else h (i - 52)
section
variable {P : Program}
end
section
variable {w W W' : World} {a b c : Value} {rf pl : Nat → Int}
end
section
variable {w W W' : World} {a b c v : Value} {rf pl : Nat → Int} {m : Nat} {P : Nat → Nat → Nat}
end
theorem all_one78 {n : Nat} {f : Nat → Int} {u : Value} (h : u ∈ (ints n f).toList) : u.oneCell' = true := by
  have := ints_one n f
  rw [Array.all_eq_true_iff_forall_mem] at this
  exact this u (by simpa using h)
end Go.Proofs.Ytbbpbcmpemmgjaa

/-
  Contract of the document's Write (chapter 8).
-/
namespace Go.Proofs.Ytbbpbcmpemmgjaa
open Go.RowKit PK Vg

/-- The machine and the result's variable. -/
structure WtAt (w W : World) (a b c : Value) (rf pl : Nat → Int) : Prop where
  mg : MgAt w W a b c rf pl
  res : RowAt W (w.heap.size + 1) 46 #[.int .i64 0, .int .i64 0]
theorem WtAt.new (w : World) (a b c : Value) (rf pl : Nat → Int) : WtAt w ((w.alloc (.cells (mac a b c rf pl) 27)).alloc (.cells #[.int .i64 0, .int .i64 0] 46)) a b c rf pl := by
  have h := RowAt.new (w.alloc (.cells (mac a b c rf pl) 27)) 46 #[.int .i64 0, .int .i64 0]
  rw [World.size_alloc] at h
  exact ⟨(MgAt.new w a b c rf pl).alloc _, h⟩
section
variable {w W W' : World} {a b c : Value} {rf pl : Nat → Int}
theorem WtAt.step (h : WtAt w W a b c rf pl) (hb : Below W.heap.size W W') : WtAt w W' a b c rf pl := ⟨h.mg.step hb, h.res.below hb h.res.lt⟩
theorem WtAt.alloc (h : WtAt w W a b c rf pl) (o : Obj) : WtAt w (W.alloc o) a b c rf pl := h.step ((Below.refl _ _).alloc (Nat.le_refl _) o)
theorem WtAt.done (h : WtAt w W a b c rf pl) (x y : Value) : Below w.heap.size w ((W.setCell ⟨w.heap.size + 1, 0, none⟩ x).setCell ⟨w.heap.size + 1, 1, none⟩ y) := (h.mg.below.setCell (p := ⟨w.heap.size + 1, 0, none⟩) (by simp) _).setCell (p := ⟨w.heap.size + 1, 1, none⟩) (by simp) _
theorem WtAt.load (h : WtAt w W a b c rf pl) : W.heap[w.heap.size]? = some (.cells (mac a b c rf pl) 27 (0, 0)) := h.mg.row
end
theorem wr_snoc (M : Om.Ma) : ∀ (l : List UInt8) (at' : Nat → Nat) (x : UInt8), Om.wr M at' (l ++ [x]) = Om.wr M at' l ++ [ltr (Om.now M (Om.steps M at' (l.length + 1)) (num x))]
  | [], _, _ => rfl
  | a :: l, at', x => by
    show ltr _ :: Om.wr M (Om.step M at') (l ++ [x]) = ltr _ :: (Om.wr M (Om.step M at') l ++ _)
    rw [wr_snoc M l (Om.step M at') x, Om.steps_step]
    rfl
theorem wr_take {M : Om.Ma} {t : List UInt8} {k : Nat} (hk : k < t.length) (at' : Nat → Nat) : Om.wr M at' (t.take (k + 1)) = Om.wr M at' (t.take k) ++ [ltr (Om.now M (Om.steps M at' (k + 1)) (num (t.getD k 0)))] := by
  rw [List.take_succ_eq_append_getElem hk, wr_snoc, List.length_take, Nat.min_eq_left (by omega), getD_some hk]
theorem own_byte {w w' : World} {B : Nat} {v : Value} {l : List UInt8} (h : Kit.Owns w B 5 v l) (hb : Below w.heap.size w w') : Kit.Owns w' B 5 v l := own_step h hb
/-- What Write says. -/
def rwE (g : Gm) (t : List UInt8) : Int := if gE g ≠ 0 then gE g else ckE t
def rwAt (g : Gm) (t : List UInt8) : Int := if gE g ≠ 0 then 0 else ckAt t
end Go.Proofs.Ytbbpbcmpemmgjaa

/-
  The machine that a given one is.
-/
namespace Go.Proofs.Ytbbpbcmpemmgjaa
open Go.RowKit PK Vg

def maOf (g : Gm) : Om.Ma := ⟨g.n, fun r c => (g.wi r c).toNat, fun r => (List.range (g.nl r)).map fun k => (g.no r k).toNat, fun i => (g.ri i).toNat, fun i => (g.st i).toNat, fun c => (g.rf c).toNat, fun c => (g.pl c).toNat⟩
theorem perm_toNat {f : Nat → Int} (h : Pm.wrong f = 0) : Pm.IsPerm (fun c => (f c).toNat) ∧ ∀ i, i < 26 → f i = (((f i).toNat : Nat) : Int) := by
  obtain ⟨p, hp, e⟩ := (Pm.wrong_zero f).1 h
  have e2 : ∀ i, i < 26 → (f i).toNat = p i := fun i hi => by rw [e i hi]; rfl
  refine ⟨⟨fun i hi => by show (f i).toNat < 26; rw [e2 i hi]; exact hp.lt i hi, fun i j hi hj h => ?_⟩, fun i hi => by rw [e i hi]; rfl⟩
  have h' : (f i).toNat = (f j).toNat := h
  rw [e2 i hi, e2 j hj] at h'
  exact hp.inj i j hi hj h'
theorem ok_maOf {g : Gm} (h : gE g = 0) : Om.Ok (maOf g) ∧ ∀ W v, MacAt W v g → MacAt W v (gOf (maOf g)) := by
  obtain ⟨⟨h1, h2⟩, h3, ⟨h4, h5⟩, ⟨h6, h7⟩, ⟨h8, h9⟩, h10, h11⟩ := gE_zero h
  have hw := whE_zero g g.n h3
  rw [ins_iff] at h5 h7
  rw [undo_iff] at h9 h11
  obtain ⟨hrf, erf⟩ := perm_toNat h8
  obtain ⟨hpl, epl⟩ := perm_toNat h10
  have hwi : ∀ r, r < g.n → Pm.IsPerm (fun c => (g.wi r c).toNat) ∧ ∀ i, i < 26 → g.wi r i = (((g.wi r i).toNat : Nat) : Int) := fun r hr => perm_toNat (hw r hr).1
  have hno : ∀ r, r < g.n → ∀ k, k < g.nl r → 0 ≤ g.no r k ∧ g.no r k ≤ 25 := fun r hr => (ins_iff _ _).1 (hw r hr).2
  refine ⟨⟨h1, h2, fun i hi => (hwi i hi).1, fun i hi k hk => ?_, fun i hi => ?_, fun i hi => ?_, hrf, fun c hc => ?_, fun c hc => ?_, hpl, fun c hc => ?_⟩, ?_⟩
  · obtain ⟨q, hq, rfl⟩ := List.mem_map.1 hk
    have := hno i hi q (by simpa using hq)
    omega
  · have := h5 i (by rw [h4]; exact hi); show (g.ri i).toNat < 26; omega
  · have := h7 i (by rw [h6]; exact hi); show (g.st i).toNat < 26; omega
  · have := (h9 c hc).1
    show (g.rf (g.rf c).toNat).toNat = c
    omega
  · have := (h9 c hc).2 rfl
    have e := erf c hc
    show (g.rf c).toNat ≠ c
    omega
  · have := (h11 c hc).1
    show (g.pl (g.pl c).toNat).toNat = c
    omega
  · rintro W v ⟨a, b, c, e, k1, k2, k3⟩
    refine ⟨a, b, c, by rw [e, mac_ext erf epl]; rfl, ?_, ?_, ?_⟩
    · obtain ⟨a', cap, R, q1, q2, q3, q4⟩ := k1
      refine ⟨a', cap, R, q1, q2, fun r hr => ?_, fun r hr => ?_⟩
      · obtain ⟨b', o', e1, e2⟩ := q3 r hr
        rw [whl_ext (hwi r hr).2] at e2
        exact ⟨b', o', e1, e2⟩
      · have := q4 r hr
        show NumsAt W (R r) ((List.range (g.nl r)).map fun k => (g.no r k).toNat).length _
        rw [List.length_map, List.length_range]
        refine nums_ext this fun k hk => ?_
        have h0 := hno r hr k hk
        show g.no r k = (((List.range (g.nl r)).map fun k => (g.no r k).toNat).getD k 0 : Nat)
        simp [List.getD_eq_getElem?_getD, hk]
        omega
    · rw [h4] at k2
      exact nums_ext k2 fun i hi => by
        have := h5 i (by rw [h4]; exact hi)
        show g.ri i = ((g.ri i).toNat : Int)
        omega
    · rw [h6] at k3
      exact nums_ext k3 fun i hi => by
        have := h7 i (by rw [h6]; exact hi)
        show g.st i = ((g.st i).toNat : Int)
        omega
/-- What Write writes. -/
def rwS (g : Gm) (t : List UInt8) : List UInt8 := if rwE g t ≠ 0 then [] else Om.wr (maOf g) (maOf g).st t
theorem rwE_zero {g : Gm} {t : List UInt8} (h : rwE g t = 0) : gE g = 0 ∧ ckE t = 0 := by
  unfold rwE at h
  by_cases hg : gE g = 0
  · rw [if_neg (fun e => e hg)] at h; exact ⟨hg, h⟩
  · rw [if_pos hg] at h; exact absurd h hg
end Go.Proofs.Ytbbpbcmpemmgjaa

/-
  RotorUndone, for any Write that writes what the document's writes.
-/
namespace Go.Proofs.Ytbbpbcmpemmgjaa
open Go.RowKit PK Vg

/-- The machine in its variable, and a fault behind it. -/
structure FmAt (w W : World) (a b c : Value) (rf pl : Nat → Int) (q : Nat) (x y : Value) : Prop where
  mg : MgAt w W a b c rf pl
  f : RowAt W q 46 #[x, y]
  ne : w.heap.size < q
section
variable {w W W' : World} {a b c : Value} {rf pl : Nat → Int} {q : Nat} {x y : Value}
theorem FmAt.step (h : FmAt w W a b c rf pl q x y) (hb : Below W.heap.size W W') : FmAt w W' a b c rf pl q x y := ⟨h.mg.step hb, h.f.below hb h.f.lt, h.ne⟩
theorem FmAt.alloc (h : FmAt w W a b c rf pl q x y) (o : Obj) : FmAt w (W.alloc o) a b c rf pl q x y := h.step ((Below.refl _ _).alloc (Nat.le_refl _) o)
theorem FmAt.new (h : MgAt w W a b c rf pl) (x y : Value) : FmAt w (W.alloc (.cells #[x, y] 46)) a b c rf pl W.heap.size x y := ⟨h.alloc _, RowAt.new W _ _, h.lt⟩
theorem FmAt.set (h : FmAt w W a b c rf pl q x y) (u v : Value) : FmAt w ((W.setCell ⟨q, 0, none⟩ u).setCell ⟨q, 1, none⟩ v) a b c rf pl q u v := by
  have := h.ne
  exact ⟨⟨(h.mg.row.setOther _ _ (by simp; omega)).setOther _ _ (by simp; omega), (h.mg.below.setCell (p := ⟨q, 0, none⟩) (by simp; omega) _).setCell (p := ⟨q, 1, none⟩) (by simp; omega) _⟩, (h.f.set 0 u).set 1 v, h.ne⟩
theorem FmAt.draws (h : FmAt w W a b c rf pl q x y) (n : Nat) : FmAt w (W.drewN n) a b c rf pl q x y := ⟨⟨h.mg.row, h.mg.below.trans ⟨rfl, rfl, rfl, Nat.le_refl _, fun _ _ => rfl⟩⟩, h.f, h.ne⟩
end
end Go.Proofs.Ytbbpbcmpemmgjaa

/-
  Contract of the law's plugged; a store into the midst of a machine.
-/
namespace Go.Proofs.Ytbbpbcmpemmgjaa
open Go.RowKit PK Vg

def setMany (c : Array Value) : Nat → List Value → Array Value
  | _, [] => c
  | o, v :: l => setMany (c.setIfInBounds o v) (o + 1) l
theorem row_setCells {T : TypeId} {g : Nat} : ∀ {l : List Value} {o : Nat} {w : World} {c : Array Value}, RowAt w g T c → RowAt (w.setCells g o l) g T (setMany c o l)
  | [], _, _, _, h => h
  | v :: l, o, _, _, h => row_setCells (l := l) (h.set o v)
theorem setMany_size : ∀ (l : List Value) (o : Nat) (c : Array Value), (setMany c o l).size = c.size
  | [], _, _ => rfl
  | v :: l, o, c => by show (setMany (c.setIfInBounds o v) (o + 1) l).size = _; rw [setMany_size]; simp
theorem setMany_get : ∀ (l : List Value) (o : Nat) (c : Array Value) (i : Nat), o + l.length ≤ c.size → (setMany c o l)[i]? = if o ≤ i ∧ i < o + l.length then l[i - o]? else c[i]?
  | [], o, c, i, _ => by show c[i]? = _; rw [if_neg (by rintro ⟨h1, h2⟩; simp at h2; omega)]
  | v :: l, o, c, i, h => by
    show (setMany (c.setIfInBounds o v) (o + 1) l)[i]? = _
    have h' : o + 1 + l.length ≤ c.size := by simp at h; omega
    rw [setMany_get l (o + 1) (c.setIfInBounds o v) i (by simpa using h')]
    by_cases e : i = o
    · subst e
      rw [if_neg (by omega), if_pos ⟨by omega, by simp⟩, Nat.sub_self]
      have hi : i < c.size := by simp at h; omega
      simp [hi]
    · by_cases e2 : o + 1 ≤ i ∧ i < o + 1 + l.length
      · rw [if_pos e2, if_pos ⟨by omega, by simp; omega⟩]
        rw [show i - o = (i - (o + 1)) + 1 by omega]
        simp
      · rw [if_neg e2, if_neg (by simp; omega), Array.getElem?_setIfInBounds_ne (by omega)]
theorem mac_plugs (a b c : Value) (rf pl pl2 : Nat → Int) : setMany (mac a b c rf pl) 29 (ints 26 pl2).toList = mac a b c rf pl2 := by
  apply Array.ext_getElem?
  intro i
  have hl : (ints 26 pl2).toList.length = 26 := by rw [Array.length_toList, ints_size]
  rw [setMany_get _ _ _ _ (by rw [hl, mac_size]; decide), hl]
  by_cases h : 29 ≤ i ∧ i < 29 + 26
  · rw [if_pos h, Array.getElem?_toList, ints_get _ (by omega)]
    obtain ⟨j, rfl⟩ : ∃ j, i = 29 + j := ⟨i - 29, by omega⟩
    rw [mac_pl _ _ _ _ _ (by omega), show 29 + j - 29 = j by omega]
  · rw [if_neg h]
    by_cases h2 : i < 29
    · have key : ∀ q : Nat → Int, (mac a b c rf q)[i]? = (#[a, b, c] ++ ints 26 rf)[i]? := fun q => by
        unfold mac
        rw [Array.getElem?_append, if_pos (by simp [ints_size]; omega)]
      rw [key, key]
    · rw [Array.getElem?_eq_none (by rw [mac_size]; omega), Array.getElem?_eq_none (by rw [mac_size]; omega)]
theorem below_setCells {B g : Nat} (hg : B ≤ g) : ∀ {l : List Value} {o : Nat} {w W : World}, Below B w W → Below B w (W.setCells g o l)
  | [], _, _, _, h => h
  | v :: l, o, _, _, h => below_setCells hg (l := l) (h.setCell (p := ⟨g, o, none⟩) hg v)
theorem row_setCells_other {T : TypeId} {g q : Nat} (hne : q ≠ g) : ∀ {l : List Value} {o : Nat} {w : World} {c : Array Value}, RowAt w q T c → RowAt (w.setCells g o l) q T c
  | [], _, _, _, h => h
  | v :: l, o, _, _, h => row_setCells_other hne (l := l) (h.setOther ⟨g, o, none⟩ v hne)
theorem there_row {w : World} {g : Nat} {T : TypeId} {c : Array Value} (h : RowAt w g T c) {o n : Nat} (hn : o + n ≤ c.size) : w.there g o n := fun j hj => by
  refine ⟨?_, h.frozen _⟩
  rw [h.cell (i := o + j) (v := c[o + j]'(by omega)) (by simp)]
  rfl
end Go.Proofs.Ytbbpbcmpemmgjaa
