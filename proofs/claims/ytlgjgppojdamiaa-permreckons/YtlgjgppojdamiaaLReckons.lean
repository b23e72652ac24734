/-
  PermReckons: for any two times 26 numbers the statement's function returns true, and its arguments read as before. No condition.
-/
import Derived.Test.YtlgjgppojdamiaaRBoth
import Derived.Test.YtlgjgppojdamiaaPWrong
import Derived.Deep.RegionHeld3
import Derived.OrdersHeld
namespace Go.Proofs.Ytlgjgppojdamiaa
open Go.RowKit PK

theorem keep2 {Z : World} {b1 b2 : Nat} {A B : List Value} {W W' : World} (h1 : b1 < Z.heap.size) (h2 : b2 < Z.heap.size) (h : Below Z.heap.size Z W ∧ W.rangeAt b1 0 A ∧ W.rangeAt b2 0 B) (hc : Below W.heap.size W W') : Below Z.heap.size Z W' ∧ W'.rangeAt b1 0 A ∧ W'.rangeAt b2 0 B := by
  obtain ⟨a, b, c⟩ := h
  have hz := a.size
  exact ⟨a.trans (hc.mono hz), Below.rangeAt hc b (by omega), Below.rangeAt hc c (by omega)⟩
theorem start2 {w : World} {T : TypeId} {A B : Array Value} : RowAt ((w.alloc (.cells A T)).alloc (.cells B T)) w.heap.size T A ∧ RowAt ((w.alloc (.cells A T)).alloc (.cells B T)) (w.heap.size + 1) T B ∧ Below w.heap.size w ((w.alloc (.cells A T)).alloc (.cells B T)) ∧ w.heap.size + 2 ≤ ((w.alloc (.cells A T)).alloc (.cells B T)).heap.size :=
  ⟨(RowAt.new w _ _).alloc _, RowAt.newAt (by simp), ((Below.refl _ _).alloc (Nat.le_refl _) _).alloc (by simp) _, by simp⟩
set_option maxRecDepth 100000 in
set_option maxHeartbeats 8000000 in
theorem law_reckons (f g : Nat → Int) (w : World) :
    Calls Try.prog 6 #[.agg (ints 26 f), .agg (ints 26 g)] w fun e w' => e = .returned (.bool true) ∧ Below w.heap.size w w' := by
  obtain ⟨XT, ET, hT⟩ := then_both f g
  obtain ⟨XB, EB, hB⟩ := back_both f
  obtain ⟨XC, EC, hC⟩ := conj_both f g
  obtain ⟨l, EL, hl, hL⟩ := type_both f
  obtain ⟨s, ES, hS⟩ := print_both f
  obtain ⟨XW, EW, hW⟩ := between_both f g
  have HT := (show Hid _ from hT)
  have HB := (show Hid _ from hB)
  have HC := (show Hid _ from hC)
  have HL := (show Hid _ from hL)
  have HS := (show Hid _ from hS)
  have HW := (show Hid _ from hW)
  have HLN : Hid (l.length ≤ 1000000) := hl
  clear hT hB hC hL hS hW hl
  have hu := Try.underlying35
  have hiF : (Try.prog.info? 35).map (·.size) = some (ints 26 f).size := by rw [ints_size]; exact info_perm
  have hre := refl_perm
  have hmg : Try.prog.eqGuardType Try.prog.depth 35 = false := by kernel_rfl
  go_enter Try.func6, Try.ntmps6
  go_wp2_with fail
  obtain ⟨rp, rq, hb, hz0⟩ := start2 (w := w) (T := 35) (A := ints 26 f) (B := ints 26 g)
  generalize (w.alloc (.cells (ints 26 f) 35)).alloc (.cells (ints 26 g) 35) = Z0 at *
  refine wp_region_noPanic ?_
  refine wp_region_held_drew (S := (fun W => Below Z0.heap.size Z0 W ∧ W.rangeAt w.heap.size 0 (ints 26 f).toList ∧ W.rangeAt (w.heap.size + 1) 0 (ints 26 g).toList)) (by kernel_rfl) ⟨(Below.refl _ _).drew, rp.range, rq.range⟩ (fun hS => ?_)
  refine take_load 0 13 rfl rfl (by kernel_rfl) (by kernel_rfl) (by kernel_rfl) (fun _ _ _ _ h => h) (by rfl) 35 _ (by rfl) (w.heap.size) (ints 26 f) _ (by rfl) (fun W h => h.2.1) hu rfl hiF hS ?_
  simp only [List.setIfInBounds_toArray, List.set_cons_succ, List.set_cons_zero]
  refine take_load 2 15 rfl rfl (by kernel_rfl) (by kernel_rfl) (by kernel_rfl) (fun _ _ _ _ h => h) (by rfl) 35 _ (by rfl) (w.heap.size) (ints 26 f) _ (by rfl) (fun W h => h.2.1) hu rfl hiF hS ?_
  simp only [List.setIfInBounds_toArray, List.set_cons_succ, List.set_cons_zero]
  refine wpAnyH_ready (rs := [1]) (by kernel_rfl) (by simp) ?_
  refine AllReadyH.cons (o := _) rfl (fun K hK => ?_) AllReadyH.nil
  rw [if_pos (by rfl)]
  go_simp
  refine (wrong_any f _).mono ?_
  rintro e U1 ⟨rfl, hc⟩
  refine hK.out _ _ (keep2 rp.lt rq.lt hS hc) (fun hS1 => ?_)
  clear hK hS
  have hS := hS1
  clear hS1 K
  refine wpAnyH_ready (rs := [3]) (by kernel_rfl) (by simp) ?_
  refine AllReadyH.cons (o := _) rfl (fun K hK => ?_) AllReadyH.nil
  rw [if_pos (by rfl)]
  go_simp
  refine (rwrong_any f _).mono ?_
  rintro e U2 ⟨rfl, hc⟩
  refine hK.out _ _ (keep2 rp.lt rq.lt hS hc) (fun hS1 => ?_)
  clear hK hS
  have hS := hS1
  clear hS1 K
  refine take_pure 4 17 (.bool false) rfl rfl (by kernel_rfl) (by kernel_rfl) (by kernel_rfl) (fun _ _ _ _ h => h) (by rfl) (fun W => by clear hS; go_simp) hS ?_
  simp only [List.setIfInBounds_toArray, List.set_cons_succ, List.set_cons_zero]
  refine wpAnyH_done (by kernel_rfl) ?_ _
  refine NoPanic.normal ?_
  obtain ⟨hS1, _, _⟩ := hS
  have hzU := hS1.size
  replace rp := rp.below hS1 rp.lt
  replace rq := rq.below hS1 rq.lt
  replace hb := hb.trans (hS1.mono (by omega))
  clear hS1
  go_wp2_with (first | refine load_perm rfl _ rfl _ rfl _ rp ?_ | refine load_perm rfl _ rfl _ rfl _ rq ?_)
  refine (HT.out 20 (.inl rfl) _).mono ?_
  rintro e V1 ⟨rfl, hc⟩
  have hz1 := hc.size
  replace rp := row_step rp hc (.cells (ints 26 XT) 35)
  replace rq := row_step rq hc (.cells (ints 26 XT) 35)
  have rx := RowAt.new V1 35 (ints 26 XT)
  replace hb := below_step hb (by omega) hc (.cells (ints 26 XT) 35)
  clear hc
  go_wp2_with (first | refine store_new rfl _ _ rfl rfl _ rfl rfl ?_ | refine load_perm rfl _ rfl _ rfl _ rp ?_ | refine load_perm rfl _ rfl _ rfl _ rq ?_)
  refine (HT.out 21 (.inr rfl) _).mono ?_
  rintro e V2 ⟨rfl, hc⟩
  have hz2 := hc.size
  rw [World.size_alloc] at hz2
  replace rp := row_step rp hc (.cells (ints 26 XT) 35)
  replace rq := row_step rq hc (.cells (ints 26 XT) 35)
  replace rx := row_step rx hc (.cells (ints 26 XT) 35)
  have ry := RowAt.new V2 35 (ints 26 XT)
  replace hb := below_step hb (by rw [World.size_alloc]; omega) hc (.cells (ints 26 XT) 35)
  clear hc
  go_wp2_with (first | refine store_new rfl _ _ rfl rfl _ rfl rfl ?_ | refine load_perm rfl _ rfl _ rfl _ rx ?_ | refine load_perm rfl _ rfl _ rfl _ ry ?_ | refine load_perm rfl _ rfl _ rfl _ rp ?_ | refine load_perm rfl _ rfl _ rfl _ rq ?_)
  have hx1 : w.heap.size + 2 ≤ V1.heap.size := by omega
  have hx2 : V1.heap.size < V2.heap.size := by omega
  have hz : V2.heap.size < (V2.alloc (.cells (ints 26 XT) 35)).heap.size := by simp
  clear hz0 hzU hz1 hz2
  refine (HB.out 22 (.inl rfl) _).mono ?_
  rintro e V3 ⟨rfl, hc⟩
  have hz9 := hc.size
  replace rp := rp.below hc rp.lt
  replace rq := rq.below hc rq.lt
  replace rx := rx.below hc rx.lt
  replace ry := ry.below hc ry.lt
  replace hb := hb.trans (hc.mono (by omega))
  replace hz := Nat.lt_of_lt_of_le hz hz9
  clear hc hz9
  have r0 := rx
  replace rp := rp.rowOther V1.heap.size (ints 26 XB) (by omega)
  replace rq := rq.rowOther V1.heap.size (ints 26 XB) (by omega)
  replace rx := rx.row (ints 26 XB)
  replace ry := ry.rowOther V1.heap.size (ints 26 XB) (by omega)
  replace hb := Below.setRow hb V1.heap.size (by omega) (ints 26 XB)
  replace hz : V2.heap.size < (V3.setRow V1.heap.size (ints 26 XB)).heap.size := by simpa using hz
  go_wp2_with (first | refine wpList_store_row rfl 35 _ _ rfl V1.heap.size (ints 26 XB) rfl rfl 35 _ r0 (by rw [ints_size]; exact info_perm) (by simp only [ints_size]) (ints_one _ _) ?_ | refine load_perm rfl _ rfl _ rfl _ rp ?_ | refine load_perm rfl _ rfl _ rfl _ rq ?_ | refine load_perm rfl _ rfl _ rfl _ rx ?_ | refine load_perm rfl _ rfl _ rfl _ ry ?_)
  clear r0
  refine (HB.out 23 (.inr rfl) _).mono ?_
  rintro e V4 ⟨rfl, hc⟩
  have hz9 := hc.size
  replace rp := rp.below hc rp.lt
  replace rq := rq.below hc rq.lt
  replace rx := rx.below hc rx.lt
  replace ry := ry.below hc ry.lt
  replace hb := hb.trans (hc.mono (by omega))
  replace hz := Nat.lt_of_lt_of_le hz hz9
  clear hc hz9
  have r0 := ry
  replace rp := rp.rowOther V2.heap.size (ints 26 XB) (by omega)
  replace rq := rq.rowOther V2.heap.size (ints 26 XB) (by omega)
  replace rx := rx.rowOther V2.heap.size (ints 26 XB) (by omega)
  replace ry := ry.row (ints 26 XB)
  replace hb := Below.setRow hb V2.heap.size (by omega) (ints 26 XB)
  replace hz : V2.heap.size < (V4.setRow V2.heap.size (ints 26 XB)).heap.size := by simpa using hz
  go_wp2_with (first | refine wpList_store_row rfl 35 _ _ rfl V2.heap.size (ints 26 XB) rfl rfl 35 _ r0 (by rw [ints_size]; exact info_perm) (by simp only [ints_size]) (ints_one _ _) ?_ | refine load_perm rfl _ rfl _ rfl _ rp ?_ | refine load_perm rfl _ rfl _ rfl _ rq ?_ | refine load_perm rfl _ rfl _ rfl _ rx ?_ | refine load_perm rfl _ rfl _ rfl _ ry ?_)
  clear r0
  refine (HC.out 24 (.inl rfl) _).mono ?_
  rintro e V5 ⟨rfl, hc⟩
  have hz9 := hc.size
  replace rp := rp.below hc rp.lt
  replace rq := rq.below hc rq.lt
  replace rx := rx.below hc rx.lt
  replace ry := ry.below hc ry.lt
  replace hb := hb.trans (hc.mono (by omega))
  replace hz := Nat.lt_of_lt_of_le hz hz9
  clear hc hz9
  have r0 := rx
  replace rp := rp.rowOther V1.heap.size (ints 26 XC) (by omega)
  replace rq := rq.rowOther V1.heap.size (ints 26 XC) (by omega)
  replace rx := rx.row (ints 26 XC)
  replace ry := ry.rowOther V1.heap.size (ints 26 XC) (by omega)
  replace hb := Below.setRow hb V1.heap.size (by omega) (ints 26 XC)
  replace hz : V2.heap.size < (V5.setRow V1.heap.size (ints 26 XC)).heap.size := by simpa using hz
  go_wp2_with (first | refine wpList_store_row rfl 35 _ _ rfl V1.heap.size (ints 26 XC) rfl rfl 35 _ r0 (by rw [ints_size]; exact info_perm) (by simp only [ints_size]) (ints_one _ _) ?_ | refine load_perm rfl _ rfl _ rfl _ rp ?_ | refine load_perm rfl _ rfl _ rfl _ rq ?_ | refine load_perm rfl _ rfl _ rfl _ rx ?_ | refine load_perm rfl _ rfl _ rfl _ ry ?_)
  clear r0
  refine (HC.out 25 (.inr rfl) _).mono ?_
  rintro e V6 ⟨rfl, hc⟩
  have hz9 := hc.size
  replace rp := rp.below hc rp.lt
  replace rq := rq.below hc rq.lt
  replace rx := rx.below hc rx.lt
  replace ry := ry.below hc ry.lt
  replace hb := hb.trans (hc.mono (by omega))
  replace hz := Nat.lt_of_lt_of_le hz hz9
  clear hc hz9
  have r0 := ry
  replace rp := rp.rowOther V2.heap.size (ints 26 XC) (by omega)
  replace rq := rq.rowOther V2.heap.size (ints 26 XC) (by omega)
  replace rx := rx.rowOther V2.heap.size (ints 26 XC) (by omega)
  replace ry := ry.row (ints 26 XC)
  replace hb := Below.setRow hb V2.heap.size (by omega) (ints 26 XC)
  replace hz : V2.heap.size < (V6.setRow V2.heap.size (ints 26 XC)).heap.size := by simpa using hz
  go_wp2_with (first | refine wpList_store_row rfl 35 _ _ rfl V2.heap.size (ints 26 XC) rfl rfl 35 _ r0 (by rw [ints_size]; exact info_perm) (by simp only [ints_size]) (ints_one _ _) ?_ | refine load_perm rfl _ rfl _ rfl _ rp ?_ | refine load_perm rfl _ rfl _ rfl _ rq ?_ | refine load_perm rfl _ rfl _ rfl _ rx ?_ | refine load_perm rfl _ rfl _ rfl _ ry ?_)
  clear r0
  refine (HL.out 26 (.inl rfl) _).mono ?_
  rintro e V7 ⟨vs, rfl, os, hc⟩
  have hz9 := hc.size
  replace rp := rp.below hc rp.lt
  replace rq := rq.below hc rq.lt
  replace rx := rx.below hc rx.lt
  replace ry := ry.below hc ry.lt
  replace hb := hb.trans (hc.mono (by omega))
  replace hz := Nat.lt_of_lt_of_le hz hz9
  clear hc hz9
  go_wp2_with (first | refine load_perm rfl _ rfl _ rfl _ rp ?_ | refine load_perm rfl _ rfl _ rfl _ rq ?_)
  refine (HL.out 27 (.inr rfl) _).mono ?_
  rintro e V8 ⟨vt, rfl, ot, hc⟩
  have hz9 := hc.size
  replace rp := rp.below hc rp.lt
  replace rq := rq.below hc rq.lt
  replace rx := rx.below hc rx.lt
  replace ry := ry.below hc ry.lt
  have os2 := own_below os hc
  replace hb := hb.trans (hc.mono (by omega))
  replace hz := Nat.lt_of_lt_of_le hz hz9
  clear hc hz9 os
  go_wp2_with (first | refine load_perm rfl _ rfl _ rfl _ rp ?_ | refine load_perm rfl _ rfl _ rfl _ rq ?_)
  refine (sameL_any l l _ _ _ _ _ os2 ot HLN.out).mono ?_
  rintro e V9 ⟨rfl, hc⟩
  have hz9 := hc.size
  replace rp := rp.below hc rp.lt
  replace rq := rq.below hc rq.lt
  replace rx := rx.below hc rx.lt
  replace ry := ry.below hc ry.lt
  replace hb := hb.trans (hc.mono (by omega))
  replace hz := Nat.lt_of_lt_of_le hz hz9
  clear hc hz9 os2 ot
  rw [beq_self_eq_true l]
  go_wp2_with (first | refine load_perm rfl _ rfl _ rfl _ rp ?_ | refine load_perm rfl _ rfl _ rfl _ rq ?_)
  refine (HS.out 29 (.inl rfl) _).mono ?_
  rintro e V10 ⟨rfl, hc⟩
  have hz9 := hc.size
  replace rp := rp.below hc rp.lt
  replace rq := rq.below hc rq.lt
  replace rx := rx.below hc rx.lt
  replace ry := ry.below hc ry.lt
  replace hb := hb.trans (hc.mono (by omega))
  replace hz := Nat.lt_of_lt_of_le hz hz9
  clear hc hz9
  go_wp2_with (first | refine load_perm rfl _ rfl _ rfl _ rp ?_ | refine load_perm rfl _ rfl _ rfl _ rq ?_)
  refine (HS.out 30 (.inr rfl) _).mono ?_
  rintro e V11 ⟨rfl, hc⟩
  have hz9 := hc.size
  replace rp := rp.below hc rp.lt
  replace rq := rq.below hc rq.lt
  replace rx := rx.below hc rx.lt
  replace ry := ry.below hc ry.lt
  replace hb := hb.trans (hc.mono (by omega))
  replace hz := Nat.lt_of_lt_of_le hz hz9
  clear hc hz9
  go_wp2_with (first | refine load_perm rfl _ rfl _ rfl _ rp ?_ | refine load_perm rfl _ rfl _ rfl _ rq ?_)
  refine (HW.out 31 (.inl rfl) _).mono ?_
  rintro e V12 ⟨rfl, hc⟩
  have hz9 := hc.size
  replace rp := rp.below hc rp.lt
  replace rq := rq.below hc rq.lt
  replace rx := rx.below hc rx.lt
  replace ry := ry.below hc ry.lt
  replace hb := hb.trans (hc.mono (by omega))
  replace hz := Nat.lt_of_lt_of_le hz hz9
  clear hc hz9
  have r0 := rx
  replace rp := rp.rowOther V1.heap.size (ints 26 XW) (by omega)
  replace rq := rq.rowOther V1.heap.size (ints 26 XW) (by omega)
  replace rx := rx.row (ints 26 XW)
  replace ry := ry.rowOther V1.heap.size (ints 26 XW) (by omega)
  replace hb := Below.setRow hb V1.heap.size (by omega) (ints 26 XW)
  replace hz : V2.heap.size < (V12.setRow V1.heap.size (ints 26 XW)).heap.size := by simpa using hz
  go_wp2_with (first | refine wpList_store_row rfl 35 _ _ rfl V1.heap.size (ints 26 XW) rfl rfl 35 _ r0 (by rw [ints_size]; exact info_perm) (by simp only [ints_size]) (ints_one _ _) ?_ | refine load_perm rfl _ rfl _ rfl _ rp ?_ | refine load_perm rfl _ rfl _ rfl _ rq ?_ | refine load_perm rfl _ rfl _ rfl _ rx ?_ | refine load_perm rfl _ rfl _ rfl _ ry ?_)
  clear r0
  refine (HW.out 32 (.inr rfl) _).mono ?_
  rintro e V13 ⟨rfl, hc⟩
  have hz9 := hc.size
  replace rp := rp.below hc rp.lt
  replace rq := rq.below hc rq.lt
  replace rx := rx.below hc rx.lt
  replace ry := ry.below hc ry.lt
  replace hb := hb.trans (hc.mono (by omega))
  replace hz := Nat.lt_of_lt_of_le hz hz9
  clear hc hz9
  have r0 := ry
  replace rp := rp.rowOther V2.heap.size (ints 26 XW) (by omega)
  replace rq := rq.rowOther V2.heap.size (ints 26 XW) (by omega)
  replace rx := rx.rowOther V2.heap.size (ints 26 XW) (by omega)
  replace ry := ry.row (ints 26 XW)
  replace hb := Below.setRow hb V2.heap.size (by omega) (ints 26 XW)
  replace hz : V2.heap.size < (V13.setRow V2.heap.size (ints 26 XW)).heap.size := by simpa using hz
  go_wp2_with (first | refine wpList_store_row rfl 35 _ _ rfl V2.heap.size (ints 26 XW) rfl rfl 35 _ r0 (by rw [ints_size]; exact info_perm) (by simp only [ints_size]) (ints_one _ _) ?_ | refine load_perm rfl _ rfl _ rfl _ rp ?_ | refine load_perm rfl _ rfl _ rfl _ rq ?_ | refine load_perm rfl _ rfl _ rfl _ rx ?_ | refine load_perm rfl _ rfl _ rfl _ ry ?_)
  clear r0
  go_ret
  exact ⟨rfl, hb⟩
end Go.Proofs.Ytlgjgppojdamiaa
