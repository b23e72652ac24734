/-
  Contract of perm.Between.
-/
import Derived.Test.YtlgjgppojdamiaaPLaid
import Derived.Deep.RegionHeld3
namespace Go.Proofs.Ytlgjgppojdamiaa
open Go.RowKit PK

set_option maxHeartbeats 2000000 in
theorem between_bad (f g : Nat → Int) (E : Int) (hE : (E != 0) = true) (hw : Pm.firstBad (pair f g) 2 = E) (w : World) :
    Calls Try.prog 31 #[.agg (ints 26 f), .agg (ints 26 g)] w fun e w' => e = .returned (.tuple #[.agg (ints 26 fun _ => 0), .int .i64 E]) ∧ Below w.heap.size w w' := by
  have H0 : Hid (Pm.firstBad (pair f g) 2 = E) := hw
  clear hw
  go_enter Try.func31, Try.ntmps31
  go_wp2_with (first
    | refine wpList_load_row rfl 35 _ rfl w.heap.size rfl 35 (ints 26 (f)) (0, 0) _ (((RowAt.new w _ _).alloc _).alloc _) Try.underlying35 rfl (by rw [ints_size]; exact info_perm) ?_
    | refine wpList_load_row rfl 35 _ rfl (w.heap.size + 1) rfl 35 (ints 26 (g)) (0, 0) _ (by rw [← World.size_alloc w]; exact (RowAt.new _ _ _).alloc _) Try.underlying35 rfl (by rw [ints_size]; exact info_perm) ?_
    | refine wpList_build2 rfl 76 35 _ _ rfl 26 (f) (g) rfl rfl (by decide) Try.underlying76 zero_perm (by decide) ?_)
  rw [zero26]
  refine (firstWrong_any (pair (f) (g)) 2 (Nat.le_refl _) _ _ (by simp) (range_two (RowAt.newAt (by simp)))).mono ?_
  rintro e W1 ⟨rfl, hb0⟩
  obtain ⟨r1, r2, r3, hb1, hs1⟩ := after2 hb0
  clear hb0
  rw [H0.out]
  go_wp2_with (first
    | refine wpList_build0 rfl 35 rfl _ built_perm ?_
    | refine wpList_store_row rfl 35 _ _ rfl (w.heap.size + 1 + 1) (ints 26 fun _ => 0) rfl rfl 35 _ r3 (by rw [ints_size]; exact info_perm) (by simp only [ints_size]) (ints_one _ _) ?_)
  exact bodyPost_ret (v := .tuple #[.agg (ints 26 fun _ => 0), .int .i64 E]) (results_cell_tmp2 rfl _ _ (w.heap.size + 1 + 1) 35 _ (0, 0) _ _ rfl rfl (r3.row _) Try.underlying35 rfl (by rw [ints_size]; exact info_perm)) rfl ⟨rfl, Below.setRow hb1 _ (by omega) _⟩

theorem eq27 (f g : Nat → Int) (w : World) : (Op.equalIn 10000 63 (.agg (ints 27 f)) (.agg (ints 27 g))).run Try.prog w = .ok (eqI 27 f g) w :=
  run_equalIn_ints w 9998 63 3 27 Try.underlying63 Try.underlying3 info_int f g
/-- What Between answers: the lay, if it comes to its end. -/
def betw (p q : Nat → Nat) : Option (Nat → Int) := (layN (Pm.cycs p 26) (Pm.cycs q 26) (fun _ => 0) (Pm.cycs p 26).length).map (·.2)
theorem betw_some {p q : Nat → Nat} (hp : Pm.IsPerm p) (hq : Pm.IsPerm q) : eqI 27 (Pm.up (cnt (Pm.cycs p 26))) (Pm.up (cnt (Pm.cycs q 26))) = true ↔ ∃ s, layN (Pm.cycs p 26) (Pm.cycs q 26) (fun _ => 0) (Pm.cycs p 26).length = some s := by
  rw [lay_iff hp hq, eqI_iff]
  constructor
  · intro h n hn
    have := h n hn
    simp only [Pm.up] at this
    omega
  · intro h n hn
    simp only [Pm.up]
    rw [h n hn]
theorem keepB {Z W W' : World} {b c : Nat} {A C : List Value} (hbc : b < Z.heap.size ∧ c < Z.heap.size) (h : Below Z.heap.size Z W ∧ W.rangeAt b 0 A ∧ W.rangeAt c 0 C) (hc : Below W.heap.size W W') : Below Z.heap.size Z W' ∧ W'.rangeAt b 0 A ∧ W'.rangeAt c 0 C :=
  ⟨h.1.trans (hc.mono h.1.size), Below.rangeAt hc h.2.1 (Nat.lt_of_lt_of_le hbc.1 h.1.size), Below.rangeAt hc h.2.2 (Nat.lt_of_lt_of_le hbc.2 h.1.size)⟩
def outB (o : Option (Nat → Int)) : (Nat → Int) × Int := match o with | some x => (x, 0) | none => (fun _ => 0, 6)

set_option maxRecDepth 100000 in
set_option maxHeartbeats 4000000 in
theorem between_ok (p q : Nat → Nat) (hp : Pm.IsPerm p) (hq : Pm.IsPerm q) (w : World) :
    Calls Try.prog 31 #[.agg (ints 26 (Pm.up p)), .agg (ints 26 (Pm.up q))] w fun e w' => e = .returned (.tuple #[.agg (ints 26 (outB (betw p q)).1), .int .i64 (outB (betw p q)).2]) ∧ Below w.heap.size w w' := by
  have H0 : Hid (Pm.firstBad (pair (Pm.up p) (Pm.up q)) 2 = 0) := pair_ok p q hp hq
  go_enter Try.func31, Try.ntmps31
  go_wp2_with (first
    | refine wpList_load_row rfl 35 _ rfl w.heap.size rfl 35 (ints 26 (Pm.up p)) (0, 0) _ (((RowAt.new w _ _).alloc _).alloc _) Try.underlying35 rfl (by rw [ints_size]; exact info_perm) ?_
    | refine wpList_load_row rfl 35 _ rfl (w.heap.size + 1) rfl 35 (ints 26 (Pm.up q)) (0, 0) _ (by rw [← World.size_alloc w]; exact (RowAt.new _ _ _).alloc _) Try.underlying35 rfl (by rw [ints_size]; exact info_perm) ?_
    | refine wpList_build2 rfl 76 35 _ _ rfl 26 (Pm.up p) (Pm.up q) rfl rfl (by decide) Try.underlying76 zero_perm (by decide) ?_)
  rw [zero26]
  refine (firstWrong_any (pair (Pm.up p) (Pm.up q)) 2 (Nat.le_refl _) _ _ (by simp) (range_two (RowAt.newAt (by simp)))).mono ?_
  rintro e W1 ⟨rfl, hb0⟩
  obtain ⟨r1, r2, r3, hb1, hs1⟩ := after2 hb0
  clear hb0
  rw [H0.out]
  clear H0
  go_wp2
  have hu := Try.underlying35
  have hiP : (Try.prog.info? 35).map (·.size) = some (ints 26 (Pm.up p)).size := by rw [ints_size]; exact info_perm
  have hiQ : (Try.prog.info? 35).map (·.size) = some (ints 26 (Pm.up q)).size := by rw [ints_size]; exact info_perm
  refine wp_region_noPanic ?_
  refine wp_region_held_drew (S := fun W => Below W1.heap.size W1 W ∧ W.rangeAt w.heap.size 0 (ints 26 (Pm.up p)).toList ∧ W.rangeAt (w.heap.size + 1) 0 (ints 26 (Pm.up q)).toList) (by kernel_rfl) ⟨(Below.refl _ _).drew, r1.range, r2.range⟩ (fun hS => ?_)
  refine take_load 0 17 rfl rfl (by kernel_rfl) (by kernel_rfl) (by kernel_rfl) (fun _ _ _ _ h => h) (by rfl) 35 _ (by rfl) (w.heap.size) (ints 26 (Pm.up p)) _ (by rfl) (fun W h => h.2.1) hu rfl hiP hS ?_
  simp only [List.setIfInBounds_toArray, List.set_cons_succ, List.set_cons_zero]
  refine take_load 2 19 rfl rfl (by kernel_rfl) (by kernel_rfl) (by kernel_rfl) (fun _ _ _ _ h => h) (by rfl) 35 _ (by rfl) (w.heap.size + 1) (ints 26 (Pm.up q)) _ (by rfl) (fun W h => h.2.2) hu rfl hiQ hS ?_
  simp only [List.setIfInBounds_toArray, List.set_cons_succ, List.set_cons_zero]
  refine wpAnyH_ready (rs := [1]) (by kernel_rfl) (by simp) ?_
  refine AllReadyH.cons (o := _) rfl (fun K hK => ?_) AllReadyH.nil
  rw [if_pos (by rfl)]
  go_simp
  refine (cycles_any p hp _).mono ?_
  rintro e Y1 ⟨v1, rfl, hall1, hq1⟩
  refine hK.out _ _ (keepB (by omega) hS hq1) (fun hS1 => ?_)
  clear hK hS
  have hS := hS1
  clear hS1 K
  refine wpAnyH_ready (rs := [3]) (by kernel_rfl) (by simp) ?_
  refine AllReadyH.cons (o := _) rfl (fun K hK => ?_) AllReadyH.nil
  rw [if_pos (by rfl)]
  go_simp
  refine (cycles_any q hq _).mono ?_
  rintro e Y2 ⟨v2, rfl, hall2, hq2⟩
  refine hK.out _ _ (keepB (by omega) hS hq2) (fun hS2 => ?_)
  clear hK hS
  have hS := hS2
  clear hS2 K
  refine take_pure 4 7 (v1) rfl rfl (by kernel_rfl) (by kernel_rfl) (by kernel_rfl) (fun _ _ _ _ h => h) (by rfl) (fun W => by clear hS; go_simp) hS ?_
  simp only [List.setIfInBounds_toArray, List.set_cons_succ, List.set_cons_zero]
  refine take_pure 5 8 (v2) rfl rfl (by kernel_rfl) (by kernel_rfl) (by kernel_rfl) (fun _ _ _ _ h => h) (by rfl) (fun W => by clear hS; go_simp) hS ?_
  simp only [List.setIfInBounds_toArray, List.set_cons_succ, List.set_cons_zero]
  refine wpAnyH_done (by kernel_rfl) ?_ _
  refine NoPanic.normal ?_
  have hall1' := hall1.below hq2
  have hbY : Below w.heap.size w Y2 := hb1.trans (hS.1.mono (by omega))
  have hsY : W1.heap.size ≤ Y2.heap.size := hS.1.size
  have r3Y := r3.below hS.1 r3.lt
  clear hall1 hq1 hq2 hS r1 r2 r3 hb1 hu hiP hiQ
  go_wp2_with fail
  refine (lengthsOf_any (Pm.cycs p 26) (cycs_pos hp) (Pm.cycs_len p 26) (cycs_each hp) _ v1 _ hall1').mono ?_
  rintro e Y3 ⟨rfl, hc3⟩
  go_wp2_with fail
  refine (lengthsOf_any (Pm.cycs q 26) (cycs_pos hq) (Pm.cycs_len q 26) (cycs_each hq) _ v2 _ (hall2.below hc3)).mono ?_
  rintro e Y4 ⟨rfl, hc4⟩
  have hs3 := hc3.size
  have hs4 := hc4.size
  have hap := (hall1'.below hc3).below hc4
  have haq := (hall2.below hc3).below hc4
  have hb4 := (hbY.trans (hc3.mono (by omega))).trans (hc4.mono (by omega))
  have r34 := (r3Y.below hc3 r3Y.lt).below hc4 (by have := r3Y.lt; omega)
  clear hall1' hall2 hbY r3Y hc3 hc4
  have hmg : Try.prog.eqGuardType Try.prog.depth 63 = false := by kernel_rfl
  have hsome := betw_some hp hq
  cases hb : eqI 27 (Pm.up (cnt (Pm.cycs p 26))) (Pm.up (cnt (Pm.cycs q 26)))
  · have heq : ∀ W, (Op.equalIn 10000 63 (.agg (ints 27 (Pm.up (cnt (Pm.cycs p 26))))) (.agg (ints 27 (Pm.up (cnt (Pm.cycs q 26)))))).run Try.prog W = .ok false W := fun W => by rw [eq27, hb]
    have HO : Hid (∀ P : (Nat → Int) × Int → Prop, P (fun _ => 0, 6) → P (outB (betw p q))) := fun P h => by
      have hn : betw p q = none := by
        unfold betw
        cases hl : layN (Pm.cycs p 26) (Pm.cycs q 26) (fun _ => 0) (Pm.cycs p 26).length with
        | none => rfl
        | some s => rw [hsome.2 ⟨s, hl⟩] at hb; cases hb
      rw [hn]
      exact h
    generalize ints 27 (Pm.up (cnt (Pm.cycs p 26))) = cp at *
    generalize ints 27 (Pm.up (cnt (Pm.cycs q 26))) = cq at *
    clear hb hsome
    go_wp2_with (first
      | refine wpList_build0 rfl 35 rfl _ built_perm ?_
      | refine wpList_store_row rfl 35 _ _ rfl (w.heap.size + 1 + 1) (ints 26 fun _ => 0) rfl rfl 35 _ r34 (by rw [ints_size]; exact info_perm) (by simp only [ints_size]) (ints_one _ _) ?_)
    refine bodyPost_ret (v := .tuple #[.agg (ints 26 fun _ => 0), .int .i64 6]) (results_cell_tmp2 rfl _ _ (w.heap.size + 1 + 1) 35 _ (0, 0) _ _ rfl rfl (r34.row _) Try.underlying35 rfl (by rw [ints_size]; exact info_perm)) rfl ⟨?_, Below.setRow hb4 _ (by omega) _⟩
    exact HO.out (fun o => Ending.returned (.tuple #[.agg (ints 26 fun _ => 0), .int .i64 6]) = .returned (.tuple #[.agg (ints 26 o.1), .int .i64 o.2])) rfl
  · have heq : ∀ W, (Op.equalIn 10000 63 (.agg (ints 27 (Pm.up (cnt (Pm.cycs p 26))))) (.agg (ints 27 (Pm.up (cnt (Pm.cycs q 26)))))).run Try.prog W = .ok true W := fun W => by rw [eq27, hb]
    obtain ⟨s, hs⟩ := hsome.1 hb
    have HO : Hid (∀ P : (Nat → Int) × Int → Prop, P (s.2, 0) → P (outB (betw p q))) := fun P h => by
      have hn : betw p q = some s.2 := by
        unfold betw
        rw [hs]
        rfl
      rw [hn]
      exact h
    have HLC : Hid (Calls Try.prog 53 #[v1, v2] Y4 fun e w' => e = .returned (.agg (ints 26 s.2)) ∧ Below Y4.heap.size Y4 w') :=
      laid_ok (Pm.cycs p 26) (Pm.cycs q 26) (cycs_pos hp) (Pm.cycs_len p 26) (cycs_each hp) (cycs_lt hp) (cycs_pos hq) (Pm.cycs_len q 26) (cycs_each hq) _ _ v1 v2 Y4 hap haq s hs
    generalize ints 27 (Pm.up (cnt (Pm.cycs p 26))) = cp at *
    generalize ints 27 (Pm.up (cnt (Pm.cycs q 26))) = cq at *
    clear hb hsome hs hap haq
    go_wp2_with fail
    refine HLC.out.mono ?_
    rintro e Y5 ⟨rfl, hc5⟩
    have hs5 := hc5.size
    have r35 := r34.below hc5 r34.lt
    go_wp2_with (first
      | refine wpList_store_row rfl 35 _ _ rfl (w.heap.size + 1 + 1) (ints 26 s.2) rfl rfl 35 _ r35 (by rw [ints_size]; exact info_perm) (by simp only [ints_size]) (ints_one _ _) ?_)
    refine bodyPost_ret (v := .tuple #[.agg (ints 26 s.2), .int .i64 0]) (results_cell_tmp2 rfl _ _ (w.heap.size + 1 + 1) 35 _ (0, 0) _ _ rfl rfl (r35.row _) Try.underlying35 rfl (by rw [ints_size]; exact info_perm)) rfl ⟨?_, Below.setRow (hb4.trans (hc5.mono (by omega))) _ (by omega) _⟩
    exact HO.out (fun o => Ending.returned (.tuple #[.agg (ints 26 s.2), .int .i64 0]) = .returned (.tuple #[.agg (ints 26 o.1), .int .i64 o.2])) rfl
end Go.Proofs.Ytlgjgppojdamiaa
