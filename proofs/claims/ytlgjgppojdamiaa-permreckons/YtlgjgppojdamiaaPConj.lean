/-
  Contract of perm.Conjugate.
-/
import Derived.Test.YtlgjgppojdamiaaPSame
namespace Go.Proofs.Ytlgjgppojdamiaa
open Go.RowKit PK

set_option maxHeartbeats 1000000 in
theorem conj1_any (p q : Nat → Nat) (i : Nat) (hi : i < 26) (hp : Pm.IsPerm p) (bp bq : Nat) (w : World) (hrp : RowAt w bp 35 (ints 26 (Pm.up p))) (hrq : RowAt w bq 35 (ints 26 (Pm.up q))) :
    Calls Try.prog 47 #[.int .i64 (i : Int), .pointer (some ⟨bq, 0, none⟩), .pointer (some ⟨bp, 0, none⟩)] w fun e w' => e = .returned (.tuple #[.int .i64 (q i : Nat), .int .i64 (q (p i) : Nat)]) ∧ Below w.heap.size w w' := by
  have hpi := hp.lt i hi
  have hc1 := hrp.cell (ints_get (Pm.up p) hi)
  have hc2 := hrq.cell (ints_get (Pm.up q) hpi)
  have hc3 := hrq.cell (ints_get (Pm.up q) hi)
  simp only [Pm.up] at hc1 hc2 hc3
  clear hrp hrq
  generalize p i = n at *
  go_enter Try.func47, Try.ntmps47
  go_wp2
  go_quiet (fail)
  go_wp2
  go_ret2
  exact ⟨rfl, rfl, rfl, rfl, Nat.le_refl _, fun _ _ => rfl⟩


set_option maxHeartbeats 2000000 in
theorem conj_ok (p q : Nat → Nat) (hp : Pm.IsPerm p) (hq : Pm.IsPerm q) (w : World) :
    Calls Try.prog 24 #[.agg (ints 26 (Pm.up p)), .agg (ints 26 (Pm.up q))] w fun e w' => e = .returned (.tuple #[.agg (ints 26 (Pm.up (Pm.conj p q))), .int .i64 0]) ∧ Below w.heap.size w w' := by
  have H0 : Hid (Pm.firstBad (pair (Pm.up p) (Pm.up q)) 2 = 0) := pair_ok p q hp hq
  have hmf : ∀ (fn : Fn) (first cap : Array Value) (w : World), (Instr.makeFunc fn first cap).run Try.prog w = .ok (.func fn first cap) w := fun _ _ _ _ => rfl
  go_enter Try.func24, Try.ntmps24
  go_wp2_with (first
    | refine wpList_load_row rfl 35 _ rfl w.heap.size rfl 35 (ints 26 (Pm.up p)) (0, 0) _ (((RowAt.new w _ _).alloc _).alloc _) Try.underlying35 rfl (by rw [ints_size]; exact info_perm) ?_
    | refine wpList_load_row rfl 35 _ rfl (w.heap.size + 1) rfl 35 (ints 26 (Pm.up q)) (0, 0) _ (by rw [← World.size_alloc w]; exact (RowAt.new _ _ _).alloc _) Try.underlying35 rfl (by rw [ints_size]; exact info_perm) ?_
    | refine wpList_build2 rfl 76 35 _ _ rfl 26 (Pm.up p) (Pm.up q) rfl rfl (by decide) Try.underlying76 zero_perm (by decide) ?_)
  rw [zero26]
  refine (firstWrong_any (pair (Pm.up p) (Pm.up q)) 2 (Nat.le_refl _) _ _ (by simp) (range_two (RowAt.newAt (by simp)))).mono ?_
  rintro e W1 ⟨rfl, hb0⟩
  obtain ⟨r1, r2, r3, hb1, hs1⟩ := after2 hb0
  clear hb0
  rw [H0.out]
  go_wp2_with fail
  refine (taking_any 47 #[.pointer (some ⟨w.heap.size + 1, 0, none⟩), .pointer (some ⟨w.heap.size, 0, none⟩)] q (Pm.up fun i => q (p i)) hq.lt _ (by intro args W; go_simp) (fun i hi W hW => conj1_any p q i hi hp _ _ W (r1.below hW (by omega)) (r2.below hW (by omega)))).mono ?_
  rintro e W2 ⟨rfl, hb2⟩
  rw [fill_conj p q hq]
  have hs2 := hb2.size
  have hrow := r3.below hb2 (by omega)
  go_wp2_with (refine wpList_store_row rfl 35 _ _ rfl (w.heap.size + 1 + 1) (ints 26 (Pm.up (Pm.conj p q))) rfl rfl 35 _ hrow (by rw [ints_size]; exact info_perm) (by simp only [ints_size]) (ints_one _ _) ?_)
  exact bodyPost_ret (v := .tuple #[.agg (ints 26 (Pm.up (Pm.conj p q))), .int .i64 0]) (results_cell_tmp2 rfl _ _ (w.heap.size + 1 + 1) 35 _ (0, 0) _ _ rfl rfl (hrow.row _) Try.underlying35 rfl (by rw [ints_size]; exact info_perm)) rfl ⟨rfl, Below.setRow (hb1.trans (hb2.mono (by omega))) _ (by omega) _⟩

set_option maxHeartbeats 2000000 in
theorem conj_bad (f g : Nat → Int) (E : Int) (hE : (E != 0) = true) (hw : Pm.firstBad (pair f g) 2 = E) (w : World) :
    Calls Try.prog 24 #[.agg (ints 26 f), .agg (ints 26 g)] w fun e w' => e = .returned (.tuple #[.agg (ints 26 fun _ => 0), .int .i64 E]) ∧ Below w.heap.size w w' := by
  have H0 : Hid (Pm.firstBad (pair f g) 2 = E) := hw
  clear hw
  have hmf : ∀ (fn : Fn) (first cap : Array Value) (w : World), (Instr.makeFunc fn first cap).run Try.prog w = .ok (.func fn first cap) w := fun _ _ _ _ => rfl
  go_enter Try.func24, Try.ntmps24
  go_wp2_with (first
    | refine wpList_load_row rfl 35 _ rfl w.heap.size rfl 35 (ints 26 (f)) (0, 0) _ (((RowAt.new w _ _).alloc _).alloc _) Try.underlying35 rfl (by rw [ints_size]; exact info_perm) ?_
    | refine wpList_load_row rfl 35 _ rfl (w.heap.size + 1) rfl 35 (ints 26 (g)) (0, 0) _ (by rw [← World.size_alloc w]; exact (RowAt.new _ _ _).alloc _) Try.underlying35 rfl (by rw [ints_size]; exact info_perm) ?_
    | refine wpList_build2 rfl 76 35 _ _ rfl 26 (f) (g) rfl rfl (by decide) Try.underlying76 zero_perm (by decide) ?_)
  rw [zero26]
  refine (firstWrong_any (pair (f) (g)) 2 (Nat.le_refl _) _ _ (by simp) (range_two (RowAt.newAt (by simp)))).mono ?_
  rintro e W1 ⟨rfl, hb0⟩
  obtain ⟨r1, r2, r3, hb1, hs1⟩ := after2 hb0
  clear hb0
  rw [H0.out]
  go_wp2_with (first
    | refine wpList_build0 rfl 35 rfl _ built_perm ?_
    | refine wpList_store_row rfl 35 _ _ rfl (w.heap.size + 1 + 1) (ints 26 fun _ => 0) rfl rfl 35 _ r3 (by rw [ints_size]; exact info_perm) (by simp only [ints_size]) (ints_one _ _) ?_)
  exact bodyPost_ret (v := .tuple #[.agg (ints 26 fun _ => 0), .int .i64 E]) (results_cell_tmp2 rfl _ _ (w.heap.size + 1 + 1) 35 _ (0, 0) _ _ rfl rfl (r3.row _) Try.underlying35 rfl (by rw [ints_size]; exact info_perm)) rfl ⟨rfl, Below.setRow hb1 _ (by omega) _⟩
end Go.Proofs.Ytlgjgppojdamiaa
