/-
  Contracts of perm.Then and perm.Back.
-/
import Derived.Test.YtlgjgppojdamiaaPSame
namespace Go.Proofs.Ytlgjgppojdamiaa
open Go.RowKit PK

set_option maxHeartbeats 1000000 in
theorem then1_any (p q : Nat → Nat) (i : Nat) (hi : i < 26) (hp : Pm.IsPerm p) (bp bq : Nat) (w : World) (hrp : RowAt w bp 35 (ints 26 (Pm.up p))) (hrq : RowAt w bq 35 (ints 26 (Pm.up q))) :
    Calls Try.prog 43 #[.int .i64 (i : Int), .pointer (some ⟨bq, 0, none⟩), .pointer (some ⟨bp, 0, none⟩)] w fun e w' => e = .returned (.tuple #[.int .i64 (i : Int), .int .i64 (q (p i) : Nat)]) ∧ Below w.heap.size w w' := by
  have hpi := hp.lt i hi
  have hc1 := hrp.cell (ints_get (Pm.up p) hi)
  have hc2 := hrq.cell (ints_get (Pm.up q) hpi)
  simp only [Pm.up] at hc1 hc2
  clear hrp hrq
  generalize p i = n at *
  go_enter Try.func43, Try.ntmps43
  go_wp2
  go_quiet (fail)
  go_wp2
  go_ret2
  exact ⟨rfl, rfl, rfl, rfl, Nat.le_refl _, fun _ _ => rfl⟩

set_option maxHeartbeats 2000000 in
theorem then_ok (p q : Nat → Nat) (hp : Pm.IsPerm p) (hq : Pm.IsPerm q) (w : World) :
    Calls Try.prog 20 #[.agg (ints 26 (Pm.up p)), .agg (ints 26 (Pm.up q))] w fun e w' => e = .returned (.tuple #[.agg (ints 26 (Pm.up (fun i => q (p i)))), .int .i64 0]) ∧ Below w.heap.size w w' := by
  have H0 : Hid (Pm.firstBad (pair (Pm.up p) (Pm.up q)) 2 = 0) := pair_ok p q hp hq
  have hmf : ∀ (fn : Fn) (first cap : Array Value) (w : World), (Instr.makeFunc fn first cap).run Try.prog w = .ok (.func fn first cap) w := fun _ _ _ _ => rfl
  go_enter Try.func20, Try.ntmps20
  go_wp2_with (first
    | refine wpList_load_row rfl 35 _ rfl w.heap.size rfl 35 (ints 26 (Pm.up p)) (0, 0) _ (((RowAt.new w _ _).alloc _).alloc _) Try.underlying35 rfl (by rw [ints_size]; exact info_perm) ?_
    | refine wpList_load_row rfl 35 _ rfl (w.heap.size + 1) rfl 35 (ints 26 (Pm.up q)) (0, 0) _ (by rw [← World.size_alloc w]; exact (RowAt.new _ _ _).alloc _) Try.underlying35 rfl (by rw [ints_size]; exact info_perm) ?_
    | refine wpList_build2 rfl 76 35 _ _ rfl 26 (Pm.up p) (Pm.up q) rfl rfl (by decide) Try.underlying76 zero_perm (by decide) ?_)
  rw [zero26]
  refine (firstWrong_any (pair (Pm.up p) (Pm.up q)) 2 (Nat.le_refl _) _ _ (by simp) (range_two (RowAt.newAt (by simp)))).mono ?_
  rintro e W1 ⟨rfl, hb0⟩
  obtain ⟨r1, r2, r3, hb1, hs1⟩ := after2 hb0
  clear hb0
  rw [H0.out]
  go_wp2_with fail
  refine (taking_any 43 #[.pointer (some ⟨w.heap.size + 1, 0, none⟩), .pointer (some ⟨w.heap.size, 0, none⟩)] (fun i => i) (Pm.up fun i => q (p i)) (fun _ h => h) _ (by intro args W; go_simp) (fun i hi W hW => then1_any p q i hi hp _ _ W (r1.below hW (by omega)) (r2.below hW (by omega)))).mono ?_
  rintro e W2 ⟨rfl, hb2⟩
  rw [fill_id]
  have hs2 := hb2.size
  have hrow := r3.below hb2 (by omega)
  go_wp2_with (refine wpList_store_row rfl 35 _ _ rfl (w.heap.size + 1 + 1) (ints 26 (Pm.up (fun i => q (p i)))) rfl rfl 35 _ hrow (by rw [ints_size]; exact info_perm) (by simp only [ints_size]) (ints_one _ _) ?_)
  exact bodyPost_ret (v := .tuple #[.agg (ints 26 (Pm.up (fun i => q (p i)))), .int .i64 0]) (results_cell_tmp2 rfl _ _ (w.heap.size + 1 + 1) 35 _ (0, 0) _ _ rfl rfl (hrow.row _) Try.underlying35 rfl (by rw [ints_size]; exact info_perm)) rfl ⟨rfl, Below.setRow (hb1.trans (hb2.mono (by omega))) _ (by omega) _⟩

set_option maxHeartbeats 2000000 in
theorem then_bad (f g : Nat → Int) (E : Int) (hE : (E != 0) = true) (hw : Pm.firstBad (pair f g) 2 = E) (w : World) :
    Calls Try.prog 20 #[.agg (ints 26 f), .agg (ints 26 g)] w fun e w' => e = .returned (.tuple #[.agg (ints 26 fun _ => 0), .int .i64 E]) ∧ Below w.heap.size w w' := by
  have H0 : Hid (Pm.firstBad (pair f g) 2 = E) := hw
  clear hw
  have hmf : ∀ (fn : Fn) (first cap : Array Value) (w : World), (Instr.makeFunc fn first cap).run Try.prog w = .ok (.func fn first cap) w := fun _ _ _ _ => rfl
  go_enter Try.func20, Try.ntmps20
  go_wp2_with (first
    | refine wpList_load_row rfl 35 _ rfl w.heap.size rfl 35 (ints 26 (f)) (0, 0) _ (((RowAt.new w _ _).alloc _).alloc _) Try.underlying35 rfl (by rw [ints_size]; exact info_perm) ?_
    | refine wpList_load_row rfl 35 _ rfl (w.heap.size + 1) rfl 35 (ints 26 (g)) (0, 0) _ (by rw [← World.size_alloc w]; exact (RowAt.new _ _ _).alloc _) Try.underlying35 rfl (by rw [ints_size]; exact info_perm) ?_
    | refine wpList_build2 rfl 76 35 _ _ rfl 26 (f) (g) rfl rfl (by decide) Try.underlying76 zero_perm (by decide) ?_)
  rw [zero26]
  refine (firstWrong_any (pair (f) (g)) 2 (Nat.le_refl _) _ _ (by simp) (range_two (RowAt.newAt (by simp)))).mono ?_
  rintro e W1 ⟨rfl, hb0⟩
  obtain ⟨r1, r2, r3, hb1, hs1⟩ := after2 hb0
  clear hb0
  rw [H0.out]
  go_wp2_with (first
    | refine wpList_build0 rfl 35 rfl _ built_perm ?_
    | refine wpList_store_row rfl 35 _ _ rfl (w.heap.size + 1 + 1) (ints 26 fun _ => 0) rfl rfl 35 _ r3 (by rw [ints_size]; exact info_perm) (by simp only [ints_size]) (ints_one _ _) ?_)
  exact bodyPost_ret (v := .tuple #[.agg (ints 26 fun _ => 0), .int .i64 E]) (results_cell_tmp2 rfl _ _ (w.heap.size + 1 + 1) 35 _ (0, 0) _ _ rfl rfl (r3.row _) Try.underlying35 rfl (by rw [ints_size]; exact info_perm)) rfl ⟨rfl, Below.setRow hb1 _ (by omega) _⟩

set_option maxHeartbeats 1000000 in
theorem back1_any (p : Nat → Nat) (i : Nat) (hi : i < 26) (bp : Nat) (w : World) (hrp : RowAt w bp 35 (ints 26 (Pm.up p))) :
    Calls Try.prog 45 #[.int .i64 (i : Int), .pointer (some ⟨bp, 0, none⟩)] w fun e w' => e = .returned (.tuple #[.int .i64 (p i : Nat), .int .i64 (i : Int)]) ∧ Below w.heap.size w w' := by
  have hc1 := hrp.cell (ints_get (Pm.up p) hi)
  simp only [Pm.up] at hc1
  clear hrp
  go_enter Try.func45, Try.ntmps45
  go_wp2
  go_ret2
  exact ⟨rfl, rfl, rfl, rfl, Nat.le_refl _, fun _ _ => rfl⟩

set_option maxHeartbeats 2000000 in
theorem back_ok (p : Nat → Nat) (hp : Pm.IsPerm p) (w : World) :
    Calls Try.prog 22 #[.agg (ints 26 (Pm.up p))] w fun e w' => e = .returned (.tuple #[.agg (ints 26 (Pm.up (Pm.inv p))), .int .i64 0]) ∧ Below w.heap.size w w' := by
  have H0 : Hid (Pm.firstBad (fun _ => Pm.up p) 1 = 0) := one_ok p hp
  have hmf : ∀ (fn : Fn) (first cap : Array Value) (w : World), (Instr.makeFunc fn first cap).run Try.prog w = .ok (.func fn first cap) w := fun _ _ _ _ => rfl
  go_enter Try.func22, Try.ntmps22
  go_wp2_with (first
    | refine wpList_load_row rfl 35 _ rfl w.heap.size rfl 35 (ints 26 (Pm.up p)) (0, 0) _ ((RowAt.new w _ _).alloc _) Try.underlying35 rfl (by rw [ints_size]; exact info_perm) ?_
    | refine wpList_build1 rfl 76 35 _ rfl 26 (Pm.up p) rfl (by decide) Try.underlying76 zero_perm (by decide) ?_)
  rw [zero26]
  refine (firstWrong_any (fun _ => Pm.up p) 1 (by decide) _ _ (by simp) (range_one (RowAt.newAt (by simp)))).mono ?_
  rintro e W1 ⟨rfl, hb0⟩
  obtain ⟨r1, r3, hb1, hs1⟩ := after1 hb0
  clear hb0
  rw [H0.out]
  go_wp2_with fail
  refine (taking_any 45 #[.pointer (some ⟨w.heap.size, 0, none⟩)] p (Pm.up fun i => i) hp.lt _ (by intro args W; go_simp) (fun i hi W hW => back1_any p i hi _ W (r1.below hW (by omega)))).mono ?_
  rintro e W2 ⟨rfl, hb2⟩
  rw [fill_back p hp]
  have hs2 := hb2.size
  have hrow := r3.below hb2 (by omega)
  go_wp2_with (refine wpList_store_row rfl 35 _ _ rfl (w.heap.size + 1) (ints 26 (Pm.up (Pm.inv p))) rfl rfl 35 _ hrow (by rw [ints_size]; exact info_perm) (by simp only [ints_size]) (ints_one _ _) ?_)
  exact bodyPost_ret (v := .tuple #[.agg (ints 26 (Pm.up (Pm.inv p))), .int .i64 0]) (results_cell_tmp2 rfl _ _ (w.heap.size + 1) 35 _ (0, 0) _ _ rfl rfl (hrow.row _) Try.underlying35 rfl (by rw [ints_size]; exact info_perm)) rfl ⟨rfl, Below.setRow (hb1.trans (hb2.mono (by omega))) _ (by omega) _⟩

set_option maxHeartbeats 2000000 in
theorem back_bad (f : Nat → Int) (E : Int) (hE : (E != 0) = true) (hw : Pm.firstBad (fun _ => f) 1 = E) (w : World) :
    Calls Try.prog 22 #[.agg (ints 26 f)] w fun e w' => e = .returned (.tuple #[.agg (ints 26 fun _ => 0), .int .i64 E]) ∧ Below w.heap.size w w' := by
  have H0 : Hid (Pm.firstBad (fun _ => f) 1 = E) := hw
  clear hw
  have hmf : ∀ (fn : Fn) (first cap : Array Value) (w : World), (Instr.makeFunc fn first cap).run Try.prog w = .ok (.func fn first cap) w := fun _ _ _ _ => rfl
  go_enter Try.func22, Try.ntmps22
  go_wp2_with (first
    | refine wpList_load_row rfl 35 _ rfl w.heap.size rfl 35 (ints 26 (f)) (0, 0) _ ((RowAt.new w _ _).alloc _) Try.underlying35 rfl (by rw [ints_size]; exact info_perm) ?_
    | refine wpList_build1 rfl 76 35 _ rfl 26 (f) rfl (by decide) Try.underlying76 zero_perm (by decide) ?_)
  rw [zero26]
  refine (firstWrong_any (fun _ => f) 1 (by decide) _ _ (by simp) (range_one (RowAt.newAt (by simp)))).mono ?_
  rintro e W1 ⟨rfl, hb0⟩
  obtain ⟨r1, r3, hb1, hs1⟩ := after1 hb0
  clear hb0
  rw [H0.out]
  go_wp2_with (first
    | refine wpList_build0 rfl 35 rfl _ built_perm ?_
    | refine wpList_store_row rfl 35 _ _ rfl (w.heap.size + 1) (ints 26 fun _ => 0) rfl rfl 35 _ r3 (by rw [ints_size]; exact info_perm) (by simp only [ints_size]) (ints_one _ _) ?_)
  exact bodyPost_ret (v := .tuple #[.agg (ints 26 fun _ => 0), .int .i64 E]) (results_cell_tmp2 rfl _ _ (w.heap.size + 1) 35 _ (0, 0) _ _ rfl rfl (r3.row _) Try.underlying35 rfl (by rw [ints_size]; exact info_perm)) rfl ⟨rfl, Below.setRow hb1 _ (by omega) _⟩
end Go.Proofs.Ytlgjgppojdamiaa
