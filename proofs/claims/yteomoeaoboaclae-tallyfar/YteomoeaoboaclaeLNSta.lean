/-
  TallyStays, walked: whatever tally's Index is, if it says the same of both texts.
-/
import Derived.Test.YteomoeaoboaclaeNRIx
import Derived.BigRegion
namespace Go.Proofs.Yteomoeaoboaclae
open Go.RowKit PK Vg Tl

set_option maxRecDepth 100000 in
set_option maxHeartbeats 4000000 in
theorem tsta_bad (k : Int) (key t R : ByteArray) (E A : Int) (hE : (E != 0) = true) (HA : Hid (∀ W, Calls Try.prog 18 #[] W fun e w' => e = .returned (.bool true) ∧ Below W.heap.size W w'))
    (HW : Hid (∀ W, Calls Try.prog 19 #[.int .i64 k, .string key, .string t] W fun e w' => e = .returned (.tuple #[.string R, .agg #[.int .i64 E, .int .i64 A]]) ∧ Below W.heap.size W w')) (w : World) : Calls Try.prog 5 #[.int .i64 k, .string key, .string t] w fun e w' => e = .returned (.bool true) ∧ Below w.heap.size w w' := by
  go_enter Try.func5, Try.ntmps5
  go_wp2_with fail
  refine (HA.out _).mono ?_
  rintro e W0 ⟨rfl, hb0⟩
  go_wp2_with fail
  refine (HW.out _).mono ?_
  rintro e W1 ⟨rfl, hb1⟩
  have hb := (hb0.trans (hb1.mono hb0.size)).alloc (by have := hb0.size; have := hb1.size; omega) (.cells #[.int .i64 E, .int .i64 A] 25)
  clear hb0 hb1
  go_wp2
  go_ret
  exact ⟨rfl, hb⟩
set_option maxRecDepth 100000 in
set_option maxHeartbeats 4000000 in
theorem tsta_pass (k : Int) (key t R : ByteArray) (hp : k = 4 ∨ 64 < key.size) (HA : Hid (∀ W, Calls Try.prog 18 #[] W fun e w' => e = .returned (.bool true) ∧ Below W.heap.size W w'))
    (HW : Hid (∀ W, Calls Try.prog 19 #[.int .i64 k, .string key, .string t] W fun e w' => e = .returned (.tuple #[.string R, .agg #[.int .i64 0, .int .i64 0]]) ∧ Below W.heap.size W w')) (w : World) : Calls Try.prog 5 #[.int .i64 k, .string key, .string t] w fun e w' => e = .returned (.bool true) ∧ Below w.heap.size w w' := by
  go_enter Try.func5, Try.ntmps5
  go_wp2_with fail
  refine (HA.out _).mono ?_
  rintro e W0 ⟨rfl, hb0⟩
  go_wp2_with fail
  refine (HW.out _).mono ?_
  rintro e W1 ⟨rfl, hb1⟩
  have hb := (hb0.trans (hb1.mono hb0.size)).alloc (by have := hb0.size; have := hb1.size; omega) (.cells #[.int .i64 0, .int .i64 0] 25)
  clear hb0 hb1
  by_cases h4 : k = 4
  · have h5 : (k == 4) = true := by rw [h4]; rfl
    clear h4 hp
    go_wp2
    go_ret
    exact ⟨rfl, hb⟩
  · have h5 : (k == 4) = false := beq_false_of_ne h4
    have h6 : (64 : Int) < (key.size : Int) := by omega
    clear h4 hp
    go_wp2
    go_ret
    exact ⟨rfl, hb⟩
set_option maxRecDepth 100000 in
set_option maxHeartbeats 4000000 in
theorem tsta_run (k : Int) (key t S : ByteArray) (h4 : (k == 4) = false) (hl : key.size ≤ 64) (U D : Nat) (E A : Int) (HA : Hid (∀ W, Calls Try.prog 18 #[] W fun e w' => e = .returned (.bool true) ∧ Below W.heap.size W w'))
    (HW : Hid (∀ W, Calls Try.prog 19 #[.int .i64 k, .string key, .string t] W fun e w' => e = .returned (.tuple #[.string S, .agg #[.int .i64 0, .int .i64 0]]) ∧ Below W.heap.size W w'))
    (H1 : Hid (∀ W, Calls Try.prog 9 #[.string t, .int .i64 (key.size : Nat)] W fun e w' => e = .returned (.tuple #[.agg #[.int .i64 (U : Nat), .int .i64 (D : Nat)], .agg #[.int .i64 E, .int .i64 A]]) ∧ Below W.heap.size W w'))
    (H2 : Hid (∀ W, Calls Try.prog 9 #[.string S, .int .i64 (key.size : Nat)] W fun e w' => e = .returned (.tuple #[.agg #[.int .i64 (U : Nat), .int .i64 (D : Nat)], .agg #[.int .i64 E, .int .i64 A]]) ∧ Below W.heap.size W w'))
    (w : World) : Calls Try.prog 5 #[.int .i64 k, .string key, .string t] w fun e w' => e = .returned (.bool true) ∧ Below w.heap.size w w' := by
  have h6 : ¬ (64 : Int) < (key.size : Int) := by omega
  go_enter Try.func5, Try.ntmps5
  go_wp2_with fail
  refine (HA.out _).mono ?_
  rintro e W0 ⟨rfl, hb0⟩
  go_wp2_with fail
  refine (HW.out _).mono ?_
  rintro e W1 ⟨rfl, hb1⟩
  have l1 : w.heap.size ≤ W1.heap.size := by have := hb0.size; have := hb1.size; omega
  have b1 := (hb0.trans (hb1.mono hb0.size)).alloc l1 (.cells #[.int .i64 0, .int .i64 0] 25)
  have s1 := RowAt.new W1 25 #[.int .i64 0, .int .i64 0]
  clear hb0 hb1
  go_wp2_with fail
  refine (H1.out _).mono ?_
  rintro e W2 ⟨rfl, hb2⟩
  have l2 : W1.heap.size < W2.heap.size := by have := hb2.size; simp at this; omega
  have b2 := b1.trans (hb2.mono b1.size)
  have s2 := s1.below hb2 s1.lt
  have n1 : ¬ W1.heap.size = W2.heap.size := by omega
  have n2 : ¬ W2.heap.size = W1.heap.size := by omega
  have c0 := s2.cell (i := 0) rfl
  have c1 := s2.cell (i := 1) rfl
  have f0 := s2.frozen 0
  have f1 := s2.frozen 1
  have s3 := ((s2.set 0 (.int .i64 E)).set 1 (.int .i64 A)).alloc (.cells #[.int .i64 (U : Nat), .int .i64 (D : Nat)] 29)
  have hsz : ((W2.setCell ⟨W1.heap.size, 0, none⟩ (.int .i64 E)).setCell ⟨W1.heap.size, 1, none⟩ (.int .i64 A)).heap.size = W2.heap.size := by simp [World.setCell]
  have r3 := RowAt.new ((W2.setCell ⟨W1.heap.size, 0, none⟩ (.int .i64 E)).setCell ⟨W1.heap.size, 1, none⟩ (.int .i64 A)) 29 #[.int .i64 (U : Nat), .int .i64 (D : Nat)]
  rw [hsz] at r3
  have b3 := ((b2.setCell (p := ⟨W1.heap.size, 0, none⟩) l1 (.int .i64 E)).setCell (p := ⟨W1.heap.size, 1, none⟩) l1 (.int .i64 A)).alloc (by rw [hsz]; omega) (.cells #[.int .i64 (U : Nat), .int .i64 (D : Nat)] 29)
  have r2 := hsz
  clear hsz
  have R2 : Hid (((W2.setCell ⟨W1.heap.size, 0, none⟩ (.int .i64 E)).setCell ⟨W1.heap.size, 1, none⟩ (.int .i64 A)).heap.size = W2.heap.size) := r2
  clear hb2 b1 s1 b2 s2 r2
  go_wp2_with fail
  refine (H2.out _).mono ?_
  rintro e W3 ⟨rfl, hb3⟩
  have l3 : W2.heap.size < W3.heap.size := by have := hb3.size; rw [World.size_alloc, R2.out] at this; omega
  have b4 := ((b3.trans (hb3.mono b3.size)).alloc (by omega) (.cells #[.int .i64 (U : Nat), .int .i64 (D : Nat)] 29)).alloc (by simp; omega) (.cells #[.int .i64 E, .int .i64 A] 25)
  have s4 := ((s3.below hb3 s3.lt).alloc (.cells #[.int .i64 (U : Nat), .int .i64 (D : Nat)] 29)).alloc (.cells #[.int .i64 E, .int .i64 A] 25)
  have r4 := ((r3.below hb3 r3.lt).alloc (.cells #[.int .i64 (U : Nat), .int .i64 (D : Nat)] 29)).alloc (.cells #[.int .i64 E, .int .i64 A] 25)
  clear hb3 b3 s3 r3 c0 c1 f0 f1
  have c0 := s4.cell (i := 0) rfl
  have c1 := s4.cell (i := 1) rfl
  have d0 := r4.cell (i := 0) rfl
  have d1 := r4.cell (i := 1) rfl
  go_wp2
  go_ret
  exact ⟨rfl, b4⟩
end Go.Proofs.Yteomoeaoboaclae
