/-
  alive (chapter 7), if tally's Counts says what it should of ABA.
-/
import Derived.Test.YteomoeaoboaclaeNRCo
import Derived.BigRegion
namespace Go.Proofs.Yteomoeaoboaclae
open Go.RowKit PK Vg Tl

theorem row_under' (w : World) (c0 c : Array Value) (t : TypeId) (o : Obj) : ((w.alloc (.cells c0 t)).alloc o).setRow w.heap.size c = (w.alloc (.cells c t)).alloc o := by
  simp only [World.setRow, World.alloc]
  congr 1
  apply Array.ext_getElem?
  intro i
  rw [Array.getElem?_modify]
  by_cases h : w.heap.size = i
  · subst h
    simp [Array.getElem?_push]
  · have h' : ¬ i = w.heap.size := fun e => h e.symm
    simp [h, h', Array.getElem?_push]
theorem aba : ctS [65, 66, 65] 0 = 2 ∧ ctS [65, 66, 65] 1 = 1 ∧ ckE [65, 66, 65] = 0 ∧ ckAt [65, 66, 65] = 0 := by decide +kernel
set_option maxRecDepth 100000 in
set_option maxHeartbeats 1000000 in
theorem talive_run (H1 : Hid (∀ W, Calls Try.prog 7 #[.string ⟨#[65, 66, 65]⟩] W fun e w' => e = .returned (.tuple #[.agg (ints 26 (ctS [65, 66, 65])), .agg #[.int .i64 (ckE [65, 66, 65]), .int .i64 (ckAt [65, 66, 65])]]) ∧ Below W.heap.size W w')) (w : World) : Calls Try.prog 18 #[] w fun e w' => e = .returned (.bool true) ∧ Below w.heap.size w w' := by
  have hz22 := run_zero' v_zero_cts
  rw [aba.2.2.1, aba.2.2.2] at H1
  have HN0 : Hid (ctS [65, 66, 65] 0 = 2) := aba.1
  have HN1 : Hid (ctS [65, 66, 65] 1 = 1) := aba.2.1
  generalize ctS [65, 66, 65] = N at *
  go_enter Try.func18, Try.ntmps18
  go_wp2_with fail
  refine (H1.out _).mono ?_
  rintro e W1 ⟨rfl, hb1⟩
  have l1 := hb1.size
  have r1 := (RowAt.new W1 22 (ints 26 N)).alloc (.cells #[.int .i64 0, .int .i64 0] 25)
  have b1 := (hb1.alloc l1 (.cells (ints 26 N) 22)).alloc (by simp; omega) (.cells #[.int .i64 0, .int .i64 0] 25)
  have c0 := r1.cell (ints_get N (i := 0) (by decide))
  have c1 := r1.cell (ints_get N (i := 1) (by decide))
  rw [HN0.out] at c0
  rw [HN1.out] at c1
  clear hb1 H1
  go_wp2_with (first | (refine wpList_store_row rfl 22 _ _ rfl W1.heap.size (ints 26 N) rfl rfl 22 _ ((RowAt.new W1 _ _).alloc _) (by rw [ints_size]; exact v_info_cts) (by simp only [ints_size]) (ints_one _ _) ?_; rw [row_under']))
  go_ret
  exact ⟨rfl, b1⟩
end Go.Proofs.Yteomoeaoboaclae
