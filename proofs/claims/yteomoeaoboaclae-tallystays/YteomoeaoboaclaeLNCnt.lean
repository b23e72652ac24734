/-
  TallyCounts, walked: whatever tally's functions are, if they say what the document's say.
-/
import Derived.Test.YteomoeaoboaclaeNRCo
import Derived.Test.YteomoeaoboaclaeNRPe
import Derived.Test.YteomoeaoboaclaePEq
import Derived.BigRegion
namespace Go.Proofs.Yteomoeaoboaclae
open Go.RowKit PK Vg Tl

theorem row_under (w : World) (c0 c : Array Value) (t : TypeId) (o : Obj) : ((w.alloc (.cells c0 t)).alloc o).setRow w.heap.size c = (w.alloc (.cells c t)).alloc o := by
  simp only [World.setRow, World.alloc]
  congr 1
  apply Array.ext_getElem?
  intro i
  rw [Array.getElem?_modify]
  by_cases h : w.heap.size = i
  · subst h
    simp [Array.getElem?_push]
  · have h' : ¬ i = w.heap.size := fun e => h e.symm
    simp [h, h', Array.getElem?_push]
theorem v_size_int' : (Try.prog.info? 3).map (·.size) = some 1 := by kernel_rfl
/-- Two Fault variables. -/
structure FC (w W : World) (b c : Nat) (E A G H : Int) : Prop where
  f : RowAt W b 25 #[.int .i64 E, .int .i64 A]
  g : RowAt W c 25 #[.int .i64 G, .int .i64 H]
  below : Below w.heap.size w W
  leb : w.heap.size ≤ b
  lec : w.heap.size ≤ c
  ne : b ≠ c
theorem FC.step {w W W' : World} {b c : Nat} {E A G H : Int} (h : FC w W b c E A G H) (hb : Below W.heap.size W W') : FC w W' b c E A G H := ⟨h.f.below hb h.f.lt, h.g.below hb h.g.lt, h.below.trans (hb.mono h.below.size), h.leb, h.lec, h.ne⟩
theorem FC.alloc {w W : World} {b c : Nat} {E A G H : Int} (h : FC w W b c E A G H) (o : Obj) : FC w (W.alloc o) b c E A G H := ⟨h.f.alloc o, h.g.alloc o, h.below.alloc h.below.size o, h.leb, h.lec, h.ne⟩
theorem FC.setF {w W : World} {b c : Nat} {E A G H : Int} (h : FC w W b c E A G H) (E' A' : Int) : FC w ((W.setCell ⟨b, 0, none⟩ (.int .i64 E')).setCell ⟨b, 1, none⟩ (.int .i64 A')) b c E' A' G H :=
  ⟨(h.f.set 0 (.int .i64 E')).set 1 (.int .i64 A'), (h.g.setOther _ _ (Ne.symm h.ne)).setOther _ _ (Ne.symm h.ne), (h.below.setCell (p := ⟨b, 0, none⟩) h.leb _).setCell (p := ⟨b, 1, none⟩) h.leb _, h.leb, h.lec, h.ne⟩
theorem FC.setG {w W : World} {b c : Nat} {E A G H : Int} (h : FC w W b c E A G H) (E' A' : Int) : FC w ((W.setCell ⟨c, 0, none⟩ (.int .i64 E')).setCell ⟨c, 1, none⟩ (.int .i64 A')) b c E A E' A' :=
  ⟨(h.f.setOther _ _ h.ne).setOther _ _ h.ne, (h.g.set 0 (.int .i64 E')).set 1 (.int .i64 A'), (h.below.setCell (p := ⟨c, 0, none⟩) h.lec _).setCell (p := ⟨c, 1, none⟩) h.lec _, h.leb, h.lec, h.ne⟩
set_option maxRecDepth 100000 in
set_option maxHeartbeats 4000000 in
theorem tcnt_run (t : ByteArray) (cl ms : Int) (N : Nat → Int) (U V n : Nat) (E1 A1 E2 A2 E3 A3 : Int)
    (H1 : Hid (∀ W, Calls Try.prog 7 #[.string t] W fun e w' => e = .returned (.tuple #[.agg (ints 26 N), .agg #[.int .i64 E1, .int .i64 A1]]) ∧ Below W.heap.size W w'))
    (H2 : Hid (∀ W, Calls Try.prog 8 #[.string t] W fun e w' => e = .returned (.tuple #[.agg (ints 26 N), .agg #[.int .i64 E1, .int .i64 A1]]) ∧ Below W.heap.size W w'))
    (H3 : Hid (∀ W, Calls Try.prog 9 #[.string t, .int .i64 cl] W fun e w' => e = .returned (.tuple #[.agg #[.int .i64 (U : Nat), .int .i64 (V : Nat)], .agg #[.int .i64 E2, .int .i64 A2]]) ∧ Below W.heap.size W w'))
    (H4 : Hid (∀ W, Calls Try.prog 10 #[.string t, .int .i64 cl] W fun e w' => e = .returned (.tuple #[.agg #[.int .i64 (U : Nat), .int .i64 (V : Nat)], .agg #[.int .i64 E2, .int .i64 A2]]) ∧ Below W.heap.size W w'))
    (H5 : Hid (∀ W, Calls Try.prog 11 #[.string t, .int .i64 ms] W fun e w' => e = .returned (.tuple #[.int .i64 (n : Nat), .agg #[.int .i64 E3, .int .i64 A3]]) ∧ Below W.heap.size W w'))
    (H6 : Hid (∀ W, Calls Try.prog 12 #[.string t, .int .i64 ms] W fun e w' => e = .returned (.tuple #[.int .i64 (n : Nat), .agg #[.int .i64 E3, .int .i64 A3]]) ∧ Below W.heap.size W w'))
    (w : World) : Calls Try.prog 3 #[.string t, .int .i64 cl, .int .i64 ms] w fun e w' => e = .returned (.bool true) ∧ Below w.heap.size w w' := by
  have hz22 := run_zero' v_zero_cts
  have heq := fun W => run_equalIn_ints (P := Try.prog) W 9998 22 3 26 Try.underlying22 Try.underlying3 v_size_int' N N
  rw [eqI_refl] at heq
  go_enter Try.func3, Try.ntmps3
  go_wp2_with fail
  refine (H1.out _).mono ?_
  rintro e W1 ⟨rfl, hb1⟩
  have l1 := hb1.size
  have r1 := (RowAt.new W1 22 (ints 26 N)).alloc (.cells #[.int .i64 E1, .int .i64 A1] 25)
  have s1 := RowAt.new (W1.alloc (.cells (ints 26 N) 22)) 25 #[.int .i64 E1, .int .i64 A1]
  rw [World.size_alloc] at s1
  have b1 := (hb1.alloc l1 (.cells (ints 26 N) 22)).alloc (by simp; omega) (.cells #[.int .i64 E1, .int .i64 A1] 25)
  clear hb1 H1
  go_wp2_with (first | (refine wpList_store_row rfl 22 _ _ rfl W1.heap.size (ints 26 N) rfl rfl 22 _ ((RowAt.new W1 _ _).alloc _) (by rw [ints_size]; exact v_info_cts) (by simp only [ints_size]) (ints_one _ _) ?_; rw [row_under]))
  refine (H2.out _).mono ?_
  rintro e W2 ⟨rfl, hb2⟩
  have l2 : W1.heap.size + 2 ≤ W2.heap.size := by have := hb2.size; simpa using this
  have r2 := ((r1.below hb2 r1.lt).alloc (.cells (ints 26 N) 22)).alloc (.cells #[.int .i64 E1, .int .i64 A1] 25)
  have q2 := (RowAt.new W2 22 (ints 26 N)).alloc (.cells #[.int .i64 E1, .int .i64 A1] 25)
  have s2 := RowAt.new (W2.alloc (.cells (ints 26 N) 22)) 25 #[.int .i64 E1, .int .i64 A1]
  rw [World.size_alloc] at s2
  have g0 : FC w ((W2.alloc (.cells (ints 26 N) 22)).alloc (.cells #[.int .i64 E1, .int .i64 A1] 25)) (W1.heap.size + 1) (W2.heap.size + 1) E1 A1 E1 A1 := ⟨((s1.below hb2 s1.lt).alloc _).alloc _, s2, ((b1.trans (hb2.mono b1.size)).alloc (by omega) _).alloc (by simp; omega) _, by omega, by omega, by omega⟩
  clear hb2 H2 r1 s1 b1 s2
  have x0 := g0.f.cell (i := 0) rfl
  have x1 := g0.f.cell (i := 1) rfl
  have x2 := g0.g.cell (i := 0) rfl
  have x3 := g0.g.cell (i := 1) rfl
  go_wp2_with (first | (refine wpList_store_row rfl 22 _ _ rfl W2.heap.size (ints 26 N) rfl rfl 22 _ ((RowAt.new W2 _ _).alloc _) (by rw [ints_size]; exact v_info_cts) (by simp only [ints_size]) (ints_one _ _) ?_; rw [row_under]) | refine wpList_load_row rfl 22 _ rfl W1.heap.size rfl 22 (ints 26 N) (0, 0) _ r2 Try.underlying22 rfl (by rw [ints_size]; exact v_info_cts) ?_ | refine wpList_load_row rfl 22 _ rfl W2.heap.size rfl 22 (ints 26 N) (0, 0) _ q2 Try.underlying22 rfl (by rw [ints_size]; exact v_info_cts) ?_)
  refine (H3.out _).mono ?_
  rintro e W3 ⟨rfl, hb3⟩
  have g1 := g0.step hb3
  have l3 : W2.heap.size + 1 < W3.heap.size := (g0.g.below hb3 g0.g.lt).lt
  have l5 : W1.heap.size + 1 < W3.heap.size := by omega
  have m1 : ¬ W1.heap.size + 1 = W3.heap.size := by omega
  have m2 : ¬ W3.heap.size = W1.heap.size + 1 := by omega
  have m3 : ¬ W2.heap.size + 1 = W3.heap.size := by omega
  have m4 : ¬ W3.heap.size = W2.heap.size + 1 := by omega
  have hne1 : W1.heap.size + 1 ≠ W2.heap.size + 1 := g0.ne
  have hne2 : W2.heap.size + 1 ≠ W1.heap.size + 1 := Ne.symm hne1
  clear hb3 H3 g0 x0 x1 x2 x3 r2 q2
  have x0 := g1.f.cell (i := 0) rfl
  have x1 := g1.f.cell (i := 1) rfl
  have x2 := g1.g.cell (i := 0) rfl
  have x3 := g1.g.cell (i := 1) rfl
  have x4 := g1.f.frozen 0
  have x5 := g1.f.frozen 1
  have x6 := g1.g.frozen 0
  have x7 := g1.g.frozen 1
  have g2 := (g1.setF E2 A2).alloc (.cells #[.int .i64 (U : Nat), .int .i64 (V : Nat)] 29)
  have xr := RowAt.new ((W3.setCell ⟨W1.heap.size + 1, 0, none⟩ (.int .i64 E2)).setCell ⟨W1.heap.size + 1, 1, none⟩ (.int .i64 A2)) 29 #[.int .i64 (U : Nat), .int .i64 (V : Nat)]
  simp only [World.size_setCell] at xr
  clear g1
  go_wp2_with fail
  refine (H4.out _).mono ?_
  rintro e W4 ⟨rfl, hb4⟩
  have g3 := g2.step hb4
  have xr2 := xr.below hb4 xr.lt
  have l4 : W3.heap.size < W4.heap.size := xr2.lt
  have l6 : W1.heap.size + 1 < W4.heap.size := by omega
  have l7 : W2.heap.size + 1 < W4.heap.size := by omega
  have m5 : ¬ W3.heap.size = W4.heap.size := by omega
  have m6 : ¬ W4.heap.size = W3.heap.size := by omega
  clear hb4 H4 g2 xr
  clear x0 x1 x2 x3 x4 x5 x6 x7
  have x0 := g3.f.cell (i := 0) rfl
  have x1 := g3.f.cell (i := 1) rfl
  have x2 := g3.g.cell (i := 0) rfl
  have x3 := g3.g.cell (i := 1) rfl
  have x4 := g3.f.frozen 0
  have x5 := g3.f.frozen 1
  have x6 := g3.g.frozen 0
  have x7 := g3.g.frozen 1
  have g4 := (g3.setG E2 A2).alloc (.cells #[.int .i64 (U : Nat), .int .i64 (V : Nat)] 29)
  have xr3 := ((xr2.setOther ⟨W2.heap.size + 1, 0, none⟩ (.int .i64 E2) m4).setOther ⟨W2.heap.size + 1, 1, none⟩ (.int .i64 A2) m4).alloc (.cells #[.int .i64 (U : Nat), .int .i64 (V : Nat)] 29)
  have yr := RowAt.new ((W4.setCell ⟨W2.heap.size + 1, 0, none⟩ (.int .i64 E2)).setCell ⟨W2.heap.size + 1, 1, none⟩ (.int .i64 A2)) 29 #[.int .i64 (U : Nat), .int .i64 (V : Nat)]
  simp only [World.size_setCell] at yr
  have z0 := xr3.cell (i := 0) rfl
  have z1 := xr3.cell (i := 1) rfl
  have z2 := yr.cell (i := 0) rfl
  have z3 := yr.cell (i := 1) rfl
  have u0 := g4.f.cell (i := 0) rfl
  have u1 := g4.f.cell (i := 1) rfl
  have u2 := g4.g.cell (i := 0) rfl
  have u3 := g4.g.cell (i := 1) rfl
  clear g3 xr2
  go_wp2_with fail
  refine (H5.out _).mono ?_
  rintro e W5 ⟨rfl, hb5⟩
  have g5 := g4.step hb5
  clear hb5 H5 g4 xr3 yr z0 z1 z2 z3 u0 u1 u2 u3
  clear x0 x1 x2 x3 x4 x5 x6 x7
  have x0 := g5.f.cell (i := 0) rfl
  have x1 := g5.f.cell (i := 1) rfl
  have x2 := g5.g.cell (i := 0) rfl
  have x3 := g5.g.cell (i := 1) rfl
  have x4 := g5.f.frozen 0
  have x5 := g5.f.frozen 1
  have x6 := g5.g.frozen 0
  have x7 := g5.g.frozen 1
  have g6 := g5.setF E3 A3
  clear g5
  go_wp2_with fail
  refine (H6.out _).mono ?_
  rintro e W6 ⟨rfl, hb6⟩
  have g7 := g6.step hb6
  clear hb6 H6 g6
  clear x0 x1 x2 x3 x4 x5 x6 x7
  have x0 := g7.f.cell (i := 0) rfl
  have x1 := g7.f.cell (i := 1) rfl
  have x2 := g7.g.cell (i := 0) rfl
  have x3 := g7.g.cell (i := 1) rfl
  have x4 := g7.f.frozen 0
  have x5 := g7.f.frozen 1
  have x6 := g7.g.frozen 0
  have x7 := g7.g.frozen 1
  have g8 := g7.setG E3 A3
  have u0 := g8.f.cell (i := 0) rfl
  have u1 := g8.f.cell (i := 1) rfl
  have u2 := g8.g.cell (i := 0) rfl
  have u3 := g8.g.cell (i := 1) rfl
  clear g7
  go_wp2
  go_ret
  exact ⟨rfl, g8.below⟩
end Go.Proofs.Yteomoeaoboaclae
