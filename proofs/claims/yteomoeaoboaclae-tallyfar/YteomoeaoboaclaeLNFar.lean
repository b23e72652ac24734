/-
  TallyFar, walked: whatever tally's Chi and Shift are, if they say what the document's say.
-/
import Derived.Test.YteomoeaoboaclaeNRCh
import Derived.BigRegion
namespace Go.Proofs.Yteomoeaoboaclae
open Go.RowKit PK Vg Tl Fl

/-- Two Fault variables, and the weights. -/
structure FW (w W : World) (F : Nat → Nat) (b c : Nat) (E A G H : Int) : Prop where
  row : RowAt W w.heap.size 36 (flts F)
  f : RowAt W b 25 #[.int .i64 E, .int .i64 A]
  g : RowAt W c 25 #[.int .i64 G, .int .i64 H]
  below : Below w.heap.size w W
  leb : w.heap.size < b
  lec : w.heap.size < c
  ne : b ≠ c
theorem FW.step {w W W' : World} {F : Nat → Nat} {b c : Nat} {E A G H : Int} (h : FW w W F b c E A G H) (hb : Below W.heap.size W W') : FW w W' F b c E A G H := ⟨h.row.below hb h.row.lt, h.f.below hb h.f.lt, h.g.below hb h.g.lt, h.below.trans (hb.mono h.below.size), h.leb, h.lec, h.ne⟩
theorem FW.setF {w W : World} {F : Nat → Nat} {b c : Nat} {E A G H : Int} (h : FW w W F b c E A G H) (E' A' : Int) : FW w ((W.setCell ⟨b, 0, none⟩ (.int .i64 E')).setCell ⟨b, 1, none⟩ (.int .i64 A')) F b c E' A' G H :=
  ⟨(h.row.setOther _ _ (Nat.ne_of_lt h.leb)).setOther _ _ (Nat.ne_of_lt h.leb), (h.f.set 0 (.int .i64 E')).set 1 (.int .i64 A'), (h.g.setOther _ _ (Ne.symm h.ne)).setOther _ _ (Ne.symm h.ne), (h.below.setCell (p := ⟨b, 0, none⟩) (Nat.le_of_lt h.leb) _).setCell (p := ⟨b, 1, none⟩) (Nat.le_of_lt h.leb) _, h.leb, h.lec, h.ne⟩
theorem FW.setG {w W : World} {F : Nat → Nat} {b c : Nat} {E A G H : Int} (h : FW w W F b c E A G H) (E' A' : Int) : FW w ((W.setCell ⟨c, 0, none⟩ (.int .i64 E')).setCell ⟨c, 1, none⟩ (.int .i64 A')) F b c E A E' A' :=
  ⟨(h.row.setOther _ _ (Nat.ne_of_lt h.lec)).setOther _ _ (Nat.ne_of_lt h.lec), (h.f.setOther _ _ h.ne).setOther _ _ h.ne, (h.g.set 0 (.int .i64 E')).set 1 (.int .i64 A'), (h.below.setCell (p := ⟨c, 0, none⟩) (Nat.le_of_lt h.lec) _).setCell (p := ⟨c, 1, none⟩) (Nat.le_of_lt h.lec) _, h.leb, h.lec, h.ne⟩
set_option maxRecDepth 100000 in
set_option maxHeartbeats 4000000 in
theorem tfar_run (t : ByteArray) (F : Nat → Nat) (x n : Nat) (E A : Int)
    (H1 : Hid (∀ W, Calls Try.prog 13 #[.string t, .agg (flts F)] W fun e w' => e = .returned (.tuple #[.float .f64 x, .agg #[.int .i64 E, .int .i64 A]]) ∧ Below W.heap.size W w'))
    (H2 : Hid (∀ W, Calls Try.prog 14 #[.string t, .agg (flts F)] W fun e w' => e = .returned (.tuple #[.float .f64 x, .agg #[.int .i64 E, .int .i64 A]]) ∧ Below W.heap.size W w'))
    (H3 : Hid (∀ W, Calls Try.prog 16 #[.string t, .agg (flts F)] W fun e w' => e = .returned (.tuple #[.int .i64 (n : Nat), .agg #[.int .i64 E, .int .i64 A]]) ∧ Below W.heap.size W w'))
    (H4 : Hid (∀ W, Calls Try.prog 17 #[.string t, .agg (flts F)] W fun e w' => e = .returned (.tuple #[.int .i64 (n : Nat), .agg #[.int .i64 E, .int .i64 A]]) ∧ Below W.heap.size W w'))
    (w : World) : Calls Try.prog 4 #[.string t, .agg (flts F)] w fun e w' => e = .returned (.bool true) ∧ Below w.heap.size w w' := by
  have HS := (show Hid (∀ W, Calls Try.prog 15 #[.float .f64 x, .float .f64 x] W fun e w' => e = .returned (.bool true) ∧ W = w') from fun W => by have := same_any x x W; rw [decide_eq_true rfl] at this; exact this)
  have r0 := RowAt.new w 36 (flts F)
  have b0 : Below w.heap.size w (w.alloc (.cells (flts F) 36)) := (Below.refl _ w).alloc (Nat.le_refl _) _
  go_enter Try.func4, Try.ntmps4
  go_wp2_with (first | refine wpList_load_row rfl 36 _ rfl w.heap.size rfl 36 (flts F) (0, 0) _ r0 Try.underlying36 rfl (by rw [flts_size]; exact v_size_w) ?_)
  refine (H1.out _).mono ?_
  rintro e W1 ⟨rfl, hb1⟩
  have l1 : w.heap.size < W1.heap.size := by have := hb1.size; simp at this; omega
  have r1 := (r0.below hb1 r0.lt).alloc (.cells #[.int .i64 E, .int .i64 A] 25)
  have b1 := (b0.trans (hb1.mono b0.size)).alloc (by omega) (.cells #[.int .i64 E, .int .i64 A] 25)
  have s1 := RowAt.new W1 25 #[.int .i64 E, .int .i64 A]
  clear hb1 r0 b0 H1
  go_wp2_with (first | refine wpList_load_row rfl 36 _ rfl w.heap.size rfl 36 (flts F) (0, 0) _ r1 Try.underlying36 rfl (by rw [flts_size]; exact v_size_w) ?_)
  refine (H2.out _).mono ?_
  rintro e W2 ⟨rfl, hb2⟩
  have l2 : W1.heap.size < W2.heap.size := by have := hb2.size; simp at this; omega
  have g0 : FW w (W2.alloc (.cells #[.int .i64 E, .int .i64 A] 25)) F W1.heap.size W2.heap.size E A E A := ⟨(r1.below hb2 r1.lt).alloc _, (s1.below hb2 s1.lt).alloc _, RowAt.new W2 _ _, (b1.trans (hb2.mono b1.size)).alloc (by omega) _, l1, by omega, by omega⟩
  clear hb2 r1 b1 s1 H2
  have hne1 : W1.heap.size ≠ W2.heap.size := g0.ne
  have hne2 : W2.heap.size ≠ W1.heap.size := Ne.symm hne1
  have x0 := g0.f.cell (i := 0) rfl
  have x1 := g0.f.cell (i := 1) rfl
  have x2 := g0.g.cell (i := 0) rfl
  have x3 := g0.g.cell (i := 1) rfl
  go_wp2_with fail
  refine (HS.out _).mono ?_
  rintro e Y ⟨rfl, rfl⟩
  go_wp2_with (first | refine wpList_load_row rfl 36 _ rfl w.heap.size rfl 36 (flts F) (0, 0) _ g0.row Try.underlying36 rfl (by rw [flts_size]; exact v_size_w) ?_)
  refine (H3.out _).mono ?_
  rintro e W3 ⟨rfl, hb3⟩
  have g1 := g0.step hb3
  clear hb3 g0 x0 x1 x2 x3 H3
  have x0 := g1.f.cell (i := 0) rfl
  have x1 := g1.f.cell (i := 1) rfl
  have x4 := g1.f.frozen 0
  have x5 := g1.f.frozen 1
  have g2 := g1.setF E A
  clear g1
  go_wp2_with (first | refine wpList_load_row rfl 36 _ rfl w.heap.size rfl 36 (flts F) (0, 0) _ g2.row Try.underlying36 rfl (by rw [flts_size]; exact v_size_w) ?_)
  refine (H4.out _).mono ?_
  rintro e W4 ⟨rfl, hb4⟩
  have g3 := g2.step hb4
  clear hb4 g2 x0 x1 x4 x5 H4
  have x0 := g3.f.cell (i := 0) rfl
  have x1 := g3.f.cell (i := 1) rfl
  have x2 := g3.g.cell (i := 0) rfl
  have x3 := g3.g.cell (i := 1) rfl
  have x6 := g3.g.frozen 0
  have x7 := g3.g.frozen 1
  have g4 := g3.setG E A
  have y0 := g4.f.cell (i := 0) rfl
  have y1 := g4.f.cell (i := 1) rfl
  have y2 := g4.g.cell (i := 0) rfl
  have y3 := g4.g.cell (i := 1) rfl
  clear g3
  go_wp2
  go_ret
  exact ⟨rfl, g4.below⟩
end Go.Proofs.Yteomoeaoboaclae
