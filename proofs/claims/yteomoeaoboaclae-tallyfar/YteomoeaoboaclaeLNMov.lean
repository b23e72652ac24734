/-
  TallyMoved, walked: whatever tally's Shift and Chi are, if they say this.
-/
import Derived.Test.YteomoeaoboaclaeLNFar
namespace Go.Proofs.Yteomoeaoboaclae
open Go.RowKit PK Vg Tl Fl

theorem str_one (W : World) {b : Nat} (hb : b < 26) : (convert 46 9 (.slice (some ⟨W.heap.size, 0, none⟩) 1 1)).run Try.prog (W.alloc (.cells #[.int .u8 (65 + (b : Int))] 5)) = .ok (.string ⟨#[ltr b]⟩) (W.alloc (.cells #[.int .u8 (65 + (b : Int))] 5)) := by
  have e : (Lib.byteCells [ltr b]).toArray = #[.int .u8 (65 + (b : Int))] := by
    simp [Lib.byteCells, ltr_toNat hb]
  exact run_string_of_row (P := Try.prog) _ 46 9 5 Try.underlying46 Try.underlying5 Try.underlying9 (l := [ltr b]) (T := 5) rfl (by rw [e]; exact RowAt.new W _ _)
theorem FW.alloc {w W : World} {F : Nat → Nat} {b c : Nat} {E A G H : Int} (h : FW w W F b c E A G H) (o : Obj) : FW w (W.alloc o) F b c E A G H := ⟨h.row.alloc o, h.f.alloc o, h.g.alloc o, h.below.alloc h.below.size o, h.leb, h.lec, h.ne⟩
/-- The weights alone. -/
structure WR (w W : World) (F : Nat → Nat) : Prop where
  row : RowAt W w.heap.size 36 (flts F)
  below : Below w.heap.size w W
theorem WR.new (w : World) (F : Nat → Nat) : WR w (w.alloc (.cells (flts F) 36)) F := ⟨RowAt.new w _ _, (Below.refl _ w).alloc (Nat.le_refl _) _⟩
theorem WR.step {w W W' : World} {F : Nat → Nat} (h : WR w W F) (hb : Below W.heap.size W W') : WR w W' F := ⟨h.row.below hb h.row.lt, h.below.trans (hb.mono h.below.size)⟩
theorem WR.alloc {w W : World} {F : Nat → Nat} (h : WR w W F) (o : Obj) : WR w (W.alloc o) F := ⟨h.row.alloc o, h.below.alloc h.below.size o⟩
set_option maxRecDepth 100000 in
set_option maxHeartbeats 4000000 in
theorem tmov_a (t : ByteArray) (F : Nat → Nat) (b : Int) (hb : b < 0 ∨ 25 < b) (HA : Hid (∀ W, Calls Try.prog 18 #[] W fun e w' => e = .returned (.bool true) ∧ Below W.heap.size W w')) (w : World) : Calls Try.prog 6 #[.string t, .agg (flts F), .int .i64 b] w fun e w' => e = .returned (.bool true) ∧ Below w.heap.size w w' := by
  have h0 := WR.new w F
  go_enter Try.func6, Try.ntmps6
  go_wp2_with fail
  refine (HA.out _).mono ?_
  rintro e W0 ⟨rfl, hb⟩
  have h1 := h0.step hb
  clear hb h0
  by_cases hc : b < 0
  · go_wp2
    go_ret
    exact ⟨rfl, h1.below⟩
  · have hc2 : 25 < b := by omega
    clear hb
    go_wp2
    go_ret
    exact ⟨rfl, h1.below⟩
set_option maxRecDepth 100000 in
set_option maxHeartbeats 4000000 in
theorem tmov_b (t S : ByteArray) (F : Nat → Nat) (b : Nat) (hb : b < 26) (E A : Int) (hE : (E != 0) = true) (HA : Hid (∀ W, Calls Try.prog 18 #[] W fun e w' => e = .returned (.bool true) ∧ Below W.heap.size W w')) (HW : Hid (∀ W, Calls Try.prog 19 #[.int .i64 1, .string ⟨#[ltr b]⟩, .string t] W fun e w' => e = .returned (.tuple #[.string S, .agg #[.int .i64 E, .int .i64 A]]) ∧ Below W.heap.size W w')) (w : World) : Calls Try.prog 6 #[.string t, .agg (flts F), .int .i64 (b : Nat)] w fun e w' => e = .returned (.bool true) ∧ Below w.heap.size w w' := by
  have hb1 : ¬ (b : Int) < 0 := by omega
  have hb2 : ¬ (25 : Int) < (b : Int) := by omega
  have h0 := WR.new w F
  go_enter Try.func6, Try.ntmps6
  go_wp2_with fail
  refine (HA.out _).mono ?_
  rintro e W0 ⟨rfl, hb⟩
  have h1 := h0.step hb
  clear hb h0
  have hs0 := str_one W0 hb
  go_wp2_with fail
  refine (HW.out _).mono ?_
  rintro e W1 ⟨rfl, hb'⟩
  have h2 := (h1.alloc (.cells #[.int .u8 (65 + (b : Int))] 5)).step hb'
  have l1 : w.heap.size < W1.heap.size := h2.row.lt
  clear hb' h1 hs0
  have h3 := h2.alloc (.cells #[.int .i64 E, .int .i64 A] 25)
  go_wp2
  go_ret
  exact ⟨rfl, h3.below⟩
set_option maxRecDepth 100000 in
set_option maxHeartbeats 4000000 in
theorem tmov_c (t S : ByteArray) (F : Nat → Nat) (b n m : Nat) (hb : b < 26) (E A : Int) (hE : (E != 0) = true) (HA : Hid (∀ W, Calls Try.prog 18 #[] W fun e w' => e = .returned (.bool true) ∧ Below W.heap.size W w')) (HW : Hid (∀ W, Calls Try.prog 19 #[.int .i64 1, .string ⟨#[ltr b]⟩, .string t] W fun e w' => e = .returned (.tuple #[.string S, .agg #[.int .i64 0, .int .i64 0]]) ∧ Below W.heap.size W w')) (H1 : Hid (∀ W, Calls Try.prog 16 #[.string t, .agg (flts F)] W fun e w' => e = .returned (.tuple #[.int .i64 (n : Nat), .agg #[.int .i64 E, .int .i64 A]]) ∧ Below W.heap.size W w')) (H2 : Hid (∀ W, Calls Try.prog 16 #[.string S, .agg (flts F)] W fun e w' => e = .returned (.tuple #[.int .i64 (m : Nat), .agg #[.int .i64 E, .int .i64 A]]) ∧ Below W.heap.size W w')) (w : World) : Calls Try.prog 6 #[.string t, .agg (flts F), .int .i64 (b : Nat)] w fun e w' => e = .returned (.bool true) ∧ Below w.heap.size w w' := by
  have hb1 : ¬ (b : Int) < 0 := by omega
  have hb2 : ¬ (25 : Int) < (b : Int) := by omega
  have h0 := WR.new w F
  go_enter Try.func6, Try.ntmps6
  go_wp2_with fail
  refine (HA.out _).mono ?_
  rintro e W0 ⟨rfl, hb⟩
  have h1 := h0.step hb
  clear hb h0
  have hs0 := str_one W0 hb
  go_wp2_with fail
  refine (HW.out _).mono ?_
  rintro e W1 ⟨rfl, hb'⟩
  have h2 := (h1.alloc (.cells #[.int .u8 (65 + (b : Int))] 5)).step hb'
  have l1 : w.heap.size < W1.heap.size := h2.row.lt
  clear hb' h1 hs0
  have s1 := RowAt.new W1 25 #[.int .i64 0, .int .i64 0]
  have h3 := h2.alloc (.cells #[.int .i64 0, .int .i64 0] 25)
  clear h2
  go_wp2_with (first | refine wpList_load_row rfl 36 _ rfl w.heap.size rfl 36 (flts F) (0, 0) _ h3.row Try.underlying36 rfl (by rw [flts_size]; exact v_size_w) ?_)
  refine (H1.out _).mono ?_
  rintro e W2 ⟨rfl, hb'⟩
  have s2 := s1.below hb' s1.lt
  have h4 := h3.step hb'
  have c0 := s2.cell (i := 0) rfl
  have c1 := s2.cell (i := 1) rfl
  have f0 := s2.frozen 0
  have f1 := s2.frozen 1
  have s3 := (s2.set 0 (.int .i64 E)).set 1 (.int .i64 A)
  have h5 : WR w ((W2.setCell ⟨W1.heap.size, 0, none⟩ (.int .i64 E)).setCell ⟨W1.heap.size, 1, none⟩ (.int .i64 A)) F := ⟨(h4.row.setOther _ _ (Nat.ne_of_lt l1)).setOther _ _ (Nat.ne_of_lt l1), (h4.below.setCell (p := ⟨W1.heap.size, 0, none⟩) (Nat.le_of_lt l1) _).setCell (p := ⟨W1.heap.size, 1, none⟩) (Nat.le_of_lt l1) _⟩
  clear hb' s1 h3 h4
  go_wp2_with (first | refine wpList_load_row rfl 36 _ rfl w.heap.size rfl 36 (flts F) (0, 0) _ h5.row Try.underlying36 rfl (by rw [flts_size]; exact v_size_w) ?_)
  refine (H2.out _).mono ?_
  rintro e W3 ⟨rfl, hb'⟩
  have l3 : W1.heap.size < W3.heap.size := (s3.below hb' s3.lt).lt
  have g0 : FW w (W3.alloc (.cells #[.int .i64 E, .int .i64 A] 25)) F W1.heap.size W3.heap.size E A E A := ⟨((h5.step hb').alloc _).row, (s3.below hb' s3.lt).alloc _, RowAt.new W3 _ _, ((h5.step hb').alloc _).below, l1, by omega, by omega⟩
  clear hb' s3 h5 c0 c1 f0 f1 s2
  have hne1 : W1.heap.size ≠ W3.heap.size := g0.ne
  have hne2 : W3.heap.size ≠ W1.heap.size := Ne.symm hne1
  have x0 := g0.f.cell (i := 0) rfl
  have x1 := g0.f.cell (i := 1) rfl
  have x2 := g0.g.cell (i := 0) rfl
  have x3 := g0.g.cell (i := 1) rfl
  go_wp2
  go_ret
  exact ⟨rfl, g0.below⟩
set_option maxRecDepth 100000 in
set_option maxHeartbeats 4000000 in
theorem tmov_d (t S T U : ByteArray) (F : Nat → Nat) (b n m x y : Nat) (hb : b < 26) (hn : n < 26) (hm : m < 26) (hxy : D.order x y = some .eq) (HA : Hid (∀ W, Calls Try.prog 18 #[] W fun e w' => e = .returned (.bool true) ∧ Below W.heap.size W w')) (HW : Hid (∀ W, Calls Try.prog 19 #[.int .i64 1, .string ⟨#[ltr b]⟩, .string t] W fun e w' => e = .returned (.tuple #[.string S, .agg #[.int .i64 0, .int .i64 0]]) ∧ Below W.heap.size W w')) (H1 : Hid (∀ W, Calls Try.prog 16 #[.string t, .agg (flts F)] W fun e w' => e = .returned (.tuple #[.int .i64 (n : Nat), .agg #[.int .i64 0, .int .i64 0]]) ∧ Below W.heap.size W w')) (H2 : Hid (∀ W, Calls Try.prog 16 #[.string S, .agg (flts F)] W fun e w' => e = .returned (.tuple #[.int .i64 (m : Nat), .agg #[.int .i64 0, .int .i64 0]]) ∧ Below W.heap.size W w')) (HR1 : Hid (∀ W, Calls Try.prog 20 #[.int .i64 1, .string ⟨#[ltr n]⟩, .string t] W fun e w' => e = .returned (.tuple #[.string T, .agg #[.int .i64 0, .int .i64 0]]) ∧ Below W.heap.size W w')) (HR2 : Hid (∀ W, Calls Try.prog 20 #[.int .i64 1, .string ⟨#[ltr m]⟩, .string S] W fun e w' => e = .returned (.tuple #[.string U, .agg #[.int .i64 0, .int .i64 0]]) ∧ Below W.heap.size W w')) (HC1 : Hid (∀ W, Calls Try.prog 13 #[.string T, .agg (flts F)] W fun e w' => e = .returned (.tuple #[.float .f64 x, .agg #[.int .i64 0, .int .i64 0]]) ∧ Below W.heap.size W w')) (HC2 : Hid (∀ W, Calls Try.prog 13 #[.string U, .agg (flts F)] W fun e w' => e = .returned (.tuple #[.float .f64 y, .agg #[.int .i64 0, .int .i64 0]]) ∧ Below W.heap.size W w')) (w : World) : Calls Try.prog 6 #[.string t, .agg (flts F), .int .i64 (b : Nat)] w fun e w' => e = .returned (.bool true) ∧ Below w.heap.size w w' := by
  have hxy2 : (FloatKind.f64.format.order x y == some .eq) = true := by
    show (D.order x y == some .eq) = true
    rw [hxy]
    rfl
  have hb1 : ¬ (b : Int) < 0 := by omega
  have hb2 : ¬ (25 : Int) < (b : Int) := by omega
  have h0 := WR.new w F
  go_enter Try.func6, Try.ntmps6
  go_wp2_with fail
  refine (HA.out _).mono ?_
  rintro e W0 ⟨rfl, hb⟩
  have h1 := h0.step hb
  clear hb h0
  have hs0 := str_one W0 hb
  go_wp2_with fail
  refine (HW.out _).mono ?_
  rintro e W1 ⟨rfl, hb'⟩
  have h2 := (h1.alloc (.cells #[.int .u8 (65 + (b : Int))] 5)).step hb'
  have l1 : w.heap.size < W1.heap.size := h2.row.lt
  clear hb' h1 hs0
  have s1 := RowAt.new W1 25 #[.int .i64 0, .int .i64 0]
  have h3 := h2.alloc (.cells #[.int .i64 0, .int .i64 0] 25)
  clear h2
  go_wp2_with (first | refine wpList_load_row rfl 36 _ rfl w.heap.size rfl 36 (flts F) (0, 0) _ h3.row Try.underlying36 rfl (by rw [flts_size]; exact v_size_w) ?_)
  refine (H1.out _).mono ?_
  rintro e W2 ⟨rfl, hb'⟩
  have s2 := s1.below hb' s1.lt
  have h4 := h3.step hb'
  have c0 := s2.cell (i := 0) rfl
  have c1 := s2.cell (i := 1) rfl
  have f0 := s2.frozen 0
  have f1 := s2.frozen 1
  have s3 := (s2.set 0 (.int .i64 0)).set 1 (.int .i64 0)
  have h5 : WR w ((W2.setCell ⟨W1.heap.size, 0, none⟩ (.int .i64 0)).setCell ⟨W1.heap.size, 1, none⟩ (.int .i64 0)) F := ⟨(h4.row.setOther _ _ (Nat.ne_of_lt l1)).setOther _ _ (Nat.ne_of_lt l1), (h4.below.setCell (p := ⟨W1.heap.size, 0, none⟩) (Nat.le_of_lt l1) _).setCell (p := ⟨W1.heap.size, 1, none⟩) (Nat.le_of_lt l1) _⟩
  clear hb' s1 h3 h4
  go_wp2_with (first | refine wpList_load_row rfl 36 _ rfl w.heap.size rfl 36 (flts F) (0, 0) _ h5.row Try.underlying36 rfl (by rw [flts_size]; exact v_size_w) ?_)
  refine (H2.out _).mono ?_
  rintro e W3 ⟨rfl, hb'⟩
  have l3 : W1.heap.size < W3.heap.size := (s3.below hb' s3.lt).lt
  have g0 : FW w (W3.alloc (.cells #[.int .i64 0, .int .i64 0] 25)) F W1.heap.size W3.heap.size 0 0 0 0 := ⟨((h5.step hb').alloc _).row, (s3.below hb' s3.lt).alloc _, RowAt.new W3 _ _, ((h5.step hb').alloc _).below, l1, by omega, by omega⟩
  clear hb' s3 h5 c0 c1 f0 f1 s2
  have hne1 : W1.heap.size ≠ W3.heap.size := g0.ne
  have hne2 : W3.heap.size ≠ W1.heap.size := Ne.symm hne1
  have x0 := g0.f.cell (i := 0) rfl
  have x1 := g0.f.cell (i := 1) rfl
  have x2 := g0.g.cell (i := 0) rfl
  have x3 := g0.g.cell (i := 1) rfl
  have x4 := g0.f.frozen 0
  have x5 := g0.f.frozen 1
  have x6 := g0.g.frozen 0
  have x7 := g0.g.frozen 1
  have hs1 := str_one (W3.alloc (.cells #[.int .i64 0, .int .i64 0] 25)) hn
  rw [World.size_alloc] at hs1
  go_wp2_with fail
  refine (HR1.out _).mono ?_
  rintro e W4 ⟨rfl, hb'⟩
  have g1 := (g0.alloc (.cells #[.int .u8 (65 + (n : Int))] 5)).step hb'
  clear hb' g0 hs1 HR1
  clear x0 x1 x2 x3 x4 x5 x6 x7
  have x0 := g1.f.cell (i := 0) rfl
  have x1 := g1.f.cell (i := 1) rfl
  have x2 := g1.g.cell (i := 0) rfl
  have x3 := g1.g.cell (i := 1) rfl
  have x4 := g1.f.frozen 0
  have x5 := g1.f.frozen 1
  have x6 := g1.g.frozen 0
  have x7 := g1.g.frozen 1
  have g2 := g1.setF 0 0
  have hs2 := str_one ((W4.setCell ⟨W1.heap.size, 0, none⟩ (.int .i64 0)).setCell ⟨W1.heap.size, 1, none⟩ (.int .i64 0)) hm
  simp only [World.size_setCell] at hs2
  clear g1
  go_wp2_with fail
  refine (HR2.out _).mono ?_
  rintro e W5 ⟨rfl, hb'⟩
  have g3 := (g2.alloc (.cells #[.int .u8 (65 + (m : Int))] 5)).step hb'
  clear hb' g2 hs2 HR2
  clear x0 x1 x2 x3 x4 x5 x6 x7
  have x0 := g3.f.cell (i := 0) rfl
  have x1 := g3.f.cell (i := 1) rfl
  have x2 := g3.g.cell (i := 0) rfl
  have x3 := g3.g.cell (i := 1) rfl
  have x4 := g3.f.frozen 0
  have x5 := g3.f.frozen 1
  have x6 := g3.g.frozen 0
  have x7 := g3.g.frozen 1
  have g4 := g3.setG 0 0
  have y0 := g4.f.cell (i := 0) rfl
  have y1 := g4.f.cell (i := 1) rfl
  have y2 := g4.g.cell (i := 0) rfl
  have y3 := g4.g.cell (i := 1) rfl
  clear g3
  go_wp2_with (first | refine wpList_load_row rfl 36 _ rfl w.heap.size rfl 36 (flts F) (0, 0) _ g4.row Try.underlying36 rfl (by rw [flts_size]; exact v_size_w) ?_)
  refine (HC1.out _).mono ?_
  rintro e W6 ⟨rfl, hb'⟩
  have g5 := g4.step hb'
  clear hb' g4 HC1 y0 y1 y2 y3
  clear x0 x1 x2 x3 x4 x5 x6 x7
  have x0 := g5.f.cell (i := 0) rfl
  have x1 := g5.f.cell (i := 1) rfl
  have x2 := g5.g.cell (i := 0) rfl
  have x3 := g5.g.cell (i := 1) rfl
  have x4 := g5.f.frozen 0
  have x5 := g5.f.frozen 1
  have x6 := g5.g.frozen 0
  have x7 := g5.g.frozen 1
  have g6 := g5.setF 0 0
  clear g5
  go_wp2_with (first | refine wpList_load_row rfl 36 _ rfl w.heap.size rfl 36 (flts F) (0, 0) _ g6.row Try.underlying36 rfl (by rw [flts_size]; exact v_size_w) ?_)
  refine (HC2.out _).mono ?_
  rintro e W7 ⟨rfl, hb'⟩
  have g7 := g6.step hb'
  clear hb' g6 HC2
  clear x0 x1 x2 x3 x4 x5 x6 x7
  have x0 := g7.f.cell (i := 0) rfl
  have x1 := g7.f.cell (i := 1) rfl
  have x2 := g7.g.cell (i := 0) rfl
  have x3 := g7.g.cell (i := 1) rfl
  have x4 := g7.f.frozen 0
  have x5 := g7.f.frozen 1
  have x6 := g7.g.frozen 0
  have x7 := g7.g.frozen 1
  have g8 := g7.setG 0 0
  have y0 := g8.f.cell (i := 0) rfl
  have y1 := g8.f.cell (i := 1) rfl
  have y2 := g8.g.cell (i := 0) rfl
  have y3 := g8.g.cell (i := 1) rfl
  clear g7
  go_wp2
  go_ret
  exact ⟨rfl, g8.below⟩
end Go.Proofs.Yteomoeaoboaclae
