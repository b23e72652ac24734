/-
  SquareWrites, walked.
-/
import Derived.Test.YtmabamlhhmjbaadZRRd
namespace Go.Proofs.Ytmabamlhhmjbaad
open Go.RowKit PK Vg Zq

/-- Two Fault variables. -/
structure FG (w W : World) (b c : Nat) (E A F G : Int) : Prop where
  f : RowAt W b 25 #[.int .i64 E, .int .i64 A]
  g : RowAt W c 25 #[.int .i64 F, .int .i64 G]
  below : Below w.heap.size w W
  leb : w.heap.size ≤ b
  lec : w.heap.size ≤ c
  ne : b ≠ c
theorem FG.step {w W W' : World} {b c : Nat} {E A F G : Int} (h : FG w W b c E A F G) (hb : Below W.heap.size W W') : FG w W' b c E A F G := ⟨h.f.below hb h.f.lt, h.g.below hb h.g.lt, h.below.trans (hb.mono h.below.size), h.leb, h.lec, h.ne⟩
theorem FG.setF {w W : World} {b c : Nat} {E A F G : Int} (h : FG w W b c E A F G) (E' A' : Int) : FG w ((W.setCell ⟨b, 0, none⟩ (.int .i64 E')).setCell ⟨b, 1, none⟩ (.int .i64 A')) b c E' A' F G :=
  ⟨(h.f.set 0 (.int .i64 E')).set 1 (.int .i64 A'), (h.g.setOther _ _ (Ne.symm h.ne)).setOther _ _ (Ne.symm h.ne), (h.below.setCell (p := ⟨b, 0, none⟩) h.leb _).setCell (p := ⟨b, 1, none⟩) h.leb _, h.leb, h.lec, h.ne⟩
theorem FG.setG {w W : World} {b c : Nat} {E A F G : Int} (h : FG w W b c E A F G) (E' A' : Int) : FG w ((W.setCell ⟨c, 0, none⟩ (.int .i64 E')).setCell ⟨c, 1, none⟩ (.int .i64 A')) b c E A E' A' :=
  ⟨(h.f.setOther _ _ h.ne).setOther _ _ h.ne, (h.g.set 0 (.int .i64 E')).set 1 (.int .i64 A'), (h.below.setCell (p := ⟨c, 0, none⟩) h.lec _).setCell (p := ⟨c, 1, none⟩) h.lec _, h.leb, h.lec, h.ne⟩
theorem FG.start {w W1 W2 : World} {E A : Int} (hb1 : Below w.heap.size w W1) (hb2 : Below (W1.alloc (.cells #[.int .i64 E, .int .i64 A] 25)).heap.size (W1.alloc (.cells #[.int .i64 E, .int .i64 A] 25)) W2) : FG w (W2.alloc (.cells #[.int .i64 E, .int .i64 A] 25)) W1.heap.size W2.heap.size E A E A := by
  have r1 := RowAt.new W1 25 #[.int .i64 E, .int .i64 A]
  have l1 := hb1.size
  have l2 := hb2.size
  simp at l2
  exact ⟨(r1.below hb2 r1.lt).alloc _, RowAt.new W2 _ _, ((hb1.alloc hb1.size _).trans (hb2.mono (by simp; omega))).alloc (by omega) _, l1, by omega, by omega⟩
set_option maxRecDepth 100000 in
set_option maxHeartbeats 4000000 in
theorem zwrites_run (key t R1 R2 R3 R4 : ByteArray) (E1 A1 E2 A2 E3 A3 E4 A4 : Int)
    (H1 : Hid (∀ W, Calls Try.prog 18 #[.string key] W fun e w' => e = .returned (.tuple #[.string R1, .agg #[.int .i64 E1, .int .i64 A1]]) ∧ Below W.heap.size W w'))
    (H2 : Hid (∀ W, Calls Try.prog 19 #[.string key] W fun e w' => e = .returned (.tuple #[.string R1, .agg #[.int .i64 E1, .int .i64 A1]]) ∧ Below W.heap.size W w'))
    (H3 : Hid (∀ W, Calls Try.prog 20 #[.string t] W fun e w' => e = .returned (.tuple #[.string R2, .agg #[.int .i64 E2, .int .i64 A2]]) ∧ Below W.heap.size W w'))
    (H4 : Hid (∀ W, Calls Try.prog 21 #[.string t] W fun e w' => e = .returned (.tuple #[.string R2, .agg #[.int .i64 E2, .int .i64 A2]]) ∧ Below W.heap.size W w'))
    (H5 : Hid (∀ W, Calls Try.prog 22 #[.string key, .string t] W fun e w' => e = .returned (.tuple #[.string R3, .agg #[.int .i64 E3, .int .i64 A3]]) ∧ Below W.heap.size W w'))
    (H6 : Hid (∀ W, Calls Try.prog 23 #[.string key, .string t] W fun e w' => e = .returned (.tuple #[.string R3, .agg #[.int .i64 E3, .int .i64 A3]]) ∧ Below W.heap.size W w'))
    (H7 : Hid (∀ W, Calls Try.prog 24 #[.string key, .string t] W fun e w' => e = .returned (.tuple #[.string R4, .agg #[.int .i64 E4, .int .i64 A4]]) ∧ Below W.heap.size W w'))
    (H8 : Hid (∀ W, Calls Try.prog 25 #[.string key, .string t] W fun e w' => e = .returned (.tuple #[.string R4, .agg #[.int .i64 E4, .int .i64 A4]]) ∧ Below W.heap.size W w'))
    (w : World) : Calls Try.prog 6 #[.string key, .string t] w fun e w' => e = .returned (.bool true) ∧ Below w.heap.size w w' := by
  go_enter Try.func6, Try.ntmps6
  go_wp2_with fail
  refine (H1.out _).mono ?_
  rintro e W1 ⟨rfl, hb1⟩
  go_wp2_with fail
  refine (H2.out _).mono ?_
  rintro e W2 ⟨rfl, hb2⟩
  have g0 := FG.start hb1 hb2
  clear hb1 hb2 H1 H2
  have hne1 : W1.heap.size ≠ W2.heap.size := g0.ne
  have hne2 : W2.heap.size ≠ W1.heap.size := Ne.symm hne1
  have xa0 := g0.f.cell (i := 0) rfl
  have xa1 := g0.f.cell (i := 1) rfl
  have xa2 := g0.g.cell (i := 0) rfl
  have xa3 := g0.g.cell (i := 1) rfl
  have xa4 := g0.f.frozen 0
  have xa5 := g0.f.frozen 1
  have xa6 := g0.g.frozen 0
  have xa7 := g0.g.frozen 1
  go_wp2_with fail
  refine (H3.out _).mono ?_
  rintro e W3 ⟨rfl, hb⟩
  have ga0 := g0.step hb
  clear xa0 xa1 xa2 xa3 xa4 xa5 xa6 xa7
  clear hb g0 H3
  have xb0 := ga0.f.cell (i := 0) rfl
  have xb1 := ga0.f.cell (i := 1) rfl
  have xb2 := ga0.g.cell (i := 0) rfl
  have xb3 := ga0.g.cell (i := 1) rfl
  have xb4 := ga0.f.frozen 0
  have xb5 := ga0.f.frozen 1
  have xb6 := ga0.g.frozen 0
  have xb7 := ga0.g.frozen 1
  have gb0 := ga0.setF E2 A2
  go_wp2_with fail
  refine (H4.out _).mono ?_
  rintro e W4 ⟨rfl, hb⟩
  have gc0 := gb0.step hb
  clear xb0 xb1 xb2 xb3 xb4 xb5 xb6 xb7
  clear hb ga0 gb0 H4
  have xb0 := gc0.f.cell (i := 0) rfl
  have xb1 := gc0.f.cell (i := 1) rfl
  have xb2 := gc0.g.cell (i := 0) rfl
  have xb3 := gc0.g.cell (i := 1) rfl
  have xb4 := gc0.f.frozen 0
  have xb5 := gc0.f.frozen 1
  have xb6 := gc0.g.frozen 0
  have xb7 := gc0.g.frozen 1
  have gd0 := gc0.setG E2 A2
  have xa0 := gd0.f.cell (i := 0) rfl
  have xa1 := gd0.f.cell (i := 1) rfl
  have xa2 := gd0.g.cell (i := 0) rfl
  have xa3 := gd0.g.cell (i := 1) rfl
  have xa4 := gd0.f.frozen 0
  have xa5 := gd0.f.frozen 1
  have xa6 := gd0.g.frozen 0
  have xa7 := gd0.g.frozen 1
  clear gc0
  go_wp2_with fail
  refine (H5.out _).mono ?_
  rintro e W5 ⟨rfl, hb⟩
  have ga1 := gd0.step hb
  clear xa0 xa1 xa2 xa3 xa4 xa5 xa6 xa7
  clear hb gd0 H5
  have xb0 := ga1.f.cell (i := 0) rfl
  have xb1 := ga1.f.cell (i := 1) rfl
  have xb2 := ga1.g.cell (i := 0) rfl
  have xb3 := ga1.g.cell (i := 1) rfl
  have xb4 := ga1.f.frozen 0
  have xb5 := ga1.f.frozen 1
  have xb6 := ga1.g.frozen 0
  have xb7 := ga1.g.frozen 1
  have gb1 := ga1.setF E3 A3
  go_wp2_with fail
  refine (H6.out _).mono ?_
  rintro e W6 ⟨rfl, hb⟩
  have gc1 := gb1.step hb
  clear xb0 xb1 xb2 xb3 xb4 xb5 xb6 xb7
  clear hb ga1 gb1 H6
  have xb0 := gc1.f.cell (i := 0) rfl
  have xb1 := gc1.f.cell (i := 1) rfl
  have xb2 := gc1.g.cell (i := 0) rfl
  have xb3 := gc1.g.cell (i := 1) rfl
  have xb4 := gc1.f.frozen 0
  have xb5 := gc1.f.frozen 1
  have xb6 := gc1.g.frozen 0
  have xb7 := gc1.g.frozen 1
  have gd1 := gc1.setG E3 A3
  have xa0 := gd1.f.cell (i := 0) rfl
  have xa1 := gd1.f.cell (i := 1) rfl
  have xa2 := gd1.g.cell (i := 0) rfl
  have xa3 := gd1.g.cell (i := 1) rfl
  have xa4 := gd1.f.frozen 0
  have xa5 := gd1.f.frozen 1
  have xa6 := gd1.g.frozen 0
  have xa7 := gd1.g.frozen 1
  clear gc1
  go_wp2_with fail
  refine (H7.out _).mono ?_
  rintro e W7 ⟨rfl, hb⟩
  have ga2 := gd1.step hb
  clear xa0 xa1 xa2 xa3 xa4 xa5 xa6 xa7
  clear hb gd1 H7
  have xb0 := ga2.f.cell (i := 0) rfl
  have xb1 := ga2.f.cell (i := 1) rfl
  have xb2 := ga2.g.cell (i := 0) rfl
  have xb3 := ga2.g.cell (i := 1) rfl
  have xb4 := ga2.f.frozen 0
  have xb5 := ga2.f.frozen 1
  have xb6 := ga2.g.frozen 0
  have xb7 := ga2.g.frozen 1
  have gb2 := ga2.setF E4 A4
  go_wp2_with fail
  refine (H8.out _).mono ?_
  rintro e W8 ⟨rfl, hb⟩
  have gc2 := gb2.step hb
  clear xb0 xb1 xb2 xb3 xb4 xb5 xb6 xb7
  clear hb ga2 gb2 H8
  have xb0 := gc2.f.cell (i := 0) rfl
  have xb1 := gc2.f.cell (i := 1) rfl
  have xb2 := gc2.g.cell (i := 0) rfl
  have xb3 := gc2.g.cell (i := 1) rfl
  have xb4 := gc2.f.frozen 0
  have xb5 := gc2.f.frozen 1
  have xb6 := gc2.g.frozen 0
  have xb7 := gc2.g.frozen 1
  have gd2 := gc2.setG E4 A4
  have xa0 := gd2.f.cell (i := 0) rfl
  have xa1 := gd2.f.cell (i := 1) rfl
  have xa2 := gd2.g.cell (i := 0) rfl
  have xa3 := gd2.g.cell (i := 1) rfl
  have xa4 := gd2.f.frozen 0
  have xa5 := gd2.f.frozen 1
  have xa6 := gd2.g.frozen 0
  have xa7 := gd2.g.frozen 1
  clear gc2
  go_wp2
  go_ret
  exact ⟨rfl, gd2.below⟩
theorem zwrites_any (key t : ByteArray) (w : World) : Calls Try.prog 6 #[.string key, .string t] w fun e w' => e = .returned (.bool true) ∧ Below w.heap.size w w' :=
  zwrites_run key t _ _ _ _ _ _ _ _ _ _ _ _ (fun W => zst_any key W) (fun W => rst_any key W) (fun W => zpr_any t W) (fun W => rpr_any t W) (fun W => zwr_any key t W) (fun W => rwr_any key t W) (fun W => zrd_any key t W) (fun W => rrd_any key t W) w
end Go.Proofs.Ytmabamlhhmjbaad
