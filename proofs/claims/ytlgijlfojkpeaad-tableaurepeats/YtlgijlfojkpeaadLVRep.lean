/-
  TableauRepeats, walked.
-/
import Derived.Test.YtlgijlfojkpeaadVCom
import Derived.Test.YtlgijlfojkpeaadVRef
namespace Go.Proofs.Ytlgijlfojkpeaad
open Go.RowKit PK Vg

theorem wf_le2 {n : Int} (h : (Lit.int .i64 n).wf = true) : -9223372036854775808 ≤ n ∧ n ≤ 9223372036854775807 := by
  have h1 : (decide (IntKind.i64.min ≤ n) && decide (n ≤ IntKind.i64.max)) = true := h
  rw [Bool.and_eq_true, decide_eq_true_eq, decide_eq_true_eq] at h1
  exact h1
set_option maxRecDepth 100000 in
set_option maxHeartbeats 2000000 in
theorem repeats_any (t : ByteArray) (n : Int) (v : Value) (len : Nat) (f g : Nat → Int) (w : World) (hv : PairsAt w v len f g) (hwf : (Lit.int .i64 n).wf = true) : Calls Try.prog 3 #[.string t, .int .i64 n, v] w fun e w' => e = .returned (.bool true) ∧ Below w.heap.size w w' := by
  have hn := (wf_le2 hwf).2
  have HP := (show Hid (∀ W, Calls Try.prog 6 #[.string t, .int .i64 n] W fun e w' => ∃ v, e = .returned (.tuple #[v, .agg #[.int .i64 (rpE t.data.toList n), .int .i64 (rpAt t.data.toList)]]) ∧ PairsAt w' v (rpS t.data.toList n).length (fun k => (((rpS t.data.toList n).getD k (0, 0)).1 : Nat)) (fun k => (((rpS t.data.toList n).getD k (0, 0)).2 : Nat)) ∧ Below W.heap.size W w') from fun W => vrep_any t n hn W)
  have HR := (show Hid (∀ W, Calls Try.prog 7 #[.string t, .int .i64 n] W fun e w' => ∃ v, e = .returned (.tuple #[v, .agg #[.int .i64 (rpE t.data.toList n), .int .i64 (rpAt t.data.toList)]]) ∧ PairsAt w' v (rpS t.data.toList n).length (fun k => (((rpS t.data.toList n).getD k (0, 0)).1 : Nat)) (fun k => (((rpS t.data.toList n).getD k (0, 0)).2 : Nat)) ∧ Below W.heap.size W w') from fun W => rrep_any t n hn W)
  have HC := (show Hid (∀ W, Below w.heap.size w W → Calls Try.prog 9 #[v] W fun e w' => e = .returned (.tuple #[.int .i64 (comN g len), .int .i64 (comE g len)]) ∧ Below W.heap.size W w') from fun W hW => vcom_any v len f g W (hv.below hW))
  have HD := (show Hid (∀ W, Below w.heap.size w W → Calls Try.prog 10 #[v] W fun e w' => e = .returned (.tuple #[.int .i64 (comN g len), .int .i64 (comE g len)]) ∧ Below W.heap.size W w') from fun W hW => rcom_any v len f g W (hv.below hW))
  have HS := (show Hid (∀ (x y : Value) (W : World), PairsAt W x (rpS t.data.toList n).length (fun k => (((rpS t.data.toList n).getD k (0, 0)).1 : Nat)) (fun k => (((rpS t.data.toList n).getD k (0, 0)).2 : Nat)) → PairsAt W y (rpS t.data.toList n).length (fun k => (((rpS t.data.toList n).getD k (0, 0)).1 : Nat)) (fun k => (((rpS t.data.toList n).getD k (0, 0)).2 : Nat)) → Calls Try.prog 8 #[x, y] W fun e w' => e = .returned (.bool true) ∧ Below W.heap.size W w') from fun x y W hx hy => vsame_ok x y _ _ _ W hx hy)
  generalize (rpS t.data.toList n).length = L at *
  generalize (fun k => (((rpS t.data.toList n).getD k (0, 0)).1 : Nat) : Nat → Int) = A at *
  generalize (fun k => (((rpS t.data.toList n).getD k (0, 0)).2 : Nat) : Nat → Int) = B at *
  generalize rpE t.data.toList n = E at *
  generalize rpAt t.data.toList = F at *
  generalize comN g len = X at *
  generalize comE g len = Y at *
  clear hv hwf hn
  go_enter Try.func3, Try.ntmps3
  go_wp2_with fail
  refine (HP.out _).mono ?_
  rintro e W1 ⟨v1, rfl, p1, hb1⟩
  have hc1 := hb1.alloc hb1.size (.cells #[.int .i64 E, .int .i64 F] 25)
  have r1 := RowAt.new W1 25 #[.int .i64 E, .int .i64 F]
  have q1 := p1.below ((Below.refl _ _).alloc (Nat.le_refl _) (.cells #[.int .i64 E, .int .i64 F] 25))
  clear hb1 p1 HP
  go_wp2_with fail
  refine (HR.out _).mono ?_
  rintro e W2 ⟨v2, rfl, p2, hb2⟩
  have hc2 := (hc1.trans (hb2.mono hc1.size)).alloc (by have := hc1.size; have := hb2.size; omega) (.cells #[.int .i64 E, .int .i64 F] 25)
  have r2 := (r1.below hb2 r1.lt).alloc (.cells #[.int .i64 E, .int .i64 F] 25)
  have r3 := RowAt.new W2 25 #[.int .i64 E, .int .i64 F]
  have q2 := (q1.below hb2).below ((Below.refl _ _).alloc (Nat.le_refl _) (.cells #[.int .i64 E, .int .i64 F] 25))
  have q3 := p2.below ((Below.refl _ _).alloc (Nat.le_refl _) (.cells #[.int .i64 E, .int .i64 F] 25))
  clear hb2 p2 HR hc1 r1 q1
  go_wp2_with fail
  refine (HS.out _ _ _ q2 q3).mono ?_
  rintro e W3 ⟨rfl, hb3⟩
  have hc3 := hc2.trans (hb3.mono hc2.size)
  have r4 := r2.below hb3 r2.lt
  have r5 := r3.below hb3 r3.lt
  have a0 := r4.cell (i := 0) rfl
  have a1 := r4.cell (i := 1) rfl
  have b0 := r5.cell (i := 0) rfl
  have b1 := r5.cell (i := 1) rfl
  clear hb3 q2 q3 hc2 r2 r3 r4 r5 HS
  go_wp2_with fail
  refine (HC.out _ hc3).mono ?_
  rintro e W4 ⟨rfl, hb4⟩
  have hc4 := hc3.trans (hb4.mono hc3.size)
  clear hb4 hc3 a0 a1 b0 b1 HC
  go_wp2_with fail
  refine (HD.out _ hc4).mono ?_
  rintro e W5 ⟨rfl, hb5⟩
  have hc5 := hc4.trans (hb5.mono hc4.size)
  clear hb5 hc4 HD
  go_wp2
  go_ret
  exact ⟨rfl, hc5⟩
end Go.Proofs.Ytlgijlfojkpeaad
