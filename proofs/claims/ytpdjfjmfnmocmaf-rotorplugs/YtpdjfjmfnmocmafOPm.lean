/-
  The document's Wrong and Back of chapter 2.
-/
import Derived.Test.YtpdjfjmfnmocmafPWrong
import Derived.Test.YtpdjfjmfnmocmafPBuild
import Derived.Deep.QuietTactic
import Derived.BigQuiet
import Derived.OrdersHeld
namespace Go.Proofs.Ytpdjfjmfnmocmaf
open Go.RowKit PK

theorem built_perm : Try.prog.built 25 [] = some (ints 26 fun _ => 0) := by kernel_rfl
section
variable {ops : Array Oper} {rest : List Oper} {op : Oper} {a : Act} {w : World} {Q : Exit → Act → World → Prop}
theorem load_perm {w : World} (hw : Region.wanted op (yielded ops a.tmps) = true) (x : Operand) (ho : op.op = .load 25 x) (g : Nat) (hx : a.eval x = .pointer (some ⟨g, 0, none⟩)) (f : Nat → Int) (hr : RowAt w g 25 (ints 26 f))
    (h : wpList Try.prog ops Q rest (a.put op.dst (.agg (ints 26 f))) w) : wpList Try.prog ops Q (op :: rest) a w :=
  wpList_step fun K hK => by
    rw [if_pos hw]
    exact wp_load_row 25 x ho g hx 25 (ints 26 f) (0, 0) _ hr Try.underlying25 rfl (by rw [ints_size]; exact info_perm) (hK _ _ h)
end
theorem run_slice_perm (b k : Nat) (hk : k ≤ 26) (W : World) : (Instr.sliceAt 25 (.pointer (some ⟨b, 0, none⟩)) none (some (.int .i64 (k : Int))) none).run Try.prog W = .ok (.slice (some ⟨b, 0, none⟩) k 26) W := by
  have ha : Try.prog.arrayLen 25 = 26 := by kernel_rfl
  have he : Try.prog.elem 25 = 3 := by kernel_rfl
  have h1 := run_sliceAt_array_h (P := Try.prog) W 25 ⟨b, 0, none⟩ (by rw [ha, he]; exact Try.underlying25) .i64 (k : Int) (by omega) (by rw [ha]; omega)
  rw [h1, ha, he]
  cases hq : Try.prog.info? 3 with
  | none => have := info_int; simp [hq] at this
  | some i =>
    have hs : i.size = 1 := by have := info_int; simpa [hq] using this
    simp [sizeOf, typeInfo, hq, hs, slicedAt, Addr.add_mid]
theorem after1r {w W1 : World} {T : TypeId} {f z : Nat → Int} (hb : Below ((w.alloc (.cells (ints 26 f) T)).alloc (.cells (ints 26 z) T)).heap.size ((w.alloc (.cells (ints 26 f) T)).alloc (.cells (ints 26 z) T)) W1) :
    RowAt W1 w.heap.size T (ints 26 f) ∧ RowAt W1 (w.heap.size + 1) T (ints 26 z) ∧ Below w.heap.size w W1 ∧ w.heap.size + 2 ≤ W1.heap.size := by
  have hs := hb.size
  simp at hs
  exact ⟨RowAt.below ((RowAt.new w _ _).alloc _) hb (by simp; omega), RowAt.below (RowAt.newAt (by simp)) hb (by simp), (((Below.refl _ _).alloc (Nat.le_refl _) _).alloc (by simp) _).trans (hb.mono (by simp; omega)), hs⟩
def fillTo (v : Nat → Int) (k : Nat) : Nat → Int := fun i => if i < k then v i else 0
theorem fillTo_step (v : Nat → Int) (k : Nat) : upd (fillTo v k) k (v k) = fillTo v (k + 1) := by
  funext i
  unfold fillTo upd
  by_cases e : i = k
  · subst e; simp
  · by_cases h : i < k
    · simp [e, h]; omega
    · have : ¬ i < k + 1 := by omega
      simp [e, h, this]
theorem fillTo_zero (v : Nat → Int) : ints 26 (fillTo v 0) = ints 26 fun _ => 0 := ints_ext fun i _ => by simp [fillTo]
theorem fillTo_all (v : Nat → Int) : ints 26 (fillTo v 26) = ints 26 v := ints_ext fun i hi => by simp [fillTo, hi]
end Go.Proofs.Ytpdjfjmfnmocmaf
