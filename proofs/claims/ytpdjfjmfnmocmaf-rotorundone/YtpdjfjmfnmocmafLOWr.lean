/-
  RotorWrites, for any Write, Known and Mirror that say what the document's say.
-/
import Derived.Test.YtpdjfjmfnmocmafLOUnd
import Derived.Test.YtpdjfjmfnmocmafORKw
import Derived.Test.YtpdjfjmfnmocmafPEq
namespace Go.Proofs.Ytpdjfjmfnmocmaf
open Go.RowKit PK Vg

theorem run_neq_perm (f : Nat → Int) (w : World) : (Op.equalIn 10000 25 (.agg (ints 26 f)) (.agg (ints 26 f))).run Try.prog w = .ok true w := by
  have := run_equalIn_ints (P := Try.prog) w 9998 25 3 26 Try.underlying25 Try.underlying3 info_int f f
  rw [eqI_refl] at this
  exact this
theorem nums_new {W : World} {v : Value} {n : Nat} {f : Nat → Int} (h : NumsAt W v n f) (o : Obj) (c : Array Value) : NumsAt ((W.alloc o).setRow W.heap.size c) v n f := by
  obtain ⟨a, cap, rfl, h2, h3⟩ := h
  refine ⟨a, cap, rfl, h2, fun i hi => ?_⟩
  obtain ⟨b, p, rfl, hcell⟩ := h3 i hi
  have hl := cell_block hcell
  exact ⟨b, p, rfl, (cell_setRow_other (W.alloc o) W.heap.size c ⟨b, p + i, none⟩ (by simp at hl ⊢; omega)).trans ((World.cell?_alloc_lt _ _ _ hl).trans hcell)⟩
/-- Two wheels' variables. -/
structure WwS (w W : World) (q1 q2 : Nat) (f : Nat → Int) (R1 R2 : Value) (n : Nat) (k : Nat → Int) : Prop where
  a : RowAt W q1 44 (whl f R1)
  b : RowAt W q2 44 (whl f R2)
  n1 : NumsAt W R1 n k
  n2 : NumsAt W R2 n k
  below : Below w.heap.size w W
theorem WwS.drew {w W : World} {q1 q2 : Nat} {f : Nat → Int} {R1 R2 : Value} {n : Nat} {k : Nat → Int} (h : WwS w W q1 q2 f R1 R2 n k) : WwS w W.drew q1 q2 f R1 R2 n k := ⟨h.a, h.b, h.n1, h.n2, h.below.drew⟩
theorem below_row {B : Nat} {w W : World} (h : Below B w W) (q : Nat) (hq : B ≤ q) (c : Array Value) : Below B w (W.setRow q c) := Below.setRow h q hq c
end Go.Proofs.Ytpdjfjmfnmocmaf
