/-
  Several texts, joined: PEq, LOWr.
-/
import Derived.Test.YtibkcgjofcfoaaaPKit
import Derived.Test.YtibkcgjofcfoaaaJn5
import Derived.Test.YtibkcgjofcfoaaaORKw
/-
  Laws of no program: '==' between two arrays of numbers.
-/
namespace Go.Proofs.Ytibkcgjofcfoaaa.PK
open Go.RowKit
def eqI (n : Nat) (f g : Nat → Int) : Bool := (List.range n).all fun i => f i == g i
theorem eqI_iff (n : Nat) (f g : Nat → Int) : eqI n f g = true ↔ ∀ i, i < n → f i = g i := by simp [eqI]
theorem eqI_refl (n : Nat) (f : Nat → Int) : eqI n f f = true := (eqI_iff n f f).2 fun _ _ => rfl
theorem eqI_of {n : Nat} {f g : Nat → Int} (h : ∀ i, i < n → f i = g i) : eqI n f g = true := (eqI_iff n f g).2 h
theorem run_part_ints {P : Program} (w : World) (e : TypeId) (he : P.underlying e = some (.int .i64)) (n : Nat) (f : Nat → Int) (i : Nat) (hi : i < n) : (part e (ints n f) i).run P w = .ok (.int .i64 (f i)) w := by
  simp [part, isAgg, Sem.run_bind, run_underlying he, ints_get f hi]
theorem run_equalIn_ints {P : Program} (w : World) (d : Nat) (t e : TypeId) (n : Nat) (hu : P.underlying t = some (.array n e)) (he : P.underlying e = some (.int .i64)) (hs : (P.info? e).map (·.size) = some 1) (f g : Nat → Int) :
    (Op.equalIn (d + 2) t (.agg (ints n f)) (.agg (ints n g))).run P w = .ok (eqI n f g) w := by
  cases hq : P.info? e with
  | none => simp [hq] at hs
  | some i =>
    have h1 : i.size = 1 := by simpa [hq] using hs
    have hsz : ∀ W, (sizeOf e).run P W = .ok 1 W := fun W => by simp [sizeOf, typeInfo, hq, h1]
    rw [Op.equalIn]
    simp only [Sem.run_bind, run_underlying hu, Result.andThen_ok, hsz, Nat.mul_one, Std.Legacy.Range.forIn_eq_forIn_range', Std.Legacy.Range.size, Nat.sub_zero, Nat.add_sub_cancel, Nat.div_one]
    unfold eqI
    rw [List.range_eq_range']
    have hL : ∀ i ∈ List.range' 0 n, i < n := fun i hi => by simp at hi; omega
    revert hL
    generalize List.range' 0 n = L
    intro hL
    induction L with
    | nil => simp
    | cons s L ih =>
      have hs' : s < n := hL s (by simp)
      have ih' := ih fun i hi => hL i (by simp [hi])
      rw [List.forIn_cons]
      simp only [Sem.run_bind, run_part_ints w e he n f s hs', run_part_ints w e he n g s hs', Result.andThen_ok, run_equalIn_int w d e .i64 .i64 (f s) (g s) he, List.all_cons]
      cases hb : (f s == g s)
      · simp
      · simp only [Bool.not_true, Bool.false_eq_true, if_false, Sem.run_pure, Result.andThen_ok, Bool.true_and]
        exact ih'
end Go.Proofs.Ytibkcgjofcfoaaa.PK

/-
  RotorWrites, for any Write, Known and Mirror that say what the document's say.
-/
namespace Go.Proofs.Ytibkcgjofcfoaaa
open Go.RowKit PK Vg

theorem run_neq_perm (f : Nat → Int) (w : World) : (Op.equalIn 10000 25 (.agg (ints 26 f)) (.agg (ints 26 f))).run Try.prog w = .ok true w := by
  have := run_equalIn_ints (P := Try.prog) w 9998 25 3 26 Try.underlying25 Try.underlying3 info_int f f
  rw [eqI_refl] at this
  exact this
theorem nums_new {W : World} {v : Value} {n : Nat} {f : Nat → Int} (h : NumsAt W v n f) (o : Obj) (c : Array Value) : NumsAt ((W.alloc o).setRow W.heap.size c) v n f := by
  obtain ⟨a, cap, rfl, h2, h3⟩ := h
  refine ⟨a, cap, rfl, h2, fun i hi => ?_⟩
  obtain ⟨b, p, rfl, hcell⟩ := h3 i hi
  have hl := cell_block hcell
  exact ⟨b, p, rfl, (cell_setRow_other (W.alloc o) W.heap.size c ⟨b, p + i, none⟩ (by simp at hl ⊢; omega)).trans ((World.cell?_alloc_lt _ _ _ hl).trans hcell)⟩
/-- Two wheels' variables. -/
structure WwS (w W : World) (q1 q2 : Nat) (f : Nat → Int) (R1 R2 : Value) (n : Nat) (k : Nat → Int) : Prop where
  a : RowAt W q1 40 (whl f R1)
  b : RowAt W q2 40 (whl f R2)
  n1 : NumsAt W R1 n k
  n2 : NumsAt W R2 n k
  below : Below w.heap.size w W
theorem WwS.drew {w W : World} {q1 q2 : Nat} {f : Nat → Int} {R1 R2 : Value} {n : Nat} {k : Nat → Int} (h : WwS w W q1 q2 f R1 R2 n k) : WwS w W.drew q1 q2 f R1 R2 n k := ⟨h.a, h.b, h.n1, h.n2, h.below.drew⟩
theorem below_row {B : Nat} {w W : World} (h : Below B w W) (q : Nat) (hq : B ≤ q) (c : Array Value) : Below B w (W.setRow q c) := Below.setRow h q hq c
end Go.Proofs.Ytibkcgjofcfoaaa
