/-
  Law's same, of two lists of any length; a type's length.
-/
import Derived.Test.YtlgjgppojdamiaaPSameL
import Derived.Test.YtlgjgppojdamiaaPTurn
namespace Go.Proofs.Ytlgjgppojdamiaa
open Go.RowKit PK

theorem type_len (p : Nat → Nat) : (typeOf p).length ≤ 1000000 := by
  have := tyDown_len (cnt (Pm.cycs p 26)) (fun n => Nat.le_trans (cnt_le _ n) (Pm.cycs_len p 26)) 26
  unfold typeOf
  omega
theorem sameL_any (a b : List Nat) (B B' : Nat) (u v : Value) (w : World) (ha : OwnsN w B u a) (hb : OwnsN w B' v b) (hmax : a.length ≤ 1000000) :
    Calls Try.prog 28 #[u, v] w fun e w' => e = .returned (.bool (a == b)) ∧ Below w.heap.size w w' := by
  by_cases h : a.length = b.length
  · exact same_vals a b B B' u v w ha hb h hmax
  · refine (same_len a b B B' u v w ha hb h).mono ?_
    rintro e w' ⟨rfl, rfl⟩
    have : (a == b) = false := by
      rw [beq_eq_false_iff_ne]
      rintro rfl
      exact h rfl
    rw [this]
    exact ⟨rfl, Below.refl _ _⟩
end Go.Proofs.Ytlgjgppojdamiaa
