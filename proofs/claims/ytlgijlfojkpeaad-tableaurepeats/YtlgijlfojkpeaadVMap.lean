/-
  Laws of no program: a map from pieces to the last place that was met, walking from the end.
-/
import Derived.Test.YtlgijlfojkpeaadVMath
import Derived.Maps.OwnSet
namespace Go.Proofs.Ytlgijlfojkpeaad.Vg
open Go.Maps

/-- D tells of each piece the first place from a on, among n, at which it stands. -/
def Looks (D : DataW Unit) (p : Nat → List UInt8) (a n : Nat) : Prop :=
  IsMap D ∧ ∀ q, (nx p q a n = none → Maps.has D (.string q) = false) ∧ ∀ k, nx p q a n = some k → Maps.has D (.string q) = true ∧ D.atKey (.string q) (.lit (.int .i64 0)) = .lit (.int .i64 k)
theorem looks_none (p : Nat → List UInt8) (a : Nat) : Looks (.map []) p a 0 := ⟨isMap_empty, fun _ => ⟨fun _ => rfl, fun k h => by simp [nx] at h⟩⟩
theorem looks_put {D : DataW Unit} {p : Nat → List UInt8} {a n : Nat} (h : Looks D p (a + 1) n) : Looks (D.put (.string (p a)) (.lit (.int .i64 a))) p a (n + 1) := by
  obtain ⟨hm, hl⟩ := h
  refine ⟨hm.put _ _, fun q => ?_⟩
  by_cases e : p a = q
  · subst e
    have hk : WideAt.IsKeyLit (.string (p a)) := by first | trivial | (simp [WideAt.IsKeyLit])
    have e1 : nx p (p a) a (n + 1) = some a := by simp [nx]
    rw [e1]
    refine ⟨fun h => by simp at h, fun k h => ?_⟩
    cases h
    exact ⟨has_put_same hm hk _, atKey_put_same hm hk _ _⟩
  · have e1 : nx p q a (n + 1) = nx p q (a + 1) n := by simp [nx, e]
    have hne : Lit.string q ≠ Lit.string (p a) := fun h => e (by cases h; rfl)
    rw [e1, has_put_other hne, atKey_put_other hne]
    exact hl q
end Go.Proofs.Ytlgijlfojkpeaad.Vg
