/-
  Contracts of the document's inside and Notched (chapter 8).
-/
import Derived.Test.YtpdjfjmfnmocmafOKit
import Derived.Test.YtpdjfjmfnmocmafOPm
import Derived.Test.YtpdjfjmfnmocmafZKit
import Derived.Deep.Upon
import Derived.BigRegion
import Derived.Deep.OwnRows
namespace Go.Proofs.Ytpdjfjmfnmocmaf
open Go.RowKit PK

theorem ins_upto {n : Nat} {f : Nat → Int} {k : Nat} (hk : k < n) (h : f k < 0 ∨ 25 < f k) : ins n f = false := by
  cases e : ins n f with
  | false => rfl
  | true => have := (ins_iff n f).1 e k hk; omega
/-- Does a wheel have a notch there? -/
def hasN (n : Nat) (f : Nat → Int) (a : Int) : Bool := (List.range n).any fun i => f i == a
theorem hasN_true {n : Nat} {f : Nat → Int} {a : Int} {k : Nat} (hk : k < n) (h : f k = a) : hasN n f a = true := by
  unfold hasN
  rw [List.any_eq_true]
  exact ⟨k, by simpa using hk, by simp [h]⟩
theorem hasN_false {n : Nat} {f : Nat → Int} {a : Int} (h : ∀ k, k < n → f k ≠ a) : hasN n f a = false := by
  unfold hasN
  rw [List.any_eq_false]
  intro k hk
  have := h k (by simpa using hk)
  simpa using this
end Go.Proofs.Ytpdjfjmfnmocmaf
