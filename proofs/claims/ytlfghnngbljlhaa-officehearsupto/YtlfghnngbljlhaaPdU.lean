/-
  Contracts of the document's Chances and Split (chapter 14).
-/
import Derived.Test.YtlfghnngbljlhaaPdT
namespace Go.Proofs.Ytlfghnngbljlhaa
open Go.RowKit PK Pd

theorem one_before {N c s k : Nat} (hc : c < N) (hs : s < N) (hk : k < N) : (s + k) % N = c ↔ k = lst N c s := by
  constructor
  · intro h
    refine add_inj hs hk (lst_lt (by omega) _ _) ?_
    rw [h, add_lst hc hs]
  · rintro rfl
    exact add_lst hc hs
/-- What has been found for sign c ahead of key k. -/
def fnd (x q k : Nat) : List Nat := if q < k then [x] else []
theorem fnd_zero (x q : Nat) : fnd x q 0 = [] := by unfold fnd; rw [if_neg (by omega)]
theorem fnd_hit (x q : Nat) : fnd x q (q + 1) = fnd x q q ++ [x] := by unfold fnd; rw [if_pos (by omega), if_neg (by omega)]; rfl
theorem fnd_miss {x q k : Nat} (h : k ≠ q) : fnd x q (k + 1) = fnd x q k := by
  unfold fnd
  by_cases e : q < k
  · rw [if_pos e, if_pos (by omega)]
  · rw [if_neg e, if_neg (by omega)]
theorem fnd_all {x q N : Nat} (h : q < N) : fnd x q N = [x] := by unfold fnd; rw [if_pos h]
theorem fnd_len (x q k : Nat) : (fnd x q k).length ≤ 1 := by unfold fnd; split <;> simp
end Go.Proofs.Ytlfghnngbljlhaa
