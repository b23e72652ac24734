/-
  The plain mathematics of groups that are cut off one by one: they are the same groups.
-/
import Derived.Test.YtfpjjddbggjpaaaPlain
namespace Go.Proofs.Ytfpjjddbggjpaaa.Pl

def gapN (W : Int) (n : Nat) : List UInt8 := if 0 < n then (if (n : Int) % W = 0 then [10] else [32]) else []
theorem gapL_gapN (L W : Int) (hL : 1 ≤ L) (m n : Nat) (h : (m : Int) = n * L) : gapL L W m = gapN W n := by
  unfold gapL gapN
  have hmod : (m : Int) % L = 0 := by rw [h]; exact Int.mul_emod_left _ _
  have hdiv : (m : Int) / L = n := by rw [h]; exact Int.mul_ediv_cancel _ (by omega)
  rw [hdiv]
  by_cases hn : 0 < n
  · have hm : 0 < m := by
      have h1 : (1 : Int) * L ≤ n * L := Int.mul_le_mul_of_nonneg_right (by omega) (by omega)
      omega
    rw [if_pos ⟨hm, hmod⟩, if_pos hn]
  · have hn0 : n = 0 := by omega
    subst hn0
    have hm : m = 0 := by simp at h; omega
    subst hm
    rw [if_neg (by omega), if_neg (by omega)]
/-- A whole group, or what is left of one, behind its gap. -/
theorem grp_run (L W : Int) (hL : 1 ≤ L) (l : List UInt8) (m n : Nat) (h : (m : Int) = n * L) : ∀ k : Nat, 1 ≤ k → (k : Int) ≤ L → m + k ≤ l.length → grp L W l (m + k) = grp L W l m ++ gapN W n ++ (l.drop m).take k
  | 0, h0, _, _ => by omega
  | 1, _, _, hl => by
    rw [grp, gapL_gapN L W hL m n h, List.append_assoc, List.append_assoc]
    congr 2
    rw [List.drop_eq_getElem_cons (by omega)]
    simp only [List.take_succ_cons, List.take_zero, List.getD, List.getElem?_eq_getElem (show m < l.length by omega)]
    rfl
  | k + 2, _, hk, hl => by
    have ih := grp_run L W hL l m n h (k + 1) (by omega) (by omega) (by omega)
    have hno : ¬ (0 < m + (k + 1) ∧ ((m + (k + 1) : Nat) : Int) % L = 0) := by
      rintro ⟨_, hz⟩
      have e : ((m + (k + 1) : Nat) : Int) = ((k + 1 : Nat) : Int) + L * n := by rw [Int.natCast_add, h, Int.mul_comm, Int.add_comm]
      rw [e, Int.add_mul_emod_self_left, Int.emod_eq_of_lt (by omega) (by omega)] at hz
      omega
    show grp L W l (m + (k + 1)) ++ gapL L W (m + (k + 1)) ++ [l.getD (m + (k + 1)) 0] = _
    rw [ih, gapL_no L W _ hno, List.append_nil, List.append_assoc (grp L W l m ++ gapN W n)]
    congr 1
    have hlen : k + 1 < (l.drop m).length := by rw [List.length_drop]; omega
    rw [List.take_succ_eq_append_getElem hlen]
    congr 1
    simp only [List.getElem_drop, List.getD, List.getElem?_eq_getElem (show m + (k + 1) < l.length by omega)]
    rfl
end Go.Proofs.Ytfpjjddbggjpaaa.Pl
