/-
  Contracts of pad's Chances and Secret (chapter 14).
-/
import Derived.Test.YtlfghnngbljlhaaPdP
namespace Go.Proofs.Ytlfghnngbljlhaa
open Go.RowKit PK Pd

def sgS (n s : Int) : Int := if n < 2 ∨ 64 < n then 1 else if s < 0 ∨ n ≤ s then 3 else 0
def wgE (n : Int) (m : Nat) (f : Nat → Int) : Int := if (m : Int) ≠ n then 8 else if wB m f = false then 3 else 0
theorem wtE_split (n s : Int) (m : Nat) (f : Nat → Int) : wtE n s m f = if sgS n s ≠ 0 then sgS n s else wgE n m f := by
  unfold wtE sgS wgE
  by_cases h1 : n < 2 ∨ 64 < n
  · simp only [if_pos h1]; rfl
  simp only [if_neg h1]
  by_cases h2 : s < 0 ∨ n ≤ s
  · simp only [if_pos h2]; rfl
  simp only [if_neg h2]
  rfl
theorem inB_one (n s : Int) : inB n 1 (fun _ => s) = false ↔ (s < 0 ∨ n ≤ s) := by
  have e : inB n 1 (fun _ => s) = (decide (0 ≤ s ∧ s < n) && true) := rfl
  rw [e, Bool.and_true, decide_eq_false_iff_not]
  omega
theorem sgE_sign (n s : Int) : sgE n 1 (fun _ => 1) (fun _ _ => s) = sgS n s := by
  rw [sgE_one]
  unfold sgS
  by_cases h : s < 0 ∨ n ≤ s
  · rw [if_pos h, if_pos ((inB_one n s).2 h)]
  · rw [if_neg h, if_neg (fun e => h ((inB_one n s).1 e))]
theorem sgE_none (n : Int) (L : Nat → Nat) (Z : Nat → Nat → Int) : sgE n 0 L Z = sgS n 0 := by
  unfold sgE sgS
  by_cases h : n < 2 ∨ 64 < n
  · rw [if_pos h, if_pos h]
  · rw [if_neg h, if_neg h, if_pos (by rfl), if_neg (by omega)]
/-- signsWrong(n, []int{s}). -/
theorem psig_one (n s : Int) (w : World) : Calls Try.prog 31 #[.int .i64 n, .slice (some ⟨w.heap.size + 1, 0, none⟩) 1 1] ((w.alloc (.cells #[.int .i64 s] 3)).alloc (.cells #[.slice (some ⟨w.heap.size, 0, none⟩) 1 1] 22)) fun e w' => (w.alloc (.cells #[.int .i64 s] 3)).alloc (.cells #[.slice (some ⟨w.heap.size, 0, none⟩) 1 1] 22) = w' ∧ e = .returned (.int .i64 (sgS n s)) := by
  have h := one_mat (w.alloc (.cells #[.int .i64 s] 3)) _ 1 (fun _ => s) (one_num w s)
  have hz : (w.alloc (.cells #[.int .i64 s] 3)).heap.size = w.heap.size + 1 := by simp
  rw [hz] at h
  have := psig_any n _ 1 _ _ _ h
  rw [sgE_sign] at this
  exact this
end Go.Proofs.Ytlfghnngbljlhaa
