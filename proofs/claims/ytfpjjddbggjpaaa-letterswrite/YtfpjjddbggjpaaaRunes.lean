/-
  The plain mathematics of a table of pairs, row by row and rune by rune: it is the same table.
-/
import Derived.Test.YtfpjjddbggjpaaaPlain
namespace Go.Proofs.Ytfpjjddbggjpaaa.Pl

def runesN : Nat → List UInt8 → List Int
  | 0, _ => []
  | n + 1, l => if l = [] then [] else ((decL l).1 : Int) :: runesN n (l.drop (decL l).2)
def runes (l : List UInt8) : List Int := runesN l.length l
theorem runesN_enough : ∀ (n m : Nat) (l : List UInt8), l.length ≤ n → l.length ≤ m → runesN n l = runesN m l := by
  intro n
  induction n with
  | zero =>
    intro m l hn _
    have : l = [] := List.eq_nil_of_length_eq_zero (by omega)
    subst this
    cases m <;> simp [runesN]
  | succ n ih =>
    intro m l hn hm
    cases m with
    | zero =>
      have : l = [] := List.eq_nil_of_length_eq_zero (by omega)
      subst this
      simp [runesN]
    | succ m =>
      unfold runesN
      split
      · rfl
      · have := decL_pos l
        rw [ih m]
        · rw [List.length_drop]; omega
        · rw [List.length_drop]; omega
theorem runes_step (l : List UInt8) (h : l ≠ []) : runes l = ((decL l).1 : Int) :: runes (l.drop (decL l).2) := by
  have hp := decL_pos l
  unfold runes
  cases hl : l.length with
  | zero => exact absurd (List.eq_nil_of_length_eq_zero hl) h
  | succ n =>
    rw [runesN, if_neg h]
    congr 1
    apply runesN_enough
    · rw [List.length_drop]; omega
    · exact Nat.le_refl _
theorem runes_drop (l : List UInt8) (pos : Nat) (h : pos < l.length) : runes (l.drop pos) = ((decL (l.drop pos)).1 : Int) :: runes (l.drop (pos + (decL (l.drop pos)).2)) := by
  rw [runes_step (l.drop pos) (by intro e; have := congrArg List.length e; simp at this; omega), List.drop_drop]
def rows : List (List UInt8 × List UInt8) :=
  [([195, 132, 195, 164, 195, 134, 195, 166], [65, 69]),
   ([195, 150, 195, 182, 195, 152, 195, 184, 197, 146, 197, 147], [79, 69]),
   ([195, 156, 195, 188], [85, 69]), ([195, 159], [83, 83]), ([195, 133, 195, 165], [65, 65]),
   ([195, 137, 195, 169, 195, 136, 195, 168, 195, 138, 195, 170], [69]),
   ([195, 128, 195, 160, 195, 130, 195, 162, 196, 132, 196, 133], [65]),
   ([195, 135, 195, 167, 196, 134, 196, 135], [67]), ([197, 129, 197, 130], [76]),
   ([197, 131, 197, 132, 195, 145, 195, 177], [78]), ([197, 154, 197, 155], [83]),
   ([197, 185, 197, 186, 197, 187, 197, 188], [90]), ([46, 63, 33], [88])]
def rowOf (p : List UInt8 × List UInt8) : List (Int × List UInt8) := (runes p.1).map fun c => (c, p.2)
def flat (rs : List (List UInt8 × List UInt8)) : List (Int × List UInt8) := rs.flatMap rowOf
theorem flat_rows : flat rows = tab := by decide +kernel
theorem flat_cons (p : List UInt8 × List UInt8) (rs : List (List UInt8 × List UInt8)) : flat (p :: rs) = (runes p.1).map (fun c => (c, p.2)) ++ flat rs := rfl
/-- What is left of the table: of row k what stands from pos on, and the rows behind. -/
def left (r : Int) (k pos : Nat) : List UInt8 := look r (((runes ((rows.getD k ([], [])).1.drop pos)).map fun c => (c, (rows.getD k ([], [])).2)) ++ flat (rows.drop (k + 1)))
theorem left_start (r : Int) : left r 0 0 = spell r := by
  unfold spell
  rw [← flat_rows]
  rfl
theorem left_hit (r : Int) (k pos : Nat) (hp : pos < (rows.getD k ([], [])).1.length) (h : (((decL ((rows.getD k ([], [])).1.drop pos)).1 : Int) == r) = true) : left r k pos = (rows.getD k ([], [])).2 := by
  unfold left
  rw [runes_drop _ pos hp, List.map_cons, List.cons_append, look]
  rw [if_pos (by rw [← eq_of_beq h]; simp)]
theorem left_miss (r : Int) (k pos : Nat) (hp : pos < (rows.getD k ([], [])).1.length) (h : (((decL ((rows.getD k ([], [])).1.drop pos)).1 : Int) == r) = false) : left r k pos = left r k (pos + (decL ((rows.getD k ([], [])).1.drop pos)).2) := by
  unfold left
  rw [runes_drop _ pos hp, List.map_cons, List.cons_append, look]
  rw [if_neg]
  intro e
  rw [beq_eq_false_iff_ne] at h
  exact h (eq_of_beq e).symm
theorem left_next (r : Int) (k pos : Nat) (hk : k < 13) (hp : ¬ pos < (rows.getD k ([], [])).1.length) : left r k pos = if k + 1 < 13 then left r (k + 1) 0 else [] := by
  unfold left
  rw [List.drop_of_length_le (by omega)]
  show look r (flat (rows.drop (k + 1))) = _
  split
  · rename_i h
    have h13 : rows.length = 13 := rfl
    rw [List.drop_eq_getElem_cons (by omega), flat_cons]
    simp only [List.drop_zero, List.getD, List.getElem?_eq_getElem (show k + 1 < rows.length by omega)]
    rfl
  · have : rows.drop (k + 1) = [] := List.drop_of_length_le (by show 13 ≤ k + 1; omega)
    rw [this]
    rfl
theorem row_len (k : Nat) (hk : k < 13) : 1 ≤ (rows.getD k ([], [])).1.length ∧ (rows.getD k ([], [])).1.length ≤ 12 := by
  have : ∀ k, k < 13 → 1 ≤ (rows.getD k ([], [])).1.length ∧ (rows.getD k ([], [])).1.length ≤ 12 := by decide
  exact this k hk
end Go.Proofs.Ytfpjjddbggjpaaa.Pl
