/-
  What is sent is heard: mathematics (chapter 16).
-/
import Derived.Test.YtlfghnngbljlhaaOfOn
namespace Go.Proofs.Ytlfghnngbljlhaa
open Go.RowKit PK Pd

namespace Oc
section
variable (n : Int) (P : Nat) (p : Nat → Int) (L : Nat → Nat) (F : Nat → Nat → Int)
/-- Text i is sent. -/
def sX (i : Nat) : Sp := ⟨0, false, true, false, 0, L i, F i⟩
/-- Where the pad stands ahead of text i. -/
def up : Nat → Nat
  | 0 => 0
  | i + 1 => if txE n (L i) (P - up i) (F i) (on p (up i)) = 0 then up i + L i else up i
def gd (i : Nat) : Bool := decide (txE n (L i) (P - up n P p L F i) (F i) (on p (up n P p L F i)) = 0)
theorem up_le (i : Nat) : up n P p L F i ≤ P := by
  induction i with
  | zero => exact Nat.zero_le _
  | succ i ih =>
    unfold up
    split
    · rename_i h
      have := (txE_zero h).2.2.2.2.2
      omega
    · exact ih
theorem up_next (i : Nat) : up n P p L F (i + 1) = if gd n P p L F i = true then up n P p L F i + L i else up n P p L F i := by
  show (if _ then _ else _) = _
  unfold gd
  simp only [decide_eq_true_eq]
theorem up_mono {i j : Nat} (h : i ≤ j) : up n P p L F i ≤ up n P p L F j := by
  induction h with
  | refl => exact Nat.le_refl _
  | step _ ih =>
    rw [up_next]
    split <;> omega
/-- The sender, behind i texts. -/
theorem at_send (i : Nat) : at' n P p (sX L F) ⟨0, 0, -1, false⟩ i = ⟨(up n P p L F i : Nat), 0, -1, false⟩ := by
  induction i with
  | zero => rfl
  | succ i ih =>
    show nx n P p (pre (at' n P p (sX L F) ⟨0, 0, -1, false⟩ i) (sX L F i)) (sX L F i) = _
    rw [ih]
    have hu : us P ((up n P p L F i : Nat) : Int) = up n P p L F i := us_in (up_le n P p L F i)
    have hp : pre ⟨(up n P p L F i : Nat), 0, -1, false⟩ (sX L F i) = ⟨(up n P p L F i : Nat), 0, -1, false⟩ := rfl
    rw [hp]
    have hE : snE n P p ⟨(up n P p L F i : Nat), 0, -1, false⟩ (sX L F i) = txE n (L i) (P - up n P p L F i) (F i) (on p (up n P p L F i)) := by
      unfold snE txS
      rw [hu]
      show (if false = true then (9 : Int) else if txE n (L i) _ (F i) _ ≠ 0 then txE n (L i) _ (F i) _ else if (-1 : Int) = 0 then 11 else 0) = _
      rw [if_neg (by decide)]
      by_cases h : txE n (L i) (P - up n P p L F i) (F i) (on p (up n P p L F i)) = 0
      · rw [if_neg (by simpa using h), if_neg (by decide), h]
      · rw [if_pos h]
    show snS n P p _ _ = _
    unfold snS
    rw [hE, hu, up_next]
    by_cases h : txE n (L i) (P - up n P p L F i) (F i) (on p (up n P p L F i)) = 0
    · have hg : gd n P p L F i = true := decide_eq_true h
      rw [if_pos h, if_pos hg]
      rfl
    · have hg : ¬ gd n P p L F i = true := by unfold gd; simpa using h
      rw [if_neg h, if_neg hg, if_neg]
      rcases txE_ne (n := n) (nt := L i) (np := P - up n P p L F i) (ft := F i) (fp := on p (up n P p L F i)) with e | e | e | e | e <;> rw [e] <;> decide
/-- What is seen of text i. -/
theorem seen_send (D : Nat) (hE : opE n P p D = 0) (i : Nat) : seen n P p D (sX L F) ⟨0, 0, -1, false⟩ i = ⟨if gd n P p L F i then (up n P p L F i : Nat) else 0, if gd n P p L F i then L i else 0, wrF n (F i) (on p (up n P p L F i)), 0, txE n (L i) (P - up n P p L F i) (F i) (on p (up n P p L F i)), ((P - up n P p L F (i + 1) : Nat) : Int)⟩ := by
  have hu : us P ((up n P p L F i : Nat) : Int) = up n P p L F i := us_in (up_le n P p L F i)
  have h2 := at_send n P p L F (i + 1)
  unfold seen
  rw [if_pos hE]
  unfold sn
  have h3 : nx n P p (pre (at' n P p (sX L F) ⟨0, 0, -1, false⟩ i) (sX L F i)) (sX L F i) = ⟨(up n P p L F (i + 1) : Nat), 0, -1, false⟩ := h2
  rw [h3, at_send]
  have hp : pre ⟨(up n P p L F i : Nat), 0, -1, false⟩ (sX L F i) = ⟨(up n P p L F i : Nat), 0, -1, false⟩ := rfl
  rw [hp]
  have hE : snE n P p ⟨(up n P p L F i : Nat), 0, -1, false⟩ (sX L F i) = txE n (L i) (P - up n P p L F i) (F i) (on p (up n P p L F i)) := by
    unfold snE txS
    rw [hu]
    show (if false = true then (9 : Int) else if txE n (L i) _ (F i) _ ≠ 0 then txE n (L i) _ (F i) _ else if (-1 : Int) = 0 then 11 else 0) = _
    rw [if_neg (by decide)]
    by_cases h : txE n (L i) (P - up n P p L F i) (F i) (on p (up n P p L F i)) = 0
    · rw [if_neg (by simpa using h), if_neg (by decide), h]
    · rw [if_pos h]
  have e1 : sLf P ⟨(up n P p L F (i + 1) : Nat), 0, -1, false⟩ = ((P - up n P p L F (i + 1) : Nat) : Int) := by
    unfold sLf
    show ((P - us P ((up n P p L F (i + 1) : Nat) : Int) : Nat) : Int) = _
    rw [us_in (up_le n P p L F (i + 1))]
  rw [e1]
  unfold sAt sTn sTf er
  have hs : (sX L F i).sd = true := rfl
  rw [hs, hE]
  simp only [if_true, Bool.true_or, hu]
  unfold gd
  by_cases h : txE n (L i) (P - up n P p L F i) (F i) (on p (up n P p L F i)) = 0
  · rw [if_pos h, if_pos h, if_pos (decide_eq_true h), if_pos (decide_eq_true h)]
    rfl
  · rw [if_neg h, if_neg h, if_neg (by simpa using h), if_neg (by simpa using h)]
    rfl
/-- The texts that are sent, ahead of k. -/
def gl : Nat → List Nat
  | 0 => []
  | k + 1 => if gd n P p L F k = true then gl k ++ [k] else gl k
theorem gl_good {k : Nat} : ∀ i, i ∈ gl n P p L F k → gd n P p L F i = true ∧ i < k := by
  induction k with
  | zero => intro i hi; cases hi
  | succ k ih =>
    intro i hi
    unfold gl at hi
    split at hi
    · rename_i h
      rcases List.mem_append.1 hi with h1 | h1
      · have := ih i h1; exact ⟨this.1, by omega⟩
      · simp at h1; subst h1; exact ⟨h, by omega⟩
    · have := ih i hi; exact ⟨this.1, by omega⟩
theorem gl_sorted {k : Nat} : ∀ j, j + 1 < (gl n P p L F k).length → (gl n P p L F k).getD j 0 < (gl n P p L F k).getD (j + 1) 0 := by
  induction k with
  | zero => intro j hj; simp [gl] at hj
  | succ k ih =>
    intro j hj
    unfold gl at hj ⊢
    split at hj
    · rename_i h
      rw [if_pos h]
      simp at hj
      by_cases e : j + 1 < (gl n P p L F k).length
      · have := ih j e
        simp only [List.getD_eq_getElem?_getD] at this ⊢
        rw [List.getElem?_append_left (by omega), List.getElem?_append_left e]
        exact this
      · have hj1 : j + 1 = (gl n P p L F k).length := by omega
        have hm : (gl n P p L F k).getD j 0 ∈ gl n P p L F k := by
          rw [List.getD_eq_getElem?_getD, List.getElem?_eq_getElem (by omega)]
          exact List.getElem_mem _
        have := (gl_good n P p L F _ hm).2
        simp only [List.getD_eq_getElem?_getD] at this ⊢
        rw [List.getElem?_append_left (by omega), List.getElem?_append_right (by omega), hj1]
        simpa using this
    · rename_i h
      rw [if_neg h]
      exact ih j hj
theorem gl_mem {k j : Nat} (hj : j < (gl n P p L F k).length) : gd n P p L F ((gl n P p L F k).getD j 0) = true ∧ (gl n P p L F k).getD j 0 < k := by
  refine gl_good n P p L F _ ?_
  rw [List.getD_eq_getElem?_getD, List.getElem?_eq_getElem hj]
  exact List.getElem_mem _
theorem gl_le {k i : Nat} : ∀ j, i ≤ j → j < (gl n P p L F k).length → (gl n P p L F k).getD i 0 ≤ (gl n P p L F k).getD j 0 := by
  intro j
  induction j with
  | zero => intro h _; rw [show i = 0 by omega]; exact Nat.le_refl _
  | succ j ih =>
    intro h hj
    by_cases e : i = j + 1
    · rw [e]; exact Nat.le_refl _
    · have h1 := ih (by omega) (by omega)
      have h2 := gl_sorted n P p L F j hj
      omega
/-- Message i is taken. -/
def tX (i : Nat) : Sp := ⟨0, false, false, true, (up n P p L F i : Nat), L i, wrF n (F i) (on p (up n P p L F i))⟩
theorem up_good {i : Nat} (h : gd n P p L F i = true) : up n P p L F (i + 1) = up n P p L F i + L i := by rw [up_next, if_pos h]
theorem good_tx {i : Nat} (h : gd n P p L F i = true) : txE n (L i) (P - up n P p L F i) (F i) (on p (up n P p L F i)) = 0 := of_decide_eq_true h
theorem hear_tx {i : Nat} (h : gd n P p L F i = true) : txE n (L i) (P - up n P p L F i) (wrF n (F i) (on p (up n P p L F i))) (on p (up n P p L F i)) = 0 := by
  obtain ⟨h1, h2, h3, h4, h5, h6⟩ := txE_zero (good_tx n P p L F h)
  refine txE_ok h1 h2 (fun j hj => ?_) h4 h5 h6
  unfold wrF
  have hn : 0 < n.toNat := by omega
  have := Nat.mod_lt ((F i j).toNat + (on p (up n P p L F i) j).toNat) hn
  omega
theorem hear_rd {i j : Nat} (h : gd n P p L F i = true) (hj : j < L i) : rdF n (wrF n (F i) (on p (up n P p L F i))) (on p (up n P p L F i)) j = F i j := by
  obtain ⟨h1, h2, h3, h4, h5, h6⟩ := txE_zero (good_tx n P p L F h)
  have hf := h3 j hj
  have hg := h4 j (by omega)
  unfold rdF
  have e : (wrF n (F i) (on p (up n P p L F i)) j).toNat = ((F i j).toNat + (on p (up n P p L F i) j).toNat) % n.toNat := by
    unfold wrF
    omega
  rw [e, lst_add (toNat_lt hf) (toNat_lt hg), toNat_eq hf]
/-- Up to which one signs are used to take, ahead of message j. -/
def bz (G : Nat → Nat) : Nat → Nat
  | 0 => 0
  | j + 1 => up n P p L F (G j) + L (G j)
variable {M : Nat}
theorem bz_le {j : Nat} (hj : j < (gl n P p L F M).length) : bz n P p L F (fun i => (gl n P p L F M).getD i 0) j ≤ up n P p L F ((gl n P p L F M).getD j 0) := by
  cases j with
  | zero => exact Nat.zero_le _
  | succ j =>
    have h1 := gl_sorted n P p L F j hj
    have h2 := (gl_mem n P p L F (k := M) (j := j) (by omega)).1
    show up n P p L F ((gl n P p L F M).getD j 0) + L ((gl n P p L F M).getD j 0) ≤ _
    rw [← up_good n P p L F h2]
    exact up_mono n P p L F h1
theorem bz_P {j : Nat} (hj : j ≤ (gl n P p L F M).length) : bz n P p L F (fun i => (gl n P p L F M).getD i 0) j ≤ P := by
  cases j with
  | zero => exact Nat.zero_le _
  | succ j =>
    have h2 := (gl_mem n P p L F (k := M) (j := j) (by omega)).1
    show up n P p L F ((gl n P p L F M).getD j 0) + L ((gl n P p L F M).getD j 0) ≤ _
    rw [← up_good n P p L F h2]
    exact up_le n P p L F _
theorem tk_zero {j : Nat} (hj : j < (gl n P p L F M).length) : tkE n P p ⟨0, (bz n P p L F (fun i => (gl n P p L F M).getD i 0) j : Nat), -1, false⟩ (tX n P p L F ((gl n P p L F M).getD j 0)) = 0 := by
  have h1 := bz_le n P p L F hj
  have h2 := up_le n P p L F ((gl n P p L F M).getD j 0)
  have h3 := hear_tx n P p L F (gl_mem n P p L F hj).1
  unfold tkE txT
  show (if false = true then (9 : Int) else if ((up n P p L F ((gl n P p L F M).getD j 0) : Nat) : Int) < 0 ∨ (P : Int) < ((up n P p L F ((gl n P p L F M).getD j 0) : Nat) : Int) then 3 else if ((up n P p L F ((gl n P p L F M).getD j 0) : Nat) : Int) < (us P ((bz n P p L F (fun i => (gl n P p L F M).getD i 0) j : Nat) : Int) : Nat) then 10 else if txE n (L ((gl n P p L F M).getD j 0)) (P - ((up n P p L F ((gl n P p L F M).getD j 0) : Nat) : Int).toNat) _ (on p ((up n P p L F ((gl n P p L F M).getD j 0) : Nat) : Int).toNat) ≠ 0 then _ else if (-1 : Int) = 0 then 11 else 0) = 0
  rw [if_neg (by decide), if_neg (by omega), us_in (by omega), if_neg (by omega), Int.toNat_natCast, if_neg (fun h => h h3), if_neg (by decide)]
theorem at_take {X : Nat → Sp} (hX : ∀ j, j < (gl n P p L F M).length → X j = tX n P p L F ((gl n P p L F M).getD j 0)) : ∀ j, j ≤ (gl n P p L F M).length → at' n P p X ⟨0, 0, -1, false⟩ j = ⟨0, (bz n P p L F (fun i => (gl n P p L F M).getD i 0) j : Nat), -1, false⟩ := by
  intro j
  induction j with
  | zero => intro _; rfl
  | succ j ih =>
    intro hj
    show nx n P p (pre (at' n P p X ⟨0, 0, -1, false⟩ j) (X j)) (X j) = _
    rw [ih (by omega), hX j (by omega)]
    have hp : pre ⟨0, (bz n P p L F (fun i => (gl n P p L F M).getD i 0) j : Nat), -1, false⟩ (tX n P p L F ((gl n P p L F M).getD j 0)) = ⟨0, (bz n P p L F (fun i => (gl n P p L F M).getD i 0) j : Nat), -1, false⟩ := rfl
    rw [hp]
    show tkS n P p _ _ = _
    unfold tkS
    rw [if_pos (tk_zero n P p L F (by omega))]
    rfl
/-- Each message is heard. -/
theorem seen_take {X : Nat → Sp} (D : Nat) (hE : opE n P p D = 0) (hX : ∀ j, j < (gl n P p L F M).length → X j = tX n P p L F ((gl n P p L F M).getD j 0)) {j : Nat} (hj : j < (gl n P p L F M).length) : (seen n P p D X ⟨0, 0, -1, false⟩ j).e2 = 0 ∧ (seen n P p D X ⟨0, 0, -1, false⟩ j).tn = L ((gl n P p L F M).getD j 0) ∧ ∀ i, i < L ((gl n P p L F M).getD j 0) → (seen n P p D X ⟨0, 0, -1, false⟩ j).tf i = F ((gl n P p L F M).getD j 0) i := by
  unfold seen
  rw [if_pos hE]
  unfold sn
  rw [at_take n P p L F hX j (by omega), hX j hj]
  have hp : pre ⟨0, (bz n P p L F (fun i => (gl n P p L F M).getD i 0) j : Nat), -1, false⟩ (tX n P p L F ((gl n P p L F M).getD j 0)) = ⟨0, (bz n P p L F (fun i => (gl n P p L F M).getD i 0) j : Nat), -1, false⟩ := rfl
  rw [hp]
  have h0 := tk_zero n P p L F hj
  have he : er n P p ⟨0, (bz n P p L F (fun i => (gl n P p L F M).getD i 0) j : Nat), -1, false⟩ (tX n P p L F ((gl n P p L F M).getD j 0)) = 0 := h0
  have t1 : sTn n P p ⟨0, (bz n P p L F (fun i => (gl n P p L F M).getD i 0) j : Nat), -1, false⟩ (tX n P p L F ((gl n P p L F M).getD j 0)) = L ((gl n P p L F M).getD j 0) := by
    unfold sTn
    rw [he]
    rfl
  have t2 : ∀ i, i < L ((gl n P p L F M).getD j 0) → sTf n P p ⟨0, (bz n P p L F (fun i => (gl n P p L F M).getD i 0) j : Nat), -1, false⟩ (tX n P p L F ((gl n P p L F M).getD j 0)) i = F ((gl n P p L F M).getD j 0) i := fun i hi => hear_rd n P p L F (gl_mem n P p L F hj).1 hi
  exact ⟨he, t1, t2⟩
/-- And none twice. -/
theorem seen_again {X : Nat → Sp} (D : Nat) (hE : opE n P p D = 0) (hX : ∀ j, j < (gl n P p L F M).length → X j = tX n P p L F ((gl n P p L F M).getD j 0)) {a : Nat} (ha : a < (gl n P p L F M).length) (hL : 0 < L ((gl n P p L F M).getD a 0)) (hXa : X (gl n P p L F M).length = tX n P p L F ((gl n P p L F M).getD a 0)) : (seen n P p D X ⟨0, 0, -1, false⟩ (gl n P p L F M).length).e2 = 10 := by
  obtain ⟨m, hm⟩ : ∃ m, (gl n P p L F M).length = m + 1 := ⟨(gl n P p L F M).length - 1, by omega⟩
  unfold seen
  rw [if_pos hE]
  unfold sn
  rw [at_take n P p L F hX _ (Nat.le_refl _), hXa, hm]
  have h1 : up n P p L F ((gl n P p L F M).getD a 0) + L ((gl n P p L F M).getD a 0) ≤ bz n P p L F (fun i => (gl n P p L F M).getD i 0) (m + 1) := by
    show _ ≤ up n P p L F ((gl n P p L F M).getD m 0) + L ((gl n P p L F M).getD m 0)
    have h2 := gl_le n P p L F (k := M) (i := a) m (by omega) (by omega)
    rw [← up_good n P p L F (gl_mem n P p L F ha).1, ← up_good n P p L F (gl_mem n P p L F (k := M) (j := m) (by omega)).1]
    exact up_mono n P p L F (by omega)
  have h3 := bz_P n P p L F (M := M) (j := m + 1) (by omega)
  have t : tkE n P p ⟨0, (bz n P p L F (fun i => (gl n P p L F M).getD i 0) (m + 1) : Nat), -1, false⟩ (tX n P p L F ((gl n P p L F M).getD a 0)) = 10 := by
    unfold tkE
    show (if false = true then (9 : Int) else if ((up n P p L F ((gl n P p L F M).getD a 0) : Nat) : Int) < 0 ∨ (P : Int) < ((up n P p L F ((gl n P p L F M).getD a 0) : Nat) : Int) then 3 else if ((up n P p L F ((gl n P p L F M).getD a 0) : Nat) : Int) < (us P ((bz n P p L F (fun i => (gl n P p L F M).getD i 0) (m + 1) : Nat) : Int) : Nat) then 10 else _) = 10
    rw [if_neg (by decide), if_neg (by omega), us_in h3, if_pos (by omega)]
  exact t
end
end Oc
end Go.Proofs.Ytlfghnngbljlhaa
