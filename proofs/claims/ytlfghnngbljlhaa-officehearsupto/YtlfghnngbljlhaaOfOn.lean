/-
  No sign of a pad is used twice: what an office's steps tell (chapter 16).
-/
import Derived.Test.YtlfghnngbljlhaaOfQ
namespace Go.Proofs.Ytlfghnngbljlhaa
open Go.RowKit PK Pd

namespace Oc
section
variable {n : Int} {P : Nat} {p : Nat → Int}
theorem snE_zero {s : St} {x : Sp} (h : snE n P p s x = 0) : s.dd = false ∧ txS n P p s x = 0 ∧ s.lf ≠ 0 := by
  unfold snE at h
  by_cases h1 : s.dd = true
  · rw [if_pos h1] at h; cases h
  · rw [if_neg h1] at h
    by_cases h2 : txS n P p s x = 0
    · rw [if_neg (by simpa using h2)] at h
      by_cases h3 : s.lf = 0
      · rw [if_pos h3] at h; cases h
      · exact ⟨by simpa using h1, h2, h3⟩
    · rw [if_pos h2] at h; exact absurd h h2
theorem tkE_zero {s : St} {x : Sp} (h : tkE n P p s x = 0) : s.dd = false ∧ 0 ≤ x.pl ∧ x.pl ≤ (P : Int) ∧ (us P s.b : Int) ≤ x.pl ∧ txT n P p x = 0 ∧ s.lf ≠ 0 := by
  unfold tkE at h
  by_cases h1 : s.dd = true
  · rw [if_pos h1] at h; cases h
  · rw [if_neg h1] at h
    by_cases h4 : x.pl < 0 ∨ (P : Int) < x.pl
    · rw [if_pos h4] at h; cases h
    · rw [if_neg h4] at h
      by_cases h5 : x.pl < (us P s.b : Nat)
      · rw [if_pos h5] at h; cases h
      · rw [if_neg h5] at h
        by_cases h2 : txT n P p x = 0
        · rw [if_neg (by simpa using h2)] at h
          by_cases h3 : s.lf = 0
          · rw [if_pos h3] at h; cases h
          · exact ⟨by simpa using h1, by omega, by omega, by omega, h2, h3⟩
        · rw [if_pos h2] at h; exact absurd h h2
theorem nx_same {s : St} {x : Sp} (h : er n P p s x ≠ 0 ∨ (x.sd = false ∧ x.tk = false)) : (nx n P p s x).a = s.a ∧ (nx n P p s x).b = s.b := by
  unfold nx
  by_cases h1 : x.sd = true
  · rw [if_pos h1]
    rcases h with h | h
    · unfold er at h
      rw [if_pos h1] at h
      unfold snS
      rw [if_neg h]
      split <;> exact ⟨rfl, rfl⟩
    · rw [h1] at h; exact absurd h.1 (by decide)
  · rw [if_neg h1]
    by_cases h2 : x.tk = true
    · rw [if_pos h2]
      rcases h with h | h
      · unfold er at h
        rw [if_neg h1, if_pos h2] at h
        unfold tkS
        rw [if_neg h]
        split <;> exact ⟨rfl, rfl⟩
      · rw [h2] at h; exact absurd h.2 (by decide)
    · rw [if_neg h2]; exact ⟨rfl, rfl⟩
theorem once_facts (n : Int) (P : Nat) (p : Nat → Int) (D : Nat) (X : Nat → Sp) (s : St) : ∃ ua ub : Nat → Nat,
    (∀ k, ((seen n P p D X s k).e1 ≠ 0 ∨ (seen n P p D X s k).e2 ≠ 0 ∨ ((X k).sd = false ∧ (X k).tk = false)) → ua (k + 1) = ua k ∧ ub (k + 1) = ub k) ∧
    (∀ k, (seen n P p D X s k).e1 = 0 → (seen n P p D X s k).e2 = 0 → (X k).sd = true → ∃ a : Nat, (seen n P p D X s k).pl = a ∧ ua k ≤ a ∧ a + (X k).tn ≤ P ∧ (seen n P p D X s k).tn = (X k).tn ∧ ua (k + 1) = a + (X k).tn ∧ ub (k + 1) = ub k) ∧
    (∀ k, (seen n P p D X s k).e1 = 0 → (seen n P p D X s k).e2 = 0 → (X k).sd = false → (X k).tk = true → ∃ a : Nat, (X k).pl = a ∧ ub k ≤ a ∧ a + (X k).tn ≤ P ∧ (seen n P p D X s k).tn = (X k).tn ∧ ub (k + 1) = a + (X k).tn ∧ ua (k + 1) = ua k) := by
  by_cases hE : opE n P p D = 0
  · have hs : ∀ k, seen n P p D X s k = sn n P p (at' n P p X s k) (X k) := fun k => by unfold seen; rw [if_pos hE]
    refine ⟨fun k => us P (at' n P p X s k).a, fun k => us P (at' n P p X s k).b, fun k h => ?_, fun k _ h2 h3 => ?_, fun k _ h2 h3 h4 => ?_⟩
    · rw [hs k] at h
      have h1 : er n P p (pre (at' n P p X s k) (X k)) (X k) ≠ 0 ∨ ((X k).sd = false ∧ (X k).tk = false) := by
        rcases h with h | h | h
        · exact absurd rfl h
        · exact .inl h
        · exact .inr h
      have h5 := nx_same h1
      show us P (nx n P p (pre (at' n P p X s k) (X k)) (X k)).a = _ ∧ us P (nx n P p (pre (at' n P p X s k) (X k)) (X k)).b = _
      rw [h5.1, h5.2]
      exact ⟨rfl, rfl⟩
    · rw [hs k] at h2 ⊢
      have h6 : snE n P p (pre (at' n P p X s k) (X k)) (X k) = 0 := by
        have : er n P p (pre (at' n P p X s k) (X k)) (X k) = 0 := h2
        unfold er at this
        rw [if_pos h3] at this
        exact this
      have h7 := txE_zero (snE_zero h6).2.1
      have hu := us_le P (at' n P p X s k).a
      have h8 : (pre (at' n P p X s k) (X k)).a = (at' n P p X s k).a := rfl
      rw [h8] at h7
      refine ⟨us P (at' n P p X s k).a, ?_, Nat.le_refl _, by omega, ?_, ?_, ?_⟩
      · show sAt n P p (pre (at' n P p X s k) (X k)) (X k) = _
        unfold sAt
        rw [if_pos h3, if_pos h6]
        rfl
      · show sTn n P p (pre (at' n P p X s k) (X k)) (X k) = _
        unfold sTn er
        rw [h3]
        simp only [Bool.true_or, if_true]
        rw [if_pos h6]
      · show us P (nx n P p (pre (at' n P p X s k) (X k)) (X k)).a = _
        unfold nx snS
        rw [if_pos h3, if_pos h6]
        show us P ((us P (at' n P p X s k).a + (X k).tn : Nat) : Int) = _
        exact us_in (by omega)
      · show us P (nx n P p (pre (at' n P p X s k) (X k)) (X k)).b = _
        unfold nx snS
        rw [if_pos h3, if_pos h6]
        rfl
    · rw [hs k] at h2 ⊢
      have h3' : ¬ (X k).sd = true := by rw [h3]; decide
      have h6 : tkE n P p (pre (at' n P p X s k) (X k)) (X k) = 0 := by
        have : er n P p (pre (at' n P p X s k) (X k)) (X k) = 0 := h2
        unfold er at this
        rw [if_neg h3', if_pos h4] at this
        exact this
      obtain ⟨_, t1, t2, t3, t4, _⟩ := tkE_zero h6
      have h7 := txE_zero t4
      have h8 : (pre (at' n P p X s k) (X k)).b = (at' n P p X s k).b := rfl
      rw [h8] at t3
      refine ⟨(X k).pl.toNat, by omega, (by show us P (at' n P p X s k).b ≤ _; omega), by omega, ?_, ?_, ?_⟩
      · show sTn n P p (pre (at' n P p X s k) (X k)) (X k) = _
        unfold sTn er
        rw [h3, h4]
        simp only [Bool.or_true, if_true, Bool.false_eq_true, if_false]
        rw [if_pos h6]
      · show us P (nx n P p (pre (at' n P p X s k) (X k)) (X k)).b = _
        unfold nx tkS
        rw [if_neg h3', if_pos h4, if_pos h6]
        show us P ((X k).pl + ((X k).tn : Nat)) = _
        rw [show (X k).pl + ((X k).tn : Int) = (((X k).pl.toNat + (X k).tn : Nat) : Int) by omega]
        exact us_in (by omega)
      · show us P (nx n P p (pre (at' n P p X s k) (X k)) (X k)).a = _
        unfold nx tkS
        rw [if_neg h3', if_pos h4, if_pos h6]
        rfl
  · have hs : ∀ k, (seen n P p D X s k).e1 ≠ 0 := fun k => by unfold seen; rw [if_neg hE]; exact hE
    exact ⟨fun _ => 0, fun _ => 0, fun _ _ => ⟨rfl, rfl⟩, fun k h => absurd h (hs k), fun k h => absurd h (hs k)⟩
end
/-- Signs from a on, k of them, are used. -/
def mark (F : Nat → Bool) (a k : Nat) : Nat → Bool := fun i => F i || (decide (a ≤ i) && decide (i < a + k))
theorem mark_zero (F : Nat → Bool) (a : Nat) : mark F a 0 = F := by
  funext i
  unfold mark
  have : (decide (a ≤ i) && decide (i < a + 0)) = false := by
    rw [Bool.and_eq_false_iff]
    by_cases h : a ≤ i
    · exact .inr (by simp; omega)
    · exact .inl (by simpa using h)
  rw [this, Bool.or_false]
theorem mark_next (F : Nat → Bool) (a k : Nat) : upd (mark F a k) (a + k) true = mark F a (k + 1) := by
  funext i
  unfold upd mark
  by_cases h : i = a + k
  · rw [if_pos h, h]
    have h1 : decide (a ≤ a + k) = true := by simp
    have h2 : decide (a + k < a + (k + 1)) = true := by simp
    rw [h1, h2]
    simp
  · rw [if_neg h]
    congr 2
    rw [decide_eq_decide]
    omega
theorem mark_new {F : Nat → Bool} {a k u : Nat} (h : ∀ i, F i = true → i < u) (hu : u ≤ a) : mark F a k (a + k) = false := by
  unfold mark
  rw [Bool.or_eq_false_iff]
  refine ⟨?_, ?_⟩
  · cases e : F (a + k) with
    | false => rfl
    | true => have := h _ e; omega
  · rw [Bool.and_eq_false_iff]
    exact .inr (by simp)
theorem mark_lt {F : Nat → Bool} {a k u : Nat} (h : ∀ i, F i = true → i < u) (hu : u ≤ a) : ∀ i, mark F a k i = true → i < a + k := fun i hi => by
  unfold mark at hi
  rw [Bool.or_eq_true] at hi
  rcases hi with hi | hi
  · have := h i hi; omega
  · simp at hi
    exact hi.2
end Oc
end Go.Proofs.Ytlfghnngbljlhaa
