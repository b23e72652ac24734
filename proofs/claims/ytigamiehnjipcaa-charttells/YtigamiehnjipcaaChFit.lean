/-
  Plain mathematics: pairs of letters can be linked just if any two of them fit.
-/
import Derived.Test.YtigamiehnjipcaaChSg
namespace Go.Proofs.Ytigamiehnjipcaa
open Go.RowKit PK Vg

/-- Any two pairs fit: the first letters are the same just if the second ones are. -/
def Fits (A B : Nat → Nat) (n : Nat) : Prop := ∀ s t, s < n → t < n → (A s = A t ↔ B s = B t)
/-- What links hold of the first k pairs. -/
structure LkJ (A B : Nat → Nat) (k : Nat) : Prop where
  f : ∀ j, j < k → (lk A B k).1 (A j) = (B j : Nat) + 1
  g : ∀ j, j < k → (lk A B k).2 (B j) = (A j : Nat) + 1
  f' : ∀ c, (lk A B k).1 c ≠ 0 → ∃ j, j < k ∧ A j = c
  g' : ∀ c, (lk A B k).2 c ≠ 0 → ∃ j, j < k ∧ B j = c
theorem lk_next (A B : Nat → Nat) (k : Nat) : lk A B (k + 1) = if (lk A B k).1 (A k) = 0 ∧ (lk A B k).2 (B k) = 0 then (upd (lk A B k).1 (A k) ((B k : Nat) + 1), upd (lk A B k).2 (B k) ((A k : Nat) + 1)) else lk A B k := rfl
theorem LkJ.next {A B : Nat → Nat} {k : Nat} (h : LkJ A B k) (hk : (lk A B (k + 1)).1 (A k) = (B k : Nat) + 1) : LkJ A B (k + 1) := by
  by_cases e : (lk A B k).1 (A k) = 0 ∧ (lk A B k).2 (B k) = 0
  · have hl : lk A B (k + 1) = (upd (lk A B k).1 (A k) ((B k : Nat) + 1), upd (lk A B k).2 (B k) ((A k : Nat) + 1)) := by rw [lk_next, if_pos e]
    refine ⟨fun j hj => ?_, fun j hj => ?_, fun c hc => ?_, fun c hc => ?_⟩
    · rw [hl]
      show upd (lk A B k).1 (A k) ((B k : Nat) + 1) (A j) = _
      unfold upd
      by_cases e2 : j = k
      · rw [e2, if_pos rfl]
      · have h1 := h.f j (by omega)
        rw [if_neg (fun e3 => by rw [e3, e.1] at h1; omega)]
        exact h1
    · rw [hl]
      show upd (lk A B k).2 (B k) ((A k : Nat) + 1) (B j) = _
      unfold upd
      by_cases e2 : j = k
      · rw [e2, if_pos rfl]
      · have h1 := h.g j (by omega)
        rw [if_neg (fun e3 => by rw [e3, e.2] at h1; omega)]
        exact h1
    · rw [hl] at hc
      have hc' : upd (lk A B k).1 (A k) ((B k : Nat) + 1) c ≠ 0 := hc
      unfold upd at hc'
      by_cases e2 : c = A k
      · exact ⟨k, by omega, e2.symm⟩
      · rw [if_neg e2] at hc'
        obtain ⟨j, hj, e3⟩ := h.f' c hc'
        exact ⟨j, by omega, e3⟩
    · rw [hl] at hc
      have hc' : upd (lk A B k).2 (B k) ((A k : Nat) + 1) c ≠ 0 := hc
      unfold upd at hc'
      by_cases e2 : c = B k
      · exact ⟨k, by omega, e2.symm⟩
      · rw [if_neg e2] at hc'
        obtain ⟨j, hj, e3⟩ := h.g' c hc'
        exact ⟨j, by omega, e3⟩
  · have hl : lk A B (k + 1) = lk A B k := by rw [lk_next, if_neg e]
    rw [hl] at hk
    obtain ⟨i, hi, e1⟩ := h.f' (A k) (by rw [hk]; omega)
    have h2 := h.f i hi
    rw [e1, hk] at h2
    have e2 : B i = B k := by omega
    have h3 := h.g i hi
    rw [e2, e1] at h3
    refine ⟨fun j hj => ?_, fun j hj => ?_, fun c hc => ?_, fun c hc => ?_⟩
    · rw [hl]
      by_cases e4 : j = k
      · rw [e4]; exact hk
      · exact h.f j (by omega)
    · rw [hl]
      by_cases e4 : j = k
      · rw [e4]; exact h3
      · exact h.g j (by omega)
    · rw [hl] at hc
      obtain ⟨j, hj, e5⟩ := h.f' c hc
      exact ⟨j, by omega, e5⟩
    · rw [hl] at hc
      obtain ⟨j, hj, e5⟩ := h.g' c hc
      exact ⟨j, by omega, e5⟩
theorem lkJ_of {A B : Nat → Nat} : ∀ {k : Nat}, lkOk A B k → LkJ A B k
  | 0, _ => ⟨fun j hj => by omega, fun j hj => by omega, fun c hc => absurd rfl hc, fun c hc => absurd rfl hc⟩
  | k + 1, h => (lkJ_of fun i hi => h i (by omega)).next (h k (by omega))
theorem fits_of {A B : Nat → Nat} {n : Nat} (h : lkOk A B n) : Fits A B n := fun s t hs ht => by
  have hj := lkJ_of h
  constructor
  · intro e
    have h1 := hj.f s hs
    have h2 := hj.f t ht
    rw [e, h2] at h1
    omega
  · intro e
    have h1 := hj.g s hs
    have h2 := hj.g t ht
    rw [e, h2] at h1
    omega
theorem lkOk_of {A B : Nat → Nat} {n : Nat} (h : Fits A B n) : ∀ k, k ≤ n → lkOk A B k
  | 0, _ => fun i hi => by omega
  | k + 1, hk => by
    have ih := lkOk_of h k (by omega)
    have hj := lkJ_of ih
    intro i hi
    by_cases e : i = k
    · rw [e, lk_next]
      by_cases e1 : (lk A B k).1 (A k) = 0
      · by_cases e2 : (lk A B k).2 (B k) = 0
        · rw [if_pos ⟨e1, e2⟩]
          show upd (lk A B k).1 (A k) ((B k : Nat) + 1) (A k) = _
          unfold upd
          rw [if_pos rfl]
        · obtain ⟨j, h1, h2⟩ := hj.g' _ e2
          have h3 := (h j k (by omega) (by omega)).2 h2
          have h4 := hj.f j h1
          rw [h3, e1] at h4
          omega
      · rw [if_neg (fun e2 => e1 e2.1)]
        obtain ⟨j, h1, h2⟩ := hj.f' _ e1
        have h3 := (h j k (by omega) (by omega)).1 h2
        have h4 := hj.f j h1
        rw [h2, h3] at h4
        exact h4
    · exact ih i (by omega)
theorem lk_fits (A B : Nat → Nat) (n : Nat) : lkOk A B n ↔ Fits A B n := ⟨fits_of, fun h => lkOk_of h n (Nat.le_refl _)⟩
theorem fits_not {A B : Nat → Nat} {n s t : Nat} (hs : s < n) (ht : t < n) (h : ¬ (A s = A t ↔ B s = B t)) : lkE A B n = 8 := lkE_fit fun e => h (fits_of e s t hs ht)
theorem fits_none {A B : Nat → Nat} {n c : Nat} (hf : Fits A B n) (hc : c < 26) (h : ∀ s, s < n → A s ≠ c) : lkE A B n = 6 := by
  have ho := (lk_fits A B n).2 hf
  refine lkE_none ho ⟨c, hc, ?_⟩
  by_cases e : (lk A B n).1 c = 0
  · exact e
  · obtain ⟨j, hj, e2⟩ := (lkJ_of ho).f' c e
    exact absurd e2 (h j hj)
theorem fits_all {A B : Nat → Nat} {n : Nat} (hf : Fits A B n) (h : ∀ c, c < 26 → ∃ s, s < n ∧ A s = c) : lkE A B n = 0 := by
  have ho := (lk_fits A B n).2 hf
  refine lkE_zero ho ?_
  rintro ⟨c, hc, e⟩
  obtain ⟨s, hs, e2⟩ := h c hc
  have := (lkJ_of ho).f s hs
  rw [e2, e] at this
  omega
theorem fits_at {A B : Nat → Nat} {n s : Nat} (hf : Fits A B n) (hs : s < n) : lkP A B n (A s) = B s := by
  have ho := (lk_fits A B n).2 hf
  have := (lkJ_of ho).f s hs
  unfold lkP
  rw [this]
  omega
/-- The first m of all the cells of many permutations. -/
def rowTo (P : Nat → Nat → Nat) (m : Nat) : Nat → Int := fun i => if i < m then flat P i else 0
theorem rowTo_flat (P : Nat → Nat → Nat) (k : Nat) : rowTo P (k * 26) = flatTo P k := rfl
theorem rowTo_zero (P : Nat → Nat → Nat) (n : Nat) : ints n (rowTo P 0) = ints n fun _ => 0 := ints_ext fun i _ => if_neg (by omega)
theorem rowTo_put (P : Nat → Nat → Nat) (m : Nat) : upd (rowTo P m) m (flat P m) = rowTo P (m + 1) := funext fun i => by
  unfold upd rowTo
  by_cases h : i = m
  · rw [if_pos h, if_pos (by omega), h]
  · rw [if_neg h]
    by_cases h2 : i < m
    · rw [if_pos h2, if_pos (by omega)]
    · rw [if_neg h2, if_neg (by omega)]
theorem rowTo_again (P : Nat → Nat → Nat) (m : Nat) : upd (rowTo P (m + 1)) m (flat P m) = rowTo P (m + 1) := funext fun i => by
  unfold upd rowTo
  by_cases h : i = m
  · rw [if_pos h, if_pos (by omega), h]
  · rw [if_neg h]
end Go.Proofs.Ytigamiehnjipcaa
