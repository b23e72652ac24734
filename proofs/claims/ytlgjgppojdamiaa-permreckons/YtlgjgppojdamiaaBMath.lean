/-
  Plain mathematics: cycles laid on cycles, one after the other, on the first one of its length that is left.
-/
import Derived.Test.YtlgjgppojdamiaaPTurn
namespace Go.Proofs.Ytlgjgppojdamiaa
open Go.RowKit PK

/-- c's letters go to d's, the first m of them. -/
def assignTo (x : Nat → Int) (c d : List Nat) : Nat → Nat → Int
  | 0 => x
  | m + 1 => upd (assignTo x c d m) (c.getD m 0) (d.getD m 0 : Nat)
def layStep (s : List (List Nat) × (Nat → Int)) (c : List Nat) : Option (List (List Nat) × (Nat → Int)) :=
  match s.1.find? (fun d => d.length == c.length) with
  | none => none
  | some d => some (s.1.erase d, assignTo s.2 c d c.length)
def layN (P T : List (List Nat)) (x0 : Nat → Int) : Nat → Option (List (List Nat) × (Nat → Int))
  | 0 => some (T, x0)
  | k + 1 => (layN P T x0 k).bind fun s => layStep s (P.getD k [])
theorem cnt_erase (ls : List (List Nat)) (d : List Nat) (hd : d ∈ ls) (n : Nat) : cnt (ls.erase d) n + (if d.length = n then 1 else 0) = cnt ls n := by
  have hp := List.perm_cons_erase hd
  have h1 : cnt ls n = cnt (d :: ls.erase d) n := by
    unfold cnt
    exact (hp.filter _).length_eq
  rw [h1]
  unfold cnt
  by_cases e : d.length = n <;> simp [e]
theorem cnt_take (P : List (List Nat)) (k : Nat) (hk : k < P.length) (n : Nat) : cnt (P.take (k + 1)) n = cnt (P.take k) n + if (P.getD k []).length = n then 1 else 0 := by
  rw [List.take_succ_eq_append_getElem hk]
  unfold cnt
  rw [List.filter_append, List.length_append]
  have : P.getD k [] = P[k] := by simp [List.getD, hk]
  rw [this]
  by_cases e : P[k].length = n <;> simp [e]
theorem cnt_mono (P : List (List Nat)) (k : Nat) (n : Nat) : cnt (P.take k) n ≤ cnt P n := by
  unfold cnt
  exact List.Sublist.length_le (List.Sublist.filter _ (List.take_sublist k P))
/-- What is left, and what has been laid, are all. -/
theorem lay_counts (P T : List (List Nat)) (x0 : Nat → Int) : ∀ k, k ≤ P.length → ∀ s, layN P T x0 k = some s → ∀ n, cnt s.1 n + cnt (P.take k) n = cnt T n
  | 0, _, s, h, n => by
    simp [layN] at h
    subst h
    simp [cnt]
  | k + 1, hk, s, h, n => by
    unfold layN at h
    cases h1 : layN P T x0 k with
    | none => rw [h1] at h; simp at h
    | some s0 =>
      rw [h1] at h
      simp only [Option.bind_some] at h
      have ih := lay_counts P T x0 k (by omega) s0 h1 n
      unfold layStep at h
      cases h2 : s0.1.find? (fun d => d.length == (P.getD k []).length) with
      | none => rw [h2] at h; simp at h
      | some d =>
        rw [h2] at h
        simp at h
        subst h
        have hd := List.mem_of_find?_eq_some h2
        have hl := List.find?_some h2
        have hl' : d.length = (P.getD k []).length := by simpa using hl
        have he := cnt_erase s0.1 d hd n
        rw [cnt_take P k (by omega) n, ← hl']
        show cnt (s0.1.erase d) n + _ = _
        omega
theorem lay_some (P T : List (List Nat)) (x0 : Nat → Int) (h : ∀ n, cnt P n ≤ cnt T n) : ∀ k, k ≤ P.length → ∃ s, layN P T x0 k = some s
  | 0, _ => ⟨_, rfl⟩
  | k + 1, hk => by
    obtain ⟨s0, h0⟩ := lay_some P T x0 h k (by omega)
    have hc := lay_counts P T x0 k (by omega) s0 h0 (P.getD k []).length
    have h1 := cnt_take P k (by omega) (P.getD k []).length
    rw [if_pos rfl] at h1
    have h2 := cnt_mono P (k + 1) (P.getD k []).length
    have h3 := h (P.getD k []).length
    have hpos : 0 < cnt s0.1 (P.getD k []).length := by omega
    unfold layN
    rw [h0]
    simp only [Option.bind_some]
    unfold layStep
    cases h4 : s0.1.find? (fun d => d.length == (P.getD k []).length) with
    | none =>
      have := List.find?_eq_none.1 h4
      unfold cnt at hpos
      rw [List.filter_eq_nil_iff.2 (fun d hd => by simpa using this d hd)] at hpos
      simp at hpos
    | some d => exact ⟨_, rfl⟩
theorem lay_le (P T : List (List Nat)) (x0 : Nat → Int) (s : List (List Nat) × (Nat → Int)) (h : layN P T x0 P.length = some s) (n : Nat) : cnt P n ≤ cnt T n := by
  have := lay_counts P T x0 P.length (Nat.le_refl _) s h n
  rw [List.take_length] at this
  omega
theorem ty_sum_succ (c : Nat → Nat) (k : Nat) : (tyDown c (k + 1)).sum = (tyDown c k).sum + c (26 - k) * (26 - k) := by
  show (tyDown c k ++ List.replicate (c (26 - k)) (26 - k)).sum = _
  rw [List.sum_append]
  simp
theorem ty_sum_le (c c' : Nat → Nat) (h : ∀ n, c n ≤ c' n) : ∀ k, (tyDown c k).sum ≤ (tyDown c' k).sum
  | 0 => Nat.le_refl _
  | k + 1 => by
    rw [ty_sum_succ, ty_sum_succ]
    have h1 := ty_sum_le c c' h k
    have h2 := Nat.mul_le_mul_right (26 - k) (h (26 - k))
    omega
theorem ty_sum_eq (c c' : Nat → Nat) (h : ∀ n, c n ≤ c' n) : ∀ k, k ≤ 26 → (tyDown c k).sum = (tyDown c' k).sum → ∀ n, 26 - k < n → n ≤ 26 → c n = c' n
  | 0, _, _, n, h1, h2 => by omega
  | k + 1, hk, he, n, h1, h2 => by
    rw [ty_sum_succ, ty_sum_succ] at he
    have h3 := ty_sum_le c c' h k
    have h4 := Nat.mul_le_mul_right (26 - k) (h (26 - k))
    have h5 : (tyDown c k).sum = (tyDown c' k).sum := by omega
    by_cases e : n = 26 - k
    · subst e
      have h6 : c (26 - k) * (26 - k) = c' (26 - k) * (26 - k) := by omega
      exact Nat.eq_of_mul_eq_mul_right (by omega) h6
    · exact ty_sum_eq c c' h k (by omega) h5 n (by omega) h2
/-- All cycles can be laid just if there are as many of each length. -/
theorem lay_iff {p q : Nat → Nat} (hp : Pm.IsPerm p) (hq : Pm.IsPerm q) (x0 : Nat → Int) :
    (∃ s, layN (Pm.cycs p 26) (Pm.cycs q 26) x0 (Pm.cycs p 26).length = some s) ↔ ∀ n, n < 27 → cnt (Pm.cycs p 26) n = cnt (Pm.cycs q 26) n := by
  have zero : ∀ r : Nat → Nat, Pm.IsPerm r → ∀ n, n = 0 ∨ 26 < n → cnt (Pm.cycs r 26) n = 0 := fun r hr n hn => by
    unfold cnt
    rw [List.length_eq_zero_iff, List.filter_eq_nil_iff]
    intro l hl
    have := cycs_each hr l hl
    simp
    omega
  constructor
  · rintro ⟨s, h⟩ n hn
    have hle := lay_le _ _ _ _ h
    by_cases h0 : n = 0
    · rw [zero p hp n (.inl h0), zero q hq n (.inl h0)]
    · exact ty_sum_eq _ _ hle 26 (Nat.le_refl _) (by rw [← typeOf, ← typeOf, type_sum hp, type_sum hq]) n (by omega) (by omega)
  · intro h
    refine lay_some _ _ _ (fun n => ?_) _ (Nat.le_refl _)
    by_cases hn : n < 27
    · exact Nat.le_of_eq (h n hn)
    · rw [zero p hp n (.inr (by omega))]; exact Nat.zero_le _
end Go.Proofs.Ytlgjgppojdamiaa
