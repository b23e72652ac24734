/-
  Plain mathematics: a conjugate has as many cycles of each length; what the lay makes is a permutation that makes the one the other's conjugate.
-/
import Derived.Test.YtlgjgppojdamiaaBMath
namespace Go.Proofs.Ytlgjgppojdamiaa
open Go.RowKit PK

theorem cm_flat (q : Nat → Bool) (n : Nat) : ∀ ls : List (List Nat), (∀ l ∈ ls, ∀ x ∈ l, q x = (l.length == n)) → (ls.flatten.filter q).length = n * cnt ls n
  | [], _ => by simp [cnt]
  | l :: ls, h => by
    have ih := cm_flat q n ls (fun x hx => h x (by simp [hx]))
    have hl := h l (by simp)
    rw [List.flatten_cons, List.filter_append, List.length_append, ih]
    unfold cnt
    by_cases e : l.length = n
    · have h1 : l.filter q = l := List.filter_eq_self.2 fun x hx => by rw [hl x hx]; simpa using e
      rw [h1]
      simp [e, Nat.mul_succ]
      omega
    · have h1 : l.filter q = [] := List.filter_eq_nil_iff.2 fun x hx => by rw [hl x hx]; simpa using e
      rw [h1]
      simp [e]
/-- How many letters lie in cycles of length n. -/
def inAll (p : Nat → Nat) (n : Nat) : Nat := ((List.range 26).filter fun i => Pm.len p i == n).length
theorem inAll_cnt {p : Nat → Nat} (hp : Pm.IsPerm p) (n : Nat) : inAll p n = n * cnt (Pm.cycs p 26) n := by
  rw [← cm_flat (fun i => Pm.len p i == n) n (Pm.cycs p 26) (fun l hl x hx => by
    obtain ⟨i, hi, rfl, _⟩ := Pm.mem_cycs p 26 l hl
    rw [Pm.cyc_length, Pm.len_of_mem hp x i hi hx])]
  unfold inAll
  have hn1 : ((List.range 26).filter fun i => Pm.len p i == n).Nodup := List.Pairwise.sublist List.filter_sublist (List.nodup_range (n := 26))
  have hn2 : ((Pm.cycs p 26).flatten.filter fun i => Pm.len p i == n).Nodup := List.Pairwise.sublist List.filter_sublist (Pm.flat_nodup hp 26 (Nat.le_refl _))
  have h1 := Pm.nodup_le _ ((Pm.cycs p 26).flatten.filter fun i => Pm.len p i == n) hn1 (fun x hx => by
    rw [List.mem_filter] at hx ⊢
    exact ⟨(Pm.flat_all hp x).2 (by simpa using hx.1), hx.2⟩)
  have h2 := Pm.nodup_le _ ((List.range 26).filter fun i => Pm.len p i == n) hn2 (fun x hx => by
    rw [List.mem_filter] at hx ⊢
    exact ⟨by simpa using (Pm.flat_all hp x).1 hx.1, hx.2⟩)
  omega
theorem conj_at {p x : Nat → Nat} (hx : Pm.IsPerm x) (i : Nat) (hi : i < 26) : Pm.conj p x (x i) = x (p i) := by
  unfold Pm.conj
  rw [hx.inv_left i hi]
theorem conj_iter {p x : Nat → Nat} (hp : Pm.IsPerm p) (hx : Pm.IsPerm x) (i : Nat) (hi : i < 26) : ∀ k, Pm.iter (Pm.conj p x) k (x i) = x (Pm.iter p k i)
  | 0 => rfl
  | k + 1 => by
    show Pm.conj p x (Pm.iter (Pm.conj p x) k (x i)) = _
    rw [conj_iter hp hx i hi k, conj_at hx _ (Pm.iter_lt hp i hi k)]
    rfl
theorem conj_len {p x : Nat → Nat} (hp : Pm.IsPerm p) (hx : Pm.IsPerm x) (i : Nat) (hi : i < 26) : Pm.len (Pm.conj p x) (x i) = Pm.len p i := by
  have h1 := Pm.len_is hp i hi
  have h2 := Pm.len_is (hp.conj hx) (x i) (hx.lt i hi)
  have h3 : Pm.IsLen (Pm.conj p x) (x i) (Pm.len p i) := ⟨h1.pos, h1.le, by rw [conj_iter hp hx i hi, h1.ret], fun j a b e => by
    rw [conj_iter hp hx i hi] at e
    exact h1.min j a b (hx.inj _ _ (Pm.iter_lt hp i hi j) hi e)⟩
  exact h2.uniq h3
theorem conj_in {p x : Nat → Nat} (hp : Pm.IsPerm p) (hx : Pm.IsPerm x) (n : Nat) : inAll (Pm.conj p x) n = inAll p n := by
  unfold inAll
  have hc := hp.conj hx
  have hn1 : ((List.range 26).filter fun i => Pm.len p i == n).Nodup := List.Pairwise.sublist List.filter_sublist (List.nodup_range (n := 26))
  have hn2 : ((List.range 26).filter fun i => Pm.len (Pm.conj p x) i == n).Nodup := List.Pairwise.sublist List.filter_sublist (List.nodup_range (n := 26))
  have m1 := Pm.nodup_map x _ hn1 (fun i hi j hj e => by
    rw [List.mem_filter] at hi hj
    exact hx.inj i j (by simpa using hi.1) (by simpa using hj.1) e)
  have h1 := Pm.nodup_le _ ((List.range 26).filter fun i => Pm.len (Pm.conj p x) i == n) m1 (fun y hy => by
    obtain ⟨i, hi, rfl⟩ := List.mem_map.1 hy
    rw [List.mem_filter] at hi ⊢
    have hi26 : i < 26 := by simpa using hi.1
    exact ⟨by simpa using hx.lt i hi26, by rw [conj_len hp hx i hi26]; exact hi.2⟩)
  have m2 := Pm.nodup_map (Pm.inv x) _ hn2 (fun i hi j hj e => by
    rw [List.mem_filter] at hi hj
    exact hx.inv.inj i j (by simpa using hi.1) (by simpa using hj.1) e)
  have h2 := Pm.nodup_le _ ((List.range 26).filter fun i => Pm.len p i == n) m2 (fun y hy => by
    obtain ⟨i, hi, rfl⟩ := List.mem_map.1 hy
    rw [List.mem_filter] at hi ⊢
    have hi26 : i < 26 := by simpa using hi.1
    have hv := hx.inv_spec i hi26
    refine ⟨by simpa using hv.1, ?_⟩
    have := conj_len hp hx (Pm.inv x i) hv.1
    rw [hv.2] at this
    rw [← this]
    exact hi.2)
  rw [List.length_map] at h1 h2
  omega
theorem tyDown_congr (c c' : Nat → Nat) (h : ∀ n, 0 < n → n ≤ 26 → c n = c' n) : ∀ k, k ≤ 26 → tyDown c k = tyDown c' k
  | 0, _ => rfl
  | k + 1, hk => by
    show tyDown c k ++ List.replicate (c (26 - k)) (26 - k) = tyDown c' k ++ List.replicate (c' (26 - k)) (26 - k)
    rw [tyDown_congr c c' h k (by omega), h (26 - k) (by omega) (by omega)]
/-- A conjugate's cycles are as long. -/
theorem type_conj {p x : Nat → Nat} (hp : Pm.IsPerm p) (hx : Pm.IsPerm x) : typeOf (Pm.conj p x) = typeOf p := by
  unfold typeOf
  refine tyDown_congr _ _ (fun n h0 _ => ?_) 26 (Nat.le_refl _)
  have h1 := inAll_cnt (hp.conj hx) n
  rw [conj_in hp hx n, inAll_cnt hp n] at h1
  exact (Nat.eq_of_mul_eq_mul_left h0 h1).symm
/-- As often in the list of lengths as there are cycles of that length. -/
theorem tyDown_count (c : Nat → Nat) (n : Nat) : ∀ k, k ≤ 26 → (tyDown c k).count n = if 26 - k < n ∧ n ≤ 26 then c n else 0
  | 0, _ => by rw [if_neg (by omega)]; rfl
  | k + 1, hk => by
    show (tyDown c k ++ List.replicate (c (26 - k)) (26 - k)).count n = _
    rw [List.count_append, tyDown_count c n k (by omega), List.count_replicate]
    by_cases e : 26 - k = n
    · subst e
      have a1 : ¬ (26 - k < 26 - k ∧ 26 - k ≤ 26) := by omega
      have a2 : 26 - (k + 1) < 26 - k ∧ 26 - k ≤ 26 := by omega
      rw [if_neg a1]
      simp only [beq_self_eq_true, if_true, Nat.zero_add]
      rw [if_pos a2]
    · have b : (26 - k == n) = false := by simpa using e
      rw [b]
      simp only [Bool.false_eq_true, if_false, Nat.add_zero]
      by_cases h : 26 - k < n ∧ n ≤ 26
      · rw [if_pos h, if_pos ⟨by omega, h.2⟩]
      · rw [if_neg h, if_neg (by omega)]
/-- Alike lengths, just if there are as many of each. -/
theorem type_iff {p q : Nat → Nat} (hp : Pm.IsPerm p) (hq : Pm.IsPerm q) : typeOf p = typeOf q ↔ ∀ n, n < 27 → cnt (Pm.cycs p 26) n = cnt (Pm.cycs q 26) n := by
  constructor
  · intro h n hn
    by_cases h0 : n = 0
    · subst h0
      have z : ∀ r : Nat → Nat, Pm.IsPerm r → cnt (Pm.cycs r 26) 0 = 0 := fun r hr => by
        unfold cnt
        rw [List.length_eq_zero_iff, List.filter_eq_nil_iff]
        intro l hl
        have h5 := cycs_each hr l hl
        intro c
        have hc : l.length = 0 := by simpa using c
        omega
      rw [z p hp, z q hq]
    · have h1 := congrArg (List.count n) h
      unfold typeOf at h1
      rw [tyDown_count _ n 26 (Nat.le_refl _), tyDown_count _ n 26 (Nat.le_refl _), if_pos ⟨by omega, by omega⟩, if_pos ⟨by omega, by omega⟩] at h1
      exact h1
  · intro h
    exact tyDown_congr _ _ (fun n _ hn => h n (by omega)) 26 (Nat.le_refl _)
end Go.Proofs.Ytlgjgppojdamiaa
