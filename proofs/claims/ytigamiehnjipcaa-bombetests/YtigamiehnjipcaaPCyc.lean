/-
  Plain mathematics of no program: the cycles of a permutation.
-/
import Derived.Test.YtigamiehnjipcaaJn1
namespace Go.Proofs.Ytigamiehnjipcaa.Pm

def iter (p : Nat → Nat) : Nat → Nat → Nat
  | 0, i => i
  | k + 1, i => p (iter p k i)
theorem iter_lt {p : Nat → Nat} (hp : IsPerm p) (i : Nat) (hi : i < 26) : ∀ k, iter p k i < 26
  | 0 => hi
  | k + 1 => hp.lt _ (iter_lt hp i hi k)
theorem iter_add (p : Nat → Nat) (i : Nat) : ∀ a b, iter p (a + b) i = iter p a (iter p b i)
  | 0, b => by rw [Nat.zero_add]; rfl
  | a + 1, b => by
    rw [Nat.add_right_comm]
    show p (iter p (a + b) i) = p (iter p a (iter p b i))
    rw [iter_add p i a b]
theorem iter_inj {p : Nat → Nat} (hp : IsPerm p) (i j : Nat) (hi : i < 26) (hj : j < 26) : ∀ k, iter p k i = iter p k j → i = j
  | 0, h => h
  | k + 1, h => iter_inj hp i j hi hj k (hp.inj _ _ (iter_lt hp i hi k) (iter_lt hp j hj k) h)
theorem iter_back {p : Nat → Nat} (hp : IsPerm p) (i : Nat) (hi : i < 26) (a b : Nat) (hab : a ≤ b) (h : iter p a i = iter p b i) : iter p (b - a) i = i := by
  have h1 : iter p b i = iter p a (iter p (b - a) i) := by rw [← iter_add]; congr 1; omega
  rw [h1] at h
  exact (iter_inj hp i _ hi (iter_lt hp i hi _) a h).symm
theorem iter_returns {p : Nat → Nat} (hp : IsPerm p) (i : Nat) (hi : i < 26) : ∃ n, 0 < n ∧ n ≤ 26 ∧ iter p n i = i := by
  apply Classical.byContradiction
  intro hn
  have h1 := nodup_map (fun k => iter p k i) (List.range 27) List.nodup_range (fun a ha b hb e => by
    simp at ha hb
    apply Classical.byContradiction
    intro hne
    rcases Nat.lt_or_ge a b with c | c
    · exact hn ⟨b - a, by omega, by omega, iter_back hp i hi a b (by omega) e⟩
    · exact hn ⟨a - b, by omega, by omega, iter_back hp i hi b a (by omega) e.symm⟩)
  have h2 := nodup_le _ (List.range 26) h1 (fun x hx => by
    obtain ⟨k, _, e⟩ := List.mem_map.1 hx
    rw [← e]
    simpa using iter_lt hp i hi k)
  simp at h2
/-- How long a letter's cycle is. -/
def len (p : Nat → Nat) (i : Nat) : Nat := ((List.range 27).find? fun n => decide (0 < n) && iter p n i == i).getD 0
theorem find_range (q : Nat → Bool) : ∀ n x, (List.range n).find? q = some x → ∀ j, j < x → q j = false := by
  intro n
  induction n with
  | zero => intro x h; simp at h
  | succ n ih =>
    intro x h j hj
    rw [List.range_succ, List.find?_append] at h
    cases h1 : (List.range n).find? q with
    | some y =>
      rw [h1] at h
      simp at h
      exact ih x (by rw [h1, h]) j hj
    | none =>
      rw [h1] at h
      simp at h
      have := List.find?_eq_none.1 h1 j (by simp; omega)
      simpa using this
structure IsLen (p : Nat → Nat) (i n : Nat) : Prop where
  pos : 0 < n
  le : n ≤ 26
  ret : iter p n i = i
  min : ∀ j, 0 < j → j < n → iter p j i ≠ i
theorem len_is {p : Nat → Nat} (hp : IsPerm p) (i : Nat) (hi : i < 26) : IsLen p i (len p i) := by
  unfold len
  cases h : (List.range 27).find? fun n => decide (0 < n) && iter p n i == i with
  | none =>
    obtain ⟨n, h0, h1, h2⟩ := iter_returns hp i hi
    have := List.find?_eq_none.1 h n (by simp; omega)
    simp [h2] at this
    omega
  | some n =>
    have h1 := List.find?_some h
    have h2 := List.mem_of_find?_eq_some h
    have h3 := find_range _ _ _ h
    simp at h1 h2
    refine ⟨h1.1, by simp; omega, h1.2, fun j hj hjn e => ?_⟩
    have := h3 j hjn
    simp [e] at this
    omega
theorem IsLen.uniq {p : Nat → Nat} {i n m : Nat} (h : IsLen p i n) (h' : IsLen p i m) : n = m := by
  rcases Nat.lt_trichotomy n m with c | c | c
  · exact absurd h.ret (h'.min n h.pos c)
  · exact c
  · exact absurd h'.ret (h.min m h'.pos c)
/-- A letter's cycle, from it on. -/
def cyc (p : Nat → Nat) (i : Nat) : List Nat := (List.range (len p i)).map fun k => iter p k i
theorem cyc_length (p : Nat → Nat) (i : Nat) : (cyc p i).length = len p i := by simp [cyc]
theorem iter_mul {p : Nat → Nat} {i n : Nat} (h : iter p n i = i) : ∀ c, iter p (n * c) i = i
  | 0 => rfl
  | c + 1 => by rw [Nat.mul_succ, iter_add, h, iter_mul h c]
theorem iter_mod {p : Nat → Nat} {i n : Nat} (h : iter p n i = i) (k : Nat) : iter p k i = iter p (k % n) i := by
  have h1 : k = k % n + n * (k / n) := by have := Nat.div_add_mod k n; omega
  rw (occs := .pos [1]) [h1]
  rw [iter_add, iter_mul h]
theorem mem_cyc {p : Nat → Nat} (hp : IsPerm p) (i : Nat) (hi : i < 26) (x : Nat) : x ∈ cyc p i ↔ ∃ k, iter p k i = x := by
  constructor
  · intro h
    obtain ⟨k, _, e⟩ := List.mem_map.1 h
    exact ⟨k, e⟩
  · rintro ⟨k, e⟩
    have hl := len_is hp i hi
    rw [iter_mod hl.ret] at e
    exact List.mem_map.2 ⟨k % len p i, by simpa using Nat.mod_lt _ hl.pos, e⟩
theorem cyc_lt {p : Nat → Nat} (hp : IsPerm p) (i : Nat) (hi : i < 26) (x : Nat) (h : x ∈ cyc p i) : x < 26 := by
  obtain ⟨k, e⟩ := (mem_cyc hp i hi x).1 h
  rw [← e]; exact iter_lt hp i hi k
theorem cyc_self {p : Nat → Nat} (hp : IsPerm p) (i : Nat) (hi : i < 26) : i ∈ cyc p i := (mem_cyc hp i hi i).2 ⟨0, rfl⟩
theorem cyc_trans {p : Nat → Nat} (hp : IsPerm p) (i j x : Nat) (hi : i < 26) (hj : j < 26) (h1 : i ∈ cyc p j) (h2 : x ∈ cyc p i) : x ∈ cyc p j := by
  obtain ⟨a, e1⟩ := (mem_cyc hp j hj i).1 h1
  obtain ⟨b, e2⟩ := (mem_cyc hp i hi x).1 h2
  exact (mem_cyc hp j hj x).2 ⟨b + a, by rw [iter_add, e1, e2]⟩
theorem cyc_symm {p : Nat → Nat} (hp : IsPerm p) (i j : Nat) (hj : j < 26) (h : i ∈ cyc p j) : j ∈ cyc p i := by
  have hi := cyc_lt hp j hj i h
  obtain ⟨a, e⟩ := (mem_cyc hp j hj i).1 h
  have hl := len_is hp j hj
  refine (mem_cyc hp i hi j).2 ⟨len p j * (a + 1) - a, ?_⟩
  rw [← e, ← iter_add]
  have : len p j * (a + 1) - a + a = len p j * (a + 1) := by
    have h1 : a + 1 ≤ len p j * (a + 1) := Nat.le_mul_of_pos_left _ hl.pos
    omega
  rw [this]
  exact iter_mul hl.ret _
theorem cyc_nodup {p : Nat → Nat} (hp : IsPerm p) (i : Nat) (hi : i < 26) : (cyc p i).Nodup := by
  have hl := len_is hp i hi
  refine nodup_map _ _ List.nodup_range fun a ha b hb e => ?_
  simp at ha hb
  apply Classical.byContradiction
  intro hne
  rcases Nat.lt_or_ge a b with c | c
  · exact hl.min (b - a) (by omega) (by omega) (iter_back hp i hi a b (by omega) e)
  · exact hl.min (a - b) (by omega) (by omega) (iter_back hp i hi b a (by omega) e.symm)
theorem len_of_mem {p : Nat → Nat} (hp : IsPerm p) (i j : Nat) (hj : j < 26) (h : i ∈ cyc p j) : len p i = len p j := by
  have hi := cyc_lt hp j hj i h
  have h1 := nodup_le _ (cyc p j) (cyc_nodup hp i hi) (fun x hx => cyc_trans hp i j x hi hj h hx)
  have h2 := nodup_le _ (cyc p i) (cyc_nodup hp j hj) (fun x hx => cyc_trans hp j i x hj hi (cyc_symm hp i j hj h) hx)
  rw [cyc_length, cyc_length] at h1 h2
  omega
/-- Is a letter met in a cycle of one of the first k? -/
def met (p : Nat → Nat) (k x : Nat) : Bool := (List.range k).any fun i => (cyc p i).contains x
theorem met_succ (p : Nat → Nat) (k x : Nat) : met p (k + 1) x = (met p k x || (cyc p k).contains x) := by simp [met, List.range_succ, List.any_append]
theorem met_iff (p : Nat → Nat) (k x : Nat) : met p k x = true ↔ ∃ i, i < k ∧ x ∈ cyc p i := by simp [met]
theorem met_again {p : Nat → Nat} (hp : IsPerm p) (k : Nat) (hk : k < 26) (h : met p k k = true) (x : Nat) : met p (k + 1) x = met p k x := by
  rw [met_succ]
  cases hm : met p k x with
  | true => rfl
  | false =>
    rw [Bool.false_or]
    obtain ⟨i, hi, hx⟩ := (met_iff p k k).1 h
    cases hc : (cyc p k).contains x with
    | false => rfl
    | true =>
      have h1 : x ∈ cyc p k := by simpa using hc
      have := (met_iff p k x).2 ⟨i, hi, cyc_trans hp k i x hk (by omega) hx h1⟩
      rw [hm] at this
      cases this
/-- The cycles that begin among the first k letters. -/
def cycs (p : Nat → Nat) : Nat → List (List Nat)
  | 0 => []
  | k + 1 => if met p k k = true then cycs p k else cycs p k ++ [cyc p k]
theorem mem_cycs (p : Nat → Nat) : ∀ k c, c ∈ cycs p k → ∃ i, i < k ∧ c = cyc p i ∧ met p i i = false
  | 0, c, h => by cases h
  | k + 1, c, h => by
    unfold cycs at h
    split at h
    · obtain ⟨i, hi, e⟩ := mem_cycs p k c h
      exact ⟨i, by omega, e⟩
    · rename_i hm
      rcases List.mem_append.1 h with h | h
      · obtain ⟨i, hi, e⟩ := mem_cycs p k c h
        exact ⟨i, by omega, e⟩
      · simp at h
        exact ⟨k, by omega, h, by simpa using hm⟩
theorem mem_flat {p : Nat → Nat} (hp : IsPerm p) : ∀ k, k ≤ 26 → ∀ x, x ∈ (cycs p k).flatten ↔ met p k x = true
  | 0, _, x => by simp [cycs, met]
  | k + 1, hk, x => by
    have ih := mem_flat hp k (by omega) x
    unfold cycs
    split
    · rename_i hm
      rw [met_again hp k (by omega) hm x]
      exact ih
    · rw [List.flatten_append, List.mem_append, ih, met_succ]
      simp
theorem flat_nodup {p : Nat → Nat} (hp : IsPerm p) : ∀ k, k ≤ 26 → (cycs p k).flatten.Nodup
  | 0, _ => by simp [cycs]
  | k + 1, hk => by
    have ih := flat_nodup hp k (by omega)
    unfold cycs
    split
    · exact ih
    · rename_i hm
      rw [List.flatten_append, List.nodup_append]
      refine ⟨ih, by simpa using cyc_nodup hp k (by omega), fun a ha b hb e => ?_⟩
      subst e
      have h1 := (mem_flat hp k (by omega) a).1 ha
      have h2 : a ∈ cyc p k := by simpa using hb
      obtain ⟨i, hi, h3⟩ := (met_iff p k a).1 h1
      have ha26 := cyc_lt hp k (by omega) a h2
      have : k ∈ cyc p i := cyc_trans hp a i k ha26 (by omega) h3 (cyc_symm hp a k (by omega) h2)
      exact hm ((met_iff p k k).2 ⟨i, hi, this⟩)
theorem flat_all {p : Nat → Nat} (hp : IsPerm p) (x : Nat) : x ∈ (cycs p 26).flatten ↔ x < 26 := by
  rw [mem_flat hp 26 (Nat.le_refl _), met_iff]
  constructor
  · rintro ⟨i, hi, h⟩; exact cyc_lt hp i hi x h
  · intro h; exact ⟨x, h, cyc_self hp x h⟩
theorem flat_length {p : Nat → Nat} (hp : IsPerm p) : (cycs p 26).flatten.length = 26 := by
  have h1 := nodup_le _ (List.range 26) (flat_nodup hp 26 (Nat.le_refl _)) (fun x hx => by simpa using (flat_all hp x).1 hx)
  have h2 := nodup_le _ (cycs p 26).flatten (List.nodup_range (n := 26)) (fun x hx => (flat_all hp x).2 (by simpa using hx))
  simp at h1 h2 ⊢
  omega
theorem cycs_len (p : Nat → Nat) : ∀ k, (cycs p k).length ≤ k
  | 0 => by simp [cycs]
  | k + 1 => by
    have := cycs_len p k
    unfold cycs
    split
    · omega
    · simp; omega
end Go.Proofs.Ytigamiehnjipcaa.Pm
