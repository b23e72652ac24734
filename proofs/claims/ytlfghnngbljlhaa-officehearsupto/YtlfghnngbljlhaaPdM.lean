/-
  Mathematics of signs (chapter 14): what is wrong, sums modulo N.
-/
import Derived.Test.YtlfghnngbljlhaaRgK
namespace Go.Proofs.Ytlfghnngbljlhaa.Pd

/-- Signs below n alone. -/
def inB (n : Int) (m : Nat) (f : Nat → Int) : Bool := (List.range m).all fun i => decide (0 ≤ f i ∧ f i < n)
theorem inB_iff (n : Int) (m : Nat) (f : Nat → Int) : inB n m f = true ↔ ∀ i, i < m → 0 ≤ f i ∧ f i < n := by
  unfold inB
  rw [List.all_eq_true]
  exact ⟨fun h i hi => by simpa using h i (by simpa using hi), fun h i hi => by simpa using h i (by simpa using hi)⟩
theorem inB_false {n : Int} {m : Nat} {f : Nat → Int} {i : Nat} (hi : i < m) (h : ¬ (0 ≤ f i ∧ f i < n)) : inB n m f = false := by
  rw [Bool.eq_false_iff]
  intro e
  exact h ((inB_iff n m f).1 e i hi)
/-- Weights alone. -/
def wB (m : Nat) (f : Nat → Int) : Bool := (List.range m).all fun i => decide (0 ≤ f i ∧ f i ≤ 65536)
theorem wB_iff (m : Nat) (f : Nat → Int) : wB m f = true ↔ ∀ i, i < m → 0 ≤ f i ∧ f i ≤ 65536 := by
  unfold wB
  rw [List.all_eq_true]
  exact ⟨fun h i hi => by simpa using h i (by simpa using hi), fun h i hi => by simpa using h i (by simpa using hi)⟩
theorem wB_false {m : Nat} {f : Nat → Int} {i : Nat} (hi : i < m) (h : ¬ (0 ≤ f i ∧ f i ≤ 65536)) : wB m f = false := by
  rw [Bool.eq_false_iff]
  intro e
  exact h ((wB_iff m f).1 e i hi)
/-- What is wrong with signs in lists. -/
def sgE (n : Int) (m : Nat) (L : Nat → Nat) (Z : Nat → Nat → Int) : Int := if n < 2 ∨ 64 < n then 1 else if (List.range m).all (fun r => inB n (L r) (Z r)) then 0 else 3
def txE (n : Int) (nt np : Nat) (ft fp : Nat → Int) : Int := if n < 2 ∨ 64 < n then 1 else if inB n nt ft = false ∨ inB n np fp = false then 3 else if 65536 < nt then 5 else if np < nt then 10 else 0
def wtE (n s : Int) (m : Nat) (f : Nat → Int) : Int := if n < 2 ∨ 64 < n then 1 else if s < 0 ∨ n ≤ s then 3 else if (m : Int) ≠ n then 8 else if wB m f = false then 3 else 0
def spE (n s : Int) (m : Nat) (f : Nat → Int) : Int := if n < 2 ∨ 64 < n then 1 else if (s < 0 ∨ n ≤ s) ∨ inB n m f = false then 3 else if 15 < m then 5 else 0
def joE (n : Int) (m : Nat) (f : Nat → Int) : Int := if n < 2 ∨ 64 < n then 1 else if inB n m f = false then 3 else if m < 1 ∨ 16 < m then 5 else 0
/-- Are all the same? -/
def evB (m : Nat) (f : Nat → Int) : Bool := (List.range m).all fun i => decide (f i = f 0)
theorem evB_iff (m : Nat) (f : Nat → Int) : evB m f = true ↔ ∀ i, i < m → f i = f 0 := by
  unfold evB
  rw [List.all_eq_true]
  exact ⟨fun h i hi => by simpa using h i (by simpa using hi), fun h i hi => by simpa using h i (by simpa using hi)⟩
theorem evB_false {m : Nat} {f : Nat → Int} {i : Nat} (hi : i < m) (h : f i ≠ f 0) : evB m f = false := by
  rw [Bool.eq_false_iff]
  intro e
  exact h ((evB_iff m f).1 e i hi)
/-- The first k signs, added. -/
def sm (N : Nat) (t : Nat → Nat) : Nat → Nat
  | 0 => 0
  | k + 1 => (sm N t k + t k) % N
theorem sm_lt {N : Nat} (h : 0 < N) (t : Nat → Nat) : ∀ k, sm N t k < N
  | 0 => h
  | _ + 1 => Nat.mod_lt _ h
theorem sm_ext {N : Nat} {t u : Nat → Nat} : ∀ {k}, (∀ i, i < k → t i = u i) → sm N t k = sm N u k
  | 0, _ => rfl
  | k + 1, h => by
    show (sm N t k + t k) % N = (sm N u k + u k) % N
    rw [sm_ext (fun i hi => h i (by omega)), h k (by omega)]
/-- What a list of signs makes, taken away from s. -/
def lst (N s a : Nat) : Nat := (s + (N - a) % N) % N
theorem mod_add_two (N a b : Nat) : (a + b % N) % N = (a + b) % N := by simp
theorem mod_add_one (N a b : Nat) : (a % N + b) % N = (a + b) % N := by simp
theorem lst_lt {N : Nat} (h : 0 < N) (s a : Nat) : lst N s a < N := Nat.mod_lt _ h
theorem lst_eq (N s a : Nat) : lst N s a = (s + (N - a)) % N := by unfold lst; rw [mod_add_two]
/-- Modulo N without division: one turn at most. -/
theorem mod_once {N x : Nat} (h : x < 2 * N) : x % N = if x < N then x else x - N := by
  by_cases e : x < N
  · rw [if_pos e, Nat.mod_eq_of_lt e]
  · rw [if_neg e, Nat.mod_eq_sub_mod (by omega), Nat.mod_eq_of_lt (by omega)]
theorem lst_once {N s a : Nat} (hs : s < N) (ha : a < N) : lst N s a = if a ≤ s then s - a else s + N - a := by
  rw [lst_eq, mod_once (by omega)]
  split <;> split <;> omega
theorem add_lst {N s a : Nat} (hs : s < N) (ha : a < N) : (a + lst N s a) % N = s := by
  rw [lst_once hs ha]
  split
  · rw [mod_once (by omega), if_pos (by omega)]; omega
  · rw [mod_once (by omega), if_neg (by omega)]; omega
theorem add_inj {N a x y : Nat} (ha : a < N) (hx : x < N) (hy : y < N) (h : (a + x) % N = (a + y) % N) : x = y := by
  rw [mod_once (by omega), mod_once (by omega)] at h
  split at h <;> split at h <;> omega
/-- What is taken away was added. -/
theorem lst_add {N s a : Nat} (hs : s < N) (ha : a < N) : lst N ((s + a) % N) a = s := by
  have h1 : (s + a) % N < N := Nat.mod_lt _ (by omega)
  refine add_inj ha (lst_lt (by omega) _ _) hs ?_
  rw [add_lst h1 ha, Nat.add_comm]
/-- One sign changed changes the sum by as much. -/
theorem sm_upd {N : Nat} (h : 0 < N) (t : Nat → Nat) (o : Nat) : ∀ m, o < m → ∃ c, c < N ∧ ∀ x, sm N (fun i => if i = o then x else t i) m = (c + x) % N
  | 0, hm => by omega
  | m + 1, hm => by
    by_cases e : o = m
    · subst e
      refine ⟨sm N t o, sm_lt h t o, fun x => ?_⟩
      show (sm N _ o + (if o = o then x else t o)) % N = _
      rw [if_pos rfl, sm_ext (u := t) (fun i hi => by rw [if_neg (by omega)])]
    · obtain ⟨c, hc, hx⟩ := sm_upd h t o m (by omega)
      refine ⟨(c + t m) % N, Nat.mod_lt _ h, fun x => ?_⟩
      show (sm N _ m + (if m = o then x else t m)) % N = _
      rw [hx x, if_neg (fun e2 => e e2.symm), mod_add_one, mod_add_one]
      congr 1
      omega
theorem toNat_eq {x n : Int} (h : 0 ≤ x ∧ x < n) : ((x.toNat : Nat) : Int) = x := by omega
theorem toNat_lt {x n : Int} (h : 0 ≤ x ∧ x < n) : x.toNat < n.toNat := by omega
/-- What Write and Read make. -/
def wrF (n : Int) (ft fp : Nat → Int) : Nat → Int := fun i => ((((ft i).toNat + (fp i).toNat) % n.toNat : Nat) : Int)
def rdF (n : Int) (ft fp : Nat → Int) : Nat → Int := fun i => ((lst n.toNat (ft i).toNat (fp i).toNat : Nat) : Int)
/-- What Chances tells. -/
def chF (n s : Int) (f : Nat → Int) : Nat → Int := fun c => f (lst n.toNat c s.toNat)
/-- What Split tells. -/
def spF (n s : Int) (m : Nat) (f : Nat → Int) : Nat → Int := fun i => if i < m then f i else ((lst n.toNat s.toNat (sm n.toNat (fun i => (f i).toNat) m) : Nat) : Int)
def seB (n : Int) (m : Nat) (f : Nat → Int) : Bool := if wtE n 0 m f = 0 then evB m f else false
def joN (n : Int) (m : Nat) (f : Nat → Int) : Int := if joE n m f = 0 then ((sm n.toNat (fun i => (f i).toNat) m : Nat) : Int) else 0
theorem txE_zero {n : Int} {nt np : Nat} {ft fp : Nat → Int} (h : txE n nt np ft fp = 0) : 2 ≤ n ∧ n ≤ 64 ∧ (∀ i, i < nt → 0 ≤ ft i ∧ ft i < n) ∧ (∀ i, i < np → 0 ≤ fp i ∧ fp i < n) ∧ nt ≤ 65536 ∧ nt ≤ np := by
  unfold txE at h
  by_cases h1 : n < 2 ∨ 64 < n
  · rw [if_pos h1] at h; cases h
  rw [if_neg h1] at h
  by_cases h2 : inB n nt ft = false ∨ inB n np fp = false
  · rw [if_pos h2] at h; cases h
  rw [if_neg h2] at h
  by_cases h3 : 65536 < nt
  · rw [if_pos h3] at h; cases h
  rw [if_neg h3] at h
  by_cases h4 : np < nt
  · rw [if_pos h4] at h; cases h
  have h5 : inB n nt ft = true := by cases hq : inB n nt ft; exact absurd (.inl hq) h2; rfl
  have h6 : inB n np fp = true := by cases hq : inB n np fp; exact absurd (.inr hq) h2; rfl
  exact ⟨by omega, by omega, (inB_iff _ _ _).1 h5, (inB_iff _ _ _).1 h6, by omega, by omega⟩
theorem txE_ok {n : Int} {nt np : Nat} {ft fp : Nat → Int} (h1 : 2 ≤ n) (h2 : n ≤ 64) (h3 : ∀ i, i < nt → 0 ≤ ft i ∧ ft i < n) (h4 : ∀ i, i < np → 0 ≤ fp i ∧ fp i < n) (h5 : nt ≤ 65536) (h6 : nt ≤ np) : txE n nt np ft fp = 0 := by
  unfold txE
  rw [if_neg (by omega), (inB_iff _ _ _).2 h3, (inB_iff _ _ _).2 h4, if_neg (by simp), if_neg (by omega), if_neg (by omega)]
theorem wtE_zero {n s : Int} {m : Nat} {f : Nat → Int} (h : wtE n s m f = 0) : 2 ≤ n ∧ n ≤ 64 ∧ 0 ≤ s ∧ s < n ∧ (m : Int) = n ∧ ∀ i, i < m → 0 ≤ f i ∧ f i ≤ 65536 := by
  unfold wtE at h
  by_cases h1 : n < 2 ∨ 64 < n
  · rw [if_pos h1] at h; cases h
  rw [if_neg h1] at h
  by_cases h2 : s < 0 ∨ n ≤ s
  · rw [if_pos h2] at h; cases h
  rw [if_neg h2] at h
  by_cases h3 : (m : Int) ≠ n
  · rw [if_pos h3] at h; cases h
  rw [if_neg h3] at h
  by_cases h4 : wB m f = false
  · rw [if_pos h4] at h; cases h
  have h5 : wB m f = true := by cases hq : wB m f; exact absurd hq h4; rfl
  exact ⟨by omega, by omega, by omega, by omega, by omega, (wB_iff _ _).1 h5⟩
theorem wtE_ok {n s : Int} {m : Nat} {f : Nat → Int} (h1 : 2 ≤ n) (h2 : n ≤ 64) (h3 : 0 ≤ s) (h4 : s < n) (h5 : (m : Int) = n) (h6 : ∀ i, i < m → 0 ≤ f i ∧ f i ≤ 65536) : wtE n s m f = 0 := by
  unfold wtE
  rw [if_neg (by omega), if_neg (by omega), if_neg (by omega), (wB_iff _ _).2 h6, if_neg (by simp)]
theorem spE_zero {n s : Int} {m : Nat} {f : Nat → Int} (h : spE n s m f = 0) : 2 ≤ n ∧ n ≤ 64 ∧ 0 ≤ s ∧ s < n ∧ (∀ i, i < m → 0 ≤ f i ∧ f i < n) ∧ m ≤ 15 := by
  unfold spE at h
  by_cases h1 : n < 2 ∨ 64 < n
  · rw [if_pos h1] at h; cases h
  rw [if_neg h1] at h
  by_cases h2 : (s < 0 ∨ n ≤ s) ∨ inB n m f = false
  · rw [if_pos h2] at h; cases h
  rw [if_neg h2] at h
  by_cases h3 : 15 < m
  · rw [if_pos h3] at h; cases h
  have h5 : inB n m f = true := by cases hq : inB n m f; exact absurd (.inr hq) h2; rfl
  exact ⟨by omega, by omega, by omega, by omega, (inB_iff _ _ _).1 h5, by omega⟩
theorem joE_zero {n : Int} {m : Nat} {f : Nat → Int} (h : joE n m f = 0) : 2 ≤ n ∧ n ≤ 64 ∧ (∀ i, i < m → 0 ≤ f i ∧ f i < n) ∧ 1 ≤ m ∧ m ≤ 16 := by
  unfold joE at h
  by_cases h1 : n < 2 ∨ 64 < n
  · rw [if_pos h1] at h; cases h
  rw [if_neg h1] at h
  by_cases h2 : inB n m f = false
  · rw [if_pos h2] at h; cases h
  rw [if_neg h2] at h
  by_cases h3 : m < 1 ∨ 16 < m
  · rw [if_pos h3] at h; cases h
  have h5 : inB n m f = true := by cases hq : inB n m f; exact absurd hq h2; rfl
  exact ⟨by omega, by omega, (inB_iff _ _ _).1 h5, by omega, by omega⟩
theorem joE_ok {n : Int} {m : Nat} {f : Nat → Int} (h1 : 2 ≤ n) (h2 : n ≤ 64) (h3 : ∀ i, i < m → 0 ≤ f i ∧ f i < n) (h4 : 1 ≤ m) (h5 : m ≤ 16) : joE n m f = 0 := by
  unfold joE
  rw [if_neg (by omega), (inB_iff _ _ _).2 h3, if_neg (by simp), if_neg (by omega)]
end Go.Proofs.Ytlfghnngbljlhaa.Pd
