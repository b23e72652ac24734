/-
  Plain mathematics of registers: who makes bits; Massey's bound; how the shortest length grows; twice its length tells a register.
-/
import Derived.Test.YtflehdigikdhmaaPMath
namespace Go.Proofs.Ytflehdigikdhmaa.Rg

/-- The sum, modulo 2, of the first n. -/
def sx : Nat → (Nat → Bool) → Bool
  | 0, _ => false
  | n + 1, f => xor (sx n f) (f n)
theorem sx_congr {f g : Nat → Bool} : ∀ n, (∀ k, k < n → f k = g k) → sx n f = sx n g
  | 0, _ => rfl
  | n + 1, h => by
    show xor (sx n f) (f n) = xor (sx n g) (g n)
    rw [sx_congr n (fun k hk => h k (by omega)), h n (by omega)]
theorem sx_false : ∀ n, (sx n fun _ => false) = false
  | 0 => rfl
  | n + 1 => by
    show xor (sx n fun _ => false) false = false
    rw [sx_false n]; rfl
theorem sx_xor (f g : Nat → Bool) : ∀ n, (sx n fun k => xor (f k) (g k)) = xor (sx n f) (sx n g)
  | 0 => rfl
  | n + 1 => by
    show xor (sx n fun k => xor (f k) (g k)) (xor (f n) (g n)) = xor (xor (sx n f) (f n)) (xor (sx n g) (g n))
    rw [sx_xor f g n]
    cases sx n f <;> cases sx n g <;> cases f n <;> cases g n <;> rfl
theorem sx_and (b : Bool) (f : Nat → Bool) : ∀ n, (sx n fun k => b && f k) = (b && sx n f)
  | 0 => by cases b <;> rfl
  | n + 1 => by
    show xor (sx n fun k => b && f k) (b && f n) = (b && xor (sx n f) (f n))
    rw [sx_and b f n]
    cases b <;> rfl
theorem sx_swap (F : Nat → Nat → Bool) (m : Nat) : ∀ n, (sx n fun j => sx m fun k => F j k) = sx m fun k => sx n fun j => F j k
  | 0 => (sx_false m).symm
  | n + 1 => by
    show xor (sx n fun j => sx m fun k => F j k) (sx m fun k => F n k) = sx m fun k => xor (sx n fun j => F j k) (F n k)
    rw [sx_swap F m n, sx_xor]
/-- What stands alone. -/
theorem sx_more {f : Nat → Bool} {n : Nat} : ∀ d, (∀ k, n ≤ k → k < n + d → f k = false) → sx (n + d) f = sx n f
  | 0, _ => rfl
  | d + 1, h => by
    show xor (sx (n + d) f) (f (n + d)) = sx n f
    rw [sx_more d (fun k h1 h2 => h k h1 (by omega)), h (n + d) (by omega) (by omega)]
    cases sx n f <;> rfl
theorem sx_le {f : Nat → Bool} {n m : Nat} (hm : n ≤ m) (h : ∀ k, n ≤ k → k < m → f k = false) : sx m f = sx n f := by
  have := sx_more (f := f) (n := n) (m - n) (fun k h1 h2 => h k h1 (by omega))
  rw [show n + (m - n) = m by omega] at this
  exact this
/-- The register with taps c, of length L, makes the bit i of s. -/
def At (c : Nat → Bool) (L : Nat) (s : Nat → Bool) (i : Nat) : Prop := s i = sx L fun k => c k && s (i - 1 - k)
/-- It makes the first n, begun with the first of them. -/
def Makes (c : Nat → Bool) (L : Nat) (s : Nat → Bool) (n : Nat) : Prop := ∀ i, L ≤ i → i < n → At c L s i
theorem Makes.mono {c : Nat → Bool} {L : Nat} {s : Nat → Bool} {n m : Nat} (h : Makes c L s n) (hm : m ≤ n) : Makes c L s m := fun i h1 h2 => h i h1 (by omega)
theorem Makes.succ {c : Nat → Bool} {L : Nat} {s : Nat → Bool} {n : Nat} (h : Makes c L s n) (h2 : L ≤ n → At c L s n) : Makes c L s (n + 1) := fun i h3 h4 => by
  by_cases e : i = n
  · subst e; exact h2 h3
  · exact h i h3 (by omega)
theorem makes_all (c : Nat → Bool) (s : Nat → Bool) {L n : Nat} (h : n ≤ L) : Makes c L s n := fun i h1 h2 => by omega
/-- MASSEY's bound: where one fails, whoever does not is longer. -/
theorem massey {c d : Nat → Bool} {L M : Nat} {s : Nat → Bool} {n : Nat} (hc : Makes c L s n) (hd : Makes d M s (n + 1)) (hf : ¬ At c L s n) : n + 1 ≤ L + M := by
  by_cases h : L + M ≤ n
  · exfalso
    apply hf
    have e1 : s n = sx M fun j => d j && s (n - 1 - j) := hd n (by omega) (by omega)
    have e2 : (sx M fun j => d j && s (n - 1 - j)) = sx M fun j => sx L fun k => d j && (c k && s (n - 2 - j - k)) := sx_congr M fun j hj => by
      have := hc (n - 1 - j) (by omega) (by omega)
      unfold At at this
      rw [this, ← sx_and]
      refine sx_congr L fun k hk => ?_
      rw [show n - 1 - j - 1 - k = n - 2 - j - k by omega]
    have e3 : (sx L fun k => c k && s (n - 1 - k)) = sx L fun k => sx M fun j => d j && (c k && s (n - 2 - j - k)) := sx_congr L fun k hk => by
      have := hd (n - 1 - k) (by omega) (by omega)
      unfold At at this
      rw [this, ← sx_and]
      refine sx_congr M fun j hj => ?_
      rw [show n - 1 - k - 1 - j = n - 2 - j - k by omega]
      cases c k <;> cases d j <;> rfl
    show s n = sx L fun k => c k && s (n - 1 - k)
    rw [e1, e2, e3, sx_swap]
  · omega
/-- TWICE ITS LENGTH TELLS A REGISTER. -/
theorem found {c d : Nat → Bool} {L K : Nat} {s : Nat → Bool} {n : Nat} (hd : Makes d K s n) (hc : Makes c L s (2 * K)) (hL : L ≤ K) : Makes c L s n := by
  have h : ∀ m, m ≤ n → Makes c L s m := fun m => by
    induction m with
    | zero => exact fun _ => fun i h1 h2 => by omega
    | succ m ih =>
      intro hm
      have h1 := ih (by omega)
      refine h1.succ fun hl => ?_
      by_cases h2 : m < 2 * K
      · exact hc m hl h2
      · by_cases h3 : At c L s m
        · exact h3
        · have := massey h1 (hd.mono hm) h3
          omega
  exact h n (Nat.le_refl _)
/-- The shortest length for the first n. -/
def Least (s : Nat → Bool) (n L : Nat) : Prop := (∃ c, Makes c L s n) ∧ ∀ M, (∃ c, Makes c M s n) → L ≤ M
theorem Least.le {s : Nat → Bool} {n L : Nat} (h : Least s n L) : L ≤ n := h.2 n ⟨fun _ => false, makes_all _ s (Nat.le_refl _)⟩
theorem Least.unique {s : Nat → Bool} {n L M : Nat} (h : Least s n L) (h2 : Least s n M) : L = M := Nat.le_antisymm (h.2 M h2.1) (h2.2 L h.1)
theorem least_exists (s : Nat → Bool) (n : Nat) : ∃ L, Least s n L := by
  have h : ∀ k, (∃ M, M ≤ k ∧ ∃ c, Makes c M s n) → ∃ L, Least s n L := fun k => by
    induction k with
    | zero =>
      rintro ⟨M, hM, hc⟩
      have : M = 0 := by omega
      subst this
      exact ⟨0, hc, fun M _ => Nat.zero_le _⟩
    | succ k ih =>
      rintro ⟨M, hM, hc⟩
      by_cases h : ∃ M, M ≤ k ∧ ∃ c, Makes c M s n
      · exact ih h
      · refine ⟨M, hc, fun M' hc' => ?_⟩
        by_cases h2 : M ≤ M'
        · exact h2
        · exact absurd ⟨M', by omega, hc'⟩ h
  exact h n ⟨n, Nat.le_refl _, fun _ => false, makes_all _ s (Nat.le_refl _)⟩
theorem Least.mono {s : Nat → Bool} {n m L M : Nat} (h : Least s n L) (h2 : Least s m M) (hm : n ≤ m) : L ≤ M := by
  obtain ⟨c, hc⟩ := h2.1
  exact h.2 M ⟨c, hc.mono hm⟩
/-- Of the sum over a register that is laid d further on. -/
theorem sx_shift (f : Nat → Bool) (d : Nat) : ∀ M, sx (d + M + 1) (fun k => if k < d then false else f (k - d)) = sx (M + 1) f
  | 0 => by
    show xor (sx (d + 0) fun k => if k < d then false else f (k - d)) (if d + 0 < d then false else f (d + 0 - d)) = xor (sx 0 f) (f 0)
    have h := sx_le (f := fun k => if k < d then false else f (k - d)) (n := 0) (m := d + 0) (Nat.zero_le _) (fun k _ h2 => by show (if k < d then false else f (k - d)) = false; rw [if_pos (by omega)])
    rw [h, if_neg (by omega), show d + 0 - d = 0 by omega]
    rfl
  | M + 1 => by
    show xor (sx (d + M + 1) fun k => if k < d then false else f (k - d)) (if d + M + 1 < d then false else f (d + M + 1 - d)) = xor (sx (M + 1) f) (f (M + 1))
    rw [sx_shift f d M, if_neg (by omega), show d + M + 1 - d = M + 1 by omega]
/-- Its taps, with the 1 ahead of them. -/
def con (b : Nat → Bool) (M : Nat) : Nat → Bool := fun k => if k = 0 then true else decide (k ≤ M) && b (k - 1)
theorem sx_con (b : Nat → Bool) (M : Nat) (g : Nat → Bool) : (sx (M + 1) fun k => con b M k && g k) = xor (g 0) (sx M fun k => b k && g (k + 1)) := by
  have h : ∀ n, n ≤ M → (sx (n + 1) fun k => con b M k && g k) = xor (g 0) (sx n fun k => b k && g (k + 1)) := fun n => by
    induction n with
    | zero =>
      intro _
      show xor false (con b M 0 && g 0) = xor (g 0) false
      unfold con
      rw [if_pos rfl]
      cases g 0 <;> rfl
    | succ n ih =>
      intro hn
      show xor (sx (n + 1) fun k => con b M k && g k) (con b M (n + 1) && g (n + 1)) = xor (g 0) (xor (sx n fun k => b k && g (k + 1)) (b n && g (n + 1)))
      rw [ih (by omega)]
      have e : con b M (n + 1) = b n := by
        unfold con
        rw [if_neg (by omega)]
        simp [hn]
      rw [e]
      cases g 0 <;> cases (sx n fun k => b k && g (k + 1)) <;> cases (b n && g (n + 1)) <;> rfl
  exact h M (Nat.le_refl _)
/-- One register, changed by another one that failed m bits earlier. -/
def bm (c b : Nat → Bool) (L M d : Nat) : Nat → Bool := fun k => xor (decide (k < L) && c k) (if k < d then false else con b M (k - d))
theorem bm_sum (c b : Nat → Bool) (L M d K : Nat) (s : Nat → Bool) (i : Nat) (h1 : L ≤ K) (h2 : d + M + 1 ≤ K) : (sx K fun k => bm c b L M d k && s (i - 1 - k)) = xor (sx L fun k => c k && s (i - 1 - k)) (xor (s (i - 1 - d)) (sx M fun k => b k && s (i - 1 - d - 1 - k))) := by
  have e1 : (sx K fun k => bm c b L M d k && s (i - 1 - k)) = sx K fun k => xor ((decide (k < L) && c k) && s (i - 1 - k)) (if k < d then false else con b M (k - d) && s (i - 1 - d - (k - d))) := sx_congr K fun k hk => by
    unfold bm
    by_cases h : k < d
    · simp only [h, if_true]
      cases (decide (k < L) && c k) <;> cases s (i - 1 - k) <;> rfl
    · simp only [h, if_false]
      rw [show i - 1 - d - (k - d) = i - 1 - k by omega]
      cases (decide (k < L) && c k) <;> cases con b M (k - d) <;> cases s (i - 1 - k) <;> rfl
  rw [e1, sx_xor]
  congr 1
  · rw [sx_le (n := L) h1 (fun k h3 _ => by simp [show ¬ k < L by omega])]
    refine sx_congr L fun k hk => ?_
    simp [hk]
  · rw [sx_le (n := d + M + 1) h2 (fun k h3 _ => by
      rw [if_neg (by omega)]
      unfold con
      rw [if_neg (by omega)]
      simp [show ¬ k - d ≤ M by omega])]
    rw [sx_shift (fun j => con b M j && s (i - 1 - d - j)) d M, sx_con b M (fun j => s (i - 1 - d - j))]
    congr 1
    refine sx_congr M fun k hk => ?_
    rw [show i - 1 - d - (k + 1) = i - 1 - d - 1 - k by omega]
/-- What it makes: by one that fails at n, and one that failed at m. -/
theorem bm_makes {c b : Nat → Bool} {L M m n K : Nat} {s : Nat → Bool} (hc : Makes c L s n) (hcf : ¬ At c L s n) (hb : Makes b M s m) (hbf : ¬ At b M s m) (hm : m < n) (hL : L ≤ n) (hM : M ≤ m) (h1 : L ≤ K) (h2 : n - m + M ≤ K) : Makes (bm c b L M (n - m - 1)) K s (n + 1) := fun i hi1 hi2 => by
  show s i = sx K fun k => bm c b L M (n - m - 1) k && s (i - 1 - k)
  rw [bm_sum c b L M (n - m - 1) K s i h1 (by omega)]
  have ed : i - 1 - (n - m - 1) = i - (n - m) := by omega
  rw [ed]
  by_cases e : i = n
  · subst e
    rw [show i - (i - m) = m by omega]
    unfold At at hcf hbf
    cases hs : s i <;> cases hs2 : (sx L fun k => c k && s (i - 1 - k)) <;> cases hs3 : s m <;> cases hs4 : (sx M fun k => b k && s (m - 1 - k)) <;> simp_all
  · have h3 := hc i (by omega) (by omega)
    have h4 := hb (i - (n - m)) (by omega) (by omega)
    unfold At at h3 h4
    rw [← h3, ← h4]
    cases s i <;> cases s (i - (n - m)) <;> rfl
/-- How it has grown up to n: nothing but zeros, or a register that failed when it grew last. -/
def Last (s : Nat → Bool) (n L : Nat) : Prop := (L = 0 ∧ ∀ i, i < n → s i = false) ∨ ∃ m M b, m < n ∧ M ≤ m ∧ Makes b M s m ∧ ¬ At b M s m ∧ L = m + 1 - M
theorem grows (s : Nat → Bool) : ∀ n, ∃ L, Least s n L ∧ Last s n L ∧ ∀ L' , Least s (n + 1) L' → L' = L ∨ (L' = n + 1 - L ∧ 2 * L ≤ n)
  | 0 => by
    refine ⟨0, ⟨⟨fun _ => false, fun i _ h2 => by omega⟩, fun M _ => Nat.zero_le _⟩, .inl ⟨rfl, fun i hi => by omega⟩, fun L' h => ?_⟩
    have := h.le
    rcases (by omega : L' = 0 ∨ L' = 1) with e | e
    · exact .inl e
    · exact .inr ⟨by omega, by omega⟩
  | n + 1 => by
    obtain ⟨L, hl, hlast, hstep⟩ := grows s n
    have hln := hl.le
    obtain ⟨L', hl'⟩ := least_exists s (n + 1)
    have hlast' : Last s (n + 1) L' := by
      rcases hstep L' hl' with e | ⟨e1, e2⟩
      · subst e
        rcases hlast with ⟨h0, hz⟩ | ⟨m, M, b, h1, h2, h3, h4, h5⟩
        · left
          refine ⟨h0, fun i hi => ?_⟩
          by_cases e : i = n
          · subst e
            obtain ⟨c, hc⟩ := hl'.1
            rw [h0] at hc
            exact hc i (Nat.zero_le _) (by omega)
          · exact hz i (by omega)
        · exact .inr ⟨m, M, b, by omega, h2, h3, h4, h5⟩
      · obtain ⟨c, hc⟩ := hl.1
        by_cases h : At c L s n
        · have h6 : Makes c L s (n + 1) := hc.succ fun _ => h
          have h7 := hl'.2 L ⟨c, h6⟩
          have h8 := hl.mono hl' (by omega)
          have h9 : L' = L := by omega
          rw [h9]
          rcases hlast with ⟨h0, hz⟩ | ⟨m, M, b, k1, k2, k3, k4, k5⟩
          · left
            refine ⟨h0, fun i hi => ?_⟩
            by_cases e : i = n
            · subst e
              rw [h0] at h
              exact h
            · exact hz i (by omega)
          · exact .inr ⟨m, M, b, by omega, k2, k3, k4, k5⟩
        · exact .inr ⟨n, L, c, by omega, hln, hc, h, e1⟩
    refine ⟨L', hl', hlast', fun L2 hl2 => ?_⟩
    have hl1n := hl'.le
    have hmono := hl'.mono hl2 (Nat.le_succ _)
    obtain ⟨c, hc⟩ := hl'.1
    by_cases h : At c L' s (n + 1)
    · left
      have := hl2.2 L' ⟨c, hc.succ fun _ => h⟩
      omega
    · obtain ⟨d, hd⟩ := hl2.1
      have hlow := massey hc hd h
      rcases hlast' with ⟨h0, hz⟩ | ⟨m, M, b, h1, h2, h3, h4, h5⟩
      · subst h0
        right
        have := hl2.le
        omega
      · have hup : L2 ≤ max L' (n + 1 - m + M) := hl2.2 _ ⟨_, bm_makes hc h h3 h4 h1 (by omega) h2 (Nat.le_max_left _ _) (Nat.le_max_right _ _)⟩
        have e9 : n + 1 - m + M = n + 2 - L' := by omega
        rw [e9] at hup
        by_cases h10 : n + 2 - L' ≤ L'
        · left
          rw [Nat.max_eq_left h10] at hup
          omega
        · right
          rw [Nat.max_eq_right (by omega)] at hup
          exact ⟨by omega, by omega⟩
/-- MASSEY: where the shortest length grows, behind n bits. -/
theorem grown {s : Nat → Bool} {n L L' : Nat} (h : Least s n L) (h' : Least s (n + 1) L') : L' = L ∨ (L' = n + 1 - L ∧ 2 * L ≤ n) := by
  obtain ⟨L0, h0, _, h1⟩ := grows s n
  rw [h.unique h0]
  exact h1 L' h'
end Go.Proofs.Ytflehdigikdhmaa.Rg
