/-
  Plain mathematics of no program: after how many times an order stands where it stood.
-/
namespace Go.Proofs.Ytennpknkcaeafac.Qm

def it (f : Nat → Nat) : Nat → Nat → Nat
  | 0, i => i
  | k + 1, i => f (it f k i)
theorem it_add (f : Nat → Nat) (i : Nat) : ∀ a b, it f (a + b) i = it f a (it f b i)
  | 0, b => by rw [Nat.zero_add]; rfl
  | a + 1, b => by
    rw [Nat.add_right_comm]
    show f (it f (a + b) i) = f (it f a (it f b i))
    rw [it_add f i a b]
theorem it_mul {f : Nat → Nat} {i n : Nat} (h : it f n i = i) : ∀ c, it f (n * c) i = i
  | 0 => rfl
  | c + 1 => by rw [Nat.mul_succ, it_add, h, it_mul h c]
theorem it_dvd {f : Nat → Nat} {i n t : Nat} (h : it f n i = i) (hd : n ∣ t) : it f t i = i := by
  obtain ⟨c, rfl⟩ := hd
  exact it_mul h c
/-- f takes the numbers below n to numbers below n, each to its own. -/
structure Ord (n : Nat) (f : Nat → Nat) : Prop where
  lt : ∀ i, i < n → f i < n
  inj : ∀ i j, i < n → j < n → f i = f j → i = j
theorem it_lt {n : Nat} {f : Nat → Nat} (h : Ord n f) {i : Nat} (hi : i < n) : ∀ k, it f k i < n
  | 0 => hi
  | k + 1 => h.lt _ (it_lt h hi k)
/-- How many of the first n are not marked. -/
def left (g : Nat → Bool) : Nat → Nat
  | 0 => 0
  | n + 1 => left g n + (if g n then 0 else 1)
theorem left_same {g g' : Nat → Bool} : ∀ n, (∀ i, i < n → g i = g' i) → left g n = left g' n
  | 0, _ => rfl
  | n + 1, h => by
    show left g n + _ = left g' n + _
    rw [left_same n fun i hi => h i (by omega), h n (by omega)]
theorem left_mark {g g' : Nat → Bool} {k : Nat} (hg : g k = false) (hk : g' k = true) (ho : ∀ i, i ≠ k → g' i = g i) : ∀ n, k < n → left g' n < left g n
  | 0, h => by omega
  | n + 1, h => by
    show left g' n + _ < left g n + _
    by_cases e : k = n
    · subst e
      rw [left_same k fun i hi => ho i (by omega), hg, hk]
      simp
    · have := left_mark hg hk ho n (by omega)
      rw [ho n (by omega)]
      omega
/-- A round from i on, k steps gone: which are marked now. -/
structure Walk (n : Nat) (f : Nat → Nat) (g0 : Nat → Bool) (i k : Nat) (g : Nat → Bool) : Prop where
  mark : ∀ x, x < n → (g x = true ↔ g0 x = true ∨ ∃ j, j < k ∧ x = it f j i)
  fresh : ∀ j, j < k → g0 (it f j i) = false
  apart : ∀ j j', j < j' → j' < k → it f j i ≠ it f j' i
/-- What is marked between the rounds: whole rounds. -/
def Closed (n : Nat) (f : Nat → Nat) (g : Nat → Bool) : Prop := ∀ x, x < n → g (f x) = g x
theorem Walk.start (n : Nat) (f : Nat → Nat) (g0 : Nat → Bool) (i : Nat) : Walk n f g0 i 0 g0 :=
  ⟨fun x _ => ⟨fun h => .inl h, fun h => h.elim id fun ⟨j, hj, _⟩ => by omega⟩, fun j hj => by omega, fun j j' _ h => by omega⟩
theorem Walk.step {n : Nat} {f : Nat → Nat} {g0 g g' : Nat → Bool} {i k : Nat} (hf : Ord n f) (hi : i < n) (h : Walk n f g0 i k g) (hn : g (it f k i) = false) (hk : g' (it f k i) = true) (ho : ∀ x, x ≠ it f k i → g' x = g x) : Walk n f g0 i (k + 1) g' := by
  have hl := it_lt hf hi k
  have hno : ¬ (g0 (it f k i) = true ∨ ∃ j, j < k ∧ it f k i = it f j i) := fun hc => by
    have := (h.mark _ hl).2 hc
    rw [hn] at this
    cases this
  refine ⟨fun x hx => ?_, fun j hj => ?_, fun j j' hjj hj' => ?_⟩
  · by_cases e : x = it f k i
    · subst e
      exact ⟨fun _ => .inr ⟨k, by omega, rfl⟩, fun _ => hk⟩
    · rw [ho x e, h.mark x hx]
      constructor
      · rintro (c | ⟨j, hj, ej⟩)
        · exact .inl c
        · exact .inr ⟨j, by omega, ej⟩
      · rintro (c | ⟨j, hj, ej⟩)
        · exact .inl c
        · refine .inr ⟨j, ?_, ej⟩
          have : j ≠ k := fun e2 => e (by rw [ej, e2])
          omega
  · by_cases e : j = k
    · subst e
      cases hg : g0 (it f j i) with
      | false => rfl
      | true => exact absurd (.inl hg) hno
    · exact h.fresh j (by omega)
  · by_cases e : j' = k
    · subst e
      exact fun e2 => hno (.inr ⟨j, hjj, e2.symm⟩)
    · exact h.apart j j' hjj (by omega)
theorem Closed.it {n : Nat} {f : Nat → Nat} {g : Nat → Bool} (hf : Ord n f) (hc : Closed n f g) {i : Nat} (hi : i < n) : ∀ k, g (it f k i) = g i
  | 0 => rfl
  | k + 1 => (hc _ (it_lt hf hi k)).trans (Closed.it hf hc hi k)
/-- The round has come back. -/
structure Round (n : Nat) (f : Nat → Nat) (g0 : Nat → Bool) (i k : Nat) (g : Nat → Bool) : Prop where
  pos : 0 < k
  ret : it f k i = i
  min : ∀ j, 0 < j → j < k → it f j i ≠ i
  mark : ∀ x, x < n → (g x = true ↔ g0 x = true ∨ ∃ j, j < k ∧ x = it f j i)
  closed : Closed n f g
theorem Walk.back {n : Nat} {f : Nat → Nat} {g0 g : Nat → Bool} {i k : Nat} (hf : Ord n f) (hi : i < n) (hc : Closed n f g0) (hi0 : g0 i = false) (h : Walk n f g0 i k g) (hy : g (it f k i) = true) : Round n f g0 i k g := by
  have hl := it_lt hf hi k
  obtain ⟨j, hj, e⟩ : ∃ j, j < k ∧ it f k i = it f j i := by
    rcases (h.mark _ hl).1 hy with c | c
    · rw [hc.it hf hi k, hi0] at c; cases c
    · exact c
  have hj0 : j = 0 := by
    apply Classical.byContradiction
    intro hne
    obtain ⟨j', rfl⟩ : ∃ j', j = j' + 1 := ⟨j - 1, by omega⟩
    obtain ⟨k', rfl⟩ : ∃ k', k = k' + 1 := ⟨k - 1, by omega⟩
    have : Qm.it f k' i = Qm.it f j' i := hf.inj _ _ (it_lt hf hi k') (it_lt hf hi j') e
    exact h.apart j' k' (by omega) (by omega) this.symm
  subst hj0
  have hret : Qm.it f k i = i := e
  refine ⟨by omega, hret, fun j h1 h2 e2 => h.apart 0 j h1 h2 e2.symm, h.mark, fun x hx => ?_⟩
  have h1 := h.mark x hx
  have h2 := h.mark (f x) (hf.lt x hx)
  have hiff : g (f x) = true ↔ g x = true := by
    rw [h1, h2, hc x hx]
    constructor
    · rintro (c | ⟨j, hj2, ej⟩)
      · exact .inl c
      · by_cases j0 : j = 0
        · subst j0
          refine .inr ⟨k - 1, by omega, ?_⟩
          apply hf.inj _ _ hx (it_lt hf hi _)
          rw [ej]
          show i = Qm.it f (k - 1 + 1) i
          rw [show k - 1 + 1 = k by omega, hret]
        · obtain ⟨j', rfl⟩ : ∃ j', j = j' + 1 := ⟨j - 1, by omega⟩
          exact .inr ⟨j', by omega, hf.inj _ _ hx (it_lt hf hi _) ej⟩
    · rintro (c | ⟨j, hj2, ej⟩)
      · exact .inl c
      · right
        by_cases jk : j + 1 = k
        · refine ⟨0, by omega, ?_⟩
          rw [ej]
          show Qm.it f (j + 1) i = i
          rw [jk, hret]
        · exact ⟨j + 1, by omega, by rw [ej]; rfl⟩
  cases ha : g (f x) <;> cases hb : g x
  · rfl
  · rw [ha, hb] at hiff; exact absurd (hiff.2 rfl) (by decide)
  · rw [ha, hb] at hiff; exact absurd (hiff.1 rfl) (by decide)
  · rfl
/-- P is after how many times all marked ones stand where they stood, first. -/
structure Per (n : Nat) (f : Nat → Nat) (g : Nat → Bool) (P : Nat) : Prop where
  pos : 0 < P
  ret : ∀ x, x < n → g x = true → it f P x = x
  min : ∀ t, (∀ x, x < n → g x = true → it f t x = x) → P ∣ t
theorem per_start (n : Nat) (f : Nat → Nat) : Per n f (fun _ => false) 1 := ⟨by omega, fun _ _ h => (by cases h), fun t _ => Nat.one_dvd t⟩
theorem Round.dvd {n : Nat} {f : Nat → Nat} {g0 g : Nat → Bool} {i k : Nat} (h : Round n f g0 i k g) {t : Nat} (ht : it f t i = i) : k ∣ t := by
  have h1 : t = t % k + k * (t / k) := by have := Nat.div_add_mod t k; omega
  have h2 : it f (t % k) i = i := by
    have := ht
    rw [h1, it_add, it_mul h.ret] at this
    exact this
  apply Nat.dvd_of_mod_eq_zero
  apply Classical.byContradiction
  intro hne
  exact h.min (t % k) (by omega) (Nat.mod_lt _ h.pos) h2
theorem Per.round {n : Nat} {f : Nat → Nat} {g0 g : Nat → Bool} {i k P P' : Nat} (hi : i < n) (h : Per n f g0 P) (hr : Round n f g0 i k g) (hP : P' = Nat.lcm P k) : Per n f g P' := by
  subst hP
  refine ⟨Nat.lcm_pos h.pos hr.pos, fun x hx hg => ?_, fun t ht => ?_⟩
  · rcases (hr.mark x hx).1 hg with c | ⟨j, _, e⟩
    · exact it_dvd (h.ret x hx c) (Nat.dvd_lcm_left _ _)
    · have : it f k x = x := by rw [e, ← it_add, Nat.add_comm, it_add, hr.ret]
      exact it_dvd this (Nat.dvd_lcm_right _ _)
  · refine Nat.lcm_dvd (h.min t fun x hx hg => ht x hx ((hr.mark x hx).2 (.inl hg))) (hr.dvd (ht i hi ((hr.mark i hi).2 (.inr ⟨0, hr.pos, rfl⟩))))
/-- What Period answers. -/
def PerOut (n : Nat) (f : Nat → Nat) (a e : Int) : Prop :=
  (∃ Q : Nat, a = Q ∧ e = 0 ∧ Q ≤ 1099511627776 ∧ 0 < Q ∧ (∀ x, x < n → it f Q x = x) ∧ ∀ t, (∀ x, x < n → it f t x = x) → Q ∣ t) ∨ (a = 0 ∧ e = 4 ∧ ∃ P : Nat, 1099511627776 < P ∧ ∀ t, (∀ x, x < n → it f t x = x) → P ∣ t)
theorem Per.done {n : Nat} {f : Nat → Nat} {g : Nat → Bool} {P : Nat} (h : Per n f g P) (hg : ∀ x, x < n → g x = true) (hP : P ≤ 1099511627776) : PerOut n f P 0 :=
  .inl ⟨P, rfl, rfl, hP, h.pos, fun x hx => h.ret x hx (hg x hx), fun t ht => h.min t fun x hx _ => ht x hx⟩
theorem Per.much {n : Nat} {f : Nat → Nat} {g : Nat → Bool} {P : Nat} (h : Per n f g P) (hP : 1099511627776 < P) : PerOut n f 0 4 :=
  .inr ⟨rfl, rfl, P, hP, fun t ht => h.min t fun x hx _ => ht x hx⟩
theorem perOut_uniq {n : Nat} {f : Nat → Nat} {a e a' e' : Int} (h : PerOut n f a e) (h' : PerOut n f a' e') : a = a' ∧ e = e' := by
  rcases h with ⟨Q, rfl, rfl, hQ, h0, h1, h2⟩ | ⟨rfl, rfl, P, hP, h2⟩ <;> rcases h' with ⟨Q', rfl, rfl, hQ', h0', h1', h2'⟩ | ⟨rfl, rfl, P', hP', h2'⟩
  · have := Nat.dvd_antisymm (h2 _ h1') (h2' _ h1)
    subst this
    exact ⟨rfl, rfl⟩
  · have := Nat.le_of_dvd h0 (h2' _ h1)
    omega
  · have := Nat.le_of_dvd h0' (h2 _ h1')
    omega
  · exact ⟨rfl, rfl⟩
/-- Taken as often as it takes: the first of P, 2P, .. that k divides. -/
theorem lcm_first {P k q : Nat} (hP : 0 < P) (hk : 0 < k) (hq : 0 < q) (h : P * q % k = 0) (hmin : ∀ r, 0 < r → r < q → P * r % k ≠ 0) : P * q = Nat.lcm P k := by
  have h1 : Nat.lcm P k ∣ P * q := Nat.lcm_dvd (Nat.dvd_mul_right _ _) (Nat.dvd_of_mod_eq_zero h)
  obtain ⟨r, hr⟩ := Nat.dvd_lcm_left P k
  have hpos := Nat.lcm_pos hP hk
  have hr0 : 0 < r := by
    apply Nat.pos_of_ne_zero
    intro e
    rw [e] at hr
    omega
  have hle : r ≤ q := by
    have := Nat.le_of_dvd (Nat.mul_pos hP hq) h1
    rw [hr] at this
    exact Nat.le_of_mul_le_mul_left this hP
  have hm : P * r % k = 0 := by rw [← hr]; exact Nat.mod_eq_zero_of_dvd (Nat.dvd_lcm_right _ _)
  rcases Nat.lt_or_ge r q with c | c
  · exact absurd hm (hmin r hr0 c)
  · have : r = q := by omega
    rw [hr, this]
theorem lcm_mul (P k : Nat) : P * (k / Nat.gcd P k) = Nat.lcm P k := by
  rw [Nat.lcm, Nat.mul_div_assoc _ (Nat.gcd_dvd_right P k)]
end Go.Proofs.Ytennpknkcaeafac.Qm
