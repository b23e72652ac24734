/-
  Plain mathematics: determinants, products and inverses of up to four rows, modulo 26.
-/
import Derived.Test.YtlgjgppojdamiabHInv
namespace Go.Proofs.Ytlgjgppojdamiab
open Go.RowKit PK

/-- With its sign. -/
def sgI (s : Nat) (d : Int) : Int := if s % 2 = 1 then -d else d
/-- The determinant, in whole numbers. -/
def dI : Nat → (Nat → Nat → Int) → Int
  | 0, _ => 1
  | n + 1, Z => sumTo (Z 0) (fun x => sgI (0 + x) (dI n (minor Z 0 x))) (n + 1)
def mulI (n : Nat) (A B : Nat → Nat → Int) : Nat → Nat → Int := fun y x => sumTo (A y) (fun k => B k x) n
theorem mul_mod {a b c d : Int} (h1 : a % 26 = b % 26) (h2 : c % 26 = d % 26) : (a * c) % 26 = (b * d) % 26 := by rw [Int.mul_emod, h1, h2, ← Int.mul_emod]
theorem sumTo_mod {f f' g g' : Nat → Int} : ∀ n, (∀ k, k < n → f k % 26 = f' k % 26 ∧ g k % 26 = g' k % 26) → sumTo f g n % 26 = sumTo f' g' n % 26
  | 0, _ => rfl
  | n + 1, h => by
    show (sumTo f g n + f n * g n) % 26 = (sumTo f' g' n + f' n * g' n) % 26
    have ih := sumTo_mod n fun k hk => h k (by omega)
    have h1 := mul_mod (h n (by omega)).1 (h n (by omega)).2
    omega
theorem sg_mod (s : Nat) {d e : Int} (h : d % 26 = e % 26) : sgI s d % 26 = sgI s e % 26 := by
  unfold sgI
  split <;> omega
theorem signed_mod (s : Nat) {d e : Int} (h : d % 26 = e % 26) : signed s d % 26 = sgI s e % 26 := by
  unfold sgI signed
  split <;> omega
theorem dI_congr : ∀ n (Z Z' : Nat → Nat → Int), (∀ r, r < n → ∀ c, c < n → Z r c % 26 = Z' r c % 26) → dI n Z % 26 = dI n Z' % 26
  | 0, _, _, _ => rfl
  | n + 1, Z, Z', h => sumTo_mod (n + 1) fun k hk => ⟨h 0 (by omega) k hk, sg_mod _ (dI_congr n _ _ fun r hr c hc => h _ (skip_le hr) _ (skip_le hc))⟩
theorem detL_mod : ∀ n Z, detL n Z = dI n Z % 26
  | 0, _ => rfl
  | n + 1, Z => sumTo_mod (n + 1) fun k hk => ⟨rfl, signed_mod _ (by rw [detL_mod n]; omega)⟩
theorem detL_congr (n : Nat) (Z Z' : Nat → Nat → Int) (h : ∀ r, r < n → ∀ c, c < n → Z r c = Z' r c) : detL n Z = detL n Z' := by
  rw [detL_mod, detL_mod]
  exact dI_congr n Z Z' fun r hr c hc => by rw [h r hr c hc]
theorem cofL_mod (n : Nat) (Z : Nat → Nat → Int) (y x : Nat) : cofL n Z y x % 26 = sgI (y + x) (dI n (minor Z y x)) % 26 := signed_mod _ (by rw [detL_mod]; omega)
theorem mul_one' (A B : Nat → Nat → Int) : dI 1 (mulI 1 A B) = dI 1 A * dI 1 B := by
  simp [dI, sumTo, sgI, mulI]
theorem mul_two (A B : Nat → Nat → Int) : dI 2 (mulI 2 A B) = dI 2 A * dI 2 B := by
  simp [dI, sumTo, sgI, minor, skip, mulI]
  grind
theorem mul_three (A B : Nat → Nat → Int) : dI 3 (mulI 3 A B) = dI 3 A * dI 3 B := by
  simp [dI, sumTo, sgI, minor, skip, mulI]
  grind
set_option maxHeartbeats 4000000 in
set_option maxRecDepth 100000 in
theorem mul_four (A B : Nat → Nat → Int) : dI 4 (mulI 4 A B) = dI 4 A * dI 4 B := by
  simp [dI, sumTo, sgI, minor, skip, mulI]
  grind
theorem dI_mul (n : Nat) (h1 : 1 ≤ n) (h4 : n ≤ 4) (A B : Nat → Nat → Int) : dI n (mulI n A B) = dI n A * dI n B := by
  obtain rfl | rfl | rfl | rfl : n = 1 ∨ n = 2 ∨ n = 3 ∨ n = 4 := by omega
  · exact mul_one' A B
  · exact mul_two A B
  · exact mul_three A B
  · exact mul_four A B
/-- DETERMINANTS MULTIPLY. -/
theorem detL_mul (n : Nat) (h1 : 1 ≤ n) (h4 : n ≤ 4) (A B : Nat → Nat → Int) : detL n (mulL n A B) = detL n A * detL n B % 26 := by
  rw [detL_mod, dI_congr n (mulL n A B) (mulI n A B) (fun r _ c _ => by show (sumTo (A r) (fun k => B k c) n % 26) % 26 = sumTo (A r) (fun k => B k c) n % 26; omega), dI_mul n h1 h4, detL_mod, detL_mod, ← Int.mul_emod]
/-- A row times the cofactors of a row. -/
theorem row_cof (m : Nat) (h : m < 4) (A : Nat → Nat → Int) (y x : Nat) (hy : y < m + 1) (hx : x < m + 1) : sumTo (A y) (fun k => sgI (x + k) (dI m (minor A x k))) (m + 1) = if y = x then dI (m + 1) A else 0 := by
  obtain rfl | rfl | rfl | rfl : m = 0 ∨ m = 1 ∨ m = 2 ∨ m = 3 := by omega
  · obtain rfl : y = 0 := by omega
    obtain rfl : x = 0 := by omega
    rfl
  · obtain rfl | rfl : y = 0 ∨ y = 1 := by omega
    all_goals obtain rfl | rfl : x = 0 ∨ x = 1 := by omega
    all_goals simp [dI, sumTo, sgI, minor, skip]
    all_goals grind
  · obtain rfl | rfl | rfl : y = 0 ∨ y = 1 ∨ y = 2 := by omega
    all_goals obtain rfl | rfl | rfl : x = 0 ∨ x = 1 ∨ x = 2 := by omega
    all_goals simp [dI, sumTo, sgI, minor, skip]
    all_goals grind
  · obtain rfl | rfl | rfl | rfl : y = 0 ∨ y = 1 ∨ y = 2 ∨ y = 3 := by omega
    all_goals obtain rfl | rfl | rfl | rfl : x = 0 ∨ x = 1 ∨ x = 2 ∨ x = 3 := by omega
    all_goals simp [dI, sumTo, sgI, minor, skip]
    all_goals grind
/-- The cofactors of a column times a column. -/
theorem cof_col (m : Nat) (h : m < 4) (A : Nat → Nat → Int) (y x : Nat) (hy : y < m + 1) (hx : x < m + 1) : sumTo (fun k => sgI (k + y) (dI m (minor A k y))) (fun k => A k x) (m + 1) = if y = x then dI (m + 1) A else 0 := by
  obtain rfl | rfl | rfl | rfl : m = 0 ∨ m = 1 ∨ m = 2 ∨ m = 3 := by omega
  · obtain rfl : y = 0 := by omega
    obtain rfl : x = 0 := by omega
    simp [dI, sumTo, sgI]
  · obtain rfl | rfl : y = 0 ∨ y = 1 := by omega
    all_goals obtain rfl | rfl : x = 0 ∨ x = 1 := by omega
    all_goals simp [dI, sumTo, sgI, minor, skip]
    all_goals grind
  · obtain rfl | rfl | rfl : y = 0 ∨ y = 1 ∨ y = 2 := by omega
    all_goals obtain rfl | rfl | rfl : x = 0 ∨ x = 1 ∨ x = 2 := by omega
    all_goals simp [dI, sumTo, sgI, minor, skip]
    all_goals grind
  · obtain rfl | rfl | rfl | rfl : y = 0 ∨ y = 1 ∨ y = 2 ∨ y = 3 := by omega
    all_goals obtain rfl | rfl | rfl | rfl : x = 0 ∨ x = 1 ∨ x = 2 ∨ x = 3 := by omega
    all_goals simp [dI, sumTo, sgI, minor, skip]
    all_goals grind
theorem sumTo_scale (u : Int) (f g : Nat → Int) : ∀ n, sumTo f (fun k => u * g k) n = u * sumTo f g n
  | 0 => by simp [sumTo]
  | n + 1 => by
    show sumTo f (fun k => u * g k) n + f n * (u * g n) = u * (sumTo f g n + f n * g n)
    rw [sumTo_scale u f g n]
    grind
theorem sumTo_scaleL (u : Int) (f g : Nat → Int) : ∀ n, sumTo (fun k => u * f k) g n = u * sumTo f g n
  | 0 => by simp [sumTo]
  | n + 1 => by
    show sumTo (fun k => u * f k) g n + (u * f n) * g n = u * (sumTo f g n + f n * g n)
    rw [sumTo_scaleL u f g n]
    grind
theorem recOf_spec (d : Int) (h : (recOf d).2 = 0) : (d * (recOf d).1) % 26 = 1 := by
  unfold recOf at h ⊢
  split at h
  · rename_i v hv
    have := List.find?_some hv
    simpa using this
  · cases h
theorem recOf_iff (d : Int) (hd : 0 ≤ d ∧ d < 26) : (recOf d).2 = 0 ↔ d % 2 ≠ 0 ∧ d % 13 ≠ 0 := by
  obtain ⟨n, rfl⟩ : ∃ n : Nat, d = n := ⟨d.toNat, by omega⟩
  have hn : n < 26 := by omega
  have key : ∀ n, n < 26 → ((recOf ((n : Nat) : Int)).2 = 0 ↔ ((n : Nat) : Int) % 2 ≠ 0 ∧ ((n : Nat) : Int) % 13 ≠ 0) := by decide +kernel
  exact key n hn
/-- The one that changes nothing. -/
def oneL : Nat → Nat → Int := fun y x => if y = x then 1 else 0
theorem inv_right (n : Nat) (h1 : 1 ≤ n) (h4 : n ≤ 4) (A : Nat → Nat → Int) (hr : (recOf (detL n A)).2 = 0) (y x : Nat) (hy : y < n) (hx : x < n) : mulL n A (invL n A) y x = oneL y x := by
  obtain ⟨m, rfl⟩ : ∃ m, n = m + 1 := ⟨n - 1, by omega⟩
  have hs := recOf_spec _ hr
  show sumTo (A y) (fun k => (recOf (detL (m + 1) A)).1 * cofL m A x k % 26) (m + 1) % 26 = _
  generalize (recOf (detL (m + 1) A)).1 = u at *
  rw [sumTo_mod (f' := A y) (g' := fun k => u * sgI (x + k) (dI m (minor A x k))) (m + 1) (fun k _ => ⟨rfl, by rw [Int.emod_emod]; exact mul_mod rfl (cofL_mod m A x k)⟩), sumTo_scale, row_cof m (by omega) A y x hy hx]
  unfold oneL
  rw [detL_mod] at hs
  by_cases e : y = x
  · rw [if_pos e, if_pos e, Int.mul_comm, ← hs]
    exact mul_mod (by omega) rfl
  · rw [if_neg e, if_neg e]
    simp
theorem inv_left (n : Nat) (h1 : 1 ≤ n) (h4 : n ≤ 4) (A : Nat → Nat → Int) (hr : (recOf (detL n A)).2 = 0) (y x : Nat) (hy : y < n) (hx : x < n) : mulL n (invL n A) A y x = oneL y x := by
  obtain ⟨m, rfl⟩ : ∃ m, n = m + 1 := ⟨n - 1, by omega⟩
  have hs := recOf_spec _ hr
  show sumTo (fun k => (recOf (detL (m + 1) A)).1 * cofL m A k y % 26) (fun k => A k x) (m + 1) % 26 = _
  generalize (recOf (detL (m + 1) A)).1 = u at *
  rw [sumTo_mod (f' := fun k => u * sgI (k + y) (dI m (minor A k y))) (g' := fun k => A k x) (m + 1) (fun k _ => ⟨by rw [Int.emod_emod]; exact mul_mod rfl (cofL_mod m A k y), rfl⟩), sumTo_scaleL, cof_col m (by omega) A y x hy hx]
  unfold oneL
  rw [detL_mod] at hs
  by_cases e : y = x
  · rw [if_pos e, if_pos e, Int.mul_comm, ← hs]
    exact mul_mod (by omega) rfl
  · rw [if_neg e, if_neg e]
    simp
theorem good_mul {n : Nat} (h1 : 1 ≤ n) (h4 : n ≤ 4) (A B : Nat → Nat → Int) : GoodM n (mulL n A B) := ⟨h1, h4, fun _ _ _ _ => ⟨Int.emod_nonneg _ (by decide), Int.emod_lt_of_pos _ (by decide)⟩⟩
theorem good_inv {n : Nat} (h1 : 1 ≤ n) (h4 : n ≤ 4) (A : Nat → Nat → Int) : GoodM n (invL n A) := by
  obtain ⟨m, rfl⟩ : ∃ m, n = m + 1 := ⟨n - 1, by omega⟩
  exact ⟨h1, h4, fun _ _ _ _ => ⟨Int.emod_nonneg _ (by decide), Int.emod_lt_of_pos _ (by decide)⟩⟩
end Go.Proofs.Ytlgjgppojdamiab
