/-
  Contract of the document's Leibniz and Det; what they are.
-/
import Derived.Test.YtlgjgppojdamiabHOrd
import Derived.Test.YtlgjgppojdamiabHMath
namespace Go.Proofs.Ytlgjgppojdamiab
open Go.RowKit PK

/-- A sign times what stands in row y at place o y, as the document reckons it. -/
def prodTo (Z : Nat → Nat → Int) (o : List Int) (s : Int) : Nat → Int
  | 0 => s
  | y + 1 => (prodTo Z o s y * Z y (o.getD y 0).toNat).tmod 26
/-- .. in whole numbers. -/
def pI (Z : Nat → Nat → Int) (o : List Int) (s : Int) : Nat → Int
  | 0 => s
  | y + 1 => pI Z o s y * Z y (o.getD y 0).toNat
theorem tmod_mod (x : Int) : x.tmod 26 % 26 = x % 26 := by
  rw [Int.tmod_eq_emod]
  split <;> omega
theorem prodTo_mod (Z : Nat → Nat → Int) (o : List Int) (s : Int) : ∀ y, prodTo Z o s y % 26 = pI Z o s y % 26
  | 0 => rfl
  | y + 1 => by
    show (prodTo Z o s y * Z y (o.getD y 0).toNat).tmod 26 % 26 = (pI Z o s y * Z y (o.getD y 0).toNat) % 26
    rw [tmod_mod]
    exact mul_mod (prodTo_mod Z o s y) rfl
theorem prodTo_bound (Z : Nat → Nat → Int) (o : List Int) (s : Int) (hs : s = 1 ∨ s = -1) : ∀ y, -26 < prodTo Z o s y ∧ prodTo Z o s y < 26
  | 0 => by show -26 < s ∧ s < 26; omega
  | y + 1 => by
    show -26 < (prodTo Z o s y * Z y (o.getD y 0).toNat).tmod 26 ∧ (prodTo Z o s y * Z y (o.getD y 0).toNat).tmod 26 < 26
    rw [Int.tmod_eq_emod]
    split <;> omega
/-- The sum over the first i orders, modulo 26. -/
def leibTo (n : Nat) (Z : Nat → Nat → Int) (ps : List (List Int × Int)) : Nat → Int
  | 0 => 0
  | i + 1 => (leibTo n Z ps i + prodTo Z (ps.getD i ([], 0)).1 (ps.getD i ([], 0)).2 n) % 26
/-- .. in whole numbers, over all. -/
def sumP (n : Nat) (Z : Nat → Nat → Int) : List (List Int × Int) → Int
  | [] => 0
  | p :: ps => pI Z p.1 p.2 n + sumP n Z ps
theorem sumP_append (n : Nat) (Z : Nat → Nat → Int) : ∀ a b, sumP n Z (a ++ b) = sumP n Z a + sumP n Z b
  | [], b => by simp [sumP]
  | p :: a, b => by
    show pI Z p.1 p.2 n + sumP n Z (a ++ b) = pI Z p.1 p.2 n + sumP n Z a + sumP n Z b
    rw [sumP_append n Z a b]
    omega
theorem leibTo_mod (n : Nat) (Z : Nat → Nat → Int) (ps : List (List Int × Int)) : ∀ i, i ≤ ps.length → leibTo n Z ps i = sumP n Z (ps.take i) % 26
  | 0, _ => rfl
  | i + 1, h => by
    have hp : ps[i]? = some (ps.getD i ([], 0)) := by simp [List.getD, List.getElem?_eq_getElem (show i < ps.length by omega)]
    rw [List.take_add_one, hp, sumP_append]
    show (leibTo n Z ps i + prodTo Z (ps.getD i ([], 0)).1 (ps.getD i ([], 0)).2 n) % 26 = (sumP n Z (ps.take i) + (pI Z (ps.getD i ([], 0)).1 (ps.getD i ([], 0)).2 n + 0)) % 26
    have h1 := leibTo_mod n Z ps i (by omega)
    have h2 := prodTo_mod Z (ps.getD i ([], 0)).1 (ps.getD i ([], 0)).2 n
    omega
theorem ord_is1 : ordL 1 = [([0], 1)] := by decide
theorem ord_is2 : ordL 2 = [([0, 1], 1), ([1, 0], -1)] := by decide
theorem ord_is3 : ordL 3 = [([0, 1, 2], 1), ([0, 2, 1], -1), ([2, 0, 1], 1), ([1, 0, 2], -1), ([1, 2, 0], 1), ([2, 1, 0], -1)] := by decide
theorem ord_is4 : ordL 4 = [([0, 1, 2, 3], 1), ([0, 1, 3, 2], -1), ([0, 3, 1, 2], 1), ([3, 0, 1, 2], -1), ([0, 2, 1, 3], -1), ([0, 2, 3, 1], 1), ([0, 3, 2, 1], -1), ([3, 0, 2, 1], 1), ([2, 0, 1, 3], 1), ([2, 0, 3, 1], -1), ([2, 3, 0, 1], 1), ([3, 2, 0, 1], -1), ([1, 0, 2, 3], -1), ([1, 0, 3, 2], 1), ([1, 3, 0, 2], -1), ([3, 1, 0, 2], 1), ([1, 2, 0, 3], 1), ([1, 2, 3, 0], -1), ([1, 3, 2, 0], 1), ([3, 1, 2, 0], -1), ([2, 1, 0, 3], -1), ([2, 1, 3, 0], 1), ([2, 3, 1, 0], -1), ([3, 2, 1, 0], 1)] := by decide
theorem leib_is1 (Z : Nat → Nat → Int) : sumP 1 Z (ordL 1) = dI 1 Z := by
  rw [ord_is1]
  simp [sumP, pI, dI, sumTo, sgI, List.getD]
theorem leib_is2 (Z : Nat → Nat → Int) : sumP 2 Z (ordL 2) = dI 2 Z := by
  rw [ord_is2]
  simp [sumP, pI, dI, sumTo, sgI, minor, skip, List.getD]
  grind
theorem leib_is3 (Z : Nat → Nat → Int) : sumP 3 Z (ordL 3) = dI 3 Z := by
  rw [ord_is3]
  simp [sumP, pI, dI, sumTo, sgI, minor, skip, List.getD]
  grind
set_option maxHeartbeats 4000000 in
set_option maxRecDepth 100000 in
theorem leib_is4 (Z : Nat → Nat → Int) : sumP 4 Z (ordL 4) = dI 4 Z := by
  rw [ord_is4]
  simp [sumP, pI, dI, sumTo, sgI, minor, skip, List.getD]
  grind
/-- LEIBNIZ AND LAPLACE. -/
theorem leib_det (n : Nat) (h1 : 1 ≤ n) (h4 : n ≤ 4) (Z : Nat → Nat → Int) : leibTo n Z (ordL n) (ordL n).length = detL n Z := by
  rw [leibTo_mod n Z _ _ (Nat.le_refl _), List.take_length, detL_mod]
  obtain rfl | rfl | rfl | rfl : n = 1 ∨ n = 2 ∨ n = 3 ∨ n = 4 := by omega
  · rw [leib_is1]
  · rw [leib_is2]
  · rw [leib_is3]
  · rw [leib_is4]
theorem ord_in : ∀ n, n ≤ 4 → ∀ p ∈ ordL n, ∀ x ∈ p.1, 0 ≤ x ∧ x < (n : Nat) := by decide
end Go.Proofs.Ytlgjgppojdamiab
