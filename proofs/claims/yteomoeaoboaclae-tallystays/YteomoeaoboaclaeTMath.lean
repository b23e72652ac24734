/-
  Letters counted: pairs counted once each, and columns walked by their places.
-/
import Derived.Test.YteomoeaoboaclaeNRPe
namespace Go.Proofs.Yteomoeaoboaclae
open Go.RowKit PK Vg Tl

/-- Each two of n, counted once. -/
def hp (n : Nat) : Nat := n * (n - 1) / 2
theorem hp_two (n : Nat) : 2 * hp n = n * (n - 1) := by
  unfold hp
  refine Nat.mul_div_cancel' ?_
  rcases Nat.mod_two_eq_zero_or_one n with h | h
  · exact Nat.dvd_trans (Nat.dvd_of_mod_eq_zero h) (Nat.dvd_mul_right _ _)
  · exact Nat.dvd_trans (Nat.dvd_of_mod_eq_zero (by omega)) (Nat.dvd_mul_left (n - 1) n)
theorem sumTo_two {f g : Nat → Nat} (h : ∀ k, 2 * f k = g k) : ∀ n, 2 * sumTo f n = sumTo g n
  | 0 => rfl
  | n + 1 => by
    show 2 * (sumTo f n + f n) = sumTo g n + g n
    rw [Nat.mul_add, sumTo_two h n, h n]
def halfC (l : List UInt8) (n c : Nat) : Nat := sumTo (fun k => hp (cnt (col l n c) k)) 26
def halfA (l : List UInt8) (n : Nat) : Nat := sumTo (halfC l n) n
def halfP (l : List UInt8) (n : Nat) : Nat := sumTo (fun c => hp (col l n c).length) n
theorem halfA_two (l : List UInt8) (n : Nat) : 2 * halfA l n = alike l n := sumTo_two (fun _ => sumTo_two (fun _ => hp_two _) 26) n
theorem halfP_two (l : List UInt8) (n : Nat) : 2 * halfP l n = allP l n := sumTo_two (fun _ => hp_two _) n
theorem half_div (a b : Nat) : (2 * a) / Nat.gcd (2 * a) (2 * b) = a / Nat.gcd a b := by
  rw [Nat.gcd_mul_left, Nat.mul_div_mul_left _ _ (by decide)]
theorem half_div2 (a b : Nat) : (2 * b) / Nat.gcd (2 * a) (2 * b) = b / Nat.gcd a b := by
  rw [Nat.gcd_mul_left, Nat.mul_div_mul_left _ _ (by decide)]
theorem four_mul (a b : Nat) : (2 * a) * (2 * b) = 4 * (a * b) := by
  rw [Nat.mul_mul_mul_comm]
theorem best_half {A B A2 B2 : Nat → Nat} (hA : ∀ n, 2 * A n = A2 n) (hB : ∀ n, 2 * B n = B2 n) {k b : Nat} : BestTo A B k b ↔ BestTo A2 B2 k b := by
  have h0 : ∀ m, 0 < B m ↔ 0 < B2 m := fun m => by have := hB m; omega
  have hm : ∀ i j, A2 i * B2 j = 4 * (A i * B j) := fun i j => by rw [← hA, ← hB, four_mul]
  constructor
  · intro h
    refine ⟨h.pos, h.le, (h0 b).1 h.ok, fun m a c d => ?_, fun m a c d => ?_⟩
    · have := h.most m a c ((h0 m).2 d); rw [hm, hm]; omega
    · have := h.first m a c ((h0 m).2 d); rw [hm, hm]; omega
  · intro h
    refine ⟨h.pos, h.le, (h0 b).2 h.ok, fun m a c d => ?_, fun m a c d => ?_⟩
    · have := h.most m a c ((h0 m).1 d); rw [hm, hm] at this; omega
    · have := h.first m a c ((h0 m).1 d); rw [hm, hm] at this; omega
/-- Between two places of a column there is none of it. -/
theorem colTo_skip (l : List UInt8) {n c a : Nat} : ∀ d, (∀ k, a ≤ k → k < a + d → k % n ≠ c) → colTo l n c (a + d) = colTo l n c a
  | 0, _ => rfl
  | d + 1, h => by
    rw [← Nat.add_assoc, colTo_succ, if_neg (h (a + d) (by omega) (by omega)), colTo_skip l d fun k h1 h2 => h k h1 (by omega)]
theorem colTo_first (l : List UInt8) {n c : Nat} (hc : c < n) (m : Nat) (hm : m ≤ c) : colTo l n c m = [] := by
  have := colTo_skip l (n := n) (c := c) (a := 0) m fun k _ h2 => by rw [Nat.mod_eq_of_lt (by omega)]; omega
  rw [Nat.zero_add] at this
  rw [this]
  rfl
theorem between_mod {n c i k : Nat} (hi : i % n = c) (h1 : i < k) (h2 : k < i + n) : k % n ≠ c := by
  intro e
  have h3 : (k - i) % n = 0 := Nat.sub_mod_eq_zero_of_mod_eq (by rw [e, hi])
  rw [Nat.mod_eq_of_lt (by omega)] at h3
  omega
theorem colTo_next (l : List UInt8) {n c i s : Nat} (hn : 0 < n) (hi : i % n = c) (hs : i < s) : colTo l n c (min (i + n) s) = colTo l n c i ++ [l.getD i 0] := by
  obtain ⟨d, hd⟩ : ∃ d, min (i + n) s = (i + 1) + d := ⟨min (i + n) s - (i + 1), by omega⟩
  rw [hd, colTo_skip l d (fun k h1 h2 => between_mod hi (by omega) (by omega)), colTo_succ, if_pos hi]
theorem col_one (l : List UInt8) : col l 1 0 = l := by
  unfold col
  rw [List.filter_eq_self.2 fun i _ => by simp [Nat.mod_one]]
  refine List.ext_getElem (by simp) fun i h1 h2 => ?_
  simp [h2]
theorem hp_le {n B : Nat} (h : n ≤ B) : hp n ≤ B * B := Nat.le_trans (Nat.div_le_self _ _) (mul_bound h)
theorem wrap_half {n : Nat} (h : n ≤ 65536) : IntKind.i64.wrap (((n * (n - 1) : Nat) : Int).tdiv 2) = ((hp n : Nat) : Int) := by
  have h2 := hp_le h
  have e : ((n * (n - 1) : Nat) : Int).tdiv 2 = ((hp n : Nat) : Int) := by
    rw [Int.tdiv_eq_ediv_of_nonneg (by omega)]
    unfold hp
    rw [Int.natCast_ediv]
    rfl
  rw [e]
  exact IntWalk.i64_in _ (by omega)
/-- Half as many pairs: their products pass no bound. -/
theorem halfP_le {t : List UInt8} (h : t.length ≤ 65536) {m : Nat} (hm : 1 ≤ m) : halfP t m ≤ 2147450880 := by
  have e := halfP_two t m
  have : allP t m ≤ 4294901760 := by
    by_cases h1 : m = 1
    · rw [h1]; exact allP_one _ h
    · exact Nat.le_trans (allP_more _ h (by omega)) (by decide)
  omega
theorem halfA_le {t : List UInt8} (hl : Ls t) (m : Nat) : halfA t m ≤ halfP t m := by
  have e1 := halfA_two t m
  have e2 := halfP_two t m
  have := alike_le hl m
  omega
theorem half_mul {a b : Nat} (ha : a ≤ 2147450880) (hb : b ≤ 2147450880) : a * b < 9223372036854775807 := Nat.lt_of_le_of_lt (Nat.mul_le_mul ha hb) (by decide)
end Go.Proofs.Yteomoeaoboaclae
