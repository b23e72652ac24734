/-
  Plain mathematics: what Run makes, and who makes bits.
-/
import Derived.Test.YtflehdigikdhmaaRgRu
namespace Go.Proofs.Ytflehdigikdhmaa
open Go.RowKit PK Rg

/-- A bit, as a truth value. -/
def bt (x : Nat) : Bool := decide (x % 2 = 1)
theorem bt_mul {x y : Nat} : bt (x * y) = (bt x && bt y) := by
  unfold bt
  rw [Nat.mul_mod]
  rcases Nat.mod_two_eq_zero_or_one x with h | h <;> rcases Nat.mod_two_eq_zero_or_one y with h2 | h2 <;> simp [h, h2]
theorem bt_add (x y : Nat) : bt (x + y) = xor (bt x) (bt y) := by
  unfold bt
  rw [Nat.add_mod]
  rcases Nat.mod_two_eq_zero_or_one x with h | h <;> rcases Nat.mod_two_eq_zero_or_one y with h2 | h2 <;> simp [h, h2]
theorem bt_mod (x : Nat) : bt (x % 2) = bt x := by
  unfold bt
  rw [Nat.mod_mod]
theorem bt_inj {x y : Nat} (hx : x ≤ 1) (hy : y ≤ 1) (h : bt x = bt y) : x = y := by
  unfold bt at h
  rcases (by omega : x = 0 ∨ x = 1) with rfl | rfl <;> rcases (by omega : y = 0 ∨ y = 1) with rfl | rfl <;> simp at h ⊢
theorem bt_rps (t : Nat → Nat) (o : List Nat) (i : Nat) : ∀ k, bt (rps t o i k) = sx k fun k => bt (t k) && bt (o.getD (i - 1 - k) 0)
  | 0 => rfl
  | k + 1 => by
    rw [rps_succ, bt_add, bt_rps t o i k, bt_mul]
    rfl
theorem rgB_get (t s : Nat → Nat) (L : Nat) {n m i : Nat} (hi : i < n) (hm : n ≤ m) : (rgB t s L m).getD i 0 = (rgB t s L n).getD i 0 := by
  have h : ∀ d, (rgB t s L (n + d)).getD i 0 = (rgB t s L n).getD i 0 := fun d => by
    induction d with
    | zero => rfl
    | succ d ih =>
      show (rgB t s L (n + d) ++ [_]).getD i 0 = _
      rw [List.getD_eq_getElem?_getD, List.getElem?_append_left (by rw [rgB_len]; omega), ← List.getD_eq_getElem?_getD]
      exact ih
  have := h (m - n)
  rw [show n + (m - n) = m by omega] at this
  exact this
theorem rgB_at (t s : Nat → Nat) (L n : Nat) : (rgB t s L (n + 1)).getD n 0 = if n < L then s n % 2 else rps t (rgB t s L n) n L % 2 := by
  rw [rgB_next, List.getD_eq_getElem?_getD, List.getElem?_append_right (by rw [rgB_len]; exact Nat.le_refl _), rgB_len]
  simp
/-- Run, begun with the first of some bits, makes them just if the register does. -/
theorem run_makes {t f : Nat → Nat} {L N : Nat} (hf : ∀ i, i < N → f i ≤ 1) : (∀ i, i < N → (rgB t f L N).getD i 0 = f i) ↔ Makes (fun k => bt (t k)) L (fun i => bt (f i)) N := by
  constructor
  · intro h i h1 h2
    show bt (f i) = sx L fun k => bt (t k) && bt (f (i - 1 - k))
    have e1 := h i h2
    rw [rgB_get t f L (n := i + 1) (m := N) (by omega) (by omega), rgB_at, if_neg (by omega)] at e1
    rw [← e1, bt_mod, bt_rps]
    refine sx_congr L fun k hk => ?_
    have e2 := h (i - 1 - k) (by omega)
    rw [rgB_get t f L (n := i) (m := N) (by omega) (by omega)] at e2
    rw [e2]
  · intro h
    have hall : ∀ n, n ≤ N → ∀ i, i < n → (rgB t f L N).getD i 0 = f i := fun n => by
      induction n with
      | zero => intro _ i hi; omega
      | succ n ih =>
        intro hn i hi
        by_cases e : i = n
        · subst e
          rw [rgB_get t f L (n := i + 1) (m := N) (by omega) hn, rgB_at]
          have hfi := hf i (by omega)
          by_cases e2 : i < L
          · rw [if_pos e2]; omega
          · rw [if_neg e2]
            refine bt_inj (by omega) hfi ?_
            rw [bt_mod, bt_rps]
            have h1 := h i (by omega) (by omega)
            have h2 : bt (f i) = sx L fun k => bt (t k) && bt (f (i - 1 - k)) := h1
            rw [h2]
            refine sx_congr L fun k hk => ?_
            have e3 := ih (by omega) (i - 1 - k) (by omega)
            rw [rgB_get t f L (n := i) (m := N) (by omega) (by omega)] at e3
            rw [e3]
        · exact ih (by omega) i (by omega)
    exact fun i hi => hall N (Nat.le_refl _) i hi
/-- What Run makes, its register makes. -/
theorem rgB_makes (t s : Nat → Nat) (L n : Nat) : Makes (fun k => bt (t k)) L (fun i => bt ((rgB t s L n).getD i 0)) n := fun i h1 h2 => by
  show bt ((rgB t s L n).getD i 0) = sx L fun k => bt (t k) && bt ((rgB t s L n).getD (i - 1 - k) 0)
  by_cases h0 : L = 0
  · subst h0
    rw [rgB_get t s 0 (n := i + 1) (m := n) (by omega) (by omega), rgB_at, if_neg (by omega), bt_mod, bt_rps]
    rfl
  rw [rgB_get t s L (n := i + 1) (m := n) (by omega) (by omega), rgB_at, if_neg (by omega), bt_mod, bt_rps]
  refine sx_congr L fun k hk => ?_
  rw [rgB_get t s L (n := i) (m := n) (by omega) (by omega)]
end Go.Proofs.Ytflehdigikdhmaa
