/-
  Laws of no program: one row that is written while all other blocks stay; rows that are swapped, turned round and sorted, step by step.
-/
import Derived.Test.YtennpknkcaeafacPKit
import Derived.Test.YtennpknkcaeafacSMath
import Derived.WalkSpells
import Derived.WalkSmall
namespace Go.Proofs.Ytennpknkcaeafac
open Go.RowKit PK Sm

theorem gb_refl (w : World) (r : Option Nat) : w.grownBy w r := ⟨rfl, rfl, rfl, Nat.le_refl _, fun _ _ _ => rfl⟩
theorem gb_trans {a w w' : World} {r : Option Nat} (h : a.grownBy w r) (k : w.grownBy w' r) : a.grownBy w' r :=
  ⟨k.os.trans h.os, k.tape.trans h.tape, k.output.trans h.output, Nat.le_trans h.size k.size, fun j hj hr => (k.block j (Nat.lt_of_lt_of_le hj h.size) hr).trans (h.block j hj hr)⟩
theorem gb_below {a w w' : World} {r : Option Nat} (h : a.grownBy w r) (k : Below w.heap.size w w') : a.grownBy w' r :=
  gb_trans h ⟨k.os, k.tape, k.output, k.size, fun j hj _ => k.block j hj⟩
theorem gb_set {a w : World} {g : Nat} (h : a.grownBy w (some g)) (i : Nat) (v : Value) : a.grownBy (w.setCell ⟨g, i, none⟩ v) (some g) :=
  gb_trans h ⟨rfl, rfl, rfl, by simp, fun j _ hr => heap_setCell_other w ⟨g, i, none⟩ j v (by intro e; exact hr (by rw [e]))⟩
theorem gb_alloc {a w : World} {r : Option Nat} (h : a.grownBy w r) (o : Obj) : a.grownBy (w.alloc o) r := gb_below h ((Below.refl _ _).alloc (Nat.le_refl _) _)
theorem gb_drew {a w : World} {r : Option Nat} (h : a.grownBy w r) : a.grownBy w.drew r := ⟨h.os, h.tape, h.output, h.size, h.block⟩
/-- A row that lies above B is all that was written. -/
theorem gb_to_below {w w' : World} {g B : Nat} (h : w.grownBy w' (some g)) (hB : B ≤ w.heap.size) (hg : B ≤ g) : Below B w w' :=
  ⟨h.os, h.tape, h.output, h.size, fun k hk => h.block k (by omega) (by intro e; cases e; omega)⟩
/-- k places from a on and from b on change. -/
def swF (a b k : Nat) (d : Nat → Int) : Nat → Int := fun i => if a ≤ i ∧ i < a + k then d (i - a + b) else if b ≤ i ∧ i < b + k then d (i - b + a) else d i
theorem swF_zero (a b : Nat) (d : Nat → Int) : swF a b 0 d = d := by
  funext i
  unfold swF
  rw [if_neg (by omega), if_neg (by omega)]
theorem swF_at (a b k m : Nat) (d : Nat → Int) (hk : k < m) (h : a + m ≤ b) : swF a b k d (a + k) = d (a + k) ∧ swF a b k d (b + k) = d (b + k) := by
  unfold swF
  constructor
  · rw [if_neg (by omega), if_neg (by omega)]
  · rw [if_neg (by omega), if_neg (by omega)]
theorem swF_step (a b k m : Nat) (d : Nat → Int) (hk : k < m) (h : a + m ≤ b) : upd (upd (swF a b k d) (a + k) (d (b + k))) (b + k) (d (a + k)) = swF a b (k + 1) d := by
  funext i
  unfold upd swF
  by_cases e1 : i = b + k
  · rw [if_pos e1, if_neg (by omega), if_pos (by omega)]; congr 1; omega
  · rw [if_neg e1]
    by_cases e2 : i = a + k
    · rw [if_pos e2, if_pos (by omega)]; congr 1; omega
    · rw [if_neg e2]
      by_cases h1 : a ≤ i ∧ i < a + k
      · rw [if_pos h1, if_pos (by omega)]
      · rw [if_neg h1, if_neg (show ¬ (a ≤ i ∧ i < a + (k + 1)) by omega)]
        by_cases h2 : b ≤ i ∧ i < b + k
        · rw [if_pos h2, if_pos (by omega)]
        · rw [if_neg h2, if_neg (by omega)]
/-- One turn of rotate: the first piece is the longer one. -/
theorem rot_more (m i j : Nat) (d : Nat → Int) (hi : i ≤ m) (hj : j < i) : rotF (m - i) m (m + j) d = rotF (m - (i - j)) m (m + j) (swF (m - i) m j d) := by
  funext x
  unfold rotF rotP swF
  by_cases h1 : m - i ≤ x ∧ x < m + j
  · rw [if_pos h1]
    by_cases h2 : x < m - i + (m + j - m)
    · rw [if_pos h2, if_neg (show ¬ (m - (i - j) ≤ x ∧ x < m + j) by omega), if_pos (by omega)]; congr 1; omega
    · rw [if_neg h2, if_pos (show m - (i - j) ≤ x ∧ x < m + j by omega)]
      by_cases h3 : x < m - (i - j) + (m + j - m)
      · rw [if_pos h3]
        rw [if_neg (show ¬ (m - i ≤ x + (m - (m - (i - j))) ∧ x + (m - (m - (i - j))) < m - i + j) by omega), if_pos (by omega)]; congr 1; omega
      · rw [if_neg h3, if_neg (show ¬ (m - i ≤ x - (m + j - m) ∧ x - (m + j - m) < m - i + j) by omega), if_neg (by omega)]
  · rw [if_neg h1, if_neg (show ¬ (m - (i - j) ≤ x ∧ x < m + j) by omega), if_neg (by omega), if_neg (by omega)]
/-- One turn of rotate: the second piece is the longer one. -/
theorem rot_less (m i j : Nat) (d : Nat → Int) (hi : i ≤ m) (hj : i < j) : rotF (m - i) m (m + j) d = rotF (m - i) m (m + (j - i)) (swF (m - i) (m + j - i) i d) := by
  funext x
  unfold rotF rotP swF
  by_cases h1 : m - i ≤ x ∧ x < m + j
  · rw [if_pos h1]
    by_cases h2 : x < m - i + (m + j - m)
    · rw [if_pos h2, if_pos (show m - i ≤ x ∧ x < m + (j - i) by omega)]
      by_cases h3 : x < m - i + (m + (j - i) - m)
      · rw [if_pos h3]
        rw [if_neg (show ¬ (m - i ≤ x + (m - (m - i)) ∧ x + (m - (m - i)) < m - i + i) by omega), if_neg (by omega)]
      · rw [if_neg h3, if_pos (by omega)]; congr 1; omega
    · rw [if_neg h2, if_neg (show ¬ (m - i ≤ x ∧ x < m + (j - i)) by omega), if_neg (by omega), if_pos (by omega)]; congr 1; omega
  · rw [if_neg h1, if_neg (show ¬ (m - i ≤ x ∧ x < m + (j - i)) by omega), if_neg (by omega), if_neg (by omega)]
/-- The last turn of rotate: both are as long. -/
theorem rot_even (m i : Nat) (d : Nat → Int) (hi : i ≤ m) : rotF (m - i) m (m + i) d = swF (m - i) m i d := by
  funext x
  unfold rotF rotP swF
  by_cases h1 : m - i ≤ x ∧ x < m + i
  · rw [if_pos h1]
    by_cases h2 : x < m - i + (m + i - m)
    · rw [if_pos h2, if_pos (by omega)]; congr 1; omega
    · rw [if_neg h2, if_neg (show ¬ (m - i ≤ x ∧ x < m - i + i) by omega), if_pos (by omega)]; congr 1; omega
  · rw [if_neg h1, if_neg (by omega), if_neg (by omega)]
/-- Neighbours change. -/
theorem swap_next (j : Nat) (d : Nat → Int) : upd (upd d (j + 1) (d j)) j (d (j + 1)) = rotF j (j + 1) (j + 2) d := by
  funext x
  unfold upd rotF rotP
  by_cases h1 : x = j
  · rw [if_pos h1, if_pos (by omega), if_pos (by omega)]; congr 1; omega
  · rw [if_neg h1]
    by_cases h2 : x = j + 1
    · rw [if_pos h2, if_pos (by omega), if_neg (by omega)]; congr 1; omega
    · rw [if_neg h2, if_neg (by omega)]
theorem swap_next' (j : Nat) (d : Nat → Int) : upd (upd d j (d (j + 1))) (j + 1) (d j) = rotF j (j + 1) (j + 2) d := by
  rw [← swap_next]
  funext x
  unfold upd
  by_cases h1 : x = j
  · rw [if_neg (by omega), if_pos h1, if_pos h1]
  · by_cases h2 : x = j + 1
    · rw [if_pos h2, if_neg h1, if_pos h2]
    · rw [if_neg h2, if_neg h1, if_neg h1, if_neg h2]
/-- The one at a is moved up by one more place. -/
theorem rot_up (a k : Nat) (d : Nat → Int) (h : a ≤ k) : rotF k (k + 1) (k + 2) (rotF a (a + 1) (k + 1) d) = rotF a (a + 1) (k + 2) d := by
  funext x
  unfold rotF rotP
  by_cases h1 : k ≤ x ∧ x < k + 2
  · rw [if_pos h1]
    by_cases h2 : x < k + (k + 2 - (k + 1))
    · rw [if_pos h2, if_neg (by omega), if_pos (by omega), if_pos (by omega)]; congr 1; omega
    · rw [if_neg h2, if_pos (show a ≤ x - (k + 2 - (k + 1)) ∧ x - (k + 2 - (k + 1)) < k + 1 by omega), if_neg (by omega), if_pos (by omega), if_neg (by omega)]; congr 1; omega
  · rw [if_neg h1]
    by_cases h3 : a ≤ x ∧ x < k + 1
    · rw [if_pos h3, if_pos (by omega), if_pos (by omega), if_pos (by omega)]
    · rw [if_neg h3, if_neg (by omega)]
/-- The one at m is moved down by one more place. -/
theorem rot_down (m k : Nat) (d : Nat → Int) (h : k < m) : rotF k (k + 1) (k + 2) (rotF (k + 1) m (m + 1) d) = rotF k m (m + 1) d := by
  funext x
  unfold rotF rotP
  by_cases h1 : k ≤ x ∧ x < k + 2
  · rw [if_pos h1]
    by_cases h2 : x < k + (k + 2 - (k + 1))
    · rw [if_pos h2, if_pos (show k + 1 ≤ x + (k + 1 - k) ∧ x + (k + 1 - k) < m + 1 by omega), if_pos (by omega), if_pos (by omega), if_pos (by omega)]; congr 1; omega
    · rw [if_neg h2, if_neg (by omega), if_pos (by omega), if_neg (by omega)]; congr 1; omega
  · rw [if_neg h1]
    by_cases h3 : k + 1 ≤ x ∧ x < m + 1
    · rw [if_pos h3, if_neg (by omega), if_pos (by omega), if_neg (by omega)]
    · rw [if_neg h3, if_neg (by omega)]
/-- All numbers of a row lie below n. -/
def InR (n : Nat) (d : Nat → Int) : Prop := ∀ i, i < n → 0 ≤ d i ∧ d i < n
theorem Mv.inR {n a b : Nat} {d d' : Nat → Int} (h : Mv a b d d') (hb : b ≤ n) (hd : InR n d) : InR n d' := fun i hi => by
  by_cases c : a ≤ i ∧ i < b
  · obtain ⟨j, hj, e⟩ := h.mem i c
    rw [e]; exact hd j (by omega)
  · rw [h.out i c]; exact hd i hi
/-- One is being put in its place: it stands at j, all others from a to i stand in order. -/
structure Ins (K : Int → Int) (n a i j : Nat) (e : Nat → Int) : Prop where
  stab : Stab K n e
  near : ∀ p q, a ≤ p → p < q → q ≤ i → p ≠ j → q ≠ j → LL K (e p) (e q)
  far : ∀ q, j < q → q ≤ i → LL K (e j) (e q)
theorem Ins.start {K : Int → Int} {n a i : Nat} {e : Nat → Int} (hs : Stab K n e) (h : Srt K e a i) : Ins K n a i i e :=
  ⟨hs, fun p q hp hpq hq h1 h2 => h p q hp hpq (by omega), fun q h1 h2 => by omega⟩
theorem Ins.step {K : Int → Int} {n a i j : Nat} {e : Nat → Int} (h : Ins K n a i (j + 1) e) (hj : a ≤ j) (hji : j + 1 ≤ i) (hi : i < n) (hk : K (e (j + 1)) < K (e j)) : Ins K n a i j (rotF j (j + 1) (j + 2) e) := by
  have at1 : rotF j (j + 1) (j + 2) e j = e (j + 1) := by unfold rotF rotP; rw [if_pos (by omega), if_pos (by omega)]; congr 1; omega
  have at2 : rotF j (j + 1) (j + 2) e (j + 1) = e j := by unfold rotF rotP; rw [if_pos (by omega), if_neg (by omega)]; congr 1; omega
  have at3 : ∀ x, x ≠ j → x ≠ j + 1 → rotF j (j + 1) (j + 2) e x = e x := fun x h1 h2 => by unfold rotF rotP; rw [if_neg (by omega)]
  refine ⟨rot_stab (by omega) (by omega) (by omega) h.stab fun x y h1 h2 h3 h4 => ?_, fun p q hp hpq hq h1 h2 => ?_, fun q h1 h2 => ?_⟩
  · rw [show x = j by omega, show y = j + 1 by omega]; exact hk
  · by_cases c1 : p = j + 1
    · rw [c1, at2, at3 q (by omega) (by omega)]; exact h.near j q hj (by omega) hq (by omega) (by omega)
    · by_cases c2 : q = j + 1
      · rw [c2, at2, at3 p h1 c1]; exact h.near p j hp (by omega) (by omega) (by omega) (by omega)
      · rw [at3 p h1 c1, at3 q h2 c2]; exact h.near p q hp hpq hq c1 c2
  · rw [at1]
    by_cases c : q = j + 1
    · rw [c, at2]; exact .inl hk
    · rw [at3 q (by omega) c]; exact h.far q (by omega) h2
theorem Ins.done {K : Int → Int} {n a i j : Nat} {e : Nat → Int} (h : Ins K n a i j e) (_ : a ≤ j) (hji : j ≤ i) (hi : i < n) (hk : j = a ∨ ¬ K (e j) < K (e (j - 1))) : Srt K e a (i + 1) := by
  intro p q hp hpq hq
  by_cases c1 : p = j
  · rw [c1]; exact h.far q (by omega) (by omega)
  · by_cases c2 : q = j
    · rcases hk with hk | hk
      · omega
      · have h1 : LL K (e (j - 1)) (e j) := ll_of h.stab (by omega) (by omega) hk
        rw [c2]
        by_cases c3 : p = j - 1
        · rw [c3]; exact h1
        · exact (h.near p (j - 1) hp (by omega) (by omega) c1 (by omega)).trans h1
    · exact h.near p q hp hpq (by omega) c1 c2
/-- Blocks of bs places stand in order: all ahead of a in blocks of twice as many. -/
structure Blk (K : Int → Int) (n bs a : Nat) (d : Nat → Int) : Prop where
  stab : Stab K n d
  ahead : ∀ p q, p < q → q < a → q < n → p / (2 * bs) = q / (2 * bs) → LL K (d p) (d q)
  behind : ∀ p q, a ≤ p → p < q → q < n → p / bs = q / bs → LL K (d p) (d q)
theorem div_same {x a bs : Nat} (h0 : 0 < bs) (hd : bs ∣ a) (h1 : a ≤ x) (h2 : x < a + bs) : x / bs = a / bs := by
  obtain ⟨t, rfl⟩ := hd
  rw [Nat.mul_div_cancel_left t h0]
  have := Nat.div_mul_le_self x bs
  apply Nat.le_antisymm
  · apply Nat.le_of_lt_succ
    rw [Nat.div_lt_iff_lt_mul h0, Nat.succ_mul, Nat.mul_comm t]
    exact h2
  · rw [Nat.le_div_iff_mul_le h0, Nat.mul_comm]
    exact h1
theorem div_less {x a bs : Nat} (h0 : 0 < bs) (hd : bs ∣ a) (h2 : x < a) : x / bs < a / bs := by
  obtain ⟨t, rfl⟩ := hd
  rw [Nat.mul_div_cancel_left t h0, Nat.div_lt_iff_lt_mul h0, Nat.mul_comm]
  exact h2
theorem div_more {x a bs : Nat} (h2 : a ≤ x) : a / bs ≤ x / bs := Nat.div_le_div_right h2
end Go.Proofs.Ytennpknkcaeafac
