/-
  Laws of no program: slices of numbers and of such slices, read in a world; what is wrong with a matrix.
-/
import Derived.Test.YtlfghnngbljlhaaPKit
namespace Go.Proofs.Ytlfghnngbljlhaa.PK
open Go.RowKit

/-- v is a slice of n numbers: in w number c is f c. -/
def NumsAt (w : World) (v : Value) (n : Nat) (f : Nat → Int) : Prop :=
  ∃ (a : Option Addr) (cap : Nat), v = .slice a n cap ∧ n ≤ maxLen ∧ ∀ c, c < n → ∃ b o, a = some ⟨b, o, none⟩ ∧ w.cell? ⟨b, o + c, none⟩ = some (.int .i64 (f c))
/-- v is a slice of n slices of numbers: in w row r has L r of them, number c of it is Z r c. -/
def MatAt (w : World) (v : Value) (n : Nat) (L : Nat → Nat) (Z : Nat → Nat → Int) : Prop :=
  ∃ (a : Option Addr) (cap : Nat) (R : Nat → Value), v = .slice a n cap ∧ n ≤ maxLen ∧ (∀ r, r < n → ∃ b o, a = some ⟨b, o, none⟩ ∧ w.cell? ⟨b, o + r, none⟩ = some (R r)) ∧ ∀ r, r < n → NumsAt w (R r) (L r) (Z r)
theorem cell_block {w : World} {a : Addr} {v : Value} (h : w.cell? a = some v) : a.block < w.heap.size := World.block_lt_of_cell? _ _ h
theorem NumsAt.below {w w' : World} {v : Value} {n : Nat} {f : Nat → Int} (h : NumsAt w v n f) (hb : Below w.heap.size w w') : NumsAt w' v n f := by
  obtain ⟨a, cap, h1, h2, h3⟩ := h
  refine ⟨a, cap, h1, h2, fun c hc => ?_⟩
  obtain ⟨b, o, e, hcell⟩ := h3 c hc
  exact ⟨b, o, e, (hb.cell (p := ⟨b, o + c, none⟩) (cell_block hcell)).trans hcell⟩
theorem MatAt.below {w w' : World} {v : Value} {n : Nat} {L : Nat → Nat} {Z : Nat → Nat → Int} (h : MatAt w v n L Z) (hb : Below w.heap.size w w') : MatAt w' v n L Z := by
  obtain ⟨a, cap, R, h1, h2, h3, h4⟩ := h
  refine ⟨a, cap, R, h1, h2, fun r hr => ?_, fun r hr => (h4 r hr).below hb⟩
  obtain ⟨b, o, e, hcell⟩ := h3 r hr
  exact ⟨b, o, e, (hb.cell (p := ⟨b, o + r, none⟩) (cell_block hcell)).trans hcell⟩
theorem NumsAt.alloc {w : World} {v : Value} {n : Nat} {f : Nat → Int} (h : NumsAt w v n f) (o : Obj) : NumsAt (w.alloc o) v n f := h.below ((Below.refl _ _).alloc (Nat.le_refl _) _)
theorem MatAt.alloc {w : World} {v : Value} {n : Nat} {L : Nat → Nat} {Z : Nat → Nat → Int} (h : MatAt w v n L Z) (o : Obj) : MatAt (w.alloc o) v n L Z := h.below ((Below.refl _ _).alloc (Nat.le_refl _) _)
theorem NumsAt.drew {w : World} {v : Value} {n : Nat} {f : Nat → Int} (h : NumsAt w v n f) : NumsAt w.drew v n f := h
theorem MatAt.drew {w : World} {v : Value} {n : Nat} {L : Nat → Nat} {Z : Nat → Nat → Int} (h : MatAt w v n L Z) : MatAt w.drew v n L Z := h
theorem NumsAt.congr {w : World} {v : Value} {n : Nat} {f g : Nat → Int} (h : NumsAt w v n f) (e : ∀ c, c < n → f c = g c) : NumsAt w v n g := by
  obtain ⟨a, cap, h1, h2, h3⟩ := h
  refine ⟨a, cap, h1, h2, fun c hc => ?_⟩
  rw [← e c hc]
  exact h3 c hc
theorem MatAt.congr {w : World} {v : Value} {n : Nat} {L L' : Nat → Nat} {Z Z' : Nat → Nat → Int} (h : MatAt w v n L Z) (eL : ∀ r, r < n → L r = L' r) (eZ : ∀ r, r < n → ∀ c, c < L r → Z r c = Z' r c) : MatAt w v n L' Z' := by
  obtain ⟨a, cap, R, h1, h2, h3, h4⟩ := h
  refine ⟨a, cap, R, h1, h2, h3, fun r hr => ?_⟩
  rw [← eL r hr]
  exact (h4 r hr).congr (eZ r hr)
/-- A slice that is not empty has an address. -/
theorem NumsAt.form {w : World} {v : Value} {n : Nat} {f : Nat → Int} (h : NumsAt w v n f) (hn : 0 < n) : ∃ b o cap, v = .slice (some ⟨b, o, none⟩) n cap ∧ n ≤ maxLen ∧ ∀ c, c < n → w.cell? ⟨b, o + c, none⟩ = some (.int .i64 (f c)) := by
  obtain ⟨a, cap, h1, h2, h3⟩ := h
  obtain ⟨b, o, e, _⟩ := h3 0 hn
  subst e
  refine ⟨b, o, cap, h1, h2, fun c hc => ?_⟩
  obtain ⟨b', o', e', hcell⟩ := h3 c hc
  cases e'
  exact hcell
theorem MatAt.form {w : World} {v : Value} {n : Nat} {L : Nat → Nat} {Z : Nat → Nat → Int} (h : MatAt w v n L Z) (hn : 0 < n) : ∃ (b o cap : Nat) (R : Nat → Value), v = .slice (some ⟨b, o, none⟩) n cap ∧ n ≤ maxLen ∧ (∀ r, r < n → w.cell? ⟨b, o + r, none⟩ = some (R r)) ∧ ∀ r, r < n → NumsAt w (R r) (L r) (Z r) := by
  obtain ⟨a, cap, R, h1, h2, h3, h4⟩ := h
  obtain ⟨b, o, e, _⟩ := h3 0 hn
  subst e
  refine ⟨b, o, cap, R, h1, h2, fun r hr => ?_, h4⟩
  obtain ⟨b', o', e', hcell⟩ := h3 r hr
  cases e'
  exact hcell
theorem NumsAt.len {w : World} {v : Value} {n : Nat} {f : Nat → Int} (h : NumsAt w v n f) : ∃ a cap, v = .slice a n cap ∧ n ≤ maxLen := by
  obtain ⟨a, cap, h1, h2, _⟩ := h
  exact ⟨a, cap, h1, h2⟩
theorem MatAt.len {w : World} {v : Value} {n : Nat} {L : Nat → Nat} {Z : Nat → Nat → Int} (h : MatAt w v n L Z) : ∃ a cap, v = .slice a n cap ∧ n ≤ maxLen := by
  obtain ⟨a, cap, R, h1, h2, _⟩ := h
  exact ⟨a, cap, h1, h2⟩
theorem NumsAt.of_row {w : World} {g n cap : Nat} {T : TypeId} {f : Nat → Int} (h : RowAt w g T (ints n f)) (hn : n ≤ maxLen) : NumsAt w (.slice (some ⟨g, 0, none⟩) n cap) n f :=
  ⟨some ⟨g, 0, none⟩, cap, rfl, hn, fun c hc => ⟨g, 0, rfl, by have := h.cell (ints_get f hc); simpa using this⟩⟩
theorem MatAt.of_rows {w : World} {g n cap : Nat} {T : TypeId} {R : Nat → Value} {L : Nat → Nat} {Z : Nat → Nat → Int} (h : RowAt w g T (tab n R)) (hn : n ≤ maxLen) (hR : ∀ r, r < n → NumsAt w (R r) (L r) (Z r)) : MatAt w (.slice (some ⟨g, 0, none⟩) n cap) n L Z :=
  ⟨some ⟨g, 0, none⟩, cap, R, rfl, hn, fun r hr => ⟨g, 0, rfl, by have := h.cell (tab_get R hr); simpa using this⟩, hR⟩
theorem MatAt.nil (w : World) (L : Nat → Nat) (Z : Nat → Nat → Int) : MatAt w (.slice none 0 0) 0 L Z := ⟨none, 0, fun _ => .bool false, rfl, by decide, fun r hr => by omega, fun r hr => by omega⟩

/-- The first of n that is not 0. -/
def firstE (g : Nat → Int) : Nat → Int
  | 0 => 0
  | k + 1 => if firstE g k ≠ 0 then firstE g k else g k
theorem firstE_zero (g : Nat → Int) : ∀ n, firstE g n = 0 ↔ ∀ k, k < n → g k = 0
  | 0 => ⟨fun _ k hk => by omega, fun _ => rfl⟩
  | n + 1 => by
    show (if firstE g n ≠ 0 then firstE g n else g n) = 0 ↔ _
    have ih := firstE_zero g n
    by_cases h : firstE g n = 0
    · rw [if_neg (by simp [h])]
      refine ⟨fun hn k hk => ?_, fun hk => hk n (by omega)⟩
      by_cases e : k = n
      · rw [e]; exact hn
      · exact ih.1 h k (by omega)
    · rw [if_pos h]
      exact ⟨fun hc => absurd hc h, fun hk => absurd (ih.2 fun k hk' => hk k (by omega)) h⟩
theorem firstE_step (g : Nat → Int) (k : Nat) (h : firstE g k = 0) : firstE g (k + 1) = g k := by
  show (if firstE g k ≠ 0 then firstE g k else g k) = g k
  rw [if_neg (by simp [h])]
theorem firstE_keep (g : Nat → Int) (k : Nat) (h : firstE g k ≠ 0) : ∀ n, k ≤ n → firstE g n = firstE g k := fun n hn => by
  induction hn with
  | refl => rfl
  | step _ ih =>
    show (if firstE g _ ≠ 0 then firstE g _ else g _) = _
    rw [if_pos (by rw [ih]; exact h), ih]
/-- A number of a matrix: 0 if it may stand there, else ErrRange. -/
def numErr (x : Int) : Int := if x < 0 ∨ 26 ≤ x then 3 else 0
/-- What is wrong with a row of l numbers among n rows. -/
def rowErr (l n : Nat) (f : Nat → Int) : Int := if l ≠ n then 8 else firstE (fun c => numErr (f c)) l
/-- What is wrong with n rows. -/
def matErr (n : Nat) (L : Nat → Nat) (Z : Nat → Nat → Int) : Int := if n < 1 ∨ 4 < n then 5 else firstE (fun r => rowErr (L r) n (Z r)) n
theorem numErr_zero (x : Int) : numErr x = 0 ↔ 0 ≤ x ∧ x < 26 := by
  unfold numErr
  by_cases h : x < 0 ∨ 26 ≤ x
  · rw [if_pos h]; constructor
    · intro h; cases h
    · omega
  · rw [if_neg h]; constructor
    · intro _; omega
    · intro _; rfl
theorem rowErr_zero (l n : Nat) (f : Nat → Int) : rowErr l n f = 0 ↔ l = n ∧ ∀ c, c < n → 0 ≤ f c ∧ f c < 26 := by
  unfold rowErr
  by_cases h : l = n
  · subst h
    rw [if_neg (by simp), firstE_zero]
    exact ⟨fun h => ⟨rfl, fun c hc => (numErr_zero _).1 (h c hc)⟩, fun h c hc => (numErr_zero _).2 (h.2 c hc)⟩
  · rw [if_pos h]
    exact ⟨fun h => (by cases h), fun hh => absurd hh.1 h⟩
/-- A matrix: n rows of n numbers from 0 to 25. -/
structure GoodM (n : Nat) (Z : Nat → Nat → Int) : Prop where
  pos : 1 ≤ n
  le : n ≤ 4
  num : ∀ r, r < n → ∀ c, c < n → 0 ≤ Z r c ∧ Z r c < 26
theorem matErr_zero (n : Nat) (L : Nat → Nat) (Z : Nat → Nat → Int) : matErr n L Z = 0 ↔ GoodM n Z ∧ ∀ r, r < n → L r = n := by
  unfold matErr
  by_cases h : n < 1 ∨ 4 < n
  · rw [if_pos h]
    refine ⟨fun h => (by cases h), fun hh => ?_⟩
    have h1 := hh.1.pos
    have h2 := hh.1.le
    omega
  · rw [if_neg h, firstE_zero]
    constructor
    · intro hh
      refine ⟨⟨by omega, by omega, fun r hr c hc => ?_⟩, fun r hr => ?_⟩
      · exact ((rowErr_zero _ _ _).1 (hh r hr)).2 c hc
      · exact ((rowErr_zero _ _ _).1 (hh r hr)).1
    · rintro ⟨hg, hL⟩ r hr
      exact (rowErr_zero _ _ _).2 ⟨hL r hr, hg.num r hr⟩
theorem rowErr_cases (l n : Nat) (f : Nat → Int) : rowErr l n f = 0 ∨ (rowErr l n f != 0) = true := by
  by_cases h : rowErr l n f = 0
  · exact .inl h
  · exact .inr (by simpa using h)
end Go.Proofs.Ytlfghnngbljlhaa.PK
