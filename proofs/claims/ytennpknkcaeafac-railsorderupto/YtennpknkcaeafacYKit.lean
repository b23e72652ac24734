/-
  Plain mathematics of no program: what is wrong with an order.
-/
import Derived.Test.YtennpknkcaeafacHKit
import Derived.Test.YtennpknkcaeafacSMath
import Derived.Test.YtennpknkcaeafacQMath
namespace Go.Proofs.Ytennpknkcaeafac
open Go.RowKit PK

/-- Is x among the first k numbers? -/
def metB (f : Nat → Int) (k x : Nat) : Bool := (List.range k).any fun j => f j == (x : Int)
theorem metB_iff (f : Nat → Int) (k x : Nat) : metB f k x = true ↔ ∃ j, j < k ∧ f j = x := by simp [metB]
theorem metB_zero (f : Nat → Int) (x : Nat) : metB f 0 x = false := rfl
theorem metB_succ (f : Nat → Int) (k x : Nat) : metB f (k + 1) x = (metB f k x || f k == (x : Int)) := by simp [metB, List.range_succ, List.any_append]
theorem metB_step (f : Nat → Int) (k : Nat) (h : 0 ≤ f k) : upd (metB f k) (f k).toNat true = metB f (k + 1) := by
  funext x
  rw [metB_succ]
  by_cases e : x = (f k).toNat
  · rw [e, upd_same]
    have : (f k == (((f k).toNat : Nat) : Int)) = true := by simp; omega
    rw [this, Bool.or_true]
  · rw [upd_other _ _ e]
    have : (f k == (x : Int)) = false := by simp; omega
    rw [this, Bool.or_false]
/-- What is wrong at place k of n. -/
def badO (n : Nat) (f : Nat → Int) (k : Nat) : Int := if f k < 0 ∨ (n : Int) ≤ f k then 3 else if metB f k (f k).toNat then 8 else 0
/-- What is wrong with an order. -/
def ordE (n : Nat) (f : Nat → Int) : Int := if 65536 < n then 5 else firstE (badO n f) n
/-- f as an order's numbers. -/
def natF (f : Nat → Int) : Nat → Nat := fun i => (f i).toNat
structure GoodO (n : Nat) (f : Nat → Int) : Prop where
  le : n ≤ 65536
  lt : ∀ i, i < n → 0 ≤ f i ∧ f i < n
  inj : ∀ i j, i < n → j < n → f i = f j → i = j
theorem GoodO.ord {n : Nat} {f : Nat → Int} (h : GoodO n f) : Qm.Ord n (natF f) :=
  ⟨fun i hi => by have := h.lt i hi; unfold natF; omega, fun i j hi hj e => h.inj i j hi hj (by have := h.lt i hi; have := h.lt j hj; unfold natF at e; omega)⟩
theorem ordE_zero (n : Nat) (f : Nat → Int) : ordE n f = 0 ↔ GoodO n f := by
  unfold ordE
  by_cases h : 65536 < n
  · rw [if_pos h]
    exact ⟨fun h => (by cases h), fun hg => by have := hg.le; omega⟩
  · rw [if_neg h, firstE_zero]
    constructor
    · intro hb
      have h1 : ∀ i, i < n → (0 ≤ f i ∧ f i < n) ∧ metB f i (f i).toNat = false := fun i hi => by
        have := hb i hi
        unfold badO at this
        by_cases c : f i < 0 ∨ (n : Int) ≤ f i
        · rw [if_pos c] at this; cases this
        · rw [if_neg c] at this
          cases hm : metB f i (f i).toNat with
          | false => exact ⟨by omega, rfl⟩
          | true => rw [hm, if_pos rfl] at this; cases this
      have h2 : ∀ i j, i < j → j < n → f i ≠ f j := fun i j hij hj e => by
        have := (h1 j hj).2
        have h3 : metB f j (f j).toNat = true := (metB_iff _ _ _).2 ⟨i, hij, by have := (h1 j hj).1; omega⟩
        rw [h3] at this
        cases this
      refine ⟨by omega, fun i hi => (h1 i hi).1, fun i j hi hj e => ?_⟩
      rcases Nat.lt_trichotomy i j with c | c | c
      · exact absurd e (h2 i j c hj)
      · exact c
      · exact absurd e.symm (h2 j i c hi)
    · intro hg k hk
      unfold badO
      have hl := hg.lt k hk
      rw [if_neg (by omega)]
      cases hm : metB f k (f k).toNat with
      | false => rfl
      | true =>
        obtain ⟨j, hj, e⟩ := (metB_iff _ _ _).1 hm
        have := hg.inj j k (by omega) hk (by omega)
        omega
theorem ordE_cases (n : Nat) (f : Nat → Int) : (ordE n f = 0 ∧ GoodO n f) ∨ (ordE n f != 0) = true := by
  by_cases h : ordE n f = 0
  · exact .inl ⟨h, (ordE_zero n f).1 h⟩
  · exact .inr (by simpa using h)
theorem GoodO.of_order {n : Nat} {d : Nat → Int} (h : Sm.Order n d) (hn : n ≤ 65536) : GoodO n d := ⟨hn, h.lt, h.inj⟩
end Go.Proofs.Ytennpknkcaeafac
