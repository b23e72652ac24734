/-
  Mathematics of chapter 16: an office, step by step.
-/
import Derived.Test.YtlfghnngbljlhaaPdM
import Derived.Test.YtlfghnngbljlhaaRgK
namespace Go.Proofs.Ytlfghnngbljlhaa
open Go.RowKit PK Pd

namespace Oc
/-- What is done with an office. -/
structure Sp where
  pw : Int
  op : Bool
  sd : Bool
  tk : Bool
  pl : Int
  tn : Nat
  tf : Nat → Int
/-- An office: its two words, how long the power lasts, whether it is dead. -/
structure St where
  a : Int
  b : Int
  lf : Int
  dd : Bool
/-- What a word says. -/
def us (P : Nat) (w : Int) : Nat := if w < 0 ∨ (P : Int) < w then P else w.toNat
theorem us_le (P : Nat) (w : Int) : us P w ≤ P := by unfold us; split <;> omega
theorem us_in {P : Nat} {w : Nat} (h : w ≤ P) : us P (w : Int) = w := by unfold us; rw [if_neg (by omega)]; omega
def low (l : Int) : Int := if 0 < l then wrap64 (l - 1) else l
def on (p : Nat → Int) (a : Nat) : Nat → Int := fun i => p (a + i)
/-- What is wrong with an office. -/
def opE (n : Int) (P : Nat) (p : Nat → Int) (D : Nat) : Int := if txE n 0 P (fun _ => 0) p ≠ 0 then txE n 0 P (fun _ => 0) p else if 65536 < P then 5 else if D < 2 then 4 else 0
theorem txE_nil (n : Int) (P : Nat) (f g p : Nat → Int) : txE n 0 P f p = txE n 0 P g p := by
  have e : inB n 0 f = inB n 0 g := rfl
  unfold txE
  rw [e]
theorem opE_zero {n : Int} {P : Nat} {p : Nat → Int} {D : Nat} (h : opE n P p D = 0) : 2 ≤ n ∧ n ≤ 64 ∧ (∀ i, i < P → 0 ≤ p i ∧ p i < n) ∧ P ≤ 65536 ∧ 2 ≤ D := by
  unfold opE at h
  by_cases h1 : txE n 0 P (fun _ => 0) p = 0
  · obtain ⟨a, b, _, c, _, _⟩ := txE_zero h1
    rw [if_neg (by simpa using h1)] at h
    by_cases h2 : 65536 < P
    · rw [if_pos h2] at h; cases h
    · rw [if_neg h2] at h
      by_cases h3 : D < 2
      · rw [if_pos h3] at h; cases h
      · exact ⟨a, b, c, by omega, by omega⟩
  · rw [if_pos h1] at h
    exact absurd h h1
section
variable (n : Int) (P : Nat) (p : Nat → Int)
/-- A step begins: the power, and the office opened anew. -/
def pre (s : St) (x : Sp) : St := ⟨s.a, s.b, if x.pw = 0 then s.lf else wrap64 (x.pw - 1), if x.op then false else s.dd⟩
def txS (s : St) (x : Sp) : Int := txE n x.tn (P - us P s.a) x.tf (on p (us P s.a))
def txT (x : Sp) : Int := txE n x.tn (P - x.pl.toNat) x.tf (on p x.pl.toNat)
def snE (s : St) (x : Sp) : Int := if s.dd = true then 9 else if txS n P p s x ≠ 0 then txS n P p s x else if s.lf = 0 then 11 else 0
def tkE (s : St) (x : Sp) : Int := if s.dd = true then 9 else if x.pl < 0 ∨ (P : Int) < x.pl then 3 else if x.pl < (us P s.b : Nat) then 10 else if txT n P p x ≠ 0 then txT n P p x else if s.lf = 0 then 11 else 0
def snS (s : St) (x : Sp) : St := if snE n P p s x = 0 then ⟨((us P s.a + x.tn : Nat) : Int), s.b, low s.lf, s.dd⟩ else if snE n P p s x = 11 then ⟨s.a, s.b, s.lf, true⟩ else s
def tkS (s : St) (x : Sp) : St := if tkE n P p s x = 0 then ⟨s.a, x.pl + (x.tn : Nat), low s.lf, s.dd⟩ else if tkE n P p s x = 11 then ⟨s.a, s.b, s.lf, true⟩ else s
/-- What is told, what is behind it. -/
def er (s : St) (x : Sp) : Int := if x.sd then snE n P p s x else if x.tk then tkE n P p s x else 0
def nx (s : St) (x : Sp) : St := if x.sd then snS n P p s x else if x.tk then tkS n P p s x else s
def sAt (s : St) (x : Sp) : Int := if x.sd then (if snE n P p s x = 0 then (us P s.a : Nat) else 0) else 0
def sTn (s : St) (x : Sp) : Nat := if x.sd || x.tk then (if er n P p s x = 0 then x.tn else 0) else 0
def sTf (s : St) (x : Sp) : Nat → Int := if x.sd then wrF n x.tf (on p (us P s.a)) else rdF n x.tf (on p x.pl.toNat)
def sLf (s : St) : Int := ((P - us P s.a : Nat) : Int)
/-- Behind k steps. -/
def at' (X : Nat → Sp) (s0 : St) : Nat → St
  | 0 => s0
  | k + 1 => nx n P p (pre (at' X s0 k) (X k)) (X k)
/-- The words' list behind a step. -/
def dk (d : Nat → Int) (s : St) : Nat → Int := fun i => if i = 0 then s.a else if i = 1 then s.b else d i
end
theorem txE_ne {n : Int} {nt np : Nat} {ft fp : Nat → Int} : txE n nt np ft fp = 0 ∨ txE n nt np ft fp = 1 ∨ txE n nt np ft fp = 3 ∨ txE n nt np ft fp = 5 ∨ txE n nt np ft fp = 10 := by
  unfold txE
  repeat' split
  all_goals simp
end Oc
end Go.Proofs.Ytlfghnngbljlhaa
