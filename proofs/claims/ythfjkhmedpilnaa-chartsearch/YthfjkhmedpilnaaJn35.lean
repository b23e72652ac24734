/-
  Several texts, joined: PEq, OAlh, KCon, KRej.
-/
import Derived.Test.YthfjkhmedpilnaaJn16
import Derived.Test.YthfjkhmedpilnaaORKw
import Derived.Test.YthfjkhmedpilnaaJn27
import Derived.Test.YthfjkhmedpilnaaJn24
import Derived.Test.YthfjkhmedpilnaaJn17
/-
  Laws of no program: '==' between two arrays of numbers.
-/
namespace Go.Proofs.Ythfjkhmedpilnaa.PK
open Go.RowKit
def eqI (n : Nat) (f g : Nat → Int) : Bool := (List.range n).all fun i => f i == g i
end Go.Proofs.Ythfjkhmedpilnaa.PK

/-
  What an alive of the rotor's packages stands on.
-/
namespace Go.Proofs.Ythfjkhmedpilnaa
open Go.RowKit PK Vg

theorem nums_new {W : World} {v : Value} {n : Nat} {f : Nat → Int} (h : NumsAt W v n f) (o : Obj) (c : Array Value) : NumsAt ((W.alloc o).setRow W.heap.size c) v n f := by
  obtain ⟨a, cap, rfl, h2, h3⟩ := h
  refine ⟨a, cap, rfl, h2, fun i hi => ?_⟩
  obtain ⟨b, p, rfl, hcell⟩ := h3 i hi
  have hl := cell_block hcell
  exact ⟨b, p, rfl, (cell_setRow_other (W.alloc o) W.heap.size c ⟨b, p + i, none⟩ (by simp at hl ⊢; omega)).trans ((World.cell?_alloc_lt _ _ _ hl).trans hcell)⟩
/-- The three wheels' variables. -/
structure K3 (w W : World) (q1 q2 q3 q4 : Nat) (R1 R2 R3 : Value) : Prop where
  a : RowAt W q1 62 (whl (spl kw1) R1)
  b : RowAt W q2 62 (whl (spl kw2) R2)
  c : RowAt W q3 62 (whl (spl kw3) R3)
  m : RowAt W q4 25 (ints 26 (spl miB))
  n1 : NumsAt W R1 1 fun _ => 16
  n2 : NumsAt W R2 1 fun _ => 4
  n3 : NumsAt W R3 1 fun _ => 21
  below : Below w.heap.size w W
section
variable {w W W' : World} {q1 q2 q3 q4 : Nat} {R1 R2 R3 : Value}
theorem K3.step (h : K3 w W q1 q2 q3 q4 R1 R2 R3) (hb : Below W.heap.size W W') : K3 w W' q1 q2 q3 q4 R1 R2 R3 := ⟨h.a.below hb h.a.lt, h.b.below hb h.b.lt, h.c.below hb h.c.lt, h.m.below hb h.m.lt, h.n1.below hb, h.n2.below hb, h.n3.below hb, h.below.trans (hb.mono h.below.size)⟩
theorem K3.alloc (h : K3 w W q1 q2 q3 q4 R1 R2 R3) (o : Obj) : K3 w (W.alloc o) q1 q2 q3 q4 R1 R2 R3 := h.step ((Below.refl _ _).alloc (Nat.le_refl _) o)
theorem K3.drew (h : K3 w W q1 q2 q3 q4 R1 R2 R3) : K3 w W.drew q1 q2 q3 q4 R1 R2 R3 := ⟨h.a, h.b, h.c, h.m, h.n1, h.n2, h.n3, h.below.drew⟩
end
theorem nums_const {W : World} {v : Value} {x : Nat} (h : NumsAt W v [x].length fun i => (([x].getD i 0 : Nat) : Int)) : NumsAt W v 1 fun _ => (x : Int) := nums_ext h fun i hi => by
  have : i = 0 := by simpa using hi
  subst this
  rfl
theorem with_pr {P : Program} {md : Region.Mode} {ops : Array Oper} {Q : Exit → Act → World → Prop} {S : World → Prop} {fuel : Nat} {listed : Array Bool} {tm : Array Value} {df : List Deferred} {W : World}
    (h : ∀ PR : Nat → Array Bool → Array Value → World → Prop, (∀ fuel listed tm W, wpAnyH P md ops Q S fuel listed ⟨tm, df⟩ W ↔ PR fuel listed tm W) → PR fuel listed tm W) : wpAnyH P md ops Q S fuel listed ⟨tm, df⟩ W := h (fun fuel listed tm W => wpAnyH P md ops Q S fuel listed ⟨tm, df⟩ W) (fun _ _ _ _ => Iff.rfl)
section
variable {P : Program}
end
theorem o_zs_whl : (Try.prog.info? 62).map (fun i => (i.zero, i.size)) = some (some (.agg (whl (fun _ => 0) (.slice none 0 0))), 27) := by kernel_rfl
theorem built_mac (a b c : Option Addr) (n1 n2 n3 c1 c2 c3 : Nat) (f g : Nat → Int) : Try.prog.built 27 [(0, .slice a n1 c1), (1, .slice b n2 c2), (2, .slice c n3 c3), (3, .agg (ints 26 f)), (4, .agg (ints 26 g))] = some (mac (.slice a n1 c1) (.slice b n2 c2) (.slice c n3 c3) f g) := by kernel_rfl
end Go.Proofs.Ythfjkhmedpilnaa

/-
  Plain mathematics: a conjugate's cycles are as long.
-/
namespace Go.Proofs.Ythfjkhmedpilnaa
open Go.RowKit PK

/-- How many letters lie in cycles of length n. -/
def inAll (p : Nat → Nat) (n : Nat) : Nat := ((List.range 26).filter fun i => Pm.len p i == n).length
end Go.Proofs.Ythfjkhmedpilnaa

/-
  Plain mathematics: Rejewski's theorem: the cycles of two pairings, one behind the other, come in pairs.
-/
namespace Go.Proofs.Ythfjkhmedpilnaa
open Go.RowKit PK

theorem type_len (p : Nat → Nat) : (typeOf p).length ≤ 1000000 := by
  have := tyDown_len (cnt (Pm.cycs p 26)) (fun n => Nat.le_trans (cnt_le _ n) (Pm.cycs_len p 26)) 26
  unfold typeOf
  omega

namespace Rj
/-- A pairing without a fixed letter. -/
structure Pairing (p : Nat → Nat) : Prop where
  perm : Pm.IsPerm p
  two : ∀ i, i < 26 → p (p i) = i
  ne : ∀ i, i < 26 → p i ≠ i
section
variable {p q : Nat → Nat}
theorem iter_one (r : Nat → Nat) (k x : Nat) : Pm.iter r (k + 1) x = Pm.iter r k (r x) := Pm.iter_add r x k 1
/-- The one pairing turns the way round. -/
theorem back (hp : Pairing p) (hq : Pairing q) {x : Nat} (hx : x < 26) : ∀ k, Pm.iter (fun i => q (p i)) k (p (Pm.iter (fun i => q (p i)) k x)) = p x
  | 0 => rfl
  | k + 1 => by
    have hr := hp.perm.comp hq.perm
    have hy := Pm.iter_lt hr x hx k
    rw [iter_one]
    have e : q (p (p (q (p (Pm.iter (fun i => q (p i)) k x))))) = p (Pm.iter (fun i => q (p i)) k x) := by
      rw [hp.two _ (hq.perm.lt _ (hp.perm.lt _ hy)), hq.two _ (hp.perm.lt _ hy)]
    show Pm.iter (fun i => q (p i)) k (q (p (p (q (p (Pm.iter (fun i => q (p i)) k x)))))) = p x
    rw [e]
    exact back hp hq hx k
/-- The first letter of a letter's cycle. -/
def hd (r : Nat → Nat) (x : Nat) : Nat := ((List.range 26).find? fun h => (Pm.cyc r h).contains x).getD 0
end
/-- Numbers that come in pairs. -/
structure InPairs (l : List Nat) : Prop where
  even : l.length % 2 = 0
  pair : ∀ i, i + i + 1 < l.length → l.getD (i + i) 0 = l.getD (i + i + 1) 0
theorem InPairs.append {l m : List Nat} (h : InPairs l) (k : InPairs m) : InPairs (l ++ m) := by
  have h1 := h.even
  have h2 := k.even
  refine ⟨by rw [List.length_append]; omega, fun i hi => ?_⟩
  rw [List.length_append] at hi
  by_cases e : i + i + 1 < l.length
  · have := h.pair i e
    rw [List.getD_eq_getElem?_getD, List.getD_eq_getElem?_getD] at this ⊢
    rw [List.getElem?_append_left (by omega), List.getElem?_append_left e]
    exact this
  · have := k.pair (i - l.length / 2) (by omega)
    rw [List.getD_eq_getElem?_getD, List.getD_eq_getElem?_getD] at this ⊢
    rw [List.getElem?_append_right (by omega), List.getElem?_append_right (by omega)]
    rw [show i + i - l.length = i - l.length / 2 + (i - l.length / 2) by omega, show i + i + 1 - l.length = i - l.length / 2 + (i - l.length / 2) + 1 by omega]
    exact this
end Rj
end Go.Proofs.Ythfjkhmedpilnaa
