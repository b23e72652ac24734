/-
  Laws of no program, for registers: numbers that a call owns, rows, regions.
-/
import Derived.Test.YtlfghnngbljlhaaHKit
import Derived.Test.YtlfghnngbljlhaaChecked
import Derived.WalkSpells
import Derived.WalkSmall
import Derived.Deep.OwnRows
import Derived.Lib.OthersKept
import Derived.Lib.SmallJoins
import Derived.Deep.QuietTactic
import Derived.BigQuiet
import Derived.Laws.EntriesVeiled
import Derived.Laws.AppendOwnNone
import Derived.RegionTactic
import Derived.Deep.RegionHeld3
import Derived.OrdersHeld
import Derived.Maps.AppendAt
import Derived.Deep.DeepCutAuto
namespace Go.Proofs.Ytlfghnngbljlhaa
open Go.RowKit PK

def nnums (l : List Nat) : List Value := l.map fun i => Value.int .i64 (i : Nat)
theorem nnums_length (l : List Nat) : (nnums l).length = l.length := by simp [nnums]
theorem nnums_append (l m : List Nat) : nnums (l ++ m) = nnums l ++ nnums m := by simp [nnums]
theorem nnums_one (l : List Nat) : ∀ u ∈ nnums l, u.oneCell' = true := fun u hu => by
  simp [nnums] at hu
  obtain ⟨i, _, rfl⟩ := hu
  rfl
def OwnsL (w : World) (B : Nat) (v : Value) (l : List Nat) : Prop := w.ownsRow B 3 1 v l.length (nnums l)
theorem OwnsL.nil (w : World) (B : Nat) : OwnsL w B (.slice none 0 0) [] := World.ownsRow_nil w B _ 1
theorem OwnsL.below {w w' : World} {B : Nat} {v : Value} {l : List Nat} (h : OwnsL w B v l) (hb : Below w.heap.size w w') : OwnsL w' B v l :=
  ⟨h.1, h.2.imp id fun ⟨g, cap, cur, a, b, c, d⟩ => ⟨g, cap, cur, a, b, (hb.block g (Array.getElem?_eq_some_iff.1 c).1).trans c, d⟩⟩
theorem OwnsL.form {w : World} {B : Nat} {v : Value} {l : List Nat} (h : OwnsL w B v l) : ∃ a c, v = .slice a l.length c := by
  rcases h.2 with ⟨rfl, h0⟩ | ⟨g', cap, cur, rfl, _⟩
  · exact ⟨none, 0, by rw [h0]⟩
  · exact ⟨_, _, rfl⟩
theorem OwnsL.nums {w : World} {B : Nat} {v : Value} {l : List Nat} (h : OwnsL w B v l) : NumsAt w v l.length (fun c => ((l.getD c 0 : Nat) : Int)) := by
  have hx := h
  rcases h.2 with ⟨rfl, h0⟩ | ⟨g, cap, cur, rfl, hbg, hg, hnc, hcm, hcs, htake⟩
  · exact ⟨none, 0, by rw [h0], by rw [h0]; decide, fun c hc => by omega⟩
  · refine ⟨some ⟨g, 0, none⟩, cap, rfl, by omega, fun c hc => ⟨g, 0, rfl, ?_⟩⟩
    have h1 : (nnums l)[c]? = some (.int .i64 ((l.getD c 0 : Nat) : Int)) := by simp [nnums, List.getD, hc]
    have := World.ownsRow.cells (g := g) hx rfl c _ h1
    have e : ((⟨g, 0, none⟩ : Addr).add c) = ⟨g, 0 + c, none⟩ := by unfold Addr.add; by_cases e0 : c = 0 <;> simp [e0]
    rw [e] at this
    exact this
theorem y_info_parts {P : Program} {e : TypeId} {z : Value} {b : Nat} (h : (P.info? e).map (fun i => (i.zero, i.size, i.bytes)) = some (some z, 1, b)) : ∃ i, P.info? e = some i ∧ i.zero = some z ∧ i.size = 1 ∧ i.bytes = b := by
  obtain ⟨i, hi, hzz⟩ := Option.map_eq_some_iff.1 h
  simp only [Prod.mk.injEq] at hzz
  exact ⟨i, hi, hzz.1, hzz.2.1, hzz.2.2⟩
theorem own_step {w w' : World} {B : Nat} {T : TypeId} {s n : Nat} {v : Value} {l : List Value} (h : w.ownsRow B T s v n l) (hb : Below w.heap.size w w') : w'.ownsRow B T s v n l := by
  obtain ⟨h1, h2⟩ := h
  refine ⟨h1, ?_⟩
  rcases h2 with h2 | ⟨g, cap, cur, e, hB, hg, h3⟩
  · exact .inl h2
  · exact .inr ⟨g, cap, cur, e, hB, (hb.block g (Array.getElem?_eq_some_iff.1 hg).1).trans hg, h3⟩
theorem own_drew {w : World} {B : Nat} {T : TypeId} {s n : Nat} {v : Value} {l : List Value} (h : w.ownsRow B T s v n l) : w.drew.ownsRow B T s v n l := h
theorem grown_set (W : World) (q i : Nat) (v : Value) : W.grownBy (W.setCell ⟨q, i, none⟩ v) (some q) := by
  have := (Below.refl 0 W).setCell (p := ⟨q, i, none⟩) (Nat.zero_le _) v
  exact ⟨this.os, this.tape, this.output, this.size, fun k _ hne => heap_setCell_other W ⟨q, i, none⟩ k v (fun e => hne (by rw [e]))⟩
theorem grown_trans {W V U : World} {r : Option Nat} (h1 : W.grownBy V r) (h2 : V.grownBy U r) : W.grownBy U r :=
  ⟨h2.os.trans h1.os, h2.tape.trans h1.tape, h2.output.trans h1.output, Nat.le_trans h1.size h2.size, fun k hk hne => (h2.block k (Nat.lt_of_lt_of_le hk h1.size) hne).trans (h1.block k hk hne)⟩
section
variable {P : Program} {ops : Array Oper} {Q : Exit → Act → World → Prop} {md : Region.Mode} {S : World → Prop}
theorem vtake (i d : Nat) (v : Value) {oi : Oper} {fuel : Nat} {listed : Array Bool} {tm : Array Value} {df : List Deferred} {w : World} (hi : ops[i]? = some oi) (hd : oi.dst = some d)
    (hs : Region.noSelect ops = true) (hf : Region.free md ops listed i = true) (hr : (Region.ready md ops listed).contains i = true)
    (hQ : ∀ c a a' w, Q (.panic c) a' w → Q (.panic c) a w) (hw : Region.wanted oi (yielded ops tm) = true) (hrun : ∀ W, S W → (execOp (Act.eval ⟨tm, df⟩) oi).run P W = .ok (.value v) W) (hS : S w)
    (h : wpAnyH P md ops Q S fuel (listed.setIfInBounds i true) ⟨tm.setIfInBounds d v, df⟩ w) : wpAnyH P md ops Q S (fuel + 1) listed ⟨tm, df⟩ w := by
  refine wpAnyH_take (i := i) (oi := oi) (v := v) hi hs hf hr (fun c a w => hQ c a _ w) (Or.inl ⟨hw, fun W hW => hrun W hW⟩) hS ?_
  rw [hd]
  exact h
end
theorem x_info_parts {P : Program} {e : TypeId} {z : Value} {s b : Nat} (h : (P.info? e).map (fun i => (i.zero, i.size, i.bytes)) = some (some z, s, b)) : ∃ i, P.info? e = some i ∧ i.zero = some z ∧ i.size = s ∧ i.bytes = b := by
  obtain ⟨i, hi, hzz⟩ := Option.map_eq_some_iff.1 h
  simp only [Prod.mk.injEq] at hzz
  exact ⟨i, hi, hzz.1, hzz.2.1, hzz.2.2⟩
theorem o_zero {P : Program} {t : TypeId} {z : Value} (h : (P.info? t).map (·.zero) = some (some z)) (w : World) : (zeroValue t).run P w = .ok z w := by
  cases hi : P.info? t with
  | none => simp [hi] at h
  | some i =>
    have h2 : i.zero = some z := by simpa [hi] using h
    simp [zeroValue, typeInfo, hi, h2]
theorem row_mid {w : World} {b : Nat} {T : TypeId} {c : Array Value} (h : RowAt w b T c) (o : Nat) (cs : Array Value) (e : ∀ i v, cs[i]? = some v → c[o + i]? = some v) : w.rangeAt b o cs.toList := fun j v hv => h.cell (e j v (by rw [← Array.getElem?_toList]; exact hv))
def setMany (c : Array Value) : Nat → List Value → Array Value
  | _, [] => c
  | o, v :: l => setMany (c.setIfInBounds o v) (o + 1) l
theorem row_setCells {T : TypeId} {g : Nat} : ∀ {l : List Value} {o : Nat} {w : World} {c : Array Value}, RowAt w g T c → RowAt (w.setCells g o l) g T (setMany c o l)
  | [], _, _, _, h => h
  | v :: l, o, _, _, h => row_setCells (l := l) (h.set o v)
theorem setMany_get : ∀ (l : List Value) (o : Nat) (c : Array Value) (i : Nat), o + l.length ≤ c.size → (setMany c o l)[i]? = if o ≤ i ∧ i < o + l.length then l[i - o]? else c[i]?
  | [], o, c, i, _ => by show c[i]? = _; rw [if_neg (by rintro ⟨h1, h2⟩; simp at h2; omega)]
  | v :: l, o, c, i, h => by
    show (setMany (c.setIfInBounds o v) (o + 1) l)[i]? = _
    have h' : o + 1 + l.length ≤ c.size := by simp at h; omega
    rw [setMany_get l (o + 1) (c.setIfInBounds o v) i (by simpa using h')]
    by_cases e : i = o
    · subst e
      rw [if_neg (by omega), if_pos ⟨by omega, by simp⟩, Nat.sub_self]
      have hi : i < c.size := by simp at h; omega
      simp [hi]
    · by_cases e2 : o + 1 ≤ i ∧ i < o + 1 + l.length
      · rw [if_pos e2, if_pos ⟨by omega, by simp; omega⟩]
        rw [show i - o = (i - (o + 1)) + 1 by omega]
        simp
      · rw [if_neg e2, if_neg (by simp; omega), Array.getElem?_setIfInBounds_ne (by omega)]
theorem below_setCells {B g : Nat} (hg : B ≤ g) : ∀ {l : List Value} {o : Nat} {w W : World}, Below B w W → Below B w (W.setCells g o l)
  | [], _, _, _, h => h
  | v :: l, o, _, _, h => below_setCells hg (l := l) (h.setCell (p := ⟨g, o, none⟩) hg v)
theorem row_setCells_other {T : TypeId} {g q : Nat} (hne : q ≠ g) : ∀ {l : List Value} {o : Nat} {w : World} {c : Array Value}, RowAt w q T c → RowAt (w.setCells g o l) q T c
  | [], _, _, _, h => h
  | v :: l, o, _, _, h => row_setCells_other hne (l := l) (h.setOther ⟨g, o, none⟩ v hne)
theorem there_row {w : World} {g : Nat} {T : TypeId} {c : Array Value} (h : RowAt w g T c) {o n : Nat} (hn : o + n ≤ c.size) : w.there g o n := fun j hj => by
  refine ⟨?_, h.frozen _⟩
  rw [h.cell (i := o + j) (v := c[o + j]'(by omega)) (by simp)]
  rfl
theorem g_info_int : (Try.prog.info? 3).map (fun i => (i.zero, i.size, i.bytes)) = some (some (.int .i64 0), 1, 8) := by kernel_rfl
end Go.Proofs.Ytlfghnngbljlhaa
