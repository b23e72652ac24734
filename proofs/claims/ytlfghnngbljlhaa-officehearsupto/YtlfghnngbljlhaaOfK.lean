/-
  How an office lies in memory (chapter 16), and what is left as it was.
-/
import Derived.Test.YtlfghnngbljlhaaOfM
import Derived.Test.YtlfghnngbljlhaaPdP
import Derived.Test.YtlfghnngbljlhaaPdSa
import Derived.Test.YtlfghnngbljlhaaOfW
import Derived.Deep.MidRow
import Derived.Handy
namespace Go.Proofs.Ytlfghnngbljlhaa
open Go.RowKit PK Pd

/-- All blocks but these are as they were. -/
structure Fr (l : List Nat) (w w' : World) : Prop where
  os : w'.os = w.os
  tape : w'.tape = w.tape
  output : w'.output = w.output
  size : w.heap.size ≤ w'.heap.size
  block : ∀ k, k < w.heap.size → k ∉ l → w'.heap[k]? = w.heap[k]?
section
variable {l : List Nat} {w w' w'' : World}
theorem Fr.refl (l : List Nat) (w : World) : Fr l w w := ⟨rfl, rfl, rfl, Nat.le_refl _, fun _ _ _ => rfl⟩
theorem Fr.trans (h : Fr l w w') (k : Fr l w' w'') : Fr l w w'' := ⟨k.os.trans h.os, k.tape.trans h.tape, k.output.trans h.output, Nat.le_trans h.size k.size, fun i hi hn => (k.block i (Nat.lt_of_lt_of_le hi h.size) hn).trans (h.block i hi hn)⟩
theorem Fr.of_below (l : List Nat) (h : Below w.heap.size w w') : Fr l w w' := ⟨h.os, h.tape, h.output, h.size, fun i hi _ => h.block i hi⟩
theorem Fr.of_grown {p : Nat} (h : w.grownBy w' (some p)) (hp : p ∈ l) : Fr l w w' := ⟨h.os, h.tape, h.output, h.size, fun i hi hn => h.block i hi (fun e => by cases e; exact hn hp)⟩
theorem Fr.set (l : List Nat) (w : World) {b : Nat} (i : Nat) (v : Value) (hb : b ∈ l) : Fr l w (w.setCell ⟨b, i, none⟩ v) := Fr.of_grown (grown_set w b i v) hb
theorem Fr.mono {l' : List Nat} (h : Fr l w w') (hl : ∀ k, k ∈ l → k ∈ l') : Fr l' w w' := ⟨h.os, h.tape, h.output, h.size, fun i hi hn => h.block i hi (fun e => hn (hl i e))⟩
theorem Fr.row (h : Fr l w w') {b : Nat} {T : TypeId} {c : Array Value} (hr : RowAt w b T c) (hb : b ∉ l) : RowAt w' b T c := (h.block b hr.lt hb).trans hr
theorem Fr.cell (h : Fr l w w') {a : Addr} {v : Value} (hc : w.cell? a = some v) (hb : a.block ∉ l) : w'.cell? a = some v := (World.cell?_of_block (h.block _ (cell_block hc) hb)).trans hc
theorem Fr.nums (h : Fr l w w') {v : Value} {n : Nat} {f : Nat → Int} (hv : NumsAt w v n f) (hb : 0 < n → ∀ b, v.ownBlock = some b → b ∉ l) : NumsAt w' v n f := by
  obtain ⟨a, c, rfl, hm, hc⟩ := hv
  refine ⟨a, c, rfl, hm, fun i hi => ?_⟩
  obtain ⟨b, o, rfl, h3⟩ := hc i hi
  exact ⟨b, o, rfl, h.cell h3 (hb (by omega) b rfl)⟩
theorem Fr.below {B : Nat} {a : World} (h : Fr l w w') (hb : Below B a w) (hB : B ≤ w.heap.size) (hl : ∀ k, k ∈ l → B ≤ k) : Below B a w' := ⟨h.os.trans hb.os, h.tape.trans hb.tape, h.output.trans hb.output, Nat.le_trans hb.size h.size, fun i hi => (h.block i (by omega) (fun e => by have := hl i e; omega)).trans (hb.block i hi)⟩
theorem Fr.own {B : Nat} {T : TypeId} {s n : Nat} {v : Value} {xs : List Value} (h : Fr l w w') (ho : w.ownsRow B T s v n xs) (hb : ∀ b, v.ownBlock = some b → b ∉ l) : w'.ownsRow B T s v n xs := by
  rcases ho with ⟨h1, h2⟩
  refine ⟨h1, ?_⟩
  rcases h2 with h2 | ⟨g, cap, cur, rfl, hB, hg, h3⟩
  · exact .inl h2
  · exact .inr ⟨g, cap, cur, rfl, hB, (h.block g (RowAt.lt (T := T) hg) (hb g rfl)).trans hg, h3⟩
end
/-- A disk. -/
structure DkAt (W : World) (q g D : Nat) (d : Nat → Int) (lf : Int) : Prop where
  ex : ∃ cap cur, RowAt W q 44 #[.slice (some ⟨g, 0, none⟩) D cap, .int .i64 lf, .bool false] ∧ RowAt W g 2 cur ∧ (∀ i, i < D → cur[i]? = some (.int .i64 (d i))) ∧ D ≤ maxLen
  ne : q ≠ g
def ofc (n : Int) (vs : Value) (q : Nat) (dd : Bool) : Array Value := #[.int .i64 n, vs, .iface 42 (.pointer (some ⟨q, 0, none⟩)), .bool dd]
/-- An office at work. -/
structure OfAt (W : World) (q g o : Nat) (n : Int) (vs : Value) (P : Nat) (p : Nat → Int) (D : Nat) (d : Nat → Int) (lf : Int) (dd : Bool) : Prop where
  dk : DkAt W q g D d lf
  row : RowAt W o 61 (ofc n vs q dd)
  nums : NumsAt W vs P p
  oq : o ≠ q
  og : o ≠ g
  vb : 0 < P → ∀ b, vs.ownBlock = some b → b ∉ [q, g, o]
  vc : ∃ a c, vs = .slice a P c ∧ P ≤ c
section
variable {W W' : World} {q g o D P : Nat} {d p : Nat → Int} {lf n : Int} {vs : Value} {dd : Bool} {l : List Nat}
theorem DkAt.fr (h : DkAt W q g D d lf) (hf : Fr l W W') (h1 : q ∉ l) (h2 : g ∉ l) : DkAt W' q g D d lf := by
  obtain ⟨⟨cap, cur, a, b, c, m⟩, e⟩ := h
  exact ⟨⟨cap, cur, hf.row a h1, hf.row b h2, c, m⟩, e⟩
theorem DkAt.below (h : DkAt W q g D d lf) (hb : Below W.heap.size W W') : DkAt W' q g D d lf := h.fr (Fr.of_below [] hb) (by simp) (by simp)
theorem DkAt.lt (h : DkAt W q g D d lf) : q < W.heap.size ∧ g < W.heap.size := by
  obtain ⟨⟨cap, cur, a, b, c, m⟩, e⟩ := h
  exact ⟨a.lt, b.lt⟩
theorem DkAt.word (h : DkAt W q g D d lf) {i : Nat} (hi : i < D) (v : Int) : DkAt (W.setCell ⟨g, i, none⟩ (.int .i64 v)) q g D (upd d i v) lf := by
  obtain ⟨⟨cap, cur, a, b, c, m⟩, e⟩ := h
  refine ⟨⟨cap, _, a.setOther _ _ e, b.set i _, fun k hk => ?_, m⟩, e⟩
  have hs : i < cur.size := by
    have := c i hi
    exact (Array.getElem?_eq_some_iff.1 this).1
  by_cases h2 : k = i
  · subst h2
    rw [upd_same, Array.getElem?_setIfInBounds_self_of_lt hs]
  · rw [upd_other _ _ h2, Array.getElem?_setIfInBounds_ne (fun e => h2 e.symm)]
    exact c k hk
theorem DkAt.left (h : DkAt W q g D d lf) (v : Int) : DkAt (W.setCell ⟨q, 1, none⟩ (.int .i64 v)) q g D d v := by
  obtain ⟨⟨cap, cur, a, b, c, m⟩, e⟩ := h
  exact ⟨⟨cap, cur, a.set 1 _, b.setOther _ _ (fun x => e x.symm), c, m⟩, e⟩
theorem OfAt.fr (h : OfAt W q g o n vs P p D d lf dd) (hf : Fr l W W') (hl : ∀ k, k ∈ [q, g, o] → k ∉ l) (hv : 0 < P → ∀ b, vs.ownBlock = some b → b ∉ l) : OfAt W' q g o n vs P p D d lf dd :=
  ⟨h.dk.fr hf (hl _ (by simp)) (hl _ (by simp)), hf.row h.row (hl _ (by simp)), hf.nums h.nums hv, h.oq, h.og, h.vb, h.vc⟩
theorem OfAt.below (h : OfAt W q g o n vs P p D d lf dd) (hb : Below W.heap.size W W') : OfAt W' q g o n vs P p D d lf dd := h.fr (Fr.of_below [] hb) (fun _ _ => by simp) (fun _ _ _ => by simp)
theorem OfAt.disk {d' : Nat → Int} {lf' : Int} (h : OfAt W q g o n vs P p D d lf dd) (hd : DkAt W' q g D d' lf') (hf : Fr [q, g] W W') : OfAt W' q g o n vs P p D d' lf' dd :=
  ⟨hd, hf.row h.row (by simp [h.oq, h.og]), hf.nums h.nums (fun h0 b hb => by have := h.vb h0 b hb; simp at this ⊢; exact ⟨this.1, this.2.1⟩), h.oq, h.og, h.vb, h.vc⟩
theorem OfAt.dies (h : OfAt W q g o n vs P p D d lf dd) : OfAt (W.setCell ⟨o, 3, none⟩ (.bool true)) q g o n vs P p D d lf true := by
  have hf := Fr.set [o] W 3 (.bool true) (b := o) (by simp)
  exact ⟨h.dk.fr hf (by simp; exact fun e => h.oq e.symm) (by simp; exact fun e => h.og e.symm), h.row.set 3 _, hf.nums h.nums (fun h0 b hb => by have := h.vb h0 b hb; simp at this ⊢; exact this.2.2), h.oq, h.og, h.vb, h.vc⟩
end
theorem g_info_64 : (Try.prog.info? 2).map (fun i => (i.zero, i.size, i.bytes)) = some (some (.int .i64 0), 1, 8) := by kernel_rfl
/-- A slice from a place on. -/
theorem slice_from_nums {w : World} {v : Value} {P : Nat} {p : Nat → Int} (hv : NumsAt w v P p) {k : Nat} (hk : k ≤ P) (hc : ∃ a c, v = .slice a P c ∧ P ≤ c) : ∃ v', (∀ W, (Instr.slice 22 v (some (.int .i64 (k : Int))) none none).run Try.prog W = .ok v' W) ∧ ∀ W, NumsAt W v P p → NumsAt W v' (P - k) (Oc.on p k) := by
  obtain ⟨a, c, rfl, hm, hcl⟩ := hv
  have hs : ∀ W, (sizeOf 3).run Try.prog W = .ok 1 W := fun W => by
    obtain ⟨i, hi, hz⟩ := Option.map_eq_some_iff.1 g_info_int
    simp at hz
    simp [sizeOf, typeInfo, hi, hz]
  have hd2 : (0 : Int) ≤ (k : Int) ∧ (k : Int) ≤ (P : Int) := by omega
  have hd : k ≤ P := hk
  obtain ⟨a', c', e', hcp⟩ := hc
  cases e'
  cases a with
  | none =>
    have h0 : P = 0 := by
      rcases Nat.eq_zero_or_pos P with h | h
      · exact h
      · obtain ⟨b, o, e, _⟩ := hcl 0 h
        cases e
    subst h0
    obtain rfl : k = 0 := by omega
    refine ⟨.slice none 0 c, fun W => ?_, fun W hW => ?_⟩
    · simp [Instr.slice, Instr.sliceBounds, Instr.sliceBound, asIntOf, run_underlying Try.underlying22, hs]
    · exact ⟨none, c, rfl, by decide, fun i hi => by omega⟩
  | some ad =>
    refine ⟨.slice (some (if c = k then ad else ad.add k)) (P - k) (c - k), fun W => ?_, fun W hW => ?_⟩
    · by_cases e : c = k
      · simp [Instr.slice, Instr.sliceBounds, Instr.sliceBound, asIntOf, run_underlying Try.underlying22, hs, hd2, hd, e]
      · simp [Instr.slice, Instr.sliceBounds, Instr.sliceBound, asIntOf, run_underlying Try.underlying22, hs, hd2, hd, e]
    · obtain ⟨a2, c2, e2, hm2, hcl2⟩ := hW
      cases e2
      refine ⟨_, _, rfl, by omega, fun i hi => ?_⟩
      obtain ⟨b, o, e3, h4⟩ := hcl2 (k + i) (by omega)
      cases e3
      refine ⟨b, o + k, ?_, ?_⟩
      · rw [if_neg (by omega)]
        congr 1
        unfold Addr.add
        by_cases e0 : k = 0 <;> simp [e0]
      · show W.cell? ⟨b, o + k + i, none⟩ = some (.int .i64 (p (k + i)))
        rw [Nat.add_assoc]
        exact h4
/-- An office in a state. -/
def OfSt (W : World) (q g o : Nat) (n : Int) (vs : Value) (P : Nat) (p : Nat → Int) (D : Nat) (d : Nat → Int) (s : Oc.St) : Prop := OfAt W q g o n vs P p D (Oc.dk d s) s.lf s.dd
theorem dk_0 (d : Nat → Int) (s : Oc.St) : Oc.dk d s 0 = s.a := rfl
theorem dk_1 (d : Nat → Int) (s : Oc.St) : Oc.dk d s 1 = s.b := rfl
theorem dk_set0 (d : Nat → Int) (s : Oc.St) (v l : Int) (b : Bool) : upd (Oc.dk d s) 0 v = Oc.dk d ⟨v, s.b, l, b⟩ := by
  funext i
  unfold upd Oc.dk
  by_cases e : i = 0
  · rw [if_pos e, if_pos e]
  · rw [if_neg e, if_neg e, if_neg e]
theorem dk_set1 (d : Nat → Int) (s : Oc.St) (v l : Int) (b : Bool) : upd (Oc.dk d s) 1 v = Oc.dk d ⟨s.a, v, l, b⟩ := by
  funext i
  unfold upd Oc.dk
  by_cases e : i = 1
  · rw [if_pos e, if_neg (by omega), if_pos e]
  · rw [if_neg e, if_neg e, if_neg e]
end Go.Proofs.Ytlfghnngbljlhaa
