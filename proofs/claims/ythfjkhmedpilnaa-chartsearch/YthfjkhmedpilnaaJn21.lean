/-
  Several texts, joined: ORSt, ORNo, ORWt, OMa, LOUnd, OPlug.
-/
import Derived.Test.YthfjkhmedpilnaaJn20
/-
  Contract of the document's Stepped (chapter 8).
-/
namespace Go.Proofs.Ythfjkhmedpilnaa
open Go.RowKit PK

section
variable {P : Program} {ops : Array Oper} {Q : Exit → Act → World → Prop} {md : Region.Mode} {S : World → Prop}
end
def oN (l : List Nat) : List Value := l.map fun x => .int .i64 (x : Nat)
/-- The slice v owns the numbers l, in blocks from B on. -/
def OwnsO (w : World) (B : Nat) (v : Value) (l : List Nat) : Prop := w.ownsRow B 3 1 v l.length (oN l)
theorem OwnsO.nil (w : World) (B : Nat) : OwnsO w B (.slice none 0 0) [] := World.ownsRow_nil w B _ 1
theorem own_step {w w' : World} {B : Nat} {T : TypeId} {s n : Nat} {v : Value} {l : List Value} (h : w.ownsRow B T s v n l) (hb : Below w.heap.size w w') : w'.ownsRow B T s v n l := by
  obtain ⟨h1, h2⟩ := h
  refine ⟨h1, ?_⟩
  rcases h2 with h2 | ⟨g, cap, cur, e, hB, hg, h3⟩
  · exact .inl h2
  · exact .inr ⟨g, cap, cur, e, hB, (hb.block g (Array.getElem?_eq_some_iff.1 hg).1).trans hg, h3⟩
theorem own_drew {w : World} {B : Nat} {T : TypeId} {s n : Nat} {v : Value} {l : List Value} (h : w.ownsRow B T s v n l) : w.drew.ownsRow B T s v n l := h
theorem OwnsO.nums {w : World} {B : Nat} {v : Value} {l : List Nat} (h : OwnsO w B v l) (hm : l.length ≤ 1000) : NumsAt w v l.length fun i => ((l.getD i 0 : Nat) : Int) := by
  obtain ⟨h1, h2⟩ := h
  rcases h2 with ⟨rfl, h0⟩ | ⟨g, cap, cur, rfl, hB, hg, hnc, hcm, hcs, htake⟩
  · rw [h0]; exact ⟨none, 0, rfl, by decide, fun c hc => by omega⟩
  · refine ⟨_, _, rfl, by unfold maxLen; omega, fun c hc => ⟨g, 0, rfl, ?_⟩⟩
    rw [Nat.zero_add]
    refine RowAt.cell (w := w) (b := g) (T := 3) hg ?_
    have h3 : (oN l)[c]? = some (.int .i64 ((l.getD c 0 : Nat) : Int)) := by
      unfold oN
      rw [List.getElem?_map, List.getD_eq_getElem?_getD, List.getElem?_eq_getElem hc]
      rfl
    rw [← htake, List.getElem?_take_of_lt (by omega)] at h3
    simpa using h3
/-- What is held while a wheel is looked at. -/
structure StS (w W : World) (a b c v : Value) (rf pl : Nat → Int) (l : List Nat) : Prop where
  mg : MgAt w W a b c rf pl
  own : OwnsO W (w.heap.size + 1) v l
theorem StS.step {w W W' : World} {a b c v : Value} {rf pl : Nat → Int} {l : List Nat} (h : StS w W a b c v rf pl l) (hb : Below W.heap.size W W') : StS w W' a b c v rf pl l := ⟨h.mg.step hb, own_step h.own hb⟩
theorem StS.drew {w W : World} {a b c v : Value} {rf pl : Nat → Int} {l : List Nat} (h : StS w W a b c v rf pl l) : StS w W.drew a b c v rf pl l := ⟨h.mg.drew, own_drew h.own⟩
end Go.Proofs.Ythfjkhmedpilnaa

/-
  Contract of the document's Now (chapter 8).
-/
namespace Go.Proofs.Ythfjkhmedpilnaa
open Go.RowKit PK

def three (f g h : Nat → Int) : Nat → Int := fun i => if i < 26 then f i else if i < 52 then g (i - 26) else h (i - 52)
section
variable {P : Program}
end
/-- The permutations, one behind the other, as Now lays them. -/
def seqP (M : Om.Ma) (at' : Nat → Nat) (r : Nat) : Nat → Nat :=
  if r = 0 then M.pl else if (r - 1) % 3 = 0 then fun c => (c + Om.by' M at' (M.n - 1 - (r - 1) / 3)) % 26 else if (r - 1) % 3 = 1 then M.wi (M.n - 1 - (r - 1) / 3) else fun c => (c + 26 - Om.by' M at' (M.n - 1 - (r - 1) / 3)) % 26
structure NoT (w W : World) (a b c : Value) (rf pl : Nat → Int) : Prop where
  mg : MgAt w W a b c rf pl
  res : RowAt W (w.heap.size + 1) 25 (ints 26 fun _ => 0)
section
variable {w W W' : World} {a b c : Value} {rf pl : Nat → Int}
theorem NoT.step (h : NoT w W a b c rf pl) (hb : Below W.heap.size W W') : NoT w W' a b c rf pl := ⟨h.mg.step hb, h.res.below hb h.res.lt⟩
theorem NoT.drew (h : NoT w W a b c rf pl) : NoT w W.drew a b c rf pl := ⟨h.mg.drew, h.res⟩
theorem NoT.alloc (h : NoT w W a b c rf pl) (o : Obj) : NoT w (W.alloc o) a b c rf pl := h.step ((Below.refl _ _).alloc (Nat.le_refl _) o)
theorem NoT.grown {T : TypeId} {sz n : Nat} {v : Value} {l : List Value} (h : NoT w W a b c rf pl) (ho : W.ownsRow (w.heap.size + 2) T sz v n l) (hg : W.grownBy W' v.ownBlock) : NoT w W' a b c rf pl := by
  have l1 := h.res.lt
  refine ⟨⟨(hg.block w.heap.size (by omega) (fun e => by have := (World.ownsRow.lt ho _ e.symm).1; omega)).trans h.mg.row, h.mg.below.grown hg (by omega) (fun q hq => by have := (World.ownsRow.lt ho q hq).1; omega)⟩, (hg.block (w.heap.size + 1) l1 (fun e => by have := (World.ownsRow.lt ho _ e.symm).1; omega)).trans h.res⟩
end
/-- What is held while the permutations are laid. -/
structure NoS (w W : World) (a b c v : Value) (rf pl : Nat → Int) (m : Nat) (P : Nat → Nat → Nat) : Prop where
  mg : MgAt w W a b c rf pl
  res : RowAt W (w.heap.size + 1) 25 (ints 26 fun _ => 0)
  own : W.ownsRow (w.heap.size + 2) 25 26 v m (ints (m * 26) (flat P)).toList
section
variable {w W W' : World} {a b c v : Value} {rf pl : Nat → Int} {m : Nat} {P : Nat → Nat → Nat}
theorem NoS.step (h : NoS w W a b c v rf pl m P) (hb : Below W.heap.size W W') : NoS w W' a b c v rf pl m P := ⟨h.mg.step hb, h.res.below hb h.res.lt, own_step h.own hb⟩
theorem NoS.drew (h : NoS w W a b c v rf pl m P) : NoS w W.drew a b c v rf pl m P := ⟨h.mg.drew, h.res, own_drew h.own⟩
theorem NoS.draws (h : NoS w W a b c v rf pl m P) (n : Nat) : NoS w (W.drewN n) a b c v rf pl m P := ⟨⟨h.mg.row, h.mg.below.trans ⟨rfl, rfl, rfl, Nat.le_refl _, fun _ _ => rfl⟩⟩, h.res, h.own⟩
theorem NoS.alloc (h : NoS w W a b c v rf pl m P) (o : Obj) : NoS w (W.alloc o) a b c v rf pl m P := h.step ((Below.refl _ _).alloc (Nat.le_refl _) o)
end
/-- The last three. -/
def lastP (p q r : Nat → Nat) (k : Nat) : Nat → Nat := if k = 0 then p else if k = 1 then q else r
end Go.Proofs.Ythfjkhmedpilnaa

/-
  Contract of the document's Write (chapter 8).
-/
namespace Go.Proofs.Ythfjkhmedpilnaa
open Go.RowKit PK Vg

/-- The machine and the result's variable. -/
structure WtAt (w W : World) (a b c : Value) (rf pl : Nat → Int) : Prop where
  mg : MgAt w W a b c rf pl
  res : RowAt W (w.heap.size + 1) 46 #[.int .i64 0, .int .i64 0]
theorem WtAt.new (w : World) (a b c : Value) (rf pl : Nat → Int) : WtAt w ((w.alloc (.cells (mac a b c rf pl) 27)).alloc (.cells #[.int .i64 0, .int .i64 0] 46)) a b c rf pl := by
  have h := RowAt.new (w.alloc (.cells (mac a b c rf pl) 27)) 46 #[.int .i64 0, .int .i64 0]
  rw [World.size_alloc] at h
  exact ⟨(MgAt.new w a b c rf pl).alloc _, h⟩
section
variable {w W W' : World} {a b c : Value} {rf pl : Nat → Int}
theorem WtAt.step (h : WtAt w W a b c rf pl) (hb : Below W.heap.size W W') : WtAt w W' a b c rf pl := ⟨h.mg.step hb, h.res.below hb h.res.lt⟩
theorem WtAt.alloc (h : WtAt w W a b c rf pl) (o : Obj) : WtAt w (W.alloc o) a b c rf pl := h.step ((Below.refl _ _).alloc (Nat.le_refl _) o)
theorem WtAt.drew (h : WtAt w W a b c rf pl) : WtAt w W.drew a b c rf pl := ⟨h.mg.drew, h.res⟩
theorem WtAt.done (h : WtAt w W a b c rf pl) (x y : Value) : Below w.heap.size w ((W.setCell ⟨w.heap.size + 1, 0, none⟩ x).setCell ⟨w.heap.size + 1, 1, none⟩ y) := (h.mg.below.setCell (p := ⟨w.heap.size + 1, 0, none⟩) (by simp) _).setCell (p := ⟨w.heap.size + 1, 1, none⟩) (by simp) _
theorem WtAt.load (h : WtAt w W a b c rf pl) : W.heap[w.heap.size]? = some (.cells (mac a b c rf pl) 27 (0, 0)) := h.mg.row
end
/-- A slice of numbers that another block's growing leaves alone. -/
theorem nums_grown {W W' : World} {v : Value} {n : Nat} {f : Nat → Int} {r : Option Nat} (h : NumsAt W v n f) (hg : W.grownBy W' r) (hne : ∀ b, v.ownBlock = some b → some b ≠ r) : NumsAt W' v n f := by
  obtain ⟨a, cap, rfl, h2, h3⟩ := h
  refine ⟨a, cap, rfl, h2, fun c hc => ?_⟩
  obtain ⟨b, o, rfl, hcell⟩ := h3 c hc
  exact ⟨b, o, rfl, hg.cell hcell (hne b rfl)⟩
/-- What is held in the loop. -/
structure WlAt (w W : World) (a b c : Value) (rf pl : Nat → Int) (gb : Nat) (t : ByteArray) (v8 v9 : Value) (n : Nat) (at' : Nat → Nat) (l : List UInt8) : Prop where
  wt : WtAt w W a b c rf pl
  gb1 : w.heap.size + 1 < gb
  cells : ∀ k (hk : k < t.size), W.cell? ⟨gb, k, none⟩ = some (.int .u8 t[k].toNat)
  gb2 : gb < W.heap.size
  nums : NumsAt W v8 n fun i => (at' i : Nat)
  own : Kit.Owns W (gb + 1) 5 v9 l
/-- What Write says. -/
def rwE (g : Gm) (t : List UInt8) : Int := if gE g ≠ 0 then gE g else ckE t
def rwAt (g : Gm) (t : List UInt8) : Int := if gE g ≠ 0 then 0 else ckAt t
end Go.Proofs.Ythfjkhmedpilnaa

/-
  The machine that a given one is.
-/
namespace Go.Proofs.Ythfjkhmedpilnaa
open Go.RowKit PK Vg

def maOf (g : Gm) : Om.Ma := ⟨g.n, fun r c => (g.wi r c).toNat, fun r => (List.range (g.nl r)).map fun k => (g.no r k).toNat, fun i => (g.ri i).toNat, fun i => (g.st i).toNat, fun c => (g.rf c).toNat, fun c => (g.pl c).toNat⟩
theorem perm_toNat {f : Nat → Int} (h : Pm.wrong f = 0) : Pm.IsPerm (fun c => (f c).toNat) ∧ ∀ i, i < 26 → f i = (((f i).toNat : Nat) : Int) := by
  obtain ⟨p, hp, e⟩ := (Pm.wrong_zero f).1 h
  have e2 : ∀ i, i < 26 → (f i).toNat = p i := fun i hi => by rw [e i hi]; rfl
  refine ⟨⟨fun i hi => by show (f i).toNat < 26; rw [e2 i hi]; exact hp.lt i hi, fun i j hi hj h => ?_⟩, fun i hi => by rw [e i hi]; rfl⟩
  have h' : (f i).toNat = (f j).toNat := h
  rw [e2 i hi, e2 j hj] at h'
  exact hp.inj i j hi hj h'
theorem ok_maOf {g : Gm} (h : gE g = 0) : Om.Ok (maOf g) ∧ ∀ W v, MacAt W v g → MacAt W v (gOf (maOf g)) := by
  obtain ⟨⟨h1, h2⟩, h3, ⟨h4, h5⟩, ⟨h6, h7⟩, ⟨h8, h9⟩, h10, h11⟩ := gE_zero h
  have hw := whE_zero g g.n h3
  rw [ins_iff] at h5 h7
  rw [undo_iff] at h9 h11
  obtain ⟨hrf, erf⟩ := perm_toNat h8
  obtain ⟨hpl, epl⟩ := perm_toNat h10
  have hwi : ∀ r, r < g.n → Pm.IsPerm (fun c => (g.wi r c).toNat) ∧ ∀ i, i < 26 → g.wi r i = (((g.wi r i).toNat : Nat) : Int) := fun r hr => perm_toNat (hw r hr).1
  have hno : ∀ r, r < g.n → ∀ k, k < g.nl r → 0 ≤ g.no r k ∧ g.no r k ≤ 25 := fun r hr => (ins_iff _ _).1 (hw r hr).2
  refine ⟨⟨h1, h2, fun i hi => (hwi i hi).1, fun i hi k hk => ?_, fun i hi => ?_, fun i hi => ?_, hrf, fun c hc => ?_, fun c hc => ?_, hpl, fun c hc => ?_⟩, ?_⟩
  · obtain ⟨q, hq, rfl⟩ := List.mem_map.1 hk
    have := hno i hi q (by simpa using hq)
    omega
  · have := h5 i (by rw [h4]; exact hi); show (g.ri i).toNat < 26; omega
  · have := h7 i (by rw [h6]; exact hi); show (g.st i).toNat < 26; omega
  · have := (h9 c hc).1
    show (g.rf (g.rf c).toNat).toNat = c
    omega
  · have := (h9 c hc).2 rfl
    have e := erf c hc
    show (g.rf c).toNat ≠ c
    omega
  · have := (h11 c hc).1
    show (g.pl (g.pl c).toNat).toNat = c
    omega
  · rintro W v ⟨a, b, c, e, k1, k2, k3⟩
    refine ⟨a, b, c, by rw [e, mac_ext erf epl]; rfl, ?_, ?_, ?_⟩
    · obtain ⟨a', cap, R, q1, q2, q3, q4⟩ := k1
      refine ⟨a', cap, R, q1, q2, fun r hr => ?_, fun r hr => ?_⟩
      · obtain ⟨b', o', e1, e2⟩ := q3 r hr
        rw [whl_ext (hwi r hr).2] at e2
        exact ⟨b', o', e1, e2⟩
      · have := q4 r hr
        show NumsAt W (R r) ((List.range (g.nl r)).map fun k => (g.no r k).toNat).length _
        rw [List.length_map, List.length_range]
        refine nums_ext this fun k hk => ?_
        have h0 := hno r hr k hk
        show g.no r k = (((List.range (g.nl r)).map fun k => (g.no r k).toNat).getD k 0 : Nat)
        simp [List.getD_eq_getElem?_getD, hk]
        omega
    · rw [h4] at k2
      exact nums_ext k2 fun i hi => by
        have := h5 i (by rw [h4]; exact hi)
        show g.ri i = ((g.ri i).toNat : Int)
        omega
    · rw [h6] at k3
      exact nums_ext k3 fun i hi => by
        have := h7 i (by rw [h6]; exact hi)
        show g.st i = ((g.st i).toNat : Int)
        omega
/-- What Write writes. -/
def rwS (g : Gm) (t : List UInt8) : List UInt8 := if rwE g t ≠ 0 then [] else Om.wr (maOf g) (maOf g).st t
end Go.Proofs.Ythfjkhmedpilnaa

/-
  RotorUndone, for any Write that writes what the document's writes.
-/
namespace Go.Proofs.Ythfjkhmedpilnaa
open Go.RowKit PK Vg

/-- The machine in its variable, and a fault behind it. -/
structure FmAt (w W : World) (a b c : Value) (rf pl : Nat → Int) (q : Nat) (x y : Value) : Prop where
  mg : MgAt w W a b c rf pl
  f : RowAt W q 46 #[x, y]
  ne : w.heap.size < q
section
variable {w W W' : World} {a b c : Value} {rf pl : Nat → Int} {q : Nat} {x y : Value}
theorem FmAt.step (h : FmAt w W a b c rf pl q x y) (hb : Below W.heap.size W W') : FmAt w W' a b c rf pl q x y := ⟨h.mg.step hb, h.f.below hb h.f.lt, h.ne⟩
theorem FmAt.alloc (h : FmAt w W a b c rf pl q x y) (o : Obj) : FmAt w (W.alloc o) a b c rf pl q x y := h.step ((Below.refl _ _).alloc (Nat.le_refl _) o)
theorem FmAt.new (h : MgAt w W a b c rf pl) (x y : Value) : FmAt w (W.alloc (.cells #[x, y] 46)) a b c rf pl W.heap.size x y := ⟨h.alloc _, RowAt.new W _ _, h.lt⟩
theorem FmAt.set (h : FmAt w W a b c rf pl q x y) (u v : Value) : FmAt w ((W.setCell ⟨q, 0, none⟩ u).setCell ⟨q, 1, none⟩ v) a b c rf pl q u v := by
  have := h.ne
  exact ⟨⟨(h.mg.row.setOther _ _ (by simp; omega)).setOther _ _ (by simp; omega), (h.mg.below.setCell (p := ⟨q, 0, none⟩) (by simp; omega) _).setCell (p := ⟨q, 1, none⟩) (by simp; omega) _⟩, (h.f.set 0 u).set 1 v, h.ne⟩
theorem FmAt.draws (h : FmAt w W a b c rf pl q x y) (n : Nat) : FmAt w (W.drewN n) a b c rf pl q x y := ⟨⟨h.mg.row, h.mg.below.trans ⟨rfl, rfl, rfl, Nat.le_refl _, fun _ _ => rfl⟩⟩, h.f, h.ne⟩
end
end Go.Proofs.Ythfjkhmedpilnaa

/-
  Contract of the law's plugged; a store into the midst of a machine.
-/
namespace Go.Proofs.Ythfjkhmedpilnaa
open Go.RowKit PK Vg

def setMany (c : Array Value) : Nat → List Value → Array Value
  | _, [] => c
  | o, v :: l => setMany (c.setIfInBounds o v) (o + 1) l
theorem row_setCells {T : TypeId} {g : Nat} : ∀ {l : List Value} {o : Nat} {w : World} {c : Array Value}, RowAt w g T c → RowAt (w.setCells g o l) g T (setMany c o l)
  | [], _, _, _, h => h
  | v :: l, o, _, _, h => row_setCells (l := l) (h.set o v)
theorem setMany_size : ∀ (l : List Value) (o : Nat) (c : Array Value), (setMany c o l).size = c.size
  | [], _, _ => rfl
  | v :: l, o, c => by show (setMany (c.setIfInBounds o v) (o + 1) l).size = _; rw [setMany_size]; simp
theorem setMany_get : ∀ (l : List Value) (o : Nat) (c : Array Value) (i : Nat), o + l.length ≤ c.size → (setMany c o l)[i]? = if o ≤ i ∧ i < o + l.length then l[i - o]? else c[i]?
  | [], o, c, i, _ => by show c[i]? = _; rw [if_neg (by rintro ⟨h1, h2⟩; simp at h2; omega)]
  | v :: l, o, c, i, h => by
    show (setMany (c.setIfInBounds o v) (o + 1) l)[i]? = _
    have h' : o + 1 + l.length ≤ c.size := by simp at h; omega
    rw [setMany_get l (o + 1) (c.setIfInBounds o v) i (by simpa using h')]
    by_cases e : i = o
    · subst e
      rw [if_neg (by omega), if_pos ⟨by omega, by simp⟩, Nat.sub_self]
      have hi : i < c.size := by simp at h; omega
      simp [hi]
    · by_cases e2 : o + 1 ≤ i ∧ i < o + 1 + l.length
      · rw [if_pos e2, if_pos ⟨by omega, by simp; omega⟩]
        rw [show i - o = (i - (o + 1)) + 1 by omega]
        simp
      · rw [if_neg e2, if_neg (by simp; omega), Array.getElem?_setIfInBounds_ne (by omega)]
theorem below_setCells {B g : Nat} (hg : B ≤ g) : ∀ {l : List Value} {o : Nat} {w W : World}, Below B w W → Below B w (W.setCells g o l)
  | [], _, _, _, h => h
  | v :: l, o, _, _, h => below_setCells hg (l := l) (h.setCell (p := ⟨g, o, none⟩) hg v)
theorem row_setCells_other {T : TypeId} {g q : Nat} (hne : q ≠ g) : ∀ {l : List Value} {o : Nat} {w : World} {c : Array Value}, RowAt w q T c → RowAt (w.setCells g o l) q T c
  | [], _, _, _, h => h
  | v :: l, o, _, _, h => row_setCells_other hne (l := l) (h.setOther ⟨g, o, none⟩ v hne)
theorem there_row {w : World} {g : Nat} {T : TypeId} {c : Array Value} (h : RowAt w g T c) {o n : Nat} (hn : o + n ≤ c.size) : w.there g o n := fun j hj => by
  refine ⟨?_, h.frozen _⟩
  rw [h.cell (i := o + j) (v := c[o + j]'(by omega)) (by simp)]
  rfl
/-- What is held in plugged's loop. -/
structure PgAt (w W : World) (p : Nat → Nat) (gb : Nat) (t : ByteArray) (v9 : Value) (l : List UInt8) : Prop where
  row : RowAt W w.heap.size 25 (ints 26 (Pm.up p))
  below : Below w.heap.size w W
  gb1 : w.heap.size < gb
  cells : ∀ k (hk : k < t.size), W.cell? ⟨gb, k, none⟩ = some (.int .u8 t[k].toNat)
  gb2 : gb < W.heap.size
  own : Kit.Owns W (gb + 1) 5 v9 l
end Go.Proofs.Ythfjkhmedpilnaa
