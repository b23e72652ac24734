/-
  Several texts, joined: OPlug, LOPlg.
-/
import Derived.Test.YtibkcgjofcfoaaaJn5
/-
  Contract of the law's plugged; a store into the midst of a machine.
-/
namespace Go.Proofs.Ytibkcgjofcfoaaa
open Go.RowKit PK Vg

def setMany (c : Array Value) : Nat → List Value → Array Value
  | _, [] => c
  | o, v :: l => setMany (c.setIfInBounds o v) (o + 1) l
theorem row_setCells {T : TypeId} {g : Nat} : ∀ {l : List Value} {o : Nat} {w : World} {c : Array Value}, RowAt w g T c → RowAt (w.setCells g o l) g T (setMany c o l)
  | [], _, _, _, h => h
  | v :: l, o, _, _, h => row_setCells (l := l) (h.set o v)
theorem setMany_size : ∀ (l : List Value) (o : Nat) (c : Array Value), (setMany c o l).size = c.size
  | [], _, _ => rfl
  | v :: l, o, c => by show (setMany (c.setIfInBounds o v) (o + 1) l).size = _; rw [setMany_size]; simp
theorem setMany_get : ∀ (l : List Value) (o : Nat) (c : Array Value) (i : Nat), o + l.length ≤ c.size → (setMany c o l)[i]? = if o ≤ i ∧ i < o + l.length then l[i - o]? else c[i]?
  | [], o, c, i, _ => by show c[i]? = _; rw [if_neg (by rintro ⟨h1, h2⟩; simp at h2; omega)]
  | v :: l, o, c, i, h => by
    show (setMany (c.setIfInBounds o v) (o + 1) l)[i]? = _
    have h' : o + 1 + l.length ≤ c.size := by simp at h; omega
    rw [setMany_get l (o + 1) (c.setIfInBounds o v) i (by simpa using h')]
    by_cases e : i = o
    · subst e
      rw [if_neg (by omega), if_pos ⟨by omega, by simp⟩, Nat.sub_self]
      have hi : i < c.size := by simp at h; omega
      simp [hi]
    · by_cases e2 : o + 1 ≤ i ∧ i < o + 1 + l.length
      · rw [if_pos e2, if_pos ⟨by omega, by simp; omega⟩]
        rw [show i - o = (i - (o + 1)) + 1 by omega]
        simp
      · rw [if_neg e2, if_neg (by simp; omega), Array.getElem?_setIfInBounds_ne (by omega)]
theorem mac_plugs (a b c : Value) (rf pl pl2 : Nat → Int) : setMany (mac a b c rf pl) 29 (ints 26 pl2).toList = mac a b c rf pl2 := by
  apply Array.ext_getElem?
  intro i
  have hl : (ints 26 pl2).toList.length = 26 := by rw [Array.length_toList, ints_size]
  rw [setMany_get _ _ _ _ (by rw [hl, mac_size]; decide), hl]
  by_cases h : 29 ≤ i ∧ i < 29 + 26
  · rw [if_pos h, Array.getElem?_toList, ints_get _ (by omega)]
    obtain ⟨j, rfl⟩ : ∃ j, i = 29 + j := ⟨i - 29, by omega⟩
    rw [mac_pl _ _ _ _ _ (by omega), show 29 + j - 29 = j by omega]
  · rw [if_neg h]
    by_cases h2 : i < 29
    · have key : ∀ q : Nat → Int, (mac a b c rf q)[i]? = (#[a, b, c] ++ ints 26 rf)[i]? := fun q => by
        unfold mac
        rw [Array.getElem?_append, if_pos (by simp [ints_size]; omega)]
      rw [key, key]
    · rw [Array.getElem?_eq_none (by rw [mac_size]; omega), Array.getElem?_eq_none (by rw [mac_size]; omega)]
theorem below_setCells {B g : Nat} (hg : B ≤ g) : ∀ {l : List Value} {o : Nat} {w W : World}, Below B w W → Below B w (W.setCells g o l)
  | [], _, _, _, h => h
  | v :: l, o, _, _, h => below_setCells hg (l := l) (h.setCell (p := ⟨g, o, none⟩) hg v)
theorem row_setCells_other {T : TypeId} {g q : Nat} (hne : q ≠ g) : ∀ {l : List Value} {o : Nat} {w : World} {c : Array Value}, RowAt w q T c → RowAt (w.setCells g o l) q T c
  | [], _, _, _, h => h
  | v :: l, o, _, _, h => row_setCells_other hne (l := l) (h.setOther ⟨g, o, none⟩ v hne)
theorem there_row {w : World} {g : Nat} {T : TypeId} {c : Array Value} (h : RowAt w g T c) {o n : Nat} (hn : o + n ≤ c.size) : w.there g o n := fun j hj => by
  refine ⟨?_, h.frozen _⟩
  rw [h.cell (i := o + j) (v := c[o + j]'(by omega)) (by simp)]
  rfl
/-- What is held in plugged's loop. -/
structure PgAt (w W : World) (p : Nat → Nat) (gb : Nat) (t : ByteArray) (v9 : Value) (l : List UInt8) : Prop where
  row : RowAt W w.heap.size 25 (ints 26 (Pm.up p))
  below : Below w.heap.size w W
  gb1 : w.heap.size < gb
  cells : ∀ k (hk : k < t.size), W.cell? ⟨gb, k, none⟩ = some (.int .u8 t[k].toNat)
  gb2 : gb < W.heap.size
  own : Kit.Owns W (gb + 1) 5 v9 l
theorem plug_take (p : Nat → Nat) {l : List UInt8} {k : Nat} (hk : k < l.length) : Om.plug p (l.take (k + 1)) = Om.plug p (l.take k) ++ [ltr (p (num (l.getD k 0)))] := by
  unfold Om.plug
  rw [List.take_succ_eq_append_getElem hk, List.map_append, getD_some hk]
  rfl
end Go.Proofs.Ytibkcgjofcfoaaa

/-
  RotorPlugs, for any Write that writes what the document's writes.
-/
namespace Go.Proofs.Ytibkcgjofcfoaaa
open Go.RowKit PK Vg

theorem v_zero_mac : (Try.prog.info? 27).map (·.zero) = some (some (.agg (mac (.slice none 0 0) (.slice none 0 0) (.slice none 0 0) (fun _ => 0) (fun _ => 0)))) := by kernel_rfl
theorem mac_one {a b c : Value} {rf pl : Nat → Int} (ha : a.oneCell' = true) (hb : b.oneCell' = true) (hc : c.oneCell' = true) : (mac a b c rf pl).all (·.oneCell') = true := by
  unfold mac
  rw [Array.all_append, Array.all_append, ints_one, ints_one]
  simp [ha, hb, hc]
/-- A guarded load out of the midst of a block. -/
theorem wpList_load_arr_w {P : Program} {ops : Array Oper} {rest : List Oper} {op : Oper} {a : Act} {w : World} {Q : Exit → Act → World → Prop} (hw : Region.wanted op (yielded ops a.tmps) = true) (ty : TypeId) (x : Operand) (ho : op.op = .load ty x)
    (b o : Nat) (hx : a.eval x = .pointer (some ⟨b, o, none⟩)) (cs : Array Value) (d : TypeDesc) (hc : w.rangeAt b o cs.toList)
    (hu : P.underlying ty = some d) (hd : d.isRow = true) (hi : (P.info? ty).map (·.size) = some cs.size)
    (h : wpList P ops Q rest (a.put op.dst (.agg cs)) w) : wpList P ops Q (op :: rest) a w := by
  refine wpList_step fun K hK => ?_
  rw [if_pos hw]
  refine wp_load_mid ty x ho b o hx cs.toList d hc hu hd (by rw [Array.length_toList]; exact hi) ?_
  rw [Array.toArray_toList]
  exact hK _ _ h
/-- The machine, another one, and a fault. -/
structure PlS (w W : World) (a b c : Value) (rf pl pl2 : Nat → Int) (qf q : Nat) : Prop where
  mg : MgAt w W a b c rf pl
  n : RowAt W q 27 (mac a b c rf pl2)
  f : ∃ x y, RowAt W qf 31 #[x, y]
  ne : w.heap.size < q ∧ w.heap.size < qf ∧ q ≠ qf
section
variable {w W W' : World} {a b c : Value} {rf pl pl2 : Nat → Int} {qf q : Nat}
theorem PlS.step (h : PlS w W a b c rf pl pl2 qf q) (hb : Below W.heap.size W W') : PlS w W' a b c rf pl pl2 qf q := by
  obtain ⟨x, y, hf⟩ := h.f
  exact ⟨h.mg.step hb, h.n.below hb h.n.lt, ⟨x, y, hf.below hb hf.lt⟩, h.ne⟩
theorem PlS.drew (h : PlS w W a b c rf pl pl2 qf q) : PlS w W.drew a b c rf pl pl2 qf q := ⟨h.mg.drew, h.n, h.f, h.ne⟩
theorem PlS.row (h : PlS w W a b c rf pl pl2 qf q) (x y : Value) : PlS w (W.setRow qf #[x, y]) a b c rf pl pl2 qf q := by
  obtain ⟨x', y', hf⟩ := h.f
  have := h.ne
  exact ⟨h.mg.setRow _ (by omega) _, h.n.rowOther _ _ (by omega), ⟨x, y, hf.row _⟩, h.ne⟩
end
theorem gE_of {g : Gm} (h1 : 1 ≤ g.n ∧ g.n ≤ 4) (h2 : whE g g.n = 0) (h3 : g.rl = g.n ∧ ins g.rl g.ri = true) (h4 : g.sl = g.n ∧ ins g.sl g.st = true) (h5 : Pm.wrong g.rf = 0 ∧ undo true g.rf = true) (h6 : Pm.wrong g.pl = 0) (h7 : undo false g.pl = true) : gE g = 0 := by
  unfold gE
  rw [if_neg (by omega), if_neg (fun e => e h2), if_neg (fun e => e h3.1), if_neg (by rw [h3.2]; decide), if_neg (fun e => e h4.1), if_neg (by rw [h4.2]; decide), if_neg (fun e => e h5.1), if_neg (by rw [h5.2]; decide), if_neg (fun e => e h6), if_neg (by rw [h7]; decide)]
/-- The machine without plugs. -/
def bare (g : Gm) : Gm := { g with pl := Pm.up fun i => i }
theorem whE_bare (g : Gm) : ∀ n, whE (bare g) n = whE g n
  | 0 => rfl
  | n + 1 => by
    show (if whE (bare g) n ≠ 0 then whE (bare g) n else if Pm.wrong (g.wi n) ≠ 0 then Pm.wrong (g.wi n) else if ins (g.nl n) (g.no n) = true then 0 else 3) = (if whE g n ≠ 0 then whE g n else if Pm.wrong (g.wi n) ≠ 0 then Pm.wrong (g.wi n) else if ins (g.nl n) (g.no n) = true then 0 else 3)
    rw [whE_bare g n]
theorem gE_bare {g : Gm} (h : gE g = 0) : gE (bare g) = 0 := by
  obtain ⟨h1, h2, h3, h4, h5, _, _⟩ := gE_zero h
  refine gE_of h1 (by rw [whE_bare]; exact h2) h3 h4 h5 (Pm.wrong_up _ Pm.IsPerm.id) ((undo_iff _ _).2 fun i hi => ⟨rfl, fun e => by cases e⟩)
theorem ma_bare (g : Gm) : maOf (bare g) = Om.unplugged (maOf g) := rfl
theorem one_nums {W : World} {v : Value} {n : Nat} {f : Nat → Int} (h : NumsAt W v n f) : v.oneCell' = true := by
  obtain ⟨a, c, e, _⟩ := h
  rw [e]
  rfl
theorem one_wheels {W : World} {v : Value} {n : Nat} {wi : Nat → Nat → Int} {nl : Nat → Nat} {no : Nat → Nat → Int} (h : WheelsAt W v n wi nl no) : v.oneCell' = true := by
  obtain ⟨a, c, R, e, _⟩ := h
  rw [e]
  rfl
end Go.Proofs.Ytibkcgjofcfoaaa
