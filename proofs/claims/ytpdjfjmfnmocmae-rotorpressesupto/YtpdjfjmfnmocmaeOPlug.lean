/-
  Contract of the law's plugged; a store into the midst of a machine.
-/
import Derived.Test.YtpdjfjmfnmocmaeLOUnd
import Derived.Test.YtpdjfjmfnmocmaeOSame
namespace Go.Proofs.Ytpdjfjmfnmocmae
open Go.RowKit PK Vg

def setMany (c : Array Value) : Nat → List Value → Array Value
  | _, [] => c
  | o, v :: l => setMany (c.setIfInBounds o v) (o + 1) l
theorem row_setCells {T : TypeId} {g : Nat} : ∀ {l : List Value} {o : Nat} {w : World} {c : Array Value}, RowAt w g T c → RowAt (w.setCells g o l) g T (setMany c o l)
  | [], _, _, _, h => h
  | v :: l, o, _, _, h => row_setCells (l := l) (h.set o v)
theorem setMany_size : ∀ (l : List Value) (o : Nat) (c : Array Value), (setMany c o l).size = c.size
  | [], _, _ => rfl
  | v :: l, o, c => by show (setMany (c.setIfInBounds o v) (o + 1) l).size = _; rw [setMany_size]; simp
theorem setMany_get : ∀ (l : List Value) (o : Nat) (c : Array Value) (i : Nat), o + l.length ≤ c.size → (setMany c o l)[i]? = if o ≤ i ∧ i < o + l.length then l[i - o]? else c[i]?
  | [], o, c, i, _ => by show c[i]? = _; rw [if_neg (by rintro ⟨h1, h2⟩; simp at h2; omega)]
  | v :: l, o, c, i, h => by
    show (setMany (c.setIfInBounds o v) (o + 1) l)[i]? = _
    have h' : o + 1 + l.length ≤ c.size := by simp at h; omega
    rw [setMany_get l (o + 1) (c.setIfInBounds o v) i (by simpa using h')]
    by_cases e : i = o
    · subst e
      rw [if_neg (by omega), if_pos ⟨by omega, by simp⟩, Nat.sub_self]
      have hi : i < c.size := by simp at h; omega
      simp [hi]
    · by_cases e2 : o + 1 ≤ i ∧ i < o + 1 + l.length
      · rw [if_pos e2, if_pos ⟨by omega, by simp; omega⟩]
        rw [show i - o = (i - (o + 1)) + 1 by omega]
        simp
      · rw [if_neg e2, if_neg (by simp; omega), Array.getElem?_setIfInBounds_ne (by omega)]
theorem mac_plugs (a b c : Value) (rf pl pl2 : Nat → Int) : setMany (mac a b c rf pl) 29 (ints 26 pl2).toList = mac a b c rf pl2 := by
  apply Array.ext_getElem?
  intro i
  have hl : (ints 26 pl2).toList.length = 26 := by rw [Array.length_toList, ints_size]
  rw [setMany_get _ _ _ _ (by rw [hl, mac_size]; decide), hl]
  by_cases h : 29 ≤ i ∧ i < 29 + 26
  · rw [if_pos h, Array.getElem?_toList, ints_get _ (by omega)]
    obtain ⟨j, rfl⟩ : ∃ j, i = 29 + j := ⟨i - 29, by omega⟩
    rw [mac_pl _ _ _ _ _ (by omega), show 29 + j - 29 = j by omega]
  · rw [if_neg h]
    by_cases h2 : i < 29
    · have key : ∀ q : Nat → Int, (mac a b c rf q)[i]? = (#[a, b, c] ++ ints 26 rf)[i]? := fun q => by
        unfold mac
        rw [Array.getElem?_append, if_pos (by simp [ints_size]; omega)]
      rw [key, key]
    · rw [Array.getElem?_eq_none (by rw [mac_size]; omega), Array.getElem?_eq_none (by rw [mac_size]; omega)]
theorem below_setCells {B g : Nat} (hg : B ≤ g) : ∀ {l : List Value} {o : Nat} {w W : World}, Below B w W → Below B w (W.setCells g o l)
  | [], _, _, _, h => h
  | v :: l, o, _, _, h => below_setCells hg (l := l) (h.setCell (p := ⟨g, o, none⟩) hg v)
theorem row_setCells_other {T : TypeId} {g q : Nat} (hne : q ≠ g) : ∀ {l : List Value} {o : Nat} {w : World} {c : Array Value}, RowAt w q T c → RowAt (w.setCells g o l) q T c
  | [], _, _, _, h => h
  | v :: l, o, _, _, h => row_setCells_other hne (l := l) (h.setOther ⟨g, o, none⟩ v hne)
theorem there_row {w : World} {g : Nat} {T : TypeId} {c : Array Value} (h : RowAt w g T c) {o n : Nat} (hn : o + n ≤ c.size) : w.there g o n := fun j hj => by
  refine ⟨?_, h.frozen _⟩
  rw [h.cell (i := o + j) (v := c[o + j]'(by omega)) (by simp)]
  rfl
/-- What is held in plugged's loop. -/
structure PgAt (w W : World) (p : Nat → Nat) (gb : Nat) (t : ByteArray) (v9 : Value) (l : List UInt8) : Prop where
  row : RowAt W w.heap.size 50 (ints 26 (Pm.up p))
  below : Below w.heap.size w W
  gb1 : w.heap.size < gb
  cells : ∀ k (hk : k < t.size), W.cell? ⟨gb, k, none⟩ = some (.int .u8 t[k].toNat)
  gb2 : gb < W.heap.size
  own : Kit.Owns W (gb + 1) 5 v9 l
theorem plug_take (p : Nat → Nat) {l : List UInt8} {k : Nat} (hk : k < l.length) : Om.plug p (l.take (k + 1)) = Om.plug p (l.take k) ++ [ltr (p (num (l.getD k 0)))] := by
  unfold Om.plug
  rw [List.take_succ_eq_append_getElem hk, List.map_append, getD_some hk]
  rfl
end Go.Proofs.Ytpdjfjmfnmocmae
