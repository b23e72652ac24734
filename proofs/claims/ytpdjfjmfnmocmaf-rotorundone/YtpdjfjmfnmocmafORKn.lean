/-
  Contracts of the document's Spelt, Known and Mirror (chapter 8).
-/
import Derived.Test.YtpdjfjmfnmocmafOMa
namespace Go.Proofs.Ytpdjfjmfnmocmaf
open Go.RowKit PK Vg

theorem o_decode (s : ByteArray) (pos : Nat) (hp : pos < s.size) (hl : Ls s.data.toList) : Utf8.decode s pos = ((s.data.toList.getD pos 0).toNat, 1) := by
  have hp' : pos < s.data.toList.length := by rw [← Pl.size_len]; exact hp
  rw [Pl.decode_eq, List.drop_eq_getElem_cons hp']
  have hm : s.data.toList[pos] ∈ s.data.toList := List.getElem_mem _
  have := hl _ hm
  rw [Pl.decL_low _ _ (by omega)]
  simp [List.getD, List.getElem?_eq_getElem hp']
/-- What a text of letters spells. -/
def spl (l : List UInt8) (i : Nat) : Int := if i < l.length then ((num (l.getD i 0) : Nat) : Int) else 0
structure SpAt (w W : World) (s : ByteArray) (pos : Nat) (f : Nat → Int) : Prop where
  r : RowAt W w.heap.size 25 (ints 26 fun _ => 0)
  o : RowAt W (w.heap.size + 1) 25 (ints 26 f)
  it : W.heap[w.heap.size + 1 + 1]? = some (.stringIter s pos)
  below : Below w.heap.size w W
def miB : List UInt8 := [89, 82, 85, 72, 81, 83, 76, 68, 80, 88, 78, 71, 79, 75, 77, 73, 69, 66, 70, 90, 67, 87, 86, 74, 65, 84]
def miC : List UInt8 := [70, 86, 80, 74, 73, 65, 79, 89, 69, 68, 82, 90, 88, 87, 71, 67, 84, 75, 85, 81, 83, 66, 78, 77, 72, 76]
/-- What Mirror says. -/
def miP (name : List UInt8) : Nat → Int := if name = [66] then spl miB else if name = [67] then spl miC else fun _ => 0
def miE (name : List UInt8) : Int := if name = [66] ∨ name = [67] then 0 else 7
theorem ls_dec {l : List UInt8} (h : (l.all fun c => decide (65 ≤ c.toNat ∧ c.toNat ≤ 90)) = true) : Ls l := fun c hc => by
  have := List.all_eq_true.1 h c hc
  simpa using this
theorem name_eq (A : List UInt8) (t : ByteArray) : (t.toList == A) = decide (t.data.toList = A) := by
  rw [ba_toList]
  by_cases h : t.data.toList = A
  · rw [decide_eq_true h, h]; simp
  · rw [decide_eq_false h]; exact beq_false_of_ne h
end Go.Proofs.Ytpdjfjmfnmocmaf
