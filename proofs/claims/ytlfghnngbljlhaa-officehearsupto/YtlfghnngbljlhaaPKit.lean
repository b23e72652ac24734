/-
  Laws of no program: arrays of a fixed length as functions of their places, whole blocks, and what becomes of them.
-/
import Derived.WalkKit
import Derived.Below
import Derived.Deep.MidRow
import Derived.Deep.WholeRow
namespace Go.Proofs.Ytlfghnngbljlhaa.PK
open Go.RowKit

theorem ret_int {k : IntKind} {a b : Int} (h : a = b) : Ending.returned (.int k a) = .returned (.int k b) := by rw [h]
theorem ret_bool {a b : Bool} (h : a = b) : Ending.returned (.bool a) = .returned (.bool b) := by rw [h]
def upd {α : Type} (f : Nat → α) (i : Nat) (v : α) : Nat → α := fun j => if j = i then v else f j
@[simp] theorem upd_same {α : Type} (f : Nat → α) (i : Nat) (v : α) : upd f i v i = v := by simp [upd]
theorem upd_other {α : Type} (f : Nat → α) {i j : Nat} (v : α) (h : j ≠ i) : upd f i v j = f j := by simp [upd, h]
def tab (n : Nat) (g : Nat → Value) : Array Value := ((List.range n).map g).toArray
theorem tab_size (n : Nat) (g : Nat → Value) : (tab n g).size = n := by simp [tab]
theorem tab_get {n : Nat} (g : Nat → Value) {i : Nat} (h : i < n) : (tab n g)[i]? = some (g i) := by simp [tab, h]
theorem tab_ext {n : Nat} {g g' : Nat → Value} (h : ∀ i, i < n → g i = g' i) : tab n g = tab n g' := by
  unfold tab
  congr 1
  exact List.map_congr_left fun i hi => h i (by simpa using hi)
theorem tab_set (n : Nat) (g : Nat → Value) (i : Nat) (v : Value) : (tab n g).setIfInBounds i v = tab n (upd g i v) := by
  apply Array.ext_getElem?
  intro j
  rw [Array.getElem?_setIfInBounds]
  by_cases hj : j < n
  · rw [tab_get _ hj, tab_get _ hj, tab_size]
    by_cases e : i = j
    · subst e; simp [hj]
    · simp [e, upd, Ne.symm e]
  · have h1 : (tab n g)[j]? = none := by simp [tab]; omega
    have h2 : (tab n (upd g i v))[j]? = none := by simp [tab]; omega
    rw [h1, h2, tab_size]
    by_cases e : i = j
    · subst e; simp [hj]
    · simp [e]
def ints (n : Nat) (f : Nat → Int) : Array Value := tab n fun i => .int .i64 (f i)
def bools (n : Nat) (f : Nat → Bool) : Array Value := tab n fun i => .bool (f i)
theorem ints_size (n : Nat) (f : Nat → Int) : (ints n f).size = n := tab_size _ _
theorem bools_size (n : Nat) (f : Nat → Bool) : (bools n f).size = n := tab_size _ _
theorem ints_get {n : Nat} (f : Nat → Int) {i : Nat} (h : i < n) : (ints n f)[i]? = some (.int .i64 (f i)) := tab_get _ h
theorem bools_get {n : Nat} (f : Nat → Bool) {i : Nat} (h : i < n) : (bools n f)[i]? = some (.bool (f i)) := tab_get _ h
theorem ints_ext {n : Nat} {f g : Nat → Int} (h : ∀ i, i < n → f i = g i) : ints n f = ints n g := tab_ext fun i hi => by rw [h i hi]
theorem bools_ext {n : Nat} {f g : Nat → Bool} (h : ∀ i, i < n → f i = g i) : bools n f = bools n g := tab_ext fun i hi => by rw [h i hi]
theorem ints_set (n : Nat) (f : Nat → Int) (i : Nat) (v : Int) : (ints n f).setIfInBounds i (.int .i64 v) = ints n (upd f i v) := by
  unfold ints
  rw [tab_set]
  exact tab_ext fun j _ => by by_cases e : j = i <;> simp [upd, e]
theorem bools_set (n : Nat) (f : Nat → Bool) (i : Nat) (v : Bool) : (bools n f).setIfInBounds i (.bool v) = bools n (upd f i v) := by
  unfold bools
  rw [tab_set]
  exact tab_ext fun j _ => by by_cases e : j = i <;> simp [upd, e]
theorem ints_one (n : Nat) (f : Nat → Int) : (ints n f).all (·.oneCell') = true := by
  rw [Array.all_eq_true_iff_forall_mem]
  intro v hv
  simp [ints, tab] at hv
  obtain ⟨i, _, rfl⟩ := hv
  rfl
theorem bools_one (n : Nat) (f : Nat → Bool) : (bools n f).all (·.oneCell') = true := by
  rw [Array.all_eq_true_iff_forall_mem]
  intro v hv
  simp [bools, tab] at hv
  obtain ⟨i, _, rfl⟩ := hv
  rfl
theorem ints_inj {n : Nat} {f g : Nat → Int} (h : ints n f = ints n g) : ∀ i, i < n → f i = g i := fun i hi => by
  have h1 := ints_get f hi
  rw [h, ints_get g hi] at h1
  simpa using h1.symm
/-- 26 numbers, whatever they are, are a function's. -/
theorem ints_of_list (l : List Int) : (l.map (Value.int .i64)).toArray = ints l.length (fun i => l.getD i 0) := by
  unfold ints tab
  congr 1
  apply List.ext_getElem
  · simp
  · intro i h1 h2
    simp at h1
    simp [List.getD, h1]
theorem zero26 : (#[.int .i64 0, .int .i64 0, .int .i64 0, .int .i64 0, .int .i64 0, .int .i64 0, .int .i64 0, .int .i64 0, .int .i64 0, .int .i64 0, .int .i64 0, .int .i64 0, .int .i64 0, .int .i64 0, .int .i64 0, .int .i64 0, .int .i64 0, .int .i64 0, .int .i64 0, .int .i64 0, .int .i64 0, .int .i64 0, .int .i64 0, .int .i64 0, .int .i64 0, .int .i64 0] : Array Value) = ints 26 fun _ => 0 := rfl
theorem zero27 : (#[.int .i64 0, .int .i64 0, .int .i64 0, .int .i64 0, .int .i64 0, .int .i64 0, .int .i64 0, .int .i64 0, .int .i64 0, .int .i64 0, .int .i64 0, .int .i64 0, .int .i64 0, .int .i64 0, .int .i64 0, .int .i64 0, .int .i64 0, .int .i64 0, .int .i64 0, .int .i64 0, .int .i64 0, .int .i64 0, .int .i64 0, .int .i64 0, .int .i64 0, .int .i64 0, .int .i64 0] : Array Value) = ints 27 fun _ => 0 := rfl
theorem none26 : (#[.bool false, .bool false, .bool false, .bool false, .bool false, .bool false, .bool false, .bool false, .bool false, .bool false, .bool false, .bool false, .bool false, .bool false, .bool false, .bool false, .bool false, .bool false, .bool false, .bool false, .bool false, .bool false, .bool false, .bool false, .bool false, .bool false] : Array Value) = bools 26 fun _ => false := rfl

/-- 'p[k]' of an array's value whose elements are numbers. -/
theorem run_index_ints {P : Program} (t e : TypeId) (n : Nat) (hu : P.underlying t = some (.array n e)) (he : P.underlying e = some (.int .i64)) (hs : (P.info? e).map (·.size) = some 1) (f : Nat → Int) (k : Nat) (hk : k < n) (w : World) :
    (Instr.index t (.agg (ints n f)) (.int .i64 (k : Int))).run P w = .ok (.int .i64 (f k)) w := by
  cases hq : P.info? e with
  | none => simp [hq] at hs
  | some i =>
    have h1 : i.size = 1 := by simpa [hq] using hs
    have h2 : ((k : Int) < (n : Int)) := by omega
    simp [Instr.index, asIntOf, Sem.run_bind, run_underlying hu, part, isAgg, run_underlying he, sizeOf, typeInfo, hq, h1, hk, ints_get f hk]

/-- Block b holds the cells c, of type T, and none of them is barred from being written. -/
def RowAt (w : World) (b : Nat) (T : TypeId) (c : Array Value) : Prop := w.heap[b]? = some (.cells c T (0, 0))
theorem RowAt.new (w : World) (T : TypeId) (c : Array Value) : RowAt (w.alloc (.cells c T)) w.heap.size T c := heap_alloc_new w _
theorem RowAt.lt {w : World} {b : Nat} {T : TypeId} {c : Array Value} (h : RowAt w b T c) : b < w.heap.size := (Array.getElem?_eq_some_iff.1 h).1
theorem RowAt.alloc {w : World} {b : Nat} {T : TypeId} {c : Array Value} (h : RowAt w b T c) (o : Obj) : RowAt (w.alloc o) b T c := (Below.heap_alloc w o b h.lt).trans h
theorem RowAt.cell {w : World} {b : Nat} {T : TypeId} {c : Array Value} (h : RowAt w b T c) {i : Nat} {v : Value} (hi : c[i]? = some v) : w.cell? ⟨b, i, none⟩ = some v := (cell_of_row w b i c T (0, 0) h).trans hi
theorem RowAt.frozen {w : World} {b : Nat} {T : TypeId} {c : Array Value} (h : RowAt w b T c) (i : Nat) : w.frozen? ⟨b, i, none⟩ = false := frozen_of_row w b i c T h
theorem RowAt.set {w : World} {b : Nat} {T : TypeId} {c : Array Value} (h : RowAt w b T c) (i : Nat) (v : Value) : RowAt (w.setCell ⟨b, i, none⟩ v) b T (c.setIfInBounds i v) := heap_setCell_same w b i c T v h
theorem RowAt.setOther {w : World} {b : Nat} {T : TypeId} {c : Array Value} (h : RowAt w b T c) (a : Addr) (v : Value) (hb : b ≠ a.block) : RowAt (w.setCell a v) b T c := (heap_setCell_other w a b v hb).trans h
theorem RowAt.below {w w' : World} {b B : Nat} {T : TypeId} {c : Array Value} (h : RowAt w b T c) (hb : Below B w w') (hB : b < B) : RowAt w' b T c := (hb.block b hB).trans h
theorem RowAt.drew {w : World} {b : Nat} {T : TypeId} {c : Array Value} (h : RowAt w b T c) : RowAt w.drew b T c := h
theorem RowAt.row {w : World} {b : Nat} {T : TypeId} {c : Array Value} (h : RowAt w b T c) (c' : Array Value) : RowAt (w.setRow b c') b T c' := setRow_heap w b c c' T (0, 0) h
theorem RowAt.rowOther {w : World} {b : Nat} {T : TypeId} {c : Array Value} (h : RowAt w b T c) (g : Nat) (c' : Array Value) (hb : b ≠ g) : RowAt (w.setRow g c') b T c := (setRow_other w g b c' hb).trans h
theorem RowAt.range {w : World} {b : Nat} {T : TypeId} {c : Array Value} (h : RowAt w b T c) : w.rangeAt b 0 c.toList := fun j v hv => by
  have h1 : (⟨b, 0 + j, none⟩ : Addr) = ⟨b, j, none⟩ := by simp
  rw [h1]
  exact h.cell (by simpa using hv)
theorem Below.setRow {B : Nat} {a w : World} (h : Below B a w) (g : Nat) (hg : B ≤ g) (c : Array Value) : Below B a (w.setRow g c) :=
  ⟨h.os, h.tape, h.output, by have := h.size; simpa using this, fun k hk => (setRow_other w g k c (by omega)).trans (h.block k hk)⟩
theorem Below.rangeAt {B : Nat} {w w' : World} (h : Below B w w') {b o : Nat} {cs : List Value} (hc : w.rangeAt b o cs) (hb : b < B) : w'.rangeAt b o cs := fun j v hv => (h.cell (p := ⟨b, o + j, none⟩) hb).trans (hc j v hv)
end Go.Proofs.Ytlfghnngbljlhaa.PK
