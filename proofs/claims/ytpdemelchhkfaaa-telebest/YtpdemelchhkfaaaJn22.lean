/-
  Several texts, joined: PKit, HKit.
-/
import Derived.WalkKit
import Derived.Below
import Derived.Deep.MidRow
import Derived.Deep.WholeRow
/-
  Laws of no program: arrays of a fixed length as functions of their places, whole blocks, and what becomes of them.
-/
namespace Go.Proofs.Ytpdemelchhkfaaa.PK
open Go.RowKit

theorem ret_int {k : IntKind} {a b : Int} (h : a = b) : Ending.returned (.int k a) = .returned (.int k b) := by rw [h]
theorem ret_bool {a b : Bool} (h : a = b) : Ending.returned (.bool a) = .returned (.bool b) := by rw [h]
def upd {α : Type} (f : Nat → α) (i : Nat) (v : α) : Nat → α := fun j => if j = i then v else f j
@[simp] theorem upd_same {α : Type} (f : Nat → α) (i : Nat) (v : α) : upd f i v i = v := by simp [upd]
theorem upd_other {α : Type} (f : Nat → α) {i j : Nat} (v : α) (h : j ≠ i) : upd f i v j = f j := by simp [upd, h]
def tab (n : Nat) (g : Nat → Value) : Array Value := ((List.range n).map g).toArray
theorem tab_size (n : Nat) (g : Nat → Value) : (tab n g).size = n := by simp [tab]
theorem tab_get {n : Nat} (g : Nat → Value) {i : Nat} (h : i < n) : (tab n g)[i]? = some (g i) := by simp [tab, h]
theorem tab_ext {n : Nat} {g g' : Nat → Value} (h : ∀ i, i < n → g i = g' i) : tab n g = tab n g' := by
  unfold tab
  congr 1
  exact List.map_congr_left fun i hi => h i (by simpa using hi)
theorem tab_set (n : Nat) (g : Nat → Value) (i : Nat) (v : Value) : (tab n g).setIfInBounds i v = tab n (upd g i v) := by
  apply Array.ext_getElem?
  intro j
  rw [Array.getElem?_setIfInBounds]
  by_cases hj : j < n
  · rw [tab_get _ hj, tab_get _ hj, tab_size]
    by_cases e : i = j
    · subst e; simp [hj]
    · simp [e, upd, Ne.symm e]
  · have h1 : (tab n g)[j]? = none := by simp [tab]; omega
    have h2 : (tab n (upd g i v))[j]? = none := by simp [tab]; omega
    rw [h1, h2, tab_size]
    by_cases e : i = j
    · subst e; simp [hj]
    · simp [e]
def ints (n : Nat) (f : Nat → Int) : Array Value := tab n fun i => .int .i64 (f i)
def bools (n : Nat) (f : Nat → Bool) : Array Value := tab n fun i => .bool (f i)
theorem ints_size (n : Nat) (f : Nat → Int) : (ints n f).size = n := tab_size _ _
theorem bools_size (n : Nat) (f : Nat → Bool) : (bools n f).size = n := tab_size _ _
theorem ints_get {n : Nat} (f : Nat → Int) {i : Nat} (h : i < n) : (ints n f)[i]? = some (.int .i64 (f i)) := tab_get _ h
theorem bools_get {n : Nat} (f : Nat → Bool) {i : Nat} (h : i < n) : (bools n f)[i]? = some (.bool (f i)) := tab_get _ h
theorem ints_ext {n : Nat} {f g : Nat → Int} (h : ∀ i, i < n → f i = g i) : ints n f = ints n g := tab_ext fun i hi => by rw [h i hi]
theorem bools_ext {n : Nat} {f g : Nat → Bool} (h : ∀ i, i < n → f i = g i) : bools n f = bools n g := tab_ext fun i hi => by rw [h i hi]
theorem ints_set (n : Nat) (f : Nat → Int) (i : Nat) (v : Int) : (ints n f).setIfInBounds i (.int .i64 v) = ints n (upd f i v) := by
  unfold ints
  rw [tab_set]
  exact tab_ext fun j _ => by by_cases e : j = i <;> simp [upd, e]
theorem bools_set (n : Nat) (f : Nat → Bool) (i : Nat) (v : Bool) : (bools n f).setIfInBounds i (.bool v) = bools n (upd f i v) := by
  unfold bools
  rw [tab_set]
  exact tab_ext fun j _ => by by_cases e : j = i <;> simp [upd, e]
theorem ints_one (n : Nat) (f : Nat → Int) : (ints n f).all (·.oneCell') = true := by
  rw [Array.all_eq_true_iff_forall_mem]
  intro v hv
  simp [ints, tab] at hv
  obtain ⟨i, _, rfl⟩ := hv
  rfl
theorem bools_one (n : Nat) (f : Nat → Bool) : (bools n f).all (·.oneCell') = true := by
  rw [Array.all_eq_true_iff_forall_mem]
  intro v hv
  simp [bools, tab] at hv
  obtain ⟨i, _, rfl⟩ := hv
  rfl
theorem ints_inj {n : Nat} {f g : Nat → Int} (h : ints n f = ints n g) : ∀ i, i < n → f i = g i := fun i hi => by
  have h1 := ints_get f hi
  rw [h, ints_get g hi] at h1
  simpa using h1.symm
/-- 26 numbers, whatever they are, are a function's. -/
theorem ints_of_list (l : List Int) : (l.map (Value.int .i64)).toArray = ints l.length (fun i => l.getD i 0) := by
  unfold ints tab
  congr 1
  apply List.ext_getElem
  · simp
  · intro i h1 h2
    simp at h1
    simp [List.getD, h1]
theorem zero26 : (#[.int .i64 0, .int .i64 0, .int .i64 0, .int .i64 0, .int .i64 0, .int .i64 0, .int .i64 0, .int .i64 0, .int .i64 0, .int .i64 0, .int .i64 0, .int .i64 0, .int .i64 0, .int .i64 0, .int .i64 0, .int .i64 0, .int .i64 0, .int .i64 0, .int .i64 0, .int .i64 0, .int .i64 0, .int .i64 0, .int .i64 0, .int .i64 0, .int .i64 0, .int .i64 0] : Array Value) = ints 26 fun _ => 0 := rfl
theorem zero27 : (#[.int .i64 0, .int .i64 0, .int .i64 0, .int .i64 0, .int .i64 0, .int .i64 0, .int .i64 0, .int .i64 0, .int .i64 0, .int .i64 0, .int .i64 0, .int .i64 0, .int .i64 0, .int .i64 0, .int .i64 0, .int .i64 0, .int .i64 0, .int .i64 0, .int .i64 0, .int .i64 0, .int .i64 0, .int .i64 0, .int .i64 0, .int .i64 0, .int .i64 0, .int .i64 0, .int .i64 0] : Array Value) = ints 27 fun _ => 0 := rfl
theorem none26 : (#[.bool false, .bool false, .bool false, .bool false, .bool false, .bool false, .bool false, .bool false, .bool false, .bool false, .bool false, .bool false, .bool false, .bool false, .bool false, .bool false, .bool false, .bool false, .bool false, .bool false, .bool false, .bool false, .bool false, .bool false, .bool false, .bool false] : Array Value) = bools 26 fun _ => false := rfl

/-- 'p[k]' of an array's value whose elements are numbers. -/
theorem run_index_ints {P : Program} (t e : TypeId) (n : Nat) (hu : P.underlying t = some (.array n e)) (he : P.underlying e = some (.int .i64)) (hs : (P.info? e).map (·.size) = some 1) (f : Nat → Int) (k : Nat) (hk : k < n) (w : World) :
    (Instr.index t (.agg (ints n f)) (.int .i64 (k : Int))).run P w = .ok (.int .i64 (f k)) w := by
  cases hq : P.info? e with
  | none => simp [hq] at hs
  | some i =>
    have h1 : i.size = 1 := by simpa [hq] using hs
    have h2 : ((k : Int) < (n : Int)) := by omega
    simp [Instr.index, asIntOf, Sem.run_bind, run_underlying hu, part, isAgg, run_underlying he, sizeOf, typeInfo, hq, h1, hk, ints_get f hk]

/-- Block b holds the cells c, of type T, and none of them is barred from being written. -/
def RowAt (w : World) (b : Nat) (T : TypeId) (c : Array Value) : Prop := w.heap[b]? = some (.cells c T (0, 0))
theorem RowAt.new (w : World) (T : TypeId) (c : Array Value) : RowAt (w.alloc (.cells c T)) w.heap.size T c := heap_alloc_new w _
theorem RowAt.lt {w : World} {b : Nat} {T : TypeId} {c : Array Value} (h : RowAt w b T c) : b < w.heap.size := (Array.getElem?_eq_some_iff.1 h).1
theorem RowAt.alloc {w : World} {b : Nat} {T : TypeId} {c : Array Value} (h : RowAt w b T c) (o : Obj) : RowAt (w.alloc o) b T c := (Below.heap_alloc w o b h.lt).trans h
theorem RowAt.cell {w : World} {b : Nat} {T : TypeId} {c : Array Value} (h : RowAt w b T c) {i : Nat} {v : Value} (hi : c[i]? = some v) : w.cell? ⟨b, i, none⟩ = some v := (cell_of_row w b i c T (0, 0) h).trans hi
theorem RowAt.frozen {w : World} {b : Nat} {T : TypeId} {c : Array Value} (h : RowAt w b T c) (i : Nat) : w.frozen? ⟨b, i, none⟩ = false := frozen_of_row w b i c T h
theorem RowAt.set {w : World} {b : Nat} {T : TypeId} {c : Array Value} (h : RowAt w b T c) (i : Nat) (v : Value) : RowAt (w.setCell ⟨b, i, none⟩ v) b T (c.setIfInBounds i v) := heap_setCell_same w b i c T v h
theorem RowAt.setOther {w : World} {b : Nat} {T : TypeId} {c : Array Value} (h : RowAt w b T c) (a : Addr) (v : Value) (hb : b ≠ a.block) : RowAt (w.setCell a v) b T c := (heap_setCell_other w a b v hb).trans h
theorem RowAt.below {w w' : World} {b B : Nat} {T : TypeId} {c : Array Value} (h : RowAt w b T c) (hb : Below B w w') (hB : b < B) : RowAt w' b T c := (hb.block b hB).trans h
theorem RowAt.drew {w : World} {b : Nat} {T : TypeId} {c : Array Value} (h : RowAt w b T c) : RowAt w.drew b T c := h
theorem RowAt.row {w : World} {b : Nat} {T : TypeId} {c : Array Value} (h : RowAt w b T c) (c' : Array Value) : RowAt (w.setRow b c') b T c' := setRow_heap w b c c' T (0, 0) h
theorem RowAt.rowOther {w : World} {b : Nat} {T : TypeId} {c : Array Value} (h : RowAt w b T c) (g : Nat) (c' : Array Value) (hb : b ≠ g) : RowAt (w.setRow g c') b T c := (setRow_other w g b c' hb).trans h
theorem RowAt.range {w : World} {b : Nat} {T : TypeId} {c : Array Value} (h : RowAt w b T c) : w.rangeAt b 0 c.toList := fun j v hv => by
  have h1 : (⟨b, 0 + j, none⟩ : Addr) = ⟨b, j, none⟩ := by simp
  rw [h1]
  exact h.cell (by simpa using hv)
theorem Below.setRow {B : Nat} {a w : World} (h : Below B a w) (g : Nat) (hg : B ≤ g) (c : Array Value) : Below B a (w.setRow g c) :=
  ⟨h.os, h.tape, h.output, by have := h.size; simpa using this, fun k hk => (setRow_other w g k c (by omega)).trans (h.block k hk)⟩
theorem Below.rangeAt {B : Nat} {w w' : World} (h : Below B w w') {b o : Nat} {cs : List Value} (hc : w.rangeAt b o cs) (hb : b < B) : w'.rangeAt b o cs := fun j v hv => (h.cell (p := ⟨b, o + j, none⟩) hb).trans (hc j v hv)
end Go.Proofs.Ytpdemelchhkfaaa.PK

/-
  Laws of no program: slices of numbers and of such slices, read in a world; what is wrong with a matrix.
-/
namespace Go.Proofs.Ytpdemelchhkfaaa.PK
open Go.RowKit

/-- v is a slice of n numbers: in w number c is f c. -/
def NumsAt (w : World) (v : Value) (n : Nat) (f : Nat → Int) : Prop :=
  ∃ (a : Option Addr) (cap : Nat), v = .slice a n cap ∧ n ≤ maxLen ∧ ∀ c, c < n → ∃ b o, a = some ⟨b, o, none⟩ ∧ w.cell? ⟨b, o + c, none⟩ = some (.int .i64 (f c))
/-- v is a slice of n slices of numbers: in w row r has L r of them, number c of it is Z r c. -/
def MatAt (w : World) (v : Value) (n : Nat) (L : Nat → Nat) (Z : Nat → Nat → Int) : Prop :=
  ∃ (a : Option Addr) (cap : Nat) (R : Nat → Value), v = .slice a n cap ∧ n ≤ maxLen ∧ (∀ r, r < n → ∃ b o, a = some ⟨b, o, none⟩ ∧ w.cell? ⟨b, o + r, none⟩ = some (R r)) ∧ ∀ r, r < n → NumsAt w (R r) (L r) (Z r)
theorem cell_block {w : World} {a : Addr} {v : Value} (h : w.cell? a = some v) : a.block < w.heap.size := World.block_lt_of_cell? _ _ h
theorem NumsAt.below {w w' : World} {v : Value} {n : Nat} {f : Nat → Int} (h : NumsAt w v n f) (hb : Below w.heap.size w w') : NumsAt w' v n f := by
  obtain ⟨a, cap, h1, h2, h3⟩ := h
  refine ⟨a, cap, h1, h2, fun c hc => ?_⟩
  obtain ⟨b, o, e, hcell⟩ := h3 c hc
  exact ⟨b, o, e, (hb.cell (p := ⟨b, o + c, none⟩) (cell_block hcell)).trans hcell⟩
theorem MatAt.below {w w' : World} {v : Value} {n : Nat} {L : Nat → Nat} {Z : Nat → Nat → Int} (h : MatAt w v n L Z) (hb : Below w.heap.size w w') : MatAt w' v n L Z := by
  obtain ⟨a, cap, R, h1, h2, h3, h4⟩ := h
  refine ⟨a, cap, R, h1, h2, fun r hr => ?_, fun r hr => (h4 r hr).below hb⟩
  obtain ⟨b, o, e, hcell⟩ := h3 r hr
  exact ⟨b, o, e, (hb.cell (p := ⟨b, o + r, none⟩) (cell_block hcell)).trans hcell⟩
theorem NumsAt.alloc {w : World} {v : Value} {n : Nat} {f : Nat → Int} (h : NumsAt w v n f) (o : Obj) : NumsAt (w.alloc o) v n f := h.below ((Below.refl _ _).alloc (Nat.le_refl _) _)
theorem MatAt.alloc {w : World} {v : Value} {n : Nat} {L : Nat → Nat} {Z : Nat → Nat → Int} (h : MatAt w v n L Z) (o : Obj) : MatAt (w.alloc o) v n L Z := h.below ((Below.refl _ _).alloc (Nat.le_refl _) _)
theorem NumsAt.drew {w : World} {v : Value} {n : Nat} {f : Nat → Int} (h : NumsAt w v n f) : NumsAt w.drew v n f := h
theorem MatAt.drew {w : World} {v : Value} {n : Nat} {L : Nat → Nat} {Z : Nat → Nat → Int} (h : MatAt w v n L Z) : MatAt w.drew v n L Z := h
theorem NumsAt.congr {w : World} {v : Value} {n : Nat} {f g : Nat → Int} (h : NumsAt w v n f) (e : ∀ c, c < n → f c = g c) : NumsAt w v n g := by
  obtain ⟨a, cap, h1, h2, h3⟩ := h
  refine ⟨a, cap, h1, h2, fun c hc => ?_⟩
  rw [← e c hc]
  exact h3 c hc
theorem MatAt.congr {w : World} {v : Value} {n : Nat} {L L' : Nat → Nat} {Z Z' : Nat → Nat → Int} (h : MatAt w v n L Z) (eL : ∀ r, r < n → L r = L' r) (eZ : ∀ r, r < n → ∀ c, c < L r → Z r c = Z' r c) : MatAt w v n L' Z' := by
  obtain ⟨a, cap, R, h1, h2, h3, h4⟩ := h
  refine ⟨a, cap, R, h1, h2, h3, fun r hr => ?_⟩
  rw [← eL r hr]
  exact (h4 r hr).congr (eZ r hr)
/-- A slice that is not empty has an address. -/
theorem NumsAt.form {w : World} {v : Value} {n : Nat} {f : Nat → Int} (h : NumsAt w v n f) (hn : 0 < n) : ∃ b o cap, v = .slice (some ⟨b, o, none⟩) n cap ∧ n ≤ maxLen ∧ ∀ c, c < n → w.cell? ⟨b, o + c, none⟩ = some (.int .i64 (f c)) := by
  obtain ⟨a, cap, h1, h2, h3⟩ := h
  obtain ⟨b, o, e, _⟩ := h3 0 hn
  subst e
  refine ⟨b, o, cap, h1, h2, fun c hc => ?_⟩
  obtain ⟨b', o', e', hcell⟩ := h3 c hc
  cases e'
  exact hcell
theorem MatAt.form {w : World} {v : Value} {n : Nat} {L : Nat → Nat} {Z : Nat → Nat → Int} (h : MatAt w v n L Z) (hn : 0 < n) : ∃ (b o cap : Nat) (R : Nat → Value), v = .slice (some ⟨b, o, none⟩) n cap ∧ n ≤ maxLen ∧ (∀ r, r < n → w.cell? ⟨b, o + r, none⟩ = some (R r)) ∧ ∀ r, r < n → NumsAt w (R r) (L r) (Z r) := by
  obtain ⟨a, cap, R, h1, h2, h3, h4⟩ := h
  obtain ⟨b, o, e, _⟩ := h3 0 hn
  subst e
  refine ⟨b, o, cap, R, h1, h2, fun r hr => ?_, h4⟩
  obtain ⟨b', o', e', hcell⟩ := h3 r hr
  cases e'
  exact hcell
theorem NumsAt.len {w : World} {v : Value} {n : Nat} {f : Nat → Int} (h : NumsAt w v n f) : ∃ a cap, v = .slice a n cap ∧ n ≤ maxLen := by
  obtain ⟨a, cap, h1, h2, _⟩ := h
  exact ⟨a, cap, h1, h2⟩
theorem MatAt.len {w : World} {v : Value} {n : Nat} {L : Nat → Nat} {Z : Nat → Nat → Int} (h : MatAt w v n L Z) : ∃ a cap, v = .slice a n cap ∧ n ≤ maxLen := by
  obtain ⟨a, cap, R, h1, h2, _⟩ := h
  exact ⟨a, cap, h1, h2⟩
theorem NumsAt.of_row {w : World} {g n cap : Nat} {T : TypeId} {f : Nat → Int} (h : RowAt w g T (ints n f)) (hn : n ≤ maxLen) : NumsAt w (.slice (some ⟨g, 0, none⟩) n cap) n f :=
  ⟨some ⟨g, 0, none⟩, cap, rfl, hn, fun c hc => ⟨g, 0, rfl, by have := h.cell (ints_get f hc); simpa using this⟩⟩
theorem MatAt.of_rows {w : World} {g n cap : Nat} {T : TypeId} {R : Nat → Value} {L : Nat → Nat} {Z : Nat → Nat → Int} (h : RowAt w g T (tab n R)) (hn : n ≤ maxLen) (hR : ∀ r, r < n → NumsAt w (R r) (L r) (Z r)) : MatAt w (.slice (some ⟨g, 0, none⟩) n cap) n L Z :=
  ⟨some ⟨g, 0, none⟩, cap, R, rfl, hn, fun r hr => ⟨g, 0, rfl, by have := h.cell (tab_get R hr); simpa using this⟩, hR⟩
theorem MatAt.nil (w : World) (L : Nat → Nat) (Z : Nat → Nat → Int) : MatAt w (.slice none 0 0) 0 L Z := ⟨none, 0, fun _ => .bool false, rfl, by decide, fun r hr => by omega, fun r hr => by omega⟩

/-- The first of n that is not 0. -/
def firstE (g : Nat → Int) : Nat → Int
  | 0 => 0
  | k + 1 => if firstE g k ≠ 0 then firstE g k else g k
theorem firstE_zero (g : Nat → Int) : ∀ n, firstE g n = 0 ↔ ∀ k, k < n → g k = 0
  | 0 => ⟨fun _ k hk => by omega, fun _ => rfl⟩
  | n + 1 => by
    show (if firstE g n ≠ 0 then firstE g n else g n) = 0 ↔ _
    have ih := firstE_zero g n
    by_cases h : firstE g n = 0
    · rw [if_neg (by simp [h])]
      refine ⟨fun hn k hk => ?_, fun hk => hk n (by omega)⟩
      by_cases e : k = n
      · rw [e]; exact hn
      · exact ih.1 h k (by omega)
    · rw [if_pos h]
      exact ⟨fun hc => absurd hc h, fun hk => absurd (ih.2 fun k hk' => hk k (by omega)) h⟩
theorem firstE_step (g : Nat → Int) (k : Nat) (h : firstE g k = 0) : firstE g (k + 1) = g k := by
  show (if firstE g k ≠ 0 then firstE g k else g k) = g k
  rw [if_neg (by simp [h])]
theorem firstE_keep (g : Nat → Int) (k : Nat) (h : firstE g k ≠ 0) : ∀ n, k ≤ n → firstE g n = firstE g k := fun n hn => by
  induction hn with
  | refl => rfl
  | step _ ih =>
    show (if firstE g _ ≠ 0 then firstE g _ else g _) = _
    rw [if_pos (by rw [ih]; exact h), ih]
/-- A number of a matrix: 0 if it may stand there, else ErrRange. -/
def numErr (x : Int) : Int := if x < 0 ∨ 26 ≤ x then 3 else 0
/-- What is wrong with a row of l numbers among n rows. -/
def rowErr (l n : Nat) (f : Nat → Int) : Int := if l ≠ n then 8 else firstE (fun c => numErr (f c)) l
/-- What is wrong with n rows. -/
def matErr (n : Nat) (L : Nat → Nat) (Z : Nat → Nat → Int) : Int := if n < 1 ∨ 4 < n then 5 else firstE (fun r => rowErr (L r) n (Z r)) n
theorem numErr_zero (x : Int) : numErr x = 0 ↔ 0 ≤ x ∧ x < 26 := by
  unfold numErr
  by_cases h : x < 0 ∨ 26 ≤ x
  · rw [if_pos h]; constructor
    · intro h; cases h
    · omega
  · rw [if_neg h]; constructor
    · intro _; omega
    · intro _; rfl
theorem rowErr_zero (l n : Nat) (f : Nat → Int) : rowErr l n f = 0 ↔ l = n ∧ ∀ c, c < n → 0 ≤ f c ∧ f c < 26 := by
  unfold rowErr
  by_cases h : l = n
  · subst h
    rw [if_neg (by simp), firstE_zero]
    exact ⟨fun h => ⟨rfl, fun c hc => (numErr_zero _).1 (h c hc)⟩, fun h c hc => (numErr_zero _).2 (h.2 c hc)⟩
  · rw [if_pos h]
    exact ⟨fun h => (by cases h), fun hh => absurd hh.1 h⟩
/-- A matrix: n rows of n numbers from 0 to 25. -/
structure GoodM (n : Nat) (Z : Nat → Nat → Int) : Prop where
  pos : 1 ≤ n
  le : n ≤ 4
  num : ∀ r, r < n → ∀ c, c < n → 0 ≤ Z r c ∧ Z r c < 26
theorem matErr_zero (n : Nat) (L : Nat → Nat) (Z : Nat → Nat → Int) : matErr n L Z = 0 ↔ GoodM n Z ∧ ∀ r, r < n → L r = n := by
  unfold matErr
  by_cases h : n < 1 ∨ 4 < n
  · rw [if_pos h]
    refine ⟨fun h => (by cases h), fun hh => ?_⟩
    have h1 := hh.1.pos
    have h2 := hh.1.le
    omega
  · rw [if_neg h, firstE_zero]
    constructor
    · intro hh
      refine ⟨⟨by omega, by omega, fun r hr c hc => ?_⟩, fun r hr => ?_⟩
      · exact ((rowErr_zero _ _ _).1 (hh r hr)).2 c hc
      · exact ((rowErr_zero _ _ _).1 (hh r hr)).1
    · rintro ⟨hg, hL⟩ r hr
      exact (rowErr_zero _ _ _).2 ⟨hL r hr, hg.num r hr⟩
theorem rowErr_cases (l n : Nat) (f : Nat → Int) : rowErr l n f = 0 ∨ (rowErr l n f != 0) = true := by
  by_cases h : rowErr l n f = 0
  · exact .inl h
  · exact .inr (by simpa using h)
end Go.Proofs.Ytpdemelchhkfaaa.PK
