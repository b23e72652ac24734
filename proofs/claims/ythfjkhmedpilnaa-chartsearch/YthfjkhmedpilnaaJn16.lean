/-
  Several texts, joined: PKit, HKit, PMath, TPlain, TSmall, TKit, TCheck, TRefCheck, UCheck.
-/
import Derived.WalkKit
import Derived.Below
import Derived.Deep.MidRow
import Derived.Deep.WholeRow
import GoSem.Core.Utf8
import Derived.Test.YthfjkhmedpilnaaChecked
import Derived.WalkSpells
import Derived.WalkSmall
import Derived.Laws.BytesString
import Derived.Lib.AppendStr
import Derived.Lib.UnsafeStr
import Derived.Lib.OthersKept
import Derived.Lib.ConvBytes
/-
  Laws of no program: arrays of a fixed length as functions of their places, whole blocks, and what becomes of them.
-/
namespace Go.Proofs.Ythfjkhmedpilnaa.PK
open Go.RowKit

theorem ret_int {k : IntKind} {a b : Int} (h : a = b) : Ending.returned (.int k a) = .returned (.int k b) := by rw [h]
def upd {α : Type} (f : Nat → α) (i : Nat) (v : α) : Nat → α := fun j => if j = i then v else f j
@[simp] theorem upd_same {α : Type} (f : Nat → α) (i : Nat) (v : α) : upd f i v i = v := by simp [upd]
theorem upd_other {α : Type} (f : Nat → α) {i j : Nat} (v : α) (h : j ≠ i) : upd f i v j = f j := by simp [upd, h]
def tab (n : Nat) (g : Nat → Value) : Array Value := ((List.range n).map g).toArray
theorem tab_size (n : Nat) (g : Nat → Value) : (tab n g).size = n := by simp [tab]
theorem tab_get {n : Nat} (g : Nat → Value) {i : Nat} (h : i < n) : (tab n g)[i]? = some (g i) := by simp [tab, h]
theorem tab_ext {n : Nat} {g g' : Nat → Value} (h : ∀ i, i < n → g i = g' i) : tab n g = tab n g' := by
  unfold tab
  congr 1
  exact List.map_congr_left fun i hi => h i (by simpa using hi)
theorem tab_set (n : Nat) (g : Nat → Value) (i : Nat) (v : Value) : (tab n g).setIfInBounds i v = tab n (upd g i v) := by
  apply Array.ext_getElem?
  intro j
  rw [Array.getElem?_setIfInBounds]
  by_cases hj : j < n
  · rw [tab_get _ hj, tab_get _ hj, tab_size]
    by_cases e : i = j
    · subst e; simp [hj]
    · simp [e, upd, Ne.symm e]
  · have h1 : (tab n g)[j]? = none := by simp [tab]; omega
    have h2 : (tab n (upd g i v))[j]? = none := by simp [tab]; omega
    rw [h1, h2, tab_size]
    by_cases e : i = j
    · subst e; simp [hj]
    · simp [e]
def ints (n : Nat) (f : Nat → Int) : Array Value := tab n fun i => .int .i64 (f i)
def bools (n : Nat) (f : Nat → Bool) : Array Value := tab n fun i => .bool (f i)
theorem ints_size (n : Nat) (f : Nat → Int) : (ints n f).size = n := tab_size _ _
theorem ints_get {n : Nat} (f : Nat → Int) {i : Nat} (h : i < n) : (ints n f)[i]? = some (.int .i64 (f i)) := tab_get _ h
theorem bools_get {n : Nat} (f : Nat → Bool) {i : Nat} (h : i < n) : (bools n f)[i]? = some (.bool (f i)) := tab_get _ h
theorem ints_ext {n : Nat} {f g : Nat → Int} (h : ∀ i, i < n → f i = g i) : ints n f = ints n g := tab_ext fun i hi => by rw [h i hi]
theorem bools_ext {n : Nat} {f g : Nat → Bool} (h : ∀ i, i < n → f i = g i) : bools n f = bools n g := tab_ext fun i hi => by rw [h i hi]
theorem ints_set (n : Nat) (f : Nat → Int) (i : Nat) (v : Int) : (ints n f).setIfInBounds i (.int .i64 v) = ints n (upd f i v) := by
  unfold ints
  rw [tab_set]
  exact tab_ext fun j _ => by by_cases e : j = i <;> simp [upd, e]
theorem bools_set (n : Nat) (f : Nat → Bool) (i : Nat) (v : Bool) : (bools n f).setIfInBounds i (.bool v) = bools n (upd f i v) := by
  unfold bools
  rw [tab_set]
  exact tab_ext fun j _ => by by_cases e : j = i <;> simp [upd, e]
theorem ints_one (n : Nat) (f : Nat → Int) : (ints n f).all (·.oneCell') = true := by
  rw [Array.all_eq_true_iff_forall_mem]
  intro v hv
  simp [ints, tab] at hv
  obtain ⟨i, _, rfl⟩ := hv
  rfl
theorem zero26 : (#[.int .i64 0, .int .i64 0, .int .i64 0, .int .i64 0, .int .i64 0, .int .i64 0, .int .i64 0, .int .i64 0, .int .i64 0, .int .i64 0, .int .i64 0, .int .i64 0, .int .i64 0, .int .i64 0, .int .i64 0, .int .i64 0, .int .i64 0, .int .i64 0, .int .i64 0, .int .i64 0, .int .i64 0, .int .i64 0, .int .i64 0, .int .i64 0, .int .i64 0, .int .i64 0] : Array Value) = ints 26 fun _ => 0 := rfl
theorem zero27 : (#[.int .i64 0, .int .i64 0, .int .i64 0, .int .i64 0, .int .i64 0, .int .i64 0, .int .i64 0, .int .i64 0, .int .i64 0, .int .i64 0, .int .i64 0, .int .i64 0, .int .i64 0, .int .i64 0, .int .i64 0, .int .i64 0, .int .i64 0, .int .i64 0, .int .i64 0, .int .i64 0, .int .i64 0, .int .i64 0, .int .i64 0, .int .i64 0, .int .i64 0, .int .i64 0, .int .i64 0] : Array Value) = ints 27 fun _ => 0 := rfl
theorem none26 : (#[.bool false, .bool false, .bool false, .bool false, .bool false, .bool false, .bool false, .bool false, .bool false, .bool false, .bool false, .bool false, .bool false, .bool false, .bool false, .bool false, .bool false, .bool false, .bool false, .bool false, .bool false, .bool false, .bool false, .bool false, .bool false, .bool false] : Array Value) = bools 26 fun _ => false := rfl

/-- 'p[k]' of an array's value whose elements are numbers. -/
theorem run_index_ints {P : Program} (t e : TypeId) (n : Nat) (hu : P.underlying t = some (.array n e)) (he : P.underlying e = some (.int .i64)) (hs : (P.info? e).map (·.size) = some 1) (f : Nat → Int) (k : Nat) (hk : k < n) (w : World) :
    (Instr.index t (.agg (ints n f)) (.int .i64 (k : Int))).run P w = .ok (.int .i64 (f k)) w := by
  cases hq : P.info? e with
  | none => simp [hq] at hs
  | some i =>
    have h1 : i.size = 1 := by simpa [hq] using hs
    have h2 : ((k : Int) < (n : Int)) := by omega
    simp [Instr.index, asIntOf, Sem.run_bind, run_underlying hu, part, isAgg, run_underlying he, sizeOf, typeInfo, hq, h1, hk, ints_get f hk]

/-- Block b holds the cells c, of type T, and none of them is barred from being written. -/
def RowAt (w : World) (b : Nat) (T : TypeId) (c : Array Value) : Prop := w.heap[b]? = some (.cells c T (0, 0))
theorem RowAt.new (w : World) (T : TypeId) (c : Array Value) : RowAt (w.alloc (.cells c T)) w.heap.size T c := heap_alloc_new w _
theorem RowAt.lt {w : World} {b : Nat} {T : TypeId} {c : Array Value} (h : RowAt w b T c) : b < w.heap.size := (Array.getElem?_eq_some_iff.1 h).1
theorem RowAt.alloc {w : World} {b : Nat} {T : TypeId} {c : Array Value} (h : RowAt w b T c) (o : Obj) : RowAt (w.alloc o) b T c := (Below.heap_alloc w o b h.lt).trans h
theorem RowAt.cell {w : World} {b : Nat} {T : TypeId} {c : Array Value} (h : RowAt w b T c) {i : Nat} {v : Value} (hi : c[i]? = some v) : w.cell? ⟨b, i, none⟩ = some v := (cell_of_row w b i c T (0, 0) h).trans hi
theorem RowAt.frozen {w : World} {b : Nat} {T : TypeId} {c : Array Value} (h : RowAt w b T c) (i : Nat) : w.frozen? ⟨b, i, none⟩ = false := frozen_of_row w b i c T h
theorem RowAt.set {w : World} {b : Nat} {T : TypeId} {c : Array Value} (h : RowAt w b T c) (i : Nat) (v : Value) : RowAt (w.setCell ⟨b, i, none⟩ v) b T (c.setIfInBounds i v) := heap_setCell_same w b i c T v h
theorem RowAt.setOther {w : World} {b : Nat} {T : TypeId} {c : Array Value} (h : RowAt w b T c) (a : Addr) (v : Value) (hb : b ≠ a.block) : RowAt (w.setCell a v) b T c := (heap_setCell_other w a b v hb).trans h
theorem RowAt.below {w w' : World} {b B : Nat} {T : TypeId} {c : Array Value} (h : RowAt w b T c) (hb : Below B w w') (hB : b < B) : RowAt w' b T c := (hb.block b hB).trans h
theorem RowAt.drew {w : World} {b : Nat} {T : TypeId} {c : Array Value} (h : RowAt w b T c) : RowAt w.drew b T c := h
theorem RowAt.row {w : World} {b : Nat} {T : TypeId} {c : Array Value} (h : RowAt w b T c) (c' : Array Value) : RowAt (w.setRow b c') b T c' := setRow_heap w b c c' T (0, 0) h
theorem RowAt.rowOther {w : World} {b : Nat} {T : TypeId} {c : Array Value} (h : RowAt w b T c) (g : Nat) (c' : Array Value) (hb : b ≠ g) : RowAt (w.setRow g c') b T c := (setRow_other w g b c' hb).trans h
theorem RowAt.range {w : World} {b : Nat} {T : TypeId} {c : Array Value} (h : RowAt w b T c) : w.rangeAt b 0 c.toList := fun j v hv => by
  have h1 : (⟨b, 0 + j, none⟩ : Addr) = ⟨b, j, none⟩ := by simp
  rw [h1]
  exact h.cell (by simpa using hv)
theorem Below.setRow {B : Nat} {a w : World} (h : Below B a w) (g : Nat) (hg : B ≤ g) (c : Array Value) : Below B a (w.setRow g c) :=
  ⟨h.os, h.tape, h.output, by have := h.size; simpa using this, fun k hk => (setRow_other w g k c (by omega)).trans (h.block k hk)⟩
theorem Below.rangeAt {B : Nat} {w w' : World} (h : Below B w w') {b o : Nat} {cs : List Value} (hc : w.rangeAt b o cs) (hb : b < B) : w'.rangeAt b o cs := fun j v hv => (h.cell (p := ⟨b, o + j, none⟩) hb).trans (hc j v hv)
end Go.Proofs.Ythfjkhmedpilnaa.PK

/-
  Laws of no program: slices of numbers and of such slices, read in a world; what is wrong with a matrix.
-/
namespace Go.Proofs.Ythfjkhmedpilnaa.PK
open Go.RowKit

/-- v is a slice of n numbers: in w number c is f c. -/
def NumsAt (w : World) (v : Value) (n : Nat) (f : Nat → Int) : Prop :=
  ∃ (a : Option Addr) (cap : Nat), v = .slice a n cap ∧ n ≤ maxLen ∧ ∀ c, c < n → ∃ b o, a = some ⟨b, o, none⟩ ∧ w.cell? ⟨b, o + c, none⟩ = some (.int .i64 (f c))
/-- v is a slice of n slices of numbers: in w row r has L r of them, number c of it is Z r c. -/
def MatAt (w : World) (v : Value) (n : Nat) (L : Nat → Nat) (Z : Nat → Nat → Int) : Prop :=
  ∃ (a : Option Addr) (cap : Nat) (R : Nat → Value), v = .slice a n cap ∧ n ≤ maxLen ∧ (∀ r, r < n → ∃ b o, a = some ⟨b, o, none⟩ ∧ w.cell? ⟨b, o + r, none⟩ = some (R r)) ∧ ∀ r, r < n → NumsAt w (R r) (L r) (Z r)
theorem cell_block {w : World} {a : Addr} {v : Value} (h : w.cell? a = some v) : a.block < w.heap.size := World.block_lt_of_cell? _ _ h
theorem NumsAt.below {w w' : World} {v : Value} {n : Nat} {f : Nat → Int} (h : NumsAt w v n f) (hb : Below w.heap.size w w') : NumsAt w' v n f := by
  obtain ⟨a, cap, h1, h2, h3⟩ := h
  refine ⟨a, cap, h1, h2, fun c hc => ?_⟩
  obtain ⟨b, o, e, hcell⟩ := h3 c hc
  exact ⟨b, o, e, (hb.cell (p := ⟨b, o + c, none⟩) (cell_block hcell)).trans hcell⟩
theorem MatAt.below {w w' : World} {v : Value} {n : Nat} {L : Nat → Nat} {Z : Nat → Nat → Int} (h : MatAt w v n L Z) (hb : Below w.heap.size w w') : MatAt w' v n L Z := by
  obtain ⟨a, cap, R, h1, h2, h3, h4⟩ := h
  refine ⟨a, cap, R, h1, h2, fun r hr => ?_, fun r hr => (h4 r hr).below hb⟩
  obtain ⟨b, o, e, hcell⟩ := h3 r hr
  exact ⟨b, o, e, (hb.cell (p := ⟨b, o + r, none⟩) (cell_block hcell)).trans hcell⟩
theorem NumsAt.alloc {w : World} {v : Value} {n : Nat} {f : Nat → Int} (h : NumsAt w v n f) (o : Obj) : NumsAt (w.alloc o) v n f := h.below ((Below.refl _ _).alloc (Nat.le_refl _) _)
theorem MatAt.alloc {w : World} {v : Value} {n : Nat} {L : Nat → Nat} {Z : Nat → Nat → Int} (h : MatAt w v n L Z) (o : Obj) : MatAt (w.alloc o) v n L Z := h.below ((Below.refl _ _).alloc (Nat.le_refl _) _)
theorem NumsAt.drew {w : World} {v : Value} {n : Nat} {f : Nat → Int} (h : NumsAt w v n f) : NumsAt w.drew v n f := h
theorem MatAt.drew {w : World} {v : Value} {n : Nat} {L : Nat → Nat} {Z : Nat → Nat → Int} (h : MatAt w v n L Z) : MatAt w.drew v n L Z := h
theorem NumsAt.congr {w : World} {v : Value} {n : Nat} {f g : Nat → Int} (h : NumsAt w v n f) (e : ∀ c, c < n → f c = g c) : NumsAt w v n g := by
  obtain ⟨a, cap, h1, h2, h3⟩ := h
  refine ⟨a, cap, h1, h2, fun c hc => ?_⟩
  rw [← e c hc]
  exact h3 c hc
theorem MatAt.congr {w : World} {v : Value} {n : Nat} {L L' : Nat → Nat} {Z Z' : Nat → Nat → Int} (h : MatAt w v n L Z) (eL : ∀ r, r < n → L r = L' r) (eZ : ∀ r, r < n → ∀ c, c < L r → Z r c = Z' r c) : MatAt w v n L' Z' := by
  obtain ⟨a, cap, R, h1, h2, h3, h4⟩ := h
  refine ⟨a, cap, R, h1, h2, h3, fun r hr => ?_⟩
  rw [← eL r hr]
  exact (h4 r hr).congr (eZ r hr)
theorem NumsAt.len {w : World} {v : Value} {n : Nat} {f : Nat → Int} (h : NumsAt w v n f) : ∃ a cap, v = .slice a n cap ∧ n ≤ maxLen := by
  obtain ⟨a, cap, h1, h2, _⟩ := h
  exact ⟨a, cap, h1, h2⟩
theorem MatAt.len {w : World} {v : Value} {n : Nat} {L : Nat → Nat} {Z : Nat → Nat → Int} (h : MatAt w v n L Z) : ∃ a cap, v = .slice a n cap ∧ n ≤ maxLen := by
  obtain ⟨a, cap, R, h1, h2, _⟩ := h
  exact ⟨a, cap, h1, h2⟩
theorem NumsAt.of_row {w : World} {g n cap : Nat} {T : TypeId} {f : Nat → Int} (h : RowAt w g T (ints n f)) (hn : n ≤ maxLen) : NumsAt w (.slice (some ⟨g, 0, none⟩) n cap) n f :=
  ⟨some ⟨g, 0, none⟩, cap, rfl, hn, fun c hc => ⟨g, 0, rfl, by have := h.cell (ints_get f hc); simpa using this⟩⟩
theorem MatAt.nil (w : World) (L : Nat → Nat) (Z : Nat → Nat → Int) : MatAt w (.slice none 0 0) 0 L Z := ⟨none, 0, fun _ => .bool false, rfl, by decide, fun r hr => by omega, fun r hr => by omega⟩

/-- The first of n that is not 0. -/
def firstE (g : Nat → Int) : Nat → Int
  | 0 => 0
  | k + 1 => if firstE g k ≠ 0 then firstE g k else g k
/-- A number of a matrix: 0 if it may stand there, else ErrRange. -/
def numErr (x : Int) : Int := if x < 0 ∨ 26 ≤ x then 3 else 0
/-- What is wrong with a row of l numbers among n rows. -/
def rowErr (l n : Nat) (f : Nat → Int) : Int := if l ≠ n then 8 else firstE (fun c => numErr (f c)) l
/-- What is wrong with n rows. -/
def matErr (n : Nat) (L : Nat → Nat) (Z : Nat → Nat → Int) : Int := if n < 1 ∨ 4 < n then 5 else firstE (fun r => rowErr (L r) n (Z r)) n
/-- A matrix: n rows of n numbers from 0 to 25. -/
structure GoodM (n : Nat) (Z : Nat → Nat → Int) : Prop where
  pos : 1 ≤ n
  le : n ≤ 4
  num : ∀ r, r < n → ∀ c, c < n → 0 ≤ Z r c ∧ Z r c < 26
end Go.Proofs.Ythfjkhmedpilnaa.PK

/-
  Plain mathematics of no program: what is wrong with 26 numbers.
-/
namespace Go.Proofs.Ythfjkhmedpilnaa.Pm

/-- What is wrong at place i: 3 (out of range), 8 (goes where one ahead goes), else 0. -/
def bad (f : Nat → Int) (i : Nat) : Int := if f i < 0 ∨ 26 ≤ f i then 3 else if (List.range i).any (fun j => f j == f i) then 8 else 0
def wrongN (f : Nat → Int) : Nat → Int
  | 0 => 0
  | n + 1 => if wrongN f n ≠ 0 then wrongN f n else bad f n
def wrong (f : Nat → Int) : Int := wrongN f 26
theorem wrongN_keep (f : Nat → Int) (k n : Nat) (h : wrongN f k ≠ 0) (hn : k ≤ n) : wrongN f n = wrongN f k := by
  induction n with
  | zero => have : k = 0 := by omega
            subst this; rfl
  | succ n ih =>
    by_cases e : k = n + 1
    · rw [e]
    · have := ih (by omega)
      show (if wrongN f n ≠ 0 then wrongN f n else bad f n) = _
      rw [this, if_pos h]
theorem wrongN_succ (f : Nat → Int) (k : Nat) (h : wrongN f k = 0) : wrongN f (k + 1) = bad f k := by
  show (if wrongN f k ≠ 0 then wrongN f k else bad f k) = _
  rw [if_neg (by simp [h])]
theorem wrong_stop (f : Nat → Int) (k : Nat) (h : wrongN f k = 0) (hb : bad f k ≠ 0) (hk : k < 26) : wrong f = bad f k := by
  have h1 := wrongN_succ f k h
  have := wrongN_keep f (k + 1) 26 (by rw [h1]; exact hb) (by omega)
  unfold wrong
  rw [this, h1]
theorem wrong_end (f : Nat → Int) (k : Nat) (h : wrongN f k = 0) (hk : k = 26) : wrong f = 0 := by subst hk; exact h
def seen (f : Nat → Int) (k : Nat) (v : Nat) : Bool := (List.range k).any (fun j => f j == (v : Int))
theorem seen_succ (f : Nat → Int) (k v : Nat) : seen f (k + 1) v = (seen f k v || f k == (v : Int)) := by
  simp [seen, List.range_succ, List.any_append]
theorem bad_range (f : Nat → Int) (i : Nat) (h : f i < 0 ∨ 26 ≤ f i) : bad f i = 3 := by simp [bad, h]
theorem bad_fit (f : Nat → Int) (i n : Nat) (h : f i = (n : Int)) (hn : n < 26) (hs : seen f i n = true) : bad f i = 8 := by
  unfold bad
  rw [if_neg (by omega), if_pos (by rw [h]; exact hs)]
theorem bad_ok (f : Nat → Int) (i n : Nat) (h : f i = (n : Int)) (hn : n < 26) (hs : seen f i n = false) : bad f i = 0 := by
  unfold bad
  rw [if_neg (by omega), if_neg (by rw [h]; simpa [seen] using hs)]
theorem wrongN_zero (f : Nat → Int) : ∀ n, wrongN f n = 0 ↔ ∀ i, i < n → bad f i = 0
  | 0 => by simp [wrongN]
  | n + 1 => by
    have ih := wrongN_zero f n
    constructor
    · intro h i hi
      by_cases e : wrongN f n = 0
      · rw [wrongN_succ f n e] at h
        by_cases e2 : i = n
        · rw [e2]; exact h
        · exact ih.1 e i (by omega)
      · exact absurd ((wrongN_keep f n (n + 1) e (by omega)).symm.trans h) e
    · intro h
      rw [wrongN_succ f n (ih.2 fun i hi => h i (by omega))]
      exact h n (by omega)
theorem bad_zero (f : Nat → Int) (i : Nat) : bad f i = 0 ↔ (0 ≤ f i ∧ f i < 26 ∧ ∀ j, j < i → f j ≠ f i) := by
  unfold bad
  by_cases h1 : f i < 0 ∨ 26 ≤ f i
  · rw [if_pos h1]
    constructor
    · intro h; exact absurd h (by decide)
    · intro ⟨a, b, _⟩; omega
  · rw [if_neg h1]
    by_cases h2 : (List.range i).any (fun j => f j == f i) = true
    · rw [if_pos h2]
      simp at h2
      obtain ⟨j, hj, e⟩ := h2
      constructor
      · intro h; exact absurd h (by decide)
      · intro ⟨_, _, c⟩; exact absurd e (c j hj)
    · rw [if_neg h2]
      simp at h2
      simp only [true_iff]
      exact ⟨by omega, by omega, h2⟩
/-- A permutation, as a function on numbers below 26. -/
structure IsPerm (p : Nat → Nat) : Prop where
  lt : ∀ i, i < 26 → p i < 26
  inj : ∀ i j, i < 26 → j < 26 → p i = p j → i = j
def up (p : Nat → Nat) : Nat → Int := fun i => (p i : Int)
theorem wrong_zero (f : Nat → Int) : wrong f = 0 ↔ ∃ p, IsPerm p ∧ ∀ i, i < 26 → f i = (p i : Int) := by
  unfold wrong
  rw [wrongN_zero]
  constructor
  · intro h
    refine ⟨fun i => (f i).toNat, ⟨fun i hi => ?_, fun i j hi hj e => ?_⟩, fun i hi => ?_⟩
    · have := (bad_zero f i).1 (h i hi); show (f i).toNat < 26; omega
    · have h1 := (bad_zero f i).1 (h i hi)
      have h2 := (bad_zero f j).1 (h j hj)
      have e' : f i = f j := by have e : (f i).toNat = (f j).toNat := e; omega
      rcases Nat.lt_trichotomy i j with c | c | c
      · exact absurd e' (h2.2.2 i c)
      · exact c
      · exact absurd e'.symm (h1.2.2 j c)
    · have := (bad_zero f i).1 (h i hi); show f i = ((f i).toNat : Int); omega
  · rintro ⟨p, hp, he⟩ i hi
    rw [bad_zero, he i hi]
    have := hp.lt i hi
    refine ⟨by omega, by omega, fun j hj => ?_⟩
    rw [he j (by omega)]
    intro e
    have := hp.inj j i (by omega) hi (by omega)
    omega
theorem wrong_up (p : Nat → Nat) (hp : IsPerm p) : wrong (up p) = 0 := (wrong_zero _).2 ⟨p, hp, fun _ _ => rfl⟩
/-- What is wrong with the first of n that is wrong. -/
def firstBad (fs : Nat → Nat → Int) : Nat → Int
  | 0 => 0
  | n + 1 => if firstBad fs n ≠ 0 then firstBad fs n else wrong (fs n)
theorem firstBad_succ (fs : Nat → Nat → Int) (k : Nat) (h : firstBad fs k = 0) : firstBad fs (k + 1) = wrong (fs k) := by
  show (if firstBad fs k ≠ 0 then firstBad fs k else wrong (fs k)) = _
  rw [if_neg (by simp [h])]
theorem firstBad_keep (fs : Nat → Nat → Int) (k n : Nat) (h : firstBad fs k ≠ 0) (hn : k ≤ n) : firstBad fs n = firstBad fs k := by
  induction n with
  | zero => have : k = 0 := by omega
            subst this; rfl
  | succ n ih =>
    by_cases e : k = n + 1
    · rw [e]
    · have := ih (by omega)
      show (if firstBad fs n ≠ 0 then firstBad fs n else wrong (fs n)) = _
      rw [this, if_pos h]
theorem firstBad_stop (fs : Nat → Nat → Int) (k n : Nat) (h : firstBad fs k = 0) (hb : wrong (fs k) ≠ 0) (hk : k < n) : firstBad fs n = wrong (fs k) := by
  have h1 := firstBad_succ fs k h
  rw [firstBad_keep fs (k + 1) n (by rw [h1]; exact hb) (by omega), h1]
theorem nodup_le : ∀ (l m : List Nat), l.Nodup → (∀ x ∈ l, x ∈ m) → l.length ≤ m.length
  | [], _, _, _ => Nat.zero_le _
  | a :: l, m, hd, hs => by
    have ha : a ∈ m := hs a (by simp)
    have hd' := List.nodup_cons.1 hd
    have := nodup_le l (m.erase a) hd'.2 (fun x hx => by
      have hne : x ≠ a := fun e => hd'.1 (e ▸ hx)
      exact (List.mem_erase_of_ne hne).2 (hs x (by simp [hx])))
    rw [List.length_erase_of_mem ha] at this
    have hpos : 0 < m.length := List.length_pos_of_mem ha
    simp
    omega
theorem nodup_map (p : Nat → Nat) : ∀ (l : List Nat), l.Nodup → (∀ i ∈ l, ∀ j ∈ l, p i = p j → i = j) → (l.map p).Nodup
  | [], _, _ => by simp
  | a :: l, hd, hi => by
    have hd' := List.nodup_cons.1 hd
    rw [List.map_cons, List.nodup_cons]
    refine ⟨?_, nodup_map p l hd'.2 fun i h1 j h2 => hi i (by simp [h1]) j (by simp [h2])⟩
    intro h
    obtain ⟨x, hx, e⟩ := List.mem_map.1 h
    have := hi x (by simp [hx]) a (by simp) e
    exact hd'.1 (this ▸ hx)
theorem IsPerm.surj {p : Nat → Nat} (hp : IsPerm p) (j : Nat) (hj : j < 26) : ∃ i, i < 26 ∧ p i = j := by
  apply Classical.byContradiction
  intro hn
  have hn' : ∀ i, i < 26 → p i ≠ j := fun i hi e => hn ⟨i, hi, e⟩
  have h1 := nodup_map p (List.range 26) List.nodup_range (fun i hi k hk e => hp.inj i k (by simpa using hi) (by simpa using hk) e)
  have h2 := nodup_le _ ((List.range 26).erase j) h1 (fun x hx => by
    obtain ⟨i, hi, e⟩ := List.mem_map.1 hx
    have hi' : i < 26 := by simpa using hi
    have hne : x ≠ j := by rw [← e]; exact hn' i hi'
    exact (List.mem_erase_of_ne hne).2 (by rw [← e]; simpa using hp.lt i hi'))
  rw [List.length_erase_of_mem (by simpa using hj)] at h2
  simp at h2
/-- The letter that goes to j. -/
def inv (p : Nat → Nat) (j : Nat) : Nat := ((List.range 26).find? fun i => p i == j).getD 0
theorem IsPerm.inv_spec {p : Nat → Nat} (hp : IsPerm p) (j : Nat) (hj : j < 26) : inv p j < 26 ∧ p (inv p j) = j := by
  unfold inv
  cases h : (List.range 26).find? fun i => p i == j with
  | none =>
    obtain ⟨i, hi, e⟩ := hp.surj j hj
    have := List.find?_eq_none.1 h i (by simpa using hi)
    simp [e] at this
  | some i =>
    have h1 := List.find?_some h
    have h2 := List.mem_of_find?_eq_some h
    simp at h1 h2
    exact ⟨h2, h1⟩
theorem IsPerm.inv_left {p : Nat → Nat} (hp : IsPerm p) (i : Nat) (hi : i < 26) : inv p (p i) = i := by
  have := hp.inv_spec (p i) (hp.lt i hi)
  exact hp.inj _ _ this.1 hi this.2
theorem IsPerm.inv {p : Nat → Nat} (hp : IsPerm p) : IsPerm (inv p) :=
  ⟨fun i hi => (hp.inv_spec i hi).1, fun i j hi hj e => by
    have h1 := (hp.inv_spec i hi).2
    have h2 := (hp.inv_spec j hj).2
    rw [e, h2] at h1
    exact h1.symm⟩
theorem IsPerm.comp {p q : Nat → Nat} (hp : IsPerm p) (hq : IsPerm q) : IsPerm (fun i => q (p i)) :=
  ⟨fun i hi => hq.lt _ (hp.lt i hi), fun i j hi hj e => hp.inj i j hi hj (hq.inj _ _ (hp.lt i hi) (hp.lt j hj) e)⟩
theorem IsPerm.id : IsPerm (fun i => i) := ⟨fun _ h => h, fun _ _ _ _ e => e⟩
/-- p, its letters named anew by x. -/
def conj (p x : Nat → Nat) : Nat → Nat := fun k => x (p (inv x k))
theorem IsPerm.conj {p x : Nat → Nat} (hp : IsPerm p) (hx : IsPerm x) : IsPerm (conj p x) := (hx.inv.comp hp).comp hx
end Go.Proofs.Ythfjkhmedpilnaa.Pm

/-
  The plain mathematics of chapter 1 (letters), over lists of bytes; nothing here speaks of a program.
-/
namespace Go.Proofs.Ythfjkhmedpilnaa.Pl

/-! ### What a rune is written as -/
def tab : List (Int × List UInt8) :=
  [(196, [65, 69]), (228, [65, 69]), (198, [65, 69]), (230, [65, 69]),
   (214, [79, 69]), (246, [79, 69]), (216, [79, 69]), (248, [79, 69]), (338, [79, 69]), (339, [79, 69]),
   (220, [85, 69]), (252, [85, 69]), (223, [83, 83]), (197, [65, 65]), (229, [65, 65]),
   (201, [69]), (233, [69]), (200, [69]), (232, [69]), (202, [69]), (234, [69]),
   (192, [65]), (224, [65]), (194, [65]), (226, [65]), (260, [65]), (261, [65]),
   (199, [67]), (231, [67]), (262, [67]), (263, [67]), (321, [76]), (322, [76]),
   (323, [78]), (324, [78]), (209, [78]), (241, [78]), (346, [83]), (347, [83]),
   (377, [90]), (378, [90]), (379, [90]), (380, [90]), (46, [88]), (63, [88]), (33, [88])]
def look (r : Int) : List (Int × List UInt8) → List UInt8
  | [] => []
  | p :: t => if (r == p.1) = true then p.2 else look r t
def spell (r : Int) : List UInt8 := look r tab
def foldRune (r : Int) : List UInt8 :=
  if 65 ≤ r ∧ r ≤ 90 then [UInt8.ofNat r.toNat]
  else if 97 ≤ r ∧ r ≤ 122 then [UInt8.ofNat (r - 32).toNat]
  else spell r

def isL (c : Int) : Bool := decide (65 ≤ c ∧ c ≤ 90)
def Lets (l : List UInt8) : Prop := ∀ c ∈ l, isL c.toNat = true

/-! ### One rune off the head of a list of bytes -/
def byte (l : List UInt8) (k : Nat) : Nat := (l.getD k 0).toNat
def cont (l : List UInt8) (k : Nat) : Bool := decide (k < l.length) && byte l k / 64 == 2
def decL (l : List UInt8) : Nat × Nat :=
  let b0 := byte l 0
  if b0 < 0x80 then (b0, 1)
  else if b0 / 32 == 6 && cont l 1 then
    let c := (b0 % 32) * 64 + byte l 1 % 64
    if c ≥ 0x80 then (c, 2) else (0xFFFD, 1)
  else if b0 / 16 == 14 && (cont l 1 && cont l 2) then
    let c := (b0 % 16) * 4096 + (byte l 1 % 64) * 64 + byte l 2 % 64
    if c ≥ 0x800 && Utf8.valid c then (c, 3) else (0xFFFD, 1)
  else if b0 / 8 == 30 && (cont l 1 && cont l 2 && cont l 3) then
    let c := (b0 % 8) * 262144 + (byte l 1 % 64) * 4096 + (byte l 2 % 64) * 64 + byte l 3 % 64
    if c ≥ 0x10000 && Utf8.valid c then (c, 4) else (0xFFFD, 1)
  else (0xFFFD, 1)

theorem get!_eq (s : ByteArray) (i : Nat) : s.get! i = s.data.toList.getD i 0 := by
  cases s with
  | mk d =>
    show d[i]! = _
    by_cases h : i < d.size
    · simp [getElem!_pos, h, List.getD]
    · simp [getElem!_neg, h, List.getD]
      rfl
theorem size_len (s : ByteArray) : s.size = s.data.toList.length := by cases s; rfl
theorem decode_eq (s : ByteArray) (pos : Nat) : Utf8.decode s pos = decL (s.data.toList.drop pos) := by
  have hb : ∀ k, (s.get! (pos + k)).toNat = byte (s.data.toList.drop pos) k := by
    intro k
    rw [get!_eq, byte]
    simp [List.getD]
  have hc : ∀ k, (decide (pos + k < s.size) && byte (s.data.toList.drop pos) k / 64 == 2) = cont (s.data.toList.drop pos) k := by
    intro k
    unfold cont
    have e : decide (pos + k < s.size) = decide (k < (s.data.toList.drop pos).length) := by
      rw [size_len, List.length_drop]
      exact decide_eq_decide.2 (by omega)
    rw [e]
  unfold Utf8.decode decL
  simp only [hb, hc, Utf8.runeError, Bool.and_assoc]

/-! ### Fold -/
def foldN : Nat → List UInt8 → List UInt8
  | 0, _ => []
  | n + 1, l => if l = [] then [] else foldRune (decL l).1 ++ foldN n (l.drop (decL l).2)
def fold (l : List UInt8) : List UInt8 := foldN l.length l

theorem decL_low (c : UInt8) (t : List UInt8) (h : c.toNat < 128) : decL (c :: t) = (c.toNat, 1) := by
  have e : byte (c :: t) 0 = c.toNat := rfl
  unfold decL
  dsimp only
  rw [e, if_pos h]
/-! ### Check -/
def bad (c : UInt8) : Bool := !isL c.toNat
def chkE (l : List UInt8) : Int := match l.findIdx? bad with | none => 0 | some _ => 2
def chkAt (l : List UInt8) : Int := match l.findIdx? bad with | none => 0 | some i => i
/-! ### Ungroup -/
def isLb (c : UInt8) : Bool := isL c.toNat
def gapB (c : UInt8) : Bool := c.toNat == 32 || c.toNat == 10
def badU (c : UInt8) : Bool := !isLb c && !gapB c
def ungE (l : List UInt8) : Int := match l.findIdx? badU with | some _ => 2 | none => if 65536 < (l.filter isLb).length then 4 else 0
def ungAt (l : List UInt8) : Int := match l.findIdx? badU with | some i => i | none => 0
def ungS (l : List UInt8) : List UInt8 := match l.findIdx? badU with | some _ => [] | none => if 65536 < (l.filter isLb).length then [] else l.filter isLb
/-! ### Group -/
def gapL (L W : Int) (i : Nat) : List UInt8 := if 0 < i ∧ (i : Int) % L = 0 then (if ((i : Int) / L) % W = 0 then [10] else [32]) else []
def grp (L W : Int) (l : List UInt8) : Nat → List UInt8
  | 0 => []
  | k + 1 => grp L W l k ++ gapL L W k ++ [l.getD k 0]
end Go.Proofs.Ythfjkhmedpilnaa.Pl

/-
  The contract of letters.isLetter.
-/
namespace Go.Proofs.Ythfjkhmedpilnaa
open Go.RowKit

end Go.Proofs.Ythfjkhmedpilnaa

/-
  Laws of no program: bytes that a call owns, and what 'string(b)' makes of them.
-/
namespace Go.Proofs.Ythfjkhmedpilnaa.Kit
open Go.RowKit

/-- The slice v owns the bytes l, in blocks from B on (e: the byte type's number). -/
def Owns (w : World) (B : Nat) (e : TypeId) (v : Value) (l : List UInt8) : Prop := w.ownsRow B e 1 v l.length (Lib.byteCells l)

theorem Owns.nil (w : World) (B : Nat) (e : TypeId) : Owns w B e (.slice none 0 0) [] := World.ownsRow_nil w B e 1
theorem Owns.lt {w : World} {B : Nat} {e : TypeId} {v : Value} {l : List UInt8} (h : Owns w B e v l) : ∀ k, v.ownBlock = some k → B ≤ k ∧ k < w.heap.size := World.ownsRow.lt h
theorem Owns.kind {w : World} {B : Nat} {e : TypeId} {v : Value} {l : List UInt8} (h : Owns w B e v l) : ∀ g, v.ownBlock = some g → ∃ c fz, w.heap[g]? = some (.cells c e fz) := Lib.ownsRowF_kind (World.ownsRowF_of h)
/-- Behind a law on append: what is owned, and that below B and among the other blocks nothing has turned. -/
theorem Owns.grown {w W w' : World} {B : Nat} {e : TypeId} {v v' : Value} {l m : List UInt8} {n : Nat} {xs : List Value} (h : Owns W B e v l) (hBw : B ≤ W.heap.size) (hb : Below B w W) (hk : Lib.OthersKept e none w W)
    (h' : w'.ownsRow B e 1 v' n xs) (hn : n = (l ++ m).length) (hx : xs = Lib.byteCells (l ++ m)) (hg : W.grownBy w' v.ownBlock) :
    Owns w' B e v' (l ++ m) ∧ Below B w w' ∧ Lib.OthersKept e none w w' := by
  subst hn hx
  exact ⟨h', hb.grown hg hBw (fun k hk => (h.lt k hk).1), hk.grown hg h.kind⟩
/-- What is owned stays owned while a string's iterator is moved on: an iterator's block holds no cells. -/
theorem Owns.iterAt {w : World} {B : Nat} {e : TypeId} {v : Value} {l : List UInt8} (h : Owns w B e v l) {k : Nat} {s : ByteArray} {pos : Nat} (hk : w.heap[k]? = some (.stringIter s pos)) (pos' : Nat) : Owns (w.iterAt k s pos') B e v l := by
  obtain ⟨h1, h2⟩ := h
  refine ⟨h1, ?_⟩
  rcases h2 with h2 | ⟨g, cap, cur, a, b, c, d⟩
  · exact .inl h2
  · have hkg : g ≠ k := by
      intro e1
      rw [e1, hk] at c
      cases c
    exact .inr ⟨g, cap, cur, a, b, (Lib.iterAt_other w k g s pos' hkg).trans c, d⟩
end Go.Proofs.Ythfjkhmedpilnaa.Kit

/-
  The contract of letters.Check.
-/
namespace Go.Proofs.Ythfjkhmedpilnaa
open Go.RowKit

end Go.Proofs.Ythfjkhmedpilnaa

/-
  The contract of the document's own Check: it answers as the program's.
-/
namespace Go.Proofs.Ythfjkhmedpilnaa
open Go.RowKit

end Go.Proofs.Ythfjkhmedpilnaa

/-
  What Check and the document's say of any text.
-/
namespace Go.Proofs.Ythfjkhmedpilnaa
open Go.RowKit

/-- What Check says. -/
def ckE (t : List UInt8) : Int := if 65536 < t.length then 4 else Pl.chkE t
def ckAt (t : List UInt8) : Int := if 65536 < t.length then 0 else Pl.chkAt t
end Go.Proofs.Ythfjkhmedpilnaa
