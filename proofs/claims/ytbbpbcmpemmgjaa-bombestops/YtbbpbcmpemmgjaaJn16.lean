/-
  Several texts, joined: PKit, HKit, PMath, TPlain, TSmall, TKit.
-/
import Derived.WalkKit
import Derived.Below
import Derived.Deep.MidRow
import Derived.Deep.WholeRow
import GoSem.Core.Utf8
import Derived.Test.YtbbpbcmpemmgjaaChecked
import Derived.WalkSpells
import Derived.WalkSmall
import Derived.Laws.BytesString
import Derived.Lib.AppendStr
import Derived.Lib.UnsafeStr
import Derived.Lib.OthersKept
/-
  Laws of no program: arrays of a fixed length as functions of their places, whole blocks, and what becomes of them.
-/
namespace Go.Proofs.Ytbbpbcmpemmgjaa.PK
open Go.RowKit

theorem ret_int {k : IntKind} {a b : Int} (h : a = b) : Ending.returned (.int k a) = .returned (.int k b) := by rw [h]
def upd {α : Type} (f : Nat → α) (i : Nat) (v : α) : Nat → α := fun j => if j = i then v else f j
@[simp] theorem upd_same {α : Type} (f : Nat → α) (i : Nat) (v : α) : upd f i v i = v := by simp [upd]
theorem upd_other {α : Type} (f : Nat → α) {i j : Nat} (v : α) (h : j ≠ i) : upd f i v j = f j := by simp [upd, h]
def tab (n : Nat) (g : Nat → Value) : Array Value := ((List.range n).map g).toArray
theorem tab_size (n : Nat) (g : Nat → Value) : (tab n g).size = n := by simp [tab]
theorem tab_get {n : Nat} (g : Nat → Value) {i : Nat} (h : i < n) : (tab n g)[i]? = some (g i) := by simp [tab, h]
theorem tab_ext {n : Nat} {g g' : Nat → Value} (h : ∀ i, i < n → g i = g' i) : tab n g = tab n g' := by
  unfold tab
  congr 1
  exact List.map_congr_left fun i hi => h i (by simpa using hi)
theorem tab_set (n : Nat) (g : Nat → Value) (i : Nat) (v : Value) : (tab n g).setIfInBounds i v = tab n (upd g i v) := by
  apply Array.ext_getElem?
  intro j
  rw [Array.getElem?_setIfInBounds]
  by_cases hj : j < n
  · rw [tab_get _ hj, tab_get _ hj, tab_size]
    by_cases e : i = j
    · subst e; simp [hj]
    · simp [e, upd, Ne.symm e]
  · have h1 : (tab n g)[j]? = none := by simp [tab]; omega
    have h2 : (tab n (upd g i v))[j]? = none := by simp [tab]; omega
    rw [h1, h2, tab_size]
    by_cases e : i = j
    · subst e; simp [hj]
    · simp [e]
def ints (n : Nat) (f : Nat → Int) : Array Value := tab n fun i => .int .i64 (f i)
def bools (n : Nat) (f : Nat → Bool) : Array Value := tab n fun i => .bool (f i)
theorem ints_size (n : Nat) (f : Nat → Int) : (ints n f).size = n := tab_size _ _
theorem ints_get {n : Nat} (f : Nat → Int) {i : Nat} (h : i < n) : (ints n f)[i]? = some (.int .i64 (f i)) := tab_get _ h
theorem bools_get {n : Nat} (f : Nat → Bool) {i : Nat} (h : i < n) : (bools n f)[i]? = some (.bool (f i)) := tab_get _ h
theorem ints_ext {n : Nat} {f g : Nat → Int} (h : ∀ i, i < n → f i = g i) : ints n f = ints n g := tab_ext fun i hi => by rw [h i hi]
theorem bools_ext {n : Nat} {f g : Nat → Bool} (h : ∀ i, i < n → f i = g i) : bools n f = bools n g := tab_ext fun i hi => by rw [h i hi]
theorem ints_set (n : Nat) (f : Nat → Int) (i : Nat) (v : Int) : (ints n f).setIfInBounds i (.int .i64 v) = ints n (upd f i v) := by
  unfold ints
  rw [tab_set]
  exact tab_ext fun j _ => by by_cases e : j = i <;> simp [upd, e]
theorem bools_set (n : Nat) (f : Nat → Bool) (i : Nat) (v : Bool) : (bools n f).setIfInBounds i (.bool v) = bools n (upd f i v) := by
  unfold bools
  rw [tab_set]
  exact tab_ext fun j _ => by by_cases e : j = i <;> simp [upd, e]
theorem ints_one (n : Nat) (f : Nat → Int) : (ints n f).all (·.oneCell') = true := by
  rw [Array.all_eq_true_iff_forall_mem]
  intro v hv
  simp [ints, tab] at hv
  obtain ⟨i, _, rfl⟩ := hv
  rfl
theorem zero26 : (#[.int .i64 0, .int .i64 0, .int .i64 0, .int .i64 0, .int .i64 0, .int .i64 0, .int .i64 0, .int .i64 0, .int .i64 0, .int .i64 0, .int .i64 0, .int .i64 0, .int .i64 0, .int .i64 0, .int .i64 0, .int .i64 0, .int .i64 0, .int .i64 0, .int .i64 0, .int .i64 0, .int .i64 0, .int .i64 0, .int .i64 0, .int .i64 0, .int .i64 0, .int .i64 0] : Array Value) = ints 26 fun _ => 0 := rfl
theorem none26 : (#[.bool false, .bool false, .bool false, .bool false, .bool false, .bool false, .bool false, .bool false, .bool false, .bool false, .bool false, .bool false, .bool false, .bool false, .bool false, .bool false, .bool false, .bool false, .bool false, .bool false, .bool false, .bool false, .bool false, .bool false, .bool false, .bool false] : Array Value) = bools 26 fun _ => false := rfl

/-- 'p[k]' of an array's value whose elements are numbers. -/
theorem run_index_ints {P : Program} (t e : TypeId) (n : Nat) (hu : P.underlying t = some (.array n e)) (he : P.underlying e = some (.int .i64)) (hs : (P.info? e).map (·.size) = some 1) (f : Nat → Int) (k : Nat) (hk : k < n) (w : World) :
    (Instr.index t (.agg (ints n f)) (.int .i64 (k : Int))).run P w = .ok (.int .i64 (f k)) w := by
  cases hq : P.info? e with
  | none => simp [hq] at hs
  | some i =>
    have h1 : i.size = 1 := by simpa [hq] using hs
    have h2 : ((k : Int) < (n : Int)) := by omega
    simp [Instr.index, asIntOf, Sem.run_bind, run_underlying hu, part, isAgg, run_underlying he, sizeOf, typeInfo, hq, h1, hk, ints_get f hk]

/-- Block b holds the cells c, of type T, and none of them is barred from being written. -/
def RowAt (w : World) (b : Nat) (T : TypeId) (c : Array Value) : Prop := w.heap[b]? = some (.cells c T (0, 0))
theorem RowAt.new (w : World) (T : TypeId) (c : Array Value) : RowAt (w.alloc (.cells c T)) w.heap.size T c := heap_alloc_new w _
theorem RowAt.lt {w : World} {b : Nat} {T : TypeId} {c : Array Value} (h : RowAt w b T c) : b < w.heap.size := (Array.getElem?_eq_some_iff.1 h).1
theorem RowAt.alloc {w : World} {b : Nat} {T : TypeId} {c : Array Value} (h : RowAt w b T c) (o : Obj) : RowAt (w.alloc o) b T c := (Below.heap_alloc w o b h.lt).trans h
theorem RowAt.cell {w : World} {b : Nat} {T : TypeId} {c : Array Value} (h : RowAt w b T c) {i : Nat} {v : Value} (hi : c[i]? = some v) : w.cell? ⟨b, i, none⟩ = some v := (cell_of_row w b i c T (0, 0) h).trans hi
theorem RowAt.frozen {w : World} {b : Nat} {T : TypeId} {c : Array Value} (h : RowAt w b T c) (i : Nat) : w.frozen? ⟨b, i, none⟩ = false := frozen_of_row w b i c T h
theorem RowAt.set {w : World} {b : Nat} {T : TypeId} {c : Array Value} (h : RowAt w b T c) (i : Nat) (v : Value) : RowAt (w.setCell ⟨b, i, none⟩ v) b T (c.setIfInBounds i v) := heap_setCell_same w b i c T v h
theorem RowAt.setOther {w : World} {b : Nat} {T : TypeId} {c : Array Value} (h : RowAt w b T c) (a : Addr) (v : Value) (hb : b ≠ a.block) : RowAt (w.setCell a v) b T c := (heap_setCell_other w a b v hb).trans h
theorem RowAt.below {w w' : World} {b B : Nat} {T : TypeId} {c : Array Value} (h : RowAt w b T c) (hb : Below B w w') (hB : b < B) : RowAt w' b T c := (hb.block b hB).trans h
theorem RowAt.drew {w : World} {b : Nat} {T : TypeId} {c : Array Value} (h : RowAt w b T c) : RowAt w.drew b T c := h
theorem RowAt.row {w : World} {b : Nat} {T : TypeId} {c : Array Value} (h : RowAt w b T c) (c' : Array Value) : RowAt (w.setRow b c') b T c' := setRow_heap w b c c' T (0, 0) h
theorem RowAt.rowOther {w : World} {b : Nat} {T : TypeId} {c : Array Value} (h : RowAt w b T c) (g : Nat) (c' : Array Value) (hb : b ≠ g) : RowAt (w.setRow g c') b T c := (setRow_other w g b c' hb).trans h
theorem RowAt.range {w : World} {b : Nat} {T : TypeId} {c : Array Value} (h : RowAt w b T c) : w.rangeAt b 0 c.toList := fun j v hv => by
  have h1 : (⟨b, 0 + j, none⟩ : Addr) = ⟨b, j, none⟩ := by simp
  rw [h1]
  exact h.cell (by simpa using hv)
theorem Below.setRow {B : Nat} {a w : World} (h : Below B a w) (g : Nat) (hg : B ≤ g) (c : Array Value) : Below B a (w.setRow g c) :=
  ⟨h.os, h.tape, h.output, by have := h.size; simpa using this, fun k hk => (setRow_other w g k c (by omega)).trans (h.block k hk)⟩
theorem Below.rangeAt {B : Nat} {w w' : World} (h : Below B w w') {b o : Nat} {cs : List Value} (hc : w.rangeAt b o cs) (hb : b < B) : w'.rangeAt b o cs := fun j v hv => (h.cell (p := ⟨b, o + j, none⟩) hb).trans (hc j v hv)
end Go.Proofs.Ytbbpbcmpemmgjaa.PK

/-
  Laws of no program: slices of numbers and of such slices, read in a world; what is wrong with a matrix.
-/
namespace Go.Proofs.Ytbbpbcmpemmgjaa.PK
open Go.RowKit

/-- v is a slice of n numbers: in w number c is f c. -/
def NumsAt (w : World) (v : Value) (n : Nat) (f : Nat → Int) : Prop :=
  ∃ (a : Option Addr) (cap : Nat), v = .slice a n cap ∧ n ≤ maxLen ∧ ∀ c, c < n → ∃ b o, a = some ⟨b, o, none⟩ ∧ w.cell? ⟨b, o + c, none⟩ = some (.int .i64 (f c))
theorem cell_block {w : World} {a : Addr} {v : Value} (h : w.cell? a = some v) : a.block < w.heap.size := World.block_lt_of_cell? _ _ h
theorem NumsAt.below {w w' : World} {v : Value} {n : Nat} {f : Nat → Int} (h : NumsAt w v n f) (hb : Below w.heap.size w w') : NumsAt w' v n f := by
  obtain ⟨a, cap, h1, h2, h3⟩ := h
  refine ⟨a, cap, h1, h2, fun c hc => ?_⟩
  obtain ⟨b, o, e, hcell⟩ := h3 c hc
  exact ⟨b, o, e, (hb.cell (p := ⟨b, o + c, none⟩) (cell_block hcell)).trans hcell⟩
theorem NumsAt.alloc {w : World} {v : Value} {n : Nat} {f : Nat → Int} (h : NumsAt w v n f) (o : Obj) : NumsAt (w.alloc o) v n f := h.below ((Below.refl _ _).alloc (Nat.le_refl _) _)
theorem NumsAt.drew {w : World} {v : Value} {n : Nat} {f : Nat → Int} (h : NumsAt w v n f) : NumsAt w.drew v n f := h
theorem NumsAt.congr {w : World} {v : Value} {n : Nat} {f g : Nat → Int} (h : NumsAt w v n f) (e : ∀ c, c < n → f c = g c) : NumsAt w v n g := by
  obtain ⟨a, cap, h1, h2, h3⟩ := h
  refine ⟨a, cap, h1, h2, fun c hc => ?_⟩
  rw [← e c hc]
  exact h3 c hc
/-- A slice that is not empty has an address. -/
theorem NumsAt.form {w : World} {v : Value} {n : Nat} {f : Nat → Int} (h : NumsAt w v n f) (hn : 0 < n) : ∃ b o cap, v = .slice (some ⟨b, o, none⟩) n cap ∧ n ≤ maxLen ∧ ∀ c, c < n → w.cell? ⟨b, o + c, none⟩ = some (.int .i64 (f c)) := by
  obtain ⟨a, cap, h1, h2, h3⟩ := h
  obtain ⟨b, o, e, _⟩ := h3 0 hn
  subst e
  refine ⟨b, o, cap, h1, h2, fun c hc => ?_⟩
  obtain ⟨b', o', e', hcell⟩ := h3 c hc
  cases e'
  exact hcell
theorem NumsAt.len {w : World} {v : Value} {n : Nat} {f : Nat → Int} (h : NumsAt w v n f) : ∃ a cap, v = .slice a n cap ∧ n ≤ maxLen := by
  obtain ⟨a, cap, h1, h2, _⟩ := h
  exact ⟨a, cap, h1, h2⟩
theorem NumsAt.of_row {w : World} {g n cap : Nat} {T : TypeId} {f : Nat → Int} (h : RowAt w g T (ints n f)) (hn : n ≤ maxLen) : NumsAt w (.slice (some ⟨g, 0, none⟩) n cap) n f :=
  ⟨some ⟨g, 0, none⟩, cap, rfl, hn, fun c hc => ⟨g, 0, rfl, by have := h.cell (ints_get f hc); simpa using this⟩⟩
end Go.Proofs.Ytbbpbcmpemmgjaa.PK

/-
  Plain mathematics of no program: what is wrong with 26 numbers.
-/
namespace Go.Proofs.Ytbbpbcmpemmgjaa.Pm

/-- What is wrong at place i: 3 (out of range), 8 (goes where one ahead goes), else 0. -/
def bad (f : Nat → Int) (i : Nat) : Int := if f i < 0 ∨ 26 ≤ f i then 3 else if (List.range i).any (fun j => f j == f i) then 8 else 0
def wrongN (f : Nat → Int) : Nat → Int
  | 0 => 0
  | n + 1 => if wrongN f n ≠ 0 then wrongN f n else bad f n
def wrong (f : Nat → Int) : Int := wrongN f 26
theorem wrongN_keep (f : Nat → Int) (k n : Nat) (h : wrongN f k ≠ 0) (hn : k ≤ n) : wrongN f n = wrongN f k := by
  induction n with
  | zero => have : k = 0 := by omega
            subst this; rfl
  | succ n ih =>
    by_cases e : k = n + 1
    · rw [e]
    · have := ih (by omega)
      show (if wrongN f n ≠ 0 then wrongN f n else bad f n) = _
      rw [this, if_pos h]
theorem wrongN_succ (f : Nat → Int) (k : Nat) (h : wrongN f k = 0) : wrongN f (k + 1) = bad f k := by
  show (if wrongN f k ≠ 0 then wrongN f k else bad f k) = _
  rw [if_neg (by simp [h])]
theorem wrong_stop (f : Nat → Int) (k : Nat) (h : wrongN f k = 0) (hb : bad f k ≠ 0) (hk : k < 26) : wrong f = bad f k := by
  have h1 := wrongN_succ f k h
  have := wrongN_keep f (k + 1) 26 (by rw [h1]; exact hb) (by omega)
  unfold wrong
  rw [this, h1]
theorem wrong_end (f : Nat → Int) (k : Nat) (h : wrongN f k = 0) (hk : k = 26) : wrong f = 0 := by subst hk; exact h
def seen (f : Nat → Int) (k : Nat) (v : Nat) : Bool := (List.range k).any (fun j => f j == (v : Int))
theorem seen_succ (f : Nat → Int) (k v : Nat) : seen f (k + 1) v = (seen f k v || f k == (v : Int)) := by
  simp [seen, List.range_succ, List.any_append]
theorem bad_range (f : Nat → Int) (i : Nat) (h : f i < 0 ∨ 26 ≤ f i) : bad f i = 3 := by simp [bad, h]
theorem bad_fit (f : Nat → Int) (i n : Nat) (h : f i = (n : Int)) (hn : n < 26) (hs : seen f i n = true) : bad f i = 8 := by
  unfold bad
  rw [if_neg (by omega), if_pos (by rw [h]; exact hs)]
theorem bad_ok (f : Nat → Int) (i n : Nat) (h : f i = (n : Int)) (hn : n < 26) (hs : seen f i n = false) : bad f i = 0 := by
  unfold bad
  rw [if_neg (by omega), if_neg (by rw [h]; simpa [seen] using hs)]
theorem wrongN_zero (f : Nat → Int) : ∀ n, wrongN f n = 0 ↔ ∀ i, i < n → bad f i = 0
  | 0 => by simp [wrongN]
  | n + 1 => by
    have ih := wrongN_zero f n
    constructor
    · intro h i hi
      by_cases e : wrongN f n = 0
      · rw [wrongN_succ f n e] at h
        by_cases e2 : i = n
        · rw [e2]; exact h
        · exact ih.1 e i (by omega)
      · exact absurd ((wrongN_keep f n (n + 1) e (by omega)).symm.trans h) e
    · intro h
      rw [wrongN_succ f n (ih.2 fun i hi => h i (by omega))]
      exact h n (by omega)
theorem bad_zero (f : Nat → Int) (i : Nat) : bad f i = 0 ↔ (0 ≤ f i ∧ f i < 26 ∧ ∀ j, j < i → f j ≠ f i) := by
  unfold bad
  by_cases h1 : f i < 0 ∨ 26 ≤ f i
  · rw [if_pos h1]
    constructor
    · intro h; exact absurd h (by decide)
    · intro ⟨a, b, _⟩; omega
  · rw [if_neg h1]
    by_cases h2 : (List.range i).any (fun j => f j == f i) = true
    · rw [if_pos h2]
      simp at h2
      obtain ⟨j, hj, e⟩ := h2
      constructor
      · intro h; exact absurd h (by decide)
      · intro ⟨_, _, c⟩; exact absurd e (c j hj)
    · rw [if_neg h2]
      simp at h2
      simp only [true_iff]
      exact ⟨by omega, by omega, h2⟩
/-- A permutation, as a function on numbers below 26. -/
structure IsPerm (p : Nat → Nat) : Prop where
  lt : ∀ i, i < 26 → p i < 26
  inj : ∀ i j, i < 26 → j < 26 → p i = p j → i = j
def up (p : Nat → Nat) : Nat → Int := fun i => (p i : Int)
theorem wrong_zero (f : Nat → Int) : wrong f = 0 ↔ ∃ p, IsPerm p ∧ ∀ i, i < 26 → f i = (p i : Int) := by
  unfold wrong
  rw [wrongN_zero]
  constructor
  · intro h
    refine ⟨fun i => (f i).toNat, ⟨fun i hi => ?_, fun i j hi hj e => ?_⟩, fun i hi => ?_⟩
    · have := (bad_zero f i).1 (h i hi); show (f i).toNat < 26; omega
    · have h1 := (bad_zero f i).1 (h i hi)
      have h2 := (bad_zero f j).1 (h j hj)
      have e' : f i = f j := by have e : (f i).toNat = (f j).toNat := e; omega
      rcases Nat.lt_trichotomy i j with c | c | c
      · exact absurd e' (h2.2.2 i c)
      · exact c
      · exact absurd e'.symm (h1.2.2 j c)
    · have := (bad_zero f i).1 (h i hi); show f i = ((f i).toNat : Int); omega
  · rintro ⟨p, hp, he⟩ i hi
    rw [bad_zero, he i hi]
    have := hp.lt i hi
    refine ⟨by omega, by omega, fun j hj => ?_⟩
    rw [he j (by omega)]
    intro e
    have := hp.inj j i (by omega) hi (by omega)
    omega
theorem wrong_up (p : Nat → Nat) (hp : IsPerm p) : wrong (up p) = 0 := (wrong_zero _).2 ⟨p, hp, fun _ _ => rfl⟩
/-- What is wrong with the first of n that is wrong. -/
def firstBad (fs : Nat → Nat → Int) : Nat → Int
  | 0 => 0
  | n + 1 => if firstBad fs n ≠ 0 then firstBad fs n else wrong (fs n)
theorem firstBad_succ (fs : Nat → Nat → Int) (k : Nat) (h : firstBad fs k = 0) : firstBad fs (k + 1) = wrong (fs k) := by
  show (if firstBad fs k ≠ 0 then firstBad fs k else wrong (fs k)) = _
  rw [if_neg (by simp [h])]
theorem firstBad_keep (fs : Nat → Nat → Int) (k n : Nat) (h : firstBad fs k ≠ 0) (hn : k ≤ n) : firstBad fs n = firstBad fs k := by
  induction n with
  | zero => have : k = 0 := by omega
            subst this; rfl
  | succ n ih =>
    by_cases e : k = n + 1
    · rw [e]
    · have := ih (by omega)
      show (if firstBad fs n ≠ 0 then firstBad fs n else wrong (fs n)) = _
      rw [this, if_pos h]
theorem firstBad_stop (fs : Nat → Nat → Int) (k n : Nat) (h : firstBad fs k = 0) (hb : wrong (fs k) ≠ 0) (hk : k < n) : firstBad fs n = wrong (fs k) := by
  have h1 := firstBad_succ fs k h
  rw [firstBad_keep fs (k + 1) n (by rw [h1]; exact hb) (by omega), h1]
theorem nodup_le : ∀ (l m : List Nat), l.Nodup → (∀ x ∈ l, x ∈ m) → l.length ≤ m.length
  | [], _, _, _ => Nat.zero_le _
  | a :: l, m, hd, hs => by
    have ha : a ∈ m := hs a (by simp)
    have hd' := List.nodup_cons.1 hd
    have := nodup_le l (m.erase a) hd'.2 (fun x hx => by
      have hne : x ≠ a := fun e => hd'.1 (e ▸ hx)
      exact (List.mem_erase_of_ne hne).2 (hs x (by simp [hx])))
    rw [List.length_erase_of_mem ha] at this
    have hpos : 0 < m.length := List.length_pos_of_mem ha
    simp
    omega
theorem nodup_map (p : Nat → Nat) : ∀ (l : List Nat), l.Nodup → (∀ i ∈ l, ∀ j ∈ l, p i = p j → i = j) → (l.map p).Nodup
  | [], _, _ => by simp
  | a :: l, hd, hi => by
    have hd' := List.nodup_cons.1 hd
    rw [List.map_cons, List.nodup_cons]
    refine ⟨?_, nodup_map p l hd'.2 fun i h1 j h2 => hi i (by simp [h1]) j (by simp [h2])⟩
    intro h
    obtain ⟨x, hx, e⟩ := List.mem_map.1 h
    have := hi x (by simp [hx]) a (by simp) e
    exact hd'.1 (this ▸ hx)
theorem IsPerm.surj {p : Nat → Nat} (hp : IsPerm p) (j : Nat) (hj : j < 26) : ∃ i, i < 26 ∧ p i = j := by
  apply Classical.byContradiction
  intro hn
  have hn' : ∀ i, i < 26 → p i ≠ j := fun i hi e => hn ⟨i, hi, e⟩
  have h1 := nodup_map p (List.range 26) List.nodup_range (fun i hi k hk e => hp.inj i k (by simpa using hi) (by simpa using hk) e)
  have h2 := nodup_le _ ((List.range 26).erase j) h1 (fun x hx => by
    obtain ⟨i, hi, e⟩ := List.mem_map.1 hx
    have hi' : i < 26 := by simpa using hi
    have hne : x ≠ j := by rw [← e]; exact hn' i hi'
    exact (List.mem_erase_of_ne hne).2 (by rw [← e]; simpa using hp.lt i hi'))
  rw [List.length_erase_of_mem (by simpa using hj)] at h2
  simp at h2
/-- The letter that goes to j. -/
def inv (p : Nat → Nat) (j : Nat) : Nat := ((List.range 26).find? fun i => p i == j).getD 0
theorem IsPerm.inv_spec {p : Nat → Nat} (hp : IsPerm p) (j : Nat) (hj : j < 26) : inv p j < 26 ∧ p (inv p j) = j := by
  unfold inv
  cases h : (List.range 26).find? fun i => p i == j with
  | none =>
    obtain ⟨i, hi, e⟩ := hp.surj j hj
    have := List.find?_eq_none.1 h i (by simpa using hi)
    simp [e] at this
  | some i =>
    have h1 := List.find?_some h
    have h2 := List.mem_of_find?_eq_some h
    simp at h1 h2
    exact ⟨h2, h1⟩
theorem IsPerm.inv_left {p : Nat → Nat} (hp : IsPerm p) (i : Nat) (hi : i < 26) : inv p (p i) = i := by
  have := hp.inv_spec (p i) (hp.lt i hi)
  exact hp.inj _ _ this.1 hi this.2
theorem IsPerm.inv {p : Nat → Nat} (hp : IsPerm p) : IsPerm (inv p) :=
  ⟨fun i hi => (hp.inv_spec i hi).1, fun i j hi hj e => by
    have h1 := (hp.inv_spec i hi).2
    have h2 := (hp.inv_spec j hj).2
    rw [e, h2] at h1
    exact h1.symm⟩
theorem IsPerm.comp {p q : Nat → Nat} (hp : IsPerm p) (hq : IsPerm q) : IsPerm (fun i => q (p i)) :=
  ⟨fun i hi => hq.lt _ (hp.lt i hi), fun i j hi hj e => hp.inj i j hi hj (hq.inj _ _ (hp.lt i hi) (hp.lt j hj) e)⟩
theorem IsPerm.id : IsPerm (fun i => i) := ⟨fun _ h => h, fun _ _ _ _ e => e⟩
end Go.Proofs.Ytbbpbcmpemmgjaa.Pm

/-
  The plain mathematics of chapter 1 (letters), over lists of bytes; nothing here speaks of a program.
-/
namespace Go.Proofs.Ytbbpbcmpemmgjaa.Pl

/-! ### What a rune is written as -/
def tab : List (Int × List UInt8) :=
  [(196, [65, 69]), (228, [65, 69]), (198, [65, 69]), (230, [65, 69]),
   (214, [79, 69]), (246, [79, 69]), (216, [79, 69]), (248, [79, 69]), (338, [79, 69]), (339, [79, 69]),
   (220, [85, 69]), (252, [85, 69]), (223, [83, 83]), (197, [65, 65]), (229, [65, 65]),
   (201, [69]), (233, [69]), (200, [69]), (232, [69]), (202, [69]), (234, [69]),
   (192, [65]), (224, [65]), (194, [65]), (226, [65]), (260, [65]), (261, [65]),
   (199, [67]), (231, [67]), (262, [67]), (263, [67]), (321, [76]), (322, [76]),
   (323, [78]), (324, [78]), (209, [78]), (241, [78]), (346, [83]), (347, [83]),
   (377, [90]), (378, [90]), (379, [90]), (380, [90]), (46, [88]), (63, [88]), (33, [88])]
def look (r : Int) : List (Int × List UInt8) → List UInt8
  | [] => []
  | p :: t => if (r == p.1) = true then p.2 else look r t
def isL (c : Int) : Bool := decide (65 ≤ c ∧ c ≤ 90)
def Lets (l : List UInt8) : Prop := ∀ c ∈ l, isL c.toNat = true

/-! ### One rune off the head of a list of bytes -/
def byte (l : List UInt8) (k : Nat) : Nat := (l.getD k 0).toNat
theorem size_len (s : ByteArray) : s.size = s.data.toList.length := by cases s; rfl
/-! ### Fold -/
/-! ### Check -/
def bad (c : UInt8) : Bool := !isL c.toNat
def chkE (l : List UInt8) : Int := match l.findIdx? bad with | none => 0 | some _ => 2
def chkAt (l : List UInt8) : Int := match l.findIdx? bad with | none => 0 | some i => i
theorem chk_ok (l : List UInt8) (h : Lets l) : l.findIdx? bad = none := by
  rw [List.findIdx?_eq_none_iff]
  intro c hc
  simp [bad, h c hc]
theorem chk_all (l : List UInt8) (h : ∀ j (hj : j < l.length), isL (l[j].toNat) = true) : l.findIdx? bad = none := by
  apply chk_ok
  intro c hc
  obtain ⟨j, hj, rfl⟩ := List.getElem_of_mem hc
  exact h j hj
theorem chk_at (l : List UInt8) (k : Nat) (hk : k < l.length) (h : ∀ j (_ : j < k) (hj : j < l.length), isL (l[j].toNat) = true) (hb : isL (l[k].toNat) = false) : l.findIdx? bad = some k := by
  rw [List.findIdx?_eq_some_iff_getElem]
  refine ⟨hk, by simp [bad, hb], ?_⟩
  intro j hj
  simp [bad, h j hj (by omega)]

/-! ### Ungroup -/
/-! ### Group -/
end Go.Proofs.Ytbbpbcmpemmgjaa.Pl

/-
  The contract of letters.isLetter.
-/
namespace Go.Proofs.Ytbbpbcmpemmgjaa
open Go.RowKit

set_option maxHeartbeats 400000 in
theorem isLetter_any (c : Int) (w : World) :
    Calls Try.prog 75 #[.int .u8 c] w fun e w' => e = .returned (.bool (Pl.isL c)) ∧ w = w' := by
  by_cases h1 : 65 ≤ c
  · by_cases h2 : c ≤ 90
    · have e : Pl.isL c = true := by simp [Pl.isL]; omega
      go_enter Try.func75, Try.ntmps75
      go_wp2
      go_ret
      exact ⟨by rw [e]; rfl, rfl⟩
    · have e : Pl.isL c = false := by simp [Pl.isL]; omega
      go_enter Try.func75, Try.ntmps75
      go_wp2
      go_ret
      exact ⟨rfl, rfl⟩
  · have e : Pl.isL c = false := by simp [Pl.isL]; omega
    go_enter Try.func75, Try.ntmps75
    go_wp2
    go_ret
    exact ⟨rfl, rfl⟩

end Go.Proofs.Ytbbpbcmpemmgjaa

/-
  Laws of no program: bytes that a call owns, and what 'string(b)' makes of them.
-/
namespace Go.Proofs.Ytbbpbcmpemmgjaa.Kit
open Go.RowKit

/-- The slice v owns the bytes l, in blocks from B on (e: the byte type's number). -/
def Owns (w : World) (B : Nat) (e : TypeId) (v : Value) (l : List UInt8) : Prop := w.ownsRow B e 1 v l.length (Lib.byteCells l)

theorem foldl_push : ∀ (l : List UInt8) (s : ByteArray), (l.map fun b => (b.toNat : Int)).foldl (fun r n => r.push (UInt8.ofNat n.toNat)) s = ⟨s.data ++ l.toArray⟩
  | [], s => by cases s; simp
  | c :: t, s => by
    simp only [List.map_cons, List.foldl_cons]
    rw [foldl_push t]
    cases s
    simp [ByteArray.push]

theorem run_string_of_own {P : Program} (w : World) (src dst e : TypeId) (hs : P.underlying src = some (.slice e)) (he : P.underlying e = some (.int .u8)) (hd : P.underlying dst = some .string)
    {B : Nat} {v : Value} {l : List UInt8} (h : Owns w B e v l) : (convert src dst v).run P w = .ok (.string ⟨l.toArray⟩) w := by
  rcases h.2 with ⟨rfl, h0⟩ | ⟨g, cap, cur, rfl, _⟩
  · have : l = [] := List.eq_nil_of_length_eq_zero h0
    subst this
    rw [run_convert_bytes_string w src dst e _ _ _ hs he hd]
    simp [Conv.bytesToString, Sem.run_pure]
    rfl
  · rw [run_convert_bytes_string w src dst e _ _ _ hs he hd]
    have hl := run_loadCells_list (P := P) (w := w) ⟨g, 0, none⟩ (Lib.byteCells l) (h.cells rfl)
    rw [Lib.byteCells_length] at hl
    have e1 : Lib.byteCells l = (l.map fun b => (b.toNat : Int)).map (Value.int .u8) := by simp [Lib.byteCells]
    rw [e1] at hl
    rw [run_bytesToString w _ _ _ _ hl, foldl_push]
    simp

theorem Owns.nil (w : World) (B : Nat) (e : TypeId) : Owns w B e (.slice none 0 0) [] := World.ownsRow_nil w B e 1
theorem Owns.lt {w : World} {B : Nat} {e : TypeId} {v : Value} {l : List UInt8} (h : Owns w B e v l) : ∀ k, v.ownBlock = some k → B ≤ k ∧ k < w.heap.size := World.ownsRow.lt h
theorem Owns.kind {w : World} {B : Nat} {e : TypeId} {v : Value} {l : List UInt8} (h : Owns w B e v l) : ∀ g, v.ownBlock = some g → ∃ c fz, w.heap[g]? = some (.cells c e fz) := Lib.ownsRowF_kind (World.ownsRowF_of h)
/-- Behind a law on append: what is owned, and that below B and among the other blocks nothing has turned. -/
theorem Owns.grown {w W w' : World} {B : Nat} {e : TypeId} {v v' : Value} {l m : List UInt8} {n : Nat} {xs : List Value} (h : Owns W B e v l) (hBw : B ≤ W.heap.size) (hb : Below B w W) (hk : Lib.OthersKept e none w W)
    (h' : w'.ownsRow B e 1 v' n xs) (hn : n = (l ++ m).length) (hx : xs = Lib.byteCells (l ++ m)) (hg : W.grownBy w' v.ownBlock) :
    Owns w' B e v' (l ++ m) ∧ Below B w w' ∧ Lib.OthersKept e none w w' := by
  subst hn hx
  exact ⟨h', hb.grown hg hBw (fun k hk => (h.lt k hk).1), hk.grown hg h.kind⟩
/-- A result's two cells, laid first: they read as they did in every later world that keeps what lies below the next block. -/
theorem two_cells {w W : World} {a b : Value} {T : TypeId} (h : Below (w.heap.size + 1) (w.alloc (.cells #[a, b] T)) W) :
    W.cell? ⟨w.heap.size, 0, none⟩ = some a ∧ W.cell? ⟨w.heap.size, 1, none⟩ = some b ∧ W.frozen? ⟨w.heap.size, 0, none⟩ = false ∧ W.frozen? ⟨w.heap.size, 1, none⟩ = false ∧ w.heap.size < W.heap.size := by
  have hs := h.size
  simp at hs
  refine ⟨?_, ?_, ?_, ?_, by omega⟩
  · rw [h.cell (p := ⟨w.heap.size, 0, none⟩) (by simp)]; simp
  · rw [h.cell (p := ⟨w.heap.size, 1, none⟩) (by simp)]; simp
  · rw [h.frozen (p := ⟨w.heap.size, 0, none⟩) (by simp)]; simp
  · rw [h.frozen (p := ⟨w.heap.size, 1, none⟩) (by simp)]; simp
theorem read_two {W : World} {N : Nat} {a' b' : Value} (a b : Value) (h0 : W.cell? ⟨N, 0, none⟩ = some a') (h1 : W.cell? ⟨N, 1, none⟩ = some b') :
    ((W.setCell ⟨N, 0, none⟩ a).setCell ⟨N, 1, none⟩ b).cell? ⟨N, 0, none⟩ = some a ∧ ((W.setCell ⟨N, 0, none⟩ a).setCell ⟨N, 1, none⟩ b).cell? ⟨N, 1, none⟩ = some b := by
  have e0 := World.cell?_setCell_same W ⟨N, 0, none⟩ a h0
  have e1 : (W.setCell ⟨N, 0, none⟩ a).cell? ⟨N, 1, none⟩ = some b' := (World.cell?_setCell_other W _ _ _ (by simp)).trans h1
  exact ⟨(World.cell?_setCell_other _ _ _ _ (by simp)).trans e0, World.cell?_setCell_same _ _ _ e1⟩
theorem below_two {w W : World} {a b : Value} {T : TypeId} (h : Below (w.heap.size + 1) (w.alloc (.cells #[a, b] T)) W) (x y : Value) :
    Below w.heap.size w ((W.setCell ⟨w.heap.size, 0, none⟩ x).setCell ⟨w.heap.size, 1, none⟩ y) :=
  ((((Below.refl _ w).alloc (Nat.le_refl _) _).trans (h.mono (by omega))).setCell (by simp) _).setCell (by simp) _
end Go.Proofs.Ytbbpbcmpemmgjaa.Kit
