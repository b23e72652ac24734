/-
  Several texts, joined: ZMath, ZSheet, ZKit, ORef, ORWr.
-/
import Derived.Test.YthfjkhmedpilnaaJn17
import Derived.Test.YthfjkhmedpilnaaJn16
import Derived.Deep.OwnRows
import Derived.Lib.SmallJoins
import Derived.Deep.QuietTactic
import Derived.BigQuiet
import Derived.Laws.EntriesVeiled
import Derived.RegionTactic
import Derived.Deep.RegionHeld3
import Derived.OrdersHeld
import Derived.Deep.DeepCutAuto
import Derived.Test.YthfjkhmedpilnaaJn18
import Derived.Deep.Upon
import Derived.BigRegion
/-
  Squares of letters: the mathematics.
-/
namespace Go.Proofs.Ythfjkhmedpilnaa.Zq
open Vg

/-- J is written as I. -/
def jI (c : UInt8) : UInt8 := if c = 74 then 73 else c
def alpha : List UInt8 := [65, 66, 67, 68, 69, 70, 71, 72, 73, 75, 76, 77, 78, 79, 80, 81, 82, 83, 84, 85, 86, 87, 88, 89, 90]
/-- Letters without J. -/
def Nj (l : List UInt8) : Prop := ∀ c ∈ l, (65 ≤ c.toNat ∧ c.toNat ≤ 90) ∧ c ≠ 74
theorem mem_alpha (c : UInt8) : c ∈ alpha ↔ (65 ≤ c.toNat ∧ c.toNat ≤ 90) ∧ c ≠ 74 := by
  have h : ∀ n : Fin 256, (UInt8.ofNat n.val) ∈ alpha ↔ (65 ≤ (UInt8.ofNat n.val).toNat ∧ (UInt8.ofNat n.val).toNat ≤ 90) ∧ (UInt8.ofNat n.val) ≠ 74 := by decide +kernel
  have := h ⟨c.toNat, c.toNat_lt⟩
  simpa using this
/-- A letter is laid behind the others, if it isn't there. -/
def addN (out : List UInt8) (c : UInt8) : List UInt8 := if c ∈ out then out else out ++ [c]
def layN (out l : List UInt8) : List UInt8 := l.foldl addN out
def laid (key : List UInt8) : List UInt8 := layN [] ((key ++ alpha).map jI)
theorem nodup_le : ∀ (a b : List UInt8), a.Nodup → (∀ x ∈ a, x ∈ b) → a.length ≤ b.length
  | [], _, _, _ => by simp
  | x :: a, b, hn, hs => by
    have hx := hs x (by simp)
    have hn' := List.nodup_cons.1 hn
    have := nodup_le a (b.erase x) hn'.2 (fun y hy => (List.mem_erase_of_ne (fun (e : y = x) => hn'.1 (by rw [← e]; exact hy))).2 (hs y (by simp [hy])))
    rw [List.length_erase_of_mem hx] at this
    have : 0 < b.length := List.length_pos_of_mem hx
    simp only [List.length_cons]
    omega
/-- Where a letter stands. -/
def at' (s : List UInt8) (c : UInt8) : Nat := s.idxOf c
theorem get_at {s : List UInt8} (hn : s.Nodup) {i : Nat} (hi : i < s.length) : at' s (s.getD i 0) = i := by
  rw [getD_some hi]
  exact List.Nodup.idxOf_getElem hn i hi
/-- What two places become, and where they come from. -/
def pairP (i j : Nat) : Nat × Nat :=
  if i / 5 = j / 5 then (5 * (i / 5) + (i % 5 + 1) % 5, 5 * (j / 5) + (j % 5 + 1) % 5)
  else if i % 5 = j % 5 then (5 * ((i / 5 + 1) % 5) + i % 5, 5 * ((j / 5 + 1) % 5) + j % 5)
  else (5 * (i / 5) + j % 5, 5 * (j / 5) + i % 5)
def unP (i j : Nat) : Nat × Nat :=
  if i / 5 = j / 5 then (5 * (i / 5) + (i % 5 + 4) % 5, 5 * (j / 5) + (j % 5 + 4) % 5)
  else if i % 5 = j % 5 then (5 * ((i / 5 + 4) % 5) + i % 5, 5 * ((j / 5 + 4) % 5) + j % 5)
  else (5 * (i / 5) + j % 5, 5 * (j / 5) + i % 5)
/-- What two letters become in a square, and where they come from. -/
def enc (s : List UInt8) (a b : UInt8) : UInt8 × UInt8 := (s.getD (pairP (at' s a) (at' s b)).1 0, s.getD (pairP (at' s a) (at' s b)).2 0)
def dec (s : List UInt8) (a b : UInt8) : UInt8 × UInt8 := (s.getD (unP (at' s a) (at' s b)).1 0, s.getD (unP (at' s a) (at' s b)).2 0)
/-- A square: 25 letters, each once. -/
structure Sq (s : List UInt8) : Prop where
  len : s.length = 25
  nodup : s.Nodup
  mem : ∀ c, c ∈ s ↔ c ∈ alpha
theorem Sq.get {s : List UInt8} (h : Sq s) {i : Nat} (hi : i < 25) : s.getD i 0 ∈ s ∧ at' s (s.getD i 0) = i := by
  have hl := h.len
  exact ⟨by rw [getD_some (by omega)]; exact List.getElem_mem _, get_at h.nodup (by omega)⟩
/-- Two by two. -/
def twos (f : UInt8 → UInt8 → UInt8 × UInt8) : List UInt8 → List UInt8
  | a :: b :: r => (f a b).1 :: (f a b).2 :: twos f r
  | _ => []
/-- Pairs that are pairs: an even number of letters, no J, no two alike in one. -/
inductive Good : List UInt8 → Prop
  | nil : Good []
  | two {a b : UInt8} {r : List UInt8} (ha : a ∈ alpha) (hb : b ∈ alpha) (hab : a ≠ b) (hr : Good r) : Good (a :: b :: r)
theorem Good.even {l : List UInt8} (h : Good l) : l.length % 2 = 0 := by
  induction h with
  | nil => rfl
  | two _ _ _ _ ih => simp; omega
theorem Good.nj {l : List UInt8} (h : Good l) : Nj l := by
  induction h with
  | nil => intro c hc; simp at hc
  | two ha hb _ _ ih =>
    intro c hc
    simp at hc
    rcases hc with rfl | rfl | hc
    · exact (mem_alpha _).1 ha
    · exact (mem_alpha _).1 hb
    · exact ih c hc
theorem Good.ls {l : List UInt8} (h : Good l) : Ls l := fun c hc => (h.nj c hc).1
/-- The other way round. -/
def turn : List UInt8 → List UInt8 := twos fun a b => (b, a)
/-- The filler behind a letter, and pairs. -/
def fil (c : UInt8) : UInt8 := if c = 88 then 81 else 88
def prs : List UInt8 → List UInt8
  | [] => []
  | [a] => [a, fil a]
  | a :: b :: r => if a = b then a :: fil a :: prs (b :: r) else a :: b :: prs r
/-- What is wrong with pairs that are to be read: the first J, or the second one of a pair that is as its first one. -/
def wrong (t : List UInt8) (i : Nat) : Bool := decide (t.getD i 0 = 74 ∨ (i % 2 = 1 ∧ t.getD i 0 = t.getD (i - 1) 0))
end Go.Proofs.Ythfjkhmedpilnaa.Zq

/-
  Squares of letters as 77 cells: the letters by their places, and the places by their letters.
-/
namespace Go.Proofs.Ythfjkhmedpilnaa.Zq
open Vg PK

/-- All letters, J too. -/
def alpha26 : List UInt8 := [65, 66, 67, 68, 69, 70, 71, 72, 73, 74, 75, 76, 77, 78, 79, 80, 81, 82, 83, 84, 85, 86, 87, 88, 89, 90]
/-- What is laid behind m letters. -/
def lay (l : List UInt8) (m : Nat) : List UInt8 := layN [] ((l.take m).map jI)
/-- Where the letter k stands: 0 where it stands nowhere. -/
def pl (L : List UInt8) (k : Nat) : Nat := if ltr k ∈ L then at' L (ltr k) else 0
def shF (L : List UInt8) (i : Nat) : Value := if i < 25 then .int .u8 (L.getD i 0).toNat else if (i - 25) % 2 = 0 then .int .i64 ((pl L ((i - 25) / 2) / 5 : Nat)) else .int .i64 ((pl L ((i - 25) / 2) % 5 : Nat))
/-- A square's cells. -/
def shV (L : List UInt8) : Array Value := tab 77 (shF L)
/-- Which letters are there. -/
def knF (L : List UInt8) (k : Nat) : Bool := decide (ltr k ∈ L)
/-- What two places become so many steps on. -/
def movP (st i j : Nat) : Nat × Nat :=
  if i / 5 = j / 5 then (5 * (i / 5) + (i % 5 + st) % 5, 5 * (j / 5) + (j % 5 + st) % 5)
  else if i % 5 = j % 5 then (5 * ((i / 5 + st) % 5) + i % 5, 5 * ((j / 5 + st) % 5) + j % 5)
  else (5 * (i / 5) + j % 5, 5 * (j / 5) + i % 5)
def mov (st : Nat) (s : List UInt8) (a b : UInt8) : UInt8 × UInt8 := (s.getD (movP st (at' s a) (at' s b)).1 0, s.getD (movP st (at' s a) (at' s b)).2 0)
/-- The first place at which something is wrong. -/
def fw (t : List UInt8) : Option Nat := (List.range t.length).find? (wrong t)
end Go.Proofs.Ythfjkhmedpilnaa.Zq

/-
  Laws of no program: bytes in rows, and what is made of them.
-/
namespace Go.Proofs.Ythfjkhmedpilnaa
open Go.RowKit PK Vg Zq

section
variable {P : Program} {ops : Array Oper} {Q : Exit → Act → World → Prop} {md : Region.Mode} {S : World → Prop}
/-- An operation that yields its value in every world that meets S is taken first. -/
theorem vtake (i d : Nat) (v : Value) {oi : Oper} {fuel : Nat} {listed : Array Bool} {tm : Array Value} {df : List Deferred} {w : World} (hi : ops[i]? = some oi) (hd : oi.dst = some d)
    (hs : Region.noSelect ops = true) (hf : Region.free md ops listed i = true) (hr : (Region.ready md ops listed).contains i = true)
    (hQ : ∀ c a a' w, Q (.panic c) a' w → Q (.panic c) a w) (hw : Region.wanted oi (yielded ops tm) = true) (hrun : ∀ W, S W → (execOp (Act.eval ⟨tm, df⟩) oi).run P W = .ok (.value v) W) (hS : S w)
    (h : wpAnyH P md ops Q S fuel (listed.setIfInBounds i true) ⟨tm.setIfInBounds d v, df⟩ w) : wpAnyH P md ops Q S (fuel + 1) listed ⟨tm, df⟩ w := by
  refine wpAnyH_take (i := i) (oi := oi) (v := v) hi hs hf hr (fun c a w => hQ c a _ w) (Or.inl ⟨hw, fun W hW => hrun W hW⟩) hS ?_
  rw [hd]
  exact h
end
def byts (n : Nat) (g : Nat → UInt8) : Array Value := tab n fun i => .int .u8 (g i).toNat
/-- What has been written of l, and nought behind it. -/
def upTo (l : List UInt8) : Nat → UInt8 := fun i => l.getD i 0
/-- The bytes of s lie in block g. -/
def PlainAt (W : World) (g : Nat) (s : ByteArray) : Prop := ∀ j, j < s.size → W.cell? ⟨g, j, none⟩ = some (.int .u8 (s.data.toList.getD j 0).toNat)
theorem PlainAt.below {W W' : World} {g : Nat} {s : ByteArray} (h : PlainAt W g s) (hb : Below W.heap.size W W') : PlainAt W' g s := fun j hj => (hb.cell (p := ⟨g, j, none⟩) (cell_block (h j hj))).trans (h j hj)
theorem PlainAt.setCell {W : World} {g : Nat} {s : ByteArray} (h : PlainAt W g s) (a : Addr) (v : Value) (hne : g ≠ a.block) : PlainAt (W.setCell a v) g s := fun j hj => (World.cell?_setCell_other _ _ _ _ (by intro e; exact hne (congrArg Addr.block e).symm)).trans (h j hj)
def strLen : Value → Nat
  | .string s => s.size
  | _ => 0
theorem getD_size {s : ByteArray} {i : Nat} (hi : i < s.size) : i < s.data.toList.length := by have := Pl.size_len s; omega
/-- The beginning, up to what Read has told. -/
structure UAt (w W : World) (b : Nat) : Prop where
  row : RowAt W b 46 #[.int .i64 0, .int .i64 0]
  below : Below w.heap.size w W
  le : w.heap.size ≤ b
theorem UAt.step {w W W' : World} {b : Nat} (h : UAt w W b) (hb : Below W.heap.size W W') : UAt w W' b := ⟨h.row.below hb h.row.lt, h.below.trans (hb.mono h.below.size), h.le⟩
theorem UAt.set {w W : World} {b : Nat} (h : UAt w W b) : UAt w ((W.setCell ⟨b, 0, none⟩ (.int .i64 0)).setCell ⟨b, 1, none⟩ (.int .i64 0)) b :=
  ⟨(h.row.set 0 (.int .i64 0)).set 1 (.int .i64 0), (h.below.setCell (p := ⟨b, 0, none⟩) h.le _).setCell (p := ⟨b, 1, none⟩) h.le _, h.le⟩
theorem UAt.alloc {w W : World} {b : Nat} (h : UAt w W b) (o : Obj) : UAt w (W.alloc o) b := ⟨h.row.alloc o, h.below.alloc h.below.size o, h.le⟩
theorem UAt.cells {w W : World} {b : Nat} (h : UAt w W b) : W.cell? ⟨b, 0, none⟩ = some (.int .i64 0) ∧ W.cell? ⟨b, 1, none⟩ = some (.int .i64 0) ∧ W.frozen? ⟨b, 0, none⟩ = false ∧ W.frozen? ⟨b, 1, none⟩ = false := ⟨h.row.cell rfl, h.row.cell rfl, h.row.frozen 0, h.row.frozen 1⟩
end Go.Proofs.Ythfjkhmedpilnaa

/-
  Contracts of the document's inside and Notched (chapter 8).
-/
namespace Go.Proofs.Ythfjkhmedpilnaa
open Go.RowKit PK

theorem ins_upto {n : Nat} {f : Nat → Int} {k : Nat} (hk : k < n) (h : f k < 0 ∨ 25 < f k) : ins n f = false := by
  cases e : ins n f with
  | false => rfl
  | true => have := (ins_iff n f).1 e k hk; omega
/-- Does a wheel have a notch there? -/
def hasN (n : Nat) (f : Nat → Int) (a : Int) : Bool := (List.range n).any fun i => f i == a
end Go.Proofs.Ythfjkhmedpilnaa

/-
  Contract of the document's Wrong (chapter 8).
-/
namespace Go.Proofs.Ythfjkhmedpilnaa
open Go.RowKit PK

theorem v_info_mac : (Try.prog.info? 27).map (·.size) = some 55 := by kernel_rfl
theorem v_info_whl : (Try.prog.info? 62).map (·.size) = some 27 := by kernel_rfl
theorem v_zero_whl : (Try.prog.info? 62).map (·.zero) = some (some (.agg (whl (fun _ => 0) (.slice none 0 0)))) := by kernel_rfl
theorem v_zero_perm : (Try.prog.info? 25).map (·.zero) = some (some (.agg (ints 26 fun _ => 0))) := by kernel_rfl
theorem o_zero {P : Program} {t : TypeId} {z : Value} (h : (P.info? t).map (·.zero) = some (some z)) (w : World) : (zeroValue t).run P w = .ok z w := by
  cases hi : P.info? t with
  | none => simp [hi] at h
  | some i =>
    have h2 : i.zero = some z := by simpa [hi] using h
    simp [zeroValue, typeInfo, hi, h2]
/-- An array or a struct read out of the midst of a block. -/
theorem wpList_load_arr {P : Program} {ops : Array Oper} {rest : List Oper} {op : Oper} {a : Act} {w : World} {Q : Exit → Act → World → Prop} (hgd : op.guard = none) (ty : TypeId) (x : Operand) (ho : op.op = .load ty x)
    (b o : Nat) (hx : a.eval x = .pointer (some ⟨b, o, none⟩)) (cs : Array Value) (d : TypeDesc) (hc : w.rangeAt b o cs.toList)
    (hu : P.underlying ty = some d) (hd : d.isRow = true) (hi : (P.info? ty).map (·.size) = some cs.size)
    (h : wpList P ops Q rest (a.put op.dst (.agg cs)) w) : wpList P ops Q (op :: rest) a w :=
  wpList_load_mid hgd ty x ho b o hx cs.toList d hc hu hd (by rw [Array.length_toList]; exact hi) (by rw [Array.toArray_toList]; exact h)
theorem whl_one {f : Nat → Int} {v : Value} (h : v.oneCell' = true) : (whl f v).all (·.oneCell') = true := by
  unfold whl
  rw [Array.all_push, ints_one, h]
  rfl
theorem row_mid {w : World} {b : Nat} {T : TypeId} {c : Array Value} (h : RowAt w b T c) (o : Nat) (cs : Array Value) (e : ∀ i v, cs[i]? = some v → c[o + i]? = some v) : w.rangeAt b o cs.toList := fun j v hv => h.cell (e j v (by rw [← Array.getElem?_toList]; exact hv))
theorem at_ints {n : Nat} {f : Nat → Int} {i : Nat} {v : Value} (h : (ints n f)[i]? = some v) : i < n ∧ v = .int .i64 (f i) := by
  have h1 : i < n := by
    have := (Array.getElem?_eq_some_iff.1 h).1
    rw [ints_size] at this
    exact this
  rw [ints_get f h1] at h
  exact ⟨h1, (Option.some.inj h).symm⟩
theorem mid_wi {w : World} {b : Nat} {T : TypeId} {f : Nat → Int} {v : Value} (h : RowAt w b T (whl f v)) : w.rangeAt b 0 (ints 26 f).toList := row_mid h 0 _ fun i v hv => by
  obtain ⟨h1, rfl⟩ := at_ints hv
  rw [Nat.zero_add]
  exact whl_get f _ h1
theorem mid_rf {w : World} {b : Nat} {T : TypeId} {x y z : Value} {rf pl : Nat → Int} (h : RowAt w b T (mac x y z rf pl)) : w.rangeAt b 3 (ints 26 rf).toList := row_mid h 3 _ fun i v hv => by
  obtain ⟨h1, rfl⟩ := at_ints hv
  exact mac_rf _ _ _ _ _ h1
theorem mid_pl {w : World} {b : Nat} {T : TypeId} {x y z : Value} {rf pl : Nat → Int} (h : RowAt w b T (mac x y z rf pl)) : w.rangeAt b 29 (ints 26 pl).toList := row_mid h 29 _ fun i v hv => by
  obtain ⟨h1, rfl⟩ := at_ints hv
  exact mac_pl _ _ _ _ _ h1
/-- The machine in its variable, laid first. -/
structure MgAt (w W : World) (a b c : Value) (rf pl : Nat → Int) : Prop where
  row : RowAt W w.heap.size 27 (mac a b c rf pl)
  below : Below w.heap.size w W
theorem MgAt.new (w : World) (a b c : Value) (rf pl : Nat → Int) : MgAt w (w.alloc (.cells (mac a b c rf pl) 27)) a b c rf pl := ⟨RowAt.new w _ _, (Below.refl _ w).alloc (Nat.le_refl _) _⟩
section
variable {w W W' : World} {a b c : Value} {rf pl : Nat → Int}
theorem MgAt.step (h : MgAt w W a b c rf pl) (hb : Below W.heap.size W W') : MgAt w W' a b c rf pl := ⟨h.row.below hb h.row.lt, h.below.trans (hb.mono h.below.size)⟩
theorem MgAt.alloc (h : MgAt w W a b c rf pl) (o : Obj) : MgAt w (W.alloc o) a b c rf pl := ⟨h.row.alloc o, h.below.alloc h.below.size o⟩
theorem MgAt.drew (h : MgAt w W a b c rf pl) : MgAt w W.drew a b c rf pl := ⟨h.row, h.below.drew⟩
theorem MgAt.setRow (h : MgAt w W a b c rf pl) (g : Nat) (hg : w.heap.size < g) (l : Array Value) : MgAt w (W.setRow g l) a b c rf pl := ⟨h.row.rowOther _ _ (by omega), Below.setRow h.below _ (by omega) _⟩
theorem MgAt.c0 (h : MgAt w W a b c rf pl) : W.cell? ⟨w.heap.size, 0, none⟩ = some a := h.row.cell (mac_0 _ _ _ _ _)
theorem MgAt.c1 (h : MgAt w W a b c rf pl) : W.cell? ⟨w.heap.size, 1, none⟩ = some b := h.row.cell (mac_1 _ _ _ _ _)
theorem MgAt.c2 (h : MgAt w W a b c rf pl) : W.cell? ⟨w.heap.size, 2, none⟩ = some c := h.row.cell (mac_2 _ _ _ _ _)
theorem MgAt.lt (h : MgAt w W a b c rf pl) : w.heap.size < W.heap.size := h.row.lt
end
theorem whE_keep (g : Gm) (k : Nat) (h : whE g k ≠ 0) : ∀ n, k ≤ n → whE g n = whE g k
  | 0, hk => by rw [show k = 0 by omega]
  | n + 1, hk => by
    by_cases e : k = n + 1
    · rw [e]
    · have := whE_keep g k h n (by omega)
      show (if whE g n ≠ 0 then whE g n else _) = _
      rw [if_pos (by rw [this]; exact h), this]
section
variable {g : Gm}
theorem gE_1 (h : g.n < 1 ∨ 4 < g.n) : gE g = 5 := by unfold gE; rw [if_pos h]
theorem gE_2 (h : ¬ (g.n < 1 ∨ 4 < g.n)) (h2 : whE g g.n ≠ 0) : gE g = whE g g.n := by unfold gE; rw [if_neg h, if_pos h2]
/-- What is said behind the wheels. -/
def tl (st : Bool) (f : Nat → Int) (rest : Int) : Int := if Pm.wrong f ≠ 0 then Pm.wrong f else if undo st f = false then 1 else rest
def nl (n l : Nat) (f : Nat → Int) (rest : Int) : Int := if l ≠ n then 8 else if ins l f = false then 3 else rest
def gE4 (g : Gm) (k : Nat) : Int := if k = 0 then tl true g.rf (tl false g.pl 0) else if k = 1 then tl false g.pl 0 else 0
def gE5 (g : Gm) (k : Nat) : Int := if k = 0 then nl g.n g.rl g.ri (nl g.n g.sl g.st (gE4 g 0)) else if k = 1 then nl g.n g.sl g.st (gE4 g 0) else gE4 g 0
def gE3 (g : Gm) : Int := gE5 g 0
theorem undo_perm {st : Bool} {f : Nat → Int} {p : Nat → Nat} (hp : Pm.IsPerm p) (e : ∀ i, i < 26 → f i = (p i : Int)) : undo st f = true ↔ ∀ i, i < 26 → p (p i) = i ∧ (st = true → p i ≠ i) := by
  rw [undo_iff]
  constructor
  · intro h i hi
    obtain ⟨h1, h2⟩ := h i hi
    rw [e i hi, Int.toNat_natCast, e _ (hp.lt i hi)] at h1
    refine ⟨by omega, fun hs => ?_⟩
    have := h2 hs
    rw [e i hi] at this
    omega
  · intro h i hi
    obtain ⟨h1, h2⟩ := h i hi
    rw [e i hi, Int.toNat_natCast, e _ (hp.lt i hi), h1]
    refine ⟨rfl, fun hs => ?_⟩
    have := h2 hs
    omega
theorem undo_bad {st : Bool} {f : Nat → Int} {p : Nat → Nat} (hp : Pm.IsPerm p) (e : ∀ i, i < 26 → f i = (p i : Int)) {i : Nat} (hi : i < 26) (h : p (p i) ≠ i ∨ (st = true ∧ p i = i)) : undo st f = false := by
  cases hu : undo st f with
  | false => rfl
  | true =>
    have := (undo_perm hp e).1 hu i hi
    rcases h with h | h
    · exact absurd this.1 h
    · exact absurd h.2 (this.2 h.1)
theorem gE_3 (h : ¬ (g.n < 1 ∨ 4 < g.n)) (h2 : whE g g.n = 0) : gE g = gE3 g := by unfold gE; rw [if_neg h, if_neg (fun e => e h2)]; rfl
end
end Go.Proofs.Ythfjkhmedpilnaa
