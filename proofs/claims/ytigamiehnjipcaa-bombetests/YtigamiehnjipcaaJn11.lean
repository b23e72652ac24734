/-
  Several texts, joined: ORKn, OAl, ORKw, PEq, LOWr, LCPa.
-/
import Derived.Test.YtigamiehnjipcaaJn7
import Derived.Test.YtigamiehnjipcaaJn5
import Derived.Test.YtigamiehnjipcaaJn1
import Derived.Test.YtigamiehnjipcaaJn10
import Derived.Test.YtigamiehnjipcaaKRej
import Derived.Test.YtigamiehnjipcaaJn9
import Derived.Test.YtigamiehnjipcaaJn8
import Derived.Deep.DeepCutAuto
/-
  Contracts of the document's Spelt, Known and Mirror (chapter 8).
-/
namespace Go.Proofs.Ytigamiehnjipcaa
open Go.RowKit PK Vg

theorem o_decode (s : ByteArray) (pos : Nat) (hp : pos < s.size) (hl : Ls s.data.toList) : Utf8.decode s pos = ((s.data.toList.getD pos 0).toNat, 1) := by
  have hp' : pos < s.data.toList.length := by rw [← Pl.size_len]; exact hp
  rw [Pl.decode_eq, List.drop_eq_getElem_cons hp']
  have hm : s.data.toList[pos] ∈ s.data.toList := List.getElem_mem _
  have := hl _ hm
  rw [Pl.decL_low _ _ (by omega)]
  simp [List.getD, List.getElem?_eq_getElem hp']
/-- What a text of letters spells. -/
def spl (l : List UInt8) (i : Nat) : Int := if i < l.length then ((num (l.getD i 0) : Nat) : Int) else 0
structure SpAt (w W : World) (s : ByteArray) (pos : Nat) (f : Nat → Int) : Prop where
  r : RowAt W w.heap.size 25 (ints 26 fun _ => 0)
  o : RowAt W (w.heap.size + 1) 25 (ints 26 f)
  it : W.heap[w.heap.size + 1 + 1]? = some (.stringIter s pos)
  below : Below w.heap.size w W
def miB : List UInt8 := [89, 82, 85, 72, 81, 83, 76, 68, 80, 88, 78, 71, 79, 75, 77, 73, 69, 66, 70, 90, 67, 87, 86, 74, 65, 84]
def miC : List UInt8 := [70, 86, 80, 74, 73, 65, 79, 89, 69, 68, 82, 90, 88, 87, 71, 67, 84, 75, 85, 81, 83, 66, 78, 77, 72, 76]
/-- What Mirror says. -/
def miP (name : List UInt8) : Nat → Int := if name = [66] then spl miB else if name = [67] then spl miC else fun _ => 0
def miE (name : List UInt8) : Int := if name = [66] ∨ name = [67] then 0 else 7
theorem ls_dec {l : List UInt8} (h : (l.all fun c => decide (65 ≤ c.toNat ∧ c.toNat ≤ 90)) = true) : Ls l := fun c hc => by
  have := List.all_eq_true.1 h c hc
  simpa using this
theorem name_eq (A : List UInt8) (t : ByteArray) : (t.toList == A) = decide (t.data.toList = A) := by
  rw [ba_toList]
  by_cases h : t.data.toList = A
  · rw [decide_eq_true h, h]; simp
  · rw [decide_eq_false h]; exact beq_false_of_ne h
end Go.Proofs.Ytigamiehnjipcaa

/-
  The machine that alive asks: I, II, III, mirror B.
-/
namespace Go.Proofs.Ytigamiehnjipcaa
open Go.RowKit PK Vg

def kw1 : List UInt8 := [69, 75, 77, 70, 76, 71, 68, 81, 86, 90, 78, 84, 79, 87, 89, 72, 88, 85, 83, 80, 65, 73, 66, 82, 67, 74]
def kw2 : List UInt8 := [65, 74, 68, 75, 83, 73, 82, 85, 88, 66, 76, 72, 87, 84, 77, 67, 81, 71, 90, 78, 80, 89, 70, 86, 79, 69]
def kw3 : List UInt8 := [66, 68, 70, 72, 74, 76, 67, 80, 82, 84, 88, 86, 90, 78, 89, 69, 73, 87, 71, 65, 75, 77, 85, 83, 81, 79]
def kw4 : List UInt8 := [69, 83, 79, 86, 80, 90, 74, 65, 89, 81, 85, 73, 82, 72, 88, 76, 78, 70, 84, 71, 75, 68, 67, 77, 87, 66]
def kw5 : List UInt8 := [86, 90, 66, 82, 71, 73, 84, 89, 85, 80, 83, 68, 78, 72, 76, 88, 65, 87, 77, 74, 81, 79, 70, 69, 67, 75]
/-- What Known says of a name: what the letters go to, and the notch. -/
def knT : List (List UInt8 × List UInt8 × Nat) := [([73], kw1, 16), ([73, 73], kw2, 4), ([73, 73, 73], kw3, 21), ([73, 86], kw4, 9), ([86], kw5, 25)]
def knI (name : List UInt8) : Option (List UInt8 × List UInt8 × Nat) := knT.find? fun x => x.1 == name
def knW (name : List UInt8) : Nat → Int := match knI name with
  | some x => spl x.2.1
  | none => fun _ => 0
def knN (name : List UInt8) : List Nat := match knI name with
  | some x => [x.2.2]
  | none => []
def knE (name : List UInt8) : Int := match knI name with
  | some _ => 0
  | none => 7
def gAl : Gm := ⟨3, fun r => if r = 0 then spl kw1 else if r = 1 then spl kw2 else spl kw3, fun _ => 1, fun r _ => if r = 0 then 16 else if r = 1 then 4 else 21, 3, fun _ => 0, 3, fun _ => 0, spl miB, Pm.up fun i => i⟩
set_option maxRecDepth 100000 in
theorem al_gE : gE gAl = 0 := by decide +kernel
set_option maxRecDepth 100000 in
theorem al_wr : Om.wr (maOf gAl) (maOf gAl).st [65, 65, 65, 65, 65] = [66, 68, 90, 71, 79] := by decide +kernel
end Go.Proofs.Ytigamiehnjipcaa

/-
  Contract of the document's Known (chapter 8).
-/
namespace Go.Proofs.Ytigamiehnjipcaa
open Go.RowKit PK Vg

def knC : Array Value := #[.string ⟨#[73]⟩, .string ⟨#[69, 75, 77, 70, 76, 71, 68, 81, 86, 90, 78, 84, 79, 87, 89, 72, 88, 85, 83, 80, 65, 73, 66, 82, 67, 74]⟩, .string ⟨#[81]⟩, .string ⟨#[73, 73]⟩, .string ⟨#[65, 74, 68, 75, 83, 73, 82, 85, 88, 66, 76, 72, 87, 84, 77, 67, 81, 71, 90, 78, 80, 89, 70, 86, 79, 69]⟩, .string ⟨#[69]⟩, .string ⟨#[73, 73, 73]⟩, .string ⟨#[66, 68, 70, 72, 74, 76, 67, 80, 82, 84, 88, 86, 90, 78, 89, 69, 73, 87, 71, 65, 75, 77, 85, 83, 81, 79]⟩, .string ⟨#[86]⟩, .string ⟨#[73, 86]⟩, .string ⟨#[69, 83, 79, 86, 80, 90, 74, 65, 89, 81, 85, 73, 82, 72, 88, 76, 78, 70, 84, 71, 75, 68, 67, 77, 87, 66]⟩, .string ⟨#[74]⟩, .string ⟨#[86]⟩, .string ⟨#[86, 90, 66, 82, 71, 73, 84, 89, 85, 80, 83, 68, 78, 72, 76, 88, 65, 87, 77, 74, 81, 79, 70, 69, 67, 75]⟩, .string ⟨#[90]⟩]
theorem built_whl (f : Nat → Int) (a : Option Addr) (n c : Nat) : Try.prog.built 94 [(0, .agg (ints 26 f)), (1, .slice a n c)] = some (whl f (.slice a n c)) := by kernel_rfl
theorem built_whl0 : Try.prog.built 94 [] = some (whl (fun _ => 0) (.slice none 0 0)) := by kernel_rfl
theorem kn_none {name : List UInt8} (h : ∀ i, i < 5 → (knT.getD i ([], [], 0)).1 ≠ name) : knI name = none := by
  unfold knI
  rw [List.find?_eq_none]
  intro x hx hb
  obtain ⟨i, hi, e⟩ := List.mem_iff_getElem.1 hx
  have h1 := h i hi
  rw [List.getD_eq_getElem?_getD, List.getElem?_eq_getElem hi, e] at h1
  exact h1 (eq_of_beq hb)
theorem nums_row {W : World} {v : Value} {n : Nat} {f : Nat → Int} (h : NumsAt W v n f) (g : Nat) (c : Array Value) (hne : v.ownBlock ≠ some g) : NumsAt (W.setRow g c) v n f := by
  obtain ⟨a, cap, rfl, h2, h3⟩ := h
  refine ⟨a, cap, rfl, h2, fun i hi => ?_⟩
  obtain ⟨b, o, rfl, hcell⟩ := h3 i hi
  exact ⟨b, o, rfl, (cell_setRow_other W g c ⟨b, o + i, none⟩ (fun e => hne (congrArg some e))).trans hcell⟩
theorem nums_one (W : World) (x : Nat) : NumsAt (W.alloc (.cells #[.int .i64 (x : Nat)] 3)) (.slice (some ⟨W.heap.size, 0, none⟩) 1 1) [x].length (fun i => (([x].getD i 0 : Nat) : Int)) :=
  ⟨_, 1, rfl, (by decide : 1 ≤ maxLen), fun c hc => ⟨W.heap.size, 0, rfl, by
    have hc0 : c = 0 := by simpa using hc
    subst hc0
    exact (RowAt.new W 3 #[.int .i64 (x : Nat)]).cell rfl⟩⟩
end Go.Proofs.Ytigamiehnjipcaa

/-
  Laws of no program: '==' between two arrays of numbers.
-/
namespace Go.Proofs.Ytigamiehnjipcaa.PK
open Go.RowKit
def eqI (n : Nat) (f g : Nat → Int) : Bool := (List.range n).all fun i => f i == g i
theorem eqI_iff (n : Nat) (f g : Nat → Int) : eqI n f g = true ↔ ∀ i, i < n → f i = g i := by simp [eqI]
theorem eqI_refl (n : Nat) (f : Nat → Int) : eqI n f f = true := (eqI_iff n f f).2 fun _ _ => rfl
theorem eqI_of {n : Nat} {f g : Nat → Int} (h : ∀ i, i < n → f i = g i) : eqI n f g = true := (eqI_iff n f g).2 h
theorem run_part_ints {P : Program} (w : World) (e : TypeId) (he : P.underlying e = some (.int .i64)) (n : Nat) (f : Nat → Int) (i : Nat) (hi : i < n) : (part e (ints n f) i).run P w = .ok (.int .i64 (f i)) w := by
  simp [part, isAgg, Sem.run_bind, run_underlying he, ints_get f hi]
theorem run_equalIn_ints {P : Program} (w : World) (d : Nat) (t e : TypeId) (n : Nat) (hu : P.underlying t = some (.array n e)) (he : P.underlying e = some (.int .i64)) (hs : (P.info? e).map (·.size) = some 1) (f g : Nat → Int) :
    (Op.equalIn (d + 2) t (.agg (ints n f)) (.agg (ints n g))).run P w = .ok (eqI n f g) w := by
  cases hq : P.info? e with
  | none => simp [hq] at hs
  | some i =>
    have h1 : i.size = 1 := by simpa [hq] using hs
    have hsz : ∀ W, (sizeOf e).run P W = .ok 1 W := fun W => by simp [sizeOf, typeInfo, hq, h1]
    rw [Op.equalIn]
    simp only [Sem.run_bind, run_underlying hu, Result.andThen_ok, hsz, Nat.mul_one, Std.Legacy.Range.forIn_eq_forIn_range', Std.Legacy.Range.size, Nat.sub_zero, Nat.add_sub_cancel, Nat.div_one]
    unfold eqI
    rw [List.range_eq_range']
    have hL : ∀ i ∈ List.range' 0 n, i < n := fun i hi => by simp at hi; omega
    revert hL
    generalize List.range' 0 n = L
    intro hL
    induction L with
    | nil => simp
    | cons s L ih =>
      have hs' : s < n := hL s (by simp)
      have ih' := ih fun i hi => hL i (by simp [hi])
      rw [List.forIn_cons]
      simp only [Sem.run_bind, run_part_ints w e he n f s hs', run_part_ints w e he n g s hs', Result.andThen_ok, run_equalIn_int w d e .i64 .i64 (f s) (g s) he, List.all_cons]
      cases hb : (f s == g s)
      · simp
      · simp only [Bool.not_true, Bool.false_eq_true, if_false, Sem.run_pure, Result.andThen_ok, Bool.true_and]
        exact ih'
end Go.Proofs.Ytigamiehnjipcaa.PK

/-
  RotorWrites, for any Write, Known and Mirror that say what the document's say.
-/
namespace Go.Proofs.Ytigamiehnjipcaa
open Go.RowKit PK Vg

theorem run_neq_perm (f : Nat → Int) (w : World) : (Op.equalIn 10000 25 (.agg (ints 26 f)) (.agg (ints 26 f))).run Try.prog w = .ok true w := by
  have := run_equalIn_ints (P := Try.prog) w 9998 25 3 26 Try.underlying25 Try.underlying3 info_int f f
  rw [eqI_refl] at this
  exact this
theorem nums_new {W : World} {v : Value} {n : Nat} {f : Nat → Int} (h : NumsAt W v n f) (o : Obj) (c : Array Value) : NumsAt ((W.alloc o).setRow W.heap.size c) v n f := by
  obtain ⟨a, cap, rfl, h2, h3⟩ := h
  refine ⟨a, cap, rfl, h2, fun i hi => ?_⟩
  obtain ⟨b, p, rfl, hcell⟩ := h3 i hi
  have hl := cell_block hcell
  exact ⟨b, p, rfl, (cell_setRow_other (W.alloc o) W.heap.size c ⟨b, p + i, none⟩ (by simp at hl ⊢; omega)).trans ((World.cell?_alloc_lt _ _ _ hl).trans hcell)⟩
/-- Two wheels' variables. -/
structure WwS (w W : World) (q1 q2 : Nat) (f : Nat → Int) (R1 R2 : Value) (n : Nat) (k : Nat → Int) : Prop where
  a : RowAt W q1 94 (whl f R1)
  b : RowAt W q2 94 (whl f R2)
  n1 : NumsAt W R1 n k
  n2 : NumsAt W R2 n k
  below : Below w.heap.size w W
theorem WwS.drew {w W : World} {q1 q2 : Nat} {f : Nat → Int} {R1 R2 : Value} {n : Nat} {k : Nat → Int} (h : WwS w W q1 q2 f R1 R2 n k) : WwS w W.drew q1 q2 f R1 R2 n k := ⟨h.a, h.b, h.n1, h.n2, h.below.drew⟩
theorem below_row {B : Nat} {w W : World} (h : Below B w W) (q : Nat) (hq : B ≤ q) (c : Array Value) : Below B w (W.setRow q c) := Below.setRow h q hq c
end Go.Proofs.Ytigamiehnjipcaa

/-
  ChartPairs, over the contracts of Types and Chart.
-/
namespace Go.Proofs.Ytigamiehnjipcaa
open Go.RowKit PK Vg

theorem run_index_sl3 (V : Nat → Value) (k : Nat) (hk : k < 3) (w : World) : (Instr.index 33 (.agg (sl3 3 V)) (.int .i64 (k : Int))).run Try.prog w = .ok (V k) w := by
  have hs : (sizeOf 23).run Try.prog w = .ok 1 w := by
    obtain ⟨i, hi, hz⟩ := Option.map_eq_some_iff.1 v_info_nums
    simp [sizeOf, typeInfo, hi, hz]
  have hg : (sl3 3 V)[k]? = some (V k) := by rw [sl3_get _ _ hk, if_pos hk]
  have hp : (part 23 (sl3 3 V) k).run Try.prog w = .ok (V k) w := by
    unfold part isAgg
    simp [Sem.run_bind, run_underlying Try.underlying23, hg]
  generalize sl3 3 V = cs at *
  simp [Instr.index, asIntOf, Sem.run_bind, run_underlying Try.underlying33, hs, hk, hp]
theorem run_slice_sl3 (b : Nat) (W : World) : (Instr.sliceAt 33 (.pointer (some ⟨b, 0, none⟩)) none none none).run Try.prog W = .ok (.slice (some ⟨b, 0, none⟩) 3 3) W := by
  simp [Instr.sliceAt, Sem.run_bind, go_sem, run_underlying Try.underlying33]
/-- The machine, and what Types said. -/
structure PpS (w W : World) (a b c : Value) (rf pl : Nat → Int) (q3 : Nat) (V : Nat → Value) (C : Nat → Nat → Nat) : Prop where
  mg : MgAt w W a b c rf pl
  t : RowAt W q3 33 (sl3 3 V)
  tys : TysAt W V 3 C
  lt : w.heap.size < q3
section
variable {w W W' : World} {a b c : Value} {rf pl : Nat → Int} {q3 : Nat} {V : Nat → Value} {C : Nat → Nat → Nat}
end
theorem lists_of {W : World} {q : Nat} {V : Nat → Value} {C C2 : Nat → Nat → Nat} (h : RowAt W q 33 (sl3 3 V)) (ht : TysAt W V 3 C2) (he : ∀ i, i < 3 → typeOf (C2 i) = typeOf (C i)) : ListsAt W (.slice (some ⟨q, 0, none⟩) 3 3) 3 V (fun i => (typeOf (C i)).length) (fun i j => (((typeOf (C i)).getD j 0 : Nat) : Int)) := by
  refine ⟨q, 0, 3, rfl, fun i hi => ⟨?_, ?_⟩⟩
  · have := h.cell (sl3_get 3 V hi)
    rw [if_pos hi] at this
    rw [Nat.zero_add]
    exact this
  · have := ht i hi
    rw [he i hi] at this
    exact this
section
variable {w W W' : World} {a b c : Value} {rf pl : Nat → Int} {q3 q8 q9 : Nat} {V V2 : Nat → Value} {C C2 : Nat → Nat → Nat}
end
/-- The machine and two charts. -/
structure PtS (w W : World) (a b c : Value) (rf pl : Nat → Int) (q10 q11 : Nat) (C C2 : Nat → Nat → Nat) : Prop where
  mg : MgAt w W a b c rf pl
  ra : RowAt W q10 29 (ints 78 (flat C))
  rb : RowAt W q11 29 (ints 78 (flat C2))
section
variable {w W W' : World} {a b c : Value} {rf pl : Nat → Int} {q10 q11 : Nat} {C C2 : Nat → Nat → Nat}
theorem PtS.step (h : PtS w W a b c rf pl q10 q11 C C2) (hb : Below W.heap.size W W') : PtS w W' a b c rf pl q10 q11 C C2 := ⟨h.mg.step hb, h.ra.below hb h.ra.lt, h.rb.below hb h.rb.lt⟩
theorem PtS.alloc (h : PtS w W a b c rf pl q10 q11 C C2) (o : Obj) : PtS w (W.alloc o) a b c rf pl q10 q11 C C2 := h.step ((Below.refl _ _).alloc (Nat.le_refl _) o)
theorem PtS.drew (h : PtS w W a b c rf pl q10 q11 C C2) : PtS w W.drew a b c rf pl q10 q11 C C2 := ⟨h.mg.drew, h.ra, h.rb⟩
end
theorem PtS.other {w W : World} {a b c : Value} {rf pl : Nat → Int} {q10 q11 : Nat} {C C2 : Nat → Nat → Nat} (h : PtS w W a b c rf pl q10 q11 C C2) (p : Nat) (h1 : w.heap.size < p) (h2 : q10 < p) (h3 : q11 < p) (d : Array Value) : PtS w (W.setRow p d) a b c rf pl q10 q11 C C2 := ⟨h.mg.setRow _ h1 _, h.ra.rowOther _ _ (by omega), h.rb.rowOther _ _ (by omega)⟩
theorem flat_in {W : World} {g : Nat} {T : TypeId} {P : Nat → Nat → Nat} {j N : Nat} (h : RowAt W g T (ints N (flat P))) (hj : j * 26 + 26 ≤ N) : W.rangeAt g (j * 26) (ints 26 (Pm.up (P j))).toList := row_mid h _ _ fun i v hv => by
  obtain ⟨h1, rfl⟩ := at_ints hv
  rw [ints_get _ (by omega)]
  unfold flat Pm.up
  rw [show (j * 26 + i) / 26 = j by omega, show (j * 26 + i) % 26 = i by omega]
theorem steps_unplugged (M : Om.Ma) (at' : Nat → Nat) : ∀ k, Om.steps (Om.unplugged M) at' k = Om.steps M at' k
  | 0 => rfl
  | k + 1 => by
    show Om.step (Om.unplugged M) (Om.steps (Om.unplugged M) at' k) = Om.step M (Om.steps M at' k)
    rw [steps_unplugged M at' k]
    rfl
theorem chE_plugs {M : Om.Ma} (h : Om.Ok M) (k : Nat) {c : Nat} (hc : c < 26) : chE M k c = M.pl (chE (Om.unplugged M) k (M.pl c)) := by
  unfold chE
  rw [steps_unplugged]
  exact Om.now_plugs h _ hc
theorem chC_conj {M : Om.Ma} (h : Om.Ok M) (k : Nat) : ∀ i, i < 26 → Pm.conj (chC (Om.unplugged M) k) M.pl i = chC M k i := fun i hi => by
  have hU := Om.ok_unplugged h
  have hp := h.pl.lt i hi
  have e : Pm.inv M.pl i = M.pl i := Om.inv_unique h.pl hp (h.pl2 i hi)
  have hy : chE (Om.unplugged M) k (M.pl i) < 26 := (Om.now_perm hU (Om.steps (Om.unplugged M) (Om.unplugged M).st (k + 1))).lt _ hp
  show M.pl (chE (Om.unplugged M) (k + 3) (chE (Om.unplugged M) k (Pm.inv M.pl i))) = chE M (k + 3) (chE M k i)
  rw [e, chE_plugs h k hi, chE_plugs h (k + 3) (h.pl.lt _ hy), h.pl2 _ hy]
end Go.Proofs.Ytigamiehnjipcaa
