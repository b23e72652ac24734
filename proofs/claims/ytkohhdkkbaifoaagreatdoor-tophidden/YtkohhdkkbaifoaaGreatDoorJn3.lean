/-
  Several texts, joined: VMath, ZMath, ZSheet, ZKit.
-/
import Derived.Test.YtkohhdkkbaifoaaGreatDoorJn1
import Derived.Test.YtkohhdkkbaifoaaGreatDoorJn2
import Derived.Deep.OwnRows
import Derived.Lib.SmallJoins
import Derived.Deep.QuietTactic
import Derived.BigQuiet
import Derived.Laws.EntriesVeiled
import Derived.RegionTactic
import Derived.Deep.RegionHeld3
import Derived.OrdersHeld
import Derived.Deep.DeepCutAuto
/-
  Keys added to letters: the mathematics.
-/
namespace Go.Proofs.YtkohhdkkbaifoaaGreatDoor.Vg

def there (kind a b : Nat) : Nat := if kind = 2 then (b + 26 - a) % 26 else if kind = 3 then (a + 26 - b) % 26 else (a + b) % 26
def back (kind c b : Nat) : Nat := if kind = 2 then (b + 26 - c) % 26 else if kind = 3 then (c + b) % 26 else (c + 26 - b) % 26
theorem there_lt (kind a b : Nat) : there kind a b < 26 := by unfold there; split <;> (try split) <;> omega
theorem back_there (kind : Nat) {a b : Nat} (ha : a < 26) (hb : b < 26) : back kind (there kind a b) b = a := by unfold back there; split <;> (try split) <;> omega
theorem there_back (kind : Nat) {c b : Nat} (hc : c < 26) (hb : b < 26) : there kind (back kind c b) b = c := by unfold back there; split <;> (try split) <;> omega
def num (c : UInt8) : Nat := c.toNat - 65
def ltr (n : Nat) : UInt8 := UInt8.ofNat (65 + n)
theorem num_ltr {n : Nat} (h : n < 26) : num (ltr n) = n := by unfold num ltr; rw [UInt8.toNat_ofNat']; omega
theorem ltr_num {c : UInt8} (h : 65 ≤ c.toNat ∧ c.toNat ≤ 90) : ltr (num c) = c := by
  unfold num ltr
  apply UInt8.toNat_inj.1
  rw [UInt8.toNat_ofNat']; omega
theorem num_lt {c : UInt8} (h : 65 ≤ c.toNat ∧ c.toNat ≤ 90) : num c < 26 := by unfold num; omega
theorem ltr_toNat {n : Nat} (h : n < 26) : (ltr n).toNat = 65 + n := by unfold ltr; rw [UInt8.toNat_ofNat']; omega
theorem ltr_ok {n : Nat} (h : n < 26) : 65 ≤ (ltr n).toNat ∧ (ltr n).toNat ≤ 90 := by rw [ltr_toNat h]; omega

/-- Letters alone. -/
def Ls (l : List UInt8) : Prop := ∀ c ∈ l, 65 ≤ c.toNat ∧ c.toNat ≤ 90
theorem Ls.at {l : List UInt8} (h : Ls l) {i : Nat} (hi : i < l.length) : 65 ≤ (l.getD i 0).toNat ∧ (l.getD i 0).toNat ≤ 90 := by
  rw [List.getD_eq_getElem?_getD, List.getElem?_eq_getElem hi]
  exact h _ (List.getElem_mem hi)
theorem getD_some {l : List UInt8} {i : Nat} (hi : i < l.length) : l.getD i 0 = l[i] := by rw [List.getD_eq_getElem?_getD, List.getElem?_eq_getElem hi]; rfl
theorem getD_map {f : Nat → UInt8} {n i : Nat} (hi : i < n) : ((List.range n).map f).getD i 0 = f i := by
  rw [getD_some (by simpa using hi)]; simp

/-- The key's letter for the place i; p: what is known of the text. -/
def kat (kind : Nat) (k p : List UInt8) (i : Nat) : Nat := if kind = 4 ∧ k.length ≤ i then num (p.getD (i - k.length) 0) else num (k.getD (i % k.length) 0)
theorem kat_lt {kind : Nat} {k p : List UInt8} {i : Nat} (hk : Ls k) (hp : Ls p) (h0 : 0 < k.length) (hi : k.length ≤ i → i - k.length < p.length) : kat kind k p i < 26 := by
  unfold kat
  split
  · next h => exact num_lt (hp.at (hi h.2))
  · exact num_lt (hk.at (Nat.mod_lt _ h0))
def wrL (kind : Nat) (k t : List UInt8) (m : Nat) : List UInt8 := (List.range m).map fun i => ltr (there kind (num (t.getD i 0)) (kat kind k t i))
def writeL (kind : Nat) (k t : List UInt8) : List UInt8 := wrL kind k t t.length
theorem wrL_length (kind : Nat) (k t : List UInt8) (m : Nat) : (wrL kind k t m).length = m := by simp [wrL]
theorem writeL_length (kind : Nat) (k t : List UInt8) : (writeL kind k t).length = t.length := wrL_length _ _ _ _
theorem wrL_succ (kind : Nat) (k t : List UInt8) (m : Nat) : wrL kind k t (m + 1) = wrL kind k t m ++ [ltr (there kind (num (t.getD m 0)) (kat kind k t m))] := by unfold wrL; rw [List.range_succ, List.map_append]; rfl
theorem writeL_at (kind : Nat) (k t : List UInt8) {i : Nat} (hi : i < t.length) : (writeL kind k t).getD i 0 = ltr (there kind (num (t.getD i 0)) (kat kind k t i)) := getD_map hi
theorem writeL_ls (kind : Nat) (k t : List UInt8) : Ls (writeL kind k t) := by
  intro c hc
  obtain ⟨i, _, rfl⟩ := List.mem_map.1 hc
  exact ltr_ok (there_lt _ _ _)
/-- KASISKI, letter by letter. -/
theorem again {kind : Nat} {k t : List UInt8} (h4 : kind ≠ 4) {i j : Nat} (hi : i < t.length) (hj : j < t.length) (hm : i % k.length = j % k.length) (e : t.getD i 0 = t.getD j 0) : (writeL kind k t).getD i 0 = (writeL kind k t).getD j 0 := by
  rw [writeL_at _ _ _ hi, writeL_at _ _ _ hj, e]
  have : kat kind k t i = kat kind k t j := by unfold kat; rw [if_neg (fun e => h4 e.1), if_neg (fun e => h4 e.1), hm]
  rw [this]

/-- The first place from j on, among n, at which q stands. -/
def nx {α : Type} [DecidableEq α] (p : Nat → α) (q : α) : Nat → Nat → Option Nat
  | _, 0 => none
  | j, n + 1 => if p j = q then some j else nx p q (j + 1) n
theorem ba_loop (b : ByteArray) : ∀ (n i : Nat) (r : List UInt8), b.size - i = n → ByteArray.toList.loop b i r = r.reverse ++ b.data.toList.drop i
  | 0, i, r, h => by
    unfold ByteArray.toList.loop
    have h1 : b.data.size = b.size := rfl
    rw [if_neg (by omega), List.drop_eq_nil_of_le (by simp; omega)]
    simp
  | n + 1, i, r, h => by
    unfold ByteArray.toList.loop
    have h1 : b.data.size = b.size := rfl
    have h2 : i < b.data.toList.length := by simp; omega
    rw [if_pos (by omega), ba_loop b n (i + 1) _ (by omega), List.drop_eq_getElem_cons h2]
    have h3 : b.get! i = b.data.toList[i] := by
      show b.data[i]! = _
      rw [getElem!_pos b.data i (by simpa using h2)]
      simp
    simp [h3]
theorem ba_toList (b : ByteArray) : b.toList = b.data.toList := by
  unfold ByteArray.toList
  rw [ba_loop b _ 0 [] rfl]
  simp
/-- Strings that differ, as '==' has them. -/
theorem ba_ne {a b : ByteArray} (h : ¬ a = b) : (a.toList == b.toList) = false := by
  rw [ba_toList, ba_toList]
  exact beq_false_of_ne fun e => h (by cases a; cases b; simp at e; rw [e])
theorem ba_eq {a b : ByteArray} (h : a = b) : (a.toList == b.toList) = true := by rw [h]; simp
end Go.Proofs.YtkohhdkkbaifoaaGreatDoor.Vg

/-
  Squares of letters: the mathematics.
-/
namespace Go.Proofs.YtkohhdkkbaifoaaGreatDoor.Zq
open Vg

/-- J is written as I. -/
def jI (c : UInt8) : UInt8 := if c = 74 then 73 else c
def alpha : List UInt8 := [65, 66, 67, 68, 69, 70, 71, 72, 73, 75, 76, 77, 78, 79, 80, 81, 82, 83, 84, 85, 86, 87, 88, 89, 90]
/-- A letter is laid behind the others, if it isn't there. -/
def addN (out : List UInt8) (c : UInt8) : List UInt8 := if c ∈ out then out else out ++ [c]
def layN (out l : List UInt8) : List UInt8 := l.foldl addN out
def laid (key : List UInt8) : List UInt8 := layN [] ((key ++ alpha).map jI)
theorem nodup_le : ∀ (a b : List UInt8), a.Nodup → (∀ x ∈ a, x ∈ b) → a.length ≤ b.length
  | [], _, _, _ => by simp
  | x :: a, b, hn, hs => by
    have hx := hs x (by simp)
    have hn' := List.nodup_cons.1 hn
    have := nodup_le a (b.erase x) hn'.2 (fun y hy => (List.mem_erase_of_ne (fun (e : y = x) => hn'.1 (by rw [← e]; exact hy))).2 (hs y (by simp [hy])))
    rw [List.length_erase_of_mem hx] at this
    have : 0 < b.length := List.length_pos_of_mem hx
    simp only [List.length_cons]
    omega
/-- Where a letter stands. -/
def at' (s : List UInt8) (c : UInt8) : Nat := s.idxOf c
theorem at_lt {s : List UInt8} {c : UInt8} (h : c ∈ s) : at' s c < s.length := List.idxOf_lt_length_of_mem h
theorem at_get {s : List UInt8} {c : UInt8} (h : c ∈ s) : s.getD (at' s c) 0 = c := by
  rw [getD_some (at_lt h)]
  exact List.getElem_idxOf (at_lt h)
theorem get_at {s : List UInt8} (hn : s.Nodup) {i : Nat} (hi : i < s.length) : at' s (s.getD i 0) = i := by
  rw [getD_some hi]
  exact List.Nodup.idxOf_getElem hn i hi
theorem at_inj {s : List UInt8} {c d : UInt8} (hc : c ∈ s) (hd : d ∈ s) (e : at' s c = at' s d) : c = d := by rw [← at_get hc, e, at_get hd]

/-- What two places become, and where they come from. -/
def pairP (i j : Nat) : Nat × Nat :=
  if i / 5 = j / 5 then (5 * (i / 5) + (i % 5 + 1) % 5, 5 * (j / 5) + (j % 5 + 1) % 5)
  else if i % 5 = j % 5 then (5 * ((i / 5 + 1) % 5) + i % 5, 5 * ((j / 5 + 1) % 5) + j % 5)
  else (5 * (i / 5) + j % 5, 5 * (j / 5) + i % 5)
def unP (i j : Nat) : Nat × Nat :=
  if i / 5 = j / 5 then (5 * (i / 5) + (i % 5 + 4) % 5, 5 * (j / 5) + (j % 5 + 4) % 5)
  else if i % 5 = j % 5 then (5 * ((i / 5 + 4) % 5) + i % 5, 5 * ((j / 5 + 4) % 5) + j % 5)
  else (5 * (i / 5) + j % 5, 5 * (j / 5) + i % 5)
theorem pairP_all : ∀ i : Fin 25, ∀ j : Fin 25, (pairP i j).1 < 25 ∧ (pairP i j).2 < 25 ∧ (i ≠ j → (pairP i j).1 ≠ (pairP i j).2 ∧ (pairP i j).1 ≠ i.val ∧ (pairP i j).2 ≠ j.val ∧ unP (pairP i j).1 (pairP i j).2 = (i.val, j.val)) ∧ pairP j i = ((pairP i j).2, (pairP i j).1) := by decide +kernel
theorem pairP_ok {i j : Nat} (hi : i < 25) (hj : j < 25) : (pairP i j).1 < 25 ∧ (pairP i j).2 < 25 ∧ (i ≠ j → (pairP i j).1 ≠ (pairP i j).2 ∧ (pairP i j).1 ≠ i ∧ (pairP i j).2 ≠ j ∧ unP (pairP i j).1 (pairP i j).2 = (i, j)) ∧ pairP j i = ((pairP i j).2, (pairP i j).1) := by
  have h := pairP_all ⟨i, hi⟩ ⟨j, hj⟩
  exact ⟨h.1, h.2.1, fun e => h.2.2.1 (fun e2 => e (by simpa using congrArg Fin.val e2)), h.2.2.2⟩
/-- What two letters become in a square, and where they come from. -/
def enc (s : List UInt8) (a b : UInt8) : UInt8 × UInt8 := (s.getD (pairP (at' s a) (at' s b)).1 0, s.getD (pairP (at' s a) (at' s b)).2 0)
def dec (s : List UInt8) (a b : UInt8) : UInt8 × UInt8 := (s.getD (unP (at' s a) (at' s b)).1 0, s.getD (unP (at' s a) (at' s b)).2 0)
/-- A square: 25 letters, each once. -/
structure Sq (s : List UInt8) : Prop where
  len : s.length = 25
  nodup : s.Nodup
  mem : ∀ c, c ∈ s ↔ c ∈ alpha
theorem Sq.get {s : List UInt8} (h : Sq s) {i : Nat} (hi : i < 25) : s.getD i 0 ∈ s ∧ at' s (s.getD i 0) = i := by
  have hl := h.len
  exact ⟨by rw [getD_some (by omega)]; exact List.getElem_mem _, get_at h.nodup (by omega)⟩
theorem Sq.at_lt {s : List UInt8} (h : Sq s) {c : UInt8} (hc : c ∈ s) : at' s c < 25 := by have := Zq.at_lt hc; rw [h.len] at this; exact this
theorem enc_ok {s : List UInt8} (h : Sq s) {a b : UInt8} (ha : a ∈ s) (hb : b ∈ s) (hab : a ≠ b) :
    (enc s a b).1 ∈ s ∧ (enc s a b).2 ∈ s ∧ (enc s a b).1 ≠ (enc s a b).2 ∧ (enc s a b).1 ≠ a ∧ (enc s a b).2 ≠ b ∧ dec s (enc s a b).1 (enc s a b).2 = (a, b) ∧ enc s b a = ((enc s a b).2, (enc s a b).1) := by
  have hi := h.at_lt ha
  have hj := h.at_lt hb
  have hij : at' s a ≠ at' s b := fun e => hab (at_inj ha hb e)
  obtain ⟨p1, p2, p3, p4⟩ := pairP_ok hi hj
  obtain ⟨q1, q2, q3, q4⟩ := p3 hij
  have g1 := h.get p1
  have g2 := h.get p2
  refine ⟨g1.1, g2.1, fun e => q1 ?_, fun e => q2 ?_, fun e => q3 ?_, ?_, ?_⟩
  · rw [← g1.2, ← g2.2]; exact congrArg (at' s) e
  · rw [← g1.2]; exact congrArg (at' s) e
  · rw [← g2.2]; exact congrArg (at' s) e
  · unfold dec enc
    simp only
    rw [g1.2, g2.2, q4, at_get ha, at_get hb]
  · unfold enc
    rw [p4]
/-- Two by two. -/
def twos (f : UInt8 → UInt8 → UInt8 × UInt8) : List UInt8 → List UInt8
  | a :: b :: r => (f a b).1 :: (f a b).2 :: twos f r
  | _ => []
/-- Pairs that are pairs: an even number of letters, no J, no two alike in one. -/
inductive Good : List UInt8 → Prop
  | nil : Good []
  | two {a b : UInt8} {r : List UInt8} (ha : a ∈ alpha) (hb : b ∈ alpha) (hab : a ≠ b) (hr : Good r) : Good (a :: b :: r)
theorem Good.even {l : List UInt8} (h : Good l) : l.length % 2 = 0 := by
  induction h with
  | nil => rfl
  | two _ _ _ _ ih => simp; omega
/-- The other way round. -/
def turn : List UInt8 → List UInt8 := twos fun a b => (b, a)
/-- NO LETTER STANDS FOR ITSELF. -/
theorem never {s : List UInt8} (hs : Sq s) {l : List UInt8} (h : Good l) : ∀ i, i < l.length → (twos (enc s) l).getD i 0 ≠ l.getD i 0 := by
  induction h with
  | nil => intro i hi; simp at hi
  | two ha hb hab _ ih =>
    have e := enc_ok hs ((hs.mem _).2 ha) ((hs.mem _).2 hb) hab
    intro i hi
    match i, hi with
    | 0, _ => exact e.2.2.2.1
    | 1, _ => exact e.2.2.2.2.1
    | i + 2, hi => exact ih i (by simpa using hi)
/-- What is wrong with pairs that are to be read: the first J, or the second one of a pair that is as its first one. -/
def wrong (t : List UInt8) (i : Nat) : Bool := decide (t.getD i 0 = 74 ∨ (i % 2 = 1 ∧ t.getD i 0 = t.getD (i - 1) 0))
end Go.Proofs.YtkohhdkkbaifoaaGreatDoor.Zq

/-
  Squares of letters as 77 cells: the letters by their places, and the places by their letters.
-/
namespace Go.Proofs.YtkohhdkkbaifoaaGreatDoor.Zq
open Vg PK

/-- What is laid behind m letters. -/
def lay (l : List UInt8) (m : Nat) : List UInt8 := layN [] ((l.take m).map jI)
/-- Where the letter k stands: 0 where it stands nowhere. -/
def pl (L : List UInt8) (k : Nat) : Nat := if ltr k ∈ L then at' L (ltr k) else 0
end Go.Proofs.YtkohhdkkbaifoaaGreatDoor.Zq

/-
  Laws of no program: bytes in rows, and what is made of them.
-/
namespace Go.Proofs.YtkohhdkkbaifoaaGreatDoor
open Go.RowKit PK Vg Zq

theorem ls_of {l : List UInt8} (h : Pl.Lets l) : Ls l := fun c hc => by
  have := h c hc
  simp [Pl.isL] at this
  omega
section
variable {P : Program} {ops : Array Oper} {Q : Exit → Act → World → Prop} {md : Region.Mode} {S : World → Prop}
/-- An operation that yields its value in every world that meets S is taken first. -/
theorem vtake (i d : Nat) (v : Value) {oi : Oper} {fuel : Nat} {listed : Array Bool} {tm : Array Value} {df : List Deferred} {w : World} (hi : ops[i]? = some oi) (hd : oi.dst = some d)
    (hs : Region.noSelect ops = true) (hf : Region.free md ops listed i = true) (hr : (Region.ready md ops listed).contains i = true)
    (hQ : ∀ c a a' w, Q (.panic c) a' w → Q (.panic c) a w) (hw : Region.wanted oi (yielded ops tm) = true) (hrun : ∀ W, S W → (execOp (Act.eval ⟨tm, df⟩) oi).run P W = .ok (.value v) W) (hS : S w)
    (h : wpAnyH P md ops Q S fuel (listed.setIfInBounds i true) ⟨tm.setIfInBounds d v, df⟩ w) : wpAnyH P md ops Q S (fuel + 1) listed ⟨tm, df⟩ w := by
  refine wpAnyH_take (i := i) (oi := oi) (v := v) hi hs hf hr (fun c a w => hQ c a _ w) (Or.inl ⟨hw, fun W hW => hrun W hW⟩) hS ?_
  rw [hd]
  exact h
end
theorem v_info_fault : (Tryz.prog.info? 35).map (·.size) = some 2 := by kernel_rfl
theorem results_cells2 {P : Program} {fn : Func} {p q : Tmp} {ty ty2 : TypeId} (h : fn.results = #[.cell p ty, .cell q ty2]) (tmps : Array Value) (w : World) (g g2 : Nat) (t t2 : TypeId) (cs cs2 : Array Value) (fr fr2 : Nat × Nat) (d d2 : TypeDesc)
    (hp : tmps.getD p undef = .pointer (some ⟨g, 0, none⟩)) (hq : tmps.getD q undef = .pointer (some ⟨g2, 0, none⟩)) (hg : w.heap[g]? = some (.cells cs t fr)) (hg2 : w.heap[g2]? = some (.cells cs2 t2 fr2))
    (hu : P.underlying ty = some d) (hd : (match d with | .struct _ | .array _ _ => true | _ => false) = true) (hi : (P.info? ty).map (·.size) = some cs.size)
    (hu2 : P.underlying ty2 = some d2) (hd2 : (match d2 with | .struct _ | .array _ _ => true | _ => false) = true) (hi2 : (P.info? ty2).map (·.size) = some cs2.size) :
    (results fn tmps).run P w = .ok (.tuple #[.agg cs, .agg cs2]) w := by
  have hp' : tmps[p]?.getD undef = .pointer (some ⟨g, 0, none⟩) := by simpa using hp
  have hq' : tmps[q]?.getD undef = .pointer (some ⟨g2, 0, none⟩) := by simpa using hq
  simp [results, h, hp', hq', asAddr, run_loadVar_row w g t ty cs fr d hg hu hd hi, run_loadVar_row w g2 t2 ty2 cs2 fr2 d2 hg2 hu2 hd2 hi2]
theorem v_info_byte : (Tryz.prog.info? 5).map (fun i => (i.zero, i.size, i.bytes)) = some (some (.int .u8 0), 1, 1) := by kernel_rfl
theorem x_info_parts {P : Program} {e : TypeId} {z : Value} {s b : Nat} (h : (P.info? e).map (fun i => (i.zero, i.size, i.bytes)) = some (some z, s, b)) : ∃ i, P.info? e = some i ∧ i.zero = some z ∧ i.size = s ∧ i.bytes = b := by
  obtain ⟨i, hi, hzz⟩ := Option.map_eq_some_iff.1 h
  simp only [Prod.mk.injEq] at hzz
  exact ⟨i, hi, hzz.1, hzz.2.1, hzz.2.2⟩
theorem v_cells_byte (acc : List UInt8) (b : UInt8) : Lib.byteCells acc ++ [.int .u8 (b.toNat : Int)] = Lib.byteCells (acc ++ [b]) := by simp [Lib.byteCells]
theorem getD_size {s : ByteArray} {i : Nat} (hi : i < s.size) : i < s.data.toList.length := by have := Pl.size_len s; omega
end Go.Proofs.YtkohhdkkbaifoaaGreatDoor
