/-
  Several texts, joined: RgK, TeM.
-/
import Derived.Test.YtpdemelchhkfaaaJn22
import Derived.Test.YtpdemelchhkfaaaChecked
import Derived.WalkSpells
import Derived.WalkSmall
import Derived.Deep.OwnRows
import Derived.Lib.OthersKept
import Derived.Lib.SmallJoins
import Derived.Deep.QuietTactic
import Derived.BigQuiet
import Derived.Laws.EntriesVeiled
import Derived.Laws.AppendOwnNone
import Derived.RegionTactic
import Derived.Deep.RegionHeld3
import Derived.OrdersHeld
import Derived.Maps.AppendAt
import Derived.Deep.DeepCutAuto
/-
  Laws of no program, for registers: numbers that a call owns, rows, regions.
-/
namespace Go.Proofs.Ytpdemelchhkfaaa
open Go.RowKit PK

def nnums (l : List Nat) : List Value := l.map fun i => Value.int .i64 (i : Nat)
theorem nnums_length (l : List Nat) : (nnums l).length = l.length := by simp [nnums]
theorem nnums_append (l m : List Nat) : nnums (l ++ m) = nnums l ++ nnums m := by simp [nnums]
theorem nnums_one (l : List Nat) : ∀ u ∈ nnums l, u.oneCell' = true := fun u hu => by
  simp [nnums] at hu
  obtain ⟨i, _, rfl⟩ := hu
  rfl
def OwnsL (w : World) (B : Nat) (v : Value) (l : List Nat) : Prop := w.ownsRow B 3 1 v l.length (nnums l)
theorem OwnsL.nil (w : World) (B : Nat) : OwnsL w B (.slice none 0 0) [] := World.ownsRow_nil w B _ 1
theorem OwnsL.below {w w' : World} {B : Nat} {v : Value} {l : List Nat} (h : OwnsL w B v l) (hb : Below w.heap.size w w') : OwnsL w' B v l :=
  ⟨h.1, h.2.imp id fun ⟨g, cap, cur, a, b, c, d⟩ => ⟨g, cap, cur, a, b, (hb.block g (Array.getElem?_eq_some_iff.1 c).1).trans c, d⟩⟩
theorem OwnsL.form {w : World} {B : Nat} {v : Value} {l : List Nat} (h : OwnsL w B v l) : ∃ a c, v = .slice a l.length c := by
  rcases h.2 with ⟨rfl, h0⟩ | ⟨g', cap, cur, rfl, _⟩
  · exact ⟨none, 0, by rw [h0]⟩
  · exact ⟨_, _, rfl⟩
theorem OwnsL.nums {w : World} {B : Nat} {v : Value} {l : List Nat} (h : OwnsL w B v l) : NumsAt w v l.length (fun c => ((l.getD c 0 : Nat) : Int)) := by
  have hx := h
  rcases h.2 with ⟨rfl, h0⟩ | ⟨g, cap, cur, rfl, hbg, hg, hnc, hcm, hcs, htake⟩
  · exact ⟨none, 0, by rw [h0], by rw [h0]; decide, fun c hc => by omega⟩
  · refine ⟨some ⟨g, 0, none⟩, cap, rfl, by omega, fun c hc => ⟨g, 0, rfl, ?_⟩⟩
    have h1 : (nnums l)[c]? = some (.int .i64 ((l.getD c 0 : Nat) : Int)) := by simp [nnums, List.getD, hc]
    have := World.ownsRow.cells (g := g) hx rfl c _ h1
    have e : ((⟨g, 0, none⟩ : Addr).add c) = ⟨g, 0 + c, none⟩ := by unfold Addr.add; by_cases e0 : c = 0 <;> simp [e0]
    rw [e] at this
    exact this
theorem y_info_parts {P : Program} {e : TypeId} {z : Value} {b : Nat} (h : (P.info? e).map (fun i => (i.zero, i.size, i.bytes)) = some (some z, 1, b)) : ∃ i, P.info? e = some i ∧ i.zero = some z ∧ i.size = 1 ∧ i.bytes = b := by
  obtain ⟨i, hi, hzz⟩ := Option.map_eq_some_iff.1 h
  simp only [Prod.mk.injEq] at hzz
  exact ⟨i, hi, hzz.1, hzz.2.1, hzz.2.2⟩
theorem own_step {w w' : World} {B : Nat} {T : TypeId} {s n : Nat} {v : Value} {l : List Value} (h : w.ownsRow B T s v n l) (hb : Below w.heap.size w w') : w'.ownsRow B T s v n l := by
  obtain ⟨h1, h2⟩ := h
  refine ⟨h1, ?_⟩
  rcases h2 with h2 | ⟨g, cap, cur, e, hB, hg, h3⟩
  · exact .inl h2
  · exact .inr ⟨g, cap, cur, e, hB, (hb.block g (Array.getElem?_eq_some_iff.1 hg).1).trans hg, h3⟩
theorem own_drew {w : World} {B : Nat} {T : TypeId} {s n : Nat} {v : Value} {l : List Value} (h : w.ownsRow B T s v n l) : w.drew.ownsRow B T s v n l := h
theorem grown_set (W : World) (q i : Nat) (v : Value) : W.grownBy (W.setCell ⟨q, i, none⟩ v) (some q) := by
  have := (Below.refl 0 W).setCell (p := ⟨q, i, none⟩) (Nat.zero_le _) v
  exact ⟨this.os, this.tape, this.output, this.size, fun k _ hne => heap_setCell_other W ⟨q, i, none⟩ k v (fun e => hne (by rw [e]))⟩
theorem grown_trans {W V U : World} {r : Option Nat} (h1 : W.grownBy V r) (h2 : V.grownBy U r) : W.grownBy U r :=
  ⟨h2.os.trans h1.os, h2.tape.trans h1.tape, h2.output.trans h1.output, Nat.le_trans h1.size h2.size, fun k hk hne => (h2.block k (Nat.lt_of_lt_of_le hk h1.size) hne).trans (h1.block k hk hne)⟩
section
variable {P : Program} {ops : Array Oper} {Q : Exit → Act → World → Prop} {md : Region.Mode} {S : World → Prop}
theorem vtake (i d : Nat) (v : Value) {oi : Oper} {fuel : Nat} {listed : Array Bool} {tm : Array Value} {df : List Deferred} {w : World} (hi : ops[i]? = some oi) (hd : oi.dst = some d)
    (hs : Region.noSelect ops = true) (hf : Region.free md ops listed i = true) (hr : (Region.ready md ops listed).contains i = true)
    (hQ : ∀ c a a' w, Q (.panic c) a' w → Q (.panic c) a w) (hw : Region.wanted oi (yielded ops tm) = true) (hrun : ∀ W, S W → (execOp (Act.eval ⟨tm, df⟩) oi).run P W = .ok (.value v) W) (hS : S w)
    (h : wpAnyH P md ops Q S fuel (listed.setIfInBounds i true) ⟨tm.setIfInBounds d v, df⟩ w) : wpAnyH P md ops Q S (fuel + 1) listed ⟨tm, df⟩ w := by
  refine wpAnyH_take (i := i) (oi := oi) (v := v) hi hs hf hr (fun c a w => hQ c a _ w) (Or.inl ⟨hw, fun W hW => hrun W hW⟩) hS ?_
  rw [hd]
  exact h
end
theorem x_info_parts {P : Program} {e : TypeId} {z : Value} {s b : Nat} (h : (P.info? e).map (fun i => (i.zero, i.size, i.bytes)) = some (some z, s, b)) : ∃ i, P.info? e = some i ∧ i.zero = some z ∧ i.size = s ∧ i.bytes = b := by
  obtain ⟨i, hi, hzz⟩ := Option.map_eq_some_iff.1 h
  simp only [Prod.mk.injEq] at hzz
  exact ⟨i, hi, hzz.1, hzz.2.1, hzz.2.2⟩
theorem o_zero {P : Program} {t : TypeId} {z : Value} (h : (P.info? t).map (·.zero) = some (some z)) (w : World) : (zeroValue t).run P w = .ok z w := by
  cases hi : P.info? t with
  | none => simp [hi] at h
  | some i =>
    have h2 : i.zero = some z := by simpa [hi] using h
    simp [zeroValue, typeInfo, hi, h2]
theorem row_mid {w : World} {b : Nat} {T : TypeId} {c : Array Value} (h : RowAt w b T c) (o : Nat) (cs : Array Value) (e : ∀ i v, cs[i]? = some v → c[o + i]? = some v) : w.rangeAt b o cs.toList := fun j v hv => h.cell (e j v (by rw [← Array.getElem?_toList]; exact hv))
def setMany (c : Array Value) : Nat → List Value → Array Value
  | _, [] => c
  | o, v :: l => setMany (c.setIfInBounds o v) (o + 1) l
theorem row_setCells {T : TypeId} {g : Nat} : ∀ {l : List Value} {o : Nat} {w : World} {c : Array Value}, RowAt w g T c → RowAt (w.setCells g o l) g T (setMany c o l)
  | [], _, _, _, h => h
  | v :: l, o, _, _, h => row_setCells (l := l) (h.set o v)
theorem setMany_get : ∀ (l : List Value) (o : Nat) (c : Array Value) (i : Nat), o + l.length ≤ c.size → (setMany c o l)[i]? = if o ≤ i ∧ i < o + l.length then l[i - o]? else c[i]?
  | [], o, c, i, _ => by show c[i]? = _; rw [if_neg (by rintro ⟨h1, h2⟩; simp at h2; omega)]
  | v :: l, o, c, i, h => by
    show (setMany (c.setIfInBounds o v) (o + 1) l)[i]? = _
    have h' : o + 1 + l.length ≤ c.size := by simp at h; omega
    rw [setMany_get l (o + 1) (c.setIfInBounds o v) i (by simpa using h')]
    by_cases e : i = o
    · subst e
      rw [if_neg (by omega), if_pos ⟨by omega, by simp⟩, Nat.sub_self]
      have hi : i < c.size := by simp at h; omega
      simp [hi]
    · by_cases e2 : o + 1 ≤ i ∧ i < o + 1 + l.length
      · rw [if_pos e2, if_pos ⟨by omega, by simp; omega⟩]
        rw [show i - o = (i - (o + 1)) + 1 by omega]
        simp
      · rw [if_neg e2, if_neg (by simp; omega), Array.getElem?_setIfInBounds_ne (by omega)]
theorem below_setCells {B g : Nat} (hg : B ≤ g) : ∀ {l : List Value} {o : Nat} {w W : World}, Below B w W → Below B w (W.setCells g o l)
  | [], _, _, _, h => h
  | v :: l, o, _, _, h => below_setCells hg (l := l) (h.setCell (p := ⟨g, o, none⟩) hg v)
theorem row_setCells_other {T : TypeId} {g q : Nat} (hne : q ≠ g) : ∀ {l : List Value} {o : Nat} {w : World} {c : Array Value}, RowAt w q T c → RowAt (w.setCells g o l) q T c
  | [], _, _, _, h => h
  | v :: l, o, _, _, h => row_setCells_other hne (l := l) (h.setOther ⟨g, o, none⟩ v hne)
theorem there_row {w : World} {g : Nat} {T : TypeId} {c : Array Value} (h : RowAt w g T c) {o n : Nat} (hn : o + n ≤ c.size) : w.there g o n := fun j hj => by
  refine ⟨?_, h.frozen _⟩
  rw [h.cell (i := o + j) (v := c[o + j]'(by omega)) (by simp)]
  rfl
theorem g_info_int : (Try.prog.info? 3).map (fun i => (i.zero, i.size, i.bytes)) = some (some (.int .i64 0), 1, 8) := by kernel_rfl
end Go.Proofs.Ytpdemelchhkfaaa

/-
  Mathematics of chapter 13: five holes, wheels, what they show.
-/
namespace Go.Proofs.Ytpdemelchhkfaaa
open Go.RowKit PK
namespace Tl

/-- A machine: of each of its eleven wheels (Chi, Psi, Motor) how many pins it has, which stand out, and where it is. -/
structure Te where
  ln : Nat → Nat
  pin : Nat → Nat → Bool
  pl : Nat → Int
/-- What is wrong with a wheel. -/
def wE (l : Nat) (a : Int) : Int := if l = 0 ∨ 47 < l then 3 else if a < 0 ∨ (l : Int) ≤ a then 8 else 0
/-- What is wrong with a machine. -/
def teE (T : Te) : Int := firstE (fun k => wE (T.ln k) (T.pl k)) 11
theorem wE_zero {l : Nat} {a : Int} (h : wE l a = 0) : 1 ≤ l ∧ l ≤ 47 ∧ 0 ≤ a ∧ a < (l : Int) := by
  unfold wE at h
  by_cases h1 : l = 0 ∨ 47 < l
  · rw [if_pos h1] at h; cases h
  · rw [if_neg h1] at h
    by_cases h2 : a < 0 ∨ (l : Int) ≤ a
    · rw [if_pos h2] at h; cases h
    · omega
theorem teE_zero {T : Te} (h : teE T = 0) {k : Nat} (hk : k < 11) : 1 ≤ T.ln k ∧ T.ln k ≤ 47 ∧ 0 ≤ T.pl k ∧ T.pl k < (T.ln k : Int) := wE_zero ((firstE_zero _ 11).1 h k hk)
/-- What is wrong with a text. -/
def lE (x : Int) : Int := if x < 0 ∨ 31 < x then 3 else 0
def faE (n : Nat) (f : Nat → Int) : Int := if 65536 < n then 5 else firstE (fun c => lE (f c)) n
theorem faE_zero {n : Nat} {f : Nat → Int} (h : faE n f = 0) : n ≤ 65536 ∧ ∀ c, c < n → 0 ≤ f c ∧ f c ≤ 31 := by
  unfold faE at h
  by_cases h1 : 65536 < n
  · rw [if_pos h1] at h; cases h
  · rw [if_neg h1] at h
    refine ⟨by omega, fun c hc => ?_⟩
    have h2 := (firstE_zero _ n).1 h c hc
    simp only [lE] at h2
    by_cases h3 : f c < 0 ∨ 31 < f c
    · rw [if_pos h3] at h2; cases h2
    · omega
theorem faE_ok {n : Nat} {f : Nat → Int} (h : n ≤ 65536) (hf : ∀ c, c < n → 0 ≤ f c ∧ f c ≤ 31) : faE n f = 0 := by
  unfold faE
  rw [if_neg (by omega)]
  refine (firstE_zero _ n).2 fun c hc => ?_
  have := hf c hc
  show lE (f c) = 0
  unfold lE
  rw [if_neg (by omega)]
/-- The number of n holes. -/
def numOf (b : Nat → Bool) : Nat → Nat
  | 0 => 0
  | n + 1 => 2 * numOf b n + if b n = true then 1 else 0
theorem numOf_lt (b : Nat → Bool) : ∀ n, numOf b n < 2 ^ n
  | 0 => by show 0 < 2 ^ 0; decide
  | n + 1 => by
    have ih := numOf_lt b n
    show 2 * numOf b n + (if b n = true then 1 else 0) < 2 ^ (n + 1)
    rw [Nat.pow_succ]
    split <;> omega
theorem numOf_congr {b c : Nat → Bool} : ∀ {n}, (∀ h, h < n → b h = c h) → numOf b n = numOf c n
  | 0, _ => rfl
  | n + 1, h => by
    show 2 * numOf b n + (if b n = true then 1 else 0) = 2 * numOf c n + (if c n = true then 1 else 0)
    rw [numOf_congr (n := n) (fun i hi => h i (by omega)), h n (by omega)]
theorem xor_two (x y : Nat) (b c : Bool) : (2 * x + if b = true then 1 else 0) ^^^ (2 * y + if c = true then 1 else 0) = 2 * (x ^^^ y) + if (b ^^ c) = true then 1 else 0 := by
  have e : ∀ (x : Nat) (b : Bool), (2 * x + if b = true then 1 else 0) / 2 = x ∧ (2 * x + if b = true then 1 else 0) % 2 = (if b = true then 1 else 0) := fun x b => by cases b <;> simp <;> omega
  have hd := Nat.xor_div_two (a := 2 * x + if b = true then 1 else 0) (b := 2 * y + if c = true then 1 else 0)
  have hm := Nat.xor_mod_two_pow (a := 2 * x + if b = true then 1 else 0) (b := 2 * y + if c = true then 1 else 0) (n := 1)
  rw [Nat.pow_one, (e x b).2, (e y c).2] at hm
  rw [(e x b).1, (e y c).1] at hd
  have hq : ((if b = true then 1 else 0) ^^^ (if c = true then 1 else 0) : Nat) = if (b ^^ c) = true then 1 else 0 := by cases b <;> cases c <;> rfl
  rw [hq] at hm
  have := Nat.div_add_mod ((2 * x + if b = true then 1 else 0) ^^^ (2 * y + if c = true then 1 else 0)) 2
  omega
theorem numOf_xor (b c : Nat → Bool) : ∀ n, numOf (fun h => b h ^^ c h) n = numOf b n ^^^ numOf c n
  | 0 => by show 0 = 0 ^^^ 0; decide
  | n + 1 => by
    show 2 * numOf (fun h => b h ^^ c h) n + (if (b n ^^ c n) = true then 1 else 0) = (2 * numOf b n + if b n = true then 1 else 0) ^^^ (2 * numOf c n + if c n = true then 1 else 0)
    rw [xor_two, numOf_xor b c n]
/-- A wheel's pin, so many steps on. -/
def bit (T : Te) (k s : Nat) : Bool := T.pin k (((T.pl k).toNat + s) % T.ln k)
/-- How often the five of Psi have gone on. -/
def slow (T : Te) : Nat → Nat
  | 0 => 0
  | i + 1 => slow T i + if bit T 10 i = true then 1 else 0
theorem slow_le (T : Te) : ∀ i, slow T i ≤ i
  | 0 => Nat.le_refl _
  | i + 1 => by have := slow_le T i; show slow T i + (if bit T 10 i = true then 1 else 0) ≤ i + 1; split <;> omega
/-- The key's letter. -/
def keyN (T : Te) (i : Nat) : Nat := numOf (fun h => bit T h i ^^ bit T (5 + h) (slow T i)) 5
theorem keyN_lt (T : Te) (i : Nat) : keyN T i < 32 := numOf_lt _ 5
/-- Where a wheel is, behind i letters. -/
def pos (T : Te) (i k : Nat) : Nat := ((T.pl k).toNat + if k < 5 then i else if k < 10 then slow T i else i) % T.ln k
theorem pos_lt {T : Te} (h : teE T = 0) (i : Nat) {k : Nat} (hk : k < 11) : pos T i k < T.ln k := Nat.mod_lt _ (teE_zero h hk).1
theorem pos_zero {T : Te} (h : teE T = 0) {k : Nat} (hk : k < 11) : ((pos T 0 k : Nat) : Int) = T.pl k := by
  obtain ⟨h1, h2, h3, h4⟩ := teE_zero h hk
  unfold pos
  have e : (if k < 5 then 0 else if k < 10 then slow T 0 else 0) = 0 := by split; rfl; split <;> rfl
  rw [e, Nat.add_zero, Nat.mod_eq_of_lt (by omega)]
  omega
theorem pos_chi (T : Te) (i : Nat) {k : Nat} (hk : k < 5) : (pos T i k + 1) % T.ln k = pos T (i + 1) k := by
  unfold pos
  rw [if_pos hk, if_pos hk, Nat.mod_add_mod]
  rfl
theorem pos_motor (T : Te) (i : Nat) : (pos T i 10 + 1) % T.ln 10 = pos T (i + 1) 10 := by
  unfold pos
  rw [if_neg (by decide), if_neg (by decide), if_neg (by decide), if_neg (by decide), Nat.mod_add_mod]
  rfl
theorem pos_psi (T : Te) (i : Nat) {k : Nat} (h5 : ¬ k < 5) (h10 : k < 10) : pos T (i + 1) k = if bit T 10 i = true then (pos T i k + 1) % T.ln k else pos T i k := by
  unfold pos
  rw [if_neg h5, if_pos h10, if_neg h5, if_pos h10]
  show ((T.pl k).toNat + (slow T i + if bit T 10 i = true then 1 else 0)) % T.ln k = _
  cases bit T 10 i
  · rfl
  · rw [if_pos rfl, if_pos rfl, Nat.mod_add_mod]; rfl
theorem bit_motor (T : Te) (i : Nat) : bit T 10 i = T.pin 10 (pos T i 10) := rfl
theorem keyN_pos (T : Te) (i : Nat) : keyN T i = numOf (fun h => T.pin h (pos T i h)) 5 ^^^ numOf (fun h => T.pin (5 + h) (pos T i (5 + h))) 5 := by
  rw [← numOf_xor]
  unfold keyN
  refine numOf_congr fun h hh => ?_
  unfold bit pos
  rw [if_pos hh, if_neg (by omega), if_pos (by omega)]
/-- Two letters, added, hole by hole: the first j holes from the last one on. -/
theorem sum_step : ∀ a, a < 32 → ∀ b, b < 32 → ∀ j, j < 5 → (a ^^^ b) % 2 ^ (j + 1) = (a ^^^ b) % 2 ^ j + if a / 2 ^ j % 2 = b / 2 ^ j % 2 then 0 else 2 ^ j := by decide +kernel
theorem xor_lt32 {a b : Nat} (ha : a < 32) (hb : b < 32) : a ^^^ b < 32 := Nat.xor_lt_two_pow (n := 5) ha hb
theorem bits_xor {a b : Nat} (ha : a < 1048576) (hb : b < 1048576) : bits .xor .i64 (a : Int) (b : Int) = ((a ^^^ b : Nat) : Int) := by
  have hx : a ^^^ b < 2 ^ 20 := Nat.xor_lt_two_pow (by omega) (by omega)
  have h1 : ∀ k : Nat, k < 1048576 → (BitVec.ofInt 64 (k : Int)).toNat = k := fun k hk => by
    rw [BitVec.ofInt_natCast, BitVec.toNat_ofNat]; exact Nat.mod_eq_of_lt (by omega)
  show IntKind.i64.wrap ((BitVec.ofInt 64 (a : Int) ^^^ BitVec.ofInt 64 (b : Int)).toNat : Int) = _
  rw [BitVec.toNat_xor, h1 a ha, h1 b hb, IntKind.wrap_i64]
  omega
/-- What Key, Write say is wrong. -/
def kyE (T : Te) (n : Int) : Int := if teE T ≠ 0 then teE T else if n < 0 ∨ 65536 < n then 3 else 0
def twE (T : Te) (n : Nat) (f : Nat → Int) : Int := if teE T ≠ 0 then teE T else faE n f
theorem kyE_zero {T : Te} {n : Int} (h : kyE T n = 0) : teE T = 0 ∧ 0 ≤ n ∧ n ≤ 65536 := by
  unfold kyE at h
  by_cases h1 : teE T = 0
  · rw [if_neg (fun e => e h1)] at h
    by_cases h2 : n < 0 ∨ 65536 < n
    · rw [if_pos h2] at h; cases h
    · exact ⟨h1, by omega, by omega⟩
  · rw [if_pos h1] at h; exact absurd h h1
theorem twE_zero {T : Te} {n : Nat} {f : Nat → Int} (h : twE T n f = 0) : teE T = 0 ∧ faE n f = 0 := by
  unfold twE at h
  by_cases h1 : teE T = 0
  · rw [if_neg (fun e => e h1)] at h; exact ⟨h1, h⟩
  · rw [if_pos h1] at h; exact absurd h h1
/-- What becomes of a letter; what changes. -/
def wrN (T : Te) (f : Nat → Int) (i : Nat) : Int := (((f i).toNat ^^^ keyN T i : Nat) : Int)
def dlN (f : Nat → Int) (i : Nat) : Int := (((f i).toNat ^^^ (f (i + 1)).toNat : Nat) : Int)
/-- How many there are: none behind an error. -/
def rl (E : Int) (n : Nat) : Nat := if E = 0 then n else 0
end Tl
end Go.Proofs.Ytpdemelchhkfaaa
