/-
  Several texts, joined: ZMath, ZSheet, ZKit, ORef.
-/
import Derived.Test.YtbbpbcmpemmgjaaJn17
import Derived.Test.YtbbpbcmpemmgjaaJn16
import Derived.Deep.OwnRows
import Derived.Lib.SmallJoins
import Derived.Deep.QuietTactic
import Derived.BigQuiet
import Derived.Laws.EntriesVeiled
import Derived.RegionTactic
import Derived.Deep.RegionHeld3
import Derived.OrdersHeld
import Derived.Deep.DeepCutAuto
import Derived.Test.YtbbpbcmpemmgjaaJn18
import Derived.Deep.Upon
import Derived.BigRegion
/-
  Squares of letters: the mathematics.
-/
namespace Go.Proofs.Ytbbpbcmpemmgjaa.Zq
open Vg

/-- J is written as I. -/
def jI (c : UInt8) : UInt8 := if c = 74 then 73 else c
def alpha : List UInt8 := [65, 66, 67, 68, 69, 70, 71, 72, 73, 75, 76, 77, 78, 79, 80, 81, 82, 83, 84, 85, 86, 87, 88, 89, 90]
/-- Letters without J. -/
def Nj (l : List UInt8) : Prop := ∀ c ∈ l, (65 ≤ c.toNat ∧ c.toNat ≤ 90) ∧ c ≠ 74
theorem mem_alpha (c : UInt8) : c ∈ alpha ↔ (65 ≤ c.toNat ∧ c.toNat ≤ 90) ∧ c ≠ 74 := by
  have h : ∀ n : Fin 256, (UInt8.ofNat n.val) ∈ alpha ↔ (65 ≤ (UInt8.ofNat n.val).toNat ∧ (UInt8.ofNat n.val).toNat ≤ 90) ∧ (UInt8.ofNat n.val) ≠ 74 := by decide +kernel
  have := h ⟨c.toNat, c.toNat_lt⟩
  simpa using this
/-- A letter is laid behind the others, if it isn't there. -/
def addN (out : List UInt8) (c : UInt8) : List UInt8 := if c ∈ out then out else out ++ [c]
def layN (out l : List UInt8) : List UInt8 := l.foldl addN out
def laid (key : List UInt8) : List UInt8 := layN [] ((key ++ alpha).map jI)
theorem nodup_le : ∀ (a b : List UInt8), a.Nodup → (∀ x ∈ a, x ∈ b) → a.length ≤ b.length
  | [], _, _, _ => by simp
  | x :: a, b, hn, hs => by
    have hx := hs x (by simp)
    have hn' := List.nodup_cons.1 hn
    have := nodup_le a (b.erase x) hn'.2 (fun y hy => (List.mem_erase_of_ne (fun (e : y = x) => hn'.1 (by rw [← e]; exact hy))).2 (hs y (by simp [hy])))
    rw [List.length_erase_of_mem hx] at this
    have : 0 < b.length := List.length_pos_of_mem hx
    simp only [List.length_cons]
    omega
/-- Where a letter stands. -/
def at' (s : List UInt8) (c : UInt8) : Nat := s.idxOf c
/-- What two places become, and where they come from. -/
def pairP (i j : Nat) : Nat × Nat :=
  if i / 5 = j / 5 then (5 * (i / 5) + (i % 5 + 1) % 5, 5 * (j / 5) + (j % 5 + 1) % 5)
  else if i % 5 = j % 5 then (5 * ((i / 5 + 1) % 5) + i % 5, 5 * ((j / 5 + 1) % 5) + j % 5)
  else (5 * (i / 5) + j % 5, 5 * (j / 5) + i % 5)
/-- What two letters become in a square, and where they come from. -/
def enc (s : List UInt8) (a b : UInt8) : UInt8 × UInt8 := (s.getD (pairP (at' s a) (at' s b)).1 0, s.getD (pairP (at' s a) (at' s b)).2 0)
/-- Two by two. -/
def twos (f : UInt8 → UInt8 → UInt8 × UInt8) : List UInt8 → List UInt8
  | a :: b :: r => (f a b).1 :: (f a b).2 :: twos f r
  | _ => []
/-- Pairs that are pairs: an even number of letters, no J, no two alike in one. -/
inductive Good : List UInt8 → Prop
  | nil : Good []
  | two {a b : UInt8} {r : List UInt8} (ha : a ∈ alpha) (hb : b ∈ alpha) (hab : a ≠ b) (hr : Good r) : Good (a :: b :: r)
theorem Good.even {l : List UInt8} (h : Good l) : l.length % 2 = 0 := by
  induction h with
  | nil => rfl
  | two _ _ _ _ ih => simp; omega
theorem Good.nj {l : List UInt8} (h : Good l) : Nj l := by
  induction h with
  | nil => intro c hc; simp at hc
  | two ha hb _ _ ih =>
    intro c hc
    simp at hc
    rcases hc with rfl | rfl | hc
    · exact (mem_alpha _).1 ha
    · exact (mem_alpha _).1 hb
    · exact ih c hc
theorem Good.ls {l : List UInt8} (h : Good l) : Ls l := fun c hc => (h.nj c hc).1
/-- The other way round. -/
def turn : List UInt8 → List UInt8 := twos fun a b => (b, a)
/-- What is wrong with pairs that are to be read: the first J, or the second one of a pair that is as its first one. -/
def wrong (t : List UInt8) (i : Nat) : Bool := decide (t.getD i 0 = 74 ∨ (i % 2 = 1 ∧ t.getD i 0 = t.getD (i - 1) 0))
end Go.Proofs.Ytbbpbcmpemmgjaa.Zq

/-
  Squares of letters as 77 cells: the letters by their places, and the places by their letters.
-/
namespace Go.Proofs.Ytbbpbcmpemmgjaa.Zq
open Vg PK

/-- What is laid behind m letters. -/
def lay (l : List UInt8) (m : Nat) : List UInt8 := layN [] ((l.take m).map jI)
/-- Where the letter k stands: 0 where it stands nowhere. -/
def pl (L : List UInt8) (k : Nat) : Nat := if ltr k ∈ L then at' L (ltr k) else 0
/-- The first place at which something is wrong. -/
def fw (t : List UInt8) : Option Nat := (List.range t.length).find? (wrong t)
end Go.Proofs.Ytbbpbcmpemmgjaa.Zq

/-
  Laws of no program: bytes in rows, and what is made of them.
-/
namespace Go.Proofs.Ytbbpbcmpemmgjaa
open Go.RowKit PK Vg Zq

theorem ls_of {l : List UInt8} (h : Pl.Lets l) : Ls l := fun c hc => by
  have := h c hc
  simp [Pl.isL] at this
  omega
section
variable {P : Program} {ops : Array Oper} {Q : Exit → Act → World → Prop} {md : Region.Mode} {S : World → Prop}
/-- An operation that yields its value in every world that meets S is taken first. -/
theorem vtake (i d : Nat) (v : Value) {oi : Oper} {fuel : Nat} {listed : Array Bool} {tm : Array Value} {df : List Deferred} {w : World} (hi : ops[i]? = some oi) (hd : oi.dst = some d)
    (hs : Region.noSelect ops = true) (hf : Region.free md ops listed i = true) (hr : (Region.ready md ops listed).contains i = true)
    (hQ : ∀ c a a' w, Q (.panic c) a' w → Q (.panic c) a w) (hw : Region.wanted oi (yielded ops tm) = true) (hrun : ∀ W, S W → (execOp (Act.eval ⟨tm, df⟩) oi).run P W = .ok (.value v) W) (hS : S w)
    (h : wpAnyH P md ops Q S fuel (listed.setIfInBounds i true) ⟨tm.setIfInBounds d v, df⟩ w) : wpAnyH P md ops Q S (fuel + 1) listed ⟨tm, df⟩ w := by
  refine wpAnyH_take (i := i) (oi := oi) (v := v) hi hs hf hr (fun c a w => hQ c a _ w) (Or.inl ⟨hw, fun W hW => hrun W hW⟩) hS ?_
  rw [hd]
  exact h
end
theorem x_info_parts {P : Program} {e : TypeId} {z : Value} {s b : Nat} (h : (P.info? e).map (fun i => (i.zero, i.size, i.bytes)) = some (some z, s, b)) : ∃ i, P.info? e = some i ∧ i.zero = some z ∧ i.size = s ∧ i.bytes = b := by
  obtain ⟨i, hi, hzz⟩ := Option.map_eq_some_iff.1 h
  simp only [Prod.mk.injEq] at hzz
  exact ⟨i, hi, hzz.1, hzz.2.1, hzz.2.2⟩
theorem getD_size {s : ByteArray} {i : Nat} (hi : i < s.size) : i < s.data.toList.length := by have := Pl.size_len s; omega
end Go.Proofs.Ytbbpbcmpemmgjaa

/-
  Contracts of the document's inside and Notched (chapter 8).
-/
namespace Go.Proofs.Ytbbpbcmpemmgjaa
open Go.RowKit PK

theorem ins_upto {n : Nat} {f : Nat → Int} {k : Nat} (hk : k < n) (h : f k < 0 ∨ 25 < f k) : ins n f = false := by
  cases e : ins n f with
  | false => rfl
  | true => have := (ins_iff n f).1 e k hk; omega
set_option maxRecDepth 100000 in
set_option maxHeartbeats 1000000 in
theorem rinside_any (v : Value) (n : Nat) (f : Nat → Int) (w : World) (hv : NumsAt w v n f) : Calls Try.prog 47 #[v] w fun e w' => e = .returned (.bool (ins n f)) ∧ w = w' := by
  obtain ⟨a, cap, rfl, hm, hc⟩ := hv
  have HC := (show Hid _ from hc)
  unfold maxLen at hm
  clear hc
  have HU := (show Hid (∀ k, k < n → (f k < 0 ∨ 25 < f k) → ins n f = false) from fun k hk h => ins_upto hk h)
  have HA := (show Hid ((∀ i, i < n → 0 ≤ f i ∧ f i ≤ 25) → ins n f = true) from (ins_iff n f).2)
  generalize ins n f = B at *
  go_enter Try.func47, Try.ntmps47
  go_wp2_with fail
  go_loopw [7] (fun i W => ∃ k : Nat, k ≤ n ∧ i = .int .i64 (k : Nat) ∧ Hid (∀ i, i < k → 0 ≤ f i ∧ f i ≤ 25) ∧ w = W) (fun i _ => ((n : Int) - intOf i).toNat)
  case atStart => exact ⟨0, by omega, rfl, fun i hi => by omega, rfl⟩
  case round =>
    obtain ⟨k, hk, rfl, HS, rfl⟩ := hrel
    by_cases hlt : k < n
    · obtain ⟨b, o, rfl, hc0⟩ := HC.out k hlt
      have HLT : Hid (k < n) := hlt
      by_cases hx : f k < 0
      · have HB : Hid (B = false) := HU.out k hlt (.inl hx)
        go_wp2
        go_ret
        exact ⟨by rw [HB.out]; rfl, rfl⟩
      · by_cases hy : 25 < f k
        · have HB : Hid (B = false) := HU.out k hlt (.inr hy)
          go_wp2
          go_ret
          exact ⟨by rw [HB.out]; rfl, rfl⟩
        · have HN : Hid (∀ i, i < k + 1 → 0 ≤ f i ∧ f i ≤ 25) := fun i hi => by
            by_cases e : i = k
            · rw [e]; omega
            · exact HS.out i (by omega)
          go_wp2_with fail
          go_roundw
          case rel => exact ⟨k + 1, HLT.out, by go_num, HN.out, by first | rfl | trivial⟩
          case measure => have := HLT.out; simp [intOf] <;> omega
    · obtain rfl : k = n := by omega
      have hlt2 : ¬ (k : Int) < (k : Int) := by omega
      have HB : Hid (B = true) := HA.out HS.out
      go_wp2
      go_ret
      exact ⟨by rw [HB.out]; rfl, rfl⟩
/-- Does a wheel have a notch there? -/
def hasN (n : Nat) (f : Nat → Int) (a : Int) : Bool := (List.range n).any fun i => f i == a
theorem hasN_true {n : Nat} {f : Nat → Int} {a : Int} {k : Nat} (hk : k < n) (h : f k = a) : hasN n f a = true := by
  unfold hasN
  rw [List.any_eq_true]
  exact ⟨k, by simpa using hk, by simp [h]⟩
theorem hasN_false {n : Nat} {f : Nat → Int} {a : Int} (h : ∀ k, k < n → f k ≠ a) : hasN n f a = false := by
  unfold hasN
  rw [List.any_eq_false]
  intro k hk
  have := h k (by simpa using hk)
  simpa using this
set_option maxRecDepth 100000 in
set_option maxHeartbeats 1000000 in
theorem rnotched_any (u : Nat → Int) (v : Value) (n : Nat) (f : Nat → Int) (a : Int) (w : World) (hv : NumsAt w v n f) : Calls Try.prog 99 #[.agg (whl u v), .int .i64 a] w fun e w' => e = .returned (.bool (hasN n f a)) ∧ Below w.heap.size w w' := by
  have hr := RowAt.new w 62 (whl u v)
  have hl := hr.cell (whl_last u v)
  have hbe : Below w.heap.size w (w.alloc (.cells (whl u v) 62)) := (Below.refl _ w).alloc (Nat.le_refl _) _
  replace hv := hv.alloc (.cells (whl u v) 62)
  obtain ⟨ad, cap, rfl, hm, hc⟩ := hv
  have HC := (show Hid _ from hc)
  unfold maxLen at hm
  clear hc
  have HU := (show Hid (∀ k, k < n → f k = a → hasN n f a = true) from fun k hk h => hasN_true hk h)
  have HA := (show Hid ((∀ k, k < n → f k ≠ a) → hasN n f a = false) from hasN_false)
  generalize hasN n f a = B at *
  go_enter Try.func99, Try.ntmps99
  go_wp2_with fail
  generalize w.alloc (.cells (whl u (.slice ad n cap)) 62) = V at *
  go_loopw [10] (fun i W => ∃ k : Nat, k ≤ n ∧ i = .int .i64 (k : Nat) ∧ Hid (∀ i, i < k → f i ≠ a) ∧ V = W) (fun i _ => ((n : Int) - intOf i).toNat)
  case atStart => exact ⟨0, by omega, rfl, fun i hi => by omega, rfl⟩
  case round =>
    obtain ⟨k, hk, rfl, HS, rfl⟩ := hrel
    by_cases hlt : k < n
    · obtain ⟨b, o, rfl, hc0⟩ := HC.out k hlt
      have HLT : Hid (k < n) := hlt
      by_cases hx : f k = a
      · have HB : Hid (B = true) := HU.out k hlt hx
        have hx2 : (f k == a) = true := by simp [hx]
        clear hx
        go_wp2
        go_ret
        exact ⟨by rw [HB.out]; rfl, hbe⟩
      · have HN : Hid (∀ i, i < k + 1 → f i ≠ a) := fun i hi => by
          by_cases e : i = k
          · rw [e]; exact hx
          · exact HS.out i (by omega)
        have hx2 : (f k == a) = false := beq_false_of_ne hx
        clear hx
        go_wp2_with fail
        go_roundw
        case rel => exact ⟨k + 1, HLT.out, by go_num, HN.out, by first | rfl | trivial⟩
        case measure => have := HLT.out; simp [intOf] <;> omega
    · obtain rfl : k = n := by omega
      have hlt2 : ¬ (k : Int) < (k : Int) := by omega
      have HB : Hid (B = false) := HA.out HS.out
      go_wp2
      go_ret
      exact ⟨by rw [HB.out]; rfl, hbe⟩
end Go.Proofs.Ytbbpbcmpemmgjaa
