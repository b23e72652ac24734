/-
  Several texts, joined: KCon, KRej, ORKn, OAl, ORKw, PEq, LOWr, LCPa, BoUn, BoRp.
-/
import Derived.Test.YtbbpbcmpemmgjaaJn23
import Derived.Test.YtbbpbcmpemmgjaaJn17
import Derived.Test.YtbbpbcmpemmgjaaJn21
import Derived.Test.YtbbpbcmpemmgjaaJn20
import Derived.Test.YtbbpbcmpemmgjaaJn16
import Derived.Test.YtbbpbcmpemmgjaaJn24
import Derived.Deep.DeepCutAuto
import Derived.Test.YtbbpbcmpemmgjaaRoNe
import Derived.Test.YtbbpbcmpemmgjaaJn22
import Derived.Test.YtbbpbcmpemmgjaaJn29
/-
  Plain mathematics: a conjugate's cycles are as long.
-/
namespace Go.Proofs.Ytbbpbcmpemmgjaa
open Go.RowKit PK

end Go.Proofs.Ytbbpbcmpemmgjaa

/-
  Plain mathematics: Rejewski's theorem: the cycles of two pairings, one behind the other, come in pairs.
-/
namespace Go.Proofs.Ytbbpbcmpemmgjaa
open Go.RowKit PK

namespace Rj
section
variable {p q : Nat → Nat}
/-- The first letter of a letter's cycle. -/
def hd (r : Nat → Nat) (x : Nat) : Nat := ((List.range 26).find? fun h => (Pm.cyc r h).contains x).getD 0
end
end Rj
end Go.Proofs.Ytbbpbcmpemmgjaa

/-
  Contracts of the document's Spelt, Known and Mirror (chapter 8).
-/
namespace Go.Proofs.Ytbbpbcmpemmgjaa
open Go.RowKit PK Vg

end Go.Proofs.Ytbbpbcmpemmgjaa

/-
  The machine that alive asks: I, II, III, mirror B.
-/
namespace Go.Proofs.Ytbbpbcmpemmgjaa
open Go.RowKit PK Vg

end Go.Proofs.Ytbbpbcmpemmgjaa

/-
  Contract of the document's Known (chapter 8).
-/
namespace Go.Proofs.Ytbbpbcmpemmgjaa
open Go.RowKit PK Vg

end Go.Proofs.Ytbbpbcmpemmgjaa

/-
  Laws of no program: '==' between two arrays of numbers.
-/
namespace Go.Proofs.Ytbbpbcmpemmgjaa.PK
open Go.RowKit
def eqI (n : Nat) (f g : Nat → Int) : Bool := (List.range n).all fun i => f i == g i
theorem eqI_iff (n : Nat) (f g : Nat → Int) : eqI n f g = true ↔ ∀ i, i < n → f i = g i := by simp [eqI]
theorem eqI_refl (n : Nat) (f : Nat → Int) : eqI n f f = true := (eqI_iff n f f).2 fun _ _ => rfl
theorem run_part_ints {P : Program} (w : World) (e : TypeId) (he : P.underlying e = some (.int .i64)) (n : Nat) (f : Nat → Int) (i : Nat) (hi : i < n) : (part e (ints n f) i).run P w = .ok (.int .i64 (f i)) w := by
  simp [part, isAgg, Sem.run_bind, run_underlying he, ints_get f hi]
theorem run_equalIn_ints {P : Program} (w : World) (d : Nat) (t e : TypeId) (n : Nat) (hu : P.underlying t = some (.array n e)) (he : P.underlying e = some (.int .i64)) (hs : (P.info? e).map (·.size) = some 1) (f g : Nat → Int) :
    (Op.equalIn (d + 2) t (.agg (ints n f)) (.agg (ints n g))).run P w = .ok (eqI n f g) w := by
  cases hq : P.info? e with
  | none => simp [hq] at hs
  | some i =>
    have h1 : i.size = 1 := by simpa [hq] using hs
    have hsz : ∀ W, (sizeOf e).run P W = .ok 1 W := fun W => by simp [sizeOf, typeInfo, hq, h1]
    rw [Op.equalIn]
    simp only [Sem.run_bind, run_underlying hu, Result.andThen_ok, hsz, Nat.mul_one, Std.Legacy.Range.forIn_eq_forIn_range', Std.Legacy.Range.size, Nat.sub_zero, Nat.add_sub_cancel, Nat.div_one]
    unfold eqI
    rw [List.range_eq_range']
    have hL : ∀ i ∈ List.range' 0 n, i < n := fun i hi => by simp at hi; omega
    revert hL
    generalize List.range' 0 n = L
    intro hL
    induction L with
    | nil => simp
    | cons s L ih =>
      have hs' : s < n := hL s (by simp)
      have ih' := ih fun i hi => hL i (by simp [hi])
      rw [List.forIn_cons]
      simp only [Sem.run_bind, run_part_ints w e he n f s hs', run_part_ints w e he n g s hs', Result.andThen_ok, run_equalIn_int w d e .i64 .i64 (f s) (g s) he, List.all_cons]
      cases hb : (f s == g s)
      · simp
      · simp only [Bool.not_true, Bool.false_eq_true, if_false, Sem.run_pure, Result.andThen_ok, Bool.true_and]
        exact ih'
end Go.Proofs.Ytbbpbcmpemmgjaa.PK

/-
  RotorWrites, for any Write, Known and Mirror that say what the document's say.
-/
namespace Go.Proofs.Ytbbpbcmpemmgjaa
open Go.RowKit PK Vg

end Go.Proofs.Ytbbpbcmpemmgjaa

/-
  ChartPairs, over the contracts of Types and Chart.
-/
namespace Go.Proofs.Ytbbpbcmpemmgjaa
open Go.RowKit PK Vg

section
variable {w W W' : World} {a b c : Value} {rf pl : Nat → Int} {q3 : Nat} {V : Nat → Value} {C : Nat → Nat → Nat}
end
section
variable {w W W' : World} {a b c : Value} {rf pl : Nat → Int} {q3 q8 q9 : Nat} {V V2 : Nat → Value} {C C2 : Nat → Nat → Nat}
end
section
variable {w W W' : World} {a b c : Value} {rf pl : Nat → Int} {q10 q11 : Nat} {C C2 : Nat → Nat → Nat}
end
theorem steps_unplugged (M : Om.Ma) (at' : Nat → Nat) : ∀ k, Om.steps (Om.unplugged M) at' k = Om.steps M at' k
  | 0 => rfl
  | k + 1 => by
    show Om.step (Om.unplugged M) (Om.steps (Om.unplugged M) at' k) = Om.step M (Om.steps M at' k)
    rw [steps_unplugged M at' k]
    rfl
theorem chE_plugs {M : Om.Ma} (h : Om.Ok M) (k : Nat) {c : Nat} (hc : c < 26) : chE M k c = M.pl (chE (Om.unplugged M) k (M.pl c)) := by
  unfold chE
  rw [steps_unplugged]
  exact Om.now_plugs h _ hc
end Go.Proofs.Ytbbpbcmpemmgjaa

/-
  Contract of bombe.unplugged.
-/
namespace Go.Proofs.Ytbbpbcmpemmgjaa
open Go.RowKit PK Vg

theorem b_info_perm : (Try.prog.info? 25).map (fun i => (i.zero, i.size, i.bytes)) = some (some (.agg (ints 26 fun _ => 0)), 26, 208) := by kernel_rfl
theorem made_ints (n : Nat) : madeCells (ints 26 fun _ => 0) (n * 26) = ints (n * 26) fun _ => 0 := by
  apply Array.ext_getElem?
  intro i
  by_cases hi : i < n * 26
  · rw [ints_get _ hi]
    have h2 : (ints 26 fun _ => 0)[i % 26]? = some (.int .i64 0) := ints_get (fun _ => 0) (Nat.mod_lt _ (by decide))
    simp [madeCells, hi, ints_size]
    rw [getElem!_def, h2]
  · rw [Array.getElem?_eq_none (by rw [size_madeCells]; omega), Array.getElem?_eq_none (by rw [ints_size]; omega)]
theorem run_make_perms (n : Nat) (hn : n ≤ 1000) (w : World) : (Instr.makeSlice 118 (.int .i64 (n : Int)) (.int .i64 (n : Int))).run Try.prog w = .ok (.slice (some ⟨w.heap.size, 0, none⟩) n n) (w.alloc (.cells (ints (n * 26) fun _ => 0) 25)) := by
  obtain ⟨i, hi, hz, hs, hb⟩ := x_info_parts b_info_perm
  have hr := run_make (P := Try.prog) w 118 25 i _ Try.underlying118 hi hz .i64 .i64 n n (by omega) (Int.le_refl _) (by rw [hb]; omega) (by omega)
  rw [hr, hs]
  have hc : (Value.agg (ints 26 fun _ => 0)).cells = ints 26 fun _ => 0 := rfl
  simp only [Int.toNat_natCast, hc, made_ints]
/-- What is held while the keys are pressed. -/
structure UnS (w W : World) (a b c : Value) (rf pl : Nat → Int) (M : Om.Ma) (q q7 n k : Nat) : Prop where
  mg : MgAt w W a b c rf pl
  rot : RotAt W q M (Om.steps M M.st k)
  keys : RowAt W q7 25 (ints (n * 26) (flatTo (chE M) k))
  q1 : w.heap.size < q
  q2 : q < q7
set_option maxRecDepth 100000 in
set_option maxHeartbeats 4000000 in
theorem unpl_run (M : Om.Ma) (n : Nat) (hn : n ≤ 1000) (a b c : Value) (rf pl : Nat → Int) (w : World) (HW : Hid (∀ W, Below w.heap.size w W → Calls Try.prog 40 #[.agg (mac a b c rf (Pm.up fun i => i))] W fun e w' => ∃ q, e = .returned (.tuple #[.pointer (some ⟨q, 0, none⟩), .int .i64 0]) ∧ W.heap.size ≤ q ∧ RotAt w' q M M.st ∧ Below W.heap.size W w')) : Calls Try.prog 67 #[.agg (mac a b c rf pl), .int .i64 (n : Nat)] w fun e w' => ∃ q7, e = .returned (.slice (some ⟨q7, 0, none⟩) n n) ∧ w.heap.size ≤ q7 ∧ RowAt w' q7 25 (ints (n * 26) (flat (chE M))) ∧ Below w.heap.size w w' := by
  have h0 := MgAt.new w a b c rf pl
  have HS := (show Hid (∀ W, Calls Try.prog 27 #[] W fun e w' => e = .returned (.agg (ints 26 (Pm.up fun i => i))) ∧ Below W.heap.size W w') from same_any)
  go_enter Try.func67, Try.ntmps67
  go_wp2_with fail
  refine (HS.out _).mono ?_
  rintro e W1 ⟨rfl, hb⟩
  have h1 := h0.step hb
  clear hb h0 HS
  have hth := there_row h1.row (o := 29) (n := 26) (by rw [mac_size]; decide)
  go_upto_region 2 with (first | refine wpList_store_mid rfl 25 _ _ rfl w.heap.size 29 (ints 26 (Pm.up fun i => i)) rfl rfl (by rw [ints_size]; exact hth) (by rw [ints_size]; exact info_perm) (ints_one _ _) ?_)
  have h2 : MgAt w (W1.setCells w.heap.size 29 (ints 26 (Pm.up fun i => i)).toList) a b c rf (Pm.up fun i => i) := by
    refine ⟨?_, below_setCells (Nat.le_refl _) h1.below⟩
    have := row_setCells (l := (ints 26 (Pm.up fun i => i)).toList) (o := 29) h1.row
    rw [mac_plugs] at this
    exact this
  generalize W1.setCells w.heap.size 29 (ints 26 (Pm.up fun i => i)).toList = V1 at *
  clear h1 hth
  have hmr := h2.row
  go_wp2_with (first | refine wpList_load_row rfl 27 _ rfl w.heap.size rfl 27 (mac a b c rf (Pm.up fun i => i)) (0, 0) _ hmr Try.underlying27 rfl (by rw [mac_size]; exact v_info_mac) ?_)
  refine (HW.out _ h2.below).mono ?_
  rintro e W2 ⟨q, rfl, hq, hrot, hb⟩
  have h3 := h2.step hb
  have hq1 : w.heap.size < q := by have := h2.lt; omega
  have hlq := hrot.row.lt
  have hmk := run_make_perms n hn
  clear hb h2 HW hmr hq
  go_upto_region 4 with fail
  have hg0 : UnS w (W2.alloc (.cells (ints (n * 26) fun _ => 0) 25)) a b c rf (Pm.up fun i => i) M q W2.heap.size n 0 := ⟨h3.alloc _, hrot.alloc _, by rw [flatTo_zero]; exact RowAt.new W2 _ _, hq1, hlq⟩
  generalize W2.alloc (.cells (ints (n * 26) fun _ => 0) 25) = V2 at *
  obtain ⟨q7, hq7⟩ : ∃ x, x = W2.heap.size := ⟨_, rfl⟩
  rw [← hq7] at hg0 ⊢
  clear hq7 hmk h3 hrot hq1 hlq
  go_wp2_with fail
  go_loopw [19] (fun i W => ∃ k : Nat, k ≤ n ∧ i = .int .i64 (k : Nat) ∧ UnS w W a b c rf (Pm.up fun i => i) M q q7 n k) (fun i _ => ((n : Int) - intOf i).toNat)
  case atStart => exact ⟨0, by omega, rfl, hg0⟩
  case round =>
    clear hg0
    obtain ⟨k, hk, rfl, hg⟩ := hrel
    by_cases hlt : k < n
    · have HLT : Hid (k < n) := hlt
      have hlt2 : (k : Int) < (n : Int) := by omega
      have HSTK := (show Hid (Om.step M (Om.steps M M.st k) = Om.steps M M.st (k + 1)) from rfl)
      go_wp2_with fail
      refine (step_any q M _ _ hg.rot).mono ?_
      rintro e W3 ⟨rfl, hr, hgr⟩
      rw [HSTK.out] at hr
      have hq1 := hg.q1
      have hq2 := hg.q2
      have hz3 : MgAt w W3 a b c rf (Pm.up fun i => i) := ⟨(hgr.block _ hg.mg.row.lt (fun e => by cases e; omega)).trans hg.mg.row, hg.mg.below.grown hgr hg.mg.below.size (fun k hk => by cases hk; omega)⟩
      have hk3 : RowAt W3 q7 25 (ints (n * 26) (flatTo (chE M) k)) := (hgr.block _ hg.keys.lt (fun e => by cases e; omega)).trans hg.keys
      clear hg hgr
      go_wp2_with fail
      refine (now_any q M _ _ hr).mono ?_
      rintro e W4 ⟨rfl, hb⟩
      have hz4 := hz3.step hb
      have hk4 := hk3.below hb hk3.lt
      have hr4 := hr.below hb
      clear hb hz3 hk3 hr
      obtain ⟨AW, hAW⟩ : ∃ AW, AW = ints 26 (Pm.up (Om.now M (Om.steps M M.st (k + 1)))) := ⟨_, rfl⟩
      have HSZ : Hid (AW.size = 26) := by rw [Hid, hAW, ints_size]
      have HON : Hid (AW.all (·.oneCell') = true) := by rw [Hid, hAW]; exact ints_one _ _
      rw [← hAW]
      have HTH := (show Hid (W4.there q7 (k * 26) 26) from there_row (o := k * 26) (n := 26) hk4 (by rw [ints_size]; omega))
      have HN : Hid (UnS w (W4.setCells q7 (k * 26) AW.toList) a b c rf (Pm.up fun i => i) M q q7 n (k + 1)) := by
        rw [hAW]
        refine ⟨⟨row_setCells_other (by omega) hz4.row, below_setCells (by omega) hz4.below⟩, ⟨row_setCells_other (by omega) hr4.row, hr4.ok, hr4.ins⟩, ?_, hq1, hq2⟩
        have := row_setCells (o := k * 26) (l := (ints 26 (Pm.up (chE M k))).toList) hk4
        rw [flat_lay (n := n) _ rfl HLT.out] at this
        exact this
      clear hz4 hk4 hr4 hq1 hq2 hAW
      go_wp2_with (first | refine wpList_store_mid rfl 25 _ _ rfl q7 (k * 26) AW rfl rfl (by rw [HSZ.out]; exact HTH.out) (by rw [HSZ.out]; exact info_perm) HON.out ?_)
      go_roundw
      case rel => exact ⟨k + 1, HLT.out, by go_num, HN.out⟩
      case measure => have := HLT.out; simp [intOf]; omega
    · obtain rfl : k = n := by omega
      have hnn : ¬ ((k : Nat) : Int) < ((k : Nat) : Int) := by omega
      have hkr := hg.keys
      rw [flatTo_all _ k rfl] at hkr
      have HKR := (show Hid _ from hkr)
      have HBE := (show Hid _ from hg.mg.below)
      have HQ : Hid (w.heap.size ≤ q7) := by have := hg.q1; have := hg.q2; rw [Hid]; omega
      clear hg hlt hkr
      go_wp2
      go_ret
      exact ⟨q7, rfl, HQ.out, HKR.out, HBE.out⟩
theorem unpl_any (vm : Value) (g : Gm) (hg : gE g = 0) (n : Nat) (hn : n ≤ 1000) (w : World) (hm : MacAt w vm g) : Calls Try.prog 67 #[vm, .int .i64 (n : Nat)] w fun e w' => ∃ q7, e = .returned (.slice (some ⟨q7, 0, none⟩) n n) ∧ w.heap.size ≤ q7 ∧ RowAt w' q7 25 (ints (n * 26) (flat (chE (Om.unplugged (maOf g))))) ∧ Below w.heap.size w w' := by
  have hbg := gE_bare hg
  obtain ⟨a, b, c, rfl, m1, m2, m3⟩ := hm
  have HN := fun W (hb : Below w.heap.size w W) => new_any (.agg (mac a b c g.rf (Pm.up fun i => i))) (bare g) W ⟨a, b, c, rfl, m1.below hb, m2.below hb, m3.below hb⟩
  refine unpl_run (Om.unplugged (maOf g)) n hn a b c g.rf g.pl w (fun W hb => (HN W hb).mono ?_)
  rintro e w' (⟨h1, _⟩ | ⟨_, h2⟩)
  · exact absurd hbg h1
  · exact h2
end Go.Proofs.Ytbbpbcmpemmgjaa

/-
  Contract of the document's Places (chapter 10).
-/
namespace Go.Proofs.Ytbbpbcmpemmgjaa
open Go.RowKit PK Vg

end Go.Proofs.Ytbbpbcmpemmgjaa
