/-
  Contract of bombe.unplugged.
-/
import Derived.Test.YtigamiehnjipcaaJn11
import Derived.Test.YtigamiehnjipcaaRoNe
import Derived.Test.YtigamiehnjipcaaJn8
import Derived.Test.YtigamiehnjipcaaRoSt
namespace Go.Proofs.Ytigamiehnjipcaa
open Go.RowKit PK Vg

theorem b_info_perm : (Try.prog.info? 25).map (fun i => (i.zero, i.size, i.bytes)) = some (some (.agg (ints 26 fun _ => 0)), 26, 208) := by kernel_rfl
theorem made_ints (n : Nat) : madeCells (ints 26 fun _ => 0) (n * 26) = ints (n * 26) fun _ => 0 := by
  apply Array.ext_getElem?
  intro i
  by_cases hi : i < n * 26
  · rw [ints_get _ hi]
    have h2 : (ints 26 fun _ => 0)[i % 26]? = some (.int .i64 0) := ints_get (fun _ => 0) (Nat.mod_lt _ (by decide))
    simp [madeCells, hi, ints_size]
    rw [getElem!_def, h2]
  · rw [Array.getElem?_eq_none (by rw [size_madeCells]; omega), Array.getElem?_eq_none (by rw [ints_size]; omega)]
theorem run_make_perms (n : Nat) (hn : n ≤ 1000) (w : World) : (Instr.makeSlice 57 (.int .i64 (n : Int)) (.int .i64 (n : Int))).run Try.prog w = .ok (.slice (some ⟨w.heap.size, 0, none⟩) n n) (w.alloc (.cells (ints (n * 26) fun _ => 0) 25)) := by
  obtain ⟨i, hi, hz, hs, hb⟩ := x_info_parts b_info_perm
  have hr := run_make (P := Try.prog) w 57 25 i _ Try.underlying57 hi hz .i64 .i64 n n (by omega) (Int.le_refl _) (by rw [hb]; omega) (by omega)
  rw [hr, hs]
  have hc : (Value.agg (ints 26 fun _ => 0)).cells = ints 26 fun _ => 0 := rfl
  simp only [Int.toNat_natCast, hc, made_ints]
/-- What is held while the keys are pressed. -/
structure UnS (w W : World) (a b c : Value) (rf pl : Nat → Int) (M : Om.Ma) (q q7 n k : Nat) : Prop where
  mg : MgAt w W a b c rf pl
  rot : RotAt W q M (Om.steps M M.st k)
  keys : RowAt W q7 25 (ints (n * 26) (flatTo (chE M) k))
  q1 : w.heap.size < q
  q2 : q < q7
set_option maxRecDepth 100000 in
set_option maxHeartbeats 4000000 in
theorem unpl_run (M : Om.Ma) (n : Nat) (hn : n ≤ 1000) (a b c : Value) (rf pl : Nat → Int) (w : World) (HW : Hid (∀ W, Below w.heap.size w W → Calls Try.prog 26 #[.agg (mac a b c rf (Pm.up fun i => i))] W fun e w' => ∃ q, e = .returned (.tuple #[.pointer (some ⟨q, 0, none⟩), .int .i64 0]) ∧ W.heap.size ≤ q ∧ RotAt w' q M M.st ∧ Below W.heap.size W w')) : Calls Try.prog 67 #[.agg (mac a b c rf pl), .int .i64 (n : Nat)] w fun e w' => ∃ q7, e = .returned (.slice (some ⟨q7, 0, none⟩) n n) ∧ w.heap.size ≤ q7 ∧ RowAt w' q7 25 (ints (n * 26) (flat (chE M))) ∧ Below w.heap.size w w' := by
  have h0 := MgAt.new w a b c rf pl
  have HS := (show Hid (∀ W, Calls Try.prog 24 #[] W fun e w' => e = .returned (.agg (ints 26 (Pm.up fun i => i))) ∧ Below W.heap.size W w') from same_any)
  go_enter Try.func67, Try.ntmps67
  go_wp2_with fail
  refine (HS.out _).mono ?_
  rintro e W1 ⟨rfl, hb⟩
  have h1 := h0.step hb
  clear hb h0 HS
  have hth := there_row h1.row (o := 29) (n := 26) (by rw [mac_size]; decide)
  go_upto_region 2 with (first | refine wpList_store_mid rfl 25 _ _ rfl w.heap.size 29 (ints 26 (Pm.up fun i => i)) rfl rfl (by rw [ints_size]; exact hth) (by rw [ints_size]; exact info_perm) (ints_one _ _) ?_)
  have h2 : MgAt w (W1.setCells w.heap.size 29 (ints 26 (Pm.up fun i => i)).toList) a b c rf (Pm.up fun i => i) := by
    refine ⟨?_, below_setCells (Nat.le_refl _) h1.below⟩
    have := row_setCells (l := (ints 26 (Pm.up fun i => i)).toList) (o := 29) h1.row
    rw [mac_plugs] at this
    exact this
  generalize W1.setCells w.heap.size 29 (ints 26 (Pm.up fun i => i)).toList = V1 at *
  clear h1 hth
  have hmr := h2.row
  go_wp2_with (first | refine wpList_load_row rfl 27 _ rfl w.heap.size rfl 27 (mac a b c rf (Pm.up fun i => i)) (0, 0) _ hmr Try.underlying27 rfl (by rw [mac_size]; exact v_info_mac) ?_)
  refine (HW.out _ h2.below).mono ?_
  rintro e W2 ⟨q, rfl, hq, hrot, hb⟩
  have h3 := h2.step hb
  have hq1 : w.heap.size < q := by have := h2.lt; omega
  have hlq := hrot.row.lt
  have hmk := run_make_perms n hn
  clear hb h2 HW hmr hq
  go_upto_region 4 with fail
  have hg0 : UnS w (W2.alloc (.cells (ints (n * 26) fun _ => 0) 25)) a b c rf (Pm.up fun i => i) M q W2.heap.size n 0 := ⟨h3.alloc _, hrot.alloc _, by rw [flatTo_zero]; exact RowAt.new W2 _ _, hq1, hlq⟩
  generalize W2.alloc (.cells (ints (n * 26) fun _ => 0) 25) = V2 at *
  obtain ⟨q7, hq7⟩ : ∃ x, x = W2.heap.size := ⟨_, rfl⟩
  rw [← hq7] at hg0 ⊢
  clear hq7 hmk h3 hrot hq1 hlq
  go_wp2_with fail
  go_loopw [19] (fun i W => ∃ k : Nat, k ≤ n ∧ i = .int .i64 (k : Nat) ∧ UnS w W a b c rf (Pm.up fun i => i) M q q7 n k) (fun i _ => ((n : Int) - intOf i).toNat)
  case atStart => exact ⟨0, by omega, rfl, hg0⟩
  case round =>
    clear hg0
    obtain ⟨k, hk, rfl, hg⟩ := hrel
    by_cases hlt : k < n
    · have HLT : Hid (k < n) := hlt
      have hlt2 : (k : Int) < (n : Int) := by omega
      have HSTK := (show Hid (Om.step M (Om.steps M M.st k) = Om.steps M M.st (k + 1)) from rfl)
      go_wp2_with fail
      refine (step_any q M _ _ hg.rot).mono ?_
      rintro e W3 ⟨rfl, hr, hgr⟩
      rw [HSTK.out] at hr
      have hq1 := hg.q1
      have hq2 := hg.q2
      have hz3 : MgAt w W3 a b c rf (Pm.up fun i => i) := ⟨(hgr.block _ hg.mg.row.lt (fun e => by cases e; omega)).trans hg.mg.row, hg.mg.below.grown hgr hg.mg.below.size (fun k hk => by cases hk; omega)⟩
      have hk3 : RowAt W3 q7 25 (ints (n * 26) (flatTo (chE M) k)) := (hgr.block _ hg.keys.lt (fun e => by cases e; omega)).trans hg.keys
      clear hg hgr
      go_wp2_with fail
      refine (now_any q M _ _ hr).mono ?_
      rintro e W4 ⟨rfl, hb⟩
      have hz4 := hz3.step hb
      have hk4 := hk3.below hb hk3.lt
      have hr4 := hr.below hb
      clear hb hz3 hk3 hr
      obtain ⟨AW, hAW⟩ : ∃ AW, AW = ints 26 (Pm.up (Om.now M (Om.steps M M.st (k + 1)))) := ⟨_, rfl⟩
      have HSZ : Hid (AW.size = 26) := by rw [Hid, hAW, ints_size]
      have HON : Hid (AW.all (·.oneCell') = true) := by rw [Hid, hAW]; exact ints_one _ _
      rw [← hAW]
      have HTH := (show Hid (W4.there q7 (k * 26) 26) from there_row (o := k * 26) (n := 26) hk4 (by rw [ints_size]; omega))
      have HN : Hid (UnS w (W4.setCells q7 (k * 26) AW.toList) a b c rf (Pm.up fun i => i) M q q7 n (k + 1)) := by
        rw [hAW]
        refine ⟨⟨row_setCells_other (by omega) hz4.row, below_setCells (by omega) hz4.below⟩, ⟨row_setCells_other (by omega) hr4.row, hr4.ok, hr4.ins⟩, ?_, hq1, hq2⟩
        have := row_setCells (o := k * 26) (l := (ints 26 (Pm.up (chE M k))).toList) hk4
        rw [flat_lay (n := n) _ rfl HLT.out] at this
        exact this
      clear hz4 hk4 hr4 hq1 hq2 hAW
      go_wp2_with (first | refine wpList_store_mid rfl 25 _ _ rfl q7 (k * 26) AW rfl rfl (by rw [HSZ.out]; exact HTH.out) (by rw [HSZ.out]; exact info_perm) HON.out ?_)
      go_roundw
      case rel => exact ⟨k + 1, HLT.out, by go_num, HN.out⟩
      case measure => have := HLT.out; simp [intOf]; omega
    · obtain rfl : k = n := by omega
      have hnn : ¬ ((k : Nat) : Int) < ((k : Nat) : Int) := by omega
      have hkr := hg.keys
      rw [flatTo_all _ k rfl] at hkr
      have HKR := (show Hid _ from hkr)
      have HBE := (show Hid _ from hg.mg.below)
      have HQ : Hid (w.heap.size ≤ q7) := by have := hg.q1; have := hg.q2; rw [Hid]; omega
      clear hg hlt hkr
      go_wp2
      go_ret
      exact ⟨q7, rfl, HQ.out, HKR.out, HBE.out⟩
theorem unpl_any (vm : Value) (g : Gm) (hg : gE g = 0) (n : Nat) (hn : n ≤ 1000) (w : World) (hm : MacAt w vm g) : Calls Try.prog 67 #[vm, .int .i64 (n : Nat)] w fun e w' => ∃ q7, e = .returned (.slice (some ⟨q7, 0, none⟩) n n) ∧ w.heap.size ≤ q7 ∧ RowAt w' q7 25 (ints (n * 26) (flat (chE (Om.unplugged (maOf g))))) ∧ Below w.heap.size w w' := by
  have hbg := gE_bare hg
  obtain ⟨a, b, c, rfl, m1, m2, m3⟩ := hm
  have HN := fun W (hb : Below w.heap.size w W) => new_any (.agg (mac a b c g.rf (Pm.up fun i => i))) (bare g) W ⟨a, b, c, rfl, m1.below hb, m2.below hb, m3.below hb⟩
  refine unpl_run (Om.unplugged (maOf g)) n hn a b c g.rf g.pl w (fun W hb => (HN W hb).mono ?_)
  rintro e w' (⟨h1, _⟩ | ⟨_, h2⟩)
  · exact absurd hbg h1
  · exact h2
end Go.Proofs.Ytigamiehnjipcaa
