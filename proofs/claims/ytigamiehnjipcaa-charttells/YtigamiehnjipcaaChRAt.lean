/-
  Contract of the document's At (chapter 9).
-/
import Derived.Test.YtigamiehnjipcaaORSt
import Derived.Test.YtigamiehnjipcaaORNo
import Derived.Test.YtigamiehnjipcaaChCh
namespace Go.Proofs.Ytigamiehnjipcaa
open Go.RowKit PK Vg

/-- The machine in its variable, and a permutation as a result. -/
structure RaS (w W : World) (a b c : Value) (rf pl : Nat → Int) : Prop where
  mg : MgAt w W a b c rf pl
  res : RowAt W (w.heap.size + 1) 25 (ints 26 fun _ => 0)
theorem RaS.step {w W W' : World} {a b c : Value} {rf pl : Nat → Int} (h : RaS w W a b c rf pl) (hb : Below W.heap.size W W') : RaS w W' a b c rf pl := ⟨h.mg.step hb, h.res.below hb h.res.lt⟩
theorem RaS.new (w : World) (a b c : Value) (rf pl : Nat → Int) : RaS w ((w.alloc (.cells (mac a b c rf pl) 27)).alloc (.cells (ints 26 fun _ => 0) 25)) a b c rf pl := by
  have h := RowAt.new (w.alloc (.cells (mac a b c rf pl) 27)) 25 (ints 26 fun _ => 0)
  rw [World.size_alloc] at h
  exact ⟨(MgAt.new w a b c rf pl).alloc _, h⟩
set_option maxRecDepth 100000 in
set_option maxHeartbeats 4000000 in
theorem rat_any (M : Om.Ma) (hM : Om.Ok M) (vm : Value) (n : Nat) (hn : n ≤ 1000) (w : World) (hm : MacAt w vm (gOf M)) : Calls Try.prog 32 #[vm, .int .i64 (n : Nat)] w fun e w' => e = .returned (.agg (ints 26 (Pm.up (Om.now M (Om.steps M M.st n))))) ∧ Below w.heap.size w w' := by
  have HST := (show Hid (∀ W (va : Value) (at' : Nat → Nat), Below w.heap.size w W → Om.In26 M at' → (NumsAt W va M.n fun i => (at' i : Nat)) → Calls Try.prog 58 #[vm, va] W fun e w' => ∃ v, e = .returned v ∧ NumsAt w' v M.n (fun i => (Om.step M at' i : Nat)) ∧ Below W.heap.size W w' ∧ ∀ b, v.ownBlock = some b → W.heap.size ≤ b) from fun W va at' hb h26 ha => rstep_any M hM vm va at' h26 W (hm.below hb) ha)
  have HNW := (show Hid (∀ W (va : Value) (at' : Nat → Nat), Below w.heap.size w W → Om.In26 M at' → (NumsAt W va M.n fun i => (at' i : Nat)) → Calls Try.prog 59 #[vm, va] W fun e w' => e = .returned (.agg (ints 26 (Pm.up (Om.now M at')))) ∧ Below W.heap.size W w') from fun W va at' hb h26 ha => rnow_any M hM vm va at' h26 W (hm.below hb) ha)
  have HIN := (show Hid (∀ k, Om.In26 M (Om.steps M M.st k)) from fun k => Om.In26.steps (fun i hi => hM.st i hi) k)
  obtain ⟨a, b, c, rfl, _, _, hc⟩ := hm
  have HC0 := (show Hid (NumsAt w c M.n fun i => (M.st i : Nat)) from hc)
  have h0 := RaS.new w a b c (gOf M).rf (gOf M).pl
  have hz26 := o_zero v_zero_perm
  generalize (gOf M).rf = rf at *
  generalize (gOf M).pl = pl at *
  obtain ⟨ac, cc, hec, _, _⟩ := hc
  clear hM
  subst hec
  go_enter Try.func32, Try.ntmps32
  go_upto_region 1 with fail
  generalize (w.alloc (.cells (mac a b (.slice ac (gOf M).sl cc) rf pl) 27)).alloc (.cells (ints 26 fun _ => 0) 25) = W0 at *
  have hmc := h0.mg.c2
  clear hz26
  go_wp2_with fail
  clear hmc
  have hg0 : RaS w W0 a b (.slice ac (gOf M).sl cc) rf pl ∧ NumsAt W0 (.slice ac (gOf M).sl cc) M.n (fun i => (Om.steps M M.st 0 i : Nat)) := ⟨h0, HC0.out.below h0.mg.below⟩
  go_loopw [5, 6] (fun y i W => ∃ (k : Nat) (v : Value), k ≤ n ∧ i = .int .i64 (k : Nat) ∧ v = y ∧ RaS w W a b (.slice ac (gOf M).sl cc) rf pl ∧ NumsAt W v M.n (fun i => (Om.steps M M.st k i : Nat))) (fun _ i _ => ((n : Int) - intOf i).toNat)
  case atStart => exact ⟨0, _, by omega, rfl, rfl, hg0.1, hg0.2⟩
  case round =>
    clear hg0 h0
    obtain ⟨k, v, hk, rfl, rfl, hg, hv⟩ := hrel
    have hmr := hg.mg.row
    have HG := (show Hid _ from hg)
    have HV := (show Hid (NumsAt wr v M.n fun i => (Om.steps M M.st k i : Nat)) from hv)
    by_cases hlt : k < n
    · have HLT : Hid (k < n) := hlt
      have hlt2 : (k : Int) < (n : Int) := by omega
      clear hg hv hlt
      go_wp2_with (first | refine wpList_load_row rfl 27 _ rfl w.heap.size rfl 27 (mac a b (.slice ac (gOf M).sl cc) rf pl) (0, 0) _ hmr Try.underlying27 rfl (by rw [mac_size]; exact v_info_mac) ?_)
      refine (HST.out _ v _ HG.out.mg.below (HIN.out k) HV.out).mono ?_
      rintro e W2 ⟨v2, rfl, hv2, hb, _⟩
      have HG2 := (show Hid _ from HG.out.step hb)
      have HV2 := (show Hid (NumsAt W2 v2 M.n fun i => (Om.steps M M.st (k + 1) i : Nat)) from hv2)
      clear hb HG HV hv2 hmr
      go_wp2
      go_roundw
      case rel => exact ⟨k + 1, v2, HLT.out, by go_num, rfl, HG2.out, HV2.out⟩
      case measure => have := HLT.out; simp [intOf]; omega
    · obtain rfl : k = n := by omega
      have hnn : ¬ ((k : Nat) : Int) < ((k : Nat) : Int) := by omega
      clear hg hv hlt
      go_wp2_with (first | refine wpList_load_row rfl 27 _ rfl w.heap.size rfl 27 (mac a b (.slice ac (gOf M).sl cc) rf pl) (0, 0) _ hmr Try.underlying27 rfl (by rw [mac_size]; exact v_info_mac) ?_)
      refine (HNW.out _ v _ HG.out.mg.below (HIN.out k) HV.out).mono ?_
      rintro e W2 ⟨rfl, hb⟩
      have hg2 := HG.out.step hb
      have hrs := hg2.res
      have hbe := hg2.mg.below
      obtain ⟨AW, hAW⟩ : ∃ AW, AW = ints 26 (Pm.up (Om.now M (Om.steps M M.st k))) := ⟨_, rfl⟩
      have HSZ : Hid (AW.size = 26) := by rw [Hid, hAW, ints_size]
      have HON : Hid (AW.all (·.oneCell') = true) := by rw [Hid, hAW]; exact ints_one _ _
      rw [← hAW]
      have HAW := (show Hid _ from hAW)
      clear hb HG HV hmr hg2 hAW
      go_wp2_with (first | refine wpList_store_row rfl 25 _ _ rfl (w.heap.size + 1) AW rfl rfl 25 _ hrs (by rw [HSZ.out]; exact info_perm) (by rw [HSZ.out, ints_size]) HON.out ?_)
      exact bodyPost_ret (v := .agg AW) (o_results1 Try.results32 _ _ _ _ _ _ _ rfl (hrs.row _) Try.underlying25 rfl (by rw [HSZ.out]; exact info_perm)) rfl ⟨by rw [HAW.out], Below.setRow hbe _ (by omega) _⟩
end Go.Proofs.Ytigamiehnjipcaa
