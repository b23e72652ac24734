/-
  Several texts, joined: BoTe, ChRAt.
-/
import Derived.Test.YtigamiehnjipcaaBoGu
import Derived.Test.YtigamiehnjipcaaORSt
import Derived.Test.YtigamiehnjipcaaORNo
import Derived.Test.YtigamiehnjipcaaChCh
/-
  Contract of bombe.Test.
-/
namespace Go.Proofs.Ytigamiehnjipcaa
open Go.RowKit PK Vg

set_option maxRecDepth 100000 in
set_option maxHeartbeats 2000000 in
theorem test_bad (a b c : Value) (rf pl : Nat → Int) (cr te : ByteArray) (E : Int) (hE : (E != 0) = true) (w : World) (HW : Hid (∀ W, Below w.heap.size w W → Calls Try.prog 42 #[.agg (mac a b c rf pl), .string cr, .string te] W fun e w' => e = .returned (.int .i64 E) ∧ Below W.heap.size W w')) : Calls Try.prog 19 #[.agg (mac a b c rf pl), .string cr, .string te] w fun e w' => e = .returned (.tuple #[.slice none 0 0, .int .i64 E]) ∧ Below w.heap.size w w' := by
  have h0 := MgAt.new w a b c rf pl
  go_enter Try.func19, Try.ntmps19
  go_wp2_with (first | refine wpList_load_row rfl 27 _ rfl w.heap.size rfl 27 (mac a b c rf pl) (0, 0) _ h0.row Try.underlying27 rfl (by rw [mac_size]; exact v_info_mac) ?_)
  refine (HW.out _ h0.below).mono ?_
  rintro e W1 ⟨rfl, hb⟩
  have h1 := h0.step hb
  have HBE := (show Hid _ from h1.below)
  clear hb h0 HW h1
  go_wp2
  go_ret2
  exact ⟨rfl, HBE.out⟩
set_option maxRecDepth 100000 in
set_option maxHeartbeats 4000000 in
theorem test_run (m : Bo.Mn) (G0 : Nat → Nat → Int) (L : List Nat) (a b c : Value) (rf pl : Nat → Int) (cr te : ByteArray) (hcr : m.k = cr.size) (w : World) (HW : Hid (∀ W, Below w.heap.size w W → Calls Try.prog 42 #[.agg (mac a b c rf pl), .string cr, .string te] W fun e w' => e = .returned (.int .i64 0) ∧ Below W.heap.size W w'))
    (HM : Hid (∀ W, Calls Try.prog 44 #[.string cr, .string te] W fun e w' => ∃ G, e = .returned (.pointer (some ⟨G, 0, none⟩)) ∧ MnAt w' G (fun c => Bo.ml m c m.k) ∧ Below W.heap.size W w'))
    (HG : Hid (∀ W G, Below w.heap.size w W → MnAt W G (fun c => Bo.ml m c m.k) → Calls Try.prog 43 #[.agg (mac a b c rf pl), .pointer (some ⟨G, 0, none⟩), .int .i64 (m.k : Nat)] W fun e w' => ∃ v B, e = .returned v ∧ W.heap.size ≤ B ∧ OwnsG w' B v G0 L ∧ Below W.heap.size W w')) : Calls Try.prog 19 #[.agg (mac a b c rf pl), .string cr, .string te] w fun e w' => ∃ v, e = .returned (.tuple #[v, .int .i64 0]) ∧ GsAt w' v G0 L ∧ Below w.heap.size w w' := by
  have h0 := MgAt.new w a b c rf pl
  go_enter Try.func19, Try.ntmps19
  go_wp2_with (first | refine wpList_load_row rfl 27 _ rfl w.heap.size rfl 27 (mac a b c rf pl) (0, 0) _ h0.row Try.underlying27 rfl (by rw [mac_size]; exact v_info_mac) ?_)
  refine (HW.out _ h0.below).mono ?_
  rintro e W1 ⟨rfl, hb⟩
  have h1 := h0.step hb
  clear hb h0 HW
  go_upto_region 4 with fail
  refine wp_region_noPanic ?_
  refine wp_region_held_drew (S := fun W => MgAt w W a b c rf pl) (by kernel_rfl) h1.drew (fun hS => ?_)
  obtain ⟨U, hU⟩ : ∃ x, x = W1.drew := ⟨_, rfl⟩
  rw [← hU] at hS ⊢
  clear hU h1
  refine vtake 0 16 (.agg (mac a b c rf pl)) rfl rfl (by kernel_rfl) (by kernel_rfl) (by kernel_rfl) (fun _ _ _ _ h => h) (by rfl) (fun W hW => by have u := run_loadAt_mid (P := Try.prog) W w.heap.size 0 27 (mac a b c rf pl).toList _ (RowAt.range hW.row) Try.underlying27 rfl (by rw [Array.length_toList, mac_size]; exact v_info_mac); clear hS hW; simp [execOp, Act.eval, u]) hS ?_
  simp only [List.setIfInBounds_toArray, List.set_cons_succ, List.set_cons_zero]
  refine vtake 1 17 (.string cr) rfl rfl (by kernel_rfl) (by kernel_rfl) (by kernel_rfl) (fun _ _ _ _ h => h) (by rfl) (fun W hW => by clear hS hW; go_simp) hS ?_
  simp only [List.setIfInBounds_toArray, List.set_cons_succ, List.set_cons_zero]
  refine vtake 2 18 (.string te) rfl rfl (by kernel_rfl) (by kernel_rfl) (by kernel_rfl) (fun _ _ _ _ h => h) (by rfl) (fun W hW => by clear hS hW; go_simp) hS ?_
  simp only [List.setIfInBounds_toArray, List.set_cons_succ, List.set_cons_zero]
  refine vtake 4 20 (.string cr) rfl rfl (by kernel_rfl) (by kernel_rfl) (by kernel_rfl) (fun _ _ _ _ h => h) (by rfl) (fun W hW => by clear hS hW; go_simp) hS ?_
  simp only [List.setIfInBounds_toArray, List.set_cons_succ, List.set_cons_zero]
  refine vtake 5 21 (.int .i64 (m.k : Nat)) rfl rfl (by kernel_rfl) (by kernel_rfl) (by kernel_rfl) (fun _ _ _ _ h => h) (by rfl) (fun W hW => by have u := hcr; clear hS hW; rw [hcr]; go_simp) hS ?_
  simp only [List.setIfInBounds_toArray, List.set_cons_succ, List.set_cons_zero]
  clear hcr
  refine wpAnyH_ready (rs := [3]) (by kernel_rfl) (by simp) ?_
  refine AllReadyH.cons (o := _) rfl (fun K hK => ?_) AllReadyH.nil
  rw [if_pos (by rfl)]
  go_simp
  refine Calls.mono (HM.out _) ?_
  rintro e Y ⟨G, rfl, hmn, hb3⟩
  refine hK.out _ _ (hS.step hb3) (fun hS1 => ?_)
  clear hK hS K hb3
  have hS := hS1
  clear hS1
  refine wpAnyH_ready (rs := [6]) (by kernel_rfl) (by simp) ?_
  refine AllReadyH.cons (o := _) rfl (fun K hK => ?_) AllReadyH.nil
  rw [if_pos (by rfl)]
  go_simp
  refine Calls.mono (HG.out _ G hS.below hmn) ?_
  rintro e Z ⟨v, B, rfl, _, hov, hb6⟩
  refine hK.out _ _ (hS.step hb6) (fun hS1 => ?_)
  clear hK hS K hb6 hmn
  have hS := hS1
  clear hS1
  refine vtake 7 6 (v) rfl rfl (by kernel_rfl) (by kernel_rfl) (by kernel_rfl) (fun _ _ _ _ h => h) (by rfl) (fun W hW => by clear hS hW; go_simp) hS ?_
  simp only [List.setIfInBounds_toArray, List.set_cons_succ, List.set_cons_zero]
  refine vtake 8 7 (.int .i64 0) rfl rfl (by kernel_rfl) (by kernel_rfl) (by kernel_rfl) (fun _ _ _ _ h => h) (by rfl) (fun W hW => by clear hS hW; go_simp) hS ?_
  simp only [List.setIfInBounds_toArray, List.set_cons_succ, List.set_cons_zero]
  refine wpAnyH_done (by kernel_rfl) ?_ _
  refine NoPanic.normal ?_
  have HOV := (show Hid _ from hov.at)
  have HBE := (show Hid _ from hS.below)
  clear hov hS
  go_wp2_with fail
  go_ret2
  exact ⟨v, rfl, HOV.out, HBE.out⟩
theorem test_wrong (vm : Value) (g : Gm) (cr te : ByteArray) (w : World) (hm : MacAt w vm g) (hE : bwE g cr.data.toList te.data.toList ≠ 0) : Calls Try.prog 19 #[vm, .string cr, .string te] w fun e w' => e = .returned (.tuple #[.slice none 0 0, .int .i64 (bwE g cr.data.toList te.data.toList)]) ∧ Below w.heap.size w w' := by
  have HW := fun W (hb : Below w.heap.size w W) => bwrong_any vm g cr te W (hm.below hb)
  obtain ⟨a, b, c, rfl, _⟩ := hm
  exact test_bad a b c g.rf g.pl cr te _ (by simpa using hE) w HW
theorem test_ok (vm : Value) (g : Gm) (cr te : ByteArray) (A : Nat) (ok : Nat → Bool) (pr : Nat → Nat → Int) (ht : Tst g cr te A ok pr) (w : World) (hm : MacAt w vm g) : Calls Try.prog 19 #[vm, .string cr, .string te] w fun e w' => ∃ v, e = .returned (.tuple #[v, .int .i64 0]) ∧ GsAt w' v (fun b => gsF A b (pr b)) (okTo ok 26) ∧ Below w.heap.size w w' := by
  have HW := fun W (hb : Below w.heap.size w W) => bwrong_any vm g cr te W (hm.below hb)
  obtain ⟨hmo, hk32⟩ := mnu_ok ht.e
  rw [ht.e] at HW
  have HU := fun W (hb : Below w.heap.size w W) => unpl_any vm g (bwE_zero ht.e).1 (mnu g cr te).k (by omega) W (hm.below hb)
  obtain ⟨a, b, c, rfl, _⟩ := hm
  refine test_run (mnu g cr te) _ _ a b c g.rf g.pl cr te rfl w HW (fun W => (menuOf_any (mnu g cr te) cr te (menu_of ht.e) W).mono ?_) (fun W G hb hmn => guesses_run (mnu g cr te) hmo hk32 A ht.a ok pr ht.res a b c g.rf g.pl G W hmn (fun W' hb' => HU W' (hb.trans (hb'.mono hb.size))))
  rintro e w' ⟨vals, h1, h2, h3⟩
  exact ⟨_, h1, h2.at, h3⟩
end Go.Proofs.Ytigamiehnjipcaa

/-
  Contract of the document's At (chapter 9).
-/
namespace Go.Proofs.Ytigamiehnjipcaa
open Go.RowKit PK Vg

/-- The machine in its variable, and a permutation as a result. -/
structure RaS (w W : World) (a b c : Value) (rf pl : Nat → Int) : Prop where
  mg : MgAt w W a b c rf pl
  res : RowAt W (w.heap.size + 1) 25 (ints 26 fun _ => 0)
theorem RaS.step {w W W' : World} {a b c : Value} {rf pl : Nat → Int} (h : RaS w W a b c rf pl) (hb : Below W.heap.size W W') : RaS w W' a b c rf pl := ⟨h.mg.step hb, h.res.below hb h.res.lt⟩
theorem RaS.new (w : World) (a b c : Value) (rf pl : Nat → Int) : RaS w ((w.alloc (.cells (mac a b c rf pl) 27)).alloc (.cells (ints 26 fun _ => 0) 25)) a b c rf pl := by
  have h := RowAt.new (w.alloc (.cells (mac a b c rf pl) 27)) 25 (ints 26 fun _ => 0)
  rw [World.size_alloc] at h
  exact ⟨(MgAt.new w a b c rf pl).alloc _, h⟩
set_option maxRecDepth 100000 in
set_option maxHeartbeats 4000000 in
theorem rat_any (M : Om.Ma) (hM : Om.Ok M) (vm : Value) (n : Nat) (hn : n ≤ 1000) (w : World) (hm : MacAt w vm (gOf M)) : Calls Try.prog 32 #[vm, .int .i64 (n : Nat)] w fun e w' => e = .returned (.agg (ints 26 (Pm.up (Om.now M (Om.steps M M.st n))))) ∧ Below w.heap.size w w' := by
  have HST := (show Hid (∀ W (va : Value) (at' : Nat → Nat), Below w.heap.size w W → Om.In26 M at' → (NumsAt W va M.n fun i => (at' i : Nat)) → Calls Try.prog 58 #[vm, va] W fun e w' => ∃ v, e = .returned v ∧ NumsAt w' v M.n (fun i => (Om.step M at' i : Nat)) ∧ Below W.heap.size W w' ∧ ∀ b, v.ownBlock = some b → W.heap.size ≤ b) from fun W va at' hb h26 ha => rstep_any M hM vm va at' h26 W (hm.below hb) ha)
  have HNW := (show Hid (∀ W (va : Value) (at' : Nat → Nat), Below w.heap.size w W → Om.In26 M at' → (NumsAt W va M.n fun i => (at' i : Nat)) → Calls Try.prog 59 #[vm, va] W fun e w' => e = .returned (.agg (ints 26 (Pm.up (Om.now M at')))) ∧ Below W.heap.size W w') from fun W va at' hb h26 ha => rnow_any M hM vm va at' h26 W (hm.below hb) ha)
  have HIN := (show Hid (∀ k, Om.In26 M (Om.steps M M.st k)) from fun k => Om.In26.steps (fun i hi => hM.st i hi) k)
  obtain ⟨a, b, c, rfl, _, _, hc⟩ := hm
  have HC0 := (show Hid (NumsAt w c M.n fun i => (M.st i : Nat)) from hc)
  have h0 := RaS.new w a b c (gOf M).rf (gOf M).pl
  have hz26 := o_zero v_zero_perm
  generalize (gOf M).rf = rf at *
  generalize (gOf M).pl = pl at *
  obtain ⟨ac, cc, hec, _, _⟩ := hc
  clear hM
  subst hec
  go_enter Try.func32, Try.ntmps32
  go_upto_region 1 with fail
  generalize (w.alloc (.cells (mac a b (.slice ac (gOf M).sl cc) rf pl) 27)).alloc (.cells (ints 26 fun _ => 0) 25) = W0 at *
  have hmc := h0.mg.c2
  clear hz26
  go_wp2_with fail
  clear hmc
  have hg0 : RaS w W0 a b (.slice ac (gOf M).sl cc) rf pl ∧ NumsAt W0 (.slice ac (gOf M).sl cc) M.n (fun i => (Om.steps M M.st 0 i : Nat)) := ⟨h0, HC0.out.below h0.mg.below⟩
  go_loopw [5, 6] (fun y i W => ∃ (k : Nat) (v : Value), k ≤ n ∧ i = .int .i64 (k : Nat) ∧ v = y ∧ RaS w W a b (.slice ac (gOf M).sl cc) rf pl ∧ NumsAt W v M.n (fun i => (Om.steps M M.st k i : Nat))) (fun _ i _ => ((n : Int) - intOf i).toNat)
  case atStart => exact ⟨0, _, by omega, rfl, rfl, hg0.1, hg0.2⟩
  case round =>
    clear hg0 h0
    obtain ⟨k, v, hk, rfl, rfl, hg, hv⟩ := hrel
    have hmr := hg.mg.row
    have HG := (show Hid _ from hg)
    have HV := (show Hid (NumsAt wr v M.n fun i => (Om.steps M M.st k i : Nat)) from hv)
    by_cases hlt : k < n
    · have HLT : Hid (k < n) := hlt
      have hlt2 : (k : Int) < (n : Int) := by omega
      clear hg hv hlt
      go_wp2_with (first | refine wpList_load_row rfl 27 _ rfl w.heap.size rfl 27 (mac a b (.slice ac (gOf M).sl cc) rf pl) (0, 0) _ hmr Try.underlying27 rfl (by rw [mac_size]; exact v_info_mac) ?_)
      refine (HST.out _ v _ HG.out.mg.below (HIN.out k) HV.out).mono ?_
      rintro e W2 ⟨v2, rfl, hv2, hb, _⟩
      have HG2 := (show Hid _ from HG.out.step hb)
      have HV2 := (show Hid (NumsAt W2 v2 M.n fun i => (Om.steps M M.st (k + 1) i : Nat)) from hv2)
      clear hb HG HV hv2 hmr
      go_wp2
      go_roundw
      case rel => exact ⟨k + 1, v2, HLT.out, by go_num, rfl, HG2.out, HV2.out⟩
      case measure => have := HLT.out; simp [intOf]; omega
    · obtain rfl : k = n := by omega
      have hnn : ¬ ((k : Nat) : Int) < ((k : Nat) : Int) := by omega
      clear hg hv hlt
      go_wp2_with (first | refine wpList_load_row rfl 27 _ rfl w.heap.size rfl 27 (mac a b (.slice ac (gOf M).sl cc) rf pl) (0, 0) _ hmr Try.underlying27 rfl (by rw [mac_size]; exact v_info_mac) ?_)
      refine (HNW.out _ v _ HG.out.mg.below (HIN.out k) HV.out).mono ?_
      rintro e W2 ⟨rfl, hb⟩
      have hg2 := HG.out.step hb
      have hrs := hg2.res
      have hbe := hg2.mg.below
      obtain ⟨AW, hAW⟩ : ∃ AW, AW = ints 26 (Pm.up (Om.now M (Om.steps M M.st k))) := ⟨_, rfl⟩
      have HSZ : Hid (AW.size = 26) := by rw [Hid, hAW, ints_size]
      have HON : Hid (AW.all (·.oneCell') = true) := by rw [Hid, hAW]; exact ints_one _ _
      rw [← hAW]
      have HAW := (show Hid _ from hAW)
      clear hb HG HV hmr hg2 hAW
      go_wp2_with (first | refine wpList_store_row rfl 25 _ _ rfl (w.heap.size + 1) AW rfl rfl 25 _ hrs (by rw [HSZ.out]; exact info_perm) (by rw [HSZ.out, ints_size]) HON.out ?_)
      exact bodyPost_ret (v := .agg AW) (o_results1 Try.results32 _ _ _ _ _ _ _ rfl (hrs.row _) Try.underlying25 rfl (by rw [HSZ.out]; exact info_perm)) rfl ⟨by rw [HAW.out], Below.setRow hbe _ (by omega) _⟩
end Go.Proofs.Ytigamiehnjipcaa
