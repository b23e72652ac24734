/-
  Several texts, joined: ChRAt, ChRCh.
-/
import Derived.Test.YthfjkhmedpilnaaORSt
import Derived.Test.YthfjkhmedpilnaaORNo
import Derived.Test.YthfjkhmedpilnaaChCh
import Derived.Test.YthfjkhmedpilnaaJn24
import Derived.Test.YthfjkhmedpilnaaORWr
/-
  Contract of the document's At (chapter 9).
-/
namespace Go.Proofs.Ythfjkhmedpilnaa
open Go.RowKit PK Vg

/-- The machine in its variable, and a permutation as a result. -/
structure RaS (w W : World) (a b c : Value) (rf pl : Nat → Int) : Prop where
  mg : MgAt w W a b c rf pl
  res : RowAt W (w.heap.size + 1) 25 (ints 26 fun _ => 0)
theorem RaS.step {w W W' : World} {a b c : Value} {rf pl : Nat → Int} (h : RaS w W a b c rf pl) (hb : Below W.heap.size W W') : RaS w W' a b c rf pl := ⟨h.mg.step hb, h.res.below hb h.res.lt⟩
theorem RaS.new (w : World) (a b c : Value) (rf pl : Nat → Int) : RaS w ((w.alloc (.cells (mac a b c rf pl) 27)).alloc (.cells (ints 26 fun _ => 0) 25)) a b c rf pl := by
  have h := RowAt.new (w.alloc (.cells (mac a b c rf pl) 27)) 25 (ints 26 fun _ => 0)
  rw [World.size_alloc] at h
  exact ⟨(MgAt.new w a b c rf pl).alloc _, h⟩
set_option maxRecDepth 100000 in
set_option maxHeartbeats 4000000 in
theorem rat_any (M : Om.Ma) (hM : Om.Ok M) (vm : Value) (n : Nat) (hn : n ≤ 1000) (w : World) (hm : MacAt w vm (gOf M)) : Calls Try.prog 81 #[vm, .int .i64 (n : Nat)] w fun e w' => e = .returned (.agg (ints 26 (Pm.up (Om.now M (Om.steps M M.st n))))) ∧ Below w.heap.size w w' := by
  have HST := (show Hid (∀ W (va : Value) (at' : Nat → Nat), Below w.heap.size w W → Om.In26 M at' → (NumsAt W va M.n fun i => (at' i : Nat)) → Calls Try.prog 95 #[vm, va] W fun e w' => ∃ v, e = .returned v ∧ NumsAt w' v M.n (fun i => (Om.step M at' i : Nat)) ∧ Below W.heap.size W w' ∧ ∀ b, v.ownBlock = some b → W.heap.size ≤ b) from fun W va at' hb h26 ha => rstep_any M hM vm va at' h26 W (hm.below hb) ha)
  have HNW := (show Hid (∀ W (va : Value) (at' : Nat → Nat), Below w.heap.size w W → Om.In26 M at' → (NumsAt W va M.n fun i => (at' i : Nat)) → Calls Try.prog 96 #[vm, va] W fun e w' => e = .returned (.agg (ints 26 (Pm.up (Om.now M at')))) ∧ Below W.heap.size W w') from fun W va at' hb h26 ha => rnow_any M hM vm va at' h26 W (hm.below hb) ha)
  have HIN := (show Hid (∀ k, Om.In26 M (Om.steps M M.st k)) from fun k => Om.In26.steps (fun i hi => hM.st i hi) k)
  obtain ⟨a, b, c, rfl, _, _, hc⟩ := hm
  have HC0 := (show Hid (NumsAt w c M.n fun i => (M.st i : Nat)) from hc)
  have h0 := RaS.new w a b c (gOf M).rf (gOf M).pl
  have hz26 := o_zero v_zero_perm
  generalize (gOf M).rf = rf at *
  generalize (gOf M).pl = pl at *
  obtain ⟨ac, cc, hec, _, _⟩ := hc
  clear hM
  subst hec
  go_enter Try.func81, Try.ntmps81
  go_upto_region 1 with fail
  generalize (w.alloc (.cells (mac a b (.slice ac (gOf M).sl cc) rf pl) 27)).alloc (.cells (ints 26 fun _ => 0) 25) = W0 at *
  have hmc := h0.mg.c2
  clear hz26
  go_wp2_with fail
  clear hmc
  have hg0 : RaS w W0 a b (.slice ac (gOf M).sl cc) rf pl ∧ NumsAt W0 (.slice ac (gOf M).sl cc) M.n (fun i => (Om.steps M M.st 0 i : Nat)) := ⟨h0, HC0.out.below h0.mg.below⟩
  go_loopw [5, 6] (fun y i W => ∃ (k : Nat) (v : Value), k ≤ n ∧ i = .int .i64 (k : Nat) ∧ v = y ∧ RaS w W a b (.slice ac (gOf M).sl cc) rf pl ∧ NumsAt W v M.n (fun i => (Om.steps M M.st k i : Nat))) (fun _ i _ => ((n : Int) - intOf i).toNat)
  case atStart => exact ⟨0, _, by omega, rfl, rfl, hg0.1, hg0.2⟩
  case round =>
    clear hg0 h0
    obtain ⟨k, v, hk, rfl, rfl, hg, hv⟩ := hrel
    have hmr := hg.mg.row
    have HG := (show Hid _ from hg)
    have HV := (show Hid (NumsAt wr v M.n fun i => (Om.steps M M.st k i : Nat)) from hv)
    by_cases hlt : k < n
    · have HLT : Hid (k < n) := hlt
      have hlt2 : (k : Int) < (n : Int) := by omega
      clear hg hv hlt
      go_wp2_with (first | refine wpList_load_row rfl 27 _ rfl w.heap.size rfl 27 (mac a b (.slice ac (gOf M).sl cc) rf pl) (0, 0) _ hmr Try.underlying27 rfl (by rw [mac_size]; exact v_info_mac) ?_)
      refine (HST.out _ v _ HG.out.mg.below (HIN.out k) HV.out).mono ?_
      rintro e W2 ⟨v2, rfl, hv2, hb, _⟩
      have HG2 := (show Hid _ from HG.out.step hb)
      have HV2 := (show Hid (NumsAt W2 v2 M.n fun i => (Om.steps M M.st (k + 1) i : Nat)) from hv2)
      clear hb HG HV hv2 hmr
      go_wp2
      go_roundw
      case rel => exact ⟨k + 1, v2, HLT.out, by go_num, rfl, HG2.out, HV2.out⟩
      case measure => have := HLT.out; simp [intOf]; omega
    · obtain rfl : k = n := by omega
      have hnn : ¬ ((k : Nat) : Int) < ((k : Nat) : Int) := by omega
      clear hg hv hlt
      go_wp2_with (first | refine wpList_load_row rfl 27 _ rfl w.heap.size rfl 27 (mac a b (.slice ac (gOf M).sl cc) rf pl) (0, 0) _ hmr Try.underlying27 rfl (by rw [mac_size]; exact v_info_mac) ?_)
      refine (HNW.out _ v _ HG.out.mg.below (HIN.out k) HV.out).mono ?_
      rintro e W2 ⟨rfl, hb⟩
      have hg2 := HG.out.step hb
      have hrs := hg2.res
      have hbe := hg2.mg.below
      obtain ⟨AW, hAW⟩ : ∃ AW, AW = ints 26 (Pm.up (Om.now M (Om.steps M M.st k))) := ⟨_, rfl⟩
      have HSZ : Hid (AW.size = 26) := by rw [Hid, hAW, ints_size]
      have HON : Hid (AW.all (·.oneCell') = true) := by rw [Hid, hAW]; exact ints_one _ _
      rw [← hAW]
      have HAW := (show Hid _ from hAW)
      clear hb HG HV hmr hg2 hAW
      go_wp2_with (first | refine wpList_store_row rfl 25 _ _ rfl (w.heap.size + 1) AW rfl rfl 25 _ hrs (by rw [HSZ.out]; exact info_perm) (by rw [HSZ.out, ints_size]) HON.out ?_)
      exact bodyPost_ret (v := .agg AW) (o_results1 Try.results81 _ _ _ _ _ _ _ rfl (hrs.row _) Try.underlying25 rfl (by rw [HSZ.out]; exact info_perm)) rfl ⟨by rw [HAW.out], Below.setRow hbe _ (by omega) _⟩
end Go.Proofs.Ythfjkhmedpilnaa

/-
  Contract of the document's Chart (chapter 9).
-/
namespace Go.Proofs.Ythfjkhmedpilnaa
open Go.RowKit PK Vg

theorem wp_build2 {op : Oper} {a : Act} {w : World} {K : Act → World → Prop} {Q : Exit → Act → World → Prop} (t e : TypeId) (x y : Operand) (ho : op.op = .buildSlice t 2 #[(0, x), (1, y)])
    (n : Nat) (f g : Nat → Int) (hx : a.eval x = .agg (ints n f)) (hy : a.eval y = .agg (ints n g)) (hn : n * 2 ≤ 2 ^ 24) (hu : Try.prog.underlying t = some (.slice e)) (hz : (Try.prog.info? e).map (fun i => (i.zero, i.size)) = some (some (.agg (ints n fun _ => 0)), n)) (h0 : 0 < n)
    (h : K (a.put op.dst (.slice (some ⟨w.heap.size, 0, none⟩) 2 2)) (w.alloc (.cells (ints (2 * n) fun i => if i < n then f i else g (i - n)) e))) : op.wp Try.prog a w K Q := by
  unfold Oper.wp execOp
  have hm : (#[(0, x), (1, y)] : Array (Nat × Operand)).map (fun (i, x) => (i, a.eval x)) = #[(0, .agg (ints n f)), (1, .agg (ints n g))] := by simp [hx, hy]
  simp only [ho, Sem.run_bind, hm, run_build2 w t e n hn hu hz h0 f g, Result.andThen_ok]
  exact h
/-- One behind the other. -/
def two (f g : Nat → Nat) : Nat → Nat → Nat := fun r => if r = 0 then f else g
theorem two_flat (f g : Nat → Nat) : (ints (2 * 26) fun i => if i < 26 then Pm.up f i else Pm.up g (i - 26)) = ints (2 * 26) (flat (two f g)) := ints_ext fun i hi => by
  unfold flat two Pm.up
  by_cases h : i < 26
  · rw [if_pos h, show i / 26 = 0 by omega, show i % 26 = i by omega]
    rfl
  · rw [if_neg h, show i / 26 = 1 by omega, show i % 26 = i - 26 by omega]
    rfl
/-- What the document's Chart holds. -/
structure RcS (w W : World) (a b c : Value) (rf pl : Nat → Int) (C : Nat → Nat → Nat) (k : Nat) : Prop where
  z : CzAt w W a b c rf pl
  out : RowAt W (w.heap.size + 2) 68 (ints 78 (flatTo C k))
section
variable {w W W' : World} {a b c : Value} {rf pl : Nat → Int} {C : Nat → Nat → Nat} {k : Nat}
theorem RcS.step (h : RcS w W a b c rf pl C k) (hb : Below W.heap.size W W') : RcS w W' a b c rf pl C k := ⟨h.z.step hb, h.out.below hb h.out.lt⟩
theorem RcS.alloc (h : RcS w W a b c rf pl C k) (o : Obj) : RcS w (W.alloc o) a b c rf pl C k := h.step ((Below.refl _ _).alloc (Nat.le_refl _) o)
theorem RcS.drew (h : RcS w W a b c rf pl C k) : RcS w W.drew a b c rf pl C k := ⟨h.z.drew, h.out⟩
theorem RcS.lay (h : RcS w W a b c rf pl C k) (hk : k < 3) : RcS w (W.setCells (w.heap.size + 2) (k * 26) (ints 26 (Pm.up (C k))).toList) a b c rf pl C (k + 1) := by
  refine ⟨h.z.lay _ _ (by omega) _, ?_⟩
  have := row_setCells (o := k * 26) (l := (ints 26 (Pm.up (C k))).toList) h.out
  rw [flat_lay (n := 3) _ rfl hk] at this
  exact this
end
theorem RcS.new (w : World) (a b c : Value) (rf pl : Nat → Int) (C : Nat → Nat → Nat) : RcS w (((w.alloc (.cells (mac a b c rf pl) 27)).alloc (.cells (ints 78 fun _ => 0) 68)).alloc (.cells (ints 78 fun _ => 0) 68)) a b c rf pl C 0 := by
  have h := RowAt.new ((w.alloc (.cells (mac a b c rf pl) 27)).alloc (.cells (ints 78 fun _ => 0) 68)) 68 (ints 78 fun _ => 0)
  rw [World.size_alloc, World.size_alloc] at h
  exact ⟨(CzAt.new w a b c rf pl).alloc _, by rw [flatTo_zero]; exact h⟩
set_option maxRecDepth 100000 in
set_option maxHeartbeats 2000000 in
theorem rchart_bad (a b c : Value) (rf pl : Nat → Int) (E : Int) (hE : (E != 0) = true) (w : World) (HW : Hid (∀ W, Below w.heap.size w W → Calls Try.prog 18 #[.agg (mac a b c rf pl)] W fun e w' => e = .returned (.int .i64 E) ∧ Below W.heap.size W w')) : Calls Try.prog 52 #[.agg (mac a b c rf pl)] w fun e w' => e = .returned (.tuple #[.agg (ints 78 fun _ => 0), .int .i64 E]) ∧ Below w.heap.size w w' := by
  have h0 := RcS.new w a b c rf pl (fun _ _ => 0)
  have hz78 := o_zero v_zero_three
  go_enter Try.func52, Try.ntmps52
  go_upto_region 2 with fail
  generalize ((w.alloc (.cells (mac a b c rf pl) 27)).alloc (.cells (ints 78 fun _ => 0) 68)).alloc (.cells (ints 78 fun _ => 0) 68) = W0 at *
  have hld := h0.z.load
  go_wp2_with (first | refine wpList_load_row rfl 27 _ rfl w.heap.size rfl 27 (mac a b c rf pl) (0, 0) _ hld Try.underlying27 rfl (by rw [mac_size]; exact v_info_mac) ?_)
  refine (HW.out _ h0.z.mg.below).mono ?_
  rintro e W1 ⟨rfl, hb⟩
  have h1 := h0.step hb
  have hor := h1.out
  rw [flatTo_zero] at hor
  have hrs := h1.z.res
  have hbe := h1.z.mg.below
  clear hb h0 HW hz78 hld h1
  go_wp2_with (first | refine wpList_load_row rfl 68 _ rfl (w.heap.size + 2) rfl 68 (ints 78 fun _ => 0) (0, 0) _ hor Try.underlying68 rfl (by rw [ints_size]; exact v_info_three) ?_ | refine wpList_store_row rfl 68 _ _ rfl (w.heap.size + 1) (ints 78 fun _ => 0) rfl rfl 68 _ hrs (by rw [ints_size]; exact v_info_three) (by simp only [ints_size]) (ints_one _ _) ?_)
  exact bodyPost_ret (v := .tuple #[.agg (ints 78 fun _ => 0), .int .i64 E]) (results_cell_tmp2 rfl _ _ (w.heap.size + 1) 68 _ (0, 0) _ _ rfl rfl (hrs.row _) Try.underlying68 rfl (by rw [ints_size]; exact v_info_three)) rfl ⟨rfl, Below.setRow hbe _ (by omega) _⟩
set_option maxRecDepth 100000 in
set_option maxHeartbeats 4000000 in
theorem rchart_ok (M : Om.Ma) (hM : Om.Ok M) (a b c : Value) (rf pl : Nat → Int) (w : World) (HW : Hid (∀ W, Below w.heap.size w W → Calls Try.prog 18 #[.agg (mac a b c rf pl)] W fun e w' => e = .returned (.int .i64 0) ∧ Below W.heap.size W w')) (HAT : Hid (∀ W (n : Nat) (z : Int), z = n → n ≤ 1000 → Below w.heap.size w W → Calls Try.prog 81 #[.agg (mac a b c rf pl), .int .i64 z] W fun e w' => e = .returned (.agg (ints 26 (Pm.up (Om.now M (Om.steps M M.st n))))) ∧ Below W.heap.size W w')) : Calls Try.prog 52 #[.agg (mac a b c rf pl)] w fun e w' => e = .returned (.tuple #[.agg (ints 78 (flat (chC M))), .int .i64 0]) ∧ Below w.heap.size w w' := by
  have h0 := RcS.new w a b c rf pl (chC M)
  have hz78 := o_zero v_zero_three
  have HEP := (show Hid (∀ k, Pm.IsPerm (chE M k)) from fun k => Om.now_perm hM _)
  clear hM
  go_enter Try.func52, Try.ntmps52
  go_upto_region 2 with fail
  generalize ((w.alloc (.cells (mac a b c rf pl) 27)).alloc (.cells (ints 78 fun _ => 0) 68)).alloc (.cells (ints 78 fun _ => 0) 68) = W0 at *
  have hld := h0.z.load
  go_wp2_with (first | refine wpList_load_row rfl 27 _ rfl w.heap.size rfl 27 (mac a b c rf pl) (0, 0) _ hld Try.underlying27 rfl (by rw [mac_size]; exact v_info_mac) ?_)
  refine (HW.out _ h0.z.mg.below).mono ?_
  rintro e W1 ⟨rfl, hb⟩
  have hg0 := h0.step hb
  clear hb h0 HW hz78 hld
  go_wp2_with fail
  go_loopw [13] (fun i W => ∃ k : Nat, k ≤ 3 ∧ i = .int .i64 (k : Nat) ∧ RcS w W a b c rf pl (chC M) k) (fun i _ => ((3 : Int) - intOf i).toNat)
  case atStart => exact ⟨0, by omega, rfl, hg0⟩
  case round =>
    clear hg0
    obtain ⟨k, hk, rfl, hg⟩ := hrel
    by_cases hlt : k < 3
    · have HLT : Hid (k < 3) := hlt
      have hlt2 : (k : Int) < 3 := by omega
      go_upto_region 8 with fail
      have hgd := hg.drew
      have hsd : ∃ j, (j = k ∨ j = k + 1) ∧ RcS w wr.drew a b c rf pl (chC M) j := ⟨k, .inl rfl, hgd⟩
      clear hg
      refine wp_region_noPanic ?_
      refine wp_region_held_drew (S := fun W => ∃ j, (j = k ∨ j = k + 1) ∧ RcS w W a b c rf pl (chC M) j) (by kernel_rfl) hsd (fun hS => ?_)
      clear hsd
      obtain ⟨U, hU⟩ : ∃ x, x = wr.drew := ⟨_, rfl⟩
      rw [← hU] at hS hgd ⊢
      clear hU
      refine vtake 0 16 (.int .i64 (k : Nat)) rfl rfl (by kernel_rfl) (by kernel_rfl) (by kernel_rfl) (fun _ _ _ _ h => h) (by rfl) (fun W hW => by clear hS hW; go_simp) hS ?_
      simp only [List.setIfInBounds_toArray, List.set_cons_succ, List.set_cons_zero]
      refine vtake 1 17 (.agg (mac a b c rf pl)) rfl rfl (by kernel_rfl) (by kernel_rfl) (by kernel_rfl) (fun _ _ _ _ h => h) (by rfl) (fun W hW => by obtain ⟨_, _, hW⟩ := hW; have u := run_loadAt_mid (P := Try.prog) W w.heap.size 0 27 (mac a b c rf pl).toList _ (RowAt.range hW.z.mg.row) Try.underlying27 rfl (by rw [Array.length_toList, mac_size]; exact v_info_mac); clear hS hW; simp [execOp, Act.eval, u]) hS ?_
      simp only [List.setIfInBounds_toArray, List.set_cons_succ, List.set_cons_zero]
      refine vtake 2 18 (.int .i64 (k : Nat)) rfl rfl (by kernel_rfl) (by kernel_rfl) (by kernel_rfl) (fun _ _ _ _ h => h) (by rfl) (fun W hW => by clear hS hW; go_simp) hS ?_
      simp only [List.setIfInBounds_toArray, List.set_cons_succ, List.set_cons_zero]
      refine vtake 3 19 (.int .i64 ((k : Int) + 1)) rfl rfl (by kernel_rfl) (by kernel_rfl) (by kernel_rfl) (fun _ _ _ _ h => h) (by rfl) (fun W hW => by have u1 : (k : Int) < 3 := (by have := HLT.out; omega); clear hS hW; go_simp; rw [IntKind.wrap_i64]; omega) hS ?_
      simp only [List.setIfInBounds_toArray, List.set_cons_succ, List.set_cons_zero]
      refine vtake 5 21 (.agg (mac a b c rf pl)) rfl rfl (by kernel_rfl) (by kernel_rfl) (by kernel_rfl) (fun _ _ _ _ h => h) (by rfl) (fun W hW => by obtain ⟨_, _, hW⟩ := hW; have u := run_loadAt_mid (P := Try.prog) W w.heap.size 0 27 (mac a b c rf pl).toList _ (RowAt.range hW.z.mg.row) Try.underlying27 rfl (by rw [Array.length_toList, mac_size]; exact v_info_mac); clear hS hW; simp [execOp, Act.eval, u]) hS ?_
      simp only [List.setIfInBounds_toArray, List.set_cons_succ, List.set_cons_zero]
      refine vtake 6 22 (.int .i64 (k : Nat)) rfl rfl (by kernel_rfl) (by kernel_rfl) (by kernel_rfl) (fun _ _ _ _ h => h) (by rfl) (fun W hW => by clear hS hW; go_simp) hS ?_
      simp only [List.setIfInBounds_toArray, List.set_cons_succ, List.set_cons_zero]
      refine vtake 7 23 (.int .i64 ((k : Int) + 4)) rfl rfl (by kernel_rfl) (by kernel_rfl) (by kernel_rfl) (fun _ _ _ _ h => h) (by rfl) (fun W hW => by have u1 : (k : Int) < 3 := (by have := HLT.out; omega); clear hS hW; go_simp; rw [IntKind.wrap_i64]; omega) hS ?_
      simp only [List.setIfInBounds_toArray, List.set_cons_succ, List.set_cons_zero]
      refine wpAnyH_ready (rs := [4]) (by kernel_rfl) (by simp) ?_
      refine AllReadyH.cons (o := _) rfl (fun K hK => ?_) AllReadyH.nil
      rw [if_pos (by rfl)]
      go_simp
      refine Calls.mono (HAT.out _ (k + 1) _ (by omega) (by have := HLT.out; omega) hgd.z.mg.below) ?_
      rintro e Y ⟨rfl, hb4⟩
      have hg4 := hgd.step hb4
      refine hK.out _ _ (by obtain ⟨j, hj, h⟩ := hS; exact ⟨j, hj, h.step hb4⟩) (fun hS1 => ?_)
      clear hK hS K
      have hS := hS1
      clear hS1
      refine wpAnyH_ready (rs := [8]) (by kernel_rfl) (by simp) ?_
      refine AllReadyH.cons (o := _) rfl (fun K hK => ?_) AllReadyH.nil
      rw [if_pos (by rfl)]
      go_simp
      refine Calls.mono (HAT.out _ (k + 3 + 1) _ (by omega) (by have := HLT.out; omega) hg4.z.mg.below) ?_
      rintro e Y ⟨rfl, hb8⟩
      have hg8 := hg4.step hb8
      refine hK.out _ _ (by obtain ⟨j, hj, h⟩ := hS; exact ⟨j, hj, h.step hb8⟩) (fun hS1 => ?_)
      clear hK hS K
      have hS := hS1
      clear hS1
      refine wpAnyH_ready (rs := [9]) (by kernel_rfl) (by simp) ?_
      refine AllReadyH.cons (o := _) rfl (fun K hK => ?_) AllReadyH.nil
      rw [if_pos (by rfl)]
      refine wp_build2 118 25 _ _ rfl 26 (Pm.up (chE M k)) (Pm.up (chE M (k + 3))) rfl rfl (by decide) Try.underlying118 zero_perm (by decide) ?_
      have hg9 := hg8.alloc (.cells (ints (2 * 26) (flat (two (chE M k) (chE M (k + 3))))) 25)
      have hpa : PermsAt (Y.alloc (.cells (ints (2 * 26) (flat (two (chE M k) (chE M (k + 3))))) 25)) (.slice (some ⟨Y.heap.size, 0, none⟩) 2 2) 2 (two (chE M k) (chE M (k + 3))) := ⟨_, _, _, rfl, (RowAt.new Y _ _).range⟩
      rw [two_flat]
      refine hK.out _ _ (by obtain ⟨j, hj, h⟩ := hS; exact ⟨j, hj, h.alloc _⟩) (fun hS1 => ?_)
      clear hK hS K hgd hg4 hg8
      have hS := hS1
      clear hS1
      refine wpAnyH_ready (rs := [10]) (by kernel_rfl) (by simp) ?_
      refine AllReadyH.cons (o := _) rfl (fun K hK => ?_) AllReadyH.nil
      rw [if_pos (by rfl)]
      go_simp
      refine Calls.mono (rall_any _ 2 (two (chE M k) (chE M (k + 3))) (by decide) (fun r hr => by unfold two; by_cases e : r = 0 <;> simp only [e, if_true, if_false] <;> exact HEP.out _) _ hpa) ?_
      rintro e Y ⟨rfl, hb10⟩
      have hgy := hg9.step hb10
      refine hK.out _ _ (by obtain ⟨j, hj, h⟩ := hS; exact ⟨j, hj, h.step hb10⟩) (fun hS1 => ?_)
      clear hK hS K
      have hS := hS1
      clear hS1
      refine vtake 11 27 (.pointer (some ⟨w.heap.size + 2, k * 26, none⟩)) rfl rfl (by kernel_rfl) (by kernel_rfl) (by kernel_rfl) (fun _ _ _ _ h => h) (by rfl) (fun W hW => by have u1 : ¬ (3 : Int) ≤ (k : Int) := (by have := HLT.out; omega); clear hS hW; go_simp) hS ?_
      simp only [List.setIfInBounds_toArray, List.set_cons_succ, List.set_cons_zero]
      refine wpAnyH_ready (rs := [12]) (by kernel_rfl) (by simp) ?_
      refine AllReadyH.cons (o := _) rfl (fun K hK => ?_) AllReadyH.nil
      rw [if_pos (by rfl)]
      have hth := there_row (o := k * 26) (n := 26) hgy.out (by rw [ints_size]; have := HLT.out; omega)
      have hly := hgy.lay HLT.out
      refine wp_store_mid 25 _ _ rfl (w.heap.size + 2) (k * 26) (ints 26 (Pm.up (chC M k))) rfl rfl (by rw [ints_size]; exact hth) (by rw [ints_size]; exact info_perm) (ints_one _ _) ?_
      refine hK.out _ _ ⟨k + 1, .inr rfl, hly⟩ (fun _ => ?_)
      clear hK K hS hth hgy hg9
      refine wpAnyH_done (by kernel_rfl) ?_ _
      refine NoPanic.normal ?_
      have HLY := (show Hid _ from hly)
      clear hly
      go_wp2_with fail
      go_roundw
      case rel => exact ⟨k + 1, HLT.out, by go_num, HLY.out⟩
      case measure => have := HLT.out; simp [intOf]; omega
    · obtain rfl : k = 3 := by omega
      have hor := hg.out
      rw [flatTo_all _ 3 rfl] at hor
      have hrs := hg.z.res
      have hbe := hg.z.mg.below
      clear hg hlt
      go_wp2_with (first | refine wpList_load_row rfl 68 _ rfl (w.heap.size + 2) rfl 68 (ints 78 (flat (chC M))) (0, 0) _ hor Try.underlying68 rfl (by rw [ints_size]; exact v_info_three) ?_ | refine wpList_store_row rfl 68 _ _ rfl (w.heap.size + 1) (ints 78 (flat (chC M))) rfl rfl 68 _ hrs (by rw [ints_size]; exact v_info_three) (by simp only [ints_size]) (ints_one _ _) ?_)
      exact bodyPost_ret (v := .tuple #[.agg (ints 78 (flat (chC M))), .int .i64 0]) (results_cell_tmp2 rfl _ _ (w.heap.size + 1) 68 _ (0, 0) _ _ rfl rfl (hrs.row _) Try.underlying68 rfl (by rw [ints_size]; exact v_info_three)) rfl ⟨rfl, Below.setRow hbe _ (by omega) _⟩
theorem rchart_any (vm : Value) (g : Gm) (w : World) (hm : MacAt w vm g) : Calls Try.prog 52 #[vm] w fun e w' => e = .returned (.tuple #[.agg (chA g), .int .i64 (gE g)]) ∧ Below w.heap.size w w' := by
  have HN := fun W (hb : Below w.heap.size w W) => rgw_any vm g W (hm.below hb)
  unfold chA
  by_cases hg : gE g = 0
  · obtain ⟨hM, hgo⟩ := ok_maOf hg
    have hm := hgo _ _ hm
    have HA := fun W n (z : Int) (hz : z = (n : Nat)) (hn : n ≤ 1000) (hb : Below w.heap.size w W) => hz ▸ rat_any (maOf g) hM vm n hn W (hm.below hb)
    obtain ⟨a, b, c, rfl, _⟩ := hm
    rw [if_pos hg, hg]
    rw [hg] at HN
    exact rchart_ok _ hM a b c _ _ w HN HA
  · obtain ⟨a, b, c, rfl, _⟩ := hm
    rw [if_neg hg]
    exact rchart_bad a b c g.rf g.pl _ (by simpa using hg) w HN
end Go.Proofs.Ythfjkhmedpilnaa
