/-
  Contract of the document's Chart (chapter 9).
-/
import Derived.Test.YtigamiehnjipcaaChRAt
import Derived.Test.YtigamiehnjipcaaOPl
import Derived.Test.YtigamiehnjipcaaORWr
namespace Go.Proofs.Ytigamiehnjipcaa
open Go.RowKit PK Vg

theorem wp_build2 {op : Oper} {a : Act} {w : World} {K : Act → World → Prop} {Q : Exit → Act → World → Prop} (t e : TypeId) (x y : Operand) (ho : op.op = .buildSlice t 2 #[(0, x), (1, y)])
    (n : Nat) (f g : Nat → Int) (hx : a.eval x = .agg (ints n f)) (hy : a.eval y = .agg (ints n g)) (hn : n * 2 ≤ 2 ^ 24) (hu : Try.prog.underlying t = some (.slice e)) (hz : (Try.prog.info? e).map (fun i => (i.zero, i.size)) = some (some (.agg (ints n fun _ => 0)), n)) (h0 : 0 < n)
    (h : K (a.put op.dst (.slice (some ⟨w.heap.size, 0, none⟩) 2 2)) (w.alloc (.cells (ints (2 * n) fun i => if i < n then f i else g (i - n)) e))) : op.wp Try.prog a w K Q := by
  unfold Oper.wp execOp
  have hm : (#[(0, x), (1, y)] : Array (Nat × Operand)).map (fun (i, x) => (i, a.eval x)) = #[(0, .agg (ints n f)), (1, .agg (ints n g))] := by simp [hx, hy]
  simp only [ho, Sem.run_bind, hm, run_build2 w t e n hn hu hz h0 f g, Result.andThen_ok]
  exact h
/-- One behind the other. -/
def two (f g : Nat → Nat) : Nat → Nat → Nat := fun r => if r = 0 then f else g
theorem two_flat (f g : Nat → Nat) : (ints (2 * 26) fun i => if i < 26 then Pm.up f i else Pm.up g (i - 26)) = ints (2 * 26) (flat (two f g)) := ints_ext fun i hi => by
  unfold flat two Pm.up
  by_cases h : i < 26
  · rw [if_pos h, show i / 26 = 0 by omega, show i % 26 = i by omega]
    rfl
  · rw [if_neg h, show i / 26 = 1 by omega, show i % 26 = i - 26 by omega]
    rfl
/-- What the document's Chart holds. -/
structure RcS (w W : World) (a b c : Value) (rf pl : Nat → Int) (C : Nat → Nat → Nat) (k : Nat) : Prop where
  z : CzAt w W a b c rf pl
  out : RowAt W (w.heap.size + 2) 29 (ints 78 (flatTo C k))
section
variable {w W W' : World} {a b c : Value} {rf pl : Nat → Int} {C : Nat → Nat → Nat} {k : Nat}
theorem RcS.step (h : RcS w W a b c rf pl C k) (hb : Below W.heap.size W W') : RcS w W' a b c rf pl C k := ⟨h.z.step hb, h.out.below hb h.out.lt⟩
theorem RcS.alloc (h : RcS w W a b c rf pl C k) (o : Obj) : RcS w (W.alloc o) a b c rf pl C k := h.step ((Below.refl _ _).alloc (Nat.le_refl _) o)
theorem RcS.drew (h : RcS w W a b c rf pl C k) : RcS w W.drew a b c rf pl C k := ⟨h.z.drew, h.out⟩
theorem RcS.lay (h : RcS w W a b c rf pl C k) (hk : k < 3) : RcS w (W.setCells (w.heap.size + 2) (k * 26) (ints 26 (Pm.up (C k))).toList) a b c rf pl C (k + 1) := by
  refine ⟨h.z.lay _ _ (by omega) _, ?_⟩
  have := row_setCells (o := k * 26) (l := (ints 26 (Pm.up (C k))).toList) h.out
  rw [flat_lay (n := 3) _ rfl hk] at this
  exact this
end
theorem RcS.new (w : World) (a b c : Value) (rf pl : Nat → Int) (C : Nat → Nat → Nat) : RcS w (((w.alloc (.cells (mac a b c rf pl) 27)).alloc (.cells (ints 78 fun _ => 0) 29)).alloc (.cells (ints 78 fun _ => 0) 29)) a b c rf pl C 0 := by
  have h := RowAt.new ((w.alloc (.cells (mac a b c rf pl) 27)).alloc (.cells (ints 78 fun _ => 0) 29)) 29 (ints 78 fun _ => 0)
  rw [World.size_alloc, World.size_alloc] at h
  exact ⟨(CzAt.new w a b c rf pl).alloc _, by rw [flatTo_zero]; exact h⟩
set_option maxRecDepth 100000 in
set_option maxHeartbeats 2000000 in
theorem rchart_bad (a b c : Value) (rf pl : Nat → Int) (E : Int) (hE : (E != 0) = true) (w : World) (HW : Hid (∀ W, Below w.heap.size w W → Calls Try.prog 30 #[.agg (mac a b c rf pl)] W fun e w' => e = .returned (.int .i64 E) ∧ Below W.heap.size W w')) : Calls Try.prog 8 #[.agg (mac a b c rf pl)] w fun e w' => e = .returned (.tuple #[.agg (ints 78 fun _ => 0), .int .i64 E]) ∧ Below w.heap.size w w' := by
  have h0 := RcS.new w a b c rf pl (fun _ _ => 0)
  have hz78 := o_zero v_zero_three
  go_enter Try.func8, Try.ntmps8
  go_upto_region 2 with fail
  generalize ((w.alloc (.cells (mac a b c rf pl) 27)).alloc (.cells (ints 78 fun _ => 0) 29)).alloc (.cells (ints 78 fun _ => 0) 29) = W0 at *
  have hld := h0.z.load
  go_wp2_with (first | refine wpList_load_row rfl 27 _ rfl w.heap.size rfl 27 (mac a b c rf pl) (0, 0) _ hld Try.underlying27 rfl (by rw [mac_size]; exact v_info_mac) ?_)
  refine (HW.out _ h0.z.mg.below).mono ?_
  rintro e W1 ⟨rfl, hb⟩
  have h1 := h0.step hb
  have hor := h1.out
  rw [flatTo_zero] at hor
  have hrs := h1.z.res
  have hbe := h1.z.mg.below
  clear hb h0 HW hz78 hld h1
  go_wp2_with (first | refine wpList_load_row rfl 29 _ rfl (w.heap.size + 2) rfl 29 (ints 78 fun _ => 0) (0, 0) _ hor Try.underlying29 rfl (by rw [ints_size]; exact v_info_three) ?_ | refine wpList_store_row rfl 29 _ _ rfl (w.heap.size + 1) (ints 78 fun _ => 0) rfl rfl 29 _ hrs (by rw [ints_size]; exact v_info_three) (by simp only [ints_size]) (ints_one _ _) ?_)
  exact bodyPost_ret (v := .tuple #[.agg (ints 78 fun _ => 0), .int .i64 E]) (results_cell_tmp2 rfl _ _ (w.heap.size + 1) 29 _ (0, 0) _ _ rfl rfl (hrs.row _) Try.underlying29 rfl (by rw [ints_size]; exact v_info_three)) rfl ⟨rfl, Below.setRow hbe _ (by omega) _⟩
set_option maxRecDepth 100000 in
set_option maxHeartbeats 4000000 in
theorem rchart_ok (M : Om.Ma) (hM : Om.Ok M) (a b c : Value) (rf pl : Nat → Int) (w : World) (HW : Hid (∀ W, Below w.heap.size w W → Calls Try.prog 30 #[.agg (mac a b c rf pl)] W fun e w' => e = .returned (.int .i64 0) ∧ Below W.heap.size W w')) (HAT : Hid (∀ W (n : Nat) (z : Int), z = n → n ≤ 1000 → Below w.heap.size w W → Calls Try.prog 32 #[.agg (mac a b c rf pl), .int .i64 z] W fun e w' => e = .returned (.agg (ints 26 (Pm.up (Om.now M (Om.steps M M.st n))))) ∧ Below W.heap.size W w')) : Calls Try.prog 8 #[.agg (mac a b c rf pl)] w fun e w' => e = .returned (.tuple #[.agg (ints 78 (flat (chC M))), .int .i64 0]) ∧ Below w.heap.size w w' := by
  have h0 := RcS.new w a b c rf pl (chC M)
  have hz78 := o_zero v_zero_three
  have HEP := (show Hid (∀ k, Pm.IsPerm (chE M k)) from fun k => Om.now_perm hM _)
  clear hM
  go_enter Try.func8, Try.ntmps8
  go_upto_region 2 with fail
  generalize ((w.alloc (.cells (mac a b c rf pl) 27)).alloc (.cells (ints 78 fun _ => 0) 29)).alloc (.cells (ints 78 fun _ => 0) 29) = W0 at *
  have hld := h0.z.load
  go_wp2_with (first | refine wpList_load_row rfl 27 _ rfl w.heap.size rfl 27 (mac a b c rf pl) (0, 0) _ hld Try.underlying27 rfl (by rw [mac_size]; exact v_info_mac) ?_)
  refine (HW.out _ h0.z.mg.below).mono ?_
  rintro e W1 ⟨rfl, hb⟩
  have hg0 := h0.step hb
  clear hb h0 HW hz78 hld
  go_wp2_with fail
  go_loopw [13] (fun i W => ∃ k : Nat, k ≤ 3 ∧ i = .int .i64 (k : Nat) ∧ RcS w W a b c rf pl (chC M) k) (fun i _ => ((3 : Int) - intOf i).toNat)
  case atStart => exact ⟨0, by omega, rfl, hg0⟩
  case round =>
    clear hg0
    obtain ⟨k, hk, rfl, hg⟩ := hrel
    by_cases hlt : k < 3
    · have HLT : Hid (k < 3) := hlt
      have hlt2 : (k : Int) < 3 := by omega
      go_upto_region 8 with fail
      have hgd := hg.drew
      have hsd : ∃ j, (j = k ∨ j = k + 1) ∧ RcS w wr.drew a b c rf pl (chC M) j := ⟨k, .inl rfl, hgd⟩
      clear hg
      refine wp_region_noPanic ?_
      refine wp_region_held_drew (S := fun W => ∃ j, (j = k ∨ j = k + 1) ∧ RcS w W a b c rf pl (chC M) j) (by kernel_rfl) hsd (fun hS => ?_)
      clear hsd
      obtain ⟨U, hU⟩ : ∃ x, x = wr.drew := ⟨_, rfl⟩
      rw [← hU] at hS hgd ⊢
      clear hU
      refine vtake 0 16 (.int .i64 (k : Nat)) rfl rfl (by kernel_rfl) (by kernel_rfl) (by kernel_rfl) (fun _ _ _ _ h => h) (by rfl) (fun W hW => by clear hS hW; go_simp) hS ?_
      simp only [List.setIfInBounds_toArray, List.set_cons_succ, List.set_cons_zero]
      refine vtake 1 17 (.agg (mac a b c rf pl)) rfl rfl (by kernel_rfl) (by kernel_rfl) (by kernel_rfl) (fun _ _ _ _ h => h) (by rfl) (fun W hW => by obtain ⟨_, _, hW⟩ := hW; have u := run_loadAt_mid (P := Try.prog) W w.heap.size 0 27 (mac a b c rf pl).toList _ (RowAt.range hW.z.mg.row) Try.underlying27 rfl (by rw [Array.length_toList, mac_size]; exact v_info_mac); clear hS hW; simp [execOp, Act.eval, u]) hS ?_
      simp only [List.setIfInBounds_toArray, List.set_cons_succ, List.set_cons_zero]
      refine vtake 2 18 (.int .i64 (k : Nat)) rfl rfl (by kernel_rfl) (by kernel_rfl) (by kernel_rfl) (fun _ _ _ _ h => h) (by rfl) (fun W hW => by clear hS hW; go_simp) hS ?_
      simp only [List.setIfInBounds_toArray, List.set_cons_succ, List.set_cons_zero]
      refine vtake 3 19 (.int .i64 ((k : Int) + 1)) rfl rfl (by kernel_rfl) (by kernel_rfl) (by kernel_rfl) (fun _ _ _ _ h => h) (by rfl) (fun W hW => by have u1 : (k : Int) < 3 := (by have := HLT.out; omega); clear hS hW; go_simp; rw [IntKind.wrap_i64]; omega) hS ?_
      simp only [List.setIfInBounds_toArray, List.set_cons_succ, List.set_cons_zero]
      refine vtake 5 21 (.agg (mac a b c rf pl)) rfl rfl (by kernel_rfl) (by kernel_rfl) (by kernel_rfl) (fun _ _ _ _ h => h) (by rfl) (fun W hW => by obtain ⟨_, _, hW⟩ := hW; have u := run_loadAt_mid (P := Try.prog) W w.heap.size 0 27 (mac a b c rf pl).toList _ (RowAt.range hW.z.mg.row) Try.underlying27 rfl (by rw [Array.length_toList, mac_size]; exact v_info_mac); clear hS hW; simp [execOp, Act.eval, u]) hS ?_
      simp only [List.setIfInBounds_toArray, List.set_cons_succ, List.set_cons_zero]
      refine vtake 6 22 (.int .i64 (k : Nat)) rfl rfl (by kernel_rfl) (by kernel_rfl) (by kernel_rfl) (fun _ _ _ _ h => h) (by rfl) (fun W hW => by clear hS hW; go_simp) hS ?_
      simp only [List.setIfInBounds_toArray, List.set_cons_succ, List.set_cons_zero]
      refine vtake 7 23 (.int .i64 ((k : Int) + 4)) rfl rfl (by kernel_rfl) (by kernel_rfl) (by kernel_rfl) (fun _ _ _ _ h => h) (by rfl) (fun W hW => by have u1 : (k : Int) < 3 := (by have := HLT.out; omega); clear hS hW; go_simp; rw [IntKind.wrap_i64]; omega) hS ?_
      simp only [List.setIfInBounds_toArray, List.set_cons_succ, List.set_cons_zero]
      refine wpAnyH_ready (rs := [4]) (by kernel_rfl) (by simp) ?_
      refine AllReadyH.cons (o := _) rfl (fun K hK => ?_) AllReadyH.nil
      rw [if_pos (by rfl)]
      go_simp
      refine Calls.mono (HAT.out _ (k + 1) _ (by omega) (by have := HLT.out; omega) hgd.z.mg.below) ?_
      rintro e Y ⟨rfl, hb4⟩
      have hg4 := hgd.step hb4
      refine hK.out _ _ (by obtain ⟨j, hj, h⟩ := hS; exact ⟨j, hj, h.step hb4⟩) (fun hS1 => ?_)
      clear hK hS K
      have hS := hS1
      clear hS1
      refine wpAnyH_ready (rs := [8]) (by kernel_rfl) (by simp) ?_
      refine AllReadyH.cons (o := _) rfl (fun K hK => ?_) AllReadyH.nil
      rw [if_pos (by rfl)]
      go_simp
      refine Calls.mono (HAT.out _ (k + 3 + 1) _ (by omega) (by have := HLT.out; omega) hg4.z.mg.below) ?_
      rintro e Y ⟨rfl, hb8⟩
      have hg8 := hg4.step hb8
      refine hK.out _ _ (by obtain ⟨j, hj, h⟩ := hS; exact ⟨j, hj, h.step hb8⟩) (fun hS1 => ?_)
      clear hK hS K
      have hS := hS1
      clear hS1
      refine wpAnyH_ready (rs := [9]) (by kernel_rfl) (by simp) ?_
      refine AllReadyH.cons (o := _) rfl (fun K hK => ?_) AllReadyH.nil
      rw [if_pos (by rfl)]
      refine wp_build2 57 25 _ _ rfl 26 (Pm.up (chE M k)) (Pm.up (chE M (k + 3))) rfl rfl (by decide) Try.underlying57 zero_perm (by decide) ?_
      have hg9 := hg8.alloc (.cells (ints (2 * 26) (flat (two (chE M k) (chE M (k + 3))))) 25)
      have hpa : PermsAt (Y.alloc (.cells (ints (2 * 26) (flat (two (chE M k) (chE M (k + 3))))) 25)) (.slice (some ⟨Y.heap.size, 0, none⟩) 2 2) 2 (two (chE M k) (chE M (k + 3))) := ⟨_, _, _, rfl, (RowAt.new Y _ _).range⟩
      rw [two_flat]
      refine hK.out _ _ (by obtain ⟨j, hj, h⟩ := hS; exact ⟨j, hj, h.alloc _⟩) (fun hS1 => ?_)
      clear hK hS K hgd hg4 hg8
      have hS := hS1
      clear hS1
      refine wpAnyH_ready (rs := [10]) (by kernel_rfl) (by simp) ?_
      refine AllReadyH.cons (o := _) rfl (fun K hK => ?_) AllReadyH.nil
      rw [if_pos (by rfl)]
      go_simp
      refine Calls.mono (rall_any _ 2 (two (chE M k) (chE M (k + 3))) (by decide) (fun r hr => by unfold two; by_cases e : r = 0 <;> simp only [e, if_true, if_false] <;> exact HEP.out _) _ hpa) ?_
      rintro e Y ⟨rfl, hb10⟩
      have hgy := hg9.step hb10
      refine hK.out _ _ (by obtain ⟨j, hj, h⟩ := hS; exact ⟨j, hj, h.step hb10⟩) (fun hS1 => ?_)
      clear hK hS K
      have hS := hS1
      clear hS1
      refine vtake 11 27 (.pointer (some ⟨w.heap.size + 2, k * 26, none⟩)) rfl rfl (by kernel_rfl) (by kernel_rfl) (by kernel_rfl) (fun _ _ _ _ h => h) (by rfl) (fun W hW => by have u1 : ¬ (3 : Int) ≤ (k : Int) := (by have := HLT.out; omega); clear hS hW; go_simp) hS ?_
      simp only [List.setIfInBounds_toArray, List.set_cons_succ, List.set_cons_zero]
      refine wpAnyH_ready (rs := [12]) (by kernel_rfl) (by simp) ?_
      refine AllReadyH.cons (o := _) rfl (fun K hK => ?_) AllReadyH.nil
      rw [if_pos (by rfl)]
      have hth := there_row (o := k * 26) (n := 26) hgy.out (by rw [ints_size]; have := HLT.out; omega)
      have hly := hgy.lay HLT.out
      refine wp_store_mid 25 _ _ rfl (w.heap.size + 2) (k * 26) (ints 26 (Pm.up (chC M k))) rfl rfl (by rw [ints_size]; exact hth) (by rw [ints_size]; exact info_perm) (ints_one _ _) ?_
      refine hK.out _ _ ⟨k + 1, .inr rfl, hly⟩ (fun _ => ?_)
      clear hK K hS hth hgy hg9
      refine wpAnyH_done (by kernel_rfl) ?_ _
      refine NoPanic.normal ?_
      have HLY := (show Hid _ from hly)
      clear hly
      go_wp2_with fail
      go_roundw
      case rel => exact ⟨k + 1, HLT.out, by go_num, HLY.out⟩
      case measure => have := HLT.out; simp [intOf]; omega
    · obtain rfl : k = 3 := by omega
      have hor := hg.out
      rw [flatTo_all _ 3 rfl] at hor
      have hrs := hg.z.res
      have hbe := hg.z.mg.below
      clear hg hlt
      go_wp2_with (first | refine wpList_load_row rfl 29 _ rfl (w.heap.size + 2) rfl 29 (ints 78 (flat (chC M))) (0, 0) _ hor Try.underlying29 rfl (by rw [ints_size]; exact v_info_three) ?_ | refine wpList_store_row rfl 29 _ _ rfl (w.heap.size + 1) (ints 78 (flat (chC M))) rfl rfl 29 _ hrs (by rw [ints_size]; exact v_info_three) (by simp only [ints_size]) (ints_one _ _) ?_)
      exact bodyPost_ret (v := .tuple #[.agg (ints 78 (flat (chC M))), .int .i64 0]) (results_cell_tmp2 rfl _ _ (w.heap.size + 1) 29 _ (0, 0) _ _ rfl rfl (hrs.row _) Try.underlying29 rfl (by rw [ints_size]; exact v_info_three)) rfl ⟨rfl, Below.setRow hbe _ (by omega) _⟩
theorem rchart_any (vm : Value) (g : Gm) (w : World) (hm : MacAt w vm g) : Calls Try.prog 8 #[vm] w fun e w' => e = .returned (.tuple #[.agg (chA g), .int .i64 (gE g)]) ∧ Below w.heap.size w w' := by
  have HN := fun W (hb : Below w.heap.size w W) => rgw_any vm g W (hm.below hb)
  unfold chA
  by_cases hg : gE g = 0
  · obtain ⟨hM, hgo⟩ := ok_maOf hg
    have hm := hgo _ _ hm
    have HA := fun W n (z : Int) (hz : z = (n : Nat)) (hn : n ≤ 1000) (hb : Below w.heap.size w W) => hz ▸ rat_any (maOf g) hM vm n hn W (hm.below hb)
    obtain ⟨a, b, c, rfl, _⟩ := hm
    rw [if_pos hg, hg]
    rw [hg] at HN
    exact rchart_ok _ hM a b c _ _ w HN HA
  · obtain ⟨a, b, c, rfl, _⟩ := hm
    rw [if_neg hg]
    exact rchart_bad a b c g.rf g.pl _ (by simpa using hg) w HN
end Go.Proofs.Ytigamiehnjipcaa
