/-
  Contract of chart.Chart.
-/
import Derived.Test.YthfjkhmedpilnaaRoNe
import Derived.Test.YthfjkhmedpilnaaJn22
import Derived.Test.YthfjkhmedpilnaaJn21
namespace Go.Proofs.Ythfjkhmedpilnaa
open Go.RowKit PK Vg

/-- The first k of many permutations, laid one behind the other. -/
def flatTo (P : Nat → Nat → Nat) (k : Nat) : Nat → Int := fun i => if i < k * 26 then flat P i else 0
theorem flatTo_zero (P : Nat → Nat → Nat) (n : Nat) : ints n (flatTo P 0) = ints n fun _ => 0 := ints_ext fun i _ => by
  unfold flatTo
  rw [if_neg (by omega)]
theorem flatTo_all (P : Nat → Nat → Nat) (n : Nat) {N : Nat} (hN : N = n * 26) : ints N (flatTo P n) = ints N (flat P) := ints_ext fun i hi => by
  unfold flatTo
  rw [if_pos (by omega)]
theorem flat_lay (P : Nat → Nat → Nat) {n k N : Nat} (hN : N = n * 26) (hk : k < n) : setMany (ints N (flatTo P k)) (k * 26) (ints 26 (Pm.up (P k))).toList = ints N (flatTo P (k + 1)) := by
  have hl : (ints 26 (Pm.up (P k))).toList.length = 26 := by rw [Array.length_toList, ints_size]
  apply Array.ext_getElem?
  intro i
  rw [setMany_get _ _ _ _ (by rw [hl, ints_size]; omega), hl]
  by_cases h : k * 26 ≤ i ∧ i < k * 26 + 26
  · rw [if_pos h, Array.getElem?_toList, ints_get _ (by omega), ints_get _ (by omega)]
    unfold flatTo flat Pm.up
    rw [if_pos (by omega), show i / 26 = k by omega, show i % 26 = i - k * 26 by omega]
  · rw [if_neg h]
    by_cases h2 : i < N
    · rw [ints_get _ h2, ints_get _ h2]
      unfold flatTo
      by_cases h3 : i < k * 26
      · rw [if_pos h3, if_pos (by omega)]
      · rw [if_neg h3, if_neg (by omega)]
    · rw [Array.getElem?_eq_none (by rw [ints_size]; omega), Array.getElem?_eq_none (by rw [ints_size]; omega)]
theorem flat_at {W : World} {g : Nat} {T : TypeId} {P : Nat → Nat → Nat} {n k j N : Nat} (hN : N = n * 26) (h : RowAt W g T (ints N (flatTo P k))) (hj : j < k) (hk : k ≤ n) : W.rangeAt g (j * 26) (ints 26 (Pm.up (P j))).toList := row_mid h _ _ fun i v hv => by
  obtain ⟨h1, rfl⟩ := at_ints hv
  rw [ints_get _ (by omega)]
  unfold flatTo flat Pm.up
  rw [if_pos (by omega), show (j * 26 + i) / 26 = j by omega, show (j * 26 + i) % 26 = i by omega]
theorem v_info_three : (Try.prog.info? 68).map (·.size) = some 78 := by kernel_rfl
theorem v_zero_three : (Try.prog.info? 68).map (·.zero) = some (some (.agg (ints 78 fun _ => 0))) := by kernel_rfl
theorem built_three : Try.prog.built 68 [] = some (ints 78 fun _ => 0) := by kernel_rfl
theorem v_zero_six : (Try.prog.info? 103).map (·.zero) = some (some (.agg (ints 156 fun _ => 0))) := by kernel_rfl
/-- What the machine makes of letters at key k + 1. -/
def chE (M : Om.Ma) (k : Nat) : Nat → Nat := Om.now M (Om.steps M M.st (k + 1))
/-- The chart. -/
def chC (M : Om.Ma) (k : Nat) : Nat → Nat := fun i => chE M (k + 3) (chE M k i)
/-- The machine in its variable, and three permutations as a result. -/
structure CzAt (w W : World) (a b c : Value) (rf pl : Nat → Int) : Prop where
  mg : MgAt w W a b c rf pl
  res : RowAt W (w.heap.size + 1) 68 (ints 78 fun _ => 0)
theorem CzAt.new (w : World) (a b c : Value) (rf pl : Nat → Int) : CzAt w ((w.alloc (.cells (mac a b c rf pl) 27)).alloc (.cells (ints 78 fun _ => 0) 68)) a b c rf pl := by
  have h := RowAt.new (w.alloc (.cells (mac a b c rf pl) 27)) 68 (ints 78 fun _ => 0)
  rw [World.size_alloc] at h
  exact ⟨(MgAt.new w a b c rf pl).alloc _, h⟩
section
variable {w W W' : World} {a b c : Value} {rf pl : Nat → Int}
theorem CzAt.step (h : CzAt w W a b c rf pl) (hb : Below W.heap.size W W') : CzAt w W' a b c rf pl := ⟨h.mg.step hb, h.res.below hb h.res.lt⟩
theorem CzAt.alloc (h : CzAt w W a b c rf pl) (o : Obj) : CzAt w (W.alloc o) a b c rf pl := h.step ((Below.refl _ _).alloc (Nat.le_refl _) o)
theorem CzAt.drew (h : CzAt w W a b c rf pl) : CzAt w W.drew a b c rf pl := ⟨h.mg.drew, h.res⟩
theorem CzAt.lay (h : CzAt w W a b c rf pl) (g o : Nat) (hg : w.heap.size + 1 < g) (l : List Value) : CzAt w (W.setCells g o l) a b c rf pl := ⟨⟨row_setCells_other (by omega) h.mg.row, below_setCells (by omega) h.mg.below⟩, row_setCells_other (by omega) h.res⟩
theorem CzAt.grown (h : CzAt w W a b c rf pl) {r : Option Nat} (hg : W.grownBy W' r) (hr : ∀ k, r = some k → w.heap.size + 1 < k) : CzAt w W' a b c rf pl := by
  have h1 := h.mg.row.lt
  have h2 := h.res.lt
  have hne : ∀ k, k ≤ w.heap.size + 1 → some k ≠ r := fun k hk e => by have := hr k e.symm; omega
  refine ⟨⟨(hg.block _ h1 (hne _ (by omega))).trans h.mg.row, ?_⟩, (hg.block _ h2 (hne _ (by omega))).trans h.res⟩
  exact h.mg.below.grown hg (by omega) (fun k hk => by have := hr k hk; omega)
theorem CzAt.load (h : CzAt w W a b c rf pl) : W.heap[w.heap.size]? = some (.cells (mac a b c rf pl) 27 (0, 0)) := h.mg.row
end
/-- What is held while the keys are pressed. -/
structure CcS (w W : World) (a b c : Value) (rf pl : Nat → Int) (M : Om.Ma) (q q6 k : Nat) : Prop where
  z : CzAt w W a b c rf pl
  rot : RotAt W q M (Om.steps M M.st k)
  keys : RowAt W q6 103 (ints 156 (flatTo (chE M) k))
  q1 : w.heap.size + 1 < q
  q2 : q < q6
section
variable {w W W' : World} {a b c : Value} {rf pl : Nat → Int} {M : Om.Ma} {q q6 k : Nat}
theorem CcS.step (h : CcS w W a b c rf pl M q q6 k) (hb : Below W.heap.size W W') : CcS w W' a b c rf pl M q q6 k := ⟨h.z.step hb, h.rot.below hb, h.keys.below hb h.keys.lt, h.q1, h.q2⟩
end
/-- While they are put together. -/
structure CdS (w W : World) (a b c : Value) (rf pl : Nat → Int) (M : Om.Ma) (q6 q8 k : Nat) : Prop where
  z : CzAt w W a b c rf pl
  keys : RowAt W q6 103 (ints 156 (flatTo (chE M) 6))
  out : RowAt W q8 68 (ints 78 (flatTo (chC M) k))
  q1 : w.heap.size + 1 < q6
  q2 : q6 < q8
section
variable {w W W' : World} {a b c : Value} {rf pl : Nat → Int} {M : Om.Ma} {q6 q8 k : Nat}
theorem CdS.step (h : CdS w W a b c rf pl M q6 q8 k) (hb : Below W.heap.size W W') : CdS w W' a b c rf pl M q6 q8 k := ⟨h.z.step hb, h.keys.below hb h.keys.lt, h.out.below hb h.out.lt, h.q1, h.q2⟩
theorem CdS.drew (h : CdS w W a b c rf pl M q6 q8 k) : CdS w W.drew a b c rf pl M q6 q8 k := ⟨h.z.drew, h.keys, h.out, h.q1, h.q2⟩
theorem CdS.lay (h : CdS w W a b c rf pl M q6 q8 k) (hk : k < 3) : CdS w (W.setCells q8 (k * 26) (ints 26 (Pm.up (chC M k))).toList) a b c rf pl M q6 q8 (k + 1) := by
  have h1 := h.q1
  have h2 := h.q2
  refine ⟨h.z.lay q8 _ (by omega) _, row_setCells_other (by omega) h.keys, ?_, h.q1, h.q2⟩
  have := row_setCells (o := k * 26) (l := (ints 26 (Pm.up (chC M k))).toList) h.out
  rw [flat_lay (n := 3) _ rfl hk] at this
  exact this
end
set_option maxRecDepth 100000 in
set_option maxHeartbeats 2000000 in
theorem chart_bad (a b c : Value) (rf pl : Nat → Int) (E : Int) (hE : (E != 0) = true) (w : World) (HW : Hid (∀ W, Below w.heap.size w W → Calls Try.prog 40 #[.agg (mac a b c rf pl)] W fun e w' => e = .returned (.tuple #[.pointer none, .int .i64 E]) ∧ Below W.heap.size W w')) : Calls Try.prog 28 #[.agg (mac a b c rf pl)] w fun e w' => e = .returned (.tuple #[.agg (ints 78 fun _ => 0), .int .i64 E]) ∧ Below w.heap.size w w' := by
  have h0 := CzAt.new w a b c rf pl
  have hz78 := o_zero v_zero_three
  go_enter Try.func28, Try.ntmps28
  go_wp2_with (first | refine wpList_load_row rfl 27 _ rfl w.heap.size rfl 27 (mac a b c rf pl) (0, 0) _ h0.load Try.underlying27 rfl (by rw [mac_size]; exact v_info_mac) ?_)
  refine (HW.out _ h0.mg.below).mono ?_
  rintro e W1 ⟨rfl, hb⟩
  have h1 := h0.step hb
  clear hb h0 HW hz78
  go_wp2_with (first | refine wpList_build0 rfl 68 rfl (ints 78 fun _ => 0) built_three ?_ | refine wpList_store_row rfl 68 _ _ rfl (w.heap.size + 1) (ints 78 fun _ => 0) rfl rfl 68 _ h1.res (by rw [ints_size]; exact v_info_three) (by simp only [ints_size]) (ints_one _ _) ?_)
  exact bodyPost_ret (v := .tuple #[.agg (ints 78 fun _ => 0), .int .i64 E]) (results_cell_tmp2 rfl _ _ (w.heap.size + 1) 68 _ (0, 0) _ _ rfl rfl (h1.res.row _) Try.underlying68 rfl (by rw [ints_size]; exact v_info_three)) rfl ⟨rfl, Below.setRow h1.mg.below _ (by omega) _⟩
set_option maxRecDepth 100000 in
set_option maxHeartbeats 4000000 in
theorem chart_ok (M : Om.Ma) (hM : Om.Ok M) (a b c : Value) (rf pl : Nat → Int) (w : World) (HW : Hid (∀ W, Below w.heap.size w W → Calls Try.prog 40 #[.agg (mac a b c rf pl)] W fun e w' => ∃ q, e = .returned (.tuple #[.pointer (some ⟨q, 0, none⟩), .int .i64 0]) ∧ W.heap.size ≤ q ∧ RotAt w' q M M.st ∧ Below W.heap.size W w')) : Calls Try.prog 28 #[.agg (mac a b c rf pl)] w fun e w' => e = .returned (.tuple #[.agg (ints 78 (flat (chC M))), .int .i64 0]) ∧ Below w.heap.size w w' := by
  have h0 := CzAt.new w a b c rf pl
  have hz78 := o_zero v_zero_three
  have HEP := (show Hid (∀ k, Pm.IsPerm (chE M k)) from fun k => Om.now_perm hM _)
  clear hM
  go_enter Try.func28, Try.ntmps28
  go_wp2_with (first | refine wpList_load_row rfl 27 _ rfl w.heap.size rfl 27 (mac a b c rf pl) (0, 0) _ h0.load Try.underlying27 rfl (by rw [mac_size]; exact v_info_mac) ?_)
  refine (HW.out _ h0.mg.below).mono ?_
  rintro e W1 ⟨q, rfl, hq, hrot, hb⟩
  have h1 := h0.step hb
  have hq1 : w.heap.size + 1 < q := by have := h0.res.lt; omega
  clear hb h0 HW hq hz78
  have hz156 := o_zero v_zero_six
  go_upto_region 5 with fail
  have hlq := hrot.row.lt
  have hg0 : CcS w (W1.alloc (.cells (ints 156 fun _ => 0) 103)) a b c rf pl M q W1.heap.size 0 := ⟨h1.alloc _, hrot.alloc _, by rw [flatTo_zero]; exact RowAt.new W1 _ _, hq1, hlq⟩
  generalize W1.alloc (.cells (ints 156 fun _ => 0) 103) = V at *
  obtain ⟨q6, hq6⟩ : ∃ x, x = W1.heap.size := ⟨_, rfl⟩
  rw [← hq6] at hg0 ⊢
  clear hq6 hz156 h1 hrot hq1 hlq
  go_wp2_with fail
  go_loopw [19] (fun i W => ∃ k : Nat, k ≤ 6 ∧ i = .int .i64 (k : Nat) ∧ CcS w W a b c rf pl M q q6 k) (fun i _ => ((6 : Int) - intOf i).toNat)
  case atStart => exact ⟨0, by omega, rfl, hg0⟩
  case round =>
    clear hg0
    obtain ⟨k, hk, rfl, hg⟩ := hrel
    by_cases hlt : k < 6
    · have HLT : Hid (k < 6) := hlt
      have hlt2 : (k : Int) < 6 := by omega
      have HSTK := (show Hid (Om.step M (Om.steps M M.st k) = Om.steps M M.st (k + 1)) from rfl)
      go_wp2_with fail
      refine (step_any q M _ _ hg.rot).mono ?_
      rintro e W3 ⟨rfl, hr, hgr⟩
      rw [HSTK.out] at hr
      have hz3 := hg.z.grown hgr (fun k hk => by cases hk; exact hg.q1)
      have hk3 : RowAt W3 q6 103 (ints 156 (flatTo (chE M) k)) := (hgr.block _ hg.keys.lt (fun e => by have := hg.q2; cases e; omega)).trans hg.keys
      have hq1 := hg.q1
      have hq2 := hg.q2
      clear hg hgr
      go_wp2_with fail
      refine (now_any q M _ _ hr).mono ?_
      rintro e W4 ⟨rfl, hb⟩
      have hz4 := hz3.step hb
      have hk4 := hk3.below hb hk3.lt
      have hr4 := hr.below hb
      clear hb hz3 hk3 hr
      obtain ⟨AW, hAW⟩ : ∃ AW, AW = ints 26 (Pm.up (Om.now M (Om.steps M M.st (k + 1)))) := ⟨_, rfl⟩
      have HSZ : Hid (AW.size = 26) := by rw [Hid, hAW, ints_size]
      have HON : Hid (AW.all (·.oneCell') = true) := by rw [Hid, hAW]; exact ints_one _ _
      rw [← hAW]
      have HTH := (show Hid (W4.there q6 (k * 26) 26) from there_row (o := k * 26) (n := 26) hk4 (by rw [ints_size]; omega))
      have HN : Hid (CcS w (W4.setCells q6 (k * 26) AW.toList) a b c rf pl M q q6 (k + 1)) := by
        rw [hAW]
        refine ⟨hz4.lay q6 _ (by omega) _, ⟨row_setCells_other (by omega) hr4.row, hr4.ok, hr4.ins⟩, ?_, hq1, hq2⟩
        have := row_setCells (o := k * 26) (l := (ints 26 (Pm.up (chE M k))).toList) hk4
        rw [flat_lay (n := 6) _ rfl HLT.out] at this
        exact this
      clear hz4 hk4 hr4 hq1 hq2 hAW HEP
      go_wp2_with (first | refine wpList_store_mid rfl 25 _ _ rfl q6 (k * 26) AW rfl rfl (by rw [HSZ.out]; exact HTH.out) (by rw [HSZ.out]; exact info_perm) HON.out ?_)
      go_roundw
      case rel => exact ⟨k + 1, HLT.out, by go_num, HN.out⟩
      case measure => have := HLT.out; simp [intOf]; omega
    · obtain rfl : k = 6 := by omega
      have hq1 := hg.q1
      have hq2 := hg.q2
      have hz78 := o_zero v_zero_three
      have hlk := hg.keys.lt
      go_upto_region 12 with fail
      have hg0 : CdS w (wr.alloc (.cells (ints 78 fun _ => 0) 68)) a b c rf pl M q6 wr.heap.size 0 := ⟨hg.z.alloc _, hg.keys.alloc _, by rw [flatTo_zero]; exact RowAt.new wr _ _, by omega, hlk⟩
      generalize wr.alloc (.cells (ints 78 fun _ => 0) 68) = V2 at *
      obtain ⟨q8, hq8⟩ : ∃ x, x = wr.heap.size := ⟨_, rfl⟩
      rw [← hq8] at hg0 ⊢
      clear hq8 hz78 hg hq1 hq2 hlk hlt
      go_wp2_with fail
      go_loopw [29] (fun i W => ∃ k : Nat, k ≤ 3 ∧ i = .int .i64 (k : Nat) ∧ CdS w W a b c rf pl M q6 q8 k) (fun i _ => ((3 : Int) - intOf i).toNat)
      case atStart => exact ⟨0, by omega, rfl, hg0⟩
      case round =>
        clear hg0
        obtain ⟨k, hk, rfl, hg⟩ := hrel
        by_cases hlt : k < 3
        · have HLT : Hid (k < 3) := hlt
          have hlt2 : (k : Int) < 3 := by omega
          go_upto_region 15 with fail
          have hgd := hg.drew
          have hsd : ∃ j, (j = k ∨ j = k + 1) ∧ CdS w wr.drew a b c rf pl M q6 q8 j := ⟨k, .inl rfl, hgd⟩
          clear hg
          refine wp_region_noPanic ?_
          refine wp_region_held_drew (S := fun W => ∃ j, (j = k ∨ j = k + 1) ∧ CdS w W a b c rf pl M q6 q8 j) (by kernel_rfl) hsd (fun hS => ?_)
          clear hsd
          obtain ⟨U, hU⟩ : ∃ x, x = wr.drew := ⟨_, rfl⟩
          rw [← hU] at hS hgd ⊢
          clear hU
          refine vtake 0 33 (.int .i64 (k : Nat)) rfl rfl (by kernel_rfl) (by kernel_rfl) (by kernel_rfl) (fun _ _ _ _ h => h) (by rfl) (fun W hW => by clear hS hW; go_simp) hS ?_
          simp only [List.setIfInBounds_toArray, List.set_cons_succ, List.set_cons_zero]
          refine vtake 1 34 (.int .i64 (k : Nat)) rfl rfl (by kernel_rfl) (by kernel_rfl) (by kernel_rfl) (fun _ _ _ _ h => h) (by rfl) (fun W hW => by clear hS hW; go_simp) hS ?_
          simp only [List.setIfInBounds_toArray, List.set_cons_succ, List.set_cons_zero]
          refine vtake 2 35 (.pointer (some ⟨q6, k * 26, none⟩)) rfl rfl (by kernel_rfl) (by kernel_rfl) (by kernel_rfl) (fun _ _ _ _ h => h) (by rfl) (fun W hW => by have u1 : ¬ (6 : Int) ≤ (k : Int) := (by have := HLT.out; omega); clear hS hW; go_simp) hS ?_
          simp only [List.setIfInBounds_toArray, List.set_cons_succ, List.set_cons_zero]
          refine vtake 3 36 (.agg (ints 26 (Pm.up (chE M k)))) rfl rfl (by kernel_rfl) (by kernel_rfl) (by kernel_rfl) (fun _ _ _ _ h => h) (by rfl) (fun W hW => by obtain ⟨_, _, hW⟩ := hW; have u := run_loadAt_mid (P := Try.prog) W q6 (k * 26) 25 (ints 26 (Pm.up (chE M (k)))).toList _ (flat_at (n := 6) rfl hW.keys (by have := HLT.out; omega) (Nat.le_refl _)) Try.underlying25 rfl (by rw [Array.length_toList, ints_size]; exact info_perm); clear hS hW; simp [execOp, Act.eval, u]) hS ?_
          simp only [List.setIfInBounds_toArray, List.set_cons_succ, List.set_cons_zero]
          refine vtake 4 37 (.int .i64 (k : Nat)) rfl rfl (by kernel_rfl) (by kernel_rfl) (by kernel_rfl) (fun _ _ _ _ h => h) (by rfl) (fun W hW => by clear hS hW; go_simp) hS ?_
          simp only [List.setIfInBounds_toArray, List.set_cons_succ, List.set_cons_zero]
          refine vtake 5 38 (.int .i64 ((k : Int) + 3)) rfl rfl (by kernel_rfl) (by kernel_rfl) (by kernel_rfl) (fun _ _ _ _ h => h) (by rfl) (fun W hW => by have u1 : (k : Int) < 3 := (by have := HLT.out; omega); clear hS hW; go_simp; rw [IntKind.wrap_i64]; omega) hS ?_
          simp only [List.setIfInBounds_toArray, List.set_cons_succ, List.set_cons_zero]
          refine vtake 6 39 (.pointer (some ⟨q6, (k + 3) * 26, none⟩)) rfl rfl (by kernel_rfl) (by kernel_rfl) (by kernel_rfl) (fun _ _ _ _ h => h) (by rfl) (fun W hW => by have u1 : ¬ (6 : Int) ≤ (k : Int) + 3 := (by have := HLT.out; omega); have u2 : ((k : Int) + 3).toNat = k + 3 := (by omega); have u3 : ¬ (k : Int) + 3 < 0 := (by omega); clear hS hW; go_simp; try (intro h; omega)) hS ?_
          simp only [List.setIfInBounds_toArray, List.set_cons_succ, List.set_cons_zero]
          refine vtake 7 40 (.agg (ints 26 (Pm.up (chE M (k + 3))))) rfl rfl (by kernel_rfl) (by kernel_rfl) (by kernel_rfl) (fun _ _ _ _ h => h) (by rfl) (fun W hW => by obtain ⟨_, _, hW⟩ := hW; have u := run_loadAt_mid (P := Try.prog) W q6 ((k + 3) * 26) 25 (ints 26 (Pm.up (chE M (k + 3)))).toList _ (flat_at (n := 6) rfl hW.keys (by have := HLT.out; omega) (Nat.le_refl _)) Try.underlying25 rfl (by rw [Array.length_toList, ints_size]; exact info_perm); clear hS hW; simp [execOp, Act.eval, u]) hS ?_
          simp only [List.setIfInBounds_toArray, List.set_cons_succ, List.set_cons_zero]
          refine wpAnyH_ready (rs := [8]) (by kernel_rfl) (by simp) ?_
          refine AllReadyH.cons (o := _) rfl (fun K hK => ?_) AllReadyH.nil
          rw [if_pos (by rfl)]
          go_simp
          refine Calls.mono (then_ok (chE M k) (chE M (k + 3)) (HEP.out k) (HEP.out (k + 3)) _) ?_
          rintro e Y ⟨rfl, hb8⟩
          have hgy := hgd.step hb8
          refine hK.out _ _ (by obtain ⟨j, hj, h⟩ := hS; exact ⟨j, hj, h.step hb8⟩) (fun hS1 => ?_)
          clear hK hS K
          have hS := hS1
          clear hS1
          refine vtake 9 32 (.tuple #[.agg (ints 26 (Pm.up (chC M k))), .int .i64 0]) rfl rfl (by kernel_rfl) (by kernel_rfl) (by kernel_rfl) (fun _ _ _ _ h => h) (by rfl) (fun W hW => by clear hS hW; go_simp; rfl) hS ?_
          simp only [List.setIfInBounds_toArray, List.set_cons_succ, List.set_cons_zero]
          refine vtake 10 42 (.agg (ints 26 (Pm.up (chC M k)))) rfl rfl (by kernel_rfl) (by kernel_rfl) (by kernel_rfl) (fun _ _ _ _ h => h) (by rfl) (fun W hW => by clear hS hW; go_simp) hS ?_
          simp only [List.setIfInBounds_toArray, List.set_cons_succ, List.set_cons_zero]
          refine vtake 11 43 (.int .i64 0) rfl rfl (by kernel_rfl) (by kernel_rfl) (by kernel_rfl) (fun _ _ _ _ h => h) (by rfl) (fun W hW => by clear hS hW; go_simp) hS ?_
          simp only [List.setIfInBounds_toArray, List.set_cons_succ, List.set_cons_zero]
          refine vtake 12 44 (.pointer (some ⟨q8, k * 26, none⟩)) rfl rfl (by kernel_rfl) (by kernel_rfl) (by kernel_rfl) (fun _ _ _ _ h => h) (by rfl) (fun W hW => by have u1 : ¬ (3 : Int) ≤ (k : Int) := (by have := HLT.out; omega); clear hS hW; go_simp) hS ?_
          simp only [List.setIfInBounds_toArray, List.set_cons_succ, List.set_cons_zero]
          refine wpAnyH_ready (rs := [13]) (by kernel_rfl) (by simp) ?_
          refine AllReadyH.cons (o := _) rfl (fun K hK => ?_) AllReadyH.nil
          rw [if_pos (by rfl)]
          have hth := there_row (o := k * 26) (n := 26) hgy.out (by rw [ints_size]; have := HLT.out; omega)
          have hly := hgy.lay HLT.out
          refine wp_store_mid 25 _ _ rfl q8 (k * 26) (ints 26 (Pm.up (chC M k))) rfl rfl (by rw [ints_size]; exact hth) (by rw [ints_size]; exact info_perm) (ints_one _ _) ?_
          refine hK.out _ _ ⟨k + 1, .inr rfl, hly⟩ (fun _ => ?_)
          clear hK K hS hth hgy hgd
          refine wpAnyH_done (by kernel_rfl) ?_ _
          refine NoPanic.normal ?_
          have HLY := (show Hid _ from hly)
          clear hly
          go_wp2_with fail
          go_roundw
          case rel => exact ⟨_, _, _, _, _, _, _, _, _, _, _, _, _, _, _, _, _, _, ⟨k + 1, HLT.out, by go_num, HLY.out⟩, rfl⟩
          case measure => have := HLT.out; simp [intOf]; omega
        · obtain rfl : k = 3 := by omega
          have hor := hg.out
          rw [flatTo_all _ 3 rfl] at hor
          have hrs := hg.z.res
          have hbe := hg.z.mg.below
          clear hg hlt
          go_wp2_with (first | refine wpList_load_row rfl 68 _ rfl q8 rfl 68 (ints 78 (flat (chC M))) (0, 0) _ hor Try.underlying68 rfl (by rw [ints_size]; exact v_info_three) ?_ | refine wpList_store_row rfl 68 _ _ rfl (w.heap.size + 1) (ints 78 (flat (chC M))) rfl rfl 68 _ hrs (by rw [ints_size]; exact v_info_three) (by simp only [ints_size]) (ints_one _ _) ?_)
          exact bodyPost_ret (v := .tuple #[.agg (ints 78 (flat (chC M))), .int .i64 0]) (results_cell_tmp2 rfl _ _ (w.heap.size + 1) 68 _ (0, 0) _ _ rfl rfl (hrs.row _) Try.underlying68 rfl (by rw [ints_size]; exact v_info_three)) rfl ⟨rfl, Below.setRow hbe _ (by omega) _⟩
/-- What Chart says. -/
def chA (g : Gm) : Array Value := if gE g = 0 then ints 78 (flat (chC (maOf g))) else ints 78 fun _ => 0
theorem chart_any (vm : Value) (g : Gm) (w : World) (hm : MacAt w vm g) : Calls Try.prog 28 #[vm] w fun e w' => e = .returned (.tuple #[.agg (chA g), .int .i64 (gE g)]) ∧ Below w.heap.size w w' := by
  have HN := fun W (hb : Below w.heap.size w W) => new_any vm g W (hm.below hb)
  obtain ⟨a, b, c, rfl, _⟩ := hm
  unfold chA
  by_cases hg : gE g = 0
  · obtain ⟨hM, _⟩ := ok_maOf hg
    rw [if_pos hg, hg]
    exact chart_ok _ hM a b c g.rf g.pl w (fun W hb => (HN W hb).mono (by
      rintro e w' (⟨h1, _⟩ | ⟨_, h2⟩)
      · exact absurd hg h1
      · exact h2))
  · rw [if_neg hg]
    exact chart_bad a b c g.rf g.pl _ (by simpa using hg) w (fun W hb => (HN W hb).mono (by
      rintro e w' (⟨_, h2⟩ | ⟨h1, _⟩)
      · exact h2
      · exact absurd h1 hg))
end Go.Proofs.Ythfjkhmedpilnaa
