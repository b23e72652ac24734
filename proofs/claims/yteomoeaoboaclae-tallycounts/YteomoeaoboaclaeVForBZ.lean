/-
  Contract of tableau.tableFor where key or text are wrong.
-/
import Derived.Test.YteomoeaoboaclaeVForZ
import Derived.Deep.RegionHeld3
import Derived.OrdersHeld
namespace Go.Proofs.Yteomoeaoboaclae
open Go.RowKit PK Vg

set_option maxRecDepth 100000 in
set_option maxHeartbeats 1000000 in
theorem tfor_key (k : Nat) (h : 1 ≤ k ∧ k ≤ 4) (key t : ByteArray) (hk : (ckE key.data.toList != 0) = true) (w : World) : Calls Try.prog 35 #[.int .i64 k, .string key, .string t] w fun e w' => e = .returned (.tuple #[.agg tbl0, .agg #[.int .i64 (ckE key.data.toList), .int .i64 (ckAt key.data.toList)]]) ∧ Below w.heap.size w w' := by
  have HT := (show Hid (∀ W, Calls Try.prog 42 #[.int .i64 k] W fun e w' => e = .returned (.tuple #[.agg #[.func (.func (fn0 k)) #[] #[], .func (.func (fn1 k)) #[] #[], .func (.func (fn2 k)) #[] #[], .bool (decide (k = 4))], .bool true]) ∧ Below W.heap.size W w') from fun W => tableOf_ok k h W)
  have HC := (show Hid (∀ W, Calls Try.prog 21 #[.string key] W fun e w' => e = .returned (.agg #[.int .i64 (ckE key.data.toList), .int .i64 (ckAt key.data.toList)]) ∧ Below W.heap.size W w') from fun W => check_all key W)
  generalize ckE key.data.toList = E at *
  generalize ckAt key.data.toList = A at *
  generalize fn0 k = F0 at *
  generalize fn1 k = F1 at *
  generalize fn2 k = F2 at *
  generalize decide (k = 4) = B at *
  clear h
  go_enter Try.func35, Try.ntmps35
  go_wp2_with fail
  refine (HT.out _).mono ?_
  rintro e W1 ⟨rfl, hb1⟩
  simp only [World.size_alloc] at hb1
  have hb2 := hb1.alloc (by have := six_size hb1; omega) (.cells #[.func (.func F0) #[] #[], .func (.func F1) #[] #[], .func (.func F2) #[] #[], .bool B] 63)
  clear hb1
  go_wp2_with fail
  refine (HC.out _).mono ?_
  rintro e W2 ⟨rfl, hb3⟩
  have hb4 := hb2.trans (hb3.mono (by have := six_size hb2; omega))
  clear hb3 hb2
  have hb5 := hb4.alloc (by have := six_size hb4; omega) (.cells #[.int .i64 E, .int .i64 A] 25)
  have hb := (six_first w _ _).trans (hb5.mono (by omega))
  have RR := (show Hid (_ ∧ _) from six_rows hb5)
  have hz := six_size hb4
  have n0 : ¬ W2.heap.size = w.heap.size := by omega
  have n1 : ¬ w.heap.size = W2.heap.size := by omega
  have n2 : ¬ W2.heap.size = w.heap.size + 1 := by omega
  have n3 : ¬ w.heap.size + 1 = W2.heap.size := by omega
  clear hb4 hb5 HC HT hz
  go_wp2_with fail
  refine wp_region_noPanic ?_
  refine wp_region_held_drew (S := fun W => RowAt W w.heap.size 63 #[.nilFunc, .nilFunc, .nilFunc, .bool false] ∧ (∃ c0 c1, RowAt W (w.heap.size + 1) 25 #[c0, c1]) ∧ RowAt W W2.heap.size 25 #[.int .i64 E, .int .i64 A] ∧ Below w.heap.size w W) (by kernel_rfl) ⟨RR.out.1, ⟨_, _, RR.out.2⟩, RowAt.new W2 _ _, hb.drew⟩ (fun hS => ?_)
  refine vtake 0 26 (.agg #[.nilFunc, .nilFunc, .nilFunc, .bool false]) rfl rfl (by kernel_rfl) (by kernel_rfl) (by kernel_rfl) (fun _ _ _ _ h => h) (by rfl) (fun W hW => by clear hS hW; go_simp) hS ?_
  simp only [List.setIfInBounds_toArray, List.set_cons_succ, List.set_cons_zero]
  refine vtake 1 27 (.agg #[.int .i64 E, .int .i64 A]) rfl rfl (by kernel_rfl) (by kernel_rfl) (by kernel_rfl) (fun _ _ _ _ h => h) (by rfl) (fun W hW => by have h1 := hW.2.2.1.cell (i := 0) rfl; have h2 := hW.2.2.1.cell (i := 1) rfl; clear hS hW; go_simp) hS ?_
  simp only [List.setIfInBounds_toArray, List.set_cons_succ, List.set_cons_zero]
  refine wpAnyH_ready (rs := [2]) (by kernel_rfl) (by simp) ?_
  refine AllReadyH.cons (o := _) rfl (fun K hK => ?_) AllReadyH.nil
  rw [if_pos (by rfl)]
  refine wp_store_row 63 _ _ rfl w.heap.size #[.nilFunc, .nilFunc, .nilFunc, .bool false] rfl rfl 63 _ hS.1 v_info_tbl rfl tbl0_one ?_
  refine hK.out _ _ ⟨hS.1.row _, ⟨hS.2.1.choose, hS.2.1.choose_spec.choose, hS.2.1.choose_spec.choose_spec.rowOther _ _ (by omega)⟩, hS.2.2.1.rowOther _ _ n0, Below.setRow hS.2.2.2 _ (Nat.le_refl _) _⟩ (fun hS1 => ?_)
  clear hK hS
  have hS := hS1
  clear hS1 K
  obtain ⟨d0, d1, hd⟩ := hS.2.1
  refine wpAnyH_ready (rs := [3]) (by kernel_rfl) (by simp) ?_
  refine AllReadyH.cons (o := _) rfl (fun K hK => ?_) AllReadyH.nil
  rw [if_pos (by rfl)]
  refine wp_store_row 25 _ _ rfl (w.heap.size + 1) #[.int .i64 E, .int .i64 A] rfl rfl 25 _ hd v_info_fault rfl (two_one _ _) ?_
  refine hK.out _ _ ⟨hS.1.rowOther _ _ (by omega), ⟨_, _, hd.row _⟩, hS.2.2.1.rowOther _ _ n2, Below.setRow hS.2.2.2 _ (by omega) _⟩ (fun hS1 => ?_)
  have hr := hd.row #[.int .i64 E, .int .i64 A]
  clear hK hS K
  refine wpAnyH_done (by kernel_rfl) ?_ _
  refine NoPanic.normal ?_
  go_wp2
  refine bodyPost_ret (v := .tuple #[.agg tbl0, .agg #[.int .i64 E, .int .i64 A]]) (results_cells2 Try.results35 _ _ _ _ _ _ _ _ _ _ _ _ rfl rfl hS1.1 hr Try.underlying63 rfl v_info_tbl Try.underlying25 rfl v_info_fault) rfl ⟨rfl, hS1.2.2.2⟩
set_option maxRecDepth 100000 in
set_option maxHeartbeats 1000000 in
theorem tfor_text (k : Nat) (h : 1 ≤ k ∧ k ≤ 4) (key t : ByteArray) (hk : ckE key.data.toList = 0) (hk2 : ckAt key.data.toList = 0) (hn : 1 ≤ key.size ∧ key.size ≤ 256) (ht : (ckE t.data.toList != 0) = true) (w : World) : Calls Try.prog 35 #[.int .i64 k, .string key, .string t] w fun e w' => e = .returned (.tuple #[.agg tbl0, .agg #[.int .i64 (ckE t.data.toList), .int .i64 (ckAt t.data.toList)]]) ∧ Below w.heap.size w w' := by
  have HT := (show Hid (∀ W, Calls Try.prog 42 #[.int .i64 k] W fun e w' => e = .returned (.tuple #[.agg #[.func (.func (fn0 k)) #[] #[], .func (.func (fn1 k)) #[] #[], .func (.func (fn2 k)) #[] #[], .bool (decide (k = 4))], .bool true]) ∧ Below W.heap.size W w') from fun W => tableOf_ok k h W)
  have HC := (show Hid (∀ W, Calls Try.prog 21 #[.string key] W fun e w' => e = .returned (.agg #[.int .i64 0, .int .i64 0]) ∧ Below W.heap.size W w') from fun W => by have := check_all key W; rw [hk, hk2] at this; exact this)
  have HD := (show Hid (∀ W, Calls Try.prog 21 #[.string t] W fun e w' => e = .returned (.agg #[.int .i64 (ckE t.data.toList), .int .i64 (ckAt t.data.toList)]) ∧ Below W.heap.size W w') from fun W => check_all t W)
  generalize ckE t.data.toList = E at *
  generalize ckAt t.data.toList = A at *
  generalize fn0 k = F0 at *
  generalize fn1 k = F1 at *
  generalize fn2 k = F2 at *
  generalize decide (k = 4) = B at *
  clear h hk hk2
  go_enter Try.func35, Try.ntmps35
  go_wp2_with fail
  refine (HT.out _).mono ?_
  rintro e W1 ⟨rfl, hb1⟩
  simp only [World.size_alloc] at hb1
  have hb2 := hb1.alloc (by have := six_size hb1; omega) (.cells #[.func (.func F0) #[] #[], .func (.func F1) #[] #[], .func (.func F2) #[] #[], .bool B] 63)
  have hz1 := six_size hb1
  have rt := RowAt.new W1 63 #[.func (.func F0) #[] #[], .func (.func F1) #[] #[], .func (.func F2) #[] #[], .bool B]
  clear hb1
  go_wp2_with fail
  refine (HC.out _).mono ?_
  rintro e W2 ⟨rfl, hb3⟩
  have hb4 := hb2.trans (hb3.mono (by have := six_size hb2; omega))
  have rt2 := rt.below hb3 rt.lt
  clear hb3 hb2 rt
  have hb5 := hb4.alloc (by have := six_size hb4; omega) (.cells #[.int .i64 0, .int .i64 0] 25)
  clear hb4
  go_wp2_with fail
  refine (HD.out _).mono ?_
  rintro e W3 ⟨rfl, hb6⟩
  have hb7 := hb5.trans (hb6.mono (by have := six_size hb5; omega))
  clear hb6 hb5
  have hb8 := hb7.alloc (by have := six_size hb7; omega) (.cells #[.int .i64 E, .int .i64 A] 25)
  have hb := (six_first w _ _).trans (hb8.mono (by omega))
  have RR := (show Hid (_ ∧ _) from six_rows hb8)
  have hz := six_size hb7
  have n0 : ¬ W3.heap.size = w.heap.size := by omega
  have n1 : ¬ w.heap.size = W3.heap.size := by omega
  have n2 : ¬ W3.heap.size = w.heap.size + 1 := by omega
  have n3 : ¬ w.heap.size + 1 = W3.heap.size := by omega
  clear hb7 hb8 HC HT HD hz hz1 rt2
  go_wp2_with fail
  refine wp_region_noPanic ?_
  refine wp_region_held_drew (S := fun W => RowAt W w.heap.size 63 #[.nilFunc, .nilFunc, .nilFunc, .bool false] ∧ (∃ c0 c1, RowAt W (w.heap.size + 1) 25 #[c0, c1]) ∧ RowAt W W3.heap.size 25 #[.int .i64 E, .int .i64 A] ∧ Below w.heap.size w W) (by kernel_rfl) ⟨RR.out.1, ⟨_, _, RR.out.2⟩, RowAt.new W3 _ _, hb.drew⟩ (fun hS => ?_)
  refine vtake 0 43 (.agg #[.nilFunc, .nilFunc, .nilFunc, .bool false]) rfl rfl (by kernel_rfl) (by kernel_rfl) (by kernel_rfl) (fun _ _ _ _ h => h) (by rfl) (fun W hW => by clear hS hW; go_simp) hS ?_
  simp only [List.setIfInBounds_toArray, List.set_cons_succ, List.set_cons_zero]
  refine vtake 1 44 (.agg #[.int .i64 E, .int .i64 A]) rfl rfl (by kernel_rfl) (by kernel_rfl) (by kernel_rfl) (fun _ _ _ _ h => h) (by rfl) (fun W hW => by have h1 := hW.2.2.1.cell (i := 0) rfl; have h2 := hW.2.2.1.cell (i := 1) rfl; clear hS hW; go_simp) hS ?_
  simp only [List.setIfInBounds_toArray, List.set_cons_succ, List.set_cons_zero]
  refine wpAnyH_ready (rs := [2]) (by kernel_rfl) (by simp) ?_
  refine AllReadyH.cons (o := _) rfl (fun K hK => ?_) AllReadyH.nil
  rw [if_pos (by rfl)]
  refine wp_store_row 63 _ _ rfl w.heap.size #[.nilFunc, .nilFunc, .nilFunc, .bool false] rfl rfl 63 _ hS.1 v_info_tbl rfl tbl0_one ?_
  refine hK.out _ _ ⟨hS.1.row _, ⟨hS.2.1.choose, hS.2.1.choose_spec.choose, hS.2.1.choose_spec.choose_spec.rowOther _ _ (by omega)⟩, hS.2.2.1.rowOther _ _ n0, Below.setRow hS.2.2.2 _ (Nat.le_refl _) _⟩ (fun hS1 => ?_)
  clear hK hS
  have hS := hS1
  clear hS1 K
  obtain ⟨d0, d1, hd⟩ := hS.2.1
  refine wpAnyH_ready (rs := [3]) (by kernel_rfl) (by simp) ?_
  refine AllReadyH.cons (o := _) rfl (fun K hK => ?_) AllReadyH.nil
  rw [if_pos (by rfl)]
  refine wp_store_row 25 _ _ rfl (w.heap.size + 1) #[.int .i64 E, .int .i64 A] rfl rfl 25 _ hd v_info_fault rfl (two_one _ _) ?_
  refine hK.out _ _ ⟨hS.1.rowOther _ _ (by omega), ⟨_, _, hd.row _⟩, hS.2.2.1.rowOther _ _ n2, Below.setRow hS.2.2.2 _ (by omega) _⟩ (fun hS1 => ?_)
  have hr := hd.row #[.int .i64 E, .int .i64 A]
  clear hK hS K
  refine wpAnyH_done (by kernel_rfl) ?_ _
  refine NoPanic.normal ?_
  go_wp2
  refine bodyPost_ret (v := .tuple #[.agg tbl0, .agg #[.int .i64 E, .int .i64 A]]) (results_cells2 Try.results35 _ _ _ _ _ _ _ _ _ _ _ _ rfl rfl hS1.1 hr Try.underlying63 rfl v_info_tbl Try.underlying25 rfl v_info_fault) rfl ⟨rfl, hS1.2.2.2⟩
end Go.Proofs.Yteomoeaoboaclae
