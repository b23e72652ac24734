/-
  Contract of tally.Counts.
-/
import Derived.Test.YteomoeaoboaclaeTCn
namespace Go.Proofs.Yteomoeaoboaclae
open Go.RowKit PK Vg Tl

theorem built_cts : Try.prog.built 22 [] = some (ints 26 fun _ => 0) := by kernel_rfl
/-- The result's variables. -/
structure TctAt (w W : World) : Prop where
  r : RowAt W w.heap.size 22 (ints 26 fun _ => 0)
  e : RowAt W (w.heap.size + 1) 25 #[.int .i64 0, .int .i64 0]
  below : Below w.heap.size w W
theorem TctAt.new (w : World) : TctAt w ((w.alloc (.cells (ints 26 fun _ => 0) 22)).alloc (.cells #[.int .i64 0, .int .i64 0] 25)) := by
  have h2 := RowAt.new (w.alloc (.cells (ints 26 fun _ => 0) 22)) 25 #[.int .i64 0, .int .i64 0]
  simp only [World.size_alloc] at h2
  exact ⟨(RowAt.new w _ _).alloc _, h2, ((Below.refl _ w).alloc (Nat.le_refl _) _).alloc (by simp only [World.size_alloc]; omega) _⟩
theorem TctAt.step {w W W' : World} (h : TctAt w W) (hb : Below W.heap.size W W') : TctAt w W' := ⟨h.r.below hb h.r.lt, h.e.below hb h.e.lt, h.below.trans (hb.mono h.below.size)⟩
theorem TctAt.alloc {w W : World} (h : TctAt w W) (o : Obj) : TctAt w (W.alloc o) := ⟨h.r.alloc o, h.e.alloc o, h.below.alloc h.below.size o⟩
set_option maxRecDepth 100000 in
set_option maxHeartbeats 2000000 in
theorem tct_ok (t : ByteArray) (f : Nat → Int) (HT : Hid (∀ W, Calls Try.prog 21 #[.string t] W fun e w' => e = .returned (.agg #[.int .i64 0, .int .i64 0]) ∧ Below W.heap.size W w')) (HC : Hid (∀ W, Calls Try.prog 22 #[.string t, .int .i64 0, .int .i64 1] W fun e w' => e = .returned (.agg (ints 26 f)) ∧ Below W.heap.size W w')) (w : World) : Calls Try.prog 7 #[.string t] w fun e w' => e = .returned (.tuple #[.agg (ints 26 f), .agg #[.int .i64 0, .int .i64 0]]) ∧ Below w.heap.size w w' := by
  have hz22 := run_zero' v_zero_cts
  go_enter Try.func7, Try.ntmps7
  go_wp2_with fail
  refine (HT.out _).mono ?_
  rintro e W1 ⟨rfl, hb⟩
  have h2 := ((TctAt.new w).step hb).alloc (.cells #[.int .i64 0, .int .i64 0] 25)
  clear hb HT hz22
  go_wp2_with fail
  refine (HC.out _).mono ?_
  rintro e W2 ⟨rfl, hb⟩
  have h3 := h2.step hb
  have hr := h3.r
  have he := h3.e
  have hbe := h3.below
  clear hb HC h2 h3
  go_wp2_with (first | refine wpList_store_row rfl 22 _ _ rfl w.heap.size (ints 26 f) rfl rfl 22 _ hr (by rw [ints_size]; exact v_info_cts) (by simp only [ints_size]) (ints_one _ _) ?_ | refine wpList_store_row rfl 25 _ _ rfl (w.heap.size + 1) #[.int .i64 0, .int .i64 0] rfl rfl 25 _ (he.rowOther _ _ (by omega)) v_info_fault rfl (two_one _ _) ?_)
  refine bodyPost_ret (v := .tuple #[.agg (ints 26 f), .agg #[.int .i64 0, .int .i64 0]]) (results_cells2 Try.results7 _ _ _ _ _ _ _ _ _ _ _ _ rfl rfl ((hr.row _).rowOther (w.heap.size + 1) _ (by omega)) ((he.rowOther w.heap.size _ (by omega)).row _) Try.underlying22 rfl (by rw [ints_size]; exact v_info_cts) Try.underlying25 rfl v_info_fault) rfl ⟨rfl, ?_⟩
  exact Below.setRow (Below.setRow hbe _ (Nat.le_refl _) _) _ (by omega) _
set_option maxRecDepth 100000 in
set_option maxHeartbeats 2000000 in
theorem tct_bad (t : ByteArray) (E A : Int) (hE : (E != 0) = true) (HT : Hid (∀ W, Calls Try.prog 21 #[.string t] W fun e w' => e = .returned (.agg #[.int .i64 E, .int .i64 A]) ∧ Below W.heap.size W w')) (w : World) : Calls Try.prog 7 #[.string t] w fun e w' => e = .returned (.tuple #[.agg (ints 26 fun _ => 0), .agg #[.int .i64 E, .int .i64 A]]) ∧ Below w.heap.size w w' := by
  have hz22 := run_zero' v_zero_cts
  go_enter Try.func7, Try.ntmps7
  go_wp2_with fail
  refine (HT.out _).mono ?_
  rintro e W1 ⟨rfl, hb⟩
  have hl1 : w.heap.size + 2 ≤ W1.heap.size := by have := hb.size; simpa using this
  have h2 := ((TctAt.new w).step hb).alloc (.cells #[.int .i64 E, .int .i64 A] 25)
  clear hb HT hz22
  go_wp2_with fail
  refine wp_region_noPanic ?_
  refine wp_region_held_drew (S := fun W => (∃ f, RowAt W w.heap.size 22 (ints 26 f)) ∧ (∃ c0 c1, RowAt W (w.heap.size + 1) 25 #[c0, c1]) ∧ RowAt W W1.heap.size 25 #[.int .i64 E, .int .i64 A] ∧ Below w.heap.size w W) (by kernel_rfl) ⟨⟨_, h2.r⟩, ⟨_, _, h2.e⟩, RowAt.new W1 _ _, h2.below.drew⟩ (fun hS => ?_)
  refine vtake 0 10 (.agg (ints 26 fun _ => 0)) rfl rfl (by kernel_rfl) (by kernel_rfl) (by kernel_rfl) (fun _ _ _ _ h => h) (by rfl) (fun W hW => by have u := run_build (P := Try.prog) W 22 #[] (ints 26 fun _ => 0) built_cts; clear hS hW; simp [execOp, u]) hS ?_
  simp only [List.setIfInBounds_toArray, List.set_cons_succ, List.set_cons_zero]
  refine vtake 1 11 (.agg #[.int .i64 E, .int .i64 A]) rfl rfl (by kernel_rfl) (by kernel_rfl) (by kernel_rfl) (fun _ _ _ _ h => h) (by rfl) (fun W hW => by have h1 := hW.2.2.1.cell (i := 0) rfl; have h2 := hW.2.2.1.cell (i := 1) rfl; clear hS hW; go_simp) hS ?_
  simp only [List.setIfInBounds_toArray, List.set_cons_succ, List.set_cons_zero]
  obtain ⟨f0, hr0⟩ := hS.1
  refine wpAnyH_ready (rs := [2]) (by kernel_rfl) (by simp) ?_
  refine AllReadyH.cons (o := _) rfl (fun K hK => ?_) AllReadyH.nil
  rw [if_pos (by rfl)]
  refine wp_store_row 22 _ _ rfl w.heap.size (ints 26 fun _ => 0) rfl rfl 22 _ hr0 (by rw [ints_size]; exact v_info_cts) (by simp only [ints_size]) (ints_one _ _) ?_
  obtain ⟨c0, c1, hc⟩ := hS.2.1
  refine hK.out _ _ ⟨⟨_, hr0.row _⟩, ⟨_, _, hc.rowOther _ _ (by omega)⟩, hS.2.2.1.rowOther _ _ (by omega), Below.setRow hS.2.2.2 _ (Nat.le_refl _) _⟩ (fun hS1 => ?_)
  have hr1 := hr0.row (ints 26 fun _ => 0)
  clear hK hS hc K
  have hS := hS1
  clear hS1
  obtain ⟨c0, c1, hc⟩ := hS.2.1
  refine wpAnyH_ready (rs := [3]) (by kernel_rfl) (by simp) ?_
  refine AllReadyH.cons (o := _) rfl (fun K hK => ?_) AllReadyH.nil
  rw [if_pos (by rfl)]
  refine wp_store_row 25 _ _ rfl (w.heap.size + 1) #[.int .i64 E, .int .i64 A] rfl rfl 25 _ hc v_info_fault rfl (two_one _ _) ?_
  refine hK.out _ _ ⟨⟨_, hr1.rowOther _ _ (by omega)⟩, ⟨_, _, hc.row _⟩, hS.2.2.1.rowOther _ _ (by omega), Below.setRow hS.2.2.2 _ (by omega) _⟩ (fun hS1 => ?_)
  have hr2 := hr1.rowOther (w.heap.size + 1) #[.int .i64 E, .int .i64 A] (by omega)
  have hc2 := hc.row #[.int .i64 E, .int .i64 A]
  clear hK hS K
  refine wpAnyH_done (by kernel_rfl) ?_ _
  refine NoPanic.normal ?_
  go_wp2
  exact bodyPost_ret (v := .tuple #[.agg (ints 26 fun _ => 0), .agg #[.int .i64 E, .int .i64 A]]) (results_cells2 Try.results7 _ _ _ _ _ _ _ _ _ _ _ _ rfl rfl hr2 hc2 Try.underlying22 rfl (by rw [ints_size]; exact v_info_cts) Try.underlying25 rfl v_info_fault) rfl ⟨rfl, hS1.2.2.2⟩
theorem tct_any (t : ByteArray) (w : World) : Calls Try.prog 7 #[.string t] w fun e w' => e = .returned (.tuple #[.agg (ints 26 (ctS t.data.toList)), .agg #[.int .i64 (ckE t.data.toList), .int .i64 (ckAt t.data.toList)]]) ∧ Below w.heap.size w w' := by
  rcases ck_cases t.data.toList with ⟨e1, e2, e3, e4⟩ | e1
  · rw [e1, e2, ints_ext (g := fun c => ((cnt t.data.toList c : Nat) : Int)) fun c _ => by unfold ctS; rw [if_neg (fun h => h e1)]]
    refine tct_ok t _ (fun W => by have := check_all t W; rw [e1, e2] at this; exact this) (fun W => ?_) w
    have := tcn_any t (ls_of e4) (by rw [Pl.size_len]; exact e3) 0 1 (by decide) (by decide) W
    rw [col_one] at this
    exact this
  · rw [ints_ext (g := fun _ => 0) fun c _ => by unfold ctS; rw [if_pos (by simpa using e1)]]
    exact tct_bad t _ _ e1 (fun W => check_all t W) w
end Go.Proofs.Yteomoeaoboaclae
