/-
  Contract of tally.Chi.
-/
import Derived.Test.YteomoeaoboaclaeTCh
namespace Go.Proofs.Yteomoeaoboaclae
open Go.RowKit PK Vg Tl Fl

set_option maxRecDepth 100000 in
set_option maxHeartbeats 2000000 in
theorem tchi_ok (t : ByteArray) (F : Nat → Nat) (C : Nat → Int) (x : Nat) (HT : Hid (∀ W, Calls Try.prog 30 #[.string t, .agg (flts F)] W fun e w' => e = .returned (.agg #[.int .i64 0, .int .i64 0]) ∧ Below W.heap.size W w')) (HC : Hid (∀ W, Calls Try.prog 22 #[.string t, .int .i64 0, .int .i64 1] W fun e w' => e = .returned (.agg (ints 26 C)) ∧ Below W.heap.size W w')) (HF : Hid (∀ W, Calls Try.prog 31 #[.agg (ints 26 C), .int .i64 (t.size : Nat), .agg (flts F), .int .i64 0] W fun e w' => e = .returned (.float .f64 x) ∧ Below W.heap.size W w')) (w : World) : Calls Try.prog 13 #[.string t, .agg (flts F)] w fun e w' => e = .returned (.tuple #[.float .f64 x, .agg #[.int .i64 0, .int .i64 0]]) ∧ Below w.heap.size w w' := by
  have h0 := WgAt.new w F
  go_enter Try.func13, Try.ntmps13
  go_wp2_with (first | refine wpList_load_row rfl 36 _ rfl w.heap.size rfl 36 (flts F) (0, 0) _ h0.row Try.underlying36 rfl (by rw [flts_size]; exact v_size_w) ?_)
  refine (HT.out _).mono ?_
  rintro e W1 ⟨rfl, hb⟩
  have h2 := (h0.step hb).alloc (.cells #[.int .i64 0, .int .i64 0] 25)
  clear hb HT h0
  go_upto_region 4 with fail
  refine wp_region_noPanic ?_
  refine wp_region_held_drew (S := fun W => RowAt W w.heap.size 36 (flts F) ∧ (∃ c0 c1, RowAt W (w.heap.size + 1) 25 #[c0, c1]) ∧ Below w.heap.size w W) (by kernel_rfl) ⟨h2.row, ⟨_, _, h2.res⟩, h2.below.drew⟩ (fun hS => ?_)
  refine vtake 0 14 (.string t) rfl rfl (by kernel_rfl) (by kernel_rfl) (by kernel_rfl) (fun _ _ _ _ h => h) (by rfl) (fun W hW => by clear hS hW; go_simp) hS ?_
  simp only [List.setIfInBounds_toArray, List.set_cons_succ, List.set_cons_zero]
  refine vtake 2 16 (.string t) rfl rfl (by kernel_rfl) (by kernel_rfl) (by kernel_rfl) (fun _ _ _ _ h => h) (by rfl) (fun W hW => by clear hS hW; go_simp) hS ?_
  simp only [List.setIfInBounds_toArray, List.set_cons_succ, List.set_cons_zero]
  refine vtake 3 17 (.int .i64 (t.size : Nat)) rfl rfl (by kernel_rfl) (by kernel_rfl) (by kernel_rfl) (fun _ _ _ _ h => h) (by rfl) (fun W hW => by clear hS hW; go_simp) hS ?_
  simp only [List.setIfInBounds_toArray, List.set_cons_succ, List.set_cons_zero]
  refine vtake 4 18 (.agg (flts F)) rfl rfl (by kernel_rfl) (by kernel_rfl) (by kernel_rfl) (fun _ _ _ _ h => h) (by rfl) (fun W hW => by have u := run_loadVar_row (P := Try.prog) W w.heap.size 36 36 (flts F) (0, 0) _ hW.1 Try.underlying36 rfl (by rw [flts_size]; exact v_size_w); clear hS hW; simp [execOp, Act.eval, Instr.loadAt, Instr.sureAddr, u]) hS ?_
  simp only [List.setIfInBounds_toArray, List.set_cons_succ, List.set_cons_zero]
  refine vtake 6 20 (.agg #[.int .i64 0, .int .i64 0]) rfl rfl (by kernel_rfl) (by kernel_rfl) (by kernel_rfl) (fun _ _ _ _ h => h) (by rfl) (fun W hW => by clear hS hW; go_simp) hS ?_
  simp only [List.setIfInBounds_toArray, List.set_cons_succ, List.set_cons_zero]
  refine wpAnyH_ready (rs := [1]) (by kernel_rfl) (by simp) ?_
  refine AllReadyH.cons (o := _) rfl (fun K hK => ?_) AllReadyH.nil
  rw [if_pos (by rfl)]
  go_simp
  refine Calls.mono (HC.out _) ?_
  rintro e Y ⟨rfl, hb8⟩
  refine hK.out _ _ (⟨hS.1.below hb8 hS.1.lt, (by obtain ⟨c0, c1, hc⟩ := hS.2.1; exact ⟨c0, c1, hc.below hb8 hc.lt⟩), hS.2.2.trans (hb8.mono hS.2.2.size)⟩) (fun hS1 => ?_)
  clear hK hS K
  have hS := hS1
  clear hS1
  refine wpAnyH_ready (rs := [5]) (by kernel_rfl) (by simp) ?_
  refine AllReadyH.cons (o := _) rfl (fun K hK => ?_) AllReadyH.nil
  rw [if_pos (by rfl)]
  go_simp
  refine Calls.mono (HF.out _) ?_
  rintro e Y ⟨rfl, hb8⟩
  refine hK.out _ _ (⟨hS.1.below hb8 hS.1.lt, (by obtain ⟨c0, c1, hc⟩ := hS.2.1; exact ⟨c0, c1, hc.below hb8 hc.lt⟩), hS.2.2.trans (hb8.mono hS.2.2.size)⟩) (fun hS1 => ?_)
  clear hK hS K
  have hS := hS1
  clear hS1
  refine vtake 7 4 (.float .f64 x) rfl rfl (by kernel_rfl) (by kernel_rfl) (by kernel_rfl) (fun _ _ _ _ h => h) (by rfl) (fun W hW => by clear hS hW; go_simp) hS ?_
  simp only [List.setIfInBounds_toArray, List.set_cons_succ, List.set_cons_zero]
  obtain ⟨c0, c1, hc⟩ := hS.2.1
  refine wpAnyH_ready (rs := [8]) (by kernel_rfl) (by simp) ?_
  refine AllReadyH.cons (o := _) rfl (fun K hK => ?_) AllReadyH.nil
  rw [if_pos (by rfl)]
  refine wp_store_row 25 _ _ rfl (w.heap.size + 1) #[.int .i64 0, .int .i64 0] rfl rfl 25 _ hc v_info_fault rfl (two_one _ _) ?_
  refine hK.out _ _ ⟨hS.1.rowOther _ _ (by omega), ⟨_, _, hc.row _⟩, Below.setRow hS.2.2 _ (by omega) _⟩ (fun hS1 => ?_)
  have hc2 := hc.row #[.int .i64 0, .int .i64 0]
  have q0 := hc2.cell (i := 0) rfl
  have q1 := hc2.cell (i := 1) rfl
  clear hK hS K
  refine wpAnyH_done (by kernel_rfl) ?_ _
  refine NoPanic.normal ?_
  go_wp2
  exact bodyPost_ret (v := .tuple #[.float .f64 x, .agg #[.int .i64 0, .int .i64 0]]) (by simp [results, Try.results13, go_sem, q0, q1]) rfl ⟨rfl, hS1.2.2⟩
theorem tchi_any (t : ByteArray) (F : Nat → Nat) (w : World) : Calls Try.prog 13 #[.string t, .agg (flts F)] w fun e w' => e = .returned (.tuple #[.float .f64 (chiS t.data.toList F), .agg #[.int .i64 (wgE t.data.toList F), .int .i64 (wgAt t.data.toList)]]) ∧ Below w.heap.size w w' := by
  unfold chiS
  have hl := Pl.size_len t
  rcases wg_cases t.data.toList F with ⟨e1, e2, e3, e4, e5, e6⟩ | e1
  · rw [if_neg (fun h => h e1), e1, e2, ← hl]
    refine tchi_ok t F (fun c => (cnt t.data.toList c : Nat)) _ (fun W => by have := tuw_any t F W; rw [e1, e2] at this; exact this) (fun W => ?_) (fun W => ?_) w
    · have := tcn_any t e3 (by omega) 0 1 (by decide) (by decide) W
      rw [col_one] at this
      exact this
    · exact tfa_any (cnt t.data.toList) t.size (by omega) (by omega) (fun c _ => Nat.le_trans (cnt_le _ _) e5) F e6 0 (by decide) W
  · rw [if_pos (by simpa using e1)]
    exact tchi_bad t F _ _ e1 (fun W => tuw_any t F W) w
end Go.Proofs.Yteomoeaoboaclae
