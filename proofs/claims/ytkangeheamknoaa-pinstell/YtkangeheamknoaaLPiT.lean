/-
  PinsTell, for any Wrong, Stream, Write and Cycle that say what the document's say.
-/
import Derived.Test.YtkangeheamknoaaPiC
namespace Go.Proofs.Ytkangeheamknoaa
open Go.RowKit PK Dm

theorem smB_self (n : Nat) (f : Nat → Int) : smB n n f f = true := smB_iff.2 ⟨rfl, fun _ _ => rfl⟩
set_option maxRecDepth 100000 in
set_option maxHeartbeats 8000000 in
theorem pinstell_of (P1 : PDWr 6) (P2 : PDSt 8) (P3 : PDWt 11) (P4 : PDCy 13) (v : Value) (D : Dr) (n : Int) (t : ByteArray) (w : World) (hd : DrAt w v D) : Calls Try.prog 3 #[v, .int .i64 n, .string t] w fun e w' => e = .returned (.bool true) ∧ Below w.heap.size w w' := by
  have H1 := (show Hid (∀ W, Below w.heap.size w W → Calls Try.prog 6 #[v] W fun e w' => e = .returned (.int .i64 (dE D)) ∧ Below W.heap.size W w') from fun W hb => P1 v D W (hd.below hb))
  have H1r := (show Hid (∀ W, Below w.heap.size w W → Calls Try.prog 7 #[v] W fun e w' => e = .returned (.int .i64 (dE D)) ∧ Below W.heap.size W w') from fun W hb => ref_dwr v D W (hd.below hb))
  have H2 := (show Hid (∀ W, Below w.heap.size w W → Calls Try.prog 8 #[v, .int .i64 n] W fun e w' => ∃ v', e = .returned (.tuple #[v', .int .i64 (stE D n)]) ∧ NumsAt w' v' (stN D n) (fun i => (pushed D i : Nat)) ∧ Below W.heap.size W w') from fun W hb => P2 v D n W (hd.below hb))
  have H2r := (show Hid (∀ W, Below w.heap.size w W → Calls Try.prog 9 #[v, .int .i64 n] W fun e w' => ∃ v', e = .returned (.tuple #[v', .int .i64 (stE D n)]) ∧ NumsAt w' v' (stN D n) (fun i => (pushed D i : Nat)) ∧ Below W.heap.size W w') from fun W hb => ref_dst v D n W (hd.below hb))
  have H3 := (show Hid (∀ W, Below w.heap.size w W → Calls Try.prog 11 #[v, .string t] W fun e w' => e = .returned (.tuple #[.string ⟨(dwS D t.data.toList).toArray⟩, .agg #[.int .i64 (dwE D t.data.toList), .int .i64 (dwAt D t.data.toList)]]) ∧ Below W.heap.size W w') from fun W hb => P3 v D t W (hd.below hb))
  have H3r := (show Hid (∀ W, Below w.heap.size w W → Calls Try.prog 12 #[v, .string t] W fun e w' => e = .returned (.tuple #[.string ⟨(dwS D t.data.toList).toArray⟩, .agg #[.int .i64 (dwE D t.data.toList), .int .i64 (dwAt D t.data.toList)]]) ∧ Below W.heap.size W w') from fun W hb => ref_dwt v D t W (hd.below hb))
  have H4 := (show Hid (∀ W, Below w.heap.size w W → Calls Try.prog 13 #[v] W fun e w' => e = .returned (.tuple #[.int .i64 (cyN D : Nat), .int .i64 (cyE D)]) ∧ Below W.heap.size W w') from fun W hb => P4 v D W (hd.below hb))
  have H4r := (show Hid (∀ W, Below w.heap.size w W → Calls Try.prog 14 #[v] W fun e w' => e = .returned (.tuple #[.int .i64 (cyN D : Nat), .int .i64 (cyE D)]) ∧ Below W.heap.size W w') from fun W hb => ref_dcy v D W (hd.below hb))
  obtain ⟨a, b, rfl, _, _⟩ := hd
  generalize dE D = E1 at *
  generalize stE D n = E2 at *
  generalize stN D n = N2 at *
  generalize dwE D t.data.toList = E3 at *
  generalize dwAt D t.data.toList = A3 at *
  generalize (⟨(dwS D t.data.toList).toArray⟩ : ByteArray) = S3 at *
  generalize cyE D = E4 at *
  generalize cyN D = N4 at *
  have HSM := (show Hid (∀ u v W, NumsAt W u N2 (fun i => (pushed D i : Nat)) → NumsAt W v N2 (fun i => (pushed D i : Nat)) → Calls Try.prog 10 #[u, v] W fun e w' => e = .returned (.bool true) ∧ Below W.heap.size W w') from fun u v W h1 h2 => by have := rsm_any u v N2 N2 _ _ W h1 h2; rw [smB_self] at this; exact this)
  have h0 := DgAt.new w a b
  have hSS : (S3.toList == S3.toList) = true := by simp
  clear P1 P2 P3 P4
  go_enter Try.func3, Try.ntmps3
  go_upto_region 1 with fail
  generalize w.alloc (.cells #[a, b] 25) = W0 at *
  have hS0 := h0.drew
  clear h0
  refine wp_region_noPanic ?_
  refine wp_region_held_drew (S := fun W => DgAt w W a b) (by kernel_rfl) hS0 (fun hS => ?_)
  obtain ⟨U, hU⟩ : ∃ x, x = W0.drew := ⟨_, rfl⟩
  rw [← hU] at hS ⊢
  clear hU hS0
  refine vtake 0 17 (.agg #[a, b]) rfl rfl (by kernel_rfl) (by kernel_rfl) (by kernel_rfl) (fun _ _ _ _ h => h) (by rfl) (fun W hW => by have u := run_loadVar_row (P := Try.prog) W w.heap.size 25 25 #[a, b] (0, 0) _ hW.row Try.underlying25 rfl v_info_drum; clear hS hW; simp [execOp, Act.eval, Instr.loadAt, Instr.sureAddr, u]) hS ?_
  simp only [List.setIfInBounds_toArray, List.set_cons_succ, List.set_cons_zero]
  refine vtake 2 19 (.agg #[a, b]) rfl rfl (by kernel_rfl) (by kernel_rfl) (by kernel_rfl) (fun _ _ _ _ h => h) (by rfl) (fun W hW => by have u := run_loadVar_row (P := Try.prog) W w.heap.size 25 25 #[a, b] (0, 0) _ hW.row Try.underlying25 rfl v_info_drum; clear hS hW; simp [execOp, Act.eval, Instr.loadAt, Instr.sureAddr, u]) hS ?_
  simp only [List.setIfInBounds_toArray, List.set_cons_succ, List.set_cons_zero]
  refine wpAnyH_ready (rs := [1]) (by kernel_rfl) (by simp) ?_
  refine AllReadyH.cons (o := _) rfl (fun K hK => ?_) AllReadyH.nil
  rw [if_pos (by rfl)]
  go_simp
  refine Calls.mono (H1.out _ hS.below) ?_
  rintro e Y ⟨rfl, hb8⟩
  refine hK.out _ _ (hS.step hb8) (fun hS1 => ?_)
  clear hK hS K
  have hS := hS1
  clear hS1
  refine wpAnyH_ready (rs := [3]) (by kernel_rfl) (by simp) ?_
  refine AllReadyH.cons (o := _) rfl (fun K hK => ?_) AllReadyH.nil
  rw [if_pos (by rfl)]
  go_simp
  refine Calls.mono (H1r.out _ hS.below) ?_
  rintro e Y ⟨rfl, hb8⟩
  refine hK.out _ _ (hS.step hb8) (fun hS1 => ?_)
  clear hK hS K
  have hS := hS1
  clear hS1
  refine vtake 4 21 (.bool false) rfl rfl (by kernel_rfl) (by kernel_rfl) (by kernel_rfl) (fun _ _ _ _ h => h) (by rfl) (fun W hW => by clear hS hW; go_simp) hS ?_
  simp only [List.setIfInBounds_toArray, List.set_cons_succ, List.set_cons_zero]
  refine wpAnyH_done (by kernel_rfl) ?_ _
  refine NoPanic.normal ?_
  have h1 := hS
  clear hS H1 H1r
  go_wp2_with (first | refine wpList_load_row rfl 25 _ rfl w.heap.size rfl 25 #[a, b] (0, 0) _ h1.row Try.underlying25 rfl v_info_drum ?_)
  refine (H2.out _ h1.below).mono ?_
  rintro e W2 ⟨v2, rfl, hn2, hb⟩
  have h2 := h1.step hb
  clear hb h1 H2
  go_wp2_with (first | refine wpList_load_row rfl 25 _ rfl w.heap.size rfl 25 #[a, b] (0, 0) _ h2.row Try.underlying25 rfl v_info_drum ?_)
  refine (H2r.out _ h2.below).mono ?_
  rintro e W3 ⟨v3, rfl, hn3, hb⟩
  have h3 := h2.step hb
  have hn2' := hn2.below hb
  clear hb h2 H2r hn2
  go_wp2_with fail
  refine (HSM.out v2 v3 _ hn2' hn3).mono ?_
  rintro e W4 ⟨rfl, hb⟩
  have h4 := h3.step hb
  clear hb h3 HSM hn2' hn3
  go_wp2_with (first | refine wpList_load_row rfl 25 _ rfl w.heap.size rfl 25 #[a, b] (0, 0) _ h4.row Try.underlying25 rfl v_info_drum ?_)
  refine (H3.out _ h4.below).mono ?_
  rintro e W5 ⟨rfl, hb⟩
  have h5 := (h4.step hb).alloc (.cells #[.int .i64 E3, .int .i64 A3] 33)
  have hf5 := RowAt.new W5 33 #[.int .i64 E3, .int .i64 A3]
  clear hb h4 H3
  go_upto_region 8 with fail
  generalize W5.alloc (.cells #[.int .i64 E3, .int .i64 A3] 33) = V5 at *
  obtain ⟨q1, hq⟩ : ∃ q1, q1 = W5.heap.size := ⟨_, rfl⟩
  rw [← hq] at hf5 ⊢
  clear hq
  go_wp2_with (first | refine wpList_load_row rfl 25 _ rfl w.heap.size rfl 25 #[a, b] (0, 0) _ h5.row Try.underlying25 rfl v_info_drum ?_)
  refine (H3r.out _ h5.below).mono ?_
  rintro e W6 ⟨rfl, hb⟩
  have h6 := (h5.step hb).alloc (.cells #[.int .i64 E3, .int .i64 A3] 33)
  have hf6 := (hf5.below hb hf5.lt).alloc (.cells #[.int .i64 E3, .int .i64 A3] 33)
  have hg6 := RowAt.new W6 33 #[.int .i64 E3, .int .i64 A3]
  clear hb h5 hf5 H3r
  go_upto_region 9 with fail
  generalize W6.alloc (.cells #[.int .i64 E3, .int .i64 A3] 33) = V6 at *
  obtain ⟨q2, hq⟩ : ∃ q2, q2 = W6.heap.size := ⟨_, rfl⟩
  rw [← hq] at hg6 ⊢
  clear hq
  have a0 := hf6.cell (i := 0) rfl
  have a1 := hf6.cell (i := 1) rfl
  have b0 := hg6.cell (i := 0) rfl
  have b1 := hg6.cell (i := 1) rfl
  clear hf6 hg6
  go_wp2_with (first | refine wpList_load_row rfl 25 _ rfl w.heap.size rfl 25 #[a, b] (0, 0) _ h6.row Try.underlying25 rfl v_info_drum ?_)
  refine (H4.out _ h6.below).mono ?_
  rintro e W7 ⟨rfl, hb⟩
  have h7 := h6.step hb
  clear hb h6 H4 a0 a1 b0 b1
  go_wp2_with (first | refine wpList_load_row rfl 25 _ rfl w.heap.size rfl 25 #[a, b] (0, 0) _ h7.row Try.underlying25 rfl v_info_drum ?_)
  refine (H4r.out _ h7.below).mono ?_
  rintro e W8 ⟨rfl, hb⟩
  have HBE := (show Hid _ from (h7.step hb).below)
  clear hb h7 H4r
  go_wp2
  go_ret
  exact ⟨by simp, HBE.out⟩
end Go.Proofs.Ytkangeheamknoaa
