/-
  TeleWrites: the walk.
-/
import Derived.Test.YtbcjblakknfhmaaTeC
namespace Go.Proofs.Ytbcjblakknfhmaa
open Go.RowKit PK Tl

set_option maxRecDepth 100000 in
set_option maxHeartbeats 8000000 in
theorem telewrites_of (v : Value) (T : Te) (n : Int) (vt : Value) (m : Nat) (f : Nat → Int) (w : World) (hd : TeAt w v T) (ht : NumsAt w vt m f) : Calls Try.prog 3 #[v, .int .i64 n, vt] w fun e w' => e = .returned (.bool true) ∧ Below w.heap.size w w' := by
  have H1 := (show Hid (∀ W, Below w.heap.size w W → Calls Try.prog 8 #[v] W fun e w' => e = .returned (.int .i64 (teE T)) ∧ Below W.heap.size W w') from fun W hb => tele_twr v T W (hd.below hb))
  have H1r := (show Hid (∀ W, Below w.heap.size w W → Calls Try.prog 9 #[v] W fun e w' => e = .returned (.int .i64 (teE T)) ∧ Below W.heap.size W w') from fun W hb => ref_twr v T W (hd.below hb))
  have H2 := (show Hid (∀ W, Below w.heap.size w W → Calls Try.prog 10 #[v, .int .i64 n] W fun e w' => ∃ v', e = .returned (.tuple #[v', .int .i64 (kyE T n)]) ∧ NumsAt w' v' (rl (kyE T n) n.toNat) (fun i => ((keyN T i : Nat) : Int)) ∧ Below W.heap.size W w') from fun W hb => tele_tky v T n W (hd.below hb))
  have H2r := (show Hid (∀ W, Below w.heap.size w W → Calls Try.prog 11 #[v, .int .i64 n] W fun e w' => ∃ v', e = .returned (.tuple #[v', .int .i64 (kyE T n)]) ∧ NumsAt w' v' (rl (kyE T n) n.toNat) (fun i => ((keyN T i : Nat) : Int)) ∧ Below W.heap.size W w') from fun W hb => ref_tky v T n W (hd.below hb))
  have H3 := (show Hid (∀ W, Below w.heap.size w W → Calls Try.prog 13 #[v, vt] W fun e w' => ∃ v', e = .returned (.tuple #[v', .int .i64 (twE T m f)]) ∧ NumsAt w' v' (rl (twE T m f) m) (wrN T f) ∧ Below W.heap.size W w') from fun W hb => tele_twt v vt T m f W (hd.below hb) (ht.below hb))
  have H3r := (show Hid (∀ W, Below w.heap.size w W → Calls Try.prog 14 #[v, vt] W fun e w' => ∃ v', e = .returned (.tuple #[v', .int .i64 (twE T m f)]) ∧ NumsAt w' v' (rl (twE T m f) m) (wrN T f) ∧ Below W.heap.size W w') from fun W hb => ref_twt v vt T m f W (hd.below hb) (ht.below hb))
  have H4 := (show Hid (∀ W, Below w.heap.size w W → Calls Try.prog 15 #[vt] W fun e w' => ∃ v', e = .returned (.tuple #[v', .int .i64 (faE m f)]) ∧ NumsAt w' v' (rl (faE m f) (m - 1)) (dlN f) ∧ Below W.heap.size W w') from fun W hb => tele_tde vt m f W (ht.below hb))
  have H4r := (show Hid (∀ W, Below w.heap.size w W → Calls Try.prog 16 #[vt] W fun e w' => ∃ v', e = .returned (.tuple #[v', .int .i64 (faE m f)]) ∧ NumsAt w' v' (rl (faE m f) (m - 1)) (dlN f) ∧ Below W.heap.size W w') from fun W hb => ref_tde vt m f W (ht.below hb))
  have HSM := (show Hid (∀ u v N g W, NumsAt W u N g → NumsAt W v N g → Calls Try.prog 12 #[u, v] W fun e w' => e = .returned (.bool true) ∧ Below W.heap.size W w') from fun u v N g W h1 h2 => by have := rsm_any u v N N g g W h1 h2; rw [smB_self] at this; exact this)
  obtain ⟨R, rfl, _⟩ := hd
  obtain ⟨at', ct, rfl, _⟩ := ht
  generalize teE T = E1 at *
  generalize rl (kyE T n) n.toNat = N2 at *
  generalize kyE T n = E2 at *
  generalize rl (twE T m f) m = N3 at *
  generalize twE T m f = E3 at *
  generalize rl (faE m f) (m - 1) = N4 at *
  generalize faE m f = E4 at *
  generalize (fun i => ((keyN T i : Nat) : Int)) = G2 at *
  generalize wrN T f = G3 at *
  generalize dlN f = G4 at *
  have h0 := TgAt.new w R T.pl
  go_enter Try.func3, Try.ntmps3
  go_upto_region 1 with fail
  generalize w.alloc (.cells (teA R T.pl) 27) = W0 at *
  have hS0 := h0.drew
  clear h0
  refine wp_region_noPanic ?_
  refine wp_region_held_drew (S := fun W => TgAt w W R T.pl) (by kernel_rfl) hS0 (fun hS => ?_)
  obtain ⟨U, hU⟩ : ∃ x, x = W0.drew := ⟨_, rfl⟩
  rw [← hU] at hS ⊢
  clear hU hS0
  refine vtake 0 11 (.agg (teA R T.pl)) rfl rfl (by kernel_rfl) (by kernel_rfl) (by kernel_rfl) (fun _ _ _ _ h => h) (by rfl) (fun W hW => by have u := run_loadVar_row (P := Try.prog) W w.heap.size 27 27 (teA R T.pl) (0, 0) _ hW.row Try.underlying27 rfl (by rw [teA_size]; exact t_info_tele); clear hS hW; simp [execOp, Act.eval, Instr.loadAt, Instr.sureAddr, u]) hS ?_
  simp only [List.setIfInBounds_toArray, List.set_cons_succ, List.set_cons_zero]
  refine vtake 2 13 (.agg (teA R T.pl)) rfl rfl (by kernel_rfl) (by kernel_rfl) (by kernel_rfl) (fun _ _ _ _ h => h) (by rfl) (fun W hW => by have u := run_loadVar_row (P := Try.prog) W w.heap.size 27 27 (teA R T.pl) (0, 0) _ hW.row Try.underlying27 rfl (by rw [teA_size]; exact t_info_tele); clear hS hW; simp [execOp, Act.eval, Instr.loadAt, Instr.sureAddr, u]) hS ?_
  simp only [List.setIfInBounds_toArray, List.set_cons_succ, List.set_cons_zero]
  refine wpAnyH_ready (rs := [1]) (by kernel_rfl) (by simp) ?_
  refine AllReadyH.cons (o := _) rfl (fun K hK => ?_) AllReadyH.nil
  rw [if_pos (by rfl)]
  go_simp
  refine Calls.mono (H1.out _ hS.below) ?_
  rintro e Y ⟨rfl, hb8⟩
  refine hK.out _ _ (hS.step hb8) (fun hS1 => ?_)
  clear hK hS K
  have hS := hS1
  clear hS1
  refine wpAnyH_ready (rs := [3]) (by kernel_rfl) (by simp) ?_
  refine AllReadyH.cons (o := _) rfl (fun K hK => ?_) AllReadyH.nil
  rw [if_pos (by rfl)]
  go_simp
  refine Calls.mono (H1r.out _ hS.below) ?_
  rintro e Y ⟨rfl, hb8⟩
  refine hK.out _ _ (hS.step hb8) (fun hS1 => ?_)
  clear hK hS K
  have hS := hS1
  clear hS1
  refine vtake 4 15 (.bool false) rfl rfl (by kernel_rfl) (by kernel_rfl) (by kernel_rfl) (fun _ _ _ _ h => h) (by rfl) (fun W hW => by clear hS hW; go_simp) hS ?_
  simp only [List.setIfInBounds_toArray, List.set_cons_succ, List.set_cons_zero]
  refine wpAnyH_done (by kernel_rfl) ?_ _
  refine NoPanic.normal ?_
  have h1 := hS
  clear hS H1 H1r
  go_wp2_with (first | refine wpList_load_row rfl 27 _ rfl w.heap.size rfl 27 (teA R T.pl) (0, 0) _ h1.row Try.underlying27 rfl (by rw [teA_size]; exact t_info_tele) ?_)
  refine (H2.out _ h1.below).mono ?_
  rintro e W2 ⟨a2, rfl, hna2, hb⟩
  have h2 := h1.step hb
  clear hb h1 H2
  go_wp2_with (first | refine wpList_load_row rfl 27 _ rfl w.heap.size rfl 27 (teA R T.pl) (0, 0) _ h2.row Try.underlying27 rfl (by rw [teA_size]; exact t_info_tele) ?_)
  refine (H2r.out _ h2.below).mono ?_
  rintro e W3 ⟨b2, rfl, hnb2, hb⟩
  have h3 := h2.step hb
  have hx := hna2.below hb
  clear hna2
  have hna2 := hx
  clear hx
  clear hb h2 H2r
  go_wp2_with fail
  refine (HSM.out a2 b2 _ _ _ hna2 hnb2).mono ?_
  rintro e W4 ⟨rfl, hb⟩
  have h4 := h3.step hb
  clear hb h3 hna2 hnb2
  go_wp2_with (first | refine wpList_load_row rfl 27 _ rfl w.heap.size rfl 27 (teA R T.pl) (0, 0) _ h4.row Try.underlying27 rfl (by rw [teA_size]; exact t_info_tele) ?_)
  refine (H3.out _ h4.below).mono ?_
  rintro e W5 ⟨a3, rfl, hna3, hb⟩
  have h5 := h4.step hb
  clear hb h4 H3
  go_wp2_with (first | refine wpList_load_row rfl 27 _ rfl w.heap.size rfl 27 (teA R T.pl) (0, 0) _ h5.row Try.underlying27 rfl (by rw [teA_size]; exact t_info_tele) ?_)
  refine (H3r.out _ h5.below).mono ?_
  rintro e W6 ⟨b3, rfl, hnb3, hb⟩
  have h6 := h5.step hb
  have hx := hna3.below hb
  clear hna3
  have hna3 := hx
  clear hx
  clear hb h5 H3r
  go_wp2_with fail
  refine (HSM.out a3 b3 _ _ _ hna3 hnb3).mono ?_
  rintro e W7 ⟨rfl, hb⟩
  have h7 := h6.step hb
  clear hb h6 hna3 hnb3
  go_wp2_with (first | refine wpList_load_row rfl 27 _ rfl w.heap.size rfl 27 (teA R T.pl) (0, 0) _ h7.row Try.underlying27 rfl (by rw [teA_size]; exact t_info_tele) ?_)
  refine (H4.out _ h7.below).mono ?_
  rintro e W8 ⟨a4, rfl, hna4, hb⟩
  have h8 := h7.step hb
  clear hb h7 H4
  go_wp2_with (first | refine wpList_load_row rfl 27 _ rfl w.heap.size rfl 27 (teA R T.pl) (0, 0) _ h8.row Try.underlying27 rfl (by rw [teA_size]; exact t_info_tele) ?_)
  refine (H4r.out _ h8.below).mono ?_
  rintro e W9 ⟨b4, rfl, hnb4, hb⟩
  have h9 := h8.step hb
  have hx := hna4.below hb
  clear hna4
  have hna4 := hx
  clear hx
  clear hb h8 H4r
  go_wp2_with fail
  refine (HSM.out a4 b4 _ _ _ hna4 hnb4).mono ?_
  rintro e W10 ⟨rfl, hb⟩
  have HBE := (show Hid _ from (h9.step hb).below)
  clear hb h9 hna4 hnb4 HSM
  go_wp2
  go_ret
  exact ⟨by first | rfl | simp, HBE.out⟩
end Go.Proofs.Ytbcjblakknfhmaa
