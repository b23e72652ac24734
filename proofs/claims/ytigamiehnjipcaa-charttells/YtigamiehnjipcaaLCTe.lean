/-
  ChartTells, over the contracts of chart's functions and the document's.
-/
import Derived.Test.YtigamiehnjipcaaChRTy
import Derived.Test.YtigamiehnjipcaaChRSg
import Derived.Test.YtigamiehnjipcaaChRDo
import Derived.Test.YtigamiehnjipcaaChSa
import Derived.Test.YtigamiehnjipcaaJn7
import Derived.Test.YtigamiehnjipcaaJn6
namespace Go.Proofs.Ytigamiehnjipcaa
open Go.RowKit PK Vg

theorem run_slice_sl3' (b : Nat) (W : World) : (Instr.sliceAt 33 (.pointer (some ⟨b, 0, none⟩)) none none none).run Try.prog W = .ok (.slice (some ⟨b, 0, none⟩) 3 3) W := by
  simp [Instr.sliceAt, Sem.run_bind, go_sem, run_underlying Try.underlying33]
/-- Three lists of numbers. -/
def N3 (W : World) (V : Nat → Value) (n : Nat → Nat) (f : Nat → Nat → Int) : Prop := ∀ i, i < 3 → NumsAt W (V i) (n i) (f i)
theorem N3.below {w W : World} {V : Nat → Value} {n : Nat → Nat} {f : Nat → Nat → Int} (h : N3 w V n f) (hb : Below w.heap.size w W) : N3 W V n f := fun i hi => (h i hi).below hb
theorem lists3 {W : World} {q : Nat} {V : Nat → Value} {n : Nat → Nat} {f : Nat → Nat → Int} (h : RowAt W q 33 (sl3 3 V)) (ht : N3 W V n f) : ListsAt W (.slice (some ⟨q, 0, none⟩) 3 3) 3 V n f := by
  refine ⟨q, 0, 3, rfl, fun i hi => ⟨?_, ht i hi⟩⟩
  have := h.cell (sl3_get 3 V hi)
  rw [if_pos hi] at this
  rw [Nat.zero_add]
  exact this
structure TlS (w W : World) (a b c : Value) (rf pl : Nat → Int) (q7 q9 : Nat) (P : Nat → Nat → Nat) : Prop where
  mg : MgAt w W a b c rf pl
  r7 : RowAt W q7 29 (ints 78 (flat P))
  r9 : RowAt W q9 29 (ints 78 (flat P))
  l7 : w.heap.size < q7
  l9 : q7 < q9
structure TmS (w W : World) (a b c : Value) (rf pl : Nat → Int) (q7 q9 : Nat) (P : Nat → Nat → Nat) (q11 q12 : Nat) (V V2 : Nat → Value) (n : Nat → Nat) (f : Nat → Nat → Int) : Prop where
  tl : TlS w W a b c rf pl q7 q9 P
  r11 : RowAt W q11 33 (sl3 3 V)
  r12 : RowAt W q12 33 (sl3 3 V2)
  n1 : N3 W V n f
  n2 : N3 W V2 n f
section
variable {w W W' : World} {a b c : Value} {rf pl : Nat → Int} {q7 q9 q11 q12 : Nat} {P : Nat → Nat → Nat} {V V2 : Nat → Value} {n : Nat → Nat} {f : Nat → Nat → Int}
theorem TlS.step (h : TlS w W a b c rf pl q7 q9 P) (hb : Below W.heap.size W W') : TlS w W' a b c rf pl q7 q9 P := ⟨h.mg.step hb, h.r7.below hb h.r7.lt, h.r9.below hb h.r9.lt, h.l7, h.l9⟩
theorem TlS.alloc (h : TlS w W a b c rf pl q7 q9 P) (o : Obj) : TlS w (W.alloc o) a b c rf pl q7 q9 P := h.step ((Below.refl _ _).alloc (Nat.le_refl _) o)
theorem TlS.drew (h : TlS w W a b c rf pl q7 q9 P) : TlS w W.drew a b c rf pl q7 q9 P := ⟨h.mg.drew, h.r7, h.r9, h.l7, h.l9⟩
theorem TmS.step (h : TmS w W a b c rf pl q7 q9 P q11 q12 V V2 n f) (hb : Below W.heap.size W W') : TmS w W' a b c rf pl q7 q9 P q11 q12 V V2 n f := ⟨h.tl.step hb, h.r11.below hb h.r11.lt, h.r12.below hb h.r12.lt, h.n1.below hb, h.n2.below hb⟩
theorem TmS.drew (h : TmS w W a b c rf pl q7 q9 P q11 q12 V V2 n f) : TmS w W.drew a b c rf pl q7 q9 P q11 q12 V V2 n f := ⟨h.tl.drew, h.r11, h.r12, h.n1, h.n2⟩
end
set_option maxRecDepth 100000 in
set_option maxHeartbeats 4000000 in
theorem tells_run (a b c : Value) (rf pl : Nat → Int) (t S : ByteArray) (av : Option Addr) (nv cv : Nat) (P Q : Nat → Nat → Nat) (E E5 A5 E7 : Int) (n : Nat → Nat) (f : Nat → Nat → Int) (w : World)
    (H1 : Hid (∀ W, Below w.heap.size w W → Calls Try.prog 7 #[.agg (mac a b c rf pl)] W fun e w' => e = .returned (.tuple #[.agg (ints 78 (flat P)), .int .i64 E]) ∧ Below W.heap.size W w'))
    (H2 : Hid (∀ W, Below w.heap.size w W → Calls Try.prog 8 #[.agg (mac a b c rf pl)] W fun e w' => e = .returned (.tuple #[.agg (ints 78 (flat P)), .int .i64 E]) ∧ Below W.heap.size W w'))
    (H3 : Hid (∀ W, Below w.heap.size w W → Calls Try.prog 9 #[.agg (mac a b c rf pl)] W fun e w' => ∃ V, e = .returned (.tuple #[.agg (sl3 3 V), .int .i64 E]) ∧ N3 w' V n f ∧ Below W.heap.size W w'))
    (H4 : Hid (∀ W, Below w.heap.size w W → Calls Try.prog 10 #[.agg (mac a b c rf pl)] W fun e w' => ∃ V, e = .returned (.tuple #[.agg (sl3 3 V), .int .i64 E]) ∧ N3 w' V n f ∧ Below W.heap.size W w'))
    (H5 : Hid (∀ W, Below w.heap.size w W → Calls Try.prog 12 #[.agg (mac a b c rf pl), .string t] W fun e w' => e = .returned (.tuple #[.string S, .agg #[.int .i64 E5, .int .i64 A5]]) ∧ Below W.heap.size W w'))
    (H6 : Hid (∀ W, Below w.heap.size w W → Calls Try.prog 13 #[.agg (mac a b c rf pl), .string t] W fun e w' => e = .returned (.tuple #[.string S, .agg #[.int .i64 E5, .int .i64 A5]]) ∧ Below W.heap.size W w'))
    (H7 : Hid (∀ W, Below w.heap.size w W → Calls Try.prog 14 #[.slice av nv cv] W fun e w' => e = .returned (.tuple #[.agg (ints 78 (flat Q)), .int .i64 E7]) ∧ Below W.heap.size W w'))
    (H8 : Hid (∀ W, Below w.heap.size w W → Calls Try.prog 15 #[.slice av nv cv] W fun e w' => e = .returned (.tuple #[.agg (ints 78 (flat Q)), .int .i64 E7]) ∧ Below W.heap.size W w')) :
    Calls Try.prog 3 #[.agg (mac a b c rf pl), .string t, .slice av nv cv] w fun e w' => e = .returned (.bool true) ∧ Below w.heap.size w w' := by
  have h0 := MgAt.new w a b c rf pl
  have hz78 := o_zero v_zero_three
  have hz3 := o_zero v_zero_sl3
  go_enter Try.func3, Try.ntmps3
  go_wp2_with (first | refine wpList_load_row rfl 27 _ rfl w.heap.size rfl 27 (mac a b c rf pl) (0, 0) _ h0.row Try.underlying27 rfl (by rw [mac_size]; exact v_info_mac) ?_)
  refine (H1.out _ h0.below).mono ?_
  rintro e W1 ⟨rfl, hb⟩
  have h1 := h0.step hb
  clear hb h0 H1
  go_upto_region 2 with (first | refine wpList_store_row rfl 29 _ _ rfl W1.heap.size (ints 78 (flat P)) rfl rfl 29 _ (RowAt.new W1 _ _) (by rw [ints_size]; exact v_info_three) (by simp only [ints_size]) (ints_one _ _) ?_)
  have hbx := Below.setRow ((Below.refl W1.heap.size W1).alloc (Nat.le_refl _) (.cells (ints 78 fun _ => 0) 29)) W1.heap.size (Nat.le_refl _) (ints 78 (flat P))
  have h2 := h1.step hbx
  have r7 := (RowAt.new W1 29 (ints 78 fun _ => 0)).row (ints 78 (flat P))
  have l7 := h1.lt
  generalize (W1.alloc (.cells (ints 78 fun _ => 0) 29)).setRow W1.heap.size (ints 78 (flat P)) = V1 at *
  obtain ⟨q7, hq⟩ : ∃ x, x = W1.heap.size := ⟨_, rfl⟩
  rw [← hq] at r7 l7 ⊢
  clear hq hbx h1
  have hmr := h2.row
  go_wp2_with (first | refine wpList_load_row rfl 27 _ rfl w.heap.size rfl 27 (mac a b c rf pl) (0, 0) _ hmr Try.underlying27 rfl (by rw [mac_size]; exact v_info_mac) ?_)
  refine (H2.out _ h2.below).mono ?_
  rintro e W2 ⟨rfl, hb⟩
  have h3 := h2.step hb
  have r7b := r7.below hb r7.lt
  clear hb h2 H2 r7 hmr
  go_upto_region 3 with (first | refine wpList_store_row rfl 29 _ _ rfl W2.heap.size (ints 78 (flat P)) rfl rfl 29 _ (RowAt.new W2 _ _) (by rw [ints_size]; exact v_info_three) (by simp only [ints_size]) (ints_one _ _) ?_)
  have hbx := Below.setRow ((Below.refl W2.heap.size W2).alloc (Nat.le_refl _) (.cells (ints 78 fun _ => 0) 29)) W2.heap.size (Nat.le_refl _) (ints 78 (flat P))
  have g3 : TlS w ((W2.alloc (.cells (ints 78 fun _ => 0) 29)).setRow W2.heap.size (ints 78 (flat P))) a b c rf pl q7 W2.heap.size P := ⟨h3.step hbx, r7b.below hbx r7b.lt, (RowAt.new W2 _ _).row _, l7, r7b.lt⟩
  generalize (W2.alloc (.cells (ints 78 fun _ => 0) 29)).setRow W2.heap.size (ints 78 (flat P)) = V2' at *
  obtain ⟨q9, hq⟩ : ∃ x, x = W2.heap.size := ⟨_, rfl⟩
  rw [← hq] at g3 ⊢
  clear hq hbx h3 r7b l7 hz78
  have heq := run_eq_three P
  have u7 := g3.r7.range
  have u9 := g3.r9.range
  have hmr := g3.mg.row
  go_wp2_with (first | refine wpList_load_arr_w rfl 29 _ rfl q7 0 rfl (ints 78 (flat P)) _ u7 Try.underlying29 rfl (by rw [ints_size]; exact v_info_three) ?_ | refine wpList_load_arr_w rfl 29 _ rfl q9 0 rfl (ints 78 (flat P)) _ u9 Try.underlying29 rfl (by rw [ints_size]; exact v_info_three) ?_ | refine wpList_load_row rfl 27 _ rfl w.heap.size rfl 27 (mac a b c rf pl) (0, 0) _ hmr Try.underlying27 rfl (by rw [mac_size]; exact v_info_mac) ?_)
  clear heq u7 u9
  refine (H3.out _ g3.mg.below).mono ?_
  rintro e W3 ⟨V, rfl, hnv, hb⟩
  have g4 := g3.step hb
  have HV : Hid ((sl3 3 V).all (·.oneCell') = true) := sl3_one fun i hi => one_nums (hnv i hi)
  clear hb g3 H3 hmr
  go_upto_region 6 with (first | refine wpList_store_row rfl 33 _ _ rfl W3.heap.size (sl3 3 V) rfl rfl 33 _ (RowAt.new W3 _ _) (by rw [sl3_size]; exact v_info_sl3) (by simp only [sl3_size]) HV.out ?_)
  have hbx := Below.setRow ((Below.refl W3.heap.size W3).alloc (Nat.le_refl _) (.cells (sl3 0 fun _ => .slice none 0 0) 33)) W3.heap.size (Nat.le_refl _) (sl3 3 V)
  have g5 := g4.step hbx
  have n5 := hnv.below hbx
  have r5 := (RowAt.new W3 33 (sl3 0 fun _ => .slice none 0 0)).row (sl3 3 V)
  generalize (W3.alloc (.cells (sl3 0 fun _ => .slice none 0 0) 33)).setRow W3.heap.size (sl3 3 V) = V3 at *
  obtain ⟨q11, hq⟩ : ∃ x, x = W3.heap.size := ⟨_, rfl⟩
  rw [← hq] at r5 ⊢
  clear hq hbx g4 hnv
  have hmr := g5.mg.row
  go_wp2_with (first | refine wpList_load_row rfl 27 _ rfl w.heap.size rfl 27 (mac a b c rf pl) (0, 0) _ hmr Try.underlying27 rfl (by rw [mac_size]; exact v_info_mac) ?_)
  refine (H4.out _ g5.mg.below).mono ?_
  rintro e W4 ⟨V2, rfl, hnv2, hb⟩
  have g6 := g5.step hb
  have n6 := n5.below hb
  have r6 := r5.below hb r5.lt
  have HV2 : Hid ((sl3 3 V2).all (·.oneCell') = true) := sl3_one fun i hi => one_nums (hnv2 i hi)
  clear hb g5 H4 hmr n5 r5
  go_upto_region 7 with (first | refine wpList_store_row rfl 33 _ _ rfl W4.heap.size (sl3 3 V2) rfl rfl 33 _ (RowAt.new W4 _ _) (by rw [sl3_size]; exact v_info_sl3) (by simp only [sl3_size]) HV2.out ?_)
  have hbx := Below.setRow ((Below.refl W4.heap.size W4).alloc (Nat.le_refl _) (.cells (sl3 0 fun _ => .slice none 0 0) 33)) W4.heap.size (Nat.le_refl _) (sl3 3 V2)
  have g7 : TmS w ((W4.alloc (.cells (sl3 0 fun _ => .slice none 0 0) 33)).setRow W4.heap.size (sl3 3 V2)) a b c rf pl q7 q9 P q11 W4.heap.size V V2 n f := ⟨g6.step hbx, r6.below hbx r6.lt, (RowAt.new W4 _ _).row _, n6.below hbx, hnv2.below hbx⟩
  generalize (W4.alloc (.cells (sl3 0 fun _ => .slice none 0 0) 33)).setRow W4.heap.size (sl3 3 V2) = V4 at *
  obtain ⟨q12, hq⟩ : ∃ x, x = W4.heap.size := ⟨_, rfl⟩
  rw [← hq] at g7 ⊢
  clear hq hbx g6 n6 r6 hnv2 hz3
  refine wp_region_noPanic ?_
  refine wp_region_held_drew (S := fun W => TmS w W a b c rf pl q7 q9 P q11 q12 V V2 n f) (by kernel_rfl) g7.drew (fun hS => ?_)
  obtain ⟨Z, hZ⟩ : ∃ x, x = V4.drew := ⟨_, rfl⟩
  rw [← hZ] at hS ⊢
  clear hZ g7
  refine vtake 0 45 (.int .i64 E) rfl rfl (by kernel_rfl) (by kernel_rfl) (by kernel_rfl) (fun _ _ _ _ h => h) (by rfl) (fun W hW => by clear hS hW; go_simp) hS ?_
  simp only [List.setIfInBounds_toArray, List.set_cons_succ, List.set_cons_zero]
  refine vtake 1 46 (.int .i64 E) rfl rfl (by kernel_rfl) (by kernel_rfl) (by kernel_rfl) (fun _ _ _ _ h => h) (by rfl) (fun W hW => by clear hS hW; go_simp) hS ?_
  simp only [List.setIfInBounds_toArray, List.set_cons_succ, List.set_cons_zero]
  refine vtake 2 47 (.bool false) rfl rfl (by kernel_rfl) (by kernel_rfl) (by kernel_rfl) (fun _ _ _ _ h => h) (by rfl) (fun W hW => by clear hS hW; go_simp) hS ?_
  simp only [List.setIfInBounds_toArray, List.set_cons_succ, List.set_cons_zero]
  refine vtake 3 48 (.bool false) rfl rfl (by kernel_rfl) (by kernel_rfl) (by kernel_rfl) (fun _ _ _ _ h => h) (by rfl) (fun W hW => by clear hS hW; go_simp) hS ?_
  simp only [List.setIfInBounds_toArray, List.set_cons_succ, List.set_cons_zero]
  refine vtake 4 49 (.slice (some ⟨q11, 0, none⟩) 3 3) rfl rfl (by kernel_rfl) (by kernel_rfl) (by kernel_rfl) (fun _ _ _ _ h => h) (by rfl) (fun W hW => by have u := run_slice_sl3' q11 W; clear hS hW; simp [execOp, Act.eval, u]) hS ?_
  simp only [List.setIfInBounds_toArray, List.set_cons_succ, List.set_cons_zero]
  refine vtake 5 50 (.slice (some ⟨q12, 0, none⟩) 3 3) rfl rfl (by kernel_rfl) (by kernel_rfl) (by kernel_rfl) (fun _ _ _ _ h => h) (by rfl) (fun W hW => by have u := run_slice_sl3' q12 W; clear hS hW; simp [execOp, Act.eval, u]) hS ?_
  simp only [List.setIfInBounds_toArray, List.set_cons_succ, List.set_cons_zero]
  refine wpAnyH_ready (rs := [6]) (by kernel_rfl) (by simp) ?_
  refine AllReadyH.cons (o := _) rfl (fun K hK => ?_) AllReadyH.nil
  rw [if_pos (by rfl)]
  go_simp
  refine Calls.mono (samelists_ok _ _ 3 (by decide) V V2 n f _ (lists3 hS.r11 hS.n1) (lists3 hS.r12 hS.n2)) ?_
  rintro e Y ⟨rfl, hb8⟩
  refine hK.out _ _ (hS.step hb8) (fun hS1 => ?_)
  clear hK hS K
  have hS := hS1
  clear hS1
  refine vtake 7 52 (.bool false) rfl rfl (by kernel_rfl) (by kernel_rfl) (by kernel_rfl) (fun _ _ _ _ h => h) (by rfl) (fun W hW => by clear hS hW; go_simp) hS ?_
  simp only [List.setIfInBounds_toArray, List.set_cons_succ, List.set_cons_zero]
  refine vtake 8 53 (.bool false) rfl rfl (by kernel_rfl) (by kernel_rfl) (by kernel_rfl) (fun _ _ _ _ h => h) (by rfl) (fun W hW => by clear hS hW; go_simp) hS ?_
  simp only [List.setIfInBounds_toArray, List.set_cons_succ, List.set_cons_zero]
  refine wpAnyH_done (by kernel_rfl) ?_ _
  refine NoPanic.normal ?_
  have h8 := hS.tl
  clear hS HV HV2
  have hmr := h8.mg.row
  have hSS : (S.toList == S.toList) = true := by simp
  go_wp2_with (first | refine wpList_load_row rfl 27 _ rfl w.heap.size rfl 27 (mac a b c rf pl) (0, 0) _ hmr Try.underlying27 rfl (by rw [mac_size]; exact v_info_mac) ?_)
  refine (H5.out _ h8.mg.below).mono ?_
  rintro e W5 ⟨rfl, hb⟩
  have h9 := (h8.step hb).alloc (.cells #[.int .i64 E5, .int .i64 A5] 39)
  have f9 := RowAt.new W5 39 #[.int .i64 E5, .int .i64 A5]
  clear hb h8 H5 hmr
  go_upto_region 10 with fail
  generalize W5.alloc (.cells #[.int .i64 E5, .int .i64 A5] 39) = V5 at *
  obtain ⟨q14, hq⟩ : ∃ x, x = W5.heap.size := ⟨_, rfl⟩
  rw [← hq] at f9 ⊢
  clear hq
  have hmr := h9.mg.row
  go_wp2_with (first | refine wpList_load_row rfl 27 _ rfl w.heap.size rfl 27 (mac a b c rf pl) (0, 0) _ hmr Try.underlying27 rfl (by rw [mac_size]; exact v_info_mac) ?_)
  refine (H6.out _ h9.mg.below).mono ?_
  rintro e W6 ⟨rfl, hb⟩
  have h10 := (h9.step hb).alloc (.cells #[.int .i64 E5, .int .i64 A5] 39)
  have f10 := (f9.below hb f9.lt).alloc (.cells #[.int .i64 E5, .int .i64 A5] 39)
  have e10 := RowAt.new W6 39 #[.int .i64 E5, .int .i64 A5]
  clear hb h9 H6 hmr f9
  go_upto_region 11 with fail
  generalize W6.alloc (.cells #[.int .i64 E5, .int .i64 A5] 39) = V6 at *
  obtain ⟨q16, hq⟩ : ∃ x, x = W6.heap.size := ⟨_, rfl⟩
  rw [← hq] at e10 ⊢
  have a0 := f10.cell (i := 0) rfl
  have a1 := f10.cell (i := 1) rfl
  have b0 := e10.cell (i := 0) rfl
  have b1 := e10.cell (i := 1) rfl
  clear hq f10 e10
  go_wp2_with fail
  clear a0 a1 b0 b1 hSS
  refine (H7.out _ h10.mg.below).mono ?_
  rintro e W7 ⟨rfl, hb⟩
  have h11 := h10.step hb
  have r7 := h11.r7
  have r9 := h11.r9
  have l7 := h11.l7
  have l9 := h11.l9
  have hbe := h11.mg.below
  clear hb h10 H7 h11
  go_upto_region 14 with (first | refine wpList_store_row rfl 29 _ _ rfl q7 (ints 78 (flat Q)) rfl rfl 29 _ r7 (by rw [ints_size]; exact v_info_three) (by simp only [ints_size]) (ints_one _ _) ?_)
  have hbe2 := Below.setRow hbe q7 (by omega) (ints 78 (flat Q))
  have r7b := r7.row (ints 78 (flat Q))
  have r9b := r9.rowOther q7 (ints 78 (flat Q)) (by omega)
  generalize W7.setRow q7 (ints 78 (flat Q)) = V7 at *
  clear r7 r9 hbe
  go_wp2_with fail
  refine (H8.out _ hbe2).mono ?_
  rintro e W8 ⟨rfl, hb⟩
  have r7 := r7b.below hb r7b.lt
  have r9 := r9b.below hb r9b.lt
  have hbe := hbe2.trans (hb.mono hbe2.size)
  clear hb hbe2 H8 r7b r9b
  go_upto_region 15 with (first | refine wpList_store_row rfl 29 _ _ rfl q9 (ints 78 (flat Q)) rfl rfl 29 _ r9 (by rw [ints_size]; exact v_info_three) (by simp only [ints_size]) (ints_one _ _) ?_)
  have hbe2 := Below.setRow hbe q9 (by omega) (ints 78 (flat Q))
  have u7 := (r7.rowOther q9 (ints 78 (flat Q)) (by omega)).range
  have u9 := (r9.row (ints 78 (flat Q))).range
  generalize W8.setRow q9 (ints 78 (flat Q)) = V8 at *
  clear r7 r9 hbe
  have heq := run_eq_three Q
  go_wp2_with (first | refine wpList_load_arr_w rfl 29 _ rfl q7 0 rfl (ints 78 (flat Q)) _ u7 Try.underlying29 rfl (by rw [ints_size]; exact v_info_three) ?_ | refine wpList_load_arr_w rfl 29 _ rfl q9 0 rfl (ints 78 (flat Q)) _ u9 Try.underlying29 rfl (by rw [ints_size]; exact v_info_three) ?_)
  go_ret
  exact ⟨rfl, hbe2⟩
theorem zeros_flat : (ints 78 fun _ => 0) = ints 78 (flat fun _ _ => 0) := ints_ext fun _ _ => rfl
/-- ChartTells, of anything. -/
theorem charttells_of (vm : Value) (g : Gm) (t : ByteArray) (vl : Value) (nl : Nat) (T : Nat → ByteArray) (w : World) (hm : MacAt w vm g) (hl : StrsAt w vl nl T) : Calls Try.prog 3 #[vm, .string t, vl] w fun e w' => e = .returned (.bool true) ∧ Below w.heap.size w w' := by
  have C1 := fun W (hb : Below w.heap.size w W) => chart_any vm g W (hm.below hb)
  have C2 := fun W (hb : Below w.heap.size w W) => rchart_any vm g W (hm.below hb)
  have C3 := fun W (hb : Below w.heap.size w W) => types_any vm g W (hm.below hb)
  have C4 := fun W (hb : Below w.heap.size w W) => rtypes_any vm g W (hm.below hb)
  have C5 := fun W (hb : Below w.heap.size w W) => double_any vm g t W (hm.below hb)
  have C6 := fun W (hb : Below w.heap.size w W) => rdouble_any vm g t W (hm.below hb)
  have C7 := fun W (hb : Below w.heap.size w W) => signals_any vl nl T W (hl.below hb)
  have C8 := fun W (hb : Below w.heap.size w W) => rsignals_any vl nl T W (hl.below hb)
  obtain ⟨a, b, c, rfl, _⟩ := hm
  obtain ⟨av, cv, rfl, _⟩ := hl
  obtain ⟨P, hP⟩ : ∃ P, chA g = ints 78 (flat P) := by
    unfold chA
    by_cases hg : gE g = 0
    · exact ⟨_, by rw [if_pos hg]⟩
    · exact ⟨_, by rw [if_neg hg]; exact zeros_flat⟩
  obtain ⟨Q, hQ⟩ : ∃ Q, sgArr T nl = ints 78 (flat Q) := by
    unfold sgArr
    by_cases hg : sgErr T nl ≠ 0
    · exact ⟨_, by rw [if_pos hg]; exact zeros_flat⟩
    · exact ⟨_, by rw [if_neg hg]⟩
  rw [hP] at C1 C2
  rw [hQ] at C7 C8
  by_cases hg : gE g = 0
  · refine tells_run a b c g.rf g.pl t _ av nl cv P Q _ _ _ _ (fun i => (typeOf (chC (maOf g) i)).length) (fun i j => (((typeOf (chC (maOf g) i)).getD j 0 : Nat) : Int)) w C1 C2 (fun W hb => (C3 W hb).mono ?_) (fun W hb => (C4 W hb).mono ?_) C5 C6 C7 C8
    all_goals
      rintro e w' (⟨h, _⟩ | ⟨_, V, h1, h2, h3⟩)
      · exact absurd hg h
      · exact ⟨V, by rw [hg]; exact h1, h2, h3⟩
  · have hz : sl3 0 (fun _ => Value.slice none 0 0) = sl3 3 (fun _ => Value.slice none 0 0) := tab_ext fun i hi => by rw [if_neg (by omega), if_pos hi]
    refine tells_run a b c g.rf g.pl t _ av nl cv P Q _ _ _ _ (fun _ => 0) (fun _ _ => 0) w C1 C2 (fun W hb => (C3 W hb).mono ?_) (fun W hb => (C4 W hb).mono ?_) C5 C6 C7 C8
    all_goals
      rintro e w' (⟨_, h1, h3⟩ | ⟨h, _⟩)
      · exact ⟨_, by rw [← hz]; exact h1, fun i hi => ⟨none, 0, rfl, Nat.zero_le _, fun j hj => absurd hj (Nat.not_lt_zero j)⟩, h3⟩
      · exact absurd h hg
end Go.Proofs.Ytigamiehnjipcaa
