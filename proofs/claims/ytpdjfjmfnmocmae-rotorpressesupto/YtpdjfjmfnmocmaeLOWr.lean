/-
  RotorWrites, for any Write, Known and Mirror that say what the document's say.
-/
import Derived.Test.YtpdjfjmfnmocmaeLOUnd
import Derived.Test.YtpdjfjmfnmocmaeORKw
import Derived.Test.YtpdjfjmfnmocmaePEq
namespace Go.Proofs.Ytpdjfjmfnmocmae
open Go.RowKit PK Vg

theorem run_neq_perm (f : Nat → Int) (w : World) : (Op.equalIn 10000 50 (.agg (ints 26 f)) (.agg (ints 26 f))).run Try.prog w = .ok true w := by
  have := run_equalIn_ints (P := Try.prog) w 9998 50 3 26 Try.underlying50 Try.underlying3 info_int f f
  rw [eqI_refl] at this
  exact this
theorem nums_new {W : World} {v : Value} {n : Nat} {f : Nat → Int} (h : NumsAt W v n f) (o : Obj) (c : Array Value) : NumsAt ((W.alloc o).setRow W.heap.size c) v n f := by
  obtain ⟨a, cap, rfl, h2, h3⟩ := h
  refine ⟨a, cap, rfl, h2, fun i hi => ?_⟩
  obtain ⟨b, p, rfl, hcell⟩ := h3 i hi
  have hl := cell_block hcell
  exact ⟨b, p, rfl, (cell_setRow_other (W.alloc o) W.heap.size c ⟨b, p + i, none⟩ (by simp at hl ⊢; omega)).trans ((World.cell?_alloc_lt _ _ _ hl).trans hcell)⟩
/-- Two wheels' variables. -/
structure WwS (w W : World) (q1 q2 : Nat) (f : Nat → Int) (R1 R2 : Value) (n : Nat) (k : Nat → Int) : Prop where
  a : RowAt W q1 62 (whl f R1)
  b : RowAt W q2 62 (whl f R2)
  n1 : NumsAt W R1 n k
  n2 : NumsAt W R2 n k
  below : Below w.heap.size w W
theorem WwS.drew {w W : World} {q1 q2 : Nat} {f : Nat → Int} {R1 R2 : Value} {n : Nat} {k : Nat → Int} (h : WwS w W q1 q2 f R1 R2 n k) : WwS w W.drew q1 q2 f R1 R2 n k := ⟨h.a, h.b, h.n1, h.n2, h.below.drew⟩
theorem below_row {B : Nat} {w W : World} (h : Below B w W) (q : Nat) (hq : B ≤ q) (c : Array Value) : Below B w (W.setRow q c) := Below.setRow h q hq c
set_option maxRecDepth 100000 in
set_option maxHeartbeats 4000000 in
theorem rwrites_run (a b c : Value) (rf pl : Nat → Int) (t name S : ByteArray) (E A : Int) (f : Nat → Int) (n : Nat) (hn : n = 0 ∨ n = 1) (k : Nat → Int) (KE : Int) (p : Nat → Int) (ME : Int) (w : World)
    (H1 : Hid (∀ W, Below w.heap.size w W → Calls Try.prog 27 #[.agg (mac a b c rf pl), .string t] W fun e w' => e = .returned (.tuple #[.string S, .agg #[.int .i64 E, .int .i64 A]]) ∧ Below W.heap.size W w'))
    (H2 : Hid (∀ W, Below w.heap.size w W → Calls Try.prog 28 #[.agg (mac a b c rf pl), .string t] W fun e w' => e = .returned (.tuple #[.string S, .agg #[.int .i64 E, .int .i64 A]]) ∧ Below W.heap.size W w'))
    (H3 : Hid (∀ W, Calls Try.prog 29 #[.string name] W fun e w' => ∃ R, e = .returned (.tuple #[.agg (whl f R), .int .i64 KE]) ∧ NumsAt w' R n k ∧ Below W.heap.size W w'))
    (H4 : Hid (∀ W, Calls Try.prog 30 #[.string name] W fun e w' => ∃ R, e = .returned (.tuple #[.agg (whl f R), .int .i64 KE]) ∧ NumsAt w' R n k ∧ Below W.heap.size W w'))
    (H5 : Hid (∀ W, Calls Try.prog 31 #[.string name] W fun e w' => e = .returned (.tuple #[.agg (ints 26 p), .int .i64 ME]) ∧ Below W.heap.size W w'))
    (H6 : Hid (∀ W, Calls Try.prog 32 #[.string name] W fun e w' => e = .returned (.tuple #[.agg (ints 26 p), .int .i64 ME]) ∧ Below W.heap.size W w')) : Calls Try.prog 8 #[.agg (mac a b c rf pl), .string t, .string name] w fun e w' => e = .returned (.bool true) ∧ Below w.heap.size w w' := by
  have h0 := MgAt.new w a b c rf pl
  have hz27 := o_zero v_zero_whl
  have hz26 := o_zero v_zero_perm
  have hSS : (S.toList == S.toList) = true := by simp
  go_enter Try.func8, Try.ntmps8
  go_wp2_with (first | refine wpList_load_row rfl 52 _ rfl w.heap.size rfl 52 (mac a b c rf pl) (0, 0) _ h0.row Try.underlying52 rfl (by rw [mac_size]; exact v_info_mac) ?_)
  refine (H1.out _ h0.below).mono ?_
  rintro e W1 ⟨rfl, hb⟩
  have h1 := FmAt.new (h0.step hb) (.int .i64 E) (.int .i64 A)
  clear hb h0 H1
  go_upto_region 2 with fail
  generalize W1.alloc (.cells #[.int .i64 E, .int .i64 A] 25) = V1 at *
  obtain ⟨q1, hq⟩ : ∃ q1, q1 = W1.heap.size := ⟨_, rfl⟩
  rw [← hq] at h1 ⊢
  clear hq
  go_wp2_with (first | refine wpList_load_row rfl 52 _ rfl w.heap.size rfl 52 (mac a b c rf pl) (0, 0) _ h1.mg.row Try.underlying52 rfl (by rw [mac_size]; exact v_info_mac) ?_)
  refine (H2.out _ h1.mg.below).mono ?_
  rintro e W2 ⟨rfl, hb⟩
  have h2 := (h1.step hb).alloc (.cells #[.int .i64 E, .int .i64 A] 25)
  have hf2 := RowAt.new W2 25 #[.int .i64 E, .int .i64 A]
  clear hb h1 H2
  go_upto_region 3 with fail
  generalize W2.alloc (.cells #[.int .i64 E, .int .i64 A] 25) = V2 at *
  obtain ⟨q2, hq⟩ : ∃ q2, q2 = W2.heap.size := ⟨_, rfl⟩
  rw [← hq] at hf2 ⊢
  have a0 := h2.f.cell (i := 0) rfl
  have a1 := h2.f.cell (i := 1) rfl
  have b0 := hf2.cell (i := 0) rfl
  have b1 := hf2.cell (i := 1) rfl
  have hbe := h2.mg.below
  clear hq h2 hf2
  go_wp2_with fail
  refine (H3.out _).mono ?_
  rintro e W3 ⟨R1, rfl, hn1, hb⟩
  have hb3 := hbe.trans (hb.mono hbe.size)
  clear hb hbe a0 a1 b0 b1 H3
  have HO1 : Hid (R1.oneCell' = true) := by obtain ⟨a', c', e', _⟩ := hn1; rw [Hid, e']; rfl
  go_upto_region 6 with (first | refine wpList_store_row rfl 62 _ _ rfl W3.heap.size (whl f R1) rfl rfl 62 _ (RowAt.new W3 _ _) (by rw [whl_size]; exact v_info_whl) (by simp only [whl_size]) (whl_one HO1.out) ?_)
  have hr3 := (RowAt.new W3 62 (whl (fun _ => 0) (.slice none 0 0))).row (whl f R1)
  have hb4 : Below w.heap.size w ((W3.alloc (.cells (whl (fun _ => 0) (.slice none 0 0)) 62)).setRow W3.heap.size (whl f R1)) := Below.setRow (hb3.alloc hb3.size _) _ hb3.size _
  have hn3 : NumsAt ((W3.alloc (.cells (whl (fun _ => 0) (.slice none 0 0)) 62)).setRow W3.heap.size (whl f R1)) R1 n k := nums_new hn1 _ _
  generalize (W3.alloc (.cells (whl (fun _ => 0) (.slice none 0 0)) 62)).setRow W3.heap.size (whl f R1) = V3 at *
  obtain ⟨q3, hq⟩ : ∃ q3, q3 = W3.heap.size := ⟨_, rfl⟩
  rw [← hq] at hr3 ⊢
  clear hq hn1 hb3
  go_wp2_with fail
  refine (H4.out _).mono ?_
  rintro e W4 ⟨R2, rfl, hn2, hb⟩
  have hb5 := hb4.trans (hb.mono hb4.size)
  have hr4 := hr3.below hb hr3.lt
  have hn4 := hn3.below hb
  clear hb hb4 H4 hr3 hn3
  have HO2 : Hid (R2.oneCell' = true) := by obtain ⟨a', c', e', _⟩ := hn2; rw [Hid, e']; rfl
  have hlq3 := hr4.lt
  go_upto_region 7 with (first | refine wpList_store_row rfl 62 _ _ rfl W4.heap.size (whl f R2) rfl rfl 62 _ (RowAt.new W4 _ _) (by rw [whl_size]; exact v_info_whl) (by simp only [whl_size]) (whl_one HO2.out) ?_)
  have hw : WwS w ((W4.alloc (.cells (whl (fun _ => 0) (.slice none 0 0)) 62)).setRow W4.heap.size (whl f R2)) q3 W4.heap.size f R1 R2 n k := ⟨(hr4.alloc _).rowOther _ _ (by omega), (RowAt.new W4 62 _).row _, nums_new hn4 _ _, nums_new hn2 _ _, Below.setRow (hb5.alloc hb5.size _) _ hb5.size _⟩
  generalize (W4.alloc (.cells (whl (fun _ => 0) (.slice none 0 0)) 62)).setRow W4.heap.size (whl f R2) = V4 at *
  obtain ⟨q4, hq⟩ : ∃ q4, q4 = W4.heap.size := ⟨_, rfl⟩
  rw [← hq] at hw ⊢
  clear hq hn2 hn4 hb5 hr4 hlq3
  obtain ⟨ar1, cr1, hR1, _, _⟩ := hw.n1
  obtain ⟨ar2, cr2, hR2, _, _⟩ := hw.n2
  subst hR1 hR2
  refine wp_region_noPanic ?_
  refine wp_region_held_drew (S := fun W => WwS w W q3 q4 f (.slice ar1 n cr1) (.slice ar2 n cr2) n k) (by kernel_rfl) hw.drew (fun hS => ?_)
  refine vtake 0 47 (.int .i64 KE) rfl rfl (by kernel_rfl) (by kernel_rfl) (by kernel_rfl) (fun _ _ _ _ h => h) (by rfl) (fun W hW => by clear hS hW; go_simp) hS ?_
  simp only [List.setIfInBounds_toArray, List.set_cons_succ, List.set_cons_zero]
  refine vtake 1 48 (.int .i64 KE) rfl rfl (by kernel_rfl) (by kernel_rfl) (by kernel_rfl) (fun _ _ _ _ h => h) (by rfl) (fun W hW => by clear hS hW; go_simp) hS ?_
  simp only [List.setIfInBounds_toArray, List.set_cons_succ, List.set_cons_zero]
  refine vtake 2 49 (.bool false) rfl rfl (by kernel_rfl) (by kernel_rfl) (by kernel_rfl) (fun _ _ _ _ h => h) (by rfl) (fun W hW => by clear hS hW; go_simp) hS ?_
  simp only [List.setIfInBounds_toArray, List.set_cons_succ, List.set_cons_zero]
  refine vtake 3 50 (.bool false) rfl rfl (by kernel_rfl) (by kernel_rfl) (by kernel_rfl) (fun _ _ _ _ h => h) (by rfl) (fun W hW => by clear hS hW; go_simp) hS ?_
  simp only [List.setIfInBounds_toArray, List.set_cons_succ, List.set_cons_zero]
  refine vtake 4 51 (.pointer (some ⟨q3, 0, none⟩)) rfl rfl (by kernel_rfl) (by kernel_rfl) (by kernel_rfl) (fun _ _ _ _ h => h) (by rfl) (fun W hW => by clear hS hW; go_simp) hS ?_
  simp only [List.setIfInBounds_toArray, List.set_cons_succ, List.set_cons_zero]
  refine vtake 5 52 (.agg (ints 26 f)) rfl rfl (by kernel_rfl) (by kernel_rfl) (by kernel_rfl) (fun _ _ _ _ h => h) (by rfl) (fun W hW => by have u := run_loadAt_mid (P := Try.prog) W q3 0 50 (ints 26 f).toList _ (mid_wi hW.a) Try.underlying50 rfl (by rw [Array.length_toList, ints_size]; exact info_perm); rw [Array.toArray_toList] at u; clear hS hW; simp [execOp, Act.eval, u]) hS ?_
  simp only [List.setIfInBounds_toArray, List.set_cons_succ, List.set_cons_zero]
  refine vtake 6 53 (.pointer (some ⟨q4, 0, none⟩)) rfl rfl (by kernel_rfl) (by kernel_rfl) (by kernel_rfl) (fun _ _ _ _ h => h) (by rfl) (fun W hW => by clear hS hW; go_simp) hS ?_
  simp only [List.setIfInBounds_toArray, List.set_cons_succ, List.set_cons_zero]
  refine vtake 7 54 (.agg (ints 26 f)) rfl rfl (by kernel_rfl) (by kernel_rfl) (by kernel_rfl) (fun _ _ _ _ h => h) (by rfl) (fun W hW => by have u := run_loadAt_mid (P := Try.prog) W q4 0 50 (ints 26 f).toList _ (mid_wi hW.b) Try.underlying50 rfl (by rw [Array.length_toList, ints_size]; exact info_perm); rw [Array.toArray_toList] at u; clear hS hW; simp [execOp, Act.eval, u]) hS ?_
  simp only [List.setIfInBounds_toArray, List.set_cons_succ, List.set_cons_zero]
  refine vtake 8 55 (.bool false) rfl rfl (by kernel_rfl) (by kernel_rfl) (by kernel_rfl) (fun _ _ _ _ h => h) (by rfl) (fun W hW => by have u := run_neq_perm f; clear hS hW; go_simp) hS ?_
  simp only [List.setIfInBounds_toArray, List.set_cons_succ, List.set_cons_zero]
  refine vtake 9 56 (.bool false) rfl rfl (by kernel_rfl) (by kernel_rfl) (by kernel_rfl) (fun _ _ _ _ h => h) (by rfl) (fun W hW => by clear hS hW; go_simp) hS ?_
  simp only [List.setIfInBounds_toArray, List.set_cons_succ, List.set_cons_zero]
  refine vtake 10 57 (.bool false) rfl rfl (by kernel_rfl) (by kernel_rfl) (by kernel_rfl) (fun _ _ _ _ h => h) (by rfl) (fun W hW => by clear hS hW; go_simp) hS ?_
  simp only [List.setIfInBounds_toArray, List.set_cons_succ, List.set_cons_zero]
  refine vtake 11 58 (.pointer (some ⟨q3, 26, none⟩)) rfl rfl (by kernel_rfl) (by kernel_rfl) (by kernel_rfl) (fun _ _ _ _ h => h) (by rfl) (fun W hW => by clear hS hW; go_simp) hS ?_
  simp only [List.setIfInBounds_toArray, List.set_cons_succ, List.set_cons_zero]
  refine vtake 12 59 (.slice ar1 n cr1) rfl rfl (by kernel_rfl) (by kernel_rfl) (by kernel_rfl) (fun _ _ _ _ h => h) (by rfl) (fun W hW => by have u := hW.a.cell (whl_last _ _); clear hS hW; go_simp) hS ?_
  simp only [List.setIfInBounds_toArray, List.set_cons_succ, List.set_cons_zero]
  refine vtake 13 60 (.int .i64 (n : Nat)) rfl rfl (by kernel_rfl) (by kernel_rfl) (by kernel_rfl) (fun _ _ _ _ h => h) (by rfl) (fun W hW => by clear hS hW; go_simp) hS ?_
  simp only [List.setIfInBounds_toArray, List.set_cons_succ, List.set_cons_zero]
  refine vtake 14 61 (.pointer (some ⟨q4, 26, none⟩)) rfl rfl (by kernel_rfl) (by kernel_rfl) (by kernel_rfl) (fun _ _ _ _ h => h) (by rfl) (fun W hW => by clear hS hW; go_simp) hS ?_
  simp only [List.setIfInBounds_toArray, List.set_cons_succ, List.set_cons_zero]
  refine vtake 15 62 (.slice ar2 n cr2) rfl rfl (by kernel_rfl) (by kernel_rfl) (by kernel_rfl) (fun _ _ _ _ h => h) (by rfl) (fun W hW => by have u := hW.b.cell (whl_last _ _); clear hS hW; go_simp) hS ?_
  simp only [List.setIfInBounds_toArray, List.set_cons_succ, List.set_cons_zero]
  refine vtake 16 63 (.int .i64 (n : Nat)) rfl rfl (by kernel_rfl) (by kernel_rfl) (by kernel_rfl) (fun _ _ _ _ h => h) (by rfl) (fun W hW => by clear hS hW; go_simp) hS ?_
  simp only [List.setIfInBounds_toArray, List.set_cons_succ, List.set_cons_zero]
  refine vtake 17 64 (.bool false) rfl rfl (by kernel_rfl) (by kernel_rfl) (by kernel_rfl) (fun _ _ _ _ h => h) (by rfl) (fun W hW => by clear hS hW; go_simp) hS ?_
  simp only [List.setIfInBounds_toArray, List.set_cons_succ, List.set_cons_zero]
  refine vtake 18 65 (.bool false) rfl rfl (by kernel_rfl) (by kernel_rfl) (by kernel_rfl) (fun _ _ _ _ h => h) (by rfl) (fun W hW => by clear hS hW; go_simp) hS ?_
  simp only [List.setIfInBounds_toArray, List.set_cons_succ, List.set_cons_zero]
  refine vtake 19 66 (.bool false) rfl rfl (by kernel_rfl) (by kernel_rfl) (by kernel_rfl) (fun _ _ _ _ h => h) (by rfl) (fun W hW => by clear hS hW; go_simp) hS ?_
  simp only [List.setIfInBounds_toArray, List.set_cons_succ, List.set_cons_zero]
  refine vtake 20 67 (.pointer (some ⟨q4, 26, none⟩)) rfl rfl (by kernel_rfl) (by kernel_rfl) (by kernel_rfl) (fun _ _ _ _ h => h) (by rfl) (fun W hW => by clear hS hW; go_simp) hS ?_
  simp only [List.setIfInBounds_toArray, List.set_cons_succ, List.set_cons_zero]
  refine vtake 21 68 (.slice ar2 n cr2) rfl rfl (by kernel_rfl) (by kernel_rfl) (by kernel_rfl) (fun _ _ _ _ h => h) (by rfl) (fun W hW => by have u := hW.b.cell (whl_last _ _); clear hS hW; go_simp) hS ?_
  simp only [List.setIfInBounds_toArray, List.set_cons_succ, List.set_cons_zero]
  refine vtake 22 69 (.int .i64 (n : Nat)) rfl rfl (by kernel_rfl) (by kernel_rfl) (by kernel_rfl) (fun _ _ _ _ h => h) (by rfl) (fun W hW => by clear hS hW; go_simp) hS ?_
  simp only [List.setIfInBounds_toArray, List.set_cons_succ, List.set_cons_zero]
  rcases hn with rfl | rfl
  · refine vtake 23 70 (.bool false) rfl rfl (by kernel_rfl) (by kernel_rfl) (by kernel_rfl) (fun _ _ _ _ h => h) (by rfl) (fun W hW => by clear hS hW; go_simp) hS ?_
    simp only [List.setIfInBounds_toArray, List.set_cons_succ, List.set_cons_zero]
    refine vtake 24 71 (.bool false) rfl rfl (by kernel_rfl) (by kernel_rfl) (by kernel_rfl) (fun _ _ _ _ h => h) (by rfl) (fun W hW => by clear hS hW; go_simp) hS ?_
    simp only [List.setIfInBounds_toArray, List.set_cons_succ, List.set_cons_zero]
    refine vskip 25 72 rfl rfl (by kernel_rfl) (by kernel_rfl) (by kernel_rfl) (fun _ _ _ _ h => h) (by rfl) hS ?_
    simp only [List.setIfInBounds_toArray, List.set_cons_succ, List.set_cons_zero]
    refine vskip 26 73 rfl rfl (by kernel_rfl) (by kernel_rfl) (by kernel_rfl) (fun _ _ _ _ h => h) (by rfl) hS ?_
    simp only [List.setIfInBounds_toArray, List.set_cons_succ, List.set_cons_zero]
    refine vskip 27 74 rfl rfl (by kernel_rfl) (by kernel_rfl) (by kernel_rfl) (fun _ _ _ _ h => h) (by rfl) hS ?_
    simp only [List.setIfInBounds_toArray, List.set_cons_succ, List.set_cons_zero]
    refine vskip 28 75 rfl rfl (by kernel_rfl) (by kernel_rfl) (by kernel_rfl) (fun _ _ _ _ h => h) (by rfl) hS ?_
    simp only [List.setIfInBounds_toArray, List.set_cons_succ, List.set_cons_zero]
    refine vskip 29 76 rfl rfl (by kernel_rfl) (by kernel_rfl) (by kernel_rfl) (fun _ _ _ _ h => h) (by rfl) hS ?_
    simp only [List.setIfInBounds_toArray, List.set_cons_succ, List.set_cons_zero]
    refine vskip 30 77 rfl rfl (by kernel_rfl) (by kernel_rfl) (by kernel_rfl) (fun _ _ _ _ h => h) (by rfl) hS ?_
    simp only [List.setIfInBounds_toArray, List.set_cons_succ, List.set_cons_zero]
    refine vskip 31 78 rfl rfl (by kernel_rfl) (by kernel_rfl) (by kernel_rfl) (fun _ _ _ _ h => h) (by rfl) hS ?_
    simp only [List.setIfInBounds_toArray, List.set_cons_succ, List.set_cons_zero]
    refine vskip 32 79 rfl rfl (by kernel_rfl) (by kernel_rfl) (by kernel_rfl) (fun _ _ _ _ h => h) (by rfl) hS ?_
    simp only [List.setIfInBounds_toArray, List.set_cons_succ, List.set_cons_zero]
    refine vskip 33 80 rfl rfl (by kernel_rfl) (by kernel_rfl) (by kernel_rfl) (fun _ _ _ _ h => h) (by rfl) hS ?_
    simp only [List.setIfInBounds_toArray, List.set_cons_succ, List.set_cons_zero]
    refine vtake 34 81 (.bool false) rfl rfl (by kernel_rfl) (by kernel_rfl) (by kernel_rfl) (fun _ _ _ _ h => h) (by rfl) (fun W hW => by clear hS hW; go_simp) hS ?_
    simp only [List.setIfInBounds_toArray, List.set_cons_succ, List.set_cons_zero]
    refine vtake 35 82 (.bool false) rfl rfl (by kernel_rfl) (by kernel_rfl) (by kernel_rfl) (fun _ _ _ _ h => h) (by rfl) (fun W hW => by clear hS hW; go_simp) hS ?_
    simp only [List.setIfInBounds_toArray, List.set_cons_succ, List.set_cons_zero]
    refine wpAnyH_done (by kernel_rfl) ?_ _
    refine NoPanic.normal ?_
    have hwe := hS
    clear hS
    go_wp2_with fail
    refine (H5.out _).mono ?_
    rintro e W5 ⟨rfl, hb⟩
    have hb6 := hwe.below.trans (hb.mono hwe.below.size)
    clear hb hwe hw H5
    go_upto_region 10 with (first | refine wpList_store_row rfl 50 _ _ rfl W5.heap.size (ints 26 p) rfl rfl 50 _ (RowAt.new W5 _ _) (by rw [ints_size]; exact info_perm) (by simp only [ints_size]) (ints_one _ _) ?_)
    have hr5 := (RowAt.new W5 50 (ints 26 fun _ => 0)).row (ints 26 p)
    have hb7 : Below w.heap.size w ((W5.alloc (.cells (ints 26 fun _ => 0) 50)).setRow W5.heap.size (ints 26 p)) := Below.setRow (hb6.alloc hb6.size _) _ hb6.size _
    generalize (W5.alloc (.cells (ints 26 fun _ => 0) 50)).setRow W5.heap.size (ints 26 p) = V5 at *
    obtain ⟨q5, hq⟩ : ∃ q5, q5 = W5.heap.size := ⟨_, rfl⟩
    rw [← hq] at hr5 ⊢
    clear hq hb6
    go_wp2_with fail
    refine (H6.out _).mono ?_
    rintro e W6 ⟨rfl, hb⟩
    have hb8 := hb7.trans (hb.mono hb7.size)
    have hr6 := hr5.below hb hr5.lt
    have hlq5 := hr6.lt
    clear hb hb7 H6 hr5
    go_upto_region 11 with (first | refine wpList_store_row rfl 50 _ _ rfl W6.heap.size (ints 26 p) rfl rfl 50 _ (RowAt.new W6 _ _) (by rw [ints_size]; exact info_perm) (by simp only [ints_size]) (ints_one _ _) ?_)
    have hr7 := (RowAt.new W6 50 (ints 26 fun _ => 0)).row (ints 26 p)
    have hr8 := (hr6.alloc (.cells (ints 26 fun _ => 0) 50)).rowOther W6.heap.size (ints 26 p) (by omega)
    have hb9 : Below w.heap.size w ((W6.alloc (.cells (ints 26 fun _ => 0) 50)).setRow W6.heap.size (ints 26 p)) := Below.setRow (hb8.alloc hb8.size _) _ hb8.size _
    generalize (W6.alloc (.cells (ints 26 fun _ => 0) 50)).setRow W6.heap.size (ints 26 p) = V6 at *
    obtain ⟨q6, hq⟩ : ∃ q6, q6 = W6.heap.size := ⟨_, rfl⟩
    rw [← hq] at hr7 ⊢
    clear hq hb8 hr6
    have heq := run_neq_perm p
    go_wp2_with (first | refine wpList_load_row rfl 50 _ rfl q5 rfl 50 (ints 26 p) (0, 0) _ hr8 Try.underlying50 rfl (by rw [ints_size]; exact info_perm) ?_ | refine wpList_load_row rfl 50 _ rfl q6 rfl 50 (ints 26 p) (0, 0) _ hr7 Try.underlying50 rfl (by rw [ints_size]; exact info_perm) ?_)
    go_ret
    exact ⟨rfl, hb9⟩
  · refine vtake 23 70 (.bool true) rfl rfl (by kernel_rfl) (by kernel_rfl) (by kernel_rfl) (fun _ _ _ _ h => h) (by rfl) (fun W hW => by clear hS hW; go_simp) hS ?_
    simp only [List.setIfInBounds_toArray, List.set_cons_succ, List.set_cons_zero]
    refine vtake 24 71 (.bool true) rfl rfl (by kernel_rfl) (by kernel_rfl) (by kernel_rfl) (fun _ _ _ _ h => h) (by rfl) (fun W hW => by clear hS hW; go_simp) hS ?_
    simp only [List.setIfInBounds_toArray, List.set_cons_succ, List.set_cons_zero]
    obtain ⟨bb1, ob1, hr1, HC1⟩ : ∃ b1 o1, ar1 = some ⟨b1, o1, none⟩ ∧ ∀ W, WwS w W q3 q4 f (.slice ar1 1 cr1) (.slice ar2 1 cr2) 1 k → W.cell? ⟨b1, o1, none⟩ = some (.int .i64 (k 0)) := by
      obtain ⟨a', c', e', _, h'⟩ := hS.n1
      cases e'
      obtain ⟨b1, o1, e1, _⟩ := h' 0 (by decide)
      refine ⟨b1, o1, e1, fun W hW => ?_⟩
      obtain ⟨a', c', e', _, h'⟩ := hW.n1
      cases e'
      obtain ⟨b2, o2, e2, hc⟩ := h' 0 (by decide)
      rw [e1] at e2
      cases e2
      exact hc
    obtain ⟨bb2, ob2, hr2, HC2⟩ : ∃ b1 o1, ar2 = some ⟨b1, o1, none⟩ ∧ ∀ W, WwS w W q3 q4 f (.slice ar1 1 cr1) (.slice ar2 1 cr2) 1 k → W.cell? ⟨b1, o1, none⟩ = some (.int .i64 (k 0)) := by
      obtain ⟨a', c', e', _, h'⟩ := hS.n2
      cases e'
      obtain ⟨b1, o1, e1, _⟩ := h' 0 (by decide)
      refine ⟨b1, o1, e1, fun W hW => ?_⟩
      obtain ⟨a', c', e', _, h'⟩ := hW.n2
      cases e'
      obtain ⟨b2, o2, e2, hc⟩ := h' 0 (by decide)
      rw [e1] at e2
      cases e2
      exact hc
    subst hr1 hr2
    refine vtake 25 72 (.pointer (some ⟨q3, 26, none⟩)) rfl rfl (by kernel_rfl) (by kernel_rfl) (by kernel_rfl) (fun _ _ _ _ h => h) (by rfl) (fun W hW => by clear hS hW; go_simp) hS ?_
    simp only [List.setIfInBounds_toArray, List.set_cons_succ, List.set_cons_zero]
    refine vtake 26 73 (.slice (some ⟨bb1, ob1, none⟩) 1 cr1) rfl rfl (by kernel_rfl) (by kernel_rfl) (by kernel_rfl) (fun _ _ _ _ h => h) (by rfl) (fun W hW => by have u := hW.a.cell (whl_last _ _); clear hS hW; go_simp) hS ?_
    simp only [List.setIfInBounds_toArray, List.set_cons_succ, List.set_cons_zero]
    refine vtake 27 74 (.pointer (some ⟨bb1, ob1, none⟩)) rfl rfl (by kernel_rfl) (by kernel_rfl) (by kernel_rfl) (fun _ _ _ _ h => h) (by rfl) (fun W hW => by clear hS hW; go_simp) hS ?_
    simp only [List.setIfInBounds_toArray, List.set_cons_succ, List.set_cons_zero]
    refine vtake 28 75 (.int .i64 (k 0)) rfl rfl (by kernel_rfl) (by kernel_rfl) (by kernel_rfl) (fun _ _ _ _ h => h) (by rfl) (fun W hW => by have u := HC1 W hW; clear HC1 HC2; clear hS hW; go_simp) hS ?_
    simp only [List.setIfInBounds_toArray, List.set_cons_succ, List.set_cons_zero]
    refine vtake 29 76 (.pointer (some ⟨q4, 26, none⟩)) rfl rfl (by kernel_rfl) (by kernel_rfl) (by kernel_rfl) (fun _ _ _ _ h => h) (by rfl) (fun W hW => by clear hS hW; go_simp) hS ?_
    simp only [List.setIfInBounds_toArray, List.set_cons_succ, List.set_cons_zero]
    refine vtake 30 77 (.slice (some ⟨bb2, ob2, none⟩) 1 cr2) rfl rfl (by kernel_rfl) (by kernel_rfl) (by kernel_rfl) (fun _ _ _ _ h => h) (by rfl) (fun W hW => by have u := hW.b.cell (whl_last _ _); clear hS hW; go_simp) hS ?_
    simp only [List.setIfInBounds_toArray, List.set_cons_succ, List.set_cons_zero]
    refine vtake 31 78 (.pointer (some ⟨bb2, ob2, none⟩)) rfl rfl (by kernel_rfl) (by kernel_rfl) (by kernel_rfl) (fun _ _ _ _ h => h) (by rfl) (fun W hW => by clear hS hW; go_simp) hS ?_
    simp only [List.setIfInBounds_toArray, List.set_cons_succ, List.set_cons_zero]
    refine vtake 32 79 (.int .i64 (k 0)) rfl rfl (by kernel_rfl) (by kernel_rfl) (by kernel_rfl) (fun _ _ _ _ h => h) (by rfl) (fun W hW => by have u := HC2 W hW; clear HC1 HC2; clear hS hW; go_simp) hS ?_
    simp only [List.setIfInBounds_toArray, List.set_cons_succ, List.set_cons_zero]
    refine vtake 33 80 (.bool false) rfl rfl (by kernel_rfl) (by kernel_rfl) (by kernel_rfl) (fun _ _ _ _ h => h) (by rfl) (fun W hW => by clear hS hW; go_simp) hS ?_
    simp only [List.setIfInBounds_toArray, List.set_cons_succ, List.set_cons_zero]
    refine vtake 34 81 (.bool false) rfl rfl (by kernel_rfl) (by kernel_rfl) (by kernel_rfl) (fun _ _ _ _ h => h) (by rfl) (fun W hW => by clear hS hW; go_simp) hS ?_
    simp only [List.setIfInBounds_toArray, List.set_cons_succ, List.set_cons_zero]
    refine vtake 35 82 (.bool false) rfl rfl (by kernel_rfl) (by kernel_rfl) (by kernel_rfl) (fun _ _ _ _ h => h) (by rfl) (fun W hW => by clear hS hW; go_simp) hS ?_
    simp only [List.setIfInBounds_toArray, List.set_cons_succ, List.set_cons_zero]
    clear HC1 HC2
    refine wpAnyH_done (by kernel_rfl) ?_ _
    refine NoPanic.normal ?_
    have hwe := hS
    clear hS
    go_wp2_with fail
    refine (H5.out _).mono ?_
    rintro e W5 ⟨rfl, hb⟩
    have hb6 := hwe.below.trans (hb.mono hwe.below.size)
    clear hb hwe hw H5
    go_upto_region 10 with (first | refine wpList_store_row rfl 50 _ _ rfl W5.heap.size (ints 26 p) rfl rfl 50 _ (RowAt.new W5 _ _) (by rw [ints_size]; exact info_perm) (by simp only [ints_size]) (ints_one _ _) ?_)
    have hr5 := (RowAt.new W5 50 (ints 26 fun _ => 0)).row (ints 26 p)
    have hb7 : Below w.heap.size w ((W5.alloc (.cells (ints 26 fun _ => 0) 50)).setRow W5.heap.size (ints 26 p)) := Below.setRow (hb6.alloc hb6.size _) _ hb6.size _
    generalize (W5.alloc (.cells (ints 26 fun _ => 0) 50)).setRow W5.heap.size (ints 26 p) = V5 at *
    obtain ⟨q5, hq⟩ : ∃ q5, q5 = W5.heap.size := ⟨_, rfl⟩
    rw [← hq] at hr5 ⊢
    clear hq hb6
    go_wp2_with fail
    refine (H6.out _).mono ?_
    rintro e W6 ⟨rfl, hb⟩
    have hb8 := hb7.trans (hb.mono hb7.size)
    have hr6 := hr5.below hb hr5.lt
    have hlq5 := hr6.lt
    clear hb hb7 H6 hr5
    go_upto_region 11 with (first | refine wpList_store_row rfl 50 _ _ rfl W6.heap.size (ints 26 p) rfl rfl 50 _ (RowAt.new W6 _ _) (by rw [ints_size]; exact info_perm) (by simp only [ints_size]) (ints_one _ _) ?_)
    have hr7 := (RowAt.new W6 50 (ints 26 fun _ => 0)).row (ints 26 p)
    have hr8 := (hr6.alloc (.cells (ints 26 fun _ => 0) 50)).rowOther W6.heap.size (ints 26 p) (by omega)
    have hb9 : Below w.heap.size w ((W6.alloc (.cells (ints 26 fun _ => 0) 50)).setRow W6.heap.size (ints 26 p)) := Below.setRow (hb8.alloc hb8.size _) _ hb8.size _
    generalize (W6.alloc (.cells (ints 26 fun _ => 0) 50)).setRow W6.heap.size (ints 26 p) = V6 at *
    obtain ⟨q6, hq⟩ : ∃ q6, q6 = W6.heap.size := ⟨_, rfl⟩
    rw [← hq] at hr7 ⊢
    clear hq hb8 hr6
    have heq := run_neq_perm p
    go_wp2_with (first | refine wpList_load_row rfl 50 _ rfl q5 rfl 50 (ints 26 p) (0, 0) _ hr8 Try.underlying50 rfl (by rw [ints_size]; exact info_perm) ?_ | refine wpList_load_row rfl 50 _ rfl q6 rfl 50 (ints 26 p) (0, 0) _ hr7 Try.underlying50 rfl (by rw [ints_size]; exact info_perm) ?_)
    go_ret
    exact ⟨rfl, hb9⟩
theorem rotorwrites_of (TW : ∀ (vm : Value) (g : Gm) (t : ByteArray) (w : World), MacAt w vm g → Calls Try.prog 27 #[vm, .string t] w fun e w' => e = .returned (.tuple #[.string ⟨(rwS g t.data.toList).toArray⟩, .agg #[.int .i64 (rwE g t.data.toList), .int .i64 (rwAt g t.data.toList)]]) ∧ Below w.heap.size w w')
    (TK : ∀ (name : ByteArray) (W : World), Calls Try.prog 29 #[.string name] W fun e w' => ∃ R, e = .returned (.tuple #[.agg (whl (knW name.data.toList) R), .int .i64 (knE name.data.toList)]) ∧ NumsAt w' R (knN name.data.toList).length (fun i => ((knN name.data.toList).getD i 0 : Nat)) ∧ Below W.heap.size W w')
    (TM : ∀ (name : ByteArray) (W : World), Calls Try.prog 31 #[.string name] W fun e w' => e = .returned (.tuple #[.agg (ints 26 (miP name.data.toList)), .int .i64 (miE name.data.toList)]) ∧ Below W.heap.size W w')
    (vm : Value) (g : Gm) (t name : ByteArray) (w : World) (hm : MacAt w vm g) : Calls Try.prog 8 #[vm, .string t, .string name] w fun e w' => e = .returned (.bool true) ∧ Below w.heap.size w w' := by
  have H1 := fun W (hb : Below w.heap.size w W) => TW vm g t W (hm.below hb)
  have H2 := fun W (hb : Below w.heap.size w W) => rwrite_any vm g t W (hm.below hb)
  have hn : (knN name.data.toList).length = 0 ∨ (knN name.data.toList).length = 1 := by
    unfold knN
    cases knI name.data.toList with
    | none => exact .inl rfl
    | some x => exact .inr rfl
  obtain ⟨a, b, c, rfl, _⟩ := hm
  exact rwrites_run a b c g.rf g.pl t name _ _ _ (knW name.data.toList) _ hn _ _ (miP name.data.toList) _ w H1 H2 (fun W => TK name W) (fun W => rknown_any name W) (fun W => TM name W) (fun W => rmirror_any name W)
end Go.Proofs.Ytpdjfjmfnmocmae
