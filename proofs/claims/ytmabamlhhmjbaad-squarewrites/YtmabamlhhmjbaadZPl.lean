/-
  Contract of square.placesBehind.
-/
import Derived.Test.YtmabamlhhmjbaadZSmall
namespace Go.Proofs.Ytmabamlhhmjbaad
open Go.RowKit PK Vg Zq

theorem v_info_place : (Try.prog.info? 63).map (·.size) = some 2 := by kernel_rfl
/-- The four variables of the call. -/
structure FourAt (w W : World) (a0 a1 b0 b1 : Value) : Prop where
  a : RowAt W w.heap.size 63 #[a0, a1]
  b : RowAt W (w.heap.size + 1) 63 #[b0, b1]
  c : ∃ x y, RowAt W (w.heap.size + 2) 63 #[x, y]
  d : ∃ x y, RowAt W (w.heap.size + 3) 63 #[x, y]
  below : Below w.heap.size w W
theorem FourAt.new (w : World) (a0 a1 b0 b1 c0 c1 d0 d1 : Value) : FourAt w ((((w.alloc (.cells #[a0, a1] 63)).alloc (.cells #[b0, b1] 63)).alloc (.cells #[c0, c1] 63)).alloc (.cells #[d0, d1] 63)) a0 a1 b0 b1 := by
  refine ⟨(((RowAt.new _ _ _).alloc _).alloc _).alloc _, ?_, ⟨c0, c1, ?_⟩, ⟨d0, d1, ?_⟩, ((((Below.refl _ w).alloc (Nat.le_refl _) _).alloc (by simp only [World.size_alloc]; omega) _).alloc (by simp only [World.size_alloc]; omega) _).alloc (by simp only [World.size_alloc]; omega) _⟩
  · have := ((RowAt.new (w.alloc (.cells #[a0, a1] 63)) 63 #[b0, b1]).alloc (.cells #[c0, c1] 63)).alloc (.cells #[d0, d1] 63)
    rw [World.size_alloc] at this; exact this
  · have := (RowAt.new ((w.alloc (.cells #[a0, a1] 63)).alloc (.cells #[b0, b1] 63)) 63 #[c0, c1]).alloc (.cells #[d0, d1] 63)
    rw [World.size_alloc, World.size_alloc] at this; exact this
  · have := RowAt.new (((w.alloc (.cells #[a0, a1] 63)).alloc (.cells #[b0, b1] 63)).alloc (.cells #[c0, c1] 63)) 63 #[d0, d1]
    rw [World.size_alloc, World.size_alloc, World.size_alloc] at this; exact this
theorem FourAt.drew {w W : World} {a0 a1 b0 b1 : Value} (h : FourAt w W a0 a1 b0 b1) : FourAt w W.drew a0 a1 b0 b1 := ⟨h.a, h.b, h.c, h.d, h.below.drew⟩
theorem FourAt.setC {w W : World} {a0 a1 b0 b1 : Value} (h : FourAt w W a0 a1 b0 b1) (x y : Value) : FourAt w (W.setRow (w.heap.size + 2) #[x, y]) a0 a1 b0 b1 := by
  obtain ⟨p, q, hc⟩ := h.c
  obtain ⟨r, s, hd⟩ := h.d
  exact ⟨h.a.rowOther _ _ (by omega), h.b.rowOther _ _ (by omega), ⟨x, y, hc.row _⟩, ⟨r, s, hd.rowOther _ _ (by omega)⟩, Below.setRow h.below _ (by omega) _⟩
theorem FourAt.setD {w W : World} {a0 a1 b0 b1 : Value} (h : FourAt w W a0 a1 b0 b1) (x y : Value) : FourAt w (W.setRow (w.heap.size + 3) #[x, y]) a0 a1 b0 b1 := by
  obtain ⟨p, q, hc⟩ := h.c
  obtain ⟨r, s, hd⟩ := h.d
  exact ⟨h.a.rowOther _ _ (by omega), h.b.rowOther _ _ (by omega), ⟨p, q, hc.rowOther _ _ (by omega)⟩, ⟨x, y, hd.row _⟩, Below.setRow h.below _ (by omega) _⟩
set_option maxRecDepth 100000 in
set_option maxHeartbeats 2000000 in
theorem behind_row (st A0 A1 B0 B1 : Nat) (_hst : st ≤ 4) (_h0 : A0 < 5) (_h1 : A1 < 5) (_h2 : B0 < 5) (_h3 : B1 < 5) (hr : A0 = B0) (w : World) : Calls Try.prog 52 #[.agg #[.int .i64 (A0 : Nat), .int .i64 (A1 : Nat)], .agg #[.int .i64 (B0 : Nat), .int .i64 (B1 : Nat)], .int .i64 (st : Nat)] w fun e w' => e = .returned (.tuple #[.agg #[.int .i64 ((A0 : Nat) : Int), .int .i64 (((A1 + st) % 5 : Nat) : Int)], .agg #[.int .i64 ((B0 : Nat) : Int), .int .i64 (((B1 + st) % 5 : Nat) : Int)]]) ∧ Below w.heap.size w w' := by
  subst hr
  go_enter Try.func52, Try.ntmps52
  go_wp2_with fail
  refine wp_region_noPanic ?_
  refine wp_region_held_drew (S := fun W => FourAt w W (.int .i64 (A0 : Nat)) (.int .i64 (A1 : Nat)) (.int .i64 (A0 : Nat)) (.int .i64 (B1 : Nat))) (by kernel_rfl) (FourAt.new w _ _ _ _ _ _ _ _).drew (fun hS => ?_)
  refine vtake 0 14 (.pointer (some ⟨w.heap.size, 0, none⟩)) rfl rfl (by kernel_rfl) (by kernel_rfl) (by kernel_rfl) (fun _ _ _ _ h => h) (by rfl) (fun W hW => by clear hS hW; go_simp) hS ?_
  simp only [List.setIfInBounds_toArray, List.set_cons_succ, List.set_cons_zero]
  refine vtake 1 15 (.int .i64 ((A0 : Nat) : Int)) rfl rfl (by kernel_rfl) (by kernel_rfl) (by kernel_rfl) (fun _ _ _ _ h => h) (by rfl) (fun W hW => by have u := hW.a.cell (i := 0) rfl; clear hS hW; go_simp) hS ?_
  simp only [List.setIfInBounds_toArray, List.set_cons_succ, List.set_cons_zero]
  refine vtake 2 16 (.pointer (some ⟨w.heap.size, 1, none⟩)) rfl rfl (by kernel_rfl) (by kernel_rfl) (by kernel_rfl) (fun _ _ _ _ h => h) (by rfl) (fun W hW => by clear hS hW; go_simp) hS ?_
  simp only [List.setIfInBounds_toArray, List.set_cons_succ, List.set_cons_zero]
  refine vtake 3 17 (.int .i64 ((A1 : Nat) : Int)) rfl rfl (by kernel_rfl) (by kernel_rfl) (by kernel_rfl) (fun _ _ _ _ h => h) (by rfl) (fun W hW => by have u := hW.a.cell (i := 1) rfl; clear hS hW; go_simp) hS ?_
  simp only [List.setIfInBounds_toArray, List.set_cons_succ, List.set_cons_zero]
  refine vtake 4 18 (.int .i64 ((st : Nat) : Int)) rfl rfl (by kernel_rfl) (by kernel_rfl) (by kernel_rfl) (fun _ _ _ _ h => h) (by rfl) (fun W hW => by clear hS hW; go_simp) hS ?_
  simp only [List.setIfInBounds_toArray, List.set_cons_succ, List.set_cons_zero]
  refine vtake 5 19 (.int .i64 ((A1 + st : Nat) : Int)) rfl rfl (by kernel_rfl) (by kernel_rfl) (by kernel_rfl) (fun _ _ _ _ h => h) (by rfl) (fun W hW => by clear hS hW; go_simp; exact IntWalk.i64_in _ (by omega)) hS ?_
  simp only [List.setIfInBounds_toArray, List.set_cons_succ, List.set_cons_zero]
  refine vtake 6 20 (.int .i64 (((A1 + st) % 5 : Nat) : Int)) rfl rfl (by kernel_rfl) (by kernel_rfl) (by kernel_rfl) (fun _ _ _ _ h => h) (by rfl) (fun W hW => by clear hS hW; go_simp; exact Int.tmod_eq_emod_of_nonneg (by omega)) hS ?_
  simp only [List.setIfInBounds_toArray, List.set_cons_succ, List.set_cons_zero]
  refine vtake 7 21 (.agg #[.int .i64 ((A0 : Nat) : Int), .int .i64 (((A1 + st) % 5 : Nat) : Int)]) rfl rfl (by kernel_rfl) (by kernel_rfl) (by kernel_rfl) (fun _ _ _ _ h => h) (by rfl) (fun W hW => by clear hS hW; go_simp) hS ?_
  simp only [List.setIfInBounds_toArray, List.set_cons_succ, List.set_cons_zero]
  refine vtake 8 22 (.pointer (some ⟨w.heap.size + 1, 0, none⟩)) rfl rfl (by kernel_rfl) (by kernel_rfl) (by kernel_rfl) (fun _ _ _ _ h => h) (by rfl) (fun W hW => by clear hS hW; go_simp) hS ?_
  simp only [List.setIfInBounds_toArray, List.set_cons_succ, List.set_cons_zero]
  refine vtake 9 23 (.int .i64 ((A0 : Nat) : Int)) rfl rfl (by kernel_rfl) (by kernel_rfl) (by kernel_rfl) (fun _ _ _ _ h => h) (by rfl) (fun W hW => by have u := hW.b.cell (i := 0) rfl; clear hS hW; go_simp) hS ?_
  simp only [List.setIfInBounds_toArray, List.set_cons_succ, List.set_cons_zero]
  refine vtake 10 24 (.pointer (some ⟨w.heap.size + 1, 1, none⟩)) rfl rfl (by kernel_rfl) (by kernel_rfl) (by kernel_rfl) (fun _ _ _ _ h => h) (by rfl) (fun W hW => by clear hS hW; go_simp) hS ?_
  simp only [List.setIfInBounds_toArray, List.set_cons_succ, List.set_cons_zero]
  refine vtake 11 25 (.int .i64 ((B1 : Nat) : Int)) rfl rfl (by kernel_rfl) (by kernel_rfl) (by kernel_rfl) (fun _ _ _ _ h => h) (by rfl) (fun W hW => by have u := hW.b.cell (i := 1) rfl; clear hS hW; go_simp) hS ?_
  simp only [List.setIfInBounds_toArray, List.set_cons_succ, List.set_cons_zero]
  refine vtake 12 26 (.int .i64 ((st : Nat) : Int)) rfl rfl (by kernel_rfl) (by kernel_rfl) (by kernel_rfl) (fun _ _ _ _ h => h) (by rfl) (fun W hW => by clear hS hW; go_simp) hS ?_
  simp only [List.setIfInBounds_toArray, List.set_cons_succ, List.set_cons_zero]
  refine vtake 13 27 (.int .i64 ((B1 + st : Nat) : Int)) rfl rfl (by kernel_rfl) (by kernel_rfl) (by kernel_rfl) (fun _ _ _ _ h => h) (by rfl) (fun W hW => by clear hS hW; go_simp; exact IntWalk.i64_in _ (by omega)) hS ?_
  simp only [List.setIfInBounds_toArray, List.set_cons_succ, List.set_cons_zero]
  refine vtake 14 28 (.int .i64 (((B1 + st) % 5 : Nat) : Int)) rfl rfl (by kernel_rfl) (by kernel_rfl) (by kernel_rfl) (fun _ _ _ _ h => h) (by rfl) (fun W hW => by clear hS hW; go_simp; exact Int.tmod_eq_emod_of_nonneg (by omega)) hS ?_
  simp only [List.setIfInBounds_toArray, List.set_cons_succ, List.set_cons_zero]
  refine vtake 15 29 (.agg #[.int .i64 ((A0 : Nat) : Int), .int .i64 (((B1 + st) % 5 : Nat) : Int)]) rfl rfl (by kernel_rfl) (by kernel_rfl) (by kernel_rfl) (fun _ _ _ _ h => h) (by rfl) (fun W hW => by clear hS hW; go_simp) hS ?_
  simp only [List.setIfInBounds_toArray, List.set_cons_succ, List.set_cons_zero]
  obtain ⟨x0, y0, hc⟩ := hS.c
  refine wpAnyH_ready (rs := [16]) (by kernel_rfl) (by simp) ?_
  refine AllReadyH.cons (o := _) rfl (fun K hK => ?_) AllReadyH.nil
  rw [if_pos (by rfl)]
  refine wp_store_row 63 _ _ rfl (w.heap.size + 2) #[.int .i64 ((A0 : Nat) : Int), .int .i64 (((A1 + st) % 5 : Nat) : Int)] rfl rfl 63 _ hc v_info_place rfl (two_one _ _) ?_
  have hc2 := hc.row #[.int .i64 ((A0 : Nat) : Int), .int .i64 (((A1 + st) % 5 : Nat) : Int)]
  refine hK.out _ _ (hS.setC _ _) (fun hS1 => ?_)
  clear hK hS K
  have hS := hS1
  clear hS1 hc
  obtain ⟨x1, y1, hd⟩ := hS.d
  refine wpAnyH_ready (rs := [17]) (by kernel_rfl) (by simp) ?_
  refine AllReadyH.cons (o := _) rfl (fun K hK => ?_) AllReadyH.nil
  rw [if_pos (by rfl)]
  refine wp_store_row 63 _ _ rfl (w.heap.size + 3) #[.int .i64 ((A0 : Nat) : Int), .int .i64 (((B1 + st) % 5 : Nat) : Int)] rfl rfl 63 _ hd v_info_place rfl (two_one _ _) ?_
  have hd2 := hd.row #[.int .i64 ((A0 : Nat) : Int), .int .i64 (((B1 + st) % 5 : Nat) : Int)]
  have hc3 := hc2.rowOther (w.heap.size + 3) #[.int .i64 ((A0 : Nat) : Int), .int .i64 (((B1 + st) % 5 : Nat) : Int)] (by omega)
  refine hK.out _ _ (hS.setD _ _) (fun hS1 => ?_)
  clear hK hS K
  refine wpAnyH_done (by kernel_rfl) ?_ _
  refine NoPanic.normal ?_
  go_wp2
  refine bodyPost_ret (v := .tuple #[.agg #[.int .i64 ((A0 : Nat) : Int), .int .i64 (((A1 + st) % 5 : Nat) : Int)], .agg #[.int .i64 ((A0 : Nat) : Int), .int .i64 (((B1 + st) % 5 : Nat) : Int)]]) (results_cells2 Try.results52 _ _ _ _ _ _ _ _ _ _ _ _ rfl rfl hc3 hd2 Try.underlying63 rfl v_info_place Try.underlying63 rfl v_info_place) rfl ⟨rfl, hS1.below⟩
set_option maxRecDepth 100000 in
set_option maxHeartbeats 2000000 in
theorem behind_col (st A0 A1 B0 B1 : Nat) (_hst : st ≤ 4) (_h0 : A0 < 5) (_h1 : A1 < 5) (_h2 : B0 < 5) (_h3 : B1 < 5) (hr : A0 ≠ B0) (w : World) : Calls Try.prog 52 #[.agg #[.int .i64 (A0 : Nat), .int .i64 (A1 : Nat)], .agg #[.int .i64 (B0 : Nat), .int .i64 (A1 : Nat)], .int .i64 (st : Nat)] w fun e w' => e = .returned (.tuple #[.agg #[.int .i64 (((A0 + st) % 5 : Nat) : Int), .int .i64 ((A1 : Nat) : Int)], .agg #[.int .i64 (((B0 + st) % 5 : Nat) : Int), .int .i64 ((A1 : Nat) : Int)]]) ∧ Below w.heap.size w w' := by
  have hr2 : ((A0 : Int) == (B0 : Int)) = false := beq_false_of_ne (by omega)
  go_enter Try.func52, Try.ntmps52
  go_wp2_with fail
  refine wp_region_noPanic ?_
  refine wp_region_held_drew (S := fun W => FourAt w W (.int .i64 (A0 : Nat)) (.int .i64 (A1 : Nat)) (.int .i64 (B0 : Nat)) (.int .i64 (A1 : Nat))) (by kernel_rfl) (FourAt.new w _ _ _ _ _ _ _ _).drew (fun hS => ?_)
  refine vtake 0 36 (.pointer (some ⟨w.heap.size, 0, none⟩)) rfl rfl (by kernel_rfl) (by kernel_rfl) (by kernel_rfl) (fun _ _ _ _ h => h) (by rfl) (fun W hW => by clear hS hW; go_simp) hS ?_
  simp only [List.setIfInBounds_toArray, List.set_cons_succ, List.set_cons_zero]
  refine vtake 1 37 (.int .i64 ((A0 : Nat) : Int)) rfl rfl (by kernel_rfl) (by kernel_rfl) (by kernel_rfl) (fun _ _ _ _ h => h) (by rfl) (fun W hW => by have u := hW.a.cell (i := 0) rfl; clear hS hW; go_simp) hS ?_
  simp only [List.setIfInBounds_toArray, List.set_cons_succ, List.set_cons_zero]
  refine vtake 2 38 (.int .i64 ((st : Nat) : Int)) rfl rfl (by kernel_rfl) (by kernel_rfl) (by kernel_rfl) (fun _ _ _ _ h => h) (by rfl) (fun W hW => by clear hS hW; go_simp) hS ?_
  simp only [List.setIfInBounds_toArray, List.set_cons_succ, List.set_cons_zero]
  refine vtake 3 39 (.int .i64 ((A0 + st : Nat) : Int)) rfl rfl (by kernel_rfl) (by kernel_rfl) (by kernel_rfl) (fun _ _ _ _ h => h) (by rfl) (fun W hW => by clear hS hW; go_simp; exact IntWalk.i64_in _ (by omega)) hS ?_
  simp only [List.setIfInBounds_toArray, List.set_cons_succ, List.set_cons_zero]
  refine vtake 4 40 (.int .i64 (((A0 + st) % 5 : Nat) : Int)) rfl rfl (by kernel_rfl) (by kernel_rfl) (by kernel_rfl) (fun _ _ _ _ h => h) (by rfl) (fun W hW => by clear hS hW; go_simp; exact Int.tmod_eq_emod_of_nonneg (by omega)) hS ?_
  simp only [List.setIfInBounds_toArray, List.set_cons_succ, List.set_cons_zero]
  refine vtake 5 41 (.pointer (some ⟨w.heap.size, 1, none⟩)) rfl rfl (by kernel_rfl) (by kernel_rfl) (by kernel_rfl) (fun _ _ _ _ h => h) (by rfl) (fun W hW => by clear hS hW; go_simp) hS ?_
  simp only [List.setIfInBounds_toArray, List.set_cons_succ, List.set_cons_zero]
  refine vtake 6 42 (.int .i64 ((A1 : Nat) : Int)) rfl rfl (by kernel_rfl) (by kernel_rfl) (by kernel_rfl) (fun _ _ _ _ h => h) (by rfl) (fun W hW => by have u := hW.a.cell (i := 1) rfl; clear hS hW; go_simp) hS ?_
  simp only [List.setIfInBounds_toArray, List.set_cons_succ, List.set_cons_zero]
  refine vtake 7 43 (.agg #[.int .i64 (((A0 + st) % 5 : Nat) : Int), .int .i64 ((A1 : Nat) : Int)]) rfl rfl (by kernel_rfl) (by kernel_rfl) (by kernel_rfl) (fun _ _ _ _ h => h) (by rfl) (fun W hW => by clear hS hW; go_simp) hS ?_
  simp only [List.setIfInBounds_toArray, List.set_cons_succ, List.set_cons_zero]
  refine vtake 8 44 (.pointer (some ⟨w.heap.size + 1, 0, none⟩)) rfl rfl (by kernel_rfl) (by kernel_rfl) (by kernel_rfl) (fun _ _ _ _ h => h) (by rfl) (fun W hW => by clear hS hW; go_simp) hS ?_
  simp only [List.setIfInBounds_toArray, List.set_cons_succ, List.set_cons_zero]
  refine vtake 9 45 (.int .i64 ((B0 : Nat) : Int)) rfl rfl (by kernel_rfl) (by kernel_rfl) (by kernel_rfl) (fun _ _ _ _ h => h) (by rfl) (fun W hW => by have u := hW.b.cell (i := 0) rfl; clear hS hW; go_simp) hS ?_
  simp only [List.setIfInBounds_toArray, List.set_cons_succ, List.set_cons_zero]
  refine vtake 10 46 (.int .i64 ((st : Nat) : Int)) rfl rfl (by kernel_rfl) (by kernel_rfl) (by kernel_rfl) (fun _ _ _ _ h => h) (by rfl) (fun W hW => by clear hS hW; go_simp) hS ?_
  simp only [List.setIfInBounds_toArray, List.set_cons_succ, List.set_cons_zero]
  refine vtake 11 47 (.int .i64 ((B0 + st : Nat) : Int)) rfl rfl (by kernel_rfl) (by kernel_rfl) (by kernel_rfl) (fun _ _ _ _ h => h) (by rfl) (fun W hW => by clear hS hW; go_simp; exact IntWalk.i64_in _ (by omega)) hS ?_
  simp only [List.setIfInBounds_toArray, List.set_cons_succ, List.set_cons_zero]
  refine vtake 12 48 (.int .i64 (((B0 + st) % 5 : Nat) : Int)) rfl rfl (by kernel_rfl) (by kernel_rfl) (by kernel_rfl) (fun _ _ _ _ h => h) (by rfl) (fun W hW => by clear hS hW; go_simp; exact Int.tmod_eq_emod_of_nonneg (by omega)) hS ?_
  simp only [List.setIfInBounds_toArray, List.set_cons_succ, List.set_cons_zero]
  refine vtake 13 49 (.pointer (some ⟨w.heap.size + 1, 1, none⟩)) rfl rfl (by kernel_rfl) (by kernel_rfl) (by kernel_rfl) (fun _ _ _ _ h => h) (by rfl) (fun W hW => by clear hS hW; go_simp) hS ?_
  simp only [List.setIfInBounds_toArray, List.set_cons_succ, List.set_cons_zero]
  refine vtake 14 50 (.int .i64 ((A1 : Nat) : Int)) rfl rfl (by kernel_rfl) (by kernel_rfl) (by kernel_rfl) (fun _ _ _ _ h => h) (by rfl) (fun W hW => by have u := hW.b.cell (i := 1) rfl; clear hS hW; go_simp) hS ?_
  simp only [List.setIfInBounds_toArray, List.set_cons_succ, List.set_cons_zero]
  refine vtake 15 51 (.agg #[.int .i64 (((B0 + st) % 5 : Nat) : Int), .int .i64 ((A1 : Nat) : Int)]) rfl rfl (by kernel_rfl) (by kernel_rfl) (by kernel_rfl) (fun _ _ _ _ h => h) (by rfl) (fun W hW => by clear hS hW; go_simp) hS ?_
  simp only [List.setIfInBounds_toArray, List.set_cons_succ, List.set_cons_zero]
  obtain ⟨x0, y0, hc⟩ := hS.c
  refine wpAnyH_ready (rs := [16]) (by kernel_rfl) (by simp) ?_
  refine AllReadyH.cons (o := _) rfl (fun K hK => ?_) AllReadyH.nil
  rw [if_pos (by rfl)]
  refine wp_store_row 63 _ _ rfl (w.heap.size + 2) #[.int .i64 (((A0 + st) % 5 : Nat) : Int), .int .i64 ((A1 : Nat) : Int)] rfl rfl 63 _ hc v_info_place rfl (two_one _ _) ?_
  have hc2 := hc.row #[.int .i64 (((A0 + st) % 5 : Nat) : Int), .int .i64 ((A1 : Nat) : Int)]
  refine hK.out _ _ (hS.setC _ _) (fun hS1 => ?_)
  clear hK hS K
  have hS := hS1
  clear hS1 hc
  obtain ⟨x1, y1, hd⟩ := hS.d
  refine wpAnyH_ready (rs := [17]) (by kernel_rfl) (by simp) ?_
  refine AllReadyH.cons (o := _) rfl (fun K hK => ?_) AllReadyH.nil
  rw [if_pos (by rfl)]
  refine wp_store_row 63 _ _ rfl (w.heap.size + 3) #[.int .i64 (((B0 + st) % 5 : Nat) : Int), .int .i64 ((A1 : Nat) : Int)] rfl rfl 63 _ hd v_info_place rfl (two_one _ _) ?_
  have hd2 := hd.row #[.int .i64 (((B0 + st) % 5 : Nat) : Int), .int .i64 ((A1 : Nat) : Int)]
  have hc3 := hc2.rowOther (w.heap.size + 3) #[.int .i64 (((B0 + st) % 5 : Nat) : Int), .int .i64 ((A1 : Nat) : Int)] (by omega)
  refine hK.out _ _ (hS.setD _ _) (fun hS1 => ?_)
  clear hK hS K
  refine wpAnyH_done (by kernel_rfl) ?_ _
  refine NoPanic.normal ?_
  go_wp2
  refine bodyPost_ret (v := .tuple #[.agg #[.int .i64 (((A0 + st) % 5 : Nat) : Int), .int .i64 ((A1 : Nat) : Int)], .agg #[.int .i64 (((B0 + st) % 5 : Nat) : Int), .int .i64 ((A1 : Nat) : Int)]]) (results_cells2 Try.results52 _ _ _ _ _ _ _ _ _ _ _ _ rfl rfl hc3 hd2 Try.underlying63 rfl v_info_place Try.underlying63 rfl v_info_place) rfl ⟨rfl, hS1.below⟩
set_option maxRecDepth 100000 in
set_option maxHeartbeats 2000000 in
theorem behind_far (st A0 A1 B0 B1 : Nat) (_hst : st ≤ 4) (_h0 : A0 < 5) (_h1 : A1 < 5) (_h2 : B0 < 5) (_h3 : B1 < 5) (hr : A0 ≠ B0) (hc : A1 ≠ B1) (w : World) : Calls Try.prog 52 #[.agg #[.int .i64 (A0 : Nat), .int .i64 (A1 : Nat)], .agg #[.int .i64 (B0 : Nat), .int .i64 (B1 : Nat)], .int .i64 (st : Nat)] w fun e w' => e = .returned (.tuple #[.agg #[.int .i64 ((A0 : Nat) : Int), .int .i64 ((B1 : Nat) : Int)], .agg #[.int .i64 ((B0 : Nat) : Int), .int .i64 ((A1 : Nat) : Int)]]) ∧ Below w.heap.size w w' := by
  have hr2 : ((A0 : Int) == (B0 : Int)) = false := beq_false_of_ne (by omega)
  have hc2 : ((A1 : Int) == (B1 : Int)) = false := beq_false_of_ne (by omega)
  go_enter Try.func52, Try.ntmps52
  go_wp2_with fail
  refine wp_region_noPanic ?_
  refine wp_region_held_drew (S := fun W => FourAt w W (.int .i64 (A0 : Nat)) (.int .i64 (A1 : Nat)) (.int .i64 (B0 : Nat)) (.int .i64 (B1 : Nat))) (by kernel_rfl) (FourAt.new w _ _ _ _ _ _ _ _).drew (fun hS => ?_)
  refine vtake 0 52 (.pointer (some ⟨w.heap.size, 0, none⟩)) rfl rfl (by kernel_rfl) (by kernel_rfl) (by kernel_rfl) (fun _ _ _ _ h => h) (by rfl) (fun W hW => by clear hS hW; go_simp) hS ?_
  simp only [List.setIfInBounds_toArray, List.set_cons_succ, List.set_cons_zero]
  refine vtake 1 53 (.int .i64 ((A0 : Nat) : Int)) rfl rfl (by kernel_rfl) (by kernel_rfl) (by kernel_rfl) (fun _ _ _ _ h => h) (by rfl) (fun W hW => by have u := hW.a.cell (i := 0) rfl; clear hS hW; go_simp) hS ?_
  simp only [List.setIfInBounds_toArray, List.set_cons_succ, List.set_cons_zero]
  refine vtake 2 54 (.pointer (some ⟨w.heap.size + 1, 1, none⟩)) rfl rfl (by kernel_rfl) (by kernel_rfl) (by kernel_rfl) (fun _ _ _ _ h => h) (by rfl) (fun W hW => by clear hS hW; go_simp) hS ?_
  simp only [List.setIfInBounds_toArray, List.set_cons_succ, List.set_cons_zero]
  refine vtake 3 55 (.int .i64 ((B1 : Nat) : Int)) rfl rfl (by kernel_rfl) (by kernel_rfl) (by kernel_rfl) (fun _ _ _ _ h => h) (by rfl) (fun W hW => by have u := hW.b.cell (i := 1) rfl; clear hS hW; go_simp) hS ?_
  simp only [List.setIfInBounds_toArray, List.set_cons_succ, List.set_cons_zero]
  refine vtake 4 56 (.agg #[.int .i64 ((A0 : Nat) : Int), .int .i64 ((B1 : Nat) : Int)]) rfl rfl (by kernel_rfl) (by kernel_rfl) (by kernel_rfl) (fun _ _ _ _ h => h) (by rfl) (fun W hW => by clear hS hW; go_simp) hS ?_
  simp only [List.setIfInBounds_toArray, List.set_cons_succ, List.set_cons_zero]
  refine vtake 5 57 (.pointer (some ⟨w.heap.size + 1, 0, none⟩)) rfl rfl (by kernel_rfl) (by kernel_rfl) (by kernel_rfl) (fun _ _ _ _ h => h) (by rfl) (fun W hW => by clear hS hW; go_simp) hS ?_
  simp only [List.setIfInBounds_toArray, List.set_cons_succ, List.set_cons_zero]
  refine vtake 6 58 (.int .i64 ((B0 : Nat) : Int)) rfl rfl (by kernel_rfl) (by kernel_rfl) (by kernel_rfl) (fun _ _ _ _ h => h) (by rfl) (fun W hW => by have u := hW.b.cell (i := 0) rfl; clear hS hW; go_simp) hS ?_
  simp only [List.setIfInBounds_toArray, List.set_cons_succ, List.set_cons_zero]
  refine vtake 7 59 (.pointer (some ⟨w.heap.size, 1, none⟩)) rfl rfl (by kernel_rfl) (by kernel_rfl) (by kernel_rfl) (fun _ _ _ _ h => h) (by rfl) (fun W hW => by clear hS hW; go_simp) hS ?_
  simp only [List.setIfInBounds_toArray, List.set_cons_succ, List.set_cons_zero]
  refine vtake 8 60 (.int .i64 ((A1 : Nat) : Int)) rfl rfl (by kernel_rfl) (by kernel_rfl) (by kernel_rfl) (fun _ _ _ _ h => h) (by rfl) (fun W hW => by have u := hW.a.cell (i := 1) rfl; clear hS hW; go_simp) hS ?_
  simp only [List.setIfInBounds_toArray, List.set_cons_succ, List.set_cons_zero]
  refine vtake 9 61 (.agg #[.int .i64 ((B0 : Nat) : Int), .int .i64 ((A1 : Nat) : Int)]) rfl rfl (by kernel_rfl) (by kernel_rfl) (by kernel_rfl) (fun _ _ _ _ h => h) (by rfl) (fun W hW => by clear hS hW; go_simp) hS ?_
  simp only [List.setIfInBounds_toArray, List.set_cons_succ, List.set_cons_zero]
  obtain ⟨x0, y0, hc⟩ := hS.c
  refine wpAnyH_ready (rs := [10]) (by kernel_rfl) (by simp) ?_
  refine AllReadyH.cons (o := _) rfl (fun K hK => ?_) AllReadyH.nil
  rw [if_pos (by rfl)]
  refine wp_store_row 63 _ _ rfl (w.heap.size + 2) #[.int .i64 ((A0 : Nat) : Int), .int .i64 ((B1 : Nat) : Int)] rfl rfl 63 _ hc v_info_place rfl (two_one _ _) ?_
  have hc2 := hc.row #[.int .i64 ((A0 : Nat) : Int), .int .i64 ((B1 : Nat) : Int)]
  refine hK.out _ _ (hS.setC _ _) (fun hS1 => ?_)
  clear hK hS K
  have hS := hS1
  clear hS1 hc
  obtain ⟨x1, y1, hd⟩ := hS.d
  refine wpAnyH_ready (rs := [11]) (by kernel_rfl) (by simp) ?_
  refine AllReadyH.cons (o := _) rfl (fun K hK => ?_) AllReadyH.nil
  rw [if_pos (by rfl)]
  refine wp_store_row 63 _ _ rfl (w.heap.size + 3) #[.int .i64 ((B0 : Nat) : Int), .int .i64 ((A1 : Nat) : Int)] rfl rfl 63 _ hd v_info_place rfl (two_one _ _) ?_
  have hd2 := hd.row #[.int .i64 ((B0 : Nat) : Int), .int .i64 ((A1 : Nat) : Int)]
  have hc3 := hc2.rowOther (w.heap.size + 3) #[.int .i64 ((B0 : Nat) : Int), .int .i64 ((A1 : Nat) : Int)] (by omega)
  refine hK.out _ _ (hS.setD _ _) (fun hS1 => ?_)
  clear hK hS K
  refine wpAnyH_done (by kernel_rfl) ?_ _
  refine NoPanic.normal ?_
  go_wp2
  refine bodyPost_ret (v := .tuple #[.agg #[.int .i64 ((A0 : Nat) : Int), .int .i64 ((B1 : Nat) : Int)], .agg #[.int .i64 ((B0 : Nat) : Int), .int .i64 ((A1 : Nat) : Int)]]) (results_cells2 Try.results52 _ _ _ _ _ _ _ _ _ _ _ _ rfl rfl hc3 hd2 Try.underlying63 rfl v_info_place Try.underlying63 rfl v_info_place) rfl ⟨rfl, hS1.below⟩
/-- A place of the square. -/
def plV (n : Nat) : Value := .agg #[.int .i64 ((n / 5 : Nat) : Int), .int .i64 ((n % 5 : Nat) : Int)]
theorem plV_mk (a b : Nat) (hb : b < 5) : plV (5 * a + b) = .agg #[.int .i64 ((a : Nat) : Int), .int .i64 ((b : Nat) : Int)] := by
  unfold plV
  rw [show (5 * a + b) / 5 = a by omega, show (5 * a + b) % 5 = b by omega]
theorem behind_any (st i j : Nat) (hst : st ≤ 4) (hi : i < 25) (hj : j < 25) (w : World) : Calls Try.prog 52 #[plV i, plV j, .int .i64 (st : Nat)] w fun e w' => e = .returned (.tuple #[plV (movP st i j).1, plV (movP st i j).2]) ∧ Below w.heap.size w w' := by
  have a1 : i / 5 < 5 := by omega
  have a2 : i % 5 < 5 := by omega
  have b1 : j / 5 < 5 := by omega
  have b2 : j % 5 < 5 := by omega
  unfold movP
  by_cases h1 : i / 5 = j / 5
  · rw [if_pos h1, plV_mk _ _ (by omega), plV_mk _ _ (by omega)]
    exact behind_row st (i / 5) (i % 5) (j / 5) (j % 5) hst a1 a2 b1 b2 h1 w
  · rw [if_neg h1]
    by_cases h2 : i % 5 = j % 5
    · rw [if_pos h2, plV_mk _ _ (by omega), plV_mk _ _ (by omega)]
      have := behind_col st (i / 5) (i % 5) (j / 5) (j % 5) hst a1 a2 b1 b2 h1 w
      unfold plV
      rw [← h2]
      exact this
    · rw [if_neg h2, plV_mk _ _ (by omega), plV_mk _ _ (by omega)]
      exact behind_far st (i / 5) (i % 5) (j / 5) (j % 5) hst a1 a2 b1 b2 h1 h2 w
end Go.Proofs.Ytmabamlhhmjbaad
