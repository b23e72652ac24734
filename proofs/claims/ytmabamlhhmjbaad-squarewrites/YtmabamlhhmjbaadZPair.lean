/-
  Contract of the document's Pair.
-/
import Derived.Test.YtmabamlhhmjbaadZLaid
namespace Go.Proofs.Ytmabamlhhmjbaad
open Go.RowKit PK Vg Zq

set_option maxRecDepth 100000 in
set_option maxHeartbeats 2000000 in
theorem rpair_row (bk o cap : Nat) (a1 a2 a b : UInt8) (Y X U n1 n2 : Nat) (hY : Y < 5) (hX : X < 5) (hU : U < 5) (HN1 : Hid (n1 = 5 * Y + (X + 1) % 5)) (HN2 : Hid (n2 = 5 * Y + (U + 1) % 5)) (hn1 : n1 < 25) (hn2 : n2 < 25) (w : World) (H1 : Hid (w.cell? ⟨bk, o + n1, none⟩ = some (.int .u8 a1.toNat))) (H2 : Hid (w.cell? ⟨bk, o + n2, none⟩ = some (.int .u8 a2.toNat)))
    (HA : Hid (Calls Try.prog 53 #[.slice (some ⟨bk, o, none⟩) 25 cap, .int .u8 a.toNat] w fun e w' => e = .returned (.tuple #[.int .i64 (Y : Nat), .int .i64 (X : Nat)]) ∧ w = w')) (HB : Hid (Calls Try.prog 53 #[.slice (some ⟨bk, o, none⟩) 25 cap, .int .u8 b.toNat] w fun e w' => e = .returned (.tuple #[.int .i64 (Y : Nat), .int .i64 (U : Nat)]) ∧ w = w')) :
    Calls Try.prog 43 #[.slice (some ⟨bk, o, none⟩) 25 cap, .int .u8 a.toNat, .int .u8 b.toNat] w fun e w' => e = .returned (.string ⟨#[a1, a2]⟩) ∧ Below w.heap.size w w' := by
  have hm1 : (n1 : Int) < 25 := by omega
  have hm2 : (n2 : Int) < 25 := by omega
  go_enter Try.func43, Try.ntmps43
  go_wp2_with fail
  refine HA.out.mono ?_
  rintro e W1 ⟨rfl, rfl⟩
  go_wp2_with fail
  refine HB.out.mono ?_
  rintro e W1 ⟨rfl, rfl⟩
  go_wp2_with fail
  refine wp_region_noPanic ?_
  refine wp_region_held_drew (S := fun W => Below w.heap.size w W) (by kernel_rfl) (Below.refl _ _).drew (fun hS => ?_)
  refine vtake 0 26 (.slice (some ⟨bk, o, none⟩) 25 cap) rfl rfl (by kernel_rfl) (by kernel_rfl) (by kernel_rfl) (fun _ _ _ _ h => h) (by rfl) (fun W hW => by clear hS hW; go_simp) hS ?_
  simp only [List.setIfInBounds_toArray, List.set_cons_succ, List.set_cons_zero]
  refine vtake 1 27 (.int .i64 ((Y : Nat) : Int)) rfl rfl (by kernel_rfl) (by kernel_rfl) (by kernel_rfl) (fun _ _ _ _ h => h) (by rfl) (fun W hW => by clear hS hW; go_simp) hS ?_
  simp only [List.setIfInBounds_toArray, List.set_cons_succ, List.set_cons_zero]
  refine vtake 2 28 (.int .i64 ((5 * Y : Nat) : Int)) rfl rfl (by kernel_rfl) (by kernel_rfl) (by kernel_rfl) (fun _ _ _ _ h => h) (by rfl) (fun W hW => by clear hS hW; go_simp; exact IntWalk.i64_in _ (by omega)) hS ?_
  simp only [List.setIfInBounds_toArray, List.set_cons_succ, List.set_cons_zero]
  refine vtake 3 29 (.int .i64 ((X : Nat) : Int)) rfl rfl (by kernel_rfl) (by kernel_rfl) (by kernel_rfl) (fun _ _ _ _ h => h) (by rfl) (fun W hW => by clear hS hW; go_simp) hS ?_
  simp only [List.setIfInBounds_toArray, List.set_cons_succ, List.set_cons_zero]
  refine vtake 4 30 (.int .i64 ((X + 1 : Nat) : Int)) rfl rfl (by kernel_rfl) (by kernel_rfl) (by kernel_rfl) (fun _ _ _ _ h => h) (by rfl) (fun W hW => by clear hS hW; go_simp; exact IntWalk.i64_in _ (by omega)) hS ?_
  simp only [List.setIfInBounds_toArray, List.set_cons_succ, List.set_cons_zero]
  refine vtake 5 31 (.int .i64 (((X + 1) % 5 : Nat) : Int)) rfl rfl (by kernel_rfl) (by kernel_rfl) (by kernel_rfl) (fun _ _ _ _ h => h) (by rfl) (fun W hW => by clear hS hW; go_simp; exact Int.tmod_eq_emod_of_nonneg (by omega)) hS ?_
  simp only [List.setIfInBounds_toArray, List.set_cons_succ, List.set_cons_zero]
  refine vtake 6 32 (.int .i64 ((n1 : Nat) : Int)) rfl rfl (by kernel_rfl) (by kernel_rfl) (by kernel_rfl) (fun _ _ _ _ h => h) (by rfl) (fun W hW => by clear hS hW; go_simp; rw [IntWalk.i64_in _ (by omega)]; have := HN1.out; omega) hS ?_
  simp only [List.setIfInBounds_toArray, List.set_cons_succ, List.set_cons_zero]
  refine vtake 7 33 (.pointer (some ⟨bk, o + n1, none⟩)) rfl rfl (by kernel_rfl) (by kernel_rfl) (by kernel_rfl) (fun _ _ _ _ h => h) (by rfl) (fun W hW => by clear hS hW; go_simp) hS ?_
  simp only [List.setIfInBounds_toArray, List.set_cons_succ, List.set_cons_zero]
  refine vtake 8 34 (.int .u8 (a1.toNat : Nat)) rfl rfl (by kernel_rfl) (by kernel_rfl) (by kernel_rfl) (fun _ _ _ _ h => h) (by rfl) (fun W hW => by have u := (hW.cell (p := ⟨bk, o + n1, none⟩) (cell_block H1.out)).trans H1.out; clear hS hW; go_simp) hS ?_
  simp only [List.setIfInBounds_toArray, List.set_cons_succ, List.set_cons_zero]
  refine vtake 9 35 (.slice (some ⟨bk, o, none⟩) 25 cap) rfl rfl (by kernel_rfl) (by kernel_rfl) (by kernel_rfl) (fun _ _ _ _ h => h) (by rfl) (fun W hW => by clear hS hW; go_simp) hS ?_
  simp only [List.setIfInBounds_toArray, List.set_cons_succ, List.set_cons_zero]
  refine vtake 10 36 (.int .i64 ((Y : Nat) : Int)) rfl rfl (by kernel_rfl) (by kernel_rfl) (by kernel_rfl) (fun _ _ _ _ h => h) (by rfl) (fun W hW => by clear hS hW; go_simp) hS ?_
  simp only [List.setIfInBounds_toArray, List.set_cons_succ, List.set_cons_zero]
  refine vtake 11 37 (.int .i64 ((5 * Y : Nat) : Int)) rfl rfl (by kernel_rfl) (by kernel_rfl) (by kernel_rfl) (fun _ _ _ _ h => h) (by rfl) (fun W hW => by clear hS hW; go_simp; exact IntWalk.i64_in _ (by omega)) hS ?_
  simp only [List.setIfInBounds_toArray, List.set_cons_succ, List.set_cons_zero]
  refine vtake 12 38 (.int .i64 ((U : Nat) : Int)) rfl rfl (by kernel_rfl) (by kernel_rfl) (by kernel_rfl) (fun _ _ _ _ h => h) (by rfl) (fun W hW => by clear hS hW; go_simp) hS ?_
  simp only [List.setIfInBounds_toArray, List.set_cons_succ, List.set_cons_zero]
  refine vtake 13 39 (.int .i64 ((U + 1 : Nat) : Int)) rfl rfl (by kernel_rfl) (by kernel_rfl) (by kernel_rfl) (fun _ _ _ _ h => h) (by rfl) (fun W hW => by clear hS hW; go_simp; exact IntWalk.i64_in _ (by omega)) hS ?_
  simp only [List.setIfInBounds_toArray, List.set_cons_succ, List.set_cons_zero]
  refine vtake 14 40 (.int .i64 (((U + 1) % 5 : Nat) : Int)) rfl rfl (by kernel_rfl) (by kernel_rfl) (by kernel_rfl) (fun _ _ _ _ h => h) (by rfl) (fun W hW => by clear hS hW; go_simp; exact Int.tmod_eq_emod_of_nonneg (by omega)) hS ?_
  simp only [List.setIfInBounds_toArray, List.set_cons_succ, List.set_cons_zero]
  refine vtake 15 41 (.int .i64 ((n2 : Nat) : Int)) rfl rfl (by kernel_rfl) (by kernel_rfl) (by kernel_rfl) (fun _ _ _ _ h => h) (by rfl) (fun W hW => by clear hS hW; go_simp; rw [IntWalk.i64_in _ (by omega)]; have := HN2.out; omega) hS ?_
  simp only [List.setIfInBounds_toArray, List.set_cons_succ, List.set_cons_zero]
  refine vtake 16 42 (.pointer (some ⟨bk, o + n2, none⟩)) rfl rfl (by kernel_rfl) (by kernel_rfl) (by kernel_rfl) (fun _ _ _ _ h => h) (by rfl) (fun W hW => by clear hS hW; go_simp) hS ?_
  simp only [List.setIfInBounds_toArray, List.set_cons_succ, List.set_cons_zero]
  refine vtake 17 43 (.int .u8 (a2.toNat : Nat)) rfl rfl (by kernel_rfl) (by kernel_rfl) (by kernel_rfl) (fun _ _ _ _ h => h) (by rfl) (fun W hW => by have u := (hW.cell (p := ⟨bk, o + n2, none⟩) (cell_block H2.out)).trans H2.out; clear hS hW; go_simp) hS ?_
  simp only [List.setIfInBounds_toArray, List.set_cons_succ, List.set_cons_zero]
  clear H1 H2 HA HB HN1 HN2
  refine wpAnyH_ready (rs := [18]) (by kernel_rfl) (by simp) ?_
  refine AllReadyH.cons (o := _) rfl (fun K hK => ?_) AllReadyH.nil
  rw [if_pos (by rfl)]
  go_simp
  refine hK.out _ _ (hS.alloc (by simp) _) (fun hS1 => ?_)
  clear hK hS K
  have hS := hS1
  clear hS1
  have hst := run_string_of_row (P := Try.prog) (w.alloc (.cells #[.int .u8 (a1.toNat : Int), .int .u8 (a2.toNat : Int)] 5)).drew 43 9 5 Try.underlying43 Try.underlying5 Try.underlying9 (g := w.heap.size) (n := 2) (cap := 2) (l := [a1, a2]) rfl ((RowAt.new w 5 _).drew)
  refine wpAnyH_ready (rs := [19]) (by kernel_rfl) (by simp) ?_
  refine AllReadyH.cons (o := _) rfl (fun K hK => ?_) AllReadyH.nil
  rw [if_pos (by rfl)]
  go_simp
  refine hK.out _ _ (hS) (fun hS1 => ?_)
  clear hK hS K
  have hS := hS1
  clear hS1
  refine vtake 20 6 (.string ⟨#[a1, a2]⟩) rfl rfl (by kernel_rfl) (by kernel_rfl) (by kernel_rfl) (fun _ _ _ _ h => h) (by rfl) (fun W hW => by clear hS hW; go_simp) hS ?_
  simp only [List.setIfInBounds_toArray, List.set_cons_succ, List.set_cons_zero]
  refine wpAnyH_done (by kernel_rfl) ?_ _
  refine NoPanic.normal ?_
  go_wp2
  go_ret
  exact ⟨rfl, hS⟩
set_option maxRecDepth 100000 in
set_option maxHeartbeats 2000000 in
theorem rpair_col (bk o cap : Nat) (a1 a2 a b : UInt8) (Y X V n1 n2 : Nat) (hY : Y < 5) (hX : X < 5) (hV : V < 5) (hyv : Y ≠ V) (HN1 : Hid (n1 = 5 * ((Y + 1) % 5) + X)) (HN2 : Hid (n2 = 5 * ((V + 1) % 5) + X)) (hn1 : n1 < 25) (hn2 : n2 < 25) (w : World) (H1 : Hid (w.cell? ⟨bk, o + n1, none⟩ = some (.int .u8 a1.toNat))) (H2 : Hid (w.cell? ⟨bk, o + n2, none⟩ = some (.int .u8 a2.toNat)))
    (HA : Hid (Calls Try.prog 53 #[.slice (some ⟨bk, o, none⟩) 25 cap, .int .u8 a.toNat] w fun e w' => e = .returned (.tuple #[.int .i64 (Y : Nat), .int .i64 (X : Nat)]) ∧ w = w')) (HB : Hid (Calls Try.prog 53 #[.slice (some ⟨bk, o, none⟩) 25 cap, .int .u8 b.toNat] w fun e w' => e = .returned (.tuple #[.int .i64 (V : Nat), .int .i64 (X : Nat)]) ∧ w = w')) :
    Calls Try.prog 43 #[.slice (some ⟨bk, o, none⟩) 25 cap, .int .u8 a.toNat, .int .u8 b.toNat] w fun e w' => e = .returned (.string ⟨#[a1, a2]⟩) ∧ Below w.heap.size w w' := by
  have hyv2 : ((Y : Int) == (V : Int)) = false := beq_false_of_ne (by omega)
  have hm1 : (n1 : Int) < 25 := by omega
  have hm2 : (n2 : Int) < 25 := by omega
  go_enter Try.func43, Try.ntmps43
  go_wp2_with fail
  refine HA.out.mono ?_
  rintro e W1 ⟨rfl, rfl⟩
  go_wp2_with fail
  refine HB.out.mono ?_
  rintro e W1 ⟨rfl, rfl⟩
  go_wp2_with fail
  refine wp_region_noPanic ?_
  refine wp_region_held_drew (S := fun W => Below w.heap.size w W) (by kernel_rfl) (Below.refl _ _).drew (fun hS => ?_)
  refine vtake 0 49 (.slice (some ⟨bk, o, none⟩) 25 cap) rfl rfl (by kernel_rfl) (by kernel_rfl) (by kernel_rfl) (fun _ _ _ _ h => h) (by rfl) (fun W hW => by clear hS hW; go_simp) hS ?_
  simp only [List.setIfInBounds_toArray, List.set_cons_succ, List.set_cons_zero]
  refine vtake 1 50 (.int .i64 ((Y : Nat) : Int)) rfl rfl (by kernel_rfl) (by kernel_rfl) (by kernel_rfl) (fun _ _ _ _ h => h) (by rfl) (fun W hW => by clear hS hW; go_simp) hS ?_
  simp only [List.setIfInBounds_toArray, List.set_cons_succ, List.set_cons_zero]
  refine vtake 2 51 (.int .i64 ((Y + 1 : Nat) : Int)) rfl rfl (by kernel_rfl) (by kernel_rfl) (by kernel_rfl) (fun _ _ _ _ h => h) (by rfl) (fun W hW => by clear hS hW; go_simp; exact IntWalk.i64_in _ (by omega)) hS ?_
  simp only [List.setIfInBounds_toArray, List.set_cons_succ, List.set_cons_zero]
  refine vtake 3 52 (.int .i64 (((Y + 1) % 5 : Nat) : Int)) rfl rfl (by kernel_rfl) (by kernel_rfl) (by kernel_rfl) (fun _ _ _ _ h => h) (by rfl) (fun W hW => by clear hS hW; go_simp; exact Int.tmod_eq_emod_of_nonneg (by omega)) hS ?_
  simp only [List.setIfInBounds_toArray, List.set_cons_succ, List.set_cons_zero]
  refine vtake 4 53 (.int .i64 ((5 * ((Y + 1) % 5) : Nat) : Int)) rfl rfl (by kernel_rfl) (by kernel_rfl) (by kernel_rfl) (fun _ _ _ _ h => h) (by rfl) (fun W hW => by clear hS hW; go_simp; exact IntWalk.i64_in _ (by omega)) hS ?_
  simp only [List.setIfInBounds_toArray, List.set_cons_succ, List.set_cons_zero]
  refine vtake 5 54 (.int .i64 ((X : Nat) : Int)) rfl rfl (by kernel_rfl) (by kernel_rfl) (by kernel_rfl) (fun _ _ _ _ h => h) (by rfl) (fun W hW => by clear hS hW; go_simp) hS ?_
  simp only [List.setIfInBounds_toArray, List.set_cons_succ, List.set_cons_zero]
  refine vtake 6 55 (.int .i64 ((n1 : Nat) : Int)) rfl rfl (by kernel_rfl) (by kernel_rfl) (by kernel_rfl) (fun _ _ _ _ h => h) (by rfl) (fun W hW => by clear hS hW; go_simp; rw [IntWalk.i64_in _ (by omega)]; have := HN1.out; omega) hS ?_
  simp only [List.setIfInBounds_toArray, List.set_cons_succ, List.set_cons_zero]
  refine vtake 7 56 (.pointer (some ⟨bk, o + n1, none⟩)) rfl rfl (by kernel_rfl) (by kernel_rfl) (by kernel_rfl) (fun _ _ _ _ h => h) (by rfl) (fun W hW => by clear hS hW; go_simp) hS ?_
  simp only [List.setIfInBounds_toArray, List.set_cons_succ, List.set_cons_zero]
  refine vtake 8 57 (.int .u8 (a1.toNat : Nat)) rfl rfl (by kernel_rfl) (by kernel_rfl) (by kernel_rfl) (fun _ _ _ _ h => h) (by rfl) (fun W hW => by have u := (hW.cell (p := ⟨bk, o + n1, none⟩) (cell_block H1.out)).trans H1.out; clear hS hW; go_simp) hS ?_
  simp only [List.setIfInBounds_toArray, List.set_cons_succ, List.set_cons_zero]
  refine vtake 9 58 (.slice (some ⟨bk, o, none⟩) 25 cap) rfl rfl (by kernel_rfl) (by kernel_rfl) (by kernel_rfl) (fun _ _ _ _ h => h) (by rfl) (fun W hW => by clear hS hW; go_simp) hS ?_
  simp only [List.setIfInBounds_toArray, List.set_cons_succ, List.set_cons_zero]
  refine vtake 10 59 (.int .i64 ((V : Nat) : Int)) rfl rfl (by kernel_rfl) (by kernel_rfl) (by kernel_rfl) (fun _ _ _ _ h => h) (by rfl) (fun W hW => by clear hS hW; go_simp) hS ?_
  simp only [List.setIfInBounds_toArray, List.set_cons_succ, List.set_cons_zero]
  refine vtake 11 60 (.int .i64 ((V + 1 : Nat) : Int)) rfl rfl (by kernel_rfl) (by kernel_rfl) (by kernel_rfl) (fun _ _ _ _ h => h) (by rfl) (fun W hW => by clear hS hW; go_simp; exact IntWalk.i64_in _ (by omega)) hS ?_
  simp only [List.setIfInBounds_toArray, List.set_cons_succ, List.set_cons_zero]
  refine vtake 12 61 (.int .i64 (((V + 1) % 5 : Nat) : Int)) rfl rfl (by kernel_rfl) (by kernel_rfl) (by kernel_rfl) (fun _ _ _ _ h => h) (by rfl) (fun W hW => by clear hS hW; go_simp; exact Int.tmod_eq_emod_of_nonneg (by omega)) hS ?_
  simp only [List.setIfInBounds_toArray, List.set_cons_succ, List.set_cons_zero]
  refine vtake 13 62 (.int .i64 ((5 * ((V + 1) % 5) : Nat) : Int)) rfl rfl (by kernel_rfl) (by kernel_rfl) (by kernel_rfl) (fun _ _ _ _ h => h) (by rfl) (fun W hW => by clear hS hW; go_simp; exact IntWalk.i64_in _ (by omega)) hS ?_
  simp only [List.setIfInBounds_toArray, List.set_cons_succ, List.set_cons_zero]
  refine vtake 14 63 (.int .i64 ((X : Nat) : Int)) rfl rfl (by kernel_rfl) (by kernel_rfl) (by kernel_rfl) (fun _ _ _ _ h => h) (by rfl) (fun W hW => by clear hS hW; go_simp) hS ?_
  simp only [List.setIfInBounds_toArray, List.set_cons_succ, List.set_cons_zero]
  refine vtake 15 64 (.int .i64 ((n2 : Nat) : Int)) rfl rfl (by kernel_rfl) (by kernel_rfl) (by kernel_rfl) (fun _ _ _ _ h => h) (by rfl) (fun W hW => by clear hS hW; go_simp; rw [IntWalk.i64_in _ (by omega)]; have := HN2.out; omega) hS ?_
  simp only [List.setIfInBounds_toArray, List.set_cons_succ, List.set_cons_zero]
  refine vtake 16 65 (.pointer (some ⟨bk, o + n2, none⟩)) rfl rfl (by kernel_rfl) (by kernel_rfl) (by kernel_rfl) (fun _ _ _ _ h => h) (by rfl) (fun W hW => by clear hS hW; go_simp) hS ?_
  simp only [List.setIfInBounds_toArray, List.set_cons_succ, List.set_cons_zero]
  refine vtake 17 66 (.int .u8 (a2.toNat : Nat)) rfl rfl (by kernel_rfl) (by kernel_rfl) (by kernel_rfl) (fun _ _ _ _ h => h) (by rfl) (fun W hW => by have u := (hW.cell (p := ⟨bk, o + n2, none⟩) (cell_block H2.out)).trans H2.out; clear hS hW; go_simp) hS ?_
  simp only [List.setIfInBounds_toArray, List.set_cons_succ, List.set_cons_zero]
  clear H1 H2 HA HB HN1 HN2
  refine wpAnyH_ready (rs := [18]) (by kernel_rfl) (by simp) ?_
  refine AllReadyH.cons (o := _) rfl (fun K hK => ?_) AllReadyH.nil
  rw [if_pos (by rfl)]
  go_simp
  refine hK.out _ _ (hS.alloc (by simp) _) (fun hS1 => ?_)
  clear hK hS K
  have hS := hS1
  clear hS1
  have hst := run_string_of_row (P := Try.prog) (w.alloc (.cells #[.int .u8 (a1.toNat : Int), .int .u8 (a2.toNat : Int)] 5)).drew 43 9 5 Try.underlying43 Try.underlying5 Try.underlying9 (g := w.heap.size) (n := 2) (cap := 2) (l := [a1, a2]) rfl ((RowAt.new w 5 _).drew)
  refine wpAnyH_ready (rs := [19]) (by kernel_rfl) (by simp) ?_
  refine AllReadyH.cons (o := _) rfl (fun K hK => ?_) AllReadyH.nil
  rw [if_pos (by rfl)]
  go_simp
  refine hK.out _ _ (hS) (fun hS1 => ?_)
  clear hK hS K
  have hS := hS1
  clear hS1
  refine vtake 20 6 (.string ⟨#[a1, a2]⟩) rfl rfl (by kernel_rfl) (by kernel_rfl) (by kernel_rfl) (fun _ _ _ _ h => h) (by rfl) (fun W hW => by clear hS hW; go_simp) hS ?_
  simp only [List.setIfInBounds_toArray, List.set_cons_succ, List.set_cons_zero]
  refine wpAnyH_done (by kernel_rfl) ?_ _
  refine NoPanic.normal ?_
  go_wp2
  go_ret
  exact ⟨rfl, hS⟩
set_option maxRecDepth 100000 in
set_option maxHeartbeats 2000000 in
theorem rpair_far (bk o cap : Nat) (a1 a2 a b : UInt8) (Y X V U n1 n2 : Nat) (hY : Y < 5) (hX : X < 5) (hV : V < 5) (hU : U < 5) (hyv : Y ≠ V) (hxu : X ≠ U) (HN1 : Hid (n1 = 5 * Y + U)) (HN2 : Hid (n2 = 5 * V + X)) (hn1 : n1 < 25) (hn2 : n2 < 25) (w : World) (H1 : Hid (w.cell? ⟨bk, o + n1, none⟩ = some (.int .u8 a1.toNat))) (H2 : Hid (w.cell? ⟨bk, o + n2, none⟩ = some (.int .u8 a2.toNat)))
    (HA : Hid (Calls Try.prog 53 #[.slice (some ⟨bk, o, none⟩) 25 cap, .int .u8 a.toNat] w fun e w' => e = .returned (.tuple #[.int .i64 (Y : Nat), .int .i64 (X : Nat)]) ∧ w = w')) (HB : Hid (Calls Try.prog 53 #[.slice (some ⟨bk, o, none⟩) 25 cap, .int .u8 b.toNat] w fun e w' => e = .returned (.tuple #[.int .i64 (V : Nat), .int .i64 (U : Nat)]) ∧ w = w')) :
    Calls Try.prog 43 #[.slice (some ⟨bk, o, none⟩) 25 cap, .int .u8 a.toNat, .int .u8 b.toNat] w fun e w' => e = .returned (.string ⟨#[a1, a2]⟩) ∧ Below w.heap.size w w' := by
  have hyv2 : ((Y : Int) == (V : Int)) = false := beq_false_of_ne (by omega)
  have hxu2 : ((X : Int) == (U : Int)) = false := beq_false_of_ne (by omega)
  have hm1 : (n1 : Int) < 25 := by omega
  have hm2 : (n2 : Int) < 25 := by omega
  go_enter Try.func43, Try.ntmps43
  go_wp2_with fail
  refine HA.out.mono ?_
  rintro e W1 ⟨rfl, rfl⟩
  go_wp2_with fail
  refine HB.out.mono ?_
  rintro e W1 ⟨rfl, rfl⟩
  go_wp2_with fail
  refine wp_region_noPanic ?_
  refine wp_region_held_drew (S := fun W => Below w.heap.size w W) (by kernel_rfl) (Below.refl _ _).drew (fun hS => ?_)
  refine vtake 0 69 (.slice (some ⟨bk, o, none⟩) 25 cap) rfl rfl (by kernel_rfl) (by kernel_rfl) (by kernel_rfl) (fun _ _ _ _ h => h) (by rfl) (fun W hW => by clear hS hW; go_simp) hS ?_
  simp only [List.setIfInBounds_toArray, List.set_cons_succ, List.set_cons_zero]
  refine vtake 1 70 (.int .i64 ((Y : Nat) : Int)) rfl rfl (by kernel_rfl) (by kernel_rfl) (by kernel_rfl) (fun _ _ _ _ h => h) (by rfl) (fun W hW => by clear hS hW; go_simp) hS ?_
  simp only [List.setIfInBounds_toArray, List.set_cons_succ, List.set_cons_zero]
  refine vtake 2 71 (.int .i64 ((5 * Y : Nat) : Int)) rfl rfl (by kernel_rfl) (by kernel_rfl) (by kernel_rfl) (fun _ _ _ _ h => h) (by rfl) (fun W hW => by clear hS hW; go_simp; exact IntWalk.i64_in _ (by omega)) hS ?_
  simp only [List.setIfInBounds_toArray, List.set_cons_succ, List.set_cons_zero]
  refine vtake 3 72 (.int .i64 ((U : Nat) : Int)) rfl rfl (by kernel_rfl) (by kernel_rfl) (by kernel_rfl) (fun _ _ _ _ h => h) (by rfl) (fun W hW => by clear hS hW; go_simp) hS ?_
  simp only [List.setIfInBounds_toArray, List.set_cons_succ, List.set_cons_zero]
  refine vtake 4 73 (.int .i64 ((n1 : Nat) : Int)) rfl rfl (by kernel_rfl) (by kernel_rfl) (by kernel_rfl) (fun _ _ _ _ h => h) (by rfl) (fun W hW => by clear hS hW; go_simp; rw [IntWalk.i64_in _ (by omega)]; have := HN1.out; omega) hS ?_
  simp only [List.setIfInBounds_toArray, List.set_cons_succ, List.set_cons_zero]
  refine vtake 5 74 (.pointer (some ⟨bk, o + n1, none⟩)) rfl rfl (by kernel_rfl) (by kernel_rfl) (by kernel_rfl) (fun _ _ _ _ h => h) (by rfl) (fun W hW => by clear hS hW; go_simp) hS ?_
  simp only [List.setIfInBounds_toArray, List.set_cons_succ, List.set_cons_zero]
  refine vtake 6 75 (.int .u8 (a1.toNat : Nat)) rfl rfl (by kernel_rfl) (by kernel_rfl) (by kernel_rfl) (fun _ _ _ _ h => h) (by rfl) (fun W hW => by have u := (hW.cell (p := ⟨bk, o + n1, none⟩) (cell_block H1.out)).trans H1.out; clear hS hW; go_simp) hS ?_
  simp only [List.setIfInBounds_toArray, List.set_cons_succ, List.set_cons_zero]
  refine vtake 7 76 (.slice (some ⟨bk, o, none⟩) 25 cap) rfl rfl (by kernel_rfl) (by kernel_rfl) (by kernel_rfl) (fun _ _ _ _ h => h) (by rfl) (fun W hW => by clear hS hW; go_simp) hS ?_
  simp only [List.setIfInBounds_toArray, List.set_cons_succ, List.set_cons_zero]
  refine vtake 8 77 (.int .i64 ((V : Nat) : Int)) rfl rfl (by kernel_rfl) (by kernel_rfl) (by kernel_rfl) (fun _ _ _ _ h => h) (by rfl) (fun W hW => by clear hS hW; go_simp) hS ?_
  simp only [List.setIfInBounds_toArray, List.set_cons_succ, List.set_cons_zero]
  refine vtake 9 78 (.int .i64 ((5 * V : Nat) : Int)) rfl rfl (by kernel_rfl) (by kernel_rfl) (by kernel_rfl) (fun _ _ _ _ h => h) (by rfl) (fun W hW => by clear hS hW; go_simp; exact IntWalk.i64_in _ (by omega)) hS ?_
  simp only [List.setIfInBounds_toArray, List.set_cons_succ, List.set_cons_zero]
  refine vtake 10 79 (.int .i64 ((X : Nat) : Int)) rfl rfl (by kernel_rfl) (by kernel_rfl) (by kernel_rfl) (fun _ _ _ _ h => h) (by rfl) (fun W hW => by clear hS hW; go_simp) hS ?_
  simp only [List.setIfInBounds_toArray, List.set_cons_succ, List.set_cons_zero]
  refine vtake 11 80 (.int .i64 ((n2 : Nat) : Int)) rfl rfl (by kernel_rfl) (by kernel_rfl) (by kernel_rfl) (fun _ _ _ _ h => h) (by rfl) (fun W hW => by clear hS hW; go_simp; rw [IntWalk.i64_in _ (by omega)]; have := HN2.out; omega) hS ?_
  simp only [List.setIfInBounds_toArray, List.set_cons_succ, List.set_cons_zero]
  refine vtake 12 81 (.pointer (some ⟨bk, o + n2, none⟩)) rfl rfl (by kernel_rfl) (by kernel_rfl) (by kernel_rfl) (fun _ _ _ _ h => h) (by rfl) (fun W hW => by clear hS hW; go_simp) hS ?_
  simp only [List.setIfInBounds_toArray, List.set_cons_succ, List.set_cons_zero]
  refine vtake 13 82 (.int .u8 (a2.toNat : Nat)) rfl rfl (by kernel_rfl) (by kernel_rfl) (by kernel_rfl) (fun _ _ _ _ h => h) (by rfl) (fun W hW => by have u := (hW.cell (p := ⟨bk, o + n2, none⟩) (cell_block H2.out)).trans H2.out; clear hS hW; go_simp) hS ?_
  simp only [List.setIfInBounds_toArray, List.set_cons_succ, List.set_cons_zero]
  clear H1 H2 HA HB HN1 HN2
  refine wpAnyH_ready (rs := [14]) (by kernel_rfl) (by simp) ?_
  refine AllReadyH.cons (o := _) rfl (fun K hK => ?_) AllReadyH.nil
  rw [if_pos (by rfl)]
  go_simp
  refine hK.out _ _ (hS.alloc (by simp) _) (fun hS1 => ?_)
  clear hK hS K
  have hS := hS1
  clear hS1
  have hst := run_string_of_row (P := Try.prog) (w.alloc (.cells #[.int .u8 (a1.toNat : Int), .int .u8 (a2.toNat : Int)] 5)).drew 43 9 5 Try.underlying43 Try.underlying5 Try.underlying9 (g := w.heap.size) (n := 2) (cap := 2) (l := [a1, a2]) rfl ((RowAt.new w 5 _).drew)
  refine wpAnyH_ready (rs := [15]) (by kernel_rfl) (by simp) ?_
  refine AllReadyH.cons (o := _) rfl (fun K hK => ?_) AllReadyH.nil
  rw [if_pos (by rfl)]
  go_simp
  refine hK.out _ _ (hS) (fun hS1 => ?_)
  clear hK hS K
  have hS := hS1
  clear hS1
  refine vtake 16 6 (.string ⟨#[a1, a2]⟩) rfl rfl (by kernel_rfl) (by kernel_rfl) (by kernel_rfl) (fun _ _ _ _ h => h) (by rfl) (fun W hW => by clear hS hW; go_simp) hS ?_
  simp only [List.setIfInBounds_toArray, List.set_cons_succ, List.set_cons_zero]
  refine wpAnyH_done (by kernel_rfl) ?_ _
  refine NoPanic.normal ?_
  go_wp2
  go_ret
  exact ⟨rfl, hS⟩
theorem rpair_any (v : Value) (L : List UInt8) (hL : Sq L) (a b : UInt8) (ha : a ∈ L) (hb : b ∈ L) (w : World) (h : BtsAt w v L) : Calls Try.prog 43 #[v, .int .u8 a.toNat, .int .u8 b.toNat] w fun e w' => e = .returned (.string ⟨#[(enc L a b).1, (enc L a b).2]⟩) ∧ Below w.heap.size w w' := by
  have hA := place_any v L (by rw [hL.len]; omega) a ha w h
  have hB := place_any v L (by rw [hL.len]; omega) b hb w h
  have hi := hL.at_lt ha
  have hj := hL.at_lt hb
  obtain ⟨bk, o, cap, rfl, hc⟩ := h.form (by rw [hL.len]; omega)
  rw [hL.len] at hA hB hc ⊢
  have hp := pairP_ok hi hj
  unfold enc
  unfold pairP at hp ⊢
  generalize at' L a = i at *
  generalize at' L b = j at *
  by_cases h1 : i / 5 = j / 5
  · rw [if_pos h1] at hp ⊢
    rw [← h1] at hB hp ⊢
    exact rpair_row bk o cap _ _ a b (i / 5) (i % 5) (j % 5) _ _ (by omega) (by omega) (by omega) rfl rfl hp.1 hp.2.1 w (hc _ hp.1) (hc _ hp.2.1) hA hB
  · rw [if_neg h1] at hp ⊢
    by_cases h2 : i % 5 = j % 5
    · rw [if_pos h2] at hp ⊢
      rw [← h2] at hB hp ⊢
      exact rpair_col bk o cap _ _ a b (i / 5) (i % 5) (j / 5) _ _ (by omega) (by omega) (by omega) h1 rfl rfl hp.1 hp.2.1 w (hc _ hp.1) (hc _ hp.2.1) hA hB
    · rw [if_neg h2] at hp ⊢
      exact rpair_far bk o cap _ _ a b (i / 5) (i % 5) (j / 5) (j % 5) _ _ (by omega) (by omega) (by omega) (by omega) h1 h2 rfl rfl hp.1 hp.2.1 w (hc _ hp.1) (hc _ hp.2.1) hA hB
end Go.Proofs.Ytmabamlhhmjbaad
