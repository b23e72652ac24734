/-
  Contract of tally.far.
-/
import Derived.Test.YteomoeaoboaclaeNRCh
import Derived.Test.YteomoeaoboaclaeNRCo
namespace Go.Proofs.Yteomoeaoboaclae
open Go.RowKit PK Vg Tl Fl

set_option maxRecDepth 100000 in
set_option maxHeartbeats 2000000 in
theorem tfa_any (C : Nat → Nat) (z : Nat) (hz0 : z ≠ 0) (hz1 : z ≤ 65536) (hC : ∀ c, c < 26 → C c ≤ 65536) (F : Nat → Nat) (hF : ∀ c, c < 26 → Wt (F c)) (s : Nat) (hs : s < 26) (w : World) : Calls Try.prog 31 #[.agg (ints 26 fun c => (C c : Nat)), .int .i64 (z : Nat), .agg (flts F), .int .i64 (s : Nat)] w fun e w' => e = .returned (.float .f64 (far C z F s)) ∧ Below w.heap.size w w' := by
  have h3 : (2 : Nat) ^ 40 = 1099511627776 := by decide
  have HC : Hid (∀ c, c < 26 → C c < 2 ^ 40) := fun c hc => by have := hC c hc; omega
  have hzz : z < 2 ^ 40 := by omega
  have HF := (show Hid (∀ m, m < 26 → D.mul (floatOfInt .f64 (z : Int)) (F m) = some (wantB z (F m)) ∧ D.sub (floatOfInt .f64 (C ((m + s) % 26) : Int)) (wantB z (F m)) = some (difB (C ((m + s) % 26)) z (F m)) ∧ D.mul (difB (C ((m + s) % 26)) z (F m)) (difB (C ((m + s) % 26)) z (F m)) = some (sqB (C ((m + s) % 26)) z (F m)) ∧ D.div (sqB (C ((m + s) % 26)) z (F m)) (wantB z (F m)) = some (quoB (C ((m + s) % 26)) z (F m)) ∧ D.add (farTo C z F s m) (quoB (C ((m + s) % 26)) z (F m)) = some (farTo C z F s (m + 1))) from fun m hm => ⟨(want_eq hz0 hzz (hF m hm)).1, (dif_eq hz0 hzz (HC.out _ (Nat.mod_lt _ (by decide))) (hF m hm)).1, (sq_eq hz0 hzz (HC.out _ (Nat.mod_lt _ (by decide))) (hF m hm)).1, (quo_eq hz0 hzz (HC.out _ (Nat.mod_lt _ (by decide))) (hF m hm)).1, farTo_eq hz0 hzz HC.out hF s hm⟩)
  have HALL : Hid (far C z F s = farTo C z F s 26) := rfl
  have hcr := (RowAt.new w 22 (ints 26 fun c => ((C c : Nat) : Int))).alloc (.cells (flts F) 36)
  have hfr := RowAt.new (w.alloc (.cells (ints 26 fun c => ((C c : Nat) : Int)) 22)) 36 (flts F)
  have hbe := ((Below.refl _ w).alloc (Nat.le_refl _) (.cells (ints 26 fun c => ((C c : Nat) : Int)) 22)).alloc (by simp only [World.size_alloc]; omega) (.cells (flts F) 36)
  simp only [World.size_alloc] at hfr
  clear hF hzz
  go_enter Try.func31, Try.ntmps31
  go_wp2_with (first | refine wpList_load_row rfl 36 _ rfl (w.heap.size + 1) rfl 36 (flts F) (0, 0) _ hfr Try.underlying36 rfl (by rw [flts_size]; exact v_size_w) ?_)
  generalize ((w.alloc (.cells (ints 26 fun c => ((C c : Nat) : Int)) 22)).alloc (.cells (flts F) 36)) = V at *
  go_loopw [17, 9] (fun i x W => ∃ m : Nat, m ≤ 26 ∧ i = .int .i64 (m : Nat) ∧ x = .float .f64 (farTo C z F s m) ∧ V = W) (fun i _ _ => ((26 : Int) - intOf i).toNat)
  case atStart => exact ⟨0, by omega, rfl, rfl, rfl⟩
  case round =>
    obtain ⟨m, hm, rfl, rfl, rfl⟩ := hrel
    by_cases hlt : m < 26
    · have hlt2 : (m : Int) < 26 := by omega
      obtain ⟨e1, e2, e3, e4, e5⟩ := HF.out m hlt
      have r1 := run_mul (P := Try.prog) 35 e1
      have r2 := run_sub (P := Try.prog) 35 e2
      have r3 := run_mul (P := Try.prog) 35 e3
      have r4 := run_quo (P := Try.prog) 35 e4
      have r5 := run_add (P := Try.prog) 35 e5
      have hidx := run_index_flts F m hlt
      have hcw := hcr.cell (ints_get (fun c => ((C c : Nat) : Int)) (Nat.mod_lt (m + s) (by decide : 0 < 26)))
      clear e1 e2 e3 e4 e5
      generalize C ((m + s) % 26) = CC at *
      generalize wantB z (F m) = WB at *
      generalize difB CC z (F m) = DB at *
      generalize sqB CC z (F m) = SB at *
      generalize quoB CC z (F m) = QB at *
      go_wp2_with fail
      go_roundw
      case rel => exact ⟨m + 1, by omega, by go_num, rfl, by first | rfl | trivial⟩
      case measure => simp [intOf]; omega
    · obtain rfl : m = 26 := by omega
      go_wp2
      go_ret
      exact ⟨rfl, hbe⟩
end Go.Proofs.Yteomoeaoboaclae
