/-
  Contract of the document's Far (chapter 7).
-/
import Derived.Test.YteomoeaoboaclaeNRef
import Derived.Laws.Cover2
import Derived.Laws.FloatArith
namespace Go.Proofs.Yteomoeaoboaclae
open Go.RowKit PK Vg Tl Fl

/-- 26 floats. -/
def flts (W : Nat → Nat) : Array Value := tab 26 fun i => .float .f64 (W i)
theorem flts_size (W : Nat → Nat) : (flts W).size = 26 := tab_size _ _
theorem flts_get (W : Nat → Nat) {i : Nat} (h : i < 26) : (flts W)[i]? = some (.float .f64 (W i)) := tab_get _ h
theorem run_mul {P : Program} (t : TypeId) {x y r : Nat} (h : D.mul x y = some r) (w : World) : (binOp .mul t (.float .f64 x) (.float .f64 y)).run P w = .ok (.float .f64 r) w := run_float_arith w .mul t .f64 x y r h
theorem run_sub {P : Program} (t : TypeId) {x y r : Nat} (h : D.sub x y = some r) (w : World) : (binOp .sub t (.float .f64 x) (.float .f64 y)).run P w = .ok (.float .f64 r) w := run_float_arith w .sub t .f64 x y r h
theorem run_quo {P : Program} (t : TypeId) {x y r : Nat} (h : D.div x y = some r) (w : World) : (binOp .quo t (.float .f64 x) (.float .f64 y)).run P w = .ok (.float .f64 r) w := run_float_arith w .quo t .f64 x y r h
theorem run_add {P : Program} (t : TypeId) {x y r : Nat} (h : D.add x y = some r) (w : World) : (binOp .add t (.float .f64 x) (.float .f64 y)).run P w = .ok (.float .f64 r) w := run_float_arith w .add t .f64 x y r h
set_option maxRecDepth 100000 in
set_option maxHeartbeats 2000000 in
theorem rfar_any (t : ByteArray) (ht : Ls t.data.toList) (h0 : t.size ≠ 0) (hs : t.size ≤ 65536) (W : Nat → Nat) (hW : ∀ c, c < 26 → Wt (W c)) (s : Nat) (hs2 : s < 26) (w : World) : Calls Try.prog 33 #[.string t, .int .i64 (s : Nat), .agg (flts W)] w fun e w' => e = .returned (.float .f64 (far (cnt t.data.toList) t.size W s)) ∧ Below w.heap.size w w' := by
  have HC : Hid (∀ c, cnt t.data.toList c < 2 ^ 40) := fun c => by
    have h1 := cnt_le t.data.toList c
    have h2 := Pl.size_len t
    have h3 : (2 : Nat) ^ 40 = 1099511627776 := by decide
    omega
  have hsz : t.size < 2 ^ 40 := by
    have h3 : (2 : Nat) ^ 40 = 1099511627776 := by decide
    omega
  have HIN := (show Hid (∀ c W, Calls Try.prog 24 #[.string t, .int .i64 (c : Nat)] W fun e w' => e = .returned (.int .i64 (cnt t.data.toList c : Nat)) ∧ W = w') from fun c W => in_any t ht (by omega) c W)
  have HF := (show Hid (∀ m, m < 26 → D.mul (floatOfInt .f64 (t.size : Int)) (W m) = some (wantB t.size (W m)) ∧ D.sub (floatOfInt .f64 (cnt t.data.toList ((m + s) % 26) : Int)) (wantB t.size (W m)) = some (difB (cnt t.data.toList ((m + s) % 26)) t.size (W m)) ∧ D.mul (difB (cnt t.data.toList ((m + s) % 26)) t.size (W m)) (difB (cnt t.data.toList ((m + s) % 26)) t.size (W m)) = some (sqB (cnt t.data.toList ((m + s) % 26)) t.size (W m)) ∧ D.div (sqB (cnt t.data.toList ((m + s) % 26)) t.size (W m)) (wantB t.size (W m)) = some (quoB (cnt t.data.toList ((m + s) % 26)) t.size (W m)) ∧ D.add (farTo (cnt t.data.toList) t.size W s m) (quoB (cnt t.data.toList ((m + s) % 26)) t.size (W m)) = some (farTo (cnt t.data.toList) t.size W s (m + 1))) from fun m hm => ⟨(want_eq h0 hsz (hW m hm)).1, (dif_eq h0 hsz (HC.out _) (hW m hm)).1, (sq_eq h0 hsz (HC.out _) (hW m hm)).1, (quo_eq h0 hsz (HC.out _) (hW m hm)).1, farTo_eq h0 hsz (fun c _ => HC.out c) hW s hm⟩)
  have HALL : Hid (far (cnt t.data.toList) t.size W s = farTo (cnt t.data.toList) t.size W s 26) := rfl
  clear hW h0 hsz
  go_enter Try.func33, Try.ntmps33
  go_wp2_with fail
  go_loopw [7, 8] (fun x i V => ∃ m : Nat, m ≤ 26 ∧ i = .int .i64 (m : Nat) ∧ x = .float .f64 (farTo (cnt t.data.toList) t.size W s m) ∧ w.alloc (.cells (flts W) 36) = V) (fun _ i _ => ((26 : Int) - intOf i).toNat)
  case atStart => exact ⟨0, by omega, rfl, rfl, rfl⟩
  case round =>
    obtain ⟨m, hm, rfl, rfl, rfl⟩ := hrel
    by_cases hlt : m < 26
    · have hlt2 : (m : Int) < 26 := by omega
      obtain ⟨e1, e2, e3, e4, e5⟩ := HF.out m hlt
      have r1 := run_mul (P := Try.prog) 35 e1
      have r2 := run_sub (P := Try.prog) 35 e2
      have r3 := run_mul (P := Try.prog) 35 e3
      have r4 := run_quo (P := Try.prog) 35 e4
      have r5 := run_add (P := Try.prog) 35 e5
      have hcw := (RowAt.new w 36 (flts W)).cell (flts_get W hlt)
      have HI2 := (show Hid (∀ V, Calls Try.prog 24 #[.string t, .int .i64 ((m + s) % 26 : Nat)] V fun e w' => e = .returned (.int .i64 (cnt t.data.toList ((m + s) % 26) : Nat)) ∧ V = w') from HIN.out _)
      clear e1 e2 e3 e4 e5
      generalize cnt t.data.toList ((m + s) % 26) = C at *
      generalize wantB t.size (W m) = WB at *
      generalize difB C t.size (W m) = DB at *
      generalize sqB C t.size (W m) = SB at *
      generalize quoB C t.size (W m) = QB at *
      go_wp2_with fail
      refine (HI2.out _).mono ?_
      rintro e V1 ⟨rfl, rfl⟩
      go_wp2_with fail
      go_roundw
      case rel => exact ⟨m + 1, by omega, by go_num, rfl, by first | rfl | trivial⟩
      case measure => simp [intOf]; omega
    · obtain rfl : m = 26 := by omega
      go_wp2
      go_ret
      exact ⟨rfl, (Below.refl _ w).alloc (Nat.le_refl _) _⟩
end Go.Proofs.Yteomoeaoboaclae
