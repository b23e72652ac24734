/-
  Contracts of tally's small functions: pairs, divisor, greater, wrong.
-/
import Derived.Test.YteomoeaoboaclaeTMath
namespace Go.Proofs.Yteomoeaoboaclae
open Go.RowKit PK Vg Tl

set_option maxRecDepth 100000 in
set_option maxHeartbeats 1000000 in
theorem tpairs_any (n : Nat) (h : n ≤ 65536) (w : World) : Calls Try.prog 40 #[.int .i64 (n : Nat)] w fun e w' => e = .returned (.int .i64 (hp n : Nat)) ∧ w = w' := by
  have h1 := wrap_mul h
  have h2 := wrap_half h
  have hm := mul_bound h
  have HH : Hid (((n * (n - 1) : Nat) : Int) / 2 = ((hp n : Nat) : Int)) := by unfold hp; rw [Hid, Int.natCast_ediv]; rfl
  generalize n * (n - 1) = M at *
  go_enter Try.func40, Try.ntmps40
  go_wp2
  go_ret
  exact ⟨by rw [← HH.out]; rfl, rfl⟩
set_option maxRecDepth 100000 in
set_option maxHeartbeats 1000000 in
theorem tdiv_any (U D : Nat) (hU : U ≤ 4294967296) (hD : D ≤ 4294967296) (w : World) : Calls Try.prog 27 #[.int .i64 (U : Nat), .int .i64 (D : Nat)] w fun e w' => e = .returned (.int .i64 (Nat.gcd U D : Nat)) ∧ Below w.heap.size w w' := by
  go_enter Try.func27, Try.ntmps27
  go_wp2_with fail
  go_loopw [0, 1] (fun a b W => ∃ x y : Nat, a = .int .i64 (x : Nat) ∧ b = .int .i64 (y : Nat) ∧ x ≤ 4294967296 ∧ y ≤ 4294967296 ∧ Hid (Nat.gcd x y = Nat.gcd U D) ∧ Below w.heap.size w W) (fun _ b _ => (intOf b).toNat)
  case atStart => exact ⟨U, D, rfl, rfl, hU, hD, rfl, Below.refl _ _⟩
  case round =>
    obtain ⟨x, y, rfl, rfl, hx, hy, HG, hbv⟩ := hrel
    by_cases hlt : 0 < y
    · have hy0 : ((y : Int) != 0) = true := by simp; omega
      have hy1 : ((y : Int) == 0) = false := beq_false_of_ne (by omega)
      have hy2 : (y : Int) ≠ 0 := by omega
      have hml := Nat.mod_lt x hlt
      have HG2 : Hid (Nat.gcd y (x % y) = Nat.gcd U D) := by rw [Hid, ← HG.out, Nat.gcd_comm x y, ← gcd_step y x, Nat.gcd_comm]
      have hmod : (x : Int) % (y : Int) = ((x % y : Nat) : Int) := by omega
      have HTM : Hid ((x : Int).tmod (y : Int) = ((x % y : Nat) : Int)) := by rw [Hid, Int.tmod_eq_emod_of_nonneg (by omega), hmod]
      clear hmod
      go_wp2_with fail
      go_region
      all_goals (try go_wp2)
      go_roundw
      case rel => exact ⟨y, x % y, rfl, by first | rfl | rw [HTM.out], hy, by omega, HG2.out, hbv.drew⟩
      case measure => simp [intOf]; omega
    · obtain rfl : y = 0 := by omega
      have HY : Hid (x = Nat.gcd U D) := by rw [Hid, ← HG.out, Nat.gcd_zero_right]
      go_wp2
      go_ret
      exact ⟨by rw [← HY.out]; rfl, hbv⟩
set_option maxRecDepth 100000 in
set_option maxHeartbeats 1000000 in
theorem tgr_any (a b c d : Nat) (h1 : a * d < 9223372036854775807) (h2 : c * b < 9223372036854775807) (w : World) : Calls Try.prog 29 #[.agg #[.int .i64 (a : Nat), .int .i64 (b : Nat)], .agg #[.int .i64 (c : Nat), .int .i64 (d : Nat)]] w fun e w' => e = .returned (.bool (decide (c * b < a * d))) ∧ Below w.heap.size w w' := by
  have e1 := wrap_prod h1
  have e2 := wrap_prod h2
  have HE : Hid (decide ((c : Int) * (b : Int) < (a : Int) * (d : Int)) = decide (c * b < a * d)) := by
    rw [Hid, ← Int.natCast_mul, ← Int.natCast_mul]
    by_cases h : c * b < a * d
    · rw [decide_eq_true h, decide_eq_true (by omega)]
    · rw [decide_eq_false h, decide_eq_false (by omega)]
  go_enter Try.func29, Try.ntmps29
  go_wp2
  go_ret
  exact ⟨by rw [← HE.out]; rfl, ((Below.refl _ w).alloc (Nat.le_refl _) _).alloc (by simp only [World.size_alloc]; omega) _⟩
set_option maxRecDepth 100000 in
set_option maxHeartbeats 1000000 in
theorem twrong_run (t : ByteArray) (n E A X Y : Int) (HX : Hid (X = if E ≠ 0 then E else if n < 1 ∨ 64 < n then 3 else 0)) (HY : Hid (Y = if E ≠ 0 then A else 0)) (HT : Hid (∀ W, Calls Try.prog 21 #[.string t] W fun e w' => e = .returned (.agg #[.int .i64 E, .int .i64 A]) ∧ Below W.heap.size W w')) (w : World) : Calls Try.prog 25 #[.string t, .int .i64 n] w fun e w' => e = .returned (.agg #[.int .i64 X, .int .i64 Y]) ∧ Below w.heap.size w w' := by
  go_enter Try.func25, Try.ntmps25
  go_wp2_with fail
  refine (HT.out _).mono ?_
  rintro e W1 ⟨rfl, hb⟩
  have hb1 : Below (w.heap.size + 1) (w.alloc (.cells #[.int .i64 0, .int .i64 0] 25)) W1 := by simpa using hb
  have hz := hb1.size
  simp at hz
  have hb2 := hb1.alloc (by omega) (.cells #[.int .i64 E, .int .i64 A] 25)
  clear hb HT hb1
  obtain ⟨c0, c1, f0, f1, hsz⟩ := Kit.two_cells hb2
  by_cases hE : E = 0
  · have hE2 : (E != 0) = false := by simp [hE]
    have HY2 : Hid (Y = 0) := by rw [Hid, HY.out, if_neg (fun h => h hE)]
    by_cases hn : n < 1 ∨ 64 < n
    · have HX2 : Hid (X = 3) := by rw [Hid, HX.out, if_neg (fun h => h hE), if_pos hn]
      clear hE
      have q := Kit.read_two (.int .i64 3) (.int .i64 0) c0 c1
      by_cases h1 : n < 1
      · go_wp2
        exact bodyPost_ret (v := .agg #[.int .i64 3, .int .i64 0]) (by simp [results, Try.results25, go_sem, q.1, q.2]) rfl ⟨by rw [HX2.out, HY2.out], Kit.below_two hb2 _ _⟩
      · have h3 : 64 < n := by omega
        clear hn
        go_wp2
        exact bodyPost_ret (v := .agg #[.int .i64 3, .int .i64 0]) (by simp [results, Try.results25, go_sem, q.1, q.2]) rfl ⟨by rw [HX2.out, HY2.out], Kit.below_two hb2 _ _⟩
    · have HX2 : Hid (X = 0) := by rw [Hid, HX.out, if_neg (fun h => h hE), if_neg hn]
      clear hE
      have q := Kit.read_two (.int .i64 0) (.int .i64 0) c0 c1
      have h1 : ¬ n < 1 := by omega
      have h3 : ¬ 64 < n := by omega
      clear hn
      go_wp2
      exact bodyPost_ret (v := .agg #[.int .i64 0, .int .i64 0]) (by simp [results, Try.results25, go_sem, q.1, q.2]) rfl ⟨by rw [HX2.out, HY2.out], Kit.below_two hb2 _ _⟩
  · have hE2 : (E != 0) = true := by simp [hE]
    have HX2 : Hid (X = E) := by rw [Hid, HX.out, if_pos hE]
    have HY2 : Hid (Y = A) := by rw [Hid, HY.out, if_pos hE]
    have q := Kit.read_two (.int .i64 E) (.int .i64 A) c0 c1
    clear hE
    go_wp2
    exact bodyPost_ret (v := .agg #[.int .i64 E, .int .i64 A]) (by simp [results, Try.results25, go_sem, q.1, q.2]) rfl ⟨by rw [HX2.out, HY2.out], Kit.below_two hb2 _ _⟩
/-- What wrong says. -/
def wnE (t : List UInt8) (n : Int) : Int := if ckE t ≠ 0 then ckE t else if n < 1 ∨ 64 < n then 3 else 0
theorem twrong_any (t : ByteArray) (n : Int) (w : World) : Calls Try.prog 25 #[.string t, .int .i64 n] w fun e w' => e = .returned (.agg #[.int .i64 (wnE t.data.toList n), .int .i64 (ixAt t.data.toList)]) ∧ Below w.heap.size w w' := twrong_run t n _ _ _ _ rfl rfl (fun W => check_all t W) w
end Go.Proofs.Yteomoeaoboaclae
