/-
  Contract of the document's Sum (chapter 13).
-/
import Derived.Test.YtbcjblakknfhmaaTeK
namespace Go.Proofs.Ytbcjblakknfhmaa
open Go.RowKit PK Tl

set_option maxRecDepth 100000 in
set_option maxHeartbeats 2000000 in
theorem rsum_any (a b : Nat) (ha : a < 32) (hb : b < 32) (w : World) : Calls Try.prog 28 #[.int .i64 (a : Nat), .int .i64 (b : Nat)] w fun e w' => e = .returned (.int .i64 ((a ^^^ b : Nat) : Int)) ∧ Below w.heap.size w w' := by
  have HS := (show Hid (∀ j, j < 5 → (a ^^^ b) % 2 ^ (j + 1) = (a ^^^ b) % 2 ^ j + if a / 2 ^ j % 2 = b / 2 ^ j % 2 then 0 else 2 ^ j) from fun j hj => sum_step a ha b hb j hj)
  have HX := (show Hid ((a ^^^ b) % 2 ^ 5 = a ^^^ b) from Nat.mod_eq_of_lt (xor_lt32 ha hb))
  generalize a ^^^ b = X at *
  go_enter Try.func28, Try.ntmps28
  go_wp2_with fail
  go_loopw [5, 6] (fun n k W => ∃ (j N K : Nat), j ≤ 5 ∧ n = .int .i64 (N : Nat) ∧ k = .int .i64 (K : Nat) ∧ Hid (K = 2 ^ j ∧ N = X % 2 ^ j) ∧ Below w.heap.size w W) (fun _ k _ => ((32 : Int) - intOf k).toNat)
  case atStart => exact ⟨0, 0, 1, by omega, rfl, rfl, ⟨rfl, (Nat.mod_one X).symm⟩, Below.refl _ _⟩
  case round =>
    obtain ⟨j, N, K, hj, rfl, rfl, HJ, hbe⟩ := hrel
    by_cases hlt : j < 5
    · have HLT : Hid (j < 5) := hlt
      have hk : 1 ≤ K ∧ K ≤ 16 := by
        have := HJ.out.1
        rcases (by omega : j = 0 ∨ j = 1 ∨ j = 2 ∨ j = 3 ∨ j = 4) with rfl | rfl | rfl | rfl | rfl <;> subst this <;> decide
      have hN : N < 32 := by
        have := HJ.out.2
        have h2 : X % 2 ^ j < 2 ^ j := Nat.mod_lt _ (Nat.two_pow_pos _)
        rw [← HJ.out.1] at h2 this
        omega
      have hk0 : ((K : Int) == 0) = false := by simp; omega
      have hkn : ¬ (K : Int) = 0 := by omega
      have hk32 : (K : Int) < 32 := by omega
      have HNX := (show Hid (X % 2 ^ (j + 1) = N + if a / K % 2 = b / K % 2 then 0 else K) from by have := HS.out j hlt; rw [← HJ.out.1] at this; rw [Hid]; rw [← HJ.out.1] at HJ; rw [this, HJ.out.2])
      have HKK := (show Hid (2 * K = 2 ^ (j + 1)) from by rw [Hid, HJ.out.1, Nat.pow_succ]; omega)
      have hqa : (a : Int) / (K : Int) = ((a / K : Nat) : Int) := by push_cast; rfl
      have hqb : (b : Int) / (K : Int) = ((b / K : Nat) : Int) := by push_cast; rfl
      have hqa2 : (a : Int).tdiv (K : Int) = ((a / K : Nat) : Int) := by rw [Int.tdiv_eq_ediv_of_nonneg (by omega), hqa]
      have hqb2 : (b : Int).tdiv (K : Int) = ((b / K : Nat) : Int) := by rw [Int.tdiv_eq_ediv_of_nonneg (by omega), hqb]
      have hla32 : a / K ≤ a := Nat.div_le_self _ _
      have hlb32 : b / K ≤ b := Nat.div_le_self _ _
      generalize a / K = qa at *
      generalize b / K = qb at *
      have hda : (qa : Int).tmod 2 = ((qa % 2 : Nat) : Int) := by rw [Int.tmod_eq_emod_of_nonneg (by omega)]; push_cast; rfl
      have hdb : (qb : Int).tmod 2 = ((qb % 2 : Nat) : Int) := by rw [Int.tmod_eq_emod_of_nonneg (by omega)]; push_cast; rfl
      have hda2 : (qa : Int) % 2 = ((qa % 2 : Nat) : Int) := by push_cast; rfl
      have hdb2 : (qb : Int) % 2 = ((qb % 2 : Nat) : Int) := by push_cast; rfl
      have hla := Nat.mod_lt qa (show 0 < 2 by decide)
      have hlb := Nat.mod_lt qb (show 0 < 2 by decide)
      generalize qa % 2 = x at *
      generalize qb % 2 = y at *
      clear hlt HS HJ HX
      by_cases hxy : x = y
      · have hxb : (((x : Nat) : Int) != ((y : Nat) : Int)) = false := by simp [hxy]
        rw [if_pos hxy, Nat.add_zero] at HNX
        have HBE := (show Hid _ from hbe)
        clear hxy hbe
        go_wp2_with fail
        go_quiet (fail)
        go_wp2
        go_roundw
        case rel => exact ⟨j + 1, N, 2 * K, HLT.out, rfl, by go_num, ⟨HKK.out, HNX.out.symm⟩, ⟨HBE.out.os, HBE.out.tape, HBE.out.output, HBE.out.size, HBE.out.block⟩⟩
        case measure => simp [intOf]; omega
      · have hxb : (((x : Nat) : Int) != ((y : Nat) : Int)) = true := by simp; omega
        rw [if_neg hxy] at HNX
        have HBE := (show Hid _ from hbe)
        clear hxy hbe
        go_wp2_with fail
        go_quiet (fail)
        go_wp2
        go_roundw
        case rel => exact ⟨j + 1, N + K, 2 * K, HLT.out, by go_num, by go_num, ⟨HKK.out, HNX.out.symm⟩, ⟨HBE.out.os, HBE.out.tape, HBE.out.output, HBE.out.size, HBE.out.block⟩⟩
        case measure => simp [intOf]; omega
    · obtain rfl : j = 5 := by omega
      have hK : K = 32 := HJ.out.1
      subst hK
      have HN : Hid (N = X) := HJ.out.2.trans HX.out
      clear HJ HX HS
      go_wp2
      go_ret
      exact ⟨by rw [HN.out]; rfl, hbe⟩
end Go.Proofs.Ytbcjblakknfhmaa
