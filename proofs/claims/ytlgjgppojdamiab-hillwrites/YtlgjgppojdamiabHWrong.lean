/-
  Contracts of hill.wrongRow and hill.Wrong.
-/
import Derived.Test.YtlgjgppojdamiabChecked
import Derived.Test.YtlgjgppojdamiabHKit
namespace Go.Proofs.Ytlgjgppojdamiab
open Go.RowKit PK

set_option maxHeartbeats 1000000 in
theorem wrongRow_any (v : Value) (l n : Nat) (hn : n ≤ 4) (f : Nat → Int) (w : World) (hv : NumsAt w v l f) :
    Calls Try.prog 40 #[v, .int .i64 (n : Nat)] w fun e w' => e = .returned (.int .i64 (rowErr l n f)) ∧ w = w' := by
  by_cases hl : l = n
  · subst hl
    by_cases h0 : l = 0
    · subst h0
      obtain ⟨a, cap, rfl, _⟩ := hv.len
      go_enter Try.func40, Try.ntmps40
      go_wp2
      go_loop [13] (fun i => i = .int .i64 0) (fun i => (0 - intOf i).toNat)
      case atStart => rfl
      case round =>
        subst hrel
        go_wp2
        go_ret
        exact ⟨rfl, rfl⟩
    · obtain ⟨b, o, cap, rfl, hm, hc⟩ := hv.form (by omega)
      have HC := (show Hid _ from hc)
      have HR : Hid (rowErr l l f = firstE (fun c => numErr (f c)) l) := by rw [Hid]; unfold rowErr; rw [if_neg (by simp)]
      clear hc hv
      go_enter Try.func40, Try.ntmps40
      go_wp2
      go_loop [13] (fun i => ∃ m : Nat, m ≤ l ∧ i = .int .i64 m ∧ Hid (firstE (fun c => numErr (f c)) m = 0)) (fun i => ((l : Int) - intOf i).toNat)
      case atStart => exact ⟨0, by omega, rfl, rfl⟩
      case round =>
        obtain ⟨m, hm, rfl, HS⟩ := hrel
        by_cases hlt : m < l
        · have hc := HC.out m hlt
          have HST := firstE_step _ m HS.out
          by_cases hx : f m < 0 ∨ 26 ≤ f m
          · have HV : Hid (rowErr l l f = 3) := by
              have h3 : firstE (fun c => numErr (f c)) (m + 1) = 3 := by rw [HST]; show numErr (f m) = 3; unfold numErr; rw [if_pos hx]
              rw [Hid, HR.out, firstE_keep _ (m + 1) (by rw [h3]; decide) l (by omega), h3]
            clear HST
            rcases hx with hx | hx
            · go_wp2
              go_ret
              exact ⟨ret_int HV.out.symm, rfl⟩
            · have hx0 : ¬ f m < 0 := by omega
              go_wp2
              go_ret
              exact ⟨ret_int HV.out.symm, rfl⟩
          · have HN : Hid (firstE (fun c => numErr (f c)) (m + 1) = 0) := by rw [Hid, HST]; exact (numErr_zero _).2 (by omega)
            have h1 : ¬ f m < 0 := by omega
            have h2 : ¬ 26 ≤ f m := by omega
            clear HST hx
            go_wp2
            exact ⟨⟨m + 1, by omega, by go_num, HN⟩, by simp [intOf]; omega⟩
        · have HE : Hid (rowErr l l f = 0) := by
            have : m = l := by omega
            rw [Hid, HR.out, ← this]
            exact HS.out
          go_wp2
          go_ret
          exact ⟨ret_int HE.out.symm, rfl⟩
  · have HR : Hid (rowErr l n f = 8) := by rw [Hid]; unfold rowErr; rw [if_pos hl]
    obtain ⟨a, cap, rfl, _⟩ := hv.len
    have hne : ((l : Int) != (n : Int)) = true := by simp; omega
    clear hv
    go_enter Try.func40, Try.ntmps40
    go_wp2
    go_ret
    exact ⟨ret_int HR.out.symm, rfl⟩
set_option maxHeartbeats 1000000 in
theorem hwrong_any (v : Value) (n : Nat) (L : Nat → Nat) (Z : Nat → Nat → Int) (w : World) (hv : MatAt w v n L Z) :
    Calls Try.prog 17 #[v] w fun e w' => e = .returned (.int .i64 (matErr n L Z)) ∧ w = w' := by
  by_cases h : n < 1 ∨ 4 < n
  · have HR : Hid (matErr n L Z = 5) := by rw [Hid]; unfold matErr; rw [if_pos h]
    obtain ⟨a, cap, rfl, _⟩ := hv.len
    clear hv
    rcases h with h | h
    · have h0 : n = 0 := by omega
      subst h0
      go_enter Try.func17, Try.ntmps17
      go_wp2
      go_ret
      exact ⟨ret_int HR.out.symm, rfl⟩
    · have h1 : ¬ (n : Int) < 1 := by omega
      have h2 : (4 : Int) < (n : Int) := by omega
      go_enter Try.func17, Try.ntmps17
      go_wp2
      go_ret
      exact ⟨ret_int HR.out.symm, rfl⟩
  · have HR : Hid (matErr n L Z = firstE (fun r => rowErr (L r) n (Z r)) n) := by rw [Hid]; unfold matErr; rw [if_neg h]
    obtain ⟨b, o, cap, R, rfl, hm, hc, hr⟩ := hv.form (by omega)
    have HC := (show Hid _ from hc)
    have HW : Hid (∀ r, r < n → Calls Try.prog 40 #[R r, .int .i64 (n : Nat)] w fun e w' => e = .returned (.int .i64 (rowErr (L r) n (Z r))) ∧ w = w') := fun r hr' => wrongRow_any (R r) (L r) n (by omega) (Z r) w (hr r hr')
    have h1 : ¬ (n : Int) < 1 := by omega
    have h2 : ¬ (4 : Int) < (n : Int) := by omega
    clear hc hr hv
    go_enter Try.func17, Try.ntmps17
    go_wp2
    go_loop [16] (fun i => ∃ m : Nat, m ≤ n ∧ i = .int .i64 m ∧ Hid (firstE (fun r => rowErr (L r) n (Z r)) m = 0)) (fun i => ((n : Int) - intOf i).toNat)
    case atStart => exact ⟨0, by omega, rfl, rfl⟩
    case round =>
      obtain ⟨m, hm, rfl, HS⟩ := hrel
      by_cases hlt : m < n
      · have hc := HC.out m hlt
        have HST := (show Hid _ from firstE_step _ m HS.out)
        go_wp2_with fail
        refine (HW.out m hlt).mono ?_
        rintro e w1 ⟨rfl, rfl⟩
        rcases rowErr_cases (L m) n (Z m) with h0 | h0
        · have HN : Hid (firstE (fun r => rowErr (L r) n (Z r)) (m + 1) = 0) := HST.out.trans h0
          rw [h0]
          go_wp2
          exact ⟨⟨m + 1, by omega, by go_num, HN⟩, by simp [intOf]; omega⟩
        · have HV : Hid (matErr n L Z = rowErr (L m) n (Z m)) := by
            rw [Hid, HR.out, firstE_keep _ (m + 1) (by rw [HST.out]; simpa using h0) n (by omega)]
            exact HST.out
          generalize rowErr (L m) n (Z m) = E at *
          clear HST HW
          go_wp2
          go_ret
          exact ⟨ret_int HV.out.symm, rfl⟩
      · have HE : Hid (matErr n L Z = 0) := by
          rw [Hid, HR.out]
          obtain rfl : m = n := by omega
          exact HS.out
        go_wp2
        go_ret
        exact ⟨ret_int HE.out.symm, rfl⟩
end Go.Proofs.Ytlgjgppojdamiab
