/-
  Contracts of the document's Wrong, Mod and Times (chapter 3).
-/
import Derived.Test.YtlgjgppojdamiabHOwn
import Derived.Test.YtlgjgppojdamiabHProd
import Derived.Deep.QuietTactic
import Derived.BigQuiet
namespace Go.Proofs.Ytlgjgppojdamiab
open Go.RowKit PK

set_option maxHeartbeats 1000000 in
theorem rw3_any (v : Value) (n : Nat) (L : Nat → Nat) (Z : Nat → Nat → Int) (w : World) (hv : MatAt w v n L Z) :
    Calls Try.prog 18 #[v] w fun e w' => e = .returned (.int .i64 (matErr n L Z)) ∧ w = w' := by
  by_cases h : n < 1 ∨ 4 < n
  · have HR : Hid (matErr n L Z = 5) := by rw [Hid]; unfold matErr; rw [if_pos h]
    obtain ⟨a, cap, rfl, _⟩ := hv.len
    clear hv
    rcases h with h | h
    · have h0 : n = 0 := by omega
      subst h0
      go_enter Try.func18, Try.ntmps18
      go_wp2
      go_ret
      exact ⟨ret_int HR.out.symm, rfl⟩
    · have h1 : ((n : Int) == 0) = false := by simp; omega
      have h2 : (4 : Int) < (n : Int) := by omega
      go_enter Try.func18, Try.ntmps18
      go_wp2
      go_ret
      exact ⟨ret_int HR.out.symm, rfl⟩
  · have HR : Hid (matErr n L Z = firstE (fun r => rowErr (L r) n (Z r)) n) := by rw [Hid]; unfold matErr; rw [if_neg h]
    obtain ⟨b, o, cap, R, rfl, hm, hc, hr⟩ := hv.form (by omega)
    have HC := (show Hid (∀ r, r < n → w.cell? ⟨b, o + r, none⟩ = some (R r)) from hc)
    have HN := (show Hid (∀ r, r < n → NumsAt w (R r) (L r) (Z r)) from hr)
    have h1 : ((n : Int) == 0) = false := by simp; omega
    have h2 : ¬ (4 : Int) < (n : Int) := by omega
    clear hc hr hv
    go_enter Try.func18, Try.ntmps18
    go_wp2
    go_loop [17] (fun i => ∃ m : Nat, m ≤ n ∧ i = .int .i64 m ∧ Hid (firstE (fun r => rowErr (L r) n (Z r)) m = 0)) (fun i => ((n : Int) - intOf i).toNat)
    case atStart => exact ⟨0, by omega, rfl, rfl⟩
    case round =>
      obtain ⟨m, hm, rfl, HS⟩ := hrel
      by_cases hlt : m < n
      · have hc := HC.out m hlt
        have HST : Hid (firstE (fun r => rowErr (L r) n (Z r)) (m + 1) = rowErr (L m) n (Z m)) := firstE_step _ m HS.out
        have hbad : ∀ E : Int, E ≠ 0 → rowErr (L m) n (Z m) = E → matErr n L Z = E := fun E hE he => by
          rw [HR.out, firstE_keep _ (m + 1) (by rw [HST.out, he]; exact hE) n (by omega), HST.out, he]
        have HBAD : Hid (∀ E : Int, E ≠ 0 → rowErr (L m) n (Z m) = E → matErr n L Z = E) := hbad
        clear hbad
        by_cases hl : L m = n
        · obtain ⟨b', o', cap', e', _, hnum⟩ := (HN.out m hlt).form (by omega)
          rw [e'] at hc
          have HNUM := (show Hid (∀ c, c < L m → w.cell? ⟨b', o' + c, none⟩ = some (.int .i64 (Z m c))) from hnum)
          have HRE : Hid (rowErr (L m) n (Z m) = firstE (fun c => numErr (Z m c)) n) := by rw [Hid]; unfold rowErr; rw [if_neg (by simp [hl]), hl]
          rw [hl] at hc HNUM
          clear hnum e'
          go_wp2
          go_loop [28] (fun i => ∃ k : Nat, k ≤ n ∧ i = .int .i64 k ∧ Hid (firstE (fun c => numErr (Z m c)) k = 0)) (fun i => ((n : Int) - intOf i).toNat)
          case atStart => exact ⟨0, by omega, rfl, rfl⟩
          case round =>
            obtain ⟨k, hk, rfl, HK⟩ := hrel
            by_cases hkl : k < n
            · have hcell := HNUM.out k hkl
              have HKS : Hid (firstE (fun c => numErr (Z m c)) (k + 1) = numErr (Z m k)) := firstE_step _ k HK.out
              by_cases hx : Z m k < 0 ∨ 26 ≤ Z m k
              · have HV : Hid (matErr n L Z = 3) := by
                  have h3 : firstE (fun c => numErr (Z m c)) (k + 1) = 3 := by rw [HKS.out]; unfold numErr; rw [if_pos hx]
                  exact HBAD.out 3 (by decide) (by rw [HRE.out, firstE_keep _ (k + 1) (by rw [h3]; decide) n (by omega), h3])
                rcases hx with hx | hx
                · go_wp2
                  go_ret
                  exact ⟨ret_int HV.out.symm, rfl⟩
                · have hx0 : ¬ Z m k < 0 := by omega
                  have hx1 : (25 : Int) < Z m k := by omega
                  go_wp2
                  go_ret
                  exact ⟨ret_int HV.out.symm, rfl⟩
              · have HNX : Hid (firstE (fun c => numErr (Z m c)) (k + 1) = 0) := by rw [Hid, HKS.out]; exact (numErr_zero _).2 (by omega)
                have h5 : ¬ Z m k < 0 := by omega
                have h6 : ¬ (25 : Int) < Z m k := by omega
                clear hx
                go_wp2
                exact ⟨⟨k + 1, by omega, by go_num, HNX⟩, by simp [intOf]; omega⟩
            · have HNX : Hid (firstE (fun r => rowErr (L r) n (Z r)) (m + 1) = 0) := by
                rw [Hid, HST.out, HRE.out]
                obtain rfl : k = n := by omega
                exact HK.out
              go_wp2
              exact ⟨⟨m + 1, by omega, by go_num, HNX⟩, by simp [intOf]; omega⟩
        · have HV : Hid (matErr n L Z = 8) := HBAD.out 8 (by decide) (by unfold rowErr; rw [if_pos hl])
          obtain ⟨a', cap', e', _⟩ := (HN.out m hlt).len
          rw [e'] at hc
          have hne : (((L m : Nat) : Int) != (n : Int)) = true := by simp; omega
          generalize L m = lm at *
          clear e'
          go_wp2
          go_ret
          exact ⟨ret_int HV.out.symm, rfl⟩
      · have HE : Hid (matErr n L Z = 0) := by
          rw [Hid, HR.out]
          obtain rfl : m = n := by omega
          exact HS.out
        go_wp2
        go_ret
        exact ⟨ret_int HE.out.symm, rfl⟩
theorem tmod_emod (x : Int) : (if x.tmod 26 < 0 then x.tmod 26 + 26 else x.tmod 26) = x % 26 := by
  rw [Int.tmod_eq_emod]
  split <;> split <;> omega
theorem rmod_any (x : Int) (w : World) : Calls Try.prog 47 #[.int .i64 x] w fun e w' => e = .returned (.int .i64 (x % 26)) ∧ w = w' := by
  have hE := tmod_emod x
  have hlo : -26 < x.tmod 26 ∧ x.tmod 26 < 26 := by
    rw [Int.tmod_eq_emod]
    split <;> omega
  have HE : Hid (∀ t, t = x.tmod 26 → (if t < 0 then t + 26 else t) = x % 26) := fun t ht => by rw [ht]; exact hE
  clear hE
  obtain ⟨t, ht⟩ : ∃ t, t = x.tmod 26 := ⟨_, rfl⟩
  have HT : Hid (t = x.tmod 26) := ht
  rw [← ht] at hlo
  have ht2 : x.tmod 26 = t := ht.symm
  clear ht
  by_cases hneg : t < 0
  · go_enter Try.func47, Try.ntmps47
    go_wp2
    go_ret
    exact ⟨ret_int (by have := HE.out t HT.out; rw [if_pos hneg] at this; exact this), rfl⟩
  · go_enter Try.func47, Try.ntmps47
    go_wp2
    go_ret
    exact ⟨ret_int (by have := HE.out t HT.out; rw [if_neg (by omega)] at this; exact this), rfl⟩
end Go.Proofs.Ytlgjgppojdamiab
