/-
  Contracts of small functions of chapter 13: the document's Stands, Out, Fair, Sum; tele's wheelWrong, standsWrong, next, textWrong.
-/
import Derived.Test.YtbcjblakknfhmaaTeK
namespace Go.Proofs.Ytbcjblakknfhmaa
open Go.RowKit PK Tl

set_option maxRecDepth 100000 in
set_option maxHeartbeats 2000000 in
theorem rstd_any (a : Option Addr) (l cap : Nat) (x : Int) (w : World) (hl : l ≤ maxLen) : Calls Try.prog 22 #[.slice a l cap, .int .i64 x] w fun e w' => e = .returned (.int .i64 (wE l x)) ∧ w = w' := by
  unfold maxLen at hl
  by_cases h1 : l = 0 ∨ 47 < l
  · have HE : Hid (wE l x = 3) := by unfold wE; rw [Hid, if_pos h1]
    by_cases h2 : l < 1
    · have h3 : (l : Int) < 1 := by omega
      clear h1 h2
      go_enter Try.func22, Try.ntmps22
      go_wp2
      go_ret
      exact ⟨by rw [HE.out]; rfl, rfl⟩
    · have h3 : ¬ (l : Int) < 1 := by omega
      have h4 : (47 : Int) < (l : Int) := by omega
      clear h1 h2
      go_enter Try.func22, Try.ntmps22
      go_wp2
      go_ret
      exact ⟨by rw [HE.out]; rfl, rfl⟩
  · have h3 : ¬ (l : Int) < 1 := by omega
    have h4 : ¬ (47 : Int) < (l : Int) := by omega
    by_cases h5 : x < 0
    · have HE : Hid (wE l x = 8) := by unfold wE; rw [Hid, if_neg h1, if_pos (.inl h5)]
      clear h1
      go_enter Try.func22, Try.ntmps22
      go_wp2
      go_ret
      exact ⟨by rw [HE.out]; rfl, rfl⟩
    · by_cases h6 : (l : Int) ≤ x
      · have HE : Hid (wE l x = 8) := by unfold wE; rw [Hid, if_neg h1, if_pos (.inr h6)]
        clear h1
        go_enter Try.func22, Try.ntmps22
        go_wp2
        go_ret
        exact ⟨by rw [HE.out]; rfl, rfl⟩
      · have HE : Hid (wE l x = 0) := by unfold wE; rw [Hid, if_neg h1, if_neg (by omega)]
        clear h1
        go_enter Try.func22, Try.ntmps22
        go_wp2
        go_ret
        exact ⟨by rw [HE.out]; rfl, rfl⟩
/-- What is wrong with a wheel by itself. -/
def whE (l : Nat) : Int := if l = 0 ∨ 47 < l then 3 else 0
set_option maxRecDepth 100000 in
set_option maxHeartbeats 2000000 in
theorem pwh_any (a : Option Addr) (l cap : Nat) (w : World) (hl : l ≤ maxLen) : Calls Try.prog 38 #[.slice a l cap] w fun e w' => e = .returned (.int .i64 (whE l)) ∧ w = w' := by
  unfold maxLen at hl
  by_cases h1 : l = 0 ∨ 47 < l
  · have HE : Hid (whE l = 3) := by unfold whE; rw [Hid, if_pos h1]
    by_cases h2 : l = 0
    · subst h2
      clear h1
      go_enter Try.func38, Try.ntmps38
      go_wp2
      go_ret
      exact ⟨by rw [HE.out]; rfl, rfl⟩
    · have h3 : ((l : Int) == 0) = false := by simp; omega
      have h4 : (47 : Int) < (l : Int) := by omega
      clear h1 h2
      go_enter Try.func38, Try.ntmps38
      go_wp2
      go_ret
      exact ⟨by rw [HE.out]; rfl, rfl⟩
  · have h3 : ((l : Int) == 0) = false := by simp; omega
    have h4 : ¬ (47 : Int) < (l : Int) := by omega
    have HE : Hid (whE l = 0) := by unfold whE; rw [Hid, if_neg h1]
    clear h1
    go_enter Try.func38, Try.ntmps38
    go_wp2
    go_ret
    exact ⟨by rw [HE.out]; rfl, rfl⟩
set_option maxRecDepth 100000 in
set_option maxHeartbeats 2000000 in
theorem pstd_any (a : Option Addr) (l cap : Nat) (x : Int) (w : World) (hl : l ≤ maxLen) : Calls Try.prog 21 #[.slice a l cap, .int .i64 x] w fun e w' => e = .returned (.int .i64 (wE l x)) ∧ w = w' := by
  have HC := (show Hid _ from pwh_any a l cap w hl)
  unfold maxLen at hl
  by_cases h1 : l = 0 ∨ 47 < l
  · have HE : Hid (wE l x = 3) := by unfold wE; rw [Hid, if_pos h1]
    have e1 : whE l = 3 := by unfold whE; rw [if_pos h1]
    rw [e1] at HC
    clear h1 e1
    go_enter Try.func21, Try.ntmps21
    go_wp2_with fail
    refine Calls.mono HC.out ?_
    rintro e Y ⟨rfl, rfl⟩
    clear HC
    go_wp2
    go_ret
    exact ⟨by rw [HE.out]; rfl, rfl⟩
  · have e1 : whE l = 0 := by unfold whE; rw [if_neg h1]
    rw [e1] at HC
    by_cases h5 : x < 0
    · have HE : Hid (wE l x = 8) := by unfold wE; rw [Hid, if_neg h1, if_pos (.inl h5)]
      clear h1 e1
      go_enter Try.func21, Try.ntmps21
      go_wp2_with fail
      refine Calls.mono HC.out ?_
      rintro e Y ⟨rfl, rfl⟩
      clear HC
      go_wp2
      go_ret
      exact ⟨by rw [HE.out]; rfl, rfl⟩
    · by_cases h6 : (l : Int) ≤ x
      · have HE : Hid (wE l x = 8) := by unfold wE; rw [Hid, if_neg h1, if_pos (.inr h6)]
        clear h1 e1
        go_enter Try.func21, Try.ntmps21
        go_wp2_with fail
        refine Calls.mono HC.out ?_
        rintro e Y ⟨rfl, rfl⟩
        clear HC
        go_wp2
        go_ret
        exact ⟨by rw [HE.out]; rfl, rfl⟩
      · have HE : Hid (wE l x = 0) := by unfold wE; rw [Hid, if_neg h1, if_neg (by omega)]
        clear h1 e1
        go_enter Try.func21, Try.ntmps21
        go_wp2_with fail
        refine Calls.mono HC.out ?_
        rintro e Y ⟨rfl, rfl⟩
        clear HC
        go_wp2
        go_ret
        exact ⟨by rw [HE.out]; rfl, rfl⟩
set_option maxRecDepth 100000 in
set_option maxHeartbeats 2000000 in
theorem pnx_any (a : Option Addr) (l cap x : Nat) (h1 : 1 ≤ l) (h2 : l ≤ 47) (hx : x < l) (w : World) : Calls Try.prog 40 #[.slice a l cap, .int .i64 (x : Nat)] w fun e w' => e = .returned (.int .i64 (((x + 1) % l : Nat) : Int)) ∧ w = w' := by
  have hrem : ((x : Int) + 1).tmod (l : Int) = (((x + 1) % l : Nat) : Int) := by rw [Int.tmod_eq_emod_of_nonneg (by omega)]; push_cast; rfl
  have hl0 : ¬ (l : Int) = 0 := by omega
  have hml := Nat.mod_lt (x + 1) h1
  generalize (x + 1) % l = y at *
  go_enter Try.func40, Try.ntmps40
  go_wp2
  go_ret
  exact ⟨by first | rfl | (rw [← hrem]; rfl), rfl⟩
set_option maxRecDepth 100000 in
set_option maxHeartbeats 2000000 in
theorem rout_any (v : Value) (l : Nat) (p : Nat → Bool) (h1 : 1 ≤ l) (h2 : l ≤ 47) (x s : Nat) (hx : x < 65536) (hs : s ≤ 131072) (w : World) (hv : PinsAt w v l p) : Calls Try.prog 25 #[v, .int .i64 (x : Nat), .int .i64 (s : Nat)] w fun e w' => e = .returned (.int .i64 (if p ((x + s) % l) = true then 1 else 0)) ∧ w = w' := by
  obtain ⟨b, o, cap, rfl, _, hc⟩ := hv.form h1
  have hml := Nat.mod_lt (x + s) h1
  have hcell := hc _ hml
  have hrem : ((x : Int) + (s : Int)).tmod (l : Int) = (((x + s) % l : Nat) : Int) := by rw [Int.tmod_eq_emod_of_nonneg (by omega)]; push_cast; rfl
  have hl0 : ¬ (l : Int) = 0 := by omega
  have hml2 : (((x + s) % l : Nat) : Int) < (l : Int) := by omega
  clear hv hc
  generalize (x + s) % l = y at *
  generalize p y = q at *
  cases q
  · go_enter Try.func25, Try.ntmps25
    go_wp2
    go_ret
    exact ⟨rfl, rfl⟩
  · go_enter Try.func25, Try.ntmps25
    go_wp2
    go_ret
    exact ⟨rfl, rfl⟩
set_option maxRecDepth 100000 in
set_option maxHeartbeats 2000000 in
theorem rfair_any (v : Value) (n : Nat) (f : Nat → Int) (w : World) (hv : NumsAt w v n f) : Calls Try.prog 27 #[v] w fun e w' => e = .returned (.int .i64 (faE n f)) ∧ w = w' := by
  obtain ⟨a, ca, rfl, hmx, hca⟩ := hv
  have HA := (show Hid (∀ c, c < n → ∃ b o, a = some ⟨b, o, none⟩ ∧ w.cell? ⟨b, o + c, none⟩ = some (.int .i64 (f c))) from hca)
  unfold maxLen at hmx
  clear hca
  by_cases h1 : 65536 < n
  · have HE : Hid (faE n f = 5) := by unfold faE; rw [Hid, if_pos h1]
    have h2 : (65536 : Int) < (n : Int) := by omega
    clear h1 HA
    go_enter Try.func27, Try.ntmps27
    go_wp2
    go_ret
    exact ⟨by rw [HE.out]; rfl, rfl⟩
  have HE : Hid (faE n f = firstE (fun c => lE (f c)) n) := by unfold faE; rw [Hid, if_neg h1]
  have h2 : ¬ (65536 : Int) < (n : Int) := by omega
  clear h1
  go_enter Try.func27, Try.ntmps27
  go_wp2_with fail
  go_loopw [10] (fun i W => ∃ m : Nat, m ≤ n ∧ i = .int .i64 m ∧ w = W ∧ Hid (firstE (fun c => lE (f c)) m = 0)) (fun i _ => ((n : Int) - intOf i).toNat)
  case atStart => exact ⟨0, by omega, rfl, rfl, rfl⟩
  case round =>
    obtain ⟨m, hm, rfl, rfl, HZ⟩ := hrel
    by_cases hlt : m < n
    · obtain ⟨b1, o1, e1, c1⟩ := HA.out m hlt
      subst e1
      have HLT : Hid (m < n) := hlt
      have hlt2 : (m : Int) < (n : Int) := by omega
      have HST := (show Hid (firstE (fun c => lE (f c)) (m + 1) = lE (f m)) from firstE_step _ m HZ.out)
      have HKE := (show Hid (firstE (fun c => lE (f c)) (m + 1) ≠ 0 → faE n f = firstE (fun c => lE (f c)) (m + 1)) from fun h => HE.out.trans (firstE_keep _ _ h n hlt))
      generalize f m = x at *
      clear hlt
      by_cases k0 : x < 0
      · have HF : Hid (faE n f = 3) := by
          have : lE x = 3 := by unfold lE; rw [if_pos (.inl k0)]
          rw [this] at HST
          exact (HKE.out (by rw [HST.out]; decide)).trans HST.out
        clear HKE HST
        go_wp2
        go_ret
        exact ⟨by rw [HF.out]; rfl, rfl⟩
      · by_cases k1 : 31 < x
        · have HF : Hid (faE n f = 3) := by
            have : lE x = 3 := by unfold lE; rw [if_pos (.inr k1)]
            rw [this] at HST
            exact (HKE.out (by rw [HST.out]; decide)).trans HST.out
          clear HKE HST
          go_wp2
          go_ret
          exact ⟨by rw [HF.out]; rfl, rfl⟩
        · have HF : Hid (firstE (fun c => lE (f c)) (m + 1) = 0) := by
            have : lE x = 0 := by unfold lE; rw [if_neg (by omega)]
            rw [this] at HST
            exact HST.out
          clear HKE HST
          go_wp2
          go_roundw
          case rel => exact ⟨m + 1, HLT.out, by go_num, by first | rfl | trivial, HF.out⟩
          case measure => have := HLT.out; simp [intOf]; omega
    · obtain rfl : m = n := by omega
      have hnn : ¬ (m : Int) < (m : Int) := by omega
      have HF : Hid (faE m f = 0) := HE.out.trans HZ.out
      clear HE HZ hlt
      go_wp2
      go_ret
      exact ⟨by rw [HF.out]; rfl, rfl⟩
set_option maxRecDepth 100000 in
set_option maxHeartbeats 2000000 in
theorem ptx_any (v : Value) (n : Nat) (f : Nat → Int) (w : World) (hv : NumsAt w v n f) : Calls Try.prog 26 #[v] w fun e w' => e = .returned (.int .i64 (faE n f)) ∧ w = w' := by
  obtain ⟨a, ca, rfl, hmx, hca⟩ := hv
  have HA := (show Hid (∀ c, c < n → ∃ b o, a = some ⟨b, o, none⟩ ∧ w.cell? ⟨b, o + c, none⟩ = some (.int .i64 (f c))) from hca)
  unfold maxLen at hmx
  clear hca
  by_cases h1 : 65536 < n
  · have HE : Hid (faE n f = 5) := by unfold faE; rw [Hid, if_pos h1]
    have h2 : (65536 : Int) < (n : Int) := by omega
    clear h1 HA
    go_enter Try.func26, Try.ntmps26
    go_wp2
    go_ret
    exact ⟨by rw [HE.out]; rfl, rfl⟩
  have HE : Hid (faE n f = firstE (fun c => lE (f c)) n) := by unfold faE; rw [Hid, if_neg h1]
  have h2 : ¬ (65536 : Int) < (n : Int) := by omega
  clear h1
  go_enter Try.func26, Try.ntmps26
  go_wp2_with fail
  go_loopw [10] (fun i W => ∃ m : Nat, m ≤ n ∧ i = .int .i64 m ∧ w = W ∧ Hid (firstE (fun c => lE (f c)) m = 0)) (fun i _ => ((n : Int) - intOf i).toNat)
  case atStart => exact ⟨0, by omega, rfl, rfl, rfl⟩
  case round =>
    obtain ⟨m, hm, rfl, rfl, HZ⟩ := hrel
    by_cases hlt : m < n
    · obtain ⟨b1, o1, e1, c1⟩ := HA.out m hlt
      subst e1
      have HLT : Hid (m < n) := hlt
      have hlt2 : (m : Int) < (n : Int) := by omega
      have HST := (show Hid (firstE (fun c => lE (f c)) (m + 1) = lE (f m)) from firstE_step _ m HZ.out)
      have HKE := (show Hid (firstE (fun c => lE (f c)) (m + 1) ≠ 0 → faE n f = firstE (fun c => lE (f c)) (m + 1)) from fun h => HE.out.trans (firstE_keep _ _ h n hlt))
      generalize f m = x at *
      clear hlt
      by_cases k0 : x < 0
      · have HF : Hid (faE n f = 3) := by
          have : lE x = 3 := by unfold lE; rw [if_pos (.inl k0)]
          rw [this] at HST
          exact (HKE.out (by rw [HST.out]; decide)).trans HST.out
        clear HKE HST
        go_wp2
        go_ret
        exact ⟨by rw [HF.out]; rfl, rfl⟩
      · by_cases k1 : 32 ≤ x
        · have HF : Hid (faE n f = 3) := by
            have : lE x = 3 := by unfold lE; rw [if_pos (.inr (by omega))]
            rw [this] at HST
            exact (HKE.out (by rw [HST.out]; decide)).trans HST.out
          clear HKE HST
          go_wp2
          go_ret
          exact ⟨by rw [HF.out]; rfl, rfl⟩
        · have HF : Hid (firstE (fun c => lE (f c)) (m + 1) = 0) := by
            have : lE x = 0 := by unfold lE; rw [if_neg (by omega)]
            rw [this] at HST
            exact HST.out
          clear HKE HST
          go_wp2
          go_roundw
          case rel => exact ⟨m + 1, HLT.out, by go_num, by first | rfl | trivial, HF.out⟩
          case measure => have := HLT.out; simp [intOf]; omega
    · obtain rfl : m = n := by omega
      have hnn : ¬ (m : Int) < (m : Int) := by omega
      have HF : Hid (faE m f = 0) := HE.out.trans HZ.out
      clear HE HZ hlt
      go_wp2
      go_ret
      exact ⟨by rw [HF.out]; rfl, rfl⟩
end Go.Proofs.Ytbcjblakknfhmaa
