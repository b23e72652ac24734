/-
  Contract of the document's Leibniz and Det.
-/
import Derived.Test.YtlgjgppojdamiabHLeibM
namespace Go.Proofs.Ytlgjgppojdamiab
open Go.RowKit PK

set_option maxRecDepth 100000 in
set_option maxHeartbeats 2000000 in
theorem leib_any (n : Nat) (h1 : 1 ≤ n) (h4 : n ≤ 4) (Z : Nat → Nat → Int) (hZ : ∀ r, r < n → ∀ c, c < n → 0 ≤ Z r c ∧ Z r c < 26) (v : Value) (w : World) (hv : MatAt w v n (fun _ => n) Z) :
    Calls Try.prog 42 #[v] w fun e w' => e = .returned (.int .i64 (detL n Z)) ∧ Below w.heap.size w w' := by
  obtain ⟨b, o, cap, rfl, hcv⟩ := sq_cells (by omega) hv
  have HCV := (show Hid (∀ r, r < n → ∃ x y c, w.cell? ⟨b, o + r, none⟩ = some (.slice (some ⟨x, y, none⟩) n c) ∧ ∀ k, k < n → w.cell? ⟨x, y + k, none⟩ = some (.int .i64 (Z r k))) from hcv)
  have HZ := (show Hid (∀ r, r < n → ∀ c, c < n → 0 ≤ Z r c ∧ Z r c < 26) from hZ)
  clear hv hcv hZ
  have HRES : Hid (leibTo n Z (ordL n) (ordL n).length = detL n Z) := leib_det n h1 h4 Z
  go_enter Try.func42, Try.ntmps42
  go_wp2_with fail
  refine Calls.mono (ord_any n h4 w) ?_
  rintro e W0 ⟨lv, sv, rfl, hlv, hsv, hb⟩
  have hN0 := ordL_pos n h4
  have hl1 : ((ordL n).map (·.1)).length = (ordL n).length := by simp
  have hl2 : ((ordL n).map (·.2)).length = (ordL n).length := by simp
  obtain ⟨gl, ol, cl, R, rfl, _, hrows, hnums⟩ := hlv.ownsM.mat.form (by omega)
  obtain ⟨gs, os, cs, rfl, _, hsc⟩ := hsv.nums.form (by omega)
  rw [hl1] at hrows hnums ⊢
  rw [hl2] at hsc ⊢
  have HROW : Hid (∀ i, i < (ordL n).length → ∃ x y c, W0.cell? ⟨gl, ol + i, none⟩ = some (.slice (some ⟨x, y, none⟩) n c) ∧ (∀ k, k < n → W0.cell? ⟨x, y + k, none⟩ = some (.int .i64 (((ordL n).getD i ([], 0)).1.getD k 0))) ∧ W0.cell? ⟨gs, os + i, none⟩ = some (.int .i64 ((ordL n).getD i ([], 0)).2) ∧ (((ordL n).getD i ([], 0)).2 = 1 ∨ ((ordL n).getD i ([], 0)).2 = -1) ∧ ∀ k, k < n → ∃ m : Nat, ((ordL n).getD i ([], 0)).1.getD k 0 = (m : Nat) ∧ m < n) := fun i hi => by
    have hp : (ordL n)[i]? = some ((ordL n).getD i ([], 0)) := by simp [List.getD, List.getElem?_eq_getElem hi]
    have hpm : (ordL n).getD i ([], 0) ∈ ordL n := List.mem_of_getElem? hp
    have hn1 := hnums i hi
    have hr1 := hrows i hi
    have hs1 := hsc i hi
    have e1 : ((ordL n).map (·.1)).getD i [] = ((ordL n).getD i ([], 0)).1 := by simp [List.getD, List.getElem?_map, List.getElem?_eq_getElem hi]
    have e2 : ((ordL n).map (·.2)).getD i 0 = ((ordL n).getD i ([], 0)).2 := by simp [List.getD, List.getElem?_map, List.getElem?_eq_getElem hi]
    simp only [e1] at hn1
    rw [e2] at hs1
    have hlen := ordL_len n _ hpm
    have hin := ord_in n h4 _ hpm
    have hsg := ordL_sgn n _ hpm
    generalize (ordL n).getD i ([], 0) = p at *
    rw [hlen] at hn1
    obtain ⟨x, y, c, e3, _, hk⟩ := hn1.form (by omega)
    rw [e3] at hr1
    refine ⟨x, y, c, hr1, hk, hs1, hsg, fun k hk' => ?_⟩
    have hm : p.1.getD k 0 ∈ p.1 := by
      have : p.1[k]? = some (p.1.getD k 0) := by simp [List.getD, List.getElem?_eq_getElem (show k < p.1.length by omega)]
      exact List.mem_of_getElem? this
    have := hin _ hm
    exact ⟨(p.1.getD k 0).toNat, by omega, by omega⟩
  have HC2 : Hid (∀ r, r < n → ∃ x y c, W0.cell? ⟨b, o + r, none⟩ = some (.slice (some ⟨x, y, none⟩) n c) ∧ ∀ k, k < n → W0.cell? ⟨x, y + k, none⟩ = some (.int .i64 (Z r k))) := fun r hr => by
    obtain ⟨x, y, c, q1, q2⟩ := HCV.out r hr
    exact ⟨x, y, c, (hb.cell (p := ⟨b, o + r, none⟩) (cell_block q1)).trans q1, fun k hk => (hb.cell (p := ⟨x, y + k, none⟩) (cell_block (q2 k hk))).trans (q2 k hk)⟩
  clear hlv hsv hrows hnums hsc HCV hl1 hl2
  have hcnt := ordL_count n h4
  generalize hps : ordL n = ps at *
  clear hps
  have hNm : ps.length ≤ 24 := hcnt
  obtain ⟨N, hN⟩ : ∃ N, N = ps.length := ⟨_, rfl⟩
  rw [← hN] at HROW HRES hN0 hNm ⊢
  clear hN hcnt
  have HLB : Hid (∀ i, 0 ≤ leibTo n Z ps i ∧ leibTo n Z ps i < 26) := fun i => by
    cases i with
    | zero => show (0 : Int) ≤ 0 ∧ (0 : Int) < 26; omega
    | succ i => exact ⟨Int.emod_nonneg _ (by decide), Int.emod_lt_of_pos _ (by decide)⟩
  go_wp2
  go_loop [19, 5] (fun i a => ∃ i' : Nat, i' ≤ N ∧ i = .int .i64 i' ∧ a = .int .i64 (leibTo n Z ps i')) (fun i _ => ((N : Int) - intOf i).toNat)
  case atStart => exact ⟨0, by omega, rfl, rfl⟩
  case round =>
    obtain ⟨i, hi, rfl, rfl⟩ := hrel
    have hlb := HLB.out i
    by_cases hlt : i < N
    · obtain ⟨x, y, c, q1, q2, q3, q4, q5⟩ := HROW.out i hlt
      have HST : Hid (leibTo n Z ps (i + 1) = (leibTo n Z ps i + prodTo Z (ps.getD i ([], 0)).1 (ps.getD i ([], 0)).2 n) % 26) := rfl
      have HPB := (show Hid (∀ y, -26 < prodTo Z (ps.getD i ([], 0)).1 (ps.getD i ([], 0)).2 y ∧ prodTo Z (ps.getD i ([], 0)).1 (ps.getD i ([], 0)).2 y < 26) from prodTo_bound Z _ _ q4)
      generalize (ps.getD i ([], 0)).1 = ol' at *
      generalize (ps.getD i ([], 0)).2 = sg at *
      generalize leibTo n Z ps i = acc at *
      have HQ2 := (show Hid (∀ k, k < n → W0.cell? ⟨x, y + k, none⟩ = some (.int .i64 (ol'.getD k 0))) from q2)
      have HQ5 := (show Hid (∀ k, k < n → ∃ m : Nat, ol'.getD k 0 = (m : Nat) ∧ m < n) from q5)
      clear q2 q5 q4
      go_wp2
      go_loop [30, 8] (fun i a => ∃ k : Nat, k ≤ n ∧ i = .int .i64 k ∧ a = .int .i64 (prodTo Z ol' sg k)) (fun i _ => ((n : Int) - intOf i).toNat)
      case atStart => exact ⟨0, by omega, rfl, rfl⟩
      case round =>
        obtain ⟨k, hk, rfl, rfl⟩ := hrel
        have hpb := HPB.out k
        by_cases hkl : k < n
        · obtain ⟨m, hm, hmn⟩ := HQ5.out k hkl
          have k1 := HQ2.out k hkl
          rw [hm] at k1
          obtain ⟨x2, y2, c2, r1, r2⟩ := HC2.out k hkl
          have k2 := r2 m hmn
          have hzb := HZ.out k hkl m hmn
          have HPS : Hid (prodTo Z ol' sg (k + 1) = (prodTo Z ol' sg k * Z k m).tmod 26) := by
            show (prodTo Z ol' sg k * Z k (ol'.getD k 0).toNat).tmod 26 = _
            rw [hm, Int.toNat_natCast]
          clear r2 hm
          generalize prodTo Z ol' sg k = a at *
          generalize Z k m = z at *
          obtain ⟨p, hp⟩ : ∃ p, p = a * z := ⟨_, rfl⟩
          have hpb2 : -650 ≤ p ∧ p ≤ 650 := by
            have h5 : a * z ≤ 25 * z := Int.mul_le_mul_of_nonneg_right (by omega) hzb.1
            have h6 : (-25) * z ≤ a * z := Int.mul_le_mul_of_nonneg_right (by omega) hzb.1
            rw [hp]
            omega
          have hpw : IntKind.i64.wrap (a * z) = p := by rw [← hp, IntKind.wrap_i64]; omega
          rw [← hp] at HPS
          have hk3 : ((m : Nat) : Int) < ((n : Nat) : Int) := by omega
          clear hp
          go_wp2
          exact ⟨⟨k + 1, by omega, by go_num, by rw [HPS.out]⟩, by simp [intOf]; omega⟩
        · have hkn : k = n := by omega
          subst hkn
          go_wp2_with fail
          refine Calls.mono (rmod_any _ W0) ?_
          rintro e W1 ⟨rfl, rfl⟩
          rw [← HST.out]
          go_wp2
          exact ⟨⟨i + 1, by omega, by go_num, rfl⟩, by simp [intOf]; omega⟩
    · have HIN : Hid (leibTo n Z ps i = detL n Z) := by
        obtain rfl : i = N := by omega
        exact HRES.out
      go_wp2
      go_ret
      exact ⟨ret_int HIN.out, hb⟩
set_option maxHeartbeats 1000000 in
theorem rdet_ok (v : Value) (n : Nat) (L : Nat → Nat) (Z : Nat → Nat → Int) (hg : GoodM n Z) (hL : ∀ r, r < n → L r = n) (w : World) (hv : MatAt w v n L Z) :
    Calls Try.prog 20 #[v] w fun e w' => e = .returned (.tuple #[.int .i64 (detL n Z), .int .i64 0]) ∧ Below w.heap.size w w' := by
  have H0 : Hid (matErr n L Z = 0) := (matErr_zero n L Z).2 ⟨hg, hL⟩
  have HV := (show Hid (MatAt w v n L Z) from hv)
  have HD := (show Hid (Calls Try.prog 42 #[v] w fun e w' => e = .returned (.int .i64 (detL n Z)) ∧ Below w.heap.size w w') from leib_any n hg.pos hg.le Z hg.num v w (hv.square hL))
  clear hg hL hv
  go_enter Try.func20, Try.ntmps20
  go_wp2_with fail
  refine Calls.mono (rw3_any v n L Z w HV.out) ?_
  rintro e W1 ⟨rfl, rfl⟩
  rw [H0.out]
  go_wp2_with fail
  refine Calls.mono HD.out ?_
  rintro e W2 ⟨rfl, hb⟩
  go_wp2
  go_ret2
  exact ⟨rfl, hb⟩
set_option maxHeartbeats 1000000 in
theorem rdet_bad (v : Value) (n : Nat) (L : Nat → Nat) (Z : Nat → Nat → Int) (E : Int) (hE : (E != 0) = true) (he : matErr n L Z = E) (w : World) (hv : MatAt w v n L Z) :
    Calls Try.prog 20 #[v] w fun e w' => e = .returned (.tuple #[.int .i64 0, .int .i64 E]) ∧ w = w' := by
  have H0 : Hid (matErr n L Z = E) := he
  have HV := (show Hid (MatAt w v n L Z) from hv)
  clear hv he
  go_enter Try.func20, Try.ntmps20
  go_wp2_with fail
  refine Calls.mono (rw3_any v n L Z w HV.out) ?_
  rintro e W1 ⟨rfl, rfl⟩
  rw [H0.out]
  go_wp2
  go_ret2
  exact ⟨rfl, rfl⟩
end Go.Proofs.Ytlgjgppojdamiab
