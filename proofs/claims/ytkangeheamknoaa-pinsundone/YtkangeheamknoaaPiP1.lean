/-
  Contracts of pins' divisor, pushes, next and turned (chapter 12).
-/
import Derived.Test.YtkangeheamknoaaPiC
namespace Go.Proofs.Ytkangeheamknoaa
open Go.RowKit PK Dm

set_option maxRecDepth 100000 in
set_option maxHeartbeats 1000000 in
theorem pdiv_any (U V : Nat) (hU : U ≤ 4611686018427387904) (hV : V ≤ 4611686018427387904) (w : World) : Calls Try.prog 21 #[.int .i64 (U : Nat), .int .i64 (V : Nat)] w fun e w' => e = .returned (.int .i64 (Nat.gcd U V : Nat)) ∧ Below w.heap.size w w' := by
  go_enter Try.func21, Try.ntmps21
  go_wp2_with fail
  go_loopw [0, 1] (fun a b W => ∃ x y : Nat, a = .int .i64 (x : Nat) ∧ b = .int .i64 (y : Nat) ∧ x ≤ 4611686018427387904 ∧ y ≤ 4611686018427387904 ∧ Hid (Nat.gcd x y = Nat.gcd U V) ∧ Below w.heap.size w W) (fun _ b _ => (intOf b).toNat)
  case atStart => exact ⟨U, V, rfl, rfl, hU, hV, rfl, Below.refl _ _⟩
  case round =>
    obtain ⟨x, y, rfl, rfl, hx, hy, HG, hbv⟩ := hrel
    by_cases hlt : 0 < y
    · have hy0 : ((y : Int) != 0) = true := by simp; omega
      have hy1 : ((y : Int) == 0) = false := beq_false_of_ne (by omega)
      have hy2 : (y : Int) ≠ 0 := by omega
      have hml := Nat.mod_lt x hlt
      have HG2 : Hid (Nat.gcd y (x % y) = Nat.gcd U V) := by rw [Hid, ← HG.out, Nat.gcd_comm x y, Nat.gcd_comm y (x % y), ← Nat.gcd_rec]
      have hmod : (x : Int) % (y : Int) = ((x % y : Nat) : Int) := by omega
      have HTM : Hid ((x : Int).tmod (y : Int) = ((x % y : Nat) : Int)) := by rw [Hid, Int.tmod_eq_emod_of_nonneg (by omega), hmod]
      clear hmod
      go_wp2_with fail
      go_region
      all_goals (try go_wp2)
      go_roundw
      case rel => exact ⟨y, x % y, rfl, by first | rfl | rw [HTM.out], hy, by omega, HG2.out, hbv.drew⟩
      case measure => simp [intOf]; omega
    · obtain rfl : y = 0 := by omega
      have HY : Hid (x = Nat.gcd U V) := by rw [Hid, ← HG.out, Nat.gcd_zero_right]
      go_wp2
      go_ret
      exact ⟨by rw [← HY.out]; rfl, hbv⟩

/-- A lug stands at a wheel whose pin stands out. -/
def lugs (D : Dr) (i : Nat) (l : Int) : Bool := if l = 0 then false else D.pin (l.toNat - 1) (i % D.ln (l.toNat - 1))
theorem push_lugs {D : Dr} {i r : Nat} (h0 : 0 ≤ D.bar r 0 ∧ D.bar r 0 ≤ (D.nw : Int)) (h1 : 0 ≤ D.bar r 1 ∧ D.bar r 1 ≤ (D.nw : Int)) : push D i r = (lugs D i (D.bar r 0) || lugs D i (D.bar r 1)) := by
  have key : ∀ l : Int, 0 ≤ l → l ≤ (D.nw : Int) → lugs D i l = true → (∀ k : Nat, l = (k : Int) + 1 → k < D.nw ∧ D.pin k (i % D.ln k) = true) ∧ 1 ≤ l := fun l a b h => by
    unfold lugs at h
    by_cases e : l = 0
    · rw [if_pos e] at h; cases h
    · rw [if_neg e] at h
      refine ⟨fun k hk => ?_, by omega⟩
      have e2 : l.toNat - 1 = k := by omega
      rw [e2] at h
      exact ⟨by omega, h⟩
  have back : ∀ (l : Int) (k : Nat), l = (k : Int) + 1 → D.pin k (i % D.ln k) = true → lugs D i l = true := fun l k e h => by
    unfold lugs
    rw [if_neg (by omega), show l.toNat - 1 = k by omega]
    exact h
  cases hq : push D i r
  · symm
    have hf := anyTo_false.1 hq
    rw [Bool.or_eq_false_iff]
    constructor
    · cases hl : lugs D i (D.bar r 0)
      · rfl
      · obtain ⟨a, b⟩ := key _ h0.1 h0.2 hl
        obtain ⟨c, d⟩ := a ((D.bar r 0).toNat - 1) (by omega)
        have := hf _ c
        unfold hit at this
        rw [d, decide_eq_true (show D.bar r 0 = (((D.bar r 0).toNat - 1 : Nat) : Int) + 1 by omega)] at this
        simp at this
    · cases hl : lugs D i (D.bar r 1)
      · rfl
      · obtain ⟨a, b⟩ := key _ h1.1 h1.2 hl
        obtain ⟨c, d⟩ := a ((D.bar r 1).toNat - 1) (by omega)
        have := hf _ c
        unfold hit at this
        rw [d, decide_eq_true (show D.bar r 1 = (((D.bar r 1).toNat - 1 : Nat) : Int) + 1 by omega)] at this
        simp at this
  · symm
    have : ∃ k, k < D.nw ∧ hit D i r k = true := by
      apply Classical.byContradiction
      intro hno
      have := (anyTo_false (f := hit D i r) (n := D.nw)).2 fun k hk => by
        cases hh : hit D i r k
        · rfl
        · exact absurd ⟨k, hk, hh⟩ hno
      unfold push at hq
      rw [this] at hq
      cases hq
    obtain ⟨k, hk, hh⟩ := this
    unfold hit at hh
    simp only [Bool.and_eq_true, Bool.or_eq_true, decide_eq_true_eq] at hh
    rw [Bool.or_eq_true]
    rcases hh.2 with e | e
    · exact .inl (back _ _ e hh.1)
    · exact .inr (back _ _ e hh.1)
theorem dE_lugs {D : Dr} (h : dE D = 0) (r : Nat) (hr : r < D.nb) : (0 ≤ D.bar r 0 ∧ D.bar r 0 ≤ (D.nw : Int)) ∧ (0 ≤ D.bar r 1 ∧ D.bar r 1 ≤ (D.nw : Int)) := by
  unfold dE at h
  by_cases h1 : D.nw < 1 ∨ 12 < D.nw ∨ 27 < D.nb
  · rw [if_pos h1] at h; cases h
  · rw [if_neg h1] at h
    cases h2 : anyTo (wlE D) D.nw
    · rw [h2, if_neg (by decide)] at h
      cases h3 : anyTo (lgE D) D.nb
      · have := anyTo_false.1 h3 r hr
        unfold lgE at this
        simp at this
        omega
      · rw [h3, if_pos rfl] at h; cases h
    · rw [h2, if_pos rfl] at h; cases h

set_option maxRecDepth 100000 in
set_option maxHeartbeats 1000000 in
theorem pps_any (D : Dr) (aw : Option Addr) (cw : Nat) (b : Value) (R : Nat → Value) (g i : Nat) (hi : i ≤ 65536) (l : Int) (hl : 0 ≤ l ∧ l ≤ (D.nw : Int)) (hnw : D.nw ≤ 12) (hln : ∀ k, k < D.nw → 1 ≤ D.ln k ∧ D.ln k ≤ 47) (w : World) (hw : RowAt w g 46 #[.slice aw D.nw cw, b, .int .i64 (i : Nat)])
    (hrw : ∀ r, r < D.nw → ∃ b o, aw = some ⟨b, o, none⟩ ∧ w.cell? ⟨b, o + r, none⟩ = some (R r)) (hpw : ∀ r, r < D.nw → PinsAt w (R r) (D.ln r) (D.pin r)) : Calls Try.prog 22 #[.pointer (some ⟨g, 0, none⟩), .int .i64 l] w fun e w' => e = .returned (.bool (lugs D i l)) ∧ w = w' := by
  have c0 := hw.cell (i := 0) rfl
  have c2 := hw.cell (i := 2) rfl
  by_cases hz : l = 0
  · have HL : Hid (lugs D i l = false) := by unfold lugs; rw [Hid, if_pos hz]
    subst hz
    clear hrw hpw hln hw
    go_enter Try.func22, Try.ntmps22
    go_wp2
    go_ret
    exact ⟨by rw [HL.out]; rfl, rfl⟩
  · have HL : Hid (lugs D i l = D.pin (l.toNat - 1) (i % D.ln (l.toNat - 1))) := by unfold lugs; rw [Hid, if_neg hz]
    obtain ⟨k, hk⟩ : ∃ k : Nat, l.toNat - 1 = k := ⟨_, rfl⟩
    have hkl : l = (k : Int) + 1 := by omega
    rw [hk] at HL
    have hkn : k < D.nw := by omega
    obtain ⟨bm, om, rfl, hc⟩ := hrw k hkn
    obtain ⟨ar, cr, hR, hml, hpc⟩ := hpw k hkn
    have hl2 := hln k hkn
    have hmod : i % D.ln k < D.ln k := Nat.mod_lt _ (by omega)
    obtain ⟨bp, op, rfl, hp2⟩ := hpc (i % D.ln k) hmod
    rw [hR] at hc
    have hrem : (i : Int).tmod (D.ln k : Int) = ((i % D.ln k : Nat) : Int) := by rw [Int.tmod_eq_emod_of_nonneg (by omega)]; omega
    have hrem2 : (i : Int) % (D.ln k : Int) = ((i % D.ln k : Nat) : Int) := by omega
    have hmod2 : ((i % D.ln k : Nat) : Int) < (D.ln k : Int) := by omega
    have hl0 : ¬ (D.ln k : Int) = 0 := by omega
    obtain ⟨p, hp⟩ : ∃ p, p = i % D.ln k := ⟨_, rfl⟩
    obtain ⟨m, hm⟩ : ∃ m, m = D.ln k := ⟨_, rfl⟩
    rw [← hp] at hrem hrem2 hmod2 hp2 HL
    rw [← hm] at hrem hrem2 hmod2 hl2 hl0 hc
    have hz2 : ((k : Int) + 1 == 0) = false := by simp; omega
    have hk1 : (k : Int) + 1 - 1 = (k : Int) := by omega
    have hk3 : (k : Int) < (D.nw : Int) := by omega
    subst hkl
    generalize D.pin k p = y at *
    generalize D.nw = nw at *
    clear hrw hpw hln hw hz hk hR hpc hml hmod hp hm hl
    go_enter Try.func22, Try.ntmps22
    go_wp2
    go_ret
    exact ⟨by rw [HL.out]; rfl, rfl⟩

set_option maxRecDepth 100000 in
set_option maxHeartbeats 1000000 in
theorem ptu_any (c : UInt8) (hc : 65 ≤ c.toNat ∧ c.toNat ≤ 90) (p : Nat) (hp : p ≤ 27) (w : World) : Calls Try.prog 19 #[.int .u8 (c.toNat : Nat), .int .i64 (p : Nat)] w fun e w' => e = .returned (.int .u8 ((enc p c).toNat : Nat)) ∧ w = w' := by
  have HE := (show Hid _ from enc_toNat p c)
  obtain ⟨z, hz⟩ : ∃ z, z = c.toNat := ⟨_, rfl⟩
  rw [← hz] at hc HE ⊢
  have h1 : (90 : Int) - (z : Int) = ((90 - z : Nat) : Int) := by omega
  have h2 : ((90 - z : Nat) : Int) + (p : Int) = ((90 - z + p : Nat) : Int) := by omega
  have h3 : ((90 - z + p : Nat) : Int).tmod 26 = (((90 - z + p) % 26 : Nat) : Int) := by rw [Int.tmod_eq_emod_of_nonneg (by omega)]; omega
  have h4 : (((90 - z + p) % 26 : Nat) : Int) < 26 := by omega
  go_enter Try.func19, Try.ntmps19
  go_wp2
  go_ret
  exact ⟨ret_int (by rw [HE.out]; omega), rfl⟩
end Go.Proofs.Ytkangeheamknoaa
