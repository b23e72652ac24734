/-
  A machine's own windows, as a number.
-/
import Derived.Test.YthfjkhmedpilnaaJn34
import Derived.Test.YthfjkhmedpilnaaChAm
namespace Go.Proofs.Ythfjkhmedpilnaa
open Go.RowKit PK Vg
theorem gE_sl {g : Gm} (h : gE g = 0) : 1 ≤ g.n ∧ g.sl = g.n ∧ ∀ i, i < g.sl → 0 ≤ g.st i ∧ g.st i < 26 := by
  unfold gE at h
  by_cases h1 : g.n < 1 ∨ 4 < g.n
  · rw [if_pos h1] at h; cases h
  rw [if_neg h1] at h
  by_cases h2 : whE g g.n ≠ 0
  · rw [if_pos h2] at h; exact absurd h h2
  rw [if_neg h2] at h
  by_cases h3 : g.rl ≠ g.n
  · rw [if_pos h3] at h; cases h
  rw [if_neg h3] at h
  by_cases h4 : ins g.rl g.ri = false
  · rw [if_pos h4] at h; cases h
  rw [if_neg h4] at h
  by_cases h5 : g.sl ≠ g.n
  · rw [if_pos h5] at h; cases h
  rw [if_neg h5] at h
  by_cases h6 : ins g.sl g.st = false
  · rw [if_pos h6] at h; cases h
  refine ⟨by omega, Decidable.not_not.1 h5, fun i hi => by have := (ins_iff _ _).1 (by simpa using h6) i hi; omega⟩
theorem own_num {g : Gm} (h : gE g = 0) (hn2 : g.n ≤ 2) : ∃ N0, N0 < 26 ^ g.n ∧ ∀ i, i < g.sl → g.st i = (((dig g.n N0 i : Nat) : Int)) := by
  obtain ⟨h1, h2, h3⟩ := gE_sl h
  rcases (by omega : g.n = 1 ∨ g.n = 2) with hn | hn
  · have k0 := h3 0 (by omega)
    refine ⟨(g.st 0).toNat, by rw [hn]; omega, fun i hi => ?_⟩
    obtain rfl : i = 0 := by omega
    unfold dig
    rw [hn]
    show g.st 0 = (((g.st 0).toNat / 26 ^ 0 % 26 : Nat) : Int)
    rw [Nat.pow_zero, Nat.div_one]
    omega
  · have k0 := h3 0 (by omega)
    have k1 := h3 1 (by omega)
    refine ⟨(g.st 0).toNat * 26 + (g.st 1).toNat, by rw [hn]; omega, fun i hi => ?_⟩
    unfold dig
    rw [hn]
    rcases (by omega : i = 0 ∨ i = 1) with rfl | rfl
    · show g.st 0 = ((((g.st 0).toNat * 26 + (g.st 1).toNat) / 26 ^ 1 % 26 : Nat) : Int)
      rw [Nat.pow_one]
      omega
    · show g.st 1 = ((((g.st 0).toNat * 26 + (g.st 1).toNat) / 26 ^ 0 % 26 : Nat) : Int)
      rw [Nat.pow_zero, Nat.div_one]
      omega
theorem ty_pos {g : Gm} (h : gE g = 0) (i : Nat) : 0 < tyM g i := by
  obtain ⟨hM, _⟩ := ok_maOf h
  have := type_sum (chC_perm hM i)
  unfold tyM
  cases e : typeOf (chC (maOf g) i) with
  | nil => rw [e] at this; simp at this
  | cons x l => simp
end Go.Proofs.Ythfjkhmedpilnaa
