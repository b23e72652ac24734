/-
  Contracts of square's small functions.
-/
import Derived.Test.YtmabamlhhmjbaadZKit
namespace Go.Proofs.Ytmabamlhhmjbaad
open Go.RowKit PK Vg Zq

set_option maxHeartbeats 400000 in
theorem number_any (c : UInt8) (h : 65 ≤ c.toNat ∧ c.toNat ≤ 90) (w : World) : Calls Try.prog 50 #[.int .u8 c.toNat] w fun e w' => e = .returned (.int .i64 (num c : Nat)) ∧ w = w' := by
  have h1 : (c.toNat : Int) - 65 = ((num c : Nat) : Int) := by unfold num; omega
  have H1 : Hid ((c.toNat : Int) - 65 = ((num c : Nat) : Int)) := h1
  clear h1
  obtain ⟨h2, h3⟩ := h
  go_enter Try.func50, Try.ntmps50
  go_wp2
  go_ret
  exact ⟨ret_int H1.out, rfl⟩
theorem u8_eq {c : UInt8} {n : Nat} (hn : n < 256) : ((c.toNat : Int) == (n : Int)) = decide (c = UInt8.ofNat n) := by
  by_cases h : c = UInt8.ofNat n
  · rw [h]; simp; omega
  · have : c.toNat ≠ n := fun e => h (UInt8.toNat_inj.1 (by rw [UInt8.toNat_ofNat']; omega))
    simp [h]; omega
set_option maxHeartbeats 400000 in
theorem written_any (c : UInt8) (w : World) : Calls Try.prog 39 #[.int .u8 c.toNat] w fun e w' => e = .returned (.int .u8 (jI c).toNat) ∧ w = w' := by
  unfold jI
  by_cases h : c = 74
  · subst h
    rw [if_pos rfl]
    go_enter Try.func39, Try.ntmps39
    go_wp2
    go_ret
    exact ⟨rfl, rfl⟩
  · rw [if_neg h]
    have h1 : ((c.toNat : Int) == 74) = false := by have := u8_eq (c := c) (n := 74) (by omega); rw [show ((74 : Nat) : Int) = 74 from rfl] at this; rw [this]; simpa using h
    clear h
    go_enter Try.func39, Try.ntmps39
    go_wp2
    go_ret
    exact ⟨rfl, rfl⟩
set_option maxHeartbeats 400000 in
theorem filler_any (c : UInt8) (w : World) : Calls Try.prog 40 #[.int .u8 c.toNat] w fun e w' => e = .returned (.int .u8 (fil c).toNat) ∧ w = w' := by
  unfold fil
  by_cases h : c = 88
  · subst h
    rw [if_pos rfl]
    go_enter Try.func40, Try.ntmps40
    go_wp2
    go_ret
    exact ⟨rfl, rfl⟩
  · rw [if_neg h]
    have h1 : ((c.toNat : Int) == 88) = false := by have := u8_eq (c := c) (n := 88) (by omega); rw [show ((88 : Nat) : Int) = 88 from rfl] at this; rw [this]; simpa using h
    clear h
    go_enter Try.func40, Try.ntmps40
    go_wp2
    go_ret
    exact ⟨rfl, rfl⟩
end Go.Proofs.Ytmabamlhhmjbaad
