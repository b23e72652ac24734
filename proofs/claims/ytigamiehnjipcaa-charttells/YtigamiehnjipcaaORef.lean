/-
  Contracts of the document's inside and Notched (chapter 8).
-/
import Derived.Test.YtigamiehnjipcaaOKit
import Derived.Test.YtigamiehnjipcaaOPm
import Derived.Test.YtigamiehnjipcaaZKit
import Derived.Deep.Upon
import Derived.BigRegion
import Derived.Deep.OwnRows
namespace Go.Proofs.Ytigamiehnjipcaa
open Go.RowKit PK

theorem ins_upto {n : Nat} {f : Nat → Int} {k : Nat} (hk : k < n) (h : f k < 0 ∨ 25 < f k) : ins n f = false := by
  cases e : ins n f with
  | false => rfl
  | true => have := (ins_iff n f).1 e k hk; omega
set_option maxRecDepth 100000 in
set_option maxHeartbeats 1000000 in
theorem rinside_any (v : Value) (n : Nat) (f : Nat → Int) (w : World) (hv : NumsAt w v n f) : Calls Try.prog 57 #[v] w fun e w' => e = .returned (.bool (ins n f)) ∧ w = w' := by
  obtain ⟨a, cap, rfl, hm, hc⟩ := hv
  have HC := (show Hid _ from hc)
  unfold maxLen at hm
  clear hc
  have HU := (show Hid (∀ k, k < n → (f k < 0 ∨ 25 < f k) → ins n f = false) from fun k hk h => ins_upto hk h)
  have HA := (show Hid ((∀ i, i < n → 0 ≤ f i ∧ f i ≤ 25) → ins n f = true) from (ins_iff n f).2)
  generalize ins n f = B at *
  go_enter Try.func57, Try.ntmps57
  go_wp2_with fail
  go_loopw [7] (fun i W => ∃ k : Nat, k ≤ n ∧ i = .int .i64 (k : Nat) ∧ Hid (∀ i, i < k → 0 ≤ f i ∧ f i ≤ 25) ∧ w = W) (fun i _ => ((n : Int) - intOf i).toNat)
  case atStart => exact ⟨0, by omega, rfl, fun i hi => by omega, rfl⟩
  case round =>
    obtain ⟨k, hk, rfl, HS, rfl⟩ := hrel
    by_cases hlt : k < n
    · obtain ⟨b, o, rfl, hc0⟩ := HC.out k hlt
      have HLT : Hid (k < n) := hlt
      by_cases hx : f k < 0
      · have HB : Hid (B = false) := HU.out k hlt (.inl hx)
        go_wp2
        go_ret
        exact ⟨by rw [HB.out]; rfl, rfl⟩
      · by_cases hy : 25 < f k
        · have HB : Hid (B = false) := HU.out k hlt (.inr hy)
          go_wp2
          go_ret
          exact ⟨by rw [HB.out]; rfl, rfl⟩
        · have HN : Hid (∀ i, i < k + 1 → 0 ≤ f i ∧ f i ≤ 25) := fun i hi => by
            by_cases e : i = k
            · rw [e]; omega
            · exact HS.out i (by omega)
          go_wp2_with fail
          go_roundw
          case rel => exact ⟨k + 1, HLT.out, by go_num, HN.out, by first | rfl | trivial⟩
          case measure => have := HLT.out; simp [intOf] <;> omega
    · obtain rfl : k = n := by omega
      have hlt2 : ¬ (k : Int) < (k : Int) := by omega
      have HB : Hid (B = true) := HA.out HS.out
      go_wp2
      go_ret
      exact ⟨by rw [HB.out]; rfl, rfl⟩
/-- Does a wheel have a notch there? -/
def hasN (n : Nat) (f : Nat → Int) (a : Int) : Bool := (List.range n).any fun i => f i == a
theorem hasN_true {n : Nat} {f : Nat → Int} {a : Int} {k : Nat} (hk : k < n) (h : f k = a) : hasN n f a = true := by
  unfold hasN
  rw [List.any_eq_true]
  exact ⟨k, by simpa using hk, by simp [h]⟩
theorem hasN_false {n : Nat} {f : Nat → Int} {a : Int} (h : ∀ k, k < n → f k ≠ a) : hasN n f a = false := by
  unfold hasN
  rw [List.any_eq_false]
  intro k hk
  have := h k (by simpa using hk)
  simpa using this
set_option maxRecDepth 100000 in
set_option maxHeartbeats 1000000 in
theorem rnotched_any (u : Nat → Int) (v : Value) (n : Nat) (f : Nat → Int) (a : Int) (w : World) (hv : NumsAt w v n f) : Calls Try.prog 77 #[.agg (whl u v), .int .i64 a] w fun e w' => e = .returned (.bool (hasN n f a)) ∧ Below w.heap.size w w' := by
  have hr := RowAt.new w 94 (whl u v)
  have hl := hr.cell (whl_last u v)
  have hbe : Below w.heap.size w (w.alloc (.cells (whl u v) 94)) := (Below.refl _ w).alloc (Nat.le_refl _) _
  replace hv := hv.alloc (.cells (whl u v) 94)
  obtain ⟨ad, cap, rfl, hm, hc⟩ := hv
  have HC := (show Hid _ from hc)
  unfold maxLen at hm
  clear hc
  have HU := (show Hid (∀ k, k < n → f k = a → hasN n f a = true) from fun k hk h => hasN_true hk h)
  have HA := (show Hid ((∀ k, k < n → f k ≠ a) → hasN n f a = false) from hasN_false)
  generalize hasN n f a = B at *
  go_enter Try.func77, Try.ntmps77
  go_wp2_with fail
  generalize w.alloc (.cells (whl u (.slice ad n cap)) 94) = V at *
  go_loopw [10] (fun i W => ∃ k : Nat, k ≤ n ∧ i = .int .i64 (k : Nat) ∧ Hid (∀ i, i < k → f i ≠ a) ∧ V = W) (fun i _ => ((n : Int) - intOf i).toNat)
  case atStart => exact ⟨0, by omega, rfl, fun i hi => by omega, rfl⟩
  case round =>
    obtain ⟨k, hk, rfl, HS, rfl⟩ := hrel
    by_cases hlt : k < n
    · obtain ⟨b, o, rfl, hc0⟩ := HC.out k hlt
      have HLT : Hid (k < n) := hlt
      by_cases hx : f k = a
      · have HB : Hid (B = true) := HU.out k hlt hx
        have hx2 : (f k == a) = true := by simp [hx]
        clear hx
        go_wp2
        go_ret
        exact ⟨by rw [HB.out]; rfl, hbe⟩
      · have HN : Hid (∀ i, i < k + 1 → f i ≠ a) := fun i hi => by
          by_cases e : i = k
          · rw [e]; exact hx
          · exact HS.out i (by omega)
        have hx2 : (f k == a) = false := beq_false_of_ne hx
        clear hx
        go_wp2_with fail
        go_roundw
        case rel => exact ⟨k + 1, HLT.out, by go_num, HN.out, by first | rfl | trivial⟩
        case measure => have := HLT.out; simp [intOf] <;> omega
    · obtain rfl : k = n := by omega
      have hlt2 : ¬ (k : Int) < (k : Int) := by omega
      have HB : Hid (B = false) := HA.out HS.out
      go_wp2
      go_ret
      exact ⟨by rw [HB.out]; rfl, hbe⟩
end Go.Proofs.Ytigamiehnjipcaa
