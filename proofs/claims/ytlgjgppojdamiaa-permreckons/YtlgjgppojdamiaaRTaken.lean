/-
  Contract of the document's own Between's taken: whether a letter is among the 26.
-/
import Derived.Test.YtlgjgppojdamiaaRBMath
import Derived.Test.YtlgjgppojdamiaaRThen
import Derived.Test.YtlgjgppojdamiaaRRef
import Derived.Deep.QuietTactic
import Derived.BigQuiet
namespace Go.Proofs.Ytlgjgppojdamiaa
open Go.RowKit PK

/-- Whether k is among f's 26. -/
def tk (f : Nat → Int) (k : Int) : Bool := (List.range 26).any fun j => f j == k
theorem tk_true {f : Nat → Int} {k : Int} (m : Nat) (hm : m < 26) (h : f m = k) : tk f k = true := by
  unfold tk
  rw [List.any_eq_true]
  exact ⟨m, by simpa using hm, by simpa using h⟩
theorem tk_false {f : Nat → Int} {k : Int} (h : ∀ j, j < 26 → f j ≠ k) : tk f k = false := by
  rw [Bool.eq_false_iff]
  intro ht
  unfold tk at ht
  obtain ⟨j, hj, e⟩ := List.any_eq_true.1 ht
  exact h j (by simpa using hj) (by simpa using e)
set_option maxHeartbeats 1000000 in
theorem taken_any (f : Nat → Int) (k : Int) (b : Nat) (w : World) (hr : RowAt w b 35 (ints 26 f)) :
    Calls Try.prog 54 #[.int .i64 k, .pointer (some ⟨b, 0, none⟩)] w fun e w' => e = .returned (.bool (tk f k)) ∧ w' = w := by
  go_enter Try.func54, Try.ntmps54
  go_wp2_with (refine load_perm rfl _ rfl _ rfl _ hr ?_)
  clear hr
  go_loop [7] (fun i => ∃ m : Nat, m ≤ 26 ∧ i = .int .i64 m ∧ Hid (∀ j, j < m → f j ≠ k)) (fun i => (26 - intOf i).toNat)
  case atStart => exact ⟨0, by omega, rfl, fun j hj => by omega⟩
  case round =>
    obtain ⟨m, hm, rfl, HS⟩ := hrel
    by_cases hlt : m < 26
    · have hg := run_index_ints 35 3 26 Try.underlying35 Try.underlying3 info_int f m hlt
      by_cases he : f m = k
      · have HE : Hid (tk f k = true) := tk_true m hlt he
        have hbe : (f m == k) = true := by simpa using he
        clear he
        go_wp2
        go_ret
        exact ⟨ret_bool HE.out.symm, rfl⟩
      · have HE : Hid (f m ≠ k) := he
        have hbe : (f m == k) = false := by simpa using he
        clear he
        go_wp2
        exact ⟨⟨m + 1, by omega, by go_num, fun j hj => by
          rcases Nat.lt_or_eq_of_le (Nat.le_of_lt_succ hj) with h | rfl
          · exact HS.out j h
          · exact HE.out⟩, by simp [intOf]; omega⟩
    · have HE : Hid (tk f k = false) := tk_false fun j hj => HS.out j (by omega)
      have hm26 : m = 26 := by omega
      subst hm26
      go_wp2
      go_ret
      exact ⟨ret_bool HE.out.symm, rfl⟩

end Go.Proofs.Ytlgjgppojdamiaa
