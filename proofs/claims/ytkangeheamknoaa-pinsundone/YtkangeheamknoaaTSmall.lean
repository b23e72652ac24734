/-
  The contract of letters.isLetter.
-/
import Derived.Test.YtkangeheamknoaaChecked
import Derived.Test.YtkangeheamknoaaTPlain
import Derived.WalkKit
import Derived.WalkSpells
namespace Go.Proofs.Ytkangeheamknoaa
open Go.RowKit

set_option maxHeartbeats 400000 in
theorem isLetter_any (c : Int) (w : World) :
    Calls Try.prog 23 #[.int .u8 c] w fun e w' => e = .returned (.bool (Pl.isL c)) ∧ w = w' := by
  by_cases h1 : 65 ≤ c
  · by_cases h2 : c ≤ 90
    · have e : Pl.isL c = true := by simp [Pl.isL]; omega
      go_enter Try.func23, Try.ntmps23
      go_wp2
      go_ret
      exact ⟨by rw [e]; rfl, rfl⟩
    · have e : Pl.isL c = false := by simp [Pl.isL]; omega
      go_enter Try.func23, Try.ntmps23
      go_wp2
      go_ret
      exact ⟨rfl, rfl⟩
  · have e : Pl.isL c = false := by simp [Pl.isL]; omega
    go_enter Try.func23, Try.ntmps23
    go_wp2
    go_ret
    exact ⟨rfl, rfl⟩

end Go.Proofs.Ytkangeheamknoaa
