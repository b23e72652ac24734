/-
  Contracts of the small functions of package letters: isLetter, gapAhead, spelling. Each only computes: the world stands.
-/
import Derived.Test.YtfpjjddbggjpaaaChecked
import Derived.Test.YtfpjjddbggjpaaaPlain
import Derived.WalkKit
import Derived.WalkSpells
namespace Go.Proofs.Ytfpjjddbggjpaaa
open Go.RowKit

set_option maxHeartbeats 400000 in
theorem isLetter_any (c : Int) (w : World) :
    Calls Try.prog 17 #[.int .u8 c] w fun e w' => e = .returned (.bool (Pl.isL c)) ∧ w = w' := by
  by_cases h1 : 65 ≤ c
  · by_cases h2 : c ≤ 90
    · have e : Pl.isL c = true := by simp [Pl.isL]; omega
      go_enter Try.func17, Try.ntmps17
      go_wp2
      go_ret
      exact ⟨by rw [e]; rfl, rfl⟩
    · have e : Pl.isL c = false := by simp [Pl.isL]; omega
      go_enter Try.func17, Try.ntmps17
      go_wp2
      go_ret
      exact ⟨rfl, rfl⟩
  · have e : Pl.isL c = false := by simp [Pl.isL]; omega
    go_enter Try.func17, Try.ntmps17
    go_wp2
    go_ret
    exact ⟨rfl, rfl⟩

set_option maxHeartbeats 400000 in
theorem gapAhead_any (g W : Int) (w : World) (hg : 0 ≤ g) (hW : 1 ≤ W) (hg2 : g ≤ 1048576) (hW2 : W ≤ 9223372036854775807) :
    Calls Try.prog 18 #[.int .i64 g, .int .i64 W] w fun e w' => e = .returned (.int .u8 (if g % W = 0 then 10 else 32)) ∧ w = w' := by
  have hne : (W == 0) = false := by simp; omega
  by_cases h : g % W = 0
  · have hb : (g % W == 0) = true := by simp [h]
    go_enter Try.func18, Try.ntmps18
    go_wp2
    go_ret
    exact ⟨rfl, rfl⟩
  · have hb : (g % W == 0) = false := by simp [h]
    go_enter Try.func18, Try.ntmps18
    go_wp2
    go_ret
    exact ⟨rfl, rfl⟩

set_option maxHeartbeats 4000000 in
set_option maxRecDepth 100000 in
theorem spelling_any (r : Int) (w : World) :
    Calls Try.prog 19 #[.int .i32 r] w fun e w' => e = .returned (.string ⟨(Pl.spell r).toArray⟩) ∧ w = w' := by
  go_enter Try.func19, Try.ntmps19
  go_wp2
  all_goals
    go_ret
    refine ⟨?_, rfl⟩
    first
    | (have e : r = _ := eq_of_beq (by assumption)
       subst e
       rfl)
    | (simp only [Pl.spell, Pl.tab, Pl.look, *]; rfl)
end Go.Proofs.Ytfpjjddbggjpaaa
