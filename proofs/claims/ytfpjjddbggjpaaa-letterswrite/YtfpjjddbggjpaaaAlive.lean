/-
  The contract of the statements' own first question: Fold answers at one fixed text.
-/
import Derived.Test.YtfpjjddbggjpaaaFold
namespace Go.Proofs.Ytfpjjddbggjpaaa
open Go.RowKit

theorem fold_alive_any (w : World) : Calls Try.prog 6 #[.string ⟨#[90, 97, 197, 188, 195, 179, 197, 130, 196, 135, 33]⟩] w fun e w' => e = .returned (.tuple #[.string ⟨#[90, 65, 90, 76, 67, 88]⟩, .int .i64 0]) ∧ Below w.heap.size w w' := by
  refine (fold_ok _ w (by decide)).mono ?_
  rintro e w' ⟨rfl, hb⟩
  exact ⟨by rw [show Pl.fold (⟨#[90, 97, 197, 188, 195, 179, 197, 130, 196, 135, 33]⟩ : ByteArray).data.toList = [90, 65, 90, 76, 67, 88] from Pl.fold_alive], hb⟩

set_option maxHeartbeats 400000 in
theorem alive_any (w : World) : Calls Try.prog 14 #[] w fun e w' => e = .returned (.bool true) ∧ Below w.heap.size w w' := by
  go_enter Try.func14, Try.ntmps14
  go_wp2_with (go_at_call 6; refine (fold_alive_any _).mono ?_; rintro e w' ⟨rfl, hb⟩)
  go_ret
  exact ⟨rfl, hb⟩
theorem size_mk (l : List UInt8) : (⟨l.toArray⟩ : ByteArray).size = l.length := by show l.toArray.size = _; simp
theorem data_mk (l : List UInt8) : (⟨l.toArray⟩ : ByteArray).data.toList = l := by simp
theorem own : ownKnob Try.prog.godebug = none := by kernel_rfl
end Go.Proofs.Ytfpjjddbggjpaaa
