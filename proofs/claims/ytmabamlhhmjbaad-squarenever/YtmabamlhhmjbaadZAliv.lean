/-
  Contract of alive.
-/
import Derived.Test.YtmabamlhhmjbaadZRd
namespace Go.Proofs.Ytmabamlhhmjbaad
open Go.RowKit PK Vg Zq

theorem alive_wt : wtS [80, 76, 65, 89, 70, 65, 73, 82, 69, 88, 65, 77, 80, 76, 69] [72, 73, 68, 69, 84, 72, 69, 71, 79, 76, 68, 73, 78, 84, 72, 69, 84, 82, 69, 69, 83, 84, 85, 77, 80] = [66, 77, 79, 68, 90, 66, 88, 68, 78, 65, 66, 69, 75, 85, 68, 77, 85, 73, 88, 77, 77, 79, 85, 86, 73, 70] ∧ wtE [80, 76, 65, 89, 70, 65, 73, 82, 69, 88, 65, 77, 80, 76, 69] [72, 73, 68, 69, 84, 72, 69, 71, 79, 76, 68, 73, 78, 84, 72, 69, 84, 82, 69, 69, 83, 84, 85, 77, 80] = 0 ∧ wtAt [80, 76, 65, 89, 70, 65, 73, 82, 69, 88, 65, 77, 80, 76, 69] [72, 73, 68, 69, 84, 72, 69, 71, 79, 76, 68, 73, 78, 84, 72, 69, 84, 82, 69, 69, 83, 84, 85, 77, 80] = 0 := by decide +kernel
set_option maxRecDepth 100000 in
set_option maxHeartbeats 1000000 in
theorem zalive_any (w : World) : Calls Try.prog 26 #[] w fun e w' => e = .returned (.bool true) ∧ Below w.heap.size w w' := by
  have HW := (show Hid (∀ W, Calls Try.prog 22 #[.string ⟨#[80, 76, 65, 89, 70, 65, 73, 82, 69, 88, 65, 77, 80, 76, 69]⟩, .string ⟨#[72, 73, 68, 69, 84, 72, 69, 71, 79, 76, 68, 73, 78, 84, 72, 69, 84, 82, 69, 69, 83, 84, 85, 77, 80]⟩] W fun e w' => e = .returned (.tuple #[.string ⟨#[66, 77, 79, 68, 90, 66, 88, 68, 78, 65, 66, 69, 75, 85, 68, 77, 85, 73, 88, 77, 77, 79, 85, 86, 73, 70]⟩, .agg #[.int .i64 0, .int .i64 0]]) ∧ Below W.heap.size W w') from fun W => by
    have := zwr_any ⟨#[80, 76, 65, 89, 70, 65, 73, 82, 69, 88, 65, 77, 80, 76, 69]⟩ ⟨#[72, 73, 68, 69, 84, 72, 69, 71, 79, 76, 68, 73, 78, 84, 72, 69, 84, 82, 69, 69, 83, 84, 85, 77, 80]⟩ W
    rw [show (⟨#[80, 76, 65, 89, 70, 65, 73, 82, 69, 88, 65, 77, 80, 76, 69]⟩ : ByteArray).data.toList = [80, 76, 65, 89, 70, 65, 73, 82, 69, 88, 65, 77, 80, 76, 69] from rfl, show (⟨#[72, 73, 68, 69, 84, 72, 69, 71, 79, 76, 68, 73, 78, 84, 72, 69, 84, 82, 69, 69, 83, 84, 85, 77, 80]⟩ : ByteArray).data.toList = [72, 73, 68, 69, 84, 72, 69, 71, 79, 76, 68, 73, 78, 84, 72, 69, 84, 82, 69, 69, 83, 84, 85, 77, 80] from rfl, alive_wt.1, alive_wt.2.1, alive_wt.2.2] at this
    exact this)
  go_enter Try.func26, Try.ntmps26
  go_wp2_with fail
  refine (HW.out _).mono ?_
  rintro e W1 ⟨rfl, hb⟩
  go_wp2
  go_ret
  exact ⟨rfl, hb.alloc hb.size _⟩
end Go.Proofs.Ytmabamlhhmjbaad
