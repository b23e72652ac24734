/-
  alive (chapter 11).
-/
import Derived.Test.YtflehdigikdhmaaRgC
namespace Go.Proofs.Ytflehdigikdhmaa
open Go.RowKit PK Rg

set_option maxRecDepth 100000 in
set_option maxHeartbeats 4000000 in
theorem alive11 (P7 : PRun 7) (w : World) : Calls Try.prog 14 #[] w fun e w' => e = .returned (.bool true) ∧ Below w.heap.size w w' := by
  have H7 := (show Hid _ from P7)
  clear P7
  go_enter Try.func14, Try.ntmps14
  go_wp2_with fail
  have e1 : (#[.int .i64 1, .int .i64 1] : Array Value) = ints 2 fun _ => 1 := rfl
  have e2 : (#[.int .i64 0, .int .i64 1] : Array Value) = ints 2 fun i => (i : Nat) := rfl
  have a1 : Ans ((w.alloc (.cells #[.int .i64 1, .int .i64 1] 3)).alloc (.cells #[.int .i64 0, .int .i64 1] 3)) (.slice (some ⟨w.heap.size, 0, none⟩) 2 2) 2 (fun _ => 1) := ⟨⟨_, 2, rfl, Nat.le_refl _⟩, NumsAt.of_row (T := 3) (by rw [e1]; exact (RowAt.new w _ _).alloc _) (by decide)⟩
  have a2 : Ans ((w.alloc (.cells #[.int .i64 1, .int .i64 1] 3)).alloc (.cells #[.int .i64 0, .int .i64 1] 3)) (.slice (some ⟨w.heap.size + 1, 0, none⟩) 2 2) 2 (fun i => (i : Nat)) := ⟨⟨_, 2, rfl, Nat.le_refl _⟩, NumsAt.of_row (T := 3) (by
    rw [e2]
    have := RowAt.new (w.alloc (.cells #[.int .i64 1, .int .i64 1] 3)) 3 (ints 2 fun i => (i : Nat))
    have hz : (w.alloc (.cells #[.int .i64 1, .int .i64 1] 3)).heap.size = w.heap.size + 1 := by simp
    rw [hz] at this
    exact this) (by decide)⟩
  have hb0 := ((Below.refl w.heap.size w).alloc (Nat.le_refl _) (.cells #[.int .i64 1, .int .i64 1] 3)).alloc (by simp) (.cells #[.int .i64 0, .int .i64 1] 3)
  generalize (w.alloc (.cells #[.int .i64 1, .int .i64 1] 3)).alloc (.cells #[.int .i64 0, .int .i64 1] 3) = W0 at *
  refine (H7.out _ _ 2 2 _ _ 5 W0 a1 a2).mono ?_
  rintro e W1 ⟨v, rfl, ha, hb⟩
  have hE : rrE 2 2 (fun _ => 1) (fun i => ((i : Nat) : Int)) 5 = 0 := by decide
  rw [hE] at ha ⊢
  have hr : rl 0 (Int.toNat 5) = 5 := rfl
  rw [hr] at ha
  obtain ⟨⟨a, cap, rfl, _⟩, a', cap', e, _, hc⟩ := ha
  cases e
  obtain ⟨b, o, rfl, c2⟩ := hc 2 (by decide)
  obtain ⟨b', o', e', c3⟩ := hc 3 (by decide)
  cases e'
  have r2 : runF 2 (fun _ => 1) (fun i => ((i : Nat) : Int)) 5 2 = 1 := by decide
  have r3 : runF 2 (fun _ => 1) (fun i => ((i : Nat) : Int)) 5 3 = 0 := by decide
  rw [r2] at c2
  rw [r3] at c3
  have HBE := (show Hid (Below w.heap.size w W1) from hb0.trans (hb.mono hb0.size))
  clear hb hb0 hc a1 a2 e1 e2 hr hE r2 r3 H7
  go_wp2
  go_ret
  exact ⟨by simp, HBE.out⟩
end Go.Proofs.Ytflehdigikdhmaa
