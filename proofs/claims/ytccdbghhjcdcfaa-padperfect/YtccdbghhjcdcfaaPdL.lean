/-
  Same of two answers, and alive (chapter 14).
-/
import Derived.Test.YtccdbghhjcdcfaaPdSa
namespace Go.Proofs.Ytccdbghhjcdcfaa
open Go.RowKit PK Pd

theorem ans_same {W : World} {u v : Value} {n m : Nat} {f g : Nat → Int} (hu : Ans W u n f) (hv : Ans W v m g) (hnm : n = m) (h : ∀ i, i < n → f i = g i) : Calls Try.prog 10 #[u, v] W fun e w' => e = .returned (.bool true) ∧ Below W.heap.size W w' := by
  have := rsm_any u v n m f g W hu.2 hv.2
  rw [smB_iff.2 ⟨hnm, h⟩] at this
  exact this
/-- What Write, Read and Chances answer, wherever they are called. -/
def AnsC (F : FuncId) (args : Array Value) (w : World) (E : Int) (n : Nat) (f : Nat → Int) : Prop := ∀ W, Below w.heap.size w W → Calls Try.prog F args W fun e w' => ∃ v, e = .returned (.tuple #[v, .int .i64 E]) ∧ Ans w' v (rl E n) f ∧ Below W.heap.size W w'
theorem rl_zero (n : Nat) : rl 0 n = n := rfl
set_option maxRecDepth 100000 in
set_option maxHeartbeats 8000000 in
theorem alive14 (w : World) : Calls Try.prog 21 #[] w fun e w' => e = .returned (.bool true) ∧ Below w.heap.size w w' := by
  go_enter Try.func21, Try.ntmps21
  go_wp2_with fail
  have a1 : NumsAt ((w.alloc (.cells #[.int .i64 7] 3)).alloc (.cells #[.int .i64 5] 3)) (.slice (some ⟨w.heap.size, 0, none⟩) 1 1) 1 (fun _ => 7) := (one_num w 7).alloc _
  have a2 : NumsAt ((w.alloc (.cells #[.int .i64 7] 3)).alloc (.cells #[.int .i64 5] 3)) (.slice (some ⟨w.heap.size + 1, 0, none⟩) 1 1) 1 (fun _ => 5) := by
    have := one_num (w.alloc (.cells #[.int .i64 7] 3)) 5
    have hz : (w.alloc (.cells #[.int .i64 7] 3)).heap.size = w.heap.size + 1 := by simp
    rw [hz] at this
    exact this
  have hb0 := ((Below.refl w.heap.size w).alloc (Nat.le_refl _) (.cells #[.int .i64 7] 3)).alloc (by simp) (.cells #[.int .i64 5] 3)
  generalize (w.alloc (.cells #[.int .i64 7] 3)).alloc (.cells #[.int .i64 5] 3) = W0 at *
  refine (pwr_any 10 _ _ 1 1 _ _ W0 a1 a2).mono ?_
  rintro e W1 ⟨v, rfl, ha, hb⟩
  have hE : txE 10 1 1 (fun _ => 7) (fun _ => 5) = 0 := by decide
  rw [hE] at ha ⊢
  rw [rl_zero] at ha
  obtain ⟨⟨a, cap, rfl, _⟩, a', cap', e, _, hc⟩ := ha
  cases e
  obtain ⟨b, o, rfl, c2⟩ := hc 0 (by decide)
  have r2 : wrF 10 (fun _ => 7) (fun _ => 5) 0 = 2 := by decide
  rw [r2, Nat.add_zero] at c2
  have HBE := (show Hid (Below w.heap.size w W1) from hb0.trans (hb.mono hb0.size))
  clear hb hb0 hc a1 a2 hE r2
  go_wp2
  go_ret
  exact ⟨by simp, HBE.out⟩
end Go.Proofs.Ytccdbghhjcdcfaa
