/-
  A slice of slices of numbers as an argument.
-/
import Derived.Test.YtlfghnngbljlhaaHKit
import Derived.Test.YtlfghnngbljlhaaChecked
import Derived.Deep.Matrix
import Derived.ProofKit
import Derived.OpenShut
import Derived.ShutString
import Derived.ChangeOld
import Derived.Carry
namespace Go.Proofs.Ytlfghnngbljlhaa
open Go.RowKit PK Go.ChangeShapes Go.WideShapes Go.ChangeAt

theorem own : ownKnob Try.prog.godebug = none := by kernel_rfl
theorem laidOut : laidOutB Try.prog = true := by kernel_rfl
theorem cells_ints : Try.prog.cellsOf 22 = 1 := by kernel_rfl
theorem cells_int1 : Try.prog.cellsOf 3 = 1 := by kernel_rfl
set_option maxRecDepth 100000 in
theorem open_mat {H : Type} {enc : TypeId × Value → H} {W : World} {base : Nat} {v : Value} {d : DataW H} {p : List MemPlace} (hval : Value.okWide Try.prog W .any base 40 v) (h : DataW.Trod enc Try.prog W 0 (fun _ => true) true 40 v d p) :
    ∃ n L Z, MatAt W v n L Z := by
  obtain ⟨a0, len, cap, rfl⟩ := okWide_slice Try.underlying40 hval
  obtain ⟨fuel, hf⟩ := h
  rcases Go.Deep.open_int_rows Try.underlying40 Try.underlying22 Try.underlying3 cells_ints cells_int1 hf with ⟨hcs0, hx⟩ | ⟨a, len', cap', A, L, C, Z, hcs0, _, hl, hm, hx, hrows⟩
  · simp [Value.cells] at hcs0
    obtain ⟨rfl, rfl, rfl⟩ := hcs0
    exact ⟨0, fun _ => 0, fun _ _ => 0, MatAt.nil _ _ _⟩
  · simp [Value.cells] at hcs0
    obtain ⟨rfl, rfl, rfl⟩ := hcs0
    refine ⟨len, L, fun r c => (Z r).getD c 0, some a, cap, fun r => .slice (A r) (L r) (C r), rfl, by omega, fun r hr => ?_, fun r hr => ?_⟩
    · have h0 := (hrows r (by omega)).1
      have hsp := World.cell?_spot (hrows 0 (by omega)).1
      obtain ⟨bm, om, spot⟩ := a
      have hspot : spot = none := by simpa [Addr.add] using hsp
      subst hspot
      exact ⟨bm, om, rfl, by rw [← add_plain]; exact h0⟩
    · obtain ⟨_, h1, h2, h3, _, h5, h6⟩ := hrows r (by omega)
      refine ⟨A r, C r, rfl, by omega, fun c hc => ?_⟩
      cases hA : A r with
      | none => have := h5 hA; omega
      | some a' =>
        obtain ⟨_, hcell⟩ := h6 a' hA
        have hsp := World.cell?_spot (hcell 0 (by omega))
        obtain ⟨bm, om, spot⟩ := a'
        have hspot : spot = none := by simpa [Addr.add] using hsp
        subst hspot
        exact ⟨bm, om, rfl, by rw [← add_plain]; exact hcell c (by omega)⟩
end Go.Proofs.Ytlfghnngbljlhaa
