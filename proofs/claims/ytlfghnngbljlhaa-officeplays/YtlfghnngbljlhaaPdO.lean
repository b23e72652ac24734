/-
  A slice of numbers as an argument, with its room.
-/
import Derived.Test.YtlfghnngbljlhaaYOpen
import Derived.Test.YtlfghnngbljlhaaPdS
namespace Go.Proofs.Ytlfghnngbljlhaa
open Go.RowKit PK Go.ChangeShapes Go.WideShapes Go.ChangeAt

set_option maxRecDepth 100000 in
theorem open_ans {H : Type} {enc : TypeId × Value → H} {W : World} {base : Nat} {v : Value} {d : DataW H} {p : List MemPlace} (hval : Value.okWide Try.prog W .any base 22 v) (h : DataW.Trod enc Try.prog W 0 (fun _ => true) true 22 v d p) :
    ∃ n f, Ans W v n f := by
  obtain ⟨n, f, hn⟩ := open_nums hval h
  refine ⟨n, f, ?_, hn⟩
  obtain ⟨a0, len, cap, rfl⟩ := okWide_slice Try.underlying22 hval
  obtain ⟨_, _, e, _, _⟩ := hn
  cases e
  obtain ⟨fuel, hf⟩ := h
  rcases open_ints Try.underlying22 Try.underlying3 y_cells_int hf with ⟨hcs0, hx⟩ | ⟨a, len', cap', zs, hcs0, _, hl, hm, hzl, hx, hcell, _⟩
  · simp [Value.cells] at hcs0
    obtain ⟨rfl, rfl, rfl⟩ := hcs0
    exact ⟨none, 0, rfl, Nat.le_refl _, fun _ => rfl⟩
  · simp [Value.cells] at hcs0
    obtain ⟨rfl, rfl, rfl⟩ := hcs0
    exact ⟨some a, cap, rfl, by omega, fun h => by cases h⟩
end Go.Proofs.Ytlfghnngbljlhaa
