/-
  strings.Repeat of one X, out of the shelf; hill.filled, number, letter.
-/
import Derived.Test.YtlgjgppojdamiabHProd
import Derived.Test.YtlgjgppojdamiabTPlain
import Derived.Shelf.Strings.Repeat
import Derived.Shelf.Lay
import Derived.Ground.NamesProg
import Derived.Lib.Agree
namespace Go.Proofs.Ytlgjgppojdamiab
open Go.Shelf Go.RowKit PK

shelf_lay Lays.n105 Nm 105 at Try as Try.laysRepeat

theorem extraRepeat : Builder.Extra Try.prog Try.laysRepeat_ren where
  sizeBuilder := by kernel_rfl
  liesBuilder := by kernel_rfl
  t5 := Try.laysRepeat.t5
  a5 := Try.laysRepeat.a5
  z5 := Try.laysRepeat.z5
  v5 := Try.laysRepeat.v5
  infoByte := by kernel_rfl
  cellsByte := by kernel_rfl
  sizeByte := by kernel_rfl
  neB5 := by decide
theorem fRepeat : Try.laysRepeat_ren.f 105 = 69 := by kernel_rfl
theorem rep_X (c : Nat) : Lib.repeatL [88] c = List.replicate c 88 := by
  induction c with
  | zero => rfl
  | succ c ih => rw [Lib.repeatL, ih]; rfl
theorem repeatX (c : Nat) (hc : c ≤ 4) (w : World) : Calls Try.prog 69 #[.string ⟨#[88]⟩, .int .i64 (c : Nat)] w fun e w' => e = .returned (.string ⟨(List.replicate c 88).toArray⟩) ∧ Below w.heap.size w w' := by
  have h := Any.strings_Repeat Try.laysRepeat extraRepeat ⟨#[88]⟩ c w (by omega) (by show 1 * c ≤ _; omega)
  rw [fRepeat] at h
  refine h.mono fun e w' ⟨he, hw⟩ => ⟨?_, hw⟩
  rw [he]
  show Ending.returned (.string ⟨(Lib.repeatL [88] c).toArray⟩) = _
  rw [rep_X]
end Go.Proofs.Ytlgjgppojdamiab
