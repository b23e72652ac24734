/-
  An array of 26 numbers, as an argument.
-/
import Derived.Test.YtlgjgppojdamiaaPLoc
import Derived.ProofKit
import Derived.OpenShut
import Derived.ShutString
import Derived.ChangeOld
import Derived.Carry
namespace Go.Proofs.Ytlgjgppojdamiaa
open Go.RowKit PK

theorem own : ownKnob Try.prog.godebug = none := by kernel_rfl
theorem laidOut : laidOutB Try.prog = true := by kernel_rfl
theorem cells_int : Try.prog.cellsOf 3 = 1 := by kernel_rfl
theorem open_perm {H : Type} {enc : TypeId × Value → H} {W : World} {base base' : Nat} {sp : Nat → Bool} {held : Bool} {v : Value} {d : DataW H} {ps : List MemPlace}
    (hval : Value.okWide Try.prog W .any base 35 v) (h : DataW.Trod enc Try.prog W base' sp held 35 v d ps) : ∃ f : Nat → Int, v = .agg (ints 26 f) ∧ ps = [] := by
  obtain ⟨cs, rfl, hsz, _⟩ : ∃ cs, v = .agg cs ∧ cs.size = Try.prog.cellsOf 35 ∧ Row.okWide Try.prog W .any base 35 cs := by
    simpa [Value.okWide, Try.underlying35] using hval
  obtain ⟨fuel, hf⟩ := h
  obtain ⟨xs, m, _, hx, hl, hxl, hi⟩ := DataW.trod_array Try.underlying35 hf
  have hc : Try.prog.cellsOf 35 = 26 := by kernel_rfl
  rw [hc] at hsz
  rw [cells_int] at hi
  have hcs : (Value.agg cs).cells.toList = cs.toList := rfl
  have key : ∀ i, i < 26 → ∃ n : Int, cs[i]? = some (.int .i64 n) ∧ ∃ x, xs[i]? = some x ∧ x.2 = [] := fun i h26 => by
    have h1 := hi i h26
    have h2 : xs[i]? = some (xs[i]'(by omega)) := List.getElem?_eq_getElem _
    rw [h2] at h1
    obtain ⟨n, e, e2, _⟩ := DataW.trod_int Try.underlying3 h1
    refine ⟨n, ?_, _, h2, by rw [e2]⟩
    have h3 : i < cs.toList.length := by simp [hsz, h26]
    have h4 : ((cs.toList.drop (i * 1)).take 1) = [cs.toList[i]'h3] := by
      rw [Nat.mul_one, List.drop_eq_getElem_cons h3]
      simp
    rw [hcs, h4] at e
    simp at e
    rw [← e]
    simp [hsz, h26]
  obtain ⟨f, hf2⟩ : ∃ f : Nat → Int, ∀ i, i < 26 → cs[i]? = some (.int .i64 (f i)) := by
    refine ⟨fun i => match cs[i]? with | some (.int _ n) => n | _ => 0, fun i h26 => ?_⟩
    obtain ⟨n, hn, _⟩ := key i h26
    simp [hn]
  refine ⟨f, ?_, ?_⟩
  · congr 1
    apply Array.ext_getElem?
    intro i
    by_cases h26 : i < 26
    · rw [ints_get _ h26, hf2 i h26]
    · have h1 : cs[i]? = none := by simp [hsz]; omega
      have h2 : (ints 26 f)[i]? = none := by simp [ints_size]; omega
      rw [h1, h2]
  · have h5 := congrArg Prod.snd hx
    simp only at h5
    rw [h5, List.flatMap_eq_nil_iff]
    intro x hxm
    obtain ⟨i, hi1, e⟩ := List.mem_iff_getElem.1 hxm
    obtain ⟨_, _, y, hy, hy2⟩ := key i (by omega)
    rw [List.getElem?_eq_getElem hi1] at hy
    simp at hy
    rw [← e, hy]
    exact hy2
end Go.Proofs.Ytlgjgppojdamiaa
