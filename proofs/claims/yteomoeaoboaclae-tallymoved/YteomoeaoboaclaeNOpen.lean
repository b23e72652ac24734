/-
  An array of 26 floats, as an argument.
-/
import Derived.Test.YteomoeaoboaclaeNRFa
import Derived.ProofKit
import Derived.OpenShut
import Derived.ShutString
import Derived.ChangeOld
import Derived.Carry
import Derived.ChangeSlices
namespace Go.Proofs.Yteomoeaoboaclae
open Go.RowKit PK

theorem n_laidOut : laidOutB Try.prog = true := by kernel_rfl
theorem n_cells_f : Try.prog.cellsOf 35 = 1 := by kernel_rfl
theorem trod_float {H : Type} {enc : TypeId × Value → H} {P : Program} {w : World} {base : Nat} {spare : Nat → Bool} {held : Bool} {fuel : Nat} {t : TypeId} {cs : List Value} {x : DataW H × List MemPlace} {k : FloatKind} (ht : P.underlying t = some (.float k)) (h : DataW.trod enc P w base spare held fuel t cs = some x) : ∃ n, cs = [.float k n] ∧ x = (.lit (.float k n), []) := by
  cases fuel with
  | zero => simp [DataW.trod] at h
  | succ n =>
    unfold DataW.trod at h
    rw [ht] at h
    split at h <;> simp_all
theorem open_weights {H : Type} {enc : TypeId × Value → H} {W : World} {base base' : Nat} {sp : Nat → Bool} {held : Bool} {v : Value} {d : DataW H} {ps : List MemPlace}
    (hval : Value.okWide Try.prog W .any base 36 v) (h : DataW.Trod enc Try.prog W base' sp held 36 v d ps) : ∃ f : Nat → Nat, v = .agg (flts f) ∧ ps = [] := by
  obtain ⟨cs, rfl, hsz, _⟩ : ∃ cs, v = .agg cs ∧ cs.size = Try.prog.cellsOf 36 ∧ Row.okWide Try.prog W .any base 36 cs := by
    simpa [Value.okWide, Try.underlying36] using hval
  obtain ⟨fuel, hf⟩ := h
  obtain ⟨xs, m, _, hx, hl, hxl, hi⟩ := DataW.trod_array Try.underlying36 hf
  have hc : Try.prog.cellsOf 36 = 26 := by kernel_rfl
  rw [hc] at hsz
  rw [n_cells_f] at hi
  have hcs : (Value.agg cs).cells.toList = cs.toList := rfl
  have key : ∀ i, i < 26 → ∃ n : Nat, cs[i]? = some (.float .f64 n) ∧ ∃ x, xs[i]? = some x ∧ x.2 = [] := fun i h26 => by
    have h1 := hi i h26
    have h2 : xs[i]? = some (xs[i]'(by omega)) := List.getElem?_eq_getElem _
    rw [h2] at h1
    obtain ⟨n, e, e2⟩ := trod_float Try.underlying35 h1
    refine ⟨n, ?_, _, h2, by rw [e2]⟩
    have h3 : i < cs.toList.length := by simp [hsz, h26]
    have h4 : ((cs.toList.drop (i * 1)).take 1) = [cs.toList[i]'h3] := by
      rw [Nat.mul_one, List.drop_eq_getElem_cons h3]
      simp
    rw [hcs, h4] at e
    simp at e
    rw [← e]
    simp [hsz, h26]
  obtain ⟨f, hf2⟩ : ∃ f : Nat → Nat, ∀ i, i < 26 → cs[i]? = some (.float .f64 (f i)) := by
    refine ⟨fun i => match cs[i]? with | some (.float _ n) => n | _ => 0, fun i h26 => ?_⟩
    obtain ⟨n, hn, _⟩ := key i h26
    simp [hn]
  refine ⟨f, ?_, ?_⟩
  · congr 1
    apply Array.ext_getElem?
    intro i
    by_cases h26 : i < 26
    · rw [flts_get _ h26, hf2 i h26]
    · have h1 : cs[i]? = none := by simp [hsz]; omega
      have h2 : (flts f)[i]? = none := by simp [flts_size]; omega
      rw [h1, h2]
  · have h5 := congrArg Prod.snd hx
    simp only at h5
    rw [h5, List.flatMap_eq_nil_iff]
    intro x hxm
    obtain ⟨i, hi1, e⟩ := List.mem_iff_getElem.1 hxm
    obtain ⟨_, _, y, hy, hy2⟩ := key i (by omega)
    rw [List.getElem?_eq_getElem hi1] at hy
    simp at hy
    rw [← e, hy]
    exact hy2
end Go.Proofs.Yteomoeaoboaclae
