/-
  ChartSignals: for every machine, all keys and every turn the statement's function returns true, and its arguments read as before. No condition.
-/
import Derived.Test.YtibkcgjofcfoaaaRows
import Derived.Test.YtibkcgjofcfoaaaLCSn
import Derived.Test.YtibkcgjofcfoaaaChAl
import Derived.Test.YtibkcgjofcfoaaaJn11
import Derived.Deep.Strs
import Derived.SizedLaws
import Derived.ProofKit
import Derived.OpenShut
import Derived.ShutString
import Derived.ChangeOld
import Derived.Carry
import Derived.ChangeSlices
namespace Go.Proofs.Ytibkcgjofcfoaaa
open Go.RowKit PK Vg

open Go.ChangeShapes Go.WideShapes Go.ChangeAt

theorem s_cells_str : Try.prog.cellsOf 9 = 1 := by kernel_rfl
theorem s_bytes_str : Try.prog.bytesOf 9 = 16 := by kernel_rfl
set_option maxRecDepth 100000 in
theorem open_strs2 {H : Type} {enc : TypeId × Value → H} {W : World} {base : Nat} {v : Value} {d : DataW H} {p : List MemPlace} (hval : Value.okWide Try.prog W .any base 42 v) (h : DataW.Trod enc Try.prog W 0 (fun _ => true) true 42 v d p) :
    ∃ n T, StrsAt W v n T ∧ (n = 0 ∨ ∃ el sp, d = .slice el sp ∧ n ≤ el.length + sp.length) := by
  obtain ⟨a0, len, cap, rfl⟩ := okWide_slice Try.underlying42 hval
  obtain ⟨fuel, hf⟩ := h
  rcases Go.Deep.open_strs Try.underlying42 Try.underlying9 s_cells_str hf with ⟨hcs0, hx⟩ | ⟨a, len', cap', m, Sx, hcs0, _, hl, hm, hmm, hx, hcell⟩
  · simp [Value.cells] at hcs0
    obtain ⟨rfl, rfl, rfl⟩ := hcs0
    exact ⟨0, fun _ => ByteArray.empty, ⟨none, 0, rfl, by decide, fun c hc => by omega⟩, .inl rfl⟩
  · simp [Value.cells] at hcs0
    obtain ⟨rfl, rfl, rfl⟩ := hcs0
    have hmc : m = cap := by rw [hmm]; rfl
    refine ⟨len, Sx, ⟨some a, cap, rfl, by omega, fun c hc => ?_⟩, .inr ⟨_, _, (Prod.ext_iff.1 hx).1, ?_⟩⟩
    · have h0 := (hcell c (by omega)).1
      have hsp := World.cell?_spot (hcell 0 (by omega)).1
      obtain ⟨bm, om, spot⟩ := a
      have hspot : spot = none := by simpa [Addr.add] using hsp
      subst hspot
      exact ⟨bm, om, rfl, by rw [← add_plain]; exact h0⟩
    · simp
set_option maxHeartbeats 1000000 in
set_option maxRecDepth 100000 in
theorem lifted_signals (os : Os) (started : os.Started) (H : Type) (enc : TypeId × Value → H) :
    ReturnsInHanded {} Try.checked os 6 .any (Rows.chartSignalsSpec.pre6 enc Try.prog Try.f6 Rows.chartSignalsRow.domain false) (Rows.chartSignalsSpec.post enc Try.prog Try.f6 false true false false) := by
  refine returnsInHanded_of_change_sized (C := Try.checked) y_own started (by kernel_rfl) Try.func6
    (ChangeSpec.witness6 (enc := enc) (C := Try.checked) false ⟨#[], #[.agg (mac (.slice none 0 0) (.slice none 0 0) (.slice none 0 0) (fun _ => 0) (fun _ => 0)), .slice none 0 0, .int .i64 0], []⟩ 8 (by kernel_rfl) (by kernel_rfl) (by kernel_rfl) (by kernel_rfl)) ?_
  intro W base args ds gs before hval0 hW hcnd hsz0 _
  have hval : ∀ (j : Nat) t v, Try.f6.params[j]? = some t → args[j]? = some v → Value.okWide Try.prog W .any base t v := hval0
  have hsz : (DataW.weightsEach Try.prog (Try.f6.params.toList ++ Rows.chartSignalsSpec.plain.varTypes Try.prog) (ds ++ gs)).all (· ≤ reachBytes) = true := hsz0
  have hW' := hW
  obtain ⟨p, q, hA0, hV, rfl, hfz, hnd⟩ := hW
  have hA : DataW.TrodAll enc Try.prog W 0 (fun _ => true) true Try.f6.params.toList args.toList ds p := hA0
  rw [Try.params6] at hA hval hsz
  obtain ⟨v0, vs0, d0, ds0, p0, q0, hargs, rfl, rfl, h0, r0⟩ := trodAll_cons hA
  obtain ⟨v1, vs1, d1, ds1, p1, q1, rfl, rfl, rfl, h1, r1⟩ := trodAll_cons r0
  obtain ⟨v2, vs2, d2, ds2, p2, q2, rfl, rfl, rfl, h2, r2⟩ := trodAll_cons r1
  obtain ⟨rfl, rfl, rfl⟩ := trodAll_nil r2
  obtain rfl : args = #[v0, v1, v2] := by cases args; simp_all
  obtain ⟨rfl, rfl⟩ := trodVars_none hV
  obtain ⟨g0, m0⟩ := open_machine (hval 0 27 v0 rfl rfl) h0
  obtain ⟨n1, T1, m1, hn1⟩ := open_strs2 (hval 1 42 v1 rfl rfl) h1
  obtain ⟨a2, rfl, rfl, rfl, w2⟩ := open_int Try.underlying3 (hval 2 3 v2 rfl rfl) h2
  have hb1 : n1 ≤ 8796093022208 := by
    rcases hn1 with hn1 | ⟨el, sp, hd, hle⟩
    · omega
    · have z1 := sized_slice hsz (j := 1) (t := 42) (e := 9) (elems := el) (spare := sp) rfl (by rw [hd]; rfl) Try.underlying42
      rw [s_bytes_str] at z1
      simp only [reachBytes] at z1
      omega
  clear hA0 hval0 hsz0 hsz
  refine (chartsignals_of alive9_any v0 g0 v1 n1 hb1 T1 a2 W m0 m1).mono fun e W' ⟨he, bel⟩ => ?_
  subst he
  exact ⟨_, rfl, _, _, _, [], _, [], hW', trodAll_mk1 (shut_bool Try.underlying4 _), (trodAll_cons_mk (Below.trod y_laidOut (by kernel_rfl) (of_decide_eq_true (by kernel_rfl)) h0 bel (fun x hx => hW'.lt x (by simp [hx]))) (trodAll_cons_mk (Below.trod y_laidOut (by kernel_rfl) (of_decide_eq_true (by kernel_rfl)) h1 bel (fun x hx => hW'.lt x (by simp [hx]))) (trodAll_cons_mk (shut_int Try.underlying3 w2) trodAll_mk0))), rfl, bel.frame _, fun h => by cases h⟩

theorem chartSignals_holds : Rows.ChartSignalsSaid :=
  OpenClaim.holds_of_wide 6 Try.f6 rfl rfl rfl rfl rfl rfl rfl ⟨rfl, rfl, rfl, rfl, rfl⟩ rfl rfl rfl rfl rfl (by kernel_rfl) Try.func6 (by kernel_rfl)
    (of_decide_eq_true (by kernel_rfl)) (by unfold Func.isWrapper; first | (rw [if_pos (by decide +kernel)]; kernel_rfl) | (rw [if_neg (by decide +kernel)]; exact ⟨rfl, rfl⟩))
    (fun os started H enc _ => lifted_signals os started H enc)
#print axioms chartSignals_holds
end Go.Proofs.Ytibkcgjofcfoaaa
