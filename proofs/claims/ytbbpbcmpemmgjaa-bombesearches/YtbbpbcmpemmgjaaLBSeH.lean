/-
  BombeSearches: for every input (any machine, any crib, any text, any number of hands) and on whatever order of its goroutines' steps the statement's function returns true, without a data race, all goroutines only leaving; its arguments read as before. No condition.
-/
import Derived.Test.YtbbpbcmpemmgjaaRows
import Derived.Test.YtbbpbcmpemmgjaaJn39
import Derived.ShutString
import Derived.ChangeMaps
namespace Go.Proofs.Ytbbpbcmpemmgjaa
open Go.RowKit PK Vg Go.Conc

open Go.ChangeShapes Go.WideShapes Go.ChangeAt
open Go.ChangeMaps (open_string shut_string)

theorem kept_belowB {W W' : World} (h : Kept W W') : Below W.heap.size W { W' with tape := W.tape } := by
  refine ⟨h.2.1, rfl, h.2.2, ?_, h.1⟩
  show W.heap.size ≤ W'.heap.size
  by_cases h0 : W.heap.size = 0
  · omega
  · have h1 := h.1 (W.heap.size - 1) (by omega)
    have h2 : (W'.heap[W.heap.size - 1]?).isSome = true := by rw [h1]; simp; omega
    have h3 : W.heap.size - 1 < W'.heap.size := by simpa using h2
    omega
theorem kept_frameB {W W' : World} (h : Kept W W') (may : MemPlace → Prop) : W.keptBut W' may := by
  refine ⟨h.2.1, h.2.2, fun i hi => ?_⟩
  rw [h.1 i hi]
  split <;> simp_all
theorem below_keptB {W W' : World} (h : Below W.heap.size W W') : Kept W W' := ⟨h.block, h.os, h.output⟩
set_option maxHeartbeats 1000000 in
set_option maxRecDepth 100000 in
theorem lifted_bsearches (os : Os) (started : os.Started) (H : Type) (enc : TypeId × Value → H) :
    ReturnsInLeavingWide {} Try.checked os 5 .any (Rows.bombeSearchesSpec.pre6 enc Try.prog Try.f5 Rows.bombeSearchesRow.domain false) (Rows.bombeSearchesSpec.post enc Try.prog Try.f5 false true false false) := by
  refine returnsInLeavingWide_of_change_sized (C := Try.checked) y_own started Try.func5
    (ChangeSpec.witness6 (enc := enc) (C := Try.checked) false ⟨#[], #[.agg (mac (.slice none 0 0) (.slice none 0 0) (.slice none 0 0) (fun _ => 0) (fun _ => 0)), .string ByteArray.empty, .string ByteArray.empty, .int .i64 0], []⟩ 8 (by kernel_rfl) (by kernel_rfl) (by kernel_rfl) (by kernel_rfl)) ?_
  intro W base args ds gs before hval0 hW hcnd hsz0 _
  have hval : ∀ (j : Nat) t v, Try.f5.params[j]? = some t → args[j]? = some v → Value.okWide Try.prog W .any base t v := hval0
  have hsz : (DataW.weightsEach Try.prog (Try.f5.params.toList ++ Rows.bombeSearchesSpec.plain.varTypes Try.prog) (ds ++ gs)).all (· ≤ reachBytes) = true := hsz0
  have hW' := hW
  obtain ⟨p, q, hA0, hV, rfl, hfz, hnd⟩ := hW
  have hA : DataW.TrodAll enc Try.prog W 0 (fun _ => true) true Try.f5.params.toList args.toList ds p := hA0
  rw [Try.params5] at hA hval hsz
  obtain ⟨v0, vs0, d0, ds0, p0, q0, hargs, rfl, rfl, h0, r0⟩ := trodAll_cons hA
  obtain ⟨v1, vs1, d1, ds1, p1, q1, rfl, rfl, rfl, h1, r1⟩ := trodAll_cons r0
  obtain ⟨v2, vs2, d2, ds2, p2, q2, rfl, rfl, rfl, h2, r2⟩ := trodAll_cons r1
  obtain ⟨v3, vs3, d3, ds3, p3, q3, rfl, rfl, rfl, h3, r3⟩ := trodAll_cons r2
  obtain ⟨rfl, rfl, rfl⟩ := trodAll_nil r3
  obtain rfl : args = #[v0, v1, v2, v3] := by cases args; simp_all
  obtain ⟨rfl, rfl⟩ := trodVars_none hV
  obtain ⟨g0, m0, hb0, hr0⟩ := open_machine_r (hval 0 27 v0 rfl rfl) h0
  obtain ⟨a1, rfl, rfl, rfl, w1⟩ := open_string Try.underlying9 (hval 1 9 v1 rfl rfl) h1
  obtain ⟨a2, rfl, rfl, rfl, w2⟩ := open_string Try.underlying9 (hval 2 9 v2 rfl rfl) h2
  obtain ⟨a3, rfl, rfl, rfl, w3⟩ := open_int Try.underlying3 (hval 3 3 v3 rfl rfl) h3
  have hfits : ∀ n, Fit 27 d0 n → n * 8 ≤ 140737488355328 := fun n hn => by
    rcases hn with hn | ⟨k, hk, hle⟩
    · omega
    · have h5 := List.all_eq_true.1 hsz k (DataW.weights_mem_each (j := 0) (t := 27) rfl rfl k hk)
      have h6 : k ≤ reachBytes := by simpa using h5
      simp only [reachBytes] at h6
      omega
  clear hA0 hval0 hsz0 hsz
  have post : ∀ W', Kept W W' → Rows.bombeSearchesSpec.post enc Try.checked.prog Try.f5 false true false false W #[v0, .string a1, .string a2, .int .i64 a3] (.bool true) W' := fun W' hk => by
    have bel := kept_belowB hk
    have t0 := DataW.Trod.of_heap (w' := W') (by rfl) (Below.trod y_laidOut (by kernel_rfl) (of_decide_eq_true (by kernel_rfl)) h0 bel (fun x hx => hW'.lt x (by simp [hx])))
    exact ⟨_, _, _, [], _, [], hW', trodAll_mk1 (shut_bool Try.underlying4 _), (trodAll_cons_mk t0 (trodAll_cons_mk (shut_string Try.underlying9 w1) (trodAll_cons_mk (shut_string Try.underlying9 w2) (trodAll_cons_mk (shut_int Try.underlying3 w3) trodAll_mk0)))), rfl, kept_frameB hk _, fun h => by cases h⟩
  by_cases hE : bwE g0 a1.data.toList a2.data.toList = 0 ∧ swE g0 a3 = 0
  · obtain ⟨hW0, hS⟩ := hE
    obtain ⟨_, _, hh1, hh2⟩ := swE_zero hS
    obtain ⟨n, rfl⟩ : ∃ n : Nat, a3 = (n : Int) := ⟨a3.toNat, by omega⟩
    obtain ⟨a, b, c, rfl, ka, kb, kc, ra, rb, rc⟩ := m0
    obtain ⟨M, last, o, w', t', e1, e2, e3, e4⟩ := bsearches_run a b c g0 a1 a2 hW0 n hS (fun r hr => hfits _ (hb0 r hr)) (hfits _ hr0) W ka kb kc ra rb rc
    exact ⟨M, last, o, w', t', e1, e2, e3, e4.mono fun v hv => by obtain ⟨rfl, hk⟩ := hv; exact post _ hk⟩
  · exact lone_good ((bsearches_bad v0 g0 a1 a2 a3 hE W m0.at_).mono fun e w' ⟨h5, h6⟩ => ⟨_, h5, post w' (below_keptB h6)⟩) (by kernel_rfl)

theorem bombeSearches_holds : Rows.BombeSearchesSaid :=
  OpenClaim.holds_of_wide_leaving 5 Try.f5 rfl rfl rfl rfl rfl rfl rfl ⟨rfl, rfl, rfl, rfl, rfl⟩ rfl rfl rfl rfl rfl (by kernel_rfl) Try.func5 (by kernel_rfl)
    (of_decide_eq_true (by kernel_rfl)) (by unfold Func.isWrapper; first | (rw [if_pos (by decide +kernel)]; kernel_rfl) | (rw [if_neg (by decide +kernel)]; exact ⟨rfl, rfl⟩))
    (fun os started H enc _ => lifted_bsearches os started H enc)
#print axioms bombeSearches_holds
end Go.Proofs.Ytbbpbcmpemmgjaa
