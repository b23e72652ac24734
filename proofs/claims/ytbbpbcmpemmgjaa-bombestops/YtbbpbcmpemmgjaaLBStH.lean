/-
  BombeStops: for every input (any machine, any crib, any two numbers of hands) and on whatever order of its goroutines' steps the statement's function returns true, without a data race, all goroutines only leaving; its arguments read as before. No condition.
-/
import Derived.Test.YtbbpbcmpemmgjaaRows
import Derived.Test.YtbbpbcmpemmgjaaJn39
import Derived.ShutString
import Derived.ChangeMaps
namespace Go.Proofs.Ytbbpbcmpemmgjaa
open Go.RowKit PK Vg Go.Conc

open Go.ChangeShapes Go.WideShapes Go.ChangeAt
open Go.ChangeMaps (open_string shut_string)

theorem kept_belowS {W W' : World} (h : Kept W W') : Below W.heap.size W { W' with tape := W.tape } := by
  refine ⟨h.2.1, rfl, h.2.2, ?_, h.1⟩
  show W.heap.size ≤ W'.heap.size
  by_cases h0 : W.heap.size = 0
  · omega
  · have h1 := h.1 (W.heap.size - 1) (by omega)
    have h2 : (W'.heap[W.heap.size - 1]?).isSome = true := by rw [h1]; simp; omega
    have h3 : W.heap.size - 1 < W'.heap.size := by simpa using h2
    omega
theorem kept_frameS {W W' : World} (h : Kept W W') (may : MemPlace → Prop) : W.keptBut W' may := by
  refine ⟨h.2.1, h.2.2, fun i hi => ?_⟩
  rw [h.1 i hi]
  split <;> simp_all
theorem below_keptS {W W' : World} (h : Below W.heap.size W W') : Kept W W' := ⟨h.block, h.os, h.output⟩
set_option maxHeartbeats 1000000 in
set_option maxRecDepth 100000 in
theorem lifted_stops (os : Os) (started : os.Started) (H : Type) (enc : TypeId × Value → H) :
    ReturnsInLeavingWide {} Try.checked os 6 .any (Rows.bombeStopsSpec.pre6 enc Try.prog Try.f6 Rows.bombeStopsRow.domain false) (Rows.bombeStopsSpec.post enc Try.prog Try.f6 false true false false) := by
  refine returnsInLeavingWide_of_change_sized (C := Try.checked) y_own started Try.func6
    (ChangeSpec.witness6 (enc := enc) (C := Try.checked) false ⟨#[], #[.agg (mac (.slice none 0 0) (.slice none 0 0) (.slice none 0 0) (fun _ => 0) (fun _ => 0)), .string ByteArray.empty, .int .i64 0, .int .i64 0], []⟩ 8 (by kernel_rfl) (by kernel_rfl) (by kernel_rfl) (by kernel_rfl)) ?_
  intro W base args ds gs before hval0 hW hcnd hsz0 _
  have hval : ∀ (j : Nat) t v, Try.f6.params[j]? = some t → args[j]? = some v → Value.okWide Try.prog W .any base t v := hval0
  have hsz : (DataW.weightsEach Try.prog (Try.f6.params.toList ++ Rows.bombeStopsSpec.plain.varTypes Try.prog) (ds ++ gs)).all (· ≤ reachBytes) = true := hsz0
  have hW' := hW
  obtain ⟨p, q, hA0, hV, rfl, hfz, hnd⟩ := hW
  have hA : DataW.TrodAll enc Try.prog W 0 (fun _ => true) true Try.f6.params.toList args.toList ds p := hA0
  rw [Try.params6] at hA hval hsz
  obtain ⟨v0, vs0, d0, ds0, p0, q0, hargs, rfl, rfl, h0, r0⟩ := trodAll_cons hA
  obtain ⟨v1, vs1, d1, ds1, p1, q1, rfl, rfl, rfl, h1, r1⟩ := trodAll_cons r0
  obtain ⟨v2, vs2, d2, ds2, p2, q2, rfl, rfl, rfl, h2, r2⟩ := trodAll_cons r1
  obtain ⟨v3, vs3, d3, ds3, p3, q3, rfl, rfl, rfl, h3, r3⟩ := trodAll_cons r2
  obtain ⟨rfl, rfl, rfl⟩ := trodAll_nil r3
  obtain rfl : args = #[v0, v1, v2, v3] := by cases args; simp_all
  obtain ⟨rfl, rfl⟩ := trodVars_none hV
  obtain ⟨g0, m0, hb0, hr0⟩ := open_machine_r (hval 0 27 v0 rfl rfl) h0
  obtain ⟨a1, rfl, rfl, rfl, w1⟩ := open_string Try.underlying9 (hval 1 9 v1 rfl rfl) h1
  obtain ⟨a2, rfl, rfl, rfl, w2⟩ := open_int Try.underlying3 (hval 2 3 v2 rfl rfl) h2
  obtain ⟨a3, rfl, rfl, rfl, w3⟩ := open_int Try.underlying3 (hval 3 3 v3 rfl rfl) h3
  have hfits : ∀ n, Fit 27 d0 n → n * 8 ≤ 140737488355328 := fun n hn => by
    rcases hn with hn | ⟨k, hk, hle⟩
    · omega
    · have h5 := List.all_eq_true.1 hsz k (DataW.weights_mem_each (j := 0) (t := 27) rfl rfl k hk)
      have h6 : k ≤ reachBytes := by simpa using h5
      simp only [reachBytes] at h6
      omega
  clear hA0 hval0 hsz0 hsz
  have post : ∀ W', Kept W W' → Rows.bombeStopsSpec.post enc Try.checked.prog Try.f6 false true false false W #[v0, .string a1, .int .i64 a2, .int .i64 a3] (.bool true) W' := fun W' hk => by
    have bel := kept_belowS hk
    have t0 := DataW.Trod.of_heap (w' := W') (by rfl) (Below.trod y_laidOut (by kernel_rfl) (of_decide_eq_true (by kernel_rfl)) h0 bel (fun x hx => hW'.lt x (by simp [hx])))
    exact ⟨_, _, _, [], _, [], hW', trodAll_mk1 (shut_bool Try.underlying4 _), (trodAll_cons_mk t0 (trodAll_cons_mk (shut_string Try.underlying9 w1) (trodAll_cons_mk (shut_int Try.underlying3 w2) (trodAll_cons_mk (shut_int Try.underlying3 w3) trodAll_mk0)))), rfl, kept_frameS hk _, fun h => by cases h⟩
  by_cases hgn : gE g0 = 0 ∧ g0.n ≤ 2
  case neg =>
    have hbad : stB (rwE g0 a1.data.toList) g0.n a2 a3 := by
      by_cases h5 : gE g0 = 0
      · exact .inr (.inl (by omega))
      · exact .inl (by unfold rwE; rw [if_pos h5]; exact h5)
    exact lone_good ((stops_bad1 v0 g0 a1 a2 a3 hbad W m0.at_).mono fun e w' ⟨h5, h6⟩ => ⟨_, h5, post w' (below_keptS h6)⟩) (by kernel_rfl)
  obtain ⟨hg0, hn2⟩ := hgn
  obtain ⟨N0, hN1, hst⟩ := own_numB hg0 hn2
  obtain ⟨_, hsl, _⟩ := gE_slB hg0
  obtain ⟨a, b, c, rfl, ka, kb, kc, ra, rb, rc⟩ := m0
  have kc' : NumsAt W c (gmN g0 N0).sl (gmN g0 N0).st := by
    have := kc.congr hst
    rw [hsl] at this
    exact this
  have m1 : MacAt W (.agg (mac a b c g0.rf g0.pl)) (gmN g0 N0) := ⟨a, b, c, rfl, ka.at_, kb, kc'⟩
  by_cases hbad : stB (rwE (gmN g0 N0) a1.data.toList) (gmN g0 N0).n a2 a3
  · exact lone_good ((stops_bad1 _ (gmN g0 N0) a1 a2 a3 hbad W m1).mono fun e w' ⟨h5, h6⟩ => ⟨_, h5, post w' (below_keptS h6)⟩) (by kernel_rfl)
  unfold stB at hbad
  have hE : rwE (gmN g0 N0) a1.data.toList = 0 := Decidable.not_not.1 fun h => hbad (.inl h)
  have hn : 1 ≤ a2 ∧ a2 ≤ 16 := by omega
  have hk : 1 ≤ a3 ∧ a3 ≤ 16 := by omega
  obtain ⟨te, hte⟩ : ∃ te : ByteArray, te = ⟨(rwS (gmN g0 N0) a1.data.toList).toArray⟩ := ⟨_, rfl⟩
  obtain ⟨hg1, _, hbw, _⟩ := comp_facts hE hte
  by_cases hl : a1.data.toList.length < 1 ∨ 32 < a1.data.toList.length
  · rw [if_pos hl] at hbw
    exact lone_good ((stops_bad2 _ (gmN g0 N0) a1 te a2 a3 hE hte hn2 hn hk hbw W m1).mono fun e w' ⟨h5, h6⟩ => ⟨_, h5, post w' (below_keptS h6)⟩) (by kernel_rfl)
  rw [if_neg hl] at hbw
  obtain ⟨n, rfl⟩ : ∃ n : Nat, a2 = (n : Int) := ⟨a2.toNat, by omega⟩
  obtain ⟨k, rfl⟩ : ∃ k : Nat, a3 = (k : Int) := ⟨a3.toNat, by omega⟩
  obtain ⟨hl2, hBm⟩ := bms_exists hbw
  obtain ⟨Aa, PA, pr, LG, hO⟩ := own_guess hBm (N0 := N0) rfl hE hte
  obtain ⟨M, last, o, w', t', e1, e2, e3, e4⟩ := stops_run a b c (gmN g0 N0) a1 te hl2 hE hte hBm N0 Aa PA pr LG hO rfl hN1 hg1 hn2 hbw n k (by omega) (by omega) (fun r hr => hfits _ (hb0 r hr)) (hfits _ hr0) W ka kb kc' ra rb rc
  exact ⟨M, last, o, w', t', e1, e2, e3, e4.mono fun v hv => by obtain ⟨rfl, hk⟩ := hv; exact post _ hk⟩

theorem bombeStops_holds : Rows.BombeStopsSaid :=
  OpenClaim.holds_of_wide_leaving 6 Try.f6 rfl rfl rfl rfl rfl rfl rfl ⟨rfl, rfl, rfl, rfl, rfl⟩ rfl rfl rfl rfl rfl (by kernel_rfl) Try.func6 (by kernel_rfl)
    (of_decide_eq_true (by kernel_rfl)) (by unfold Func.isWrapper; first | (rw [if_pos (by decide +kernel)]; kernel_rfl) | (rw [if_neg (by decide +kernel)]; exact ⟨rfl, rfl⟩))
    (fun os started H enc _ => lifted_stops os started H enc)
#print axioms bombeStops_holds
end Go.Proofs.Ytbbpbcmpemmgjaa
