/-
  TeleBest: for every input (any text, any two wheels, any two numbers of hands, any two places) and on whatever order of its goroutines' steps the statement's function returns true, without a data race, all goroutines only leaving; its arguments read as before. No condition.
-/
import Derived.Test.YtpdemelchhkfaaaRows
import Derived.Test.YtpdemelchhkfaaaJn38
namespace Go.Proofs.Ytpdemelchhkfaaa
open Go.RowKit PK Tl Go.Conc Cs
open Go.ChangeShapes Go.WideShapes Go.ChangeAt
set_option maxHeartbeats 1000000 in
set_option maxRecDepth 100000 in
theorem lifted_tbest (os : Os) (started : os.Started) (H : Type) (enc : TypeId × Value → H) :
    ReturnsInLeavingWide {} Try.checked os 4 .any (Rows.teleBestSpec.pre6 enc Try.prog Try.f4 Rows.teleBestRow.domain false) (Rows.teleBestSpec.post enc Try.prog Try.f4 false true false false) := by
  refine returnsInLeavingWide_of_change_sized (C := Try.checked) y_own started Try.func4
    (ChangeSpec.witness6 (enc := enc) (C := Try.checked) false ⟨#[], #[.slice none 0 0, .slice none 0 0, .slice none 0 0, .int .i64 0, .int .i64 0, .int .i64 0, .int .i64 0], []⟩ 11 (by kernel_rfl) (by kernel_rfl) (by kernel_rfl) (by kernel_rfl)) ?_
  intro W base args ds gs before hval0 hW hcnd hsz0 _
  have hval : ∀ (j : Nat) t v, Try.f4.params[j]? = some t → args[j]? = some v → Value.okWide Try.prog W .any base t v := hval0
  have hW' := hW
  obtain ⟨p, q, hA0, hV, rfl, hfz, hnd⟩ := hW
  have hA : DataW.TrodAll enc Try.prog W 0 (fun _ => true) true Try.f4.params.toList args.toList ds p := hA0
  rw [Try.params4] at hA hval
  obtain ⟨v0, vs0, d0, ds0, p0, q0, hargs, rfl, rfl, h0, r0⟩ := trodAll_cons hA
  obtain ⟨v1, vs1, d1, ds1, p1, q1, rfl, rfl, rfl, h1, r1⟩ := trodAll_cons r0
  obtain ⟨v2, vs2, d2, ds2, p2, q2, rfl, rfl, rfl, h2, r2⟩ := trodAll_cons r1
  obtain ⟨v3, vs3, d3, ds3, p3, q3, rfl, rfl, rfl, h3, r3⟩ := trodAll_cons r2
  obtain ⟨v4, vs4, d4, ds4, p4, q4, rfl, rfl, rfl, h4, r4⟩ := trodAll_cons r3
  obtain ⟨v5, vs5, d5, ds5, p5, q5, rfl, rfl, rfl, h5, r5⟩ := trodAll_cons r4
  obtain ⟨v6, vs6, d6, ds6, p6, q6, rfl, rfl, rfl, h6, r6⟩ := trodAll_cons r5
  obtain ⟨rfl, rfl, rfl⟩ := trodAll_nil r6
  obtain rfl : args = #[v0, v1, v2, v3, v4, v5, v6] := by cases args; simp_all
  obtain ⟨rfl, rfl⟩ := trodVars_none hV
  obtain ⟨n, f, m0, rt0⟩ := open_nums_r (hval 0 22 v0 rfl rfl) h0
  obtain ⟨la, fp, m1⟩ := open_pins (hval 1 24 v1 rfl rfl) h1
  obtain ⟨lb, fq, m2⟩ := open_pins (hval 2 24 v2 rfl rfl) h2
  obtain ⟨a3, rfl, rfl, rfl, w3⟩ := open_int Try.underlying3 (hval 3 3 v3 rfl rfl) h3
  obtain ⟨a4, rfl, rfl, rfl, w4⟩ := open_int Try.underlying3 (hval 4 3 v4 rfl rfl) h4
  obtain ⟨a5, rfl, rfl, rfl, w5⟩ := open_int Try.underlying3 (hval 5 3 v5 rfl rfl) h5
  obtain ⟨a6, rfl, rfl, rfl, w6⟩ := open_int Try.underlying3 (hval 6 3 v6 rfl rfl) h6
  clear hA0 hval0 hsz0
  have post : ∀ W', Kept W W' → Rows.teleBestSpec.post enc Try.checked.prog Try.f4 false true false false W #[v0, v1, v2, .int .i64 a3, .int .i64 a4, .int .i64 a5, .int .i64 a6] (.bool true) W' := fun W' hk => by
    have bel := kept_below hk
    have t0 := DataW.Trod.of_heap (w' := W') (by rfl) (Below.trod y_laidOut (by kernel_rfl) (of_decide_eq_true (by kernel_rfl)) h0 bel (fun x hx => hW'.lt x (by simp [hx])))
    have t1 := DataW.Trod.of_heap (w' := W') (by rfl) (Below.trod y_laidOut (by kernel_rfl) (of_decide_eq_true (by kernel_rfl)) h1 bel (fun x hx => hW'.lt x (by simp [hx])))
    have t2 := DataW.Trod.of_heap (w' := W') (by rfl) (Below.trod y_laidOut (by kernel_rfl) (of_decide_eq_true (by kernel_rfl)) h2 bel (fun x hx => hW'.lt x (by simp [hx])))
    exact ⟨_, _, _, [], _, [], hW', trodAll_mk1 (shut_bool Try.underlying4 _), (trodAll_cons_mk t0 (trodAll_cons_mk t1 (trodAll_cons_mk t2 (trodAll_cons_mk (shut_int Try.underlying3 w3) (trodAll_cons_mk (shut_int Try.underlying3 w4) (trodAll_cons_mk (shut_int Try.underlying3 w5) (trodAll_cons_mk (shut_int Try.underlying3 w6) trodAll_mk0))))))), rfl, kept_frame hk _, fun h => by cases h⟩
  by_cases hE : beE n f la lb a3 = 0
  · have hfa : faE n f = 0 := by
      refine Classical.byContradiction fun hc => ?_
      unfold beE at hE
      rw [if_pos hc] at hE
      exact hc hE
    have hsr : srE la lb a3 = 0 := by
      unfold beE at hE
      rwa [if_neg (by rw [hfa]; simp)] at hE
    obtain ⟨ha, hb, g1, g2⟩ := srE_zero hsr
    obtain ⟨hn, hf⟩ := faE_nat hfa
    obtain ⟨k, rfl⟩ : ∃ k : Nat, a3 = (k : Int) := ⟨a3.toNat, by omega⟩
    have m0' : NumsAt W v0 n (fun i => (((f i).toNat : Nat) : Int)) := by
      obtain ⟨a, cap, e1, e2, e3⟩ := m0
      refine ⟨a, cap, e1, e2, fun c hc => ?_⟩
      obtain ⟨b, o, e4, e5⟩ := e3 c hc
      exact ⟨b, o, e4, by show W.cell? _ = some (.int .i64 (((f c).toNat : Nat) : Int)); rw [Int.toNat_of_nonneg (hf c hc).1]; exact e5⟩
    obtain ⟨M, last, o, w', t', e1, e2, e3, e4⟩ := tbest_run v0 v1 v2 n la lb k a4 a5 a6 (fun i => (f i).toNat) fp fq hn (fun i hi => by have := hf i hi; omega) ha hb ⟨by omega, by omega⟩ W m0' m1 m2 rt0
    exact ⟨M, last, o, w', t', e1, e2, e3, e4.mono fun v hv => by obtain ⟨rfl, hk⟩ := hv; exact post _ hk⟩
  · exact lone_good ((tbest_bad v0 v1 v2 n la lb a3 a4 a5 a6 f fp fq hE W m0 m1 m2).mono fun e w' ⟨h8, h9⟩ => ⟨_, h8, post w' (below_kept h9)⟩) (by kernel_rfl)

theorem teleBest_holds : Rows.TeleBestSaid :=
  OpenClaim.holds_of_wide_leaving 4 Try.f4 rfl rfl rfl rfl rfl rfl rfl ⟨rfl, rfl, rfl, rfl, rfl⟩ rfl rfl rfl rfl rfl (by kernel_rfl) Try.func4 (by kernel_rfl)
    (of_decide_eq_true (by kernel_rfl)) (by unfold Func.isWrapper; first | (rw [if_pos (by decide +kernel)]; kernel_rfl) | (rw [if_neg (by decide +kernel)]; exact ⟨rfl, rfl⟩))
    (fun os started H enc _ => lifted_tbest os started H enc)
#print axioms teleBest_holds
end Go.Proofs.Ytpdemelchhkfaaa
