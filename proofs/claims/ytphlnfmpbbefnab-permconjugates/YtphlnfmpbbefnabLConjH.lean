/-
  PermConjugates: for every three times 26 numbers the statement's function returns true, and its arguments read as before. No condition.
-/
import Derived.Test.YtphlnfmpbbefnabRows
import Derived.Test.YtphlnfmpbbefnabLConj
import Derived.Test.YtphlnfmpbbefnabPOpen
namespace Go.Proofs.Ytphlnfmpbbefnab
open Go.RowKit PK

set_option maxRecDepth 100000 in
set_option maxHeartbeats 2000000 in
theorem law_conj_bad0 (f g h : Nat → Int)  (E : Int) (hE : (E != 0) = true) (hw : Pm.wrong f = E) (w : World) :
    Calls Try.prog 3 #[.agg (ints 26 f), .agg (ints 26 g), .agg (ints 26 h)] w fun e w' => e = .returned (.bool true) ∧ Below w.heap.size w w' := by
  have KE : Hid (Pm.wrong f = E) := hw
  clear hw
  go_enter Try.func3, Try.ntmps3
  go_wp2_with fail
  refine (alive_any _).mono ?_
  rintro e W1 ⟨rfl, hb0⟩
  obtain ⟨r0, r1, r2, hb, hs1⟩ := after3 hb0
  clear hb0
  go_wp2_with (first | refine load_perm rfl _ rfl _ rfl _ r0 ?_)
  refine (wrong_any _ _).mono ?_
  rintro e V0 ⟨rfl, hc⟩
  rw [KE.out]
  replace hb := hb.trans (hc.mono (by omega))
  have hz0 := hc.size
  replace r1 := r1.below hc r1.lt
  replace r2 := r2.below hc r2.lt
  clear hc
  go_wp2
  go_ret
  exact ⟨rfl, hb⟩

set_option maxRecDepth 100000 in
set_option maxHeartbeats 2000000 in
theorem law_conj_bad1 (f g h : Nat → Int) (h0 : Pm.wrong f = 0) (E : Int) (hE : (E != 0) = true) (hw : Pm.wrong g = E) (w : World) :
    Calls Try.prog 3 #[.agg (ints 26 f), .agg (ints 26 g), .agg (ints 26 h)] w fun e w' => e = .returned (.bool true) ∧ Below w.heap.size w w' := by
  have K0 : Hid (Pm.wrong f = 0) := h0
  have KE : Hid (Pm.wrong g = E) := hw
  clear hw h0
  go_enter Try.func3, Try.ntmps3
  go_wp2_with fail
  refine (alive_any _).mono ?_
  rintro e W1 ⟨rfl, hb0⟩
  obtain ⟨r0, r1, r2, hb, hs1⟩ := after3 hb0
  clear hb0
  go_wp2_with (first | refine load_perm rfl _ rfl _ rfl _ r0 ?_)
  refine (wrong_any _ _).mono ?_
  rintro e V0 ⟨rfl, hc⟩
  rw [K0.out]
  replace hb := hb.trans (hc.mono (by omega))
  have hz0 := hc.size
  replace r1 := r1.below hc r1.lt
  replace r2 := r2.below hc r2.lt
  clear hc
  go_wp2_with (first | refine load_perm rfl _ rfl _ rfl _ r1 ?_)
  refine (wrong_any _ _).mono ?_
  rintro e V1 ⟨rfl, hc⟩
  rw [KE.out]
  replace hb := hb.trans (hc.mono (by omega))
  have hz1 := hc.size
  replace r2 := r2.below hc r2.lt
  clear hc
  go_wp2
  go_ret
  exact ⟨rfl, hb⟩

set_option maxRecDepth 100000 in
set_option maxHeartbeats 2000000 in
theorem law_conj_bad2 (f g h : Nat → Int) (h0 : Pm.wrong f = 0) (h1 : Pm.wrong g = 0) (E : Int) (hE : (E != 0) = true) (hw : Pm.wrong h = E) (w : World) :
    Calls Try.prog 3 #[.agg (ints 26 f), .agg (ints 26 g), .agg (ints 26 h)] w fun e w' => e = .returned (.bool true) ∧ Below w.heap.size w w' := by
  have K0 : Hid (Pm.wrong f = 0) := h0
  have K1 : Hid (Pm.wrong g = 0) := h1
  have KE : Hid (Pm.wrong h = E) := hw
  clear hw h0 h1
  go_enter Try.func3, Try.ntmps3
  go_wp2_with fail
  refine (alive_any _).mono ?_
  rintro e W1 ⟨rfl, hb0⟩
  obtain ⟨r0, r1, r2, hb, hs1⟩ := after3 hb0
  clear hb0
  go_wp2_with (first | refine load_perm rfl _ rfl _ rfl _ r0 ?_)
  refine (wrong_any _ _).mono ?_
  rintro e V0 ⟨rfl, hc⟩
  rw [K0.out]
  replace hb := hb.trans (hc.mono (by omega))
  have hz0 := hc.size
  replace r1 := r1.below hc r1.lt
  replace r2 := r2.below hc r2.lt
  clear hc
  go_wp2_with (first | refine load_perm rfl _ rfl _ rfl _ r1 ?_)
  refine (wrong_any _ _).mono ?_
  rintro e V1 ⟨rfl, hc⟩
  rw [K1.out]
  replace hb := hb.trans (hc.mono (by omega))
  have hz1 := hc.size
  replace r2 := r2.below hc r2.lt
  clear hc
  go_wp2_with (first | refine load_perm rfl _ rfl _ rfl _ r2 ?_)
  refine (wrong_any _ _).mono ?_
  rintro e V2 ⟨rfl, hc⟩
  rw [KE.out]
  replace hb := hb.trans (hc.mono (by omega))
  have hz2 := hc.size
  clear hc
  go_wp2
  go_ret
  exact ⟨rfl, hb⟩

theorem law_conj (f g h : Nat → Int) (w : World) : Calls Try.prog 3 #[.agg (ints 26 f), .agg (ints 26 g), .agg (ints 26 h)] w fun e w' => e = .returned (.bool true) ∧ Below w.heap.size w w' := by
  by_cases h0 : Pm.wrong f = 0
  · by_cases h1 : Pm.wrong g = 0
    · by_cases h2 : Pm.wrong h = 0
      · obtain ⟨p, hp, hp'⟩ := (Pm.wrong_zero f).1 h0
        obtain ⟨q, hq, hq'⟩ := (Pm.wrong_zero g).1 h1
        obtain ⟨r, hr, hr'⟩ := (Pm.wrong_zero h).1 h2
        rw [show ints 26 f = ints 26 (Pm.up p) from ints_ext hp', show ints 26 g = ints 26 (Pm.up q) from ints_ext hq', show ints 26 h = ints 26 (Pm.up r) from ints_ext hr']
        exact law_conj_ok p q r hp hq hr w
      · exact law_conj_bad2 f g h h0 h1 _ (by simpa using h2) rfl w
    · exact law_conj_bad1 f g h h0 _ (by simpa using h1) rfl w
  · exact law_conj_bad0 f g h _ (by simpa using h0) rfl w

open Go.ChangeShapes Go.WideShapes Go.ChangeAt

set_option maxHeartbeats 1000000 in
set_option maxRecDepth 100000 in
theorem lifted_conj (os : Os) (started : os.Started) (H : Type) (enc : TypeId × Value → H) :
    ReturnsInHanded {} Try.checked os 3 .any (Rows.permConjugatesSpec.pre6 enc Try.prog Try.f3 Rows.permConjugatesRow.domain false) (Rows.permConjugatesSpec.post enc Try.prog Try.f3 false true false false) := by
  refine returnsInHanded_of_change (C := Try.checked) own started (by kernel_rfl) Try.func3
    (ChangeSpec.witness6 (enc := enc) (C := Try.checked) false ⟨#[], #[.agg (ints 26 fun _ => 0), .agg (ints 26 fun _ => 0), .agg (ints 26 fun _ => 0)], []⟩ 8 (by kernel_rfl) (by kernel_rfl) (by kernel_rfl) (by kernel_rfl)) ?_
  intro W base args ds gs before hval0 hW hcnd _
  have hval : ∀ (j : Nat) t v, Try.f3.params[j]? = some t → args[j]? = some v → Value.okWide Try.prog W .any base t v := hval0
  have hW' := hW
  obtain ⟨p, q, hA0, hV, rfl, hfz, hnd⟩ := hW
  have hA : DataW.TrodAll enc Try.prog W 0 (fun _ => true) true Try.f3.params.toList args.toList ds p := hA0
  rw [Try.params3] at hA hval
  obtain ⟨v0, vs0, d0, ds0, p0, q0, hargs, rfl, rfl, h0, r0⟩ := trodAll_cons hA
  obtain ⟨v1, vs1, d1, ds1, p1, q1, rfl, rfl, rfl, h1, r1⟩ := trodAll_cons r0
  obtain ⟨v2, vs2, d2, ds2, p2, q2, rfl, rfl, rfl, h2, r2⟩ := trodAll_cons r1
  obtain ⟨rfl, rfl, rfl⟩ := trodAll_nil r2
  obtain rfl : args = #[v0, v1, v2] := by cases args; simp_all
  obtain ⟨rfl, rfl⟩ := trodVars_none hV
  obtain ⟨a0, rfl, rfl⟩ := open_perm (hval 0 23 v0 rfl rfl) h0
  obtain ⟨a1, rfl, rfl⟩ := open_perm (hval 1 23 v1 rfl rfl) h1
  obtain ⟨a2, rfl, rfl⟩ := open_perm (hval 2 23 v2 rfl rfl) h2
  clear hA0 hval0
  refine (law_conj a0 a1 a2 W).mono fun e W' ⟨he, bel⟩ => ?_
  subst he
  exact ⟨_, rfl, _, _, _, [], _, [], hW', trodAll_mk1 (shut_bool Try.underlying4 _), (trodAll_cons_mk (Below.trod laidOut (by kernel_rfl) (of_decide_eq_true (by kernel_rfl)) h0 bel (fun x hx => by cases hx)) (trodAll_cons_mk (Below.trod laidOut (by kernel_rfl) (of_decide_eq_true (by kernel_rfl)) h1 bel (fun x hx => by cases hx)) (trodAll_cons_mk (Below.trod laidOut (by kernel_rfl) (of_decide_eq_true (by kernel_rfl)) h2 bel (fun x hx => by cases hx)) trodAll_mk0))), rfl, bel.frame _, fun h => by cases h⟩

theorem permConjugates_holds : Rows.PermConjugatesSaid :=
  OpenClaim.holds_of_wide 3 Try.f3 rfl rfl rfl rfl rfl rfl rfl ⟨rfl, rfl, rfl, rfl, rfl⟩ rfl rfl rfl rfl rfl (by kernel_rfl) Try.func3 (by kernel_rfl)
    (of_decide_eq_true (by kernel_rfl)) (by unfold Func.isWrapper; first | (rw [if_pos (by decide +kernel)]; kernel_rfl) | (rw [if_neg (by decide +kernel)]; exact ⟨rfl, rfl⟩))
    (fun os started H enc _ => lifted_conj os started H enc)
#print axioms permConjugates_holds
end Go.Proofs.Ytphlnfmpbbefnab
