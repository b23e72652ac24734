/-
  PermTurns: for every 26 numbers the statement's function returns true, and its argument reads as before. No condition.
-/
import Derived.Test.YtphlnfmpbbefnabRows
import Derived.Test.YtphlnfmpbbefnabLTurns
import Derived.Test.YtphlnfmpbbefnabPOpen
namespace Go.Proofs.Ytphlnfmpbbefnab
open Go.RowKit PK


theorem law_turns (f : Nat → Int) (w : World) : Calls Try.prog 4 #[.agg (ints 26 f)] w fun e w' => e = .returned (.bool true) ∧ Below w.heap.size w w' := by
  have h1 : Pm.firstBad (fun _ => f) 1 = Pm.wrong f := Pm.firstBad_succ (fun _ => f) 0 rfl
  by_cases h : Pm.wrong f = 0
  · obtain ⟨p, hp, he⟩ := (Pm.wrong_zero f).1 h
    rw [show ints 26 f = ints 26 (Pm.up p) from ints_ext he]
    exact law_turns_ok p hp w
  · exact law_turns_bad f (Pm.wrong f) (by simpa using h) h1 w

open Go.ChangeShapes Go.WideShapes Go.ChangeAt

set_option maxHeartbeats 1000000 in
set_option maxRecDepth 100000 in
theorem lifted_turns (os : Os) (started : os.Started) (H : Type) (enc : TypeId × Value → H) :
    ReturnsInHanded {} Try.checked os 4 .any (Rows.permTurnsSpec.pre6 enc Try.prog Try.f4 Rows.permTurnsRow.domain false) (Rows.permTurnsSpec.post enc Try.prog Try.f4 false true false false) := by
  refine returnsInHanded_of_change (C := Try.checked) own started (by kernel_rfl) Try.func4
    (ChangeSpec.witness6 (enc := enc) (C := Try.checked) false ⟨#[], #[.agg (ints 26 fun _ => 0)], []⟩ 8 (by kernel_rfl) (by kernel_rfl) (by kernel_rfl) (by kernel_rfl)) ?_
  intro W base args ds gs before hval0 hW hcnd _
  have hval : ∀ (j : Nat) t v, Try.f4.params[j]? = some t → args[j]? = some v → Value.okWide Try.prog W .any base t v := hval0
  have hW' := hW
  obtain ⟨p, q, hA0, hV, rfl, hfz, hnd⟩ := hW
  have hA : DataW.TrodAll enc Try.prog W 0 (fun _ => true) true Try.f4.params.toList args.toList ds p := hA0
  rw [Try.params4] at hA hval
  obtain ⟨v0, vs0, d0, ds0, p0, q0, hargs, rfl, rfl, h0, r0⟩ := trodAll_cons hA
  obtain ⟨rfl, rfl, rfl⟩ := trodAll_nil r0
  obtain rfl : args = #[v0] := by cases args; simp_all
  obtain ⟨rfl, rfl⟩ := trodVars_none hV
  obtain ⟨a0, rfl, rfl⟩ := open_perm (hval 0 23 v0 rfl rfl) h0
  clear hA0 hval0
  refine (law_turns a0 W).mono fun e W' ⟨he, bel⟩ => ?_
  subst he
  exact ⟨_, rfl, _, _, _, [], _, [], hW', trodAll_mk1 (shut_bool Try.underlying4 _), (trodAll_cons_mk (Below.trod laidOut (by kernel_rfl) (of_decide_eq_true (by kernel_rfl)) h0 bel (fun x hx => by cases hx)) trodAll_mk0), rfl, bel.frame _, fun h => by cases h⟩

theorem permTurns_holds : Rows.PermTurnsSaid :=
  OpenClaim.holds_of_wide 4 Try.f4 rfl rfl rfl rfl rfl rfl rfl ⟨rfl, rfl, rfl, rfl, rfl⟩ rfl rfl rfl rfl rfl (by kernel_rfl) Try.func4 (by kernel_rfl)
    (of_decide_eq_true (by kernel_rfl)) (by unfold Func.isWrapper; first | (rw [if_pos (by decide +kernel)]; kernel_rfl) | (rw [if_neg (by decide +kernel)]; exact ⟨rfl, rfl⟩))
    (fun os started H enc _ => lifted_turns os started H enc)
#print axioms permTurns_holds
end Go.Proofs.Ytphlnfmpbbefnab
