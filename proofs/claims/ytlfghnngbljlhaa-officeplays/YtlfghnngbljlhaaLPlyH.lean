/-
  OfficePlays: for every input (any number of signs, any pad, any words, any steps) the statement's function returns true, and its arguments read as before. No condition.
-/
import Derived.Test.YtlfghnngbljlhaaRows
import Derived.Test.YtlfghnngbljlhaaLPly
import Derived.Test.YtlfghnngbljlhaaOfOp
import Derived.SizedLaws
namespace Go.Proofs.Ytlfghnngbljlhaa
open Go.RowKit PK

open Go.ChangeShapes Go.WideShapes Go.ChangeAt

set_option maxHeartbeats 1000000 in
set_option maxRecDepth 100000 in
theorem lifted_ply (os : Os) (started : os.Started) (H : Type) (enc : TypeId × Value → H) :
    ReturnsInHanded {} Try.checked os 3 .any (Rows.officePlaysSpec.pre6 enc Try.prog Try.f3 Rows.officePlaysRow.domain false) (Rows.officePlaysSpec.post enc Try.prog Try.f3 false true false false) := by
  refine returnsInHanded_of_change_sized (C := Try.checked) y_own started (by kernel_rfl) Try.func3
    (ChangeSpec.witness6 (enc := enc) (C := Try.checked) false ⟨#[], #[.int .i64 0, .slice none 0 0, .slice none 0 0, .slice none 0 0], []⟩ 8 (by kernel_rfl) (by kernel_rfl) (by kernel_rfl) (by kernel_rfl)) ?_
  intro W base args ds gs before hval0 hW hcnd hsz0 _
  have hval : ∀ (j : Nat) t v, Try.f3.params[j]? = some t → args[j]? = some v → Value.okWide Try.prog W .any base t v := hval0
  have hsz : (DataW.weightsEach Try.prog (Try.f3.params.toList ++ Rows.officePlaysSpec.plain.varTypes Try.prog) (ds ++ gs)).all (· ≤ reachBytes) = true := hsz0
  have hW' := hW
  obtain ⟨p, q, hA0, hV, rfl, hfz, hnd⟩ := hW
  have hA : DataW.TrodAll enc Try.prog W 0 (fun _ => true) true Try.f3.params.toList args.toList ds p := hA0
  rw [Try.params3] at hA hval hsz
  obtain ⟨v0, vs0, d0, ds0, p0, q0, hargs, rfl, rfl, h0, r0⟩ := trodAll_cons hA
  obtain ⟨v1, vs1, d1, ds1, p1, q1, rfl, rfl, rfl, h1, r1⟩ := trodAll_cons r0
  obtain ⟨v2, vs2, d2, ds2, p2, q2, rfl, rfl, rfl, h2, r2⟩ := trodAll_cons r1
  obtain ⟨v3, vs3, d3, ds3, p3, q3, rfl, rfl, rfl, h3, r3⟩ := trodAll_cons r2
  obtain ⟨rfl, rfl, rfl⟩ := trodAll_nil r3
  obtain rfl : args = #[v0, v1, v2, v3] := by cases args; simp_all
  obtain ⟨rfl, rfl⟩ := trodVars_none hV
  obtain ⟨a0, rfl, rfl, rfl, w0⟩ := open_int Try.underlying3 (hval 0 3 v0 rfl rfl) h0
  obtain ⟨n1, f1, m1, hn1, hc1⟩ := open_nums4 (hval 1 22 v1 rfl rfl) h1
  have hb1 : n1 * 8 ≤ 140737488351232 := by
    rcases hn1 with hn | ⟨el, sp, hd, hle⟩
    · omega
    · have z1 := sized_slice hsz (j := 1) (t := 22) (e := 3) (elems := el) (spare := sp) rfl (by rw [hd]; rfl) Try.underlying22
      rw [y_bytes_int] at z1
      simp only [reachBytes] at z1
      omega
  obtain ⟨n2, f2, m2, hn2, hc2⟩ := open_words (hval 2 23 v2 rfl rfl) h2
  have hb2 : n2 * 8 ≤ 140737488351232 := by
    rcases hn2 with hn | ⟨el, sp, hd, hle⟩
    · omega
    · have z1 := sized_slice hsz (j := 2) (t := 23) (e := 2) (elems := el) (spare := sp) rfl (by rw [hd]; rfl) Try.underlying23
      rw [e_bytes_64] at z1
      simp only [reachBytes] at z1
      omega
  obtain ⟨n3, f3, m3, hn3⟩ := open_steps (hval 3 24 v3 rfl rfl) h3
  have hb3 : n3 * 48 ≤ 140737488351232 := by
    rcases hn3 with hn | ⟨el, sp, hd, hle⟩
    · omega
    · have z1 := sized_slice hsz (j := 3) (t := 24) (e := 38) (elems := el) (spare := sp) rfl (by rw [hd]; rfl) Try.underlying24
      rw [e_bytes_stp] at z1
      simp only [reachBytes] at z1
      omega
  clear hA0 hval0 hsz0 hsz
  refine (plays_of a0 v1 v2 v3 n1 f1 n2 f2 n3 f3 W m1 hc1 m2 m3 (fun c e => hc2 0 c e) (by omega) (by omega)).mono fun e W' ⟨he, bel⟩ => ?_
  subst he
  exact ⟨_, rfl, _, _, _, [], _, [], hW', trodAll_mk1 (shut_bool Try.underlying4 _), (trodAll_cons_mk (shut_int Try.underlying3 w0) (trodAll_cons_mk (Below.trod y_laidOut (by kernel_rfl) (of_decide_eq_true (by kernel_rfl)) h1 bel (fun x hx => hW'.lt x (by simp [hx]))) (trodAll_cons_mk (Below.trod y_laidOut (by kernel_rfl) (of_decide_eq_true (by kernel_rfl)) h2 bel (fun x hx => hW'.lt x (by simp [hx]))) (trodAll_cons_mk (Below.trod y_laidOut (by kernel_rfl) (of_decide_eq_true (by kernel_rfl)) h3 bel (fun x hx => hW'.lt x (by simp [hx]))) trodAll_mk0)))), rfl, bel.frame _, fun h => by cases h⟩

theorem officePlays_holds : Rows.OfficePlaysSaid :=
  OpenClaim.holds_of_wide 3 Try.f3 rfl rfl rfl rfl rfl rfl rfl ⟨rfl, rfl, rfl, rfl, rfl⟩ rfl rfl rfl rfl rfl (by kernel_rfl) Try.func3 (by kernel_rfl)
    (of_decide_eq_true (by kernel_rfl)) (by unfold Func.isWrapper; first | (rw [if_pos (by decide +kernel)]; kernel_rfl) | (rw [if_neg (by decide +kernel)]; exact ⟨rfl, rfl⟩))
    (fun os started H enc _ => lifted_ply os started H enc)
#print axioms officePlays_holds
end Go.Proofs.Ytlfghnngbljlhaa
