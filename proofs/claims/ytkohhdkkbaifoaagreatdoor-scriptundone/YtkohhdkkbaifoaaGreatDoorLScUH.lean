/-
  ScriptUndone: for every two chains and every text the statement's function returns true, and its arguments read as before. The package-level variables read as the program's text lays them (the card ties them).
-/
import Derived.Test.YtkohhdkkbaifoaaGreatDoorRows
import Derived.Test.YtkohhdkkbaifoaaGreatDoorCards
import Derived.Test.YtkohhdkkbaifoaaGreatDoorTie
import Derived.Test.YtkohhdkkbaifoaaGreatDoorJn25
import Derived.Test.YtkohhdkkbaifoaaGreatDoorLScU
import Derived.Test.YtkohhdkkbaifoaaGreatDoorJn36
import Derived.ProofKit
import Derived.OpenShut
import Derived.SevenTiedAt
import Derived.Stop.Joined
import Derived.SizedLaws
namespace Go.Proofs.YtkohhdkkbaifoaaGreatDoor
open Go.RowKit PK

open Go.ChangeShapes Go.WideShapes Go.ChangeAt
open Go.ChangeMaps (open_string shut_string)

theorem own_LScUH : ownKnob Tryz.prog.godebug = none := by kernel_rfl
theorem laidOut_LScUH : laidOutB Tryz.prog = true := by kernel_rfl
set_option maxHeartbeats 2000000 in
set_option maxRecDepth 100000 in
theorem lifted_LScUH (os : Os) (started : os.Started) (H : Type) (enc : TypeId × Value → H) :
    ReturnsInHanded {} Tryz.checked os 5 .any (fun w args => (Rows.scriptUndoneSpec.pre enc Tryz.prog Tryz.f5 Rows.scriptUndoneRow.domain false w args ∧ laidMetH Tryz.prog Rows.scriptUndoneRow.laid w) ∧ sizedMet enc Tryz.prog Tryz.f5 (OpenSpec.ofChange Rows.scriptUndoneSpec) false w args) (Rows.scriptUndoneSpec.post enc Tryz.prog Tryz.f5 false true false false) := by
  refine returnsInHanded_of_change_and (C := Tryz.checked) (X := fun w _ => laidMetH Tryz.prog Rows.scriptUndoneRow.laid w) (fun _ _ _ hh h => h.of_heap hh) own_LScUH started (by kernel_rfl) Tryz.func5
    (ChangeSpec.witness_shaped (enc := enc) (C := Tryz.checked) (os := os) (X := fun w _ => laidMetH Tryz.prog Rows.scriptUndoneRow.laid w) false (World.laidAll Tryz.prog os Rows.scriptUndoneRow.laid) #[.slice none 0 0, .slice none 0 0, .string ByteArray.empty] 8 (World.laidAll_os _ _ _) (World.shaped_of_ZipB (by kernel_rfl) (by kernel_rfl)) (by kernel_rfl) (by kernel_rfl) (by kernel_rfl) (laid_start os _)) ?_
  intro W base args ds gs before hval0 hW _ hsz0 hL0 _
  have hval : ∀ (j : Nat) t v, Tryz.f5.params[j]? = some t → args[j]? = some v → Value.okWide Tryz.prog W .any base t v := hval0
  have hsz : (DataW.weightsEach Tryz.prog (Tryz.f5.params.toList ++ Rows.scriptUndoneSpec.plain.varTypes Tryz.prog) (ds ++ gs)).all (· ≤ reachBytes) = true := hsz0
  have hL : laidMetH Tryz.prog Rows.scriptUndoneRow.laid W := hL0
  obtain ⟨hnm, her⟩ := laid_all hL
  have hW' := hW
  obtain ⟨p, q, hA0, hV, rfl, hfz, hnd⟩ := hW
  have hA : DataW.TrodAll enc Tryz.prog W 0 (fun _ => true) true Tryz.f5.params.toList args.toList ds p := hA0
  rw [Tryz.params5] at hA hval hsz
  obtain ⟨v0, vs0, d0, ds0, p0, q0, hargs, rfl, rfl, h0, r0⟩ := trodAll_cons hA
  obtain ⟨v1, vs1, d1, ds1, p1, q1, rfl, rfl, rfl, h1, r1⟩ := trodAll_cons r0
  obtain ⟨v2, vs2, d2, ds2, p2, q2, rfl, rfl, rfl, h2, r2⟩ := trodAll_cons r1
  obtain ⟨rfl, rfl, rfl⟩ := trodAll_nil r2
  obtain rfl : args = #[v0, v1, v2] := by cases args; simp_all
  obtain ⟨rfl, rfl⟩ := trodVars_none hV
  obtain ⟨n0, l0, m0, hn0⟩ := open_chain (hval 0 22 v0 rfl rfl) h0
  have hb0 : n0 ≤ 1099511627776 := by
    rcases hn0 with hn | ⟨ad, cp, el, sp, hn, hd, hle⟩
    · obtain ⟨_, _, _, e, _⟩ := m0
      rw [hn] at e
      injection e with _ e _
      omega
    · have z1 := sized_slice hsz (j := 0) (t := 22) (e := 31) (elems := el) (spare := sp) rfl (by rw [hd]; rfl) Tryz.underlying22
      rw [show Tryz.prog.bytesOf 31 = 544 by kernel_rfl] at z1
      simp only [reachBytes] at z1
      omega
  have hz0 : NilOr v0 n0 := by
    rcases hn0 with hn | ⟨ad, cp, el, sp, hn, hd, hle⟩
    · obtain ⟨_, _, _, e, _⟩ := m0
      rw [hn] at e
      injection e with _ e _
      exact .inl ⟨hn, e.symm⟩
    · exact .inr ⟨ad, cp, hn⟩
  obtain ⟨n1, l1, m1, hn1⟩ := open_chain (hval 1 22 v1 rfl rfl) h1
  have hb1 : n1 ≤ 1099511627776 := by
    rcases hn1 with hn | ⟨ad, cp, el, sp, hn, hd, hle⟩
    · obtain ⟨_, _, _, e, _⟩ := m1
      rw [hn] at e
      injection e with _ e _
      omega
    · have z1 := sized_slice hsz (j := 1) (t := 22) (e := 31) (elems := el) (spare := sp) rfl (by rw [hd]; rfl) Tryz.underlying22
      rw [show Tryz.prog.bytesOf 31 = 544 by kernel_rfl] at z1
      simp only [reachBytes] at z1
      omega
  have hz1 : NilOr v1 n1 := by
    rcases hn1 with hn | ⟨ad, cp, el, sp, hn, hd, hle⟩
    · obtain ⟨_, _, _, e, _⟩ := m1
      rw [hn] at e
      injection e with _ e _
      exact .inl ⟨hn, e.symm⟩
    · exact .inr ⟨ad, cp, hn⟩
  obtain ⟨a2, rfl, rfl, rfl, w2⟩ := open_string Tryz.underlying9 (hval 2 9 v2 rfl rfl) h2
  clear hA0 hval0 hsz0 hsz hL0 hL
  refine (sund_any v0 v1 n0 n1 l0 l1 a2 W m0 m1 hz0 hz1 hb1 hnm her).mono fun e W' ⟨he, bel⟩ => ?_
  subst he
  exact ⟨_, rfl, _, _, _, [], _, [], hW', trodAll_mk1 (shut_bool Tryz.underlying4 _), (trodAll_cons_mk (Below.trod laidOut_LScUH (by kernel_rfl) (of_decide_eq_true (by kernel_rfl)) h0 bel (fun x hx => hW'.lt x (by simp [hx]))) (trodAll_cons_mk (Below.trod laidOut_LScUH (by kernel_rfl) (of_decide_eq_true (by kernel_rfl)) h1 bel (fun x hx => hW'.lt x (by simp [hx]))) (trodAll_cons_mk (shut_string Tryz.underlying9 w2) trodAll_mk0))), rfl, bel.frame _, fun h => by cases h⟩
theorem scriptUndone_row : Rows.ScriptUndoneSaid :=
  OpenClaim.holds_of_wide 5 Tryz.f5 rfl rfl rfl rfl rfl rfl rfl ⟨rfl, rfl, rfl, rfl, rfl⟩ rfl rfl rfl rfl rfl (by kernel_rfl) Tryz.func5 (by kernel_rfl)
    (of_decide_eq_true (by kernel_rfl)) (by unfold Func.isWrapper; first | (rw [if_pos (by decide +kernel)]; kernel_rfl) | (rw [if_neg (by decide +kernel)]; exact ⟨rfl, rfl⟩))
    (fun os started H enc _ => lifted_LScUH os started H enc)
theorem scriptUndone_holds : Rows.ScriptUndoneCardSaid :=
  Claim7.holds_tied_plain_at .later [] [.data, .data, .data, .data, .sentinel, .sentinel, .data, .called, .pinned] true (true, "4bb2a71613071ffbbaeee5debb3a534deb2bf4a73d0042b90ffacc56369ac4a4") true scriptUndone_row (fun _ h => by cases h) (by kernel_rfl) (fun _ h => by cases h) scriptUndone_row_tie rfl ⟨rfl, rfl⟩ (by kernel_rfl) rfl
    (fun f fn hf hfn => by
      obtain rfl : f = 5 := Option.some.inj ((show Tryz.prog.funcNamed "blackroom/blackroomlaw17.ScriptUndone" = some 5 by kernel_rfl).symm.trans hf) |>.symm
      obtain rfl : fn = Tryz.f5 := (Option.some.inj (Tryz.func5.symm.trans hfn)).symm
      exact ⟨by kernel_rfl, fun j t ht => by
        rw [Tryz.params5] at ht
        have hm : t ∈ [22, 22, 9] := by simpa using Array.mem_of_getElem? ht
        have hall : ([22, 22, 9].all fun u => !Tryz.prog.wantsStandIn u) = true := by kernel_rfl
        exact (show Tryz.prog.wantsStandIn t = false by simpa using List.all_eq_true.1 hall t hm)⟩)
    (by kernel_rfl)
#print axioms scriptUndone_holds
end Go.Proofs.YtkohhdkkbaifoaaGreatDoor
