/-
  RotorPresses, where what comes in is of bulk at most 1048576: for every machine and every keys the statement's function returns true, and its arguments read as before.
-/
import Derived.Test.YtpdjfjmfnmocmaeRows
import Derived.Test.YtpdjfjmfnmocmaeLOPrs
import Derived.Test.YtpdjfjmfnmocmaeRoPp
import Derived.Test.YtpdjfjmfnmocmaeRoWg
import Derived.Test.YtpdjfjmfnmocmaeOOpen
import Derived.Test.YtpdjfjmfnmocmaeYOpen
import Derived.JoinedCond
namespace Go.Proofs.Ytpdjfjmfnmocmae
open Go.RowKit PK

open Go.ChangeShapes Go.WideShapes Go.ChangeAt
open Go.ChangeMaps (open_string shut_string)

theorem len_bulk {H : Type} (l : List (DataW H)) : l.length ≤ Rows.uptoBulkAll l := by
  have one : ∀ d : DataW H, 1 ≤ Rows.uptoBulk d := fun d => by
    cases d with
    | lit l => cases l <;> simp [Rows.uptoBulk]
    | nil => simp [Rows.uptoBulk]
    | ptr d => simp [Rows.uptoBulk]
    | slice elems spare => simp [Rows.uptoBulk]
    | agg parts => simp [Rows.uptoBulk]
    | iface t d => simp [Rows.uptoBulk]
    | map entries => simp [Rows.uptoBulk]
    | held h => simp [Rows.uptoBulk]
  induction l with
  | nil => simp [Rows.uptoBulkAll]
  | cons x r ih => have := one x; simp only [Rows.uptoBulkAll, List.length_cons]; omega
/-- What the bound gives: how many keys there are. -/
theorem few_keys {H : Type} {a : DataW H} {el sp : List (DataW H)} (hk : Rows.uptoSmall H [a, .slice el sp] = true) : el.length + sp.length ≤ 1048576 := by
  have h : Rows.uptoBulkAll [a, DataW.slice el sp] ≤ 1048576 := of_decide_eq_true hk
  simp only [Rows.uptoBulkAll, Rows.uptoBulk] at h
  have h1 := len_bulk el
  have h2 := len_bulk sp
  omega

set_option maxHeartbeats 1000000 in
set_option maxRecDepth 100000 in
theorem lifted_rprs (os : Os) (started : os.Started) (H : Type) (enc : TypeId × Value → H) (F : Stop.Interp) :
    ReturnsInHanded {} Try.checked os 7 .any ((Rows.OpenSpec.upto Rows.rotorPressesSpec).pre6 enc Try.prog Try.f7 Rows.rotorPressesUptoRow.domain false) (((Rows.OpenSpec.upto Rows.rotorPressesSpec).at F).post enc Try.prog Try.f7 false true false false) := by
  refine returnsInHanded_of_cond (C := Try.checked) (s := Rows.OpenSpec.upto Rows.rotorPressesSpec) (k := Rows.uptoSmall) rfl y_own started (by kernel_rfl) Try.func7
    (OpenSpec.witness (enc := enc) (C := Try.checked) (s := Rows.OpenSpec.upto Rows.rotorPressesSpec) (k := Rows.uptoSmall) rfl false ⟨#[], #[.agg (mac (.slice none 0 0) (.slice none 0 0) (.slice none 0 0) (fun _ => 0) (fun _ => 0)), .slice none 0 0], []⟩ 8 (by kernel_rfl) (by kernel_rfl) (by kernel_rfl)
      (x := ([.agg [.nil, .nil, .nil, .agg (List.replicate 26 (.lit (.int .i64 0))), .agg (List.replicate 26 (.lit (.int .i64 0)))], .nil], [], [])) (by kernel_rfl) rfl (by kernel_rfl)) ?_
  intro W base args ds gs before hval0 hW hcnd hk _
  have hval : ∀ (j : Nat) t v, Try.f7.params[j]? = some t → args[j]? = some v → Value.okWide Try.prog W .any base t v := hval0
  have hW' := hW
  obtain ⟨p, q, hA0, hV, rfl, hfz, hnd⟩ := hW
  have hA : DataW.TrodAll enc Try.prog W 0 (fun _ => true) true Try.f7.params.toList args.toList ds p := hA0
  rw [Try.params7] at hA hval
  obtain ⟨v0, vs0, d0, ds0, p0, q0, hargs, rfl, rfl, h0, r0⟩ := trodAll_cons hA
  obtain ⟨v1, vs1, d1, ds1, p1, q1, rfl, rfl, rfl, h1, r1⟩ := trodAll_cons r0
  obtain ⟨rfl, rfl, rfl⟩ := trodAll_nil r1
  obtain rfl : args = #[v0, v1] := by cases args; simp_all
  obtain ⟨rfl, rfl⟩ := trodVars_none hV
  obtain ⟨g0, m0⟩ := open_machine (hval 0 52 v0 rfl rfl) h0
  obtain ⟨n1, f1, m1, hn1⟩ := open_nums2 (hval 1 49 v1 rfl rfl) h1
  have hb1 : n1 ≤ 1048576 := by
    rcases hn1 with hn1 | ⟨el, sp, hd, hle⟩
    · omega
    · subst hd
      have hk2 := hk
      simp only [List.append_nil] at hk2
      have := few_keys hk2
      omega
  clear hA0 hval0
  refine (rotorpresses_of gw_any ppress_any v0 v1 g0 n1 (by omega) f1 W m0 m1).mono fun e W' ⟨he, bel⟩ => ?_
  subst he
  exact ⟨_, rfl, _, _, _, [], _, [], hW', trodAll_mk1 (shut_bool Try.underlying4 _), (trodAll_cons_mk (Below.trod y_laidOut (by kernel_rfl) (of_decide_eq_true (by kernel_rfl)) h0 bel (fun x hx => hW'.lt x (by simp [hx]))) (trodAll_cons_mk (Below.trod y_laidOut (by kernel_rfl) (of_decide_eq_true (by kernel_rfl)) h1 bel (fun x hx => hW'.lt x (by simp [hx]))) trodAll_mk0)), rfl, bel.frame _, fun h => by cases h⟩

theorem rotorPresses_holds : Rows.RotorPressesUptoSaid :=
  OpenClaim.holds_of_cond 7 Try.f7 rfl rfl rfl rfl rfl rfl rfl ⟨rfl, rfl, rfl, rfl, rfl⟩ rfl rfl rfl rfl rfl (by kernel_rfl) Try.func7 (by kernel_rfl)
    (of_decide_eq_true (by kernel_rfl)) (by unfold Func.isWrapper; first | (rw [if_pos (by decide +kernel)]; kernel_rfl) | (rw [if_neg (by decide +kernel)]; exact ⟨rfl, rfl⟩))
    (fun os started H enc _ F => lifted_rprs os started H enc F)
#print axioms rotorPresses_holds
end Go.Proofs.Ytpdjfjmfnmocmae
