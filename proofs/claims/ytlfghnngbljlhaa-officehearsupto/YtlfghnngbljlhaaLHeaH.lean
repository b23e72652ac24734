/-
  OfficeHears, where what comes in is of bulk at most 1048576: for every number of signs, every pad, every texts and every place the statement's function returns true, and its arguments read as before.
-/
import Derived.Test.YtlfghnngbljlhaaRows
import Derived.Test.YtlfghnngbljlhaaLHea
import Derived.Test.YtlfghnngbljlhaaHOpen
import Derived.Test.YtlfghnngbljlhaaYOpen
import Derived.JoinedCond
namespace Go.Proofs.Ytlfghnngbljlhaa
open Go.RowKit PK

open Go.ChangeShapes Go.WideShapes Go.ChangeAt

theorem len_bulk {H : Type} (l : List (DataW H)) : l.length ≤ Rows.uptoBulkAll l := by
  have one : ∀ d : DataW H, 1 ≤ Rows.uptoBulk d := fun d => by
    cases d with
    | lit l => cases l <;> simp [Rows.uptoBulk]
    | nil => simp [Rows.uptoBulk]
    | ptr d => simp [Rows.uptoBulk]
    | slice elems spare => simp [Rows.uptoBulk]
    | agg parts => simp [Rows.uptoBulk]
    | iface t d => simp [Rows.uptoBulk]
    | map entries => simp [Rows.uptoBulk]
    | held h => simp [Rows.uptoBulk]
  induction l with
  | nil => simp [Rows.uptoBulkAll]
  | cons x r ih => have := one x; simp only [Rows.uptoBulkAll, List.length_cons]; omega
/-- What the bound gives: how many texts there are. -/
theorem few_texts {H : Type} {a b c : DataW H} {el sp : List (DataW H)} (hk : Rows.uptoSmall H [a, b, .slice el sp, c] = true) : el.length + sp.length ≤ 1048576 := by
  have h : Rows.uptoBulkAll [a, b, DataW.slice el sp, c] ≤ 1048576 := of_decide_eq_true hk
  simp only [Rows.uptoBulkAll, Rows.uptoBulk] at h
  have h1 := len_bulk el
  have h2 := len_bulk sp
  omega
theorem mat_few {H : Type} {enc : TypeId × Value → H} {W : World} {v : Value} {d : DataW H} {p : List MemPlace} (h : DataW.Trod enc Try.prog W 0 (fun _ => true) true 40 v d p) {n : Nat} {L : Nat → Nat} {Z : Nat → Nat → Int} (hm : MatAt W v n L Z) : n = 0 ∨ ∃ el sp, d = .slice el sp ∧ n ≤ el.length + sp.length := by
  obtain ⟨a0, cap0, rfl, _⟩ := hm.len
  obtain ⟨fuel, hf⟩ := h
  rcases DataW.trod_slice Try.underlying40 hf with ⟨e, _⟩ | ⟨a, len, cap, elems, rest, m, _, ecs, hx, hb, hl, hmm, hlen, _⟩
  · simp [Value.cells] at e
    exact .inl e.2.1
  · simp [Value.cells] at ecs
    obtain ⟨rfl, rfl, rfl⟩ := ecs
    exact .inr ⟨_, _, (Prod.ext_iff.1 hx).1, by simp; omega⟩

set_option maxHeartbeats 1000000 in
set_option maxRecDepth 100000 in
theorem lifted_hea (os : Os) (started : os.Started) (H : Type) (enc : TypeId × Value → H) (F : Stop.Interp) :
    ReturnsInHanded {} Try.checked os 5 .any ((Rows.OpenSpec.upto Rows.officeHearsSpec).pre6 enc Try.prog Try.f5 Rows.officeHearsUptoRow.domain false) (((Rows.OpenSpec.upto Rows.officeHearsSpec).at F).post enc Try.prog Try.f5 false true false false) := by
  refine returnsInHanded_of_cond (C := Try.checked) (s := Rows.OpenSpec.upto Rows.officeHearsSpec) (k := Rows.uptoSmall) rfl y_own started (by kernel_rfl) Try.func5
    (OpenSpec.witness (enc := enc) (C := Try.checked) (s := Rows.OpenSpec.upto Rows.officeHearsSpec) (k := Rows.uptoSmall) rfl false ⟨#[], #[.int .i64 0, .slice none 0 0, .slice none 0 0, .int .i64 0], []⟩ 8 (by kernel_rfl) (by kernel_rfl) (by kernel_rfl)
      (x := ([.lit (.int .i64 0), .nil, .nil, .lit (.int .i64 0)], [], [])) (by kernel_rfl) rfl (by kernel_rfl)) ?_
  intro W base args ds gs before hval0 hW hcnd hk _
  have hval : ∀ (j : Nat) t v, Try.f5.params[j]? = some t → args[j]? = some v → Value.okWide Try.prog W .any base t v := hval0
  have hW' := hW
  obtain ⟨p, q, hA0, hV, rfl, hfz, hnd⟩ := hW
  have hA : DataW.TrodAll enc Try.prog W 0 (fun _ => true) true Try.f5.params.toList args.toList ds p := hA0
  rw [Try.params5] at hA hval
  obtain ⟨v0, vs0, d0, ds0, p0, q0, hargs, rfl, rfl, h0, r0⟩ := trodAll_cons hA
  obtain ⟨v1, vs1, d1, ds1, p1, q1, rfl, rfl, rfl, h1, r1⟩ := trodAll_cons r0
  obtain ⟨v2, vs2, d2, ds2, p2, q2, rfl, rfl, rfl, h2, r2⟩ := trodAll_cons r1
  obtain ⟨v3, vs3, d3, ds3, p3, q3, rfl, rfl, rfl, h3, r3⟩ := trodAll_cons r2
  obtain ⟨rfl, rfl, rfl⟩ := trodAll_nil r3
  obtain rfl : args = #[v0, v1, v2, v3] := by cases args; simp_all
  obtain ⟨rfl, rfl⟩ := trodVars_none hV
  obtain ⟨a0, rfl, rfl, rfl, w0⟩ := open_int Try.underlying3 (hval 0 3 v0 rfl rfl) h0
  obtain ⟨n1, f1, m1, _⟩ := open_nums2 (hval 1 22 v1 rfl rfl) h1
  obtain ⟨n2, L2, Z2, m2⟩ := open_mat (hval 2 40 v2 rfl rfl) h2
  obtain ⟨a3, rfl, rfl, rfl, w3⟩ := open_int Try.underlying3 (hval 3 3 v3 rfl rfl) h3
  have hb2 : n2 ≤ 1048576 := by
    rcases mat_few h2 m2 with hn | ⟨el, sp, hd, hle⟩
    · omega
    · subst hd
      have hk2 := hk
      simp only [List.append_nil] at hk2
      have := few_texts hk2
      omega
  clear hA0 hval0
  refine (hears_of a0 a3 v1 v2 n1 f1 n2 L2 Z2 W m1 m2 hb2).mono fun e W' ⟨he, bel⟩ => ?_
  subst he
  exact ⟨_, rfl, _, _, _, [], _, [], hW', trodAll_mk1 (shut_bool Try.underlying4 _), (trodAll_cons_mk (shut_int Try.underlying3 w0) (trodAll_cons_mk (Below.trod y_laidOut (by kernel_rfl) (of_decide_eq_true (by kernel_rfl)) h1 bel (fun x hx => hW'.lt x (by simp [hx]))) (trodAll_cons_mk (Below.trod y_laidOut (by kernel_rfl) (of_decide_eq_true (by kernel_rfl)) h2 bel (fun x hx => hW'.lt x (by simp [hx]))) (trodAll_cons_mk (shut_int Try.underlying3 w3) trodAll_mk0)))), rfl, bel.frame _, fun h => by cases h⟩

theorem officeHears_holds : Rows.OfficeHearsUptoSaid :=
  OpenClaim.holds_of_cond 5 Try.f5 rfl rfl rfl rfl rfl rfl rfl ⟨rfl, rfl, rfl, rfl, rfl⟩ rfl rfl rfl rfl rfl (by kernel_rfl) Try.func5 (by kernel_rfl)
    (of_decide_eq_true (by kernel_rfl)) (by unfold Func.isWrapper; first | (rw [if_pos (by decide +kernel)]; kernel_rfl) | (rw [if_neg (by decide +kernel)]; exact ⟨rfl, rfl⟩))
    (fun os started H enc _ F => lifted_hea os started H enc F)
#print axioms officeHears_holds
end Go.Proofs.Ytlfghnngbljlhaa
