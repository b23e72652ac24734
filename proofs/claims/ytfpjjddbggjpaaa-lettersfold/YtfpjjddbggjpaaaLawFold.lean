/-
  LettersFold: for every two texts the statement's function returns true, and the texts read as before. No condition besides the form's own reach.
-/
import Derived.Test.YtfpjjddbggjpaaaRows
import Derived.Test.YtfpjjddbggjpaaaAlive
import Derived.Test.YtfpjjddbggjpaaaCheck
import Derived.ProofKit
import Derived.OpenShut
import Derived.ShutString
import Derived.ChangeOld
import Derived.Below
import Derived.SizedLaws
namespace Go.Proofs.Ytfpjjddbggjpaaa
open Go.RowKit

theorem size_nl : (⟨#[10]⟩ : ByteArray).size = 1 := rfl

/-- A text of letters folds to itself. -/
theorem fold_same_any (l : List UInt8) (w : World) (hl : Pl.Lets l) (h : l.length ≤ 65536) :
    Calls Try.prog 6 #[.string ⟨l.toArray⟩] w fun e w' => e = .returned (.tuple #[.string ⟨l.toArray⟩, .int .i64 0]) ∧ Below w.heap.size w w' := by
  refine (fold_ok _ w (by rw [size_mk]; exact h)).mono ?_
  rintro e w' ⟨rfl, hb⟩
  rw [data_mk, Pl.fold_same l hl]
  exact ⟨rfl, hb⟩
theorem check_same_any (l : List UInt8) (w : World) (hl : Pl.Lets l) (h : l.length ≤ 65536) :
    Calls Try.prog 8 #[.string ⟨l.toArray⟩] w fun e w' => e = .returned (.agg #[.int .i64 0, .int .i64 0]) ∧ Below w.heap.size w w' := by
  refine (check_ok _ w (by rw [size_mk]; exact h)).mono ?_
  rintro e w' ⟨rfl, hb⟩
  rw [data_mk, (chk_none l (Pl.chk_ok l hl)).1, (chk_none l (Pl.chk_ok l hl)).2]
  exact ⟨rfl, hb⟩

set_option maxHeartbeats 400000 in
theorem law_fold (s t : ByteArray) (w : World) (hs : s.size ≤ 140737488351232) (ht : t.size ≤ 140737488351232) :
    Calls Try.prog 4 #[.string s, .string t] w fun e w' => e = .returned (.bool true) ∧ Below w.heap.size w w' := by
  by_cases h1 : 65536 < s.size
  · go_enter Try.func4, Try.ntmps4
    go_wp2_with fail
    refine (alive_any _).mono ?_
    rintro e w1 ⟨rfl, hb1⟩
    go_wp2_with fail
    refine (fold_much s _ h1).mono ?_
    rintro e w2 ⟨rfl, rfl⟩
    go_wp2
    go_ret
    exact ⟨rfl, hb1⟩
  · have hA := Pl.fold_lets s.data.toList
    have hA2 : (Pl.fold s.data.toList).length ≤ 65536 := by have := Pl.fold_le s.data.toList; have := Pl.size_len s; omega
    go_enter Try.func4, Try.ntmps4
    go_wp2_with fail
    refine (alive_any _).mono ?_
    rintro e w1 ⟨rfl, hb1⟩
    go_wp2_with fail
    refine (fold_ok s _ (by omega)).mono ?_
    rintro e w2 ⟨rfl, hb2⟩
    have hb := hb1.trans (hb2.mono hb1.size)
    clear hb1 hb2
    generalize hAe : Pl.fold s.data.toList = A at hA hA2
    have HA : Hid (Pl.fold s.data.toList = A) := hAe
    clear hAe
    go_wp2_with fail
    refine (check_same_any A _ hA hA2).mono ?_
    rintro e w3 ⟨rfl, hb3⟩
    have hc := (hb.trans (hb3.mono hb.size)).alloc (by have := hb.size; have := hb3.size; omega) (Obj.cells #[Value.int IntKind.i64 0, Value.int IntKind.i64 0] 26)
    clear hb hb3
    go_wp2_with fail
    refine (fold_same_any A _ hA hA2).mono ?_
    rintro e w4 ⟨rfl, hb4⟩
    have hd := hc.trans (hb4.mono hc.size)
    clear hc hb4
    by_cases h2 : 65536 < t.size
    · go_wp2_with fail
      refine (fold_much t _ h2).mono ?_
      rintro e w5 ⟨rfl, rfl⟩
      go_wp2_with fail
      refine (fold_much _ _ (by simp; have := size_nl; omega)).mono ?_
      rintro e w6 ⟨rfl, rfl⟩
      go_wp2
      go_ret
      exact ⟨rfl, hd⟩
    · have hC2 : (Pl.fold t.data.toList).length ≤ 65536 := by have := Pl.fold_le t.data.toList; have := Pl.size_len t; omega
      go_wp2_with fail
      refine (fold_ok t _ (by omega)).mono ?_
      rintro e w5 ⟨rfl, hb5⟩
      have he := hd.trans (hb5.mono hd.size)
      clear hd hb5
      generalize hCe : Pl.fold t.data.toList = C at hC2
      have HC : Hid (Pl.fold t.data.toList = C) := hCe
      clear hCe
      by_cases h3 : 65536 < s.size + 1 + t.size
      · go_wp2_with fail
        refine (fold_much _ _ (by simp; have := size_nl; omega)).mono ?_
        rintro e w6 ⟨rfl, rfl⟩
        go_wp2
        go_ret
        exact ⟨rfl, he⟩
      · go_wp2_with fail
        refine (fold_ok _ _ (by simp; have := size_nl; omega)).mono ?_
        rintro e w6 ⟨rfl, hb6⟩
        have hf := he.trans (hb6.mono he.size)
        clear he hb6
        have HD : Pl.fold (s ++ ⟨#[10]⟩ ++ t).data.toList = A ++ C := by
          rw [← HA.out, ← HC.out, ← Pl.fold_cut]
          simp
        rw [HD]
        clear HD
        have HE : (⟨A.toArray⟩ ++ ⟨C.toArray⟩ : ByteArray).toList = A ++ C := by
          rw [ByteArray.toList_eq]
          simp
        go_wp2
        go_ret
        exact ⟨by simp, hf⟩

/-! ### The row -/
open Go.ChangeShapes Go.WideShapes Go.ChangeAt
open Go.ChangeMaps (open_string shut_string)

set_option maxRecDepth 100000 in
theorem lifted_fold (os : Os) (started : os.Started) (H : Type) (enc : TypeId × Value → H) :
    ReturnsInHanded {} Try.checked os 4 .any (Rows.lettersFoldSpec.pre6 enc Try.prog Try.f4 Rows.lettersFoldRow.domain false) (Rows.lettersFoldSpec.post enc Try.prog Try.f4 false true false false) := by
  refine returnsInHanded_of_change_sized (C := Try.checked) own started (by kernel_rfl) Try.func4
    (ChangeSpec.witness6 (enc := enc) (C := Try.checked) false ⟨#[], #[.string ByteArray.empty, .string ByteArray.empty], []⟩ 8 (by kernel_rfl) (by kernel_rfl) (by kernel_rfl) (by kernel_rfl)) ?_
  intro W base args ds gs before hval0 hW hcnd hsz0 _
  have hval : ∀ (j : Nat) t v, Try.f4.params[j]? = some t → args[j]? = some v → Value.okWide Try.prog W .any base t v := hval0
  have hsz : (DataW.weightsEach Try.prog (Try.f4.params.toList ++ Rows.lettersFoldSpec.plain.varTypes Try.prog) (ds ++ gs)).all (· ≤ reachBytes) = true := hsz0
  have hW' := hW
  obtain ⟨p, q, hA0, hV, rfl, hfz, hnd⟩ := hW
  have hA : DataW.TrodAll enc Try.prog W 0 (fun _ => true) true Try.f4.params.toList args.toList ds p := hA0
  rw [Try.params4] at hA hval hsz
  obtain ⟨v0, vs0, d0, ds0, p0, q0, hargs, rfl, rfl, h0, r0⟩ := trodAll_cons hA
  obtain ⟨v1, vs1, d1, ds1, p1, q1, rfl, rfl, rfl, h1, r1⟩ := trodAll_cons r0
  obtain ⟨rfl, rfl, rfl⟩ := trodAll_nil r1
  obtain rfl : args = #[v0, v1] := by cases args; simp_all
  obtain ⟨rfl, rfl⟩ := trodVars_none hV
  obtain ⟨a0, rfl, rfl, rfl, w0⟩ := open_string Try.underlying9 (hval 0 9 v0 rfl rfl) h0
  obtain ⟨a1, rfl, rfl, rfl, w1⟩ := open_string Try.underlying9 (hval 1 9 v1 rfl rfl) h1
  have z0 := sized_string hsz (j := 0) (t := 9) rfl rfl
  have z1 := sized_string hsz (j := 1) (t := 9) rfl rfl
  simp only [reachBytes] at z0 z1
  have e0 := Pl.size_len a0
  have e1 := Pl.size_len a1
  clear hA0 hval0 hsz0 hsz
  refine (law_fold a0 a1 W (by omega) (by omega)).mono fun e W' ⟨he, bel⟩ => ?_
  subst he
  exact ⟨_, rfl, _, _, _, [], _, [], hW', trodAll_mk1 (shut_bool Try.underlying4 _), (trodAll_cons_mk (shut_string Try.underlying9 w0) (trodAll_cons_mk (shut_string Try.underlying9 w1) trodAll_mk0)), rfl, bel.frame _, fun h => by cases h⟩

theorem lettersFold_holds : Rows.LettersFoldSaid :=
  OpenClaim.holds_of_wide 4 Try.f4 rfl rfl rfl rfl rfl rfl rfl ⟨rfl, rfl, rfl, rfl, rfl⟩ rfl rfl rfl rfl rfl (by kernel_rfl) Try.func4 (by kernel_rfl)
    (of_decide_eq_true (by kernel_rfl)) (by unfold Func.isWrapper; first | (rw [if_pos (by decide +kernel)]; kernel_rfl) | (rw [if_neg (by decide +kernel)]; exact ⟨rfl, rfl⟩))
    (fun os started H enc _ => lifted_fold os started H enc)
#print axioms lettersFold_holds
end Go.Proofs.Ytfpjjddbggjpaaa
