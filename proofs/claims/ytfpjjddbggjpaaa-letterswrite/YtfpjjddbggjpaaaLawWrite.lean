/-
  LettersWrite: for every text and every two numbers the program's Fold, Check, Group and Ungroup answer as the document's, and the arguments read as before. No condition.
-/
import Derived.Test.YtfpjjddbggjpaaaRows
import Derived.Test.YtfpjjddbggjpaaaAlive
import Derived.Test.YtfpjjddbggjpaaaRefFold
import Derived.Test.YtfpjjddbggjpaaaRefGroup
import Derived.Test.YtfpjjddbggjpaaaRefUngroup
import Derived.ProofKit
import Derived.OpenShut
import Derived.ShutString
import Derived.ChangeOld
import Derived.Below
namespace Go.Proofs.Ytfpjjddbggjpaaa
open Go.RowKit

theorem addr_ne {a b i j : Nat} (h : a ≠ b) : (⟨a, i, none⟩ : Addr) ≠ ⟨b, j, none⟩ := by
  intro e
  cases e
  exact h rfl

set_option maxHeartbeats 1000000 in
theorem law_write_of (s FS GS US : ByteArray) (L W FE CE CA GE GA UE UA : Int) (w : World)
    (h6 : Hid (∀ w, Calls Try.prog 6 #[.string s] w fun e w' => e = .returned (.tuple #[.string FS, .int .i64 FE]) ∧ Below w.heap.size w w'))
    (h7 : Hid (∀ w, Calls Try.prog 7 #[.string s] w fun e w' => e = .returned (.tuple #[.string FS, .int .i64 FE]) ∧ Below w.heap.size w w'))
    (h8 : Hid (∀ w, Calls Try.prog 8 #[.string s] w fun e w' => e = .returned (.agg #[.int .i64 CE, .int .i64 CA]) ∧ Below w.heap.size w w'))
    (h9 : Hid (∀ w, Calls Try.prog 9 #[.string s] w fun e w' => e = .returned (.agg #[.int .i64 CE, .int .i64 CA]) ∧ Below w.heap.size w w'))
    (h10 : Hid (∀ w, Calls Try.prog 10 #[.string s, .int .i64 L, .int .i64 W] w fun e w' => e = .returned (.tuple #[.string GS, .agg #[.int .i64 GE, .int .i64 GA]]) ∧ Below w.heap.size w w'))
    (h11 : Hid (∀ w, Calls Try.prog 11 #[.string s, .int .i64 L, .int .i64 W] w fun e w' => e = .returned (.tuple #[.string GS, .agg #[.int .i64 GE, .int .i64 GA]]) ∧ Below w.heap.size w w'))
    (h12 : Hid (∀ w, Calls Try.prog 12 #[.string s] w fun e w' => e = .returned (.tuple #[.string US, .agg #[.int .i64 UE, .int .i64 UA]]) ∧ Below w.heap.size w w'))
    (h13 : Hid (∀ w, Calls Try.prog 13 #[.string s] w fun e w' => e = .returned (.tuple #[.string US, .agg #[.int .i64 UE, .int .i64 UA]]) ∧ Below w.heap.size w w')) :
    Calls Try.prog 3 #[.string s, .int .i64 L, .int .i64 W] w fun e w' => e = .returned (.bool true) ∧ Below w.heap.size w w' := by
  go_enter Try.func3, Try.ntmps3
  go_wp2_with fail
  refine (h6.out _).mono ?_
  rintro e w1 ⟨rfl, b1⟩
  go_wp2_with fail
  refine (h7.out _).mono ?_
  rintro e w2 ⟨rfl, b2⟩
  have d2 := b1.trans (b2.mono b1.size)
  clear b1 b2 h6 h7
  go_wp2_with fail
  refine (h8.out _).mono ?_
  rintro e w3 ⟨rfl, b3⟩
  go_wp2_with fail
  refine (h9.out _).mono ?_
  rintro e w4 ⟨rfl, b4⟩
  have d4 := (d2.trans (b3.mono d2.size)).trans (b4.mono (Nat.le_trans d2.size b3.size))
  clear b3 b4 d2 h8 h9
  go_wp2_with fail
  refine (h10.out _).mono ?_
  rintro e w5 ⟨rfl, b5⟩
  have d5 := d4.trans (b5.mono d4.size)
  clear b5 d4 h10
  go_wp2_with fail
  refine (h11.out _).mono ?_
  rintro e w6 ⟨rfl, b6⟩
  have e6 : Below (w5.heap.size + 1) (w5.alloc (Obj.cells #[Value.int IntKind.i64 GE, Value.int IntKind.i64 GA] 26)) w6 := by simpa using b6
  have d6 := (d5.alloc d5.size (Obj.cells #[Value.int IntKind.i64 GE, Value.int IntKind.i64 GA] 26)).trans (e6.mono (by have := d5.size; omega))
  have z5 := d5.size
  have z6 := d6.size
  have z56 := e6.size
  simp at z56
  have f6 := e6.alloc (by omega) (Obj.cells #[Value.int IntKind.i64 GE, Value.int IntKind.i64 GA] 26)
  obtain ⟨c0, c1, g0, g1, _⟩ := Kit.two_cells f6
  clear b6 h11 d5 e6
  go_wp2_with fail
  refine (h12.out _).mono ?_
  rintro e w7 ⟨rfl, b7⟩
  have B5 := f6.trans (b7.mono (by simp; omega))
  have B6 : Below (w6.heap.size + 1) (w6.alloc (Obj.cells #[Value.int IntKind.i64 GE, Value.int IntKind.i64 GA] 26)) w7 := by simpa using b7
  have d7 := (d6.alloc z6 (Obj.cells #[Value.int IntKind.i64 GE, Value.int IntKind.i64 GA] 26)).trans (b7.mono (by simp; omega))
  clear c0 c1 g0 g1 h12 f6 b7 d6
  obtain ⟨p0, p1, q0, q1, y5⟩ := Kit.two_cells B5
  obtain ⟨r0, r1, t0, t1, y6⟩ := Kit.two_cells B6
  go_wp2_with fail
  refine (h13.out _).mono ?_
  rintro e w8 ⟨rfl, b8⟩
  have x5 := Kit.read_two (.int .i64 UE) (.int .i64 UA) p0 p1
  have hne : w5.heap.size ≠ w6.heap.size := by omega
  have d8 := ((d7.setCell (p := ⟨w5.heap.size, 0, none⟩) z5 (.int .i64 UE)).setCell (p := ⟨w5.heap.size, 1, none⟩) z5 (.int .i64 UA)).trans (b8.mono (by simp [World.setCell]; have := d7.size; omega))
  have k0 : w8.cell? ⟨w5.heap.size, 0, none⟩ = some (.int .i64 UE) := (b8.cell (p := ⟨w5.heap.size, 0, none⟩) (by simp [World.setCell]; omega)).trans x5.1
  have k1 : w8.cell? ⟨w5.heap.size, 1, none⟩ = some (.int .i64 UA) := (b8.cell (p := ⟨w5.heap.size, 1, none⟩) (by simp [World.setCell]; omega)).trans x5.2
  have k2 : w8.cell? ⟨w6.heap.size, 0, none⟩ = some (.int .i64 GE) := (b8.cell (p := ⟨w6.heap.size, 0, none⟩) (by simp [World.setCell]; omega)).trans ((World.cell?_setCell_other _ _ _ _ (addr_ne (by omega))).trans ((World.cell?_setCell_other _ _ _ _ (addr_ne (by omega))).trans r0))
  have k3 : w8.cell? ⟨w6.heap.size, 1, none⟩ = some (.int .i64 GA) := (b8.cell (p := ⟨w6.heap.size, 1, none⟩) (by simp [World.setCell]; omega)).trans ((World.cell?_setCell_other _ _ _ _ (addr_ne (by omega))).trans ((World.cell?_setCell_other _ _ _ _ (addr_ne (by omega))).trans r1))
  have m2 : w8.frozen? ⟨w6.heap.size, 0, none⟩ = false := (b8.frozen (p := ⟨w6.heap.size, 0, none⟩) (by simp [World.setCell]; omega)).trans (by simp [t0])
  have m3 : w8.frozen? ⟨w6.heap.size, 1, none⟩ = false := (b8.frozen (p := ⟨w6.heap.size, 1, none⟩) (by simp [World.setCell]; omega)).trans (by simp [t1])
  have x6 := Kit.read_two (.int .i64 UE) (.int .i64 UA) k2 k3
  have d9 := (d8.setCell (p := ⟨w6.heap.size, 0, none⟩) z6 (.int .i64 UE)).setCell (p := ⟨w6.heap.size, 1, none⟩) z6 (.int .i64 UA)
  have j0 : ((w8.setCell ⟨w6.heap.size, 0, none⟩ (.int .i64 UE)).setCell ⟨w6.heap.size, 1, none⟩ (.int .i64 UA)).cell? ⟨w5.heap.size, 0, none⟩ = some (.int .i64 UE) := (World.cell?_setCell_other _ _ _ _ (addr_ne (by omega))).trans ((World.cell?_setCell_other _ _ _ _ (addr_ne (by omega))).trans k0)
  have j1 : ((w8.setCell ⟨w6.heap.size, 0, none⟩ (.int .i64 UE)).setCell ⟨w6.heap.size, 1, none⟩ (.int .i64 UA)).cell? ⟨w5.heap.size, 1, none⟩ = some (.int .i64 UA) := (World.cell?_setCell_other _ _ _ _ (addr_ne (by omega))).trans ((World.cell?_setCell_other _ _ _ _ (addr_ne (by omega))).trans k1)
  obtain ⟨x60, x61⟩ := x6
  clear h13 b8 d8 d7 B5 B6 p0 p1 q0 q1 r0 r1 t0 t1 x5
  go_wp2
  go_ret
  exact ⟨by simp, d9⟩

theorem law_write (s : ByteArray) (L W : Int) (w : World) (hL : L ≤ 9223372036854775807) (hW : W ≤ 9223372036854775807) :
    Calls Try.prog 3 #[.string s, .int .i64 L, .int .i64 W] w fun e w' => e = .returned (.bool true) ∧ Below w.heap.size w w' := by
  have HU : ∃ (US : ByteArray) (UE UA : Int), (∀ w, Calls Try.prog 12 #[.string s] w fun e w' => e = .returned (.tuple #[.string US, .agg #[.int .i64 UE, .int .i64 UA]]) ∧ Below w.heap.size w w') ∧ (∀ w, Calls Try.prog 13 #[.string s] w fun e w' => e = .returned (.tuple #[.string US, .agg #[.int .i64 UE, .int .i64 UA]]) ∧ Below w.heap.size w w') := by
    by_cases h : 131072 < s.size
    · exact ⟨_, _, _, fun w => ungroup_much s w h, fun w => rungroup_much s w h⟩
    · exact ⟨_, _, _, fun w => ungroup_ok s w (by omega), fun w => rungroup_ok s w (by omega)⟩
  obtain ⟨US, UE, UA, u1, u2⟩ := HU
  by_cases h1 : 65536 < s.size
  · refine law_write_of s ⟨#[]⟩ _ US L W 4 _ _ _ _ UE UA w (fun w => (fold_much s w h1).mono ?_) (fun w => (rfold_much s w h1).mono ?_) (fun w => check_much s w h1) (fun w => rcheck_much s w h1) (fun w => group_wrong s L W w 4 0 rfl fun w => check_much s w h1) (fun w => rgroup_wrong s L W w 4 0 rfl fun w => rcheck_much s w h1) u1 u2
    · rintro e w' ⟨rfl, rfl⟩
      exact ⟨rfl, Below.refl _ _⟩
    · rintro e w' ⟨rfl, rfl⟩
      exact ⟨rfl, Below.refl _ _⟩
  · have HG : ∃ (GS : ByteArray) (GE GA : Int), (∀ w, Calls Try.prog 10 #[.string s, .int .i64 L, .int .i64 W] w fun e w' => e = .returned (.tuple #[.string GS, .agg #[.int .i64 GE, .int .i64 GA]]) ∧ Below w.heap.size w w') ∧ (∀ w, Calls Try.prog 11 #[.string s, .int .i64 L, .int .i64 W] w fun e w' => e = .returned (.tuple #[.string GS, .agg #[.int .i64 GE, .int .i64 GA]]) ∧ Below w.heap.size w w') := by
      cases h2 : s.data.toList.findIdx? Pl.bad with
      | some k =>
        refine ⟨_, 2, k, fun w => group_wrong s L W w 2 k rfl fun w => ?_, fun w => rgroup_wrong s L W w 2 k rfl fun w => ?_⟩
        · have := check_ok s w (by omega)
          rw [(chk_some _ _ h2).1, (chk_some _ _ h2).2] at this
          exact this
        · have := rcheck_ok s w (by omega)
          rw [(chk_some _ _ h2).1, (chk_some _ _ h2).2] at this
          exact this
      | none =>
        have hl := Pl.lets_of _ h2
        by_cases h3 : L < 1 ∨ W < 1
        · exact ⟨_, _, _, fun w => group_range s L W w (by omega) hl h3, fun w => rgroup_range s L W w (by omega) hl h3⟩
        · obtain ⟨c, rfl⟩ := Int.eq_ofNat_of_zero_le (show 0 ≤ L by omega)
          exact ⟨_, _, _, fun w => group_ok s c W w (by omega) hl (by omega) (by omega) hL hW, fun w => rgroup_ok s c W w (by omega) hl (by omega) (by omega) hL hW⟩
    obtain ⟨GS, GE, GA, g1, g2⟩ := HG
    exact law_write_of s _ GS US L W _ _ _ GE GA UE UA w (fun w => fold_ok s w (by omega)) (fun w => rfold_ok s w (by omega)) (fun w => check_ok s w (by omega)) (fun w => rcheck_ok s w (by omega)) g1 g2 u1 u2

/-! ### The row -/
open Go.ChangeShapes Go.WideShapes Go.ChangeAt
open Go.ChangeMaps (open_string shut_string)

set_option maxRecDepth 100000 in
theorem lifted_write (os : Os) (started : os.Started) (H : Type) (enc : TypeId × Value → H) :
    ReturnsInHanded {} Try.checked os 3 .any (Rows.lettersWriteSpec.pre6 enc Try.prog Try.f3 Rows.lettersWriteRow.domain false) (Rows.lettersWriteSpec.post enc Try.prog Try.f3 false true false false) := by
  refine returnsInHanded_of_change (C := Try.checked) own started (by kernel_rfl) Try.func3
    (ChangeSpec.witness6 (enc := enc) (C := Try.checked) false ⟨#[], #[.string ByteArray.empty, .int .i64 0, .int .i64 0], []⟩ 8 (by kernel_rfl) (by kernel_rfl) (by kernel_rfl) (by kernel_rfl)) ?_
  intro W base args ds gs before hval0 hW hcnd _
  have hval : ∀ (j : Nat) t v, Try.f3.params[j]? = some t → args[j]? = some v → Value.okWide Try.prog W .any base t v := hval0
  have hW' := hW
  obtain ⟨p, q, hA0, hV, rfl, hfz, hnd⟩ := hW
  have hA : DataW.TrodAll enc Try.prog W 0 (fun _ => true) true Try.f3.params.toList args.toList ds p := hA0
  rw [Try.params3] at hA hval
  obtain ⟨v0, vs0, d0, ds0, p0, q0, hargs, rfl, rfl, h0, r0⟩ := trodAll_cons hA
  obtain ⟨v1, vs1, d1, ds1, p1, q1, rfl, rfl, rfl, h1, r1⟩ := trodAll_cons r0
  obtain ⟨v2, vs2, d2, ds2, p2, q2, rfl, rfl, rfl, h2, r2⟩ := trodAll_cons r1
  obtain ⟨rfl, rfl, rfl⟩ := trodAll_nil r2
  obtain rfl : args = #[v0, v1, v2] := by cases args; simp_all
  obtain ⟨rfl, rfl⟩ := trodVars_none hV
  obtain ⟨a0, rfl, rfl, rfl, w0⟩ := open_string Try.underlying9 (hval 0 9 v0 rfl rfl) h0
  obtain ⟨a1, rfl, rfl, rfl, w1⟩ := open_int Try.underlying3 (hval 1 3 v1 rfl rfl) h1
  obtain ⟨a2, rfl, rfl, rfl, w2⟩ := open_int Try.underlying3 (hval 2 3 v2 rfl rfl) h2
  clear hA0 hval0
  refine (law_write a0 a1 a2 W (bounds_i64 w1).2 (bounds_i64 w2).2).mono fun e W' ⟨he, bel⟩ => ?_
  subst he
  exact ⟨_, rfl, _, _, _, [], _, [], hW', trodAll_mk1 (shut_bool Try.underlying4 _), (trodAll_cons_mk (shut_string Try.underlying9 w0) (trodAll_cons_mk (shut_int Try.underlying3 w1) (trodAll_cons_mk (shut_int Try.underlying3 w2) trodAll_mk0))), rfl, bel.frame _, fun h => by cases h⟩

theorem lettersWrite_holds : Rows.LettersWriteSaid :=
  OpenClaim.holds_of_wide 3 Try.f3 rfl rfl rfl rfl rfl rfl rfl ⟨rfl, rfl, rfl, rfl, rfl⟩ rfl rfl rfl rfl rfl (by kernel_rfl) Try.func3 (by kernel_rfl)
    (of_decide_eq_true (by kernel_rfl)) (by unfold Func.isWrapper; first | (rw [if_pos (by decide +kernel)]; kernel_rfl) | (rw [if_neg (by decide +kernel)]; exact ⟨rfl, rfl⟩))
    (fun os started H enc _ => lifted_write os started H enc)
#print axioms lettersWrite_holds
end Go.Proofs.Ytfpjjddbggjpaaa
