/-
  LettersGroup: for every text and every two numbers the statement's function returns true, and its arguments read as before. No condition.
-/
import Derived.Test.YtfpjjddbggjpaaaRows
import Derived.Test.YtfpjjddbggjpaaaAlive
import Derived.Test.YtfpjjddbggjpaaaGroup
import Derived.Test.YtfpjjddbggjpaaaUngroup
import Derived.Test.YtfpjjddbggjpaaaScan
import Derived.ProofKit
import Derived.OpenShut
import Derived.ShutString
import Derived.ChangeOld
import Derived.Below
namespace Go.Proofs.Ytfpjjddbggjpaaa
open Go.RowKit

set_option maxHeartbeats 400000 in
/-- Where Group tells a fault there is nothing to ask. -/
theorem law_group_wrong (s : ByteArray) (L W E A : Int) (w : World) (hE : (E != 0) = true) (hg : ∀ w, Calls Try.prog 10 #[.string s, .int .i64 L, .int .i64 W] w fun e w' => e = .returned (.tuple #[.string ⟨#[]⟩, .agg #[.int .i64 E, .int .i64 A]]) ∧ Below w.heap.size w w') :
    Calls Try.prog 5 #[.string s, .int .i64 L, .int .i64 W] w fun e w' => e = .returned (.bool true) ∧ Below w.heap.size w w' := by
  have Hg : Hid (∀ w, Calls Try.prog 10 #[.string s, .int .i64 L, .int .i64 W] w fun e w' => e = .returned (.tuple #[.string ⟨#[]⟩, .agg #[.int .i64 E, .int .i64 A]]) ∧ Below w.heap.size w w') := hg
  clear hg
  go_enter Try.func5, Try.ntmps5
  go_wp2_with fail
  refine (alive_any _).mono ?_
  rintro e w1 ⟨rfl, hb1⟩
  go_wp2_with fail
  refine (Hg.out _).mono ?_
  rintro e w2 ⟨rfl, hb2⟩
  go_wp2
  go_ret
  exact ⟨rfl, (hb1.trans (hb2.mono hb1.size)).alloc (Nat.le_trans hb1.size hb2.size) _⟩

/-- Of the grouped text: every byte read moves the two counts on, and they stay fine. -/
theorem scan_round (L W : Int) (hL : 1 ≤ L) (hW : 1 ≤ W) (l : List UInt8) (hl : Pl.Lets l) (hlen : l.length ≤ 65536) (G : List UInt8) (hG : Pl.grp L W l l.length = G) (p : Nat) (hp : p < G.length) :
    Pl.scan (G.take (p + 1)) = Pl.step (Pl.scan (G.take p)) G[p] ∧ (Pl.scan (G.take (p + 1))).1 ≤ W ∧ (Pl.scan (G.take (p + 1))).2 ≤ L ∧ 1 ≤ (Pl.scan (G.take p)).1 ∧ (Pl.scan (G.take p)).1 ≤ 131073 ∧ 0 ≤ (Pl.scan (G.take p)).2 ∧ (Pl.scan (G.take p)).2 ≤ 131072 := by
  subst hG
  have h1 := Pl.grp_fine L W hL hW l hl l.length (Nat.le_refl _) (p + 1)
  have h2 := Pl.scan_bd ((Pl.grp L W l l.length).take p)
  have h3 := Pl.grp_le L W l l.length
  have h4 : ((Pl.grp L W l l.length).take p).length = p := List.length_take_of_le (by omega)
  refine ⟨?_, h1.1, h1.2, ?_⟩
  · rw [Pl.take_snoc _ p hp, Pl.scan_snoc]
  · omega

set_option maxHeartbeats 2000000 in
theorem law_group_ok (s : ByteArray) (L W : Int) (w : World) (h : s.size ≤ 65536) (hl : Pl.Lets s.data.toList) (hL : 1 ≤ L) (hW : 1 ≤ W) (hL2 : L ≤ 9223372036854775807) (hW2 : W ≤ 9223372036854775807) :
    Calls Try.prog 5 #[.string s, .int .i64 L, .int .i64 W] w fun e w' => e = .returned (.bool true) ∧ Below w.heap.size w w' := by
  have hLn := Pl.size_len s
  have R := scan_round L W hL hW s.data.toList hl (by omega)
  have hU := Pl.grp_ungroup L W s.data.toList hl (by omega)
  have hglen := Pl.grp_le L W s.data.toList s.data.toList.length
  go_enter Try.func5, Try.ntmps5
  go_wp2_with fail
  refine (alive_any _).mono ?_
  rintro e w1 ⟨rfl, hb1⟩
  go_wp2_with fail
  refine (group_ok s L W _ h hl hL hW hL2 hW2).mono ?_
  rintro e w2 ⟨rfl, hb2⟩
  rw [hLn]
  generalize Pl.grp L W s.data.toList s.data.toList.length = G at R hU hglen
  have R1 := R G rfl
  clear R
  obtain ⟨t, ht⟩ : ∃ t : ByteArray, t = ⟨G.toArray⟩ := ⟨_, rfl⟩
  have htl : t.data.toList = G := by rw [ht]
  have hts : t.size = G.length := by rw [ht, size_mk]
  rw [← ht]
  rw [← htl] at R1 hU hglen hts
  clear ht htl hl
  have HR : Hid (∀ p (hp : p < t.size), Pl.scan (t.data.toList.take (p + 1)) = Pl.step (Pl.scan (t.data.toList.take p)) t[p] ∧ (Pl.scan (t.data.toList.take (p + 1))).1 ≤ W ∧ (Pl.scan (t.data.toList.take (p + 1))).2 ≤ L ∧ 1 ≤ (Pl.scan (t.data.toList.take p)).1 ∧ (Pl.scan (t.data.toList.take p)).1 ≤ 131073 ∧ 0 ≤ (Pl.scan (t.data.toList.take p)).2 ∧ (Pl.scan (t.data.toList.take p)).2 ≤ 131072) := fun p hp => R1 p (by omega)
  have HU : Hid (ungV t.data.toList = .tuple #[.string s, .agg #[.int .i64 0, .int .i64 0]]) := by
    show _ = _
    unfold ungV
    rw [hU.1, hU.2.1, hU.2.2]
  have ht2 : t.size ≤ 131072 := by omega
  have hb := (hb1.trans (hb2.mono hb1.size)).alloc (Nat.le_trans hb1.size hb2.size) (Obj.cells #[Value.int IntKind.i64 0, Value.int IntKind.i64 0] 26)
  have hbW : w.heap.size ≤ w2.heap.size := Nat.le_trans hb1.size hb2.size
  clear R1 hU hglen hts hLn hb1 hb2 G
  go_wp2_with fail
  go_loop [9, 10, 11] (fun g n i => ∃ p : Nat, p ≤ t.size ∧ i = .int .i64 p ∧ g = .int .i64 (Pl.scan (t.data.toList.take p)).1 ∧ n = .int .i64 (Pl.scan (t.data.toList.take p)).2) (fun _ _ i => t.size - (intOf i).toNat)
  case atStart => exact ⟨0, Nat.zero_le _, rfl, rfl, rfl⟩
  case round =>
    obtain ⟨p, hp, rfl, rfl, rfl⟩ := hrel
    by_cases hlt : p < t.size
    · obtain ⟨e1, b1, b2, b3, b4, b5, b6⟩ := HR.out p hlt
      rw [e1] at b1 b2
      have HE : Hid (Pl.scan (t.data.toList.take (p + 1)) = Pl.step (Pl.scan (t.data.toList.take p)) t[p]) := e1
      clear e1 HR
      generalize Pl.scan (t.data.toList.take p) = st at b1 b2 b3 b4 b5 b6 HE
      obtain ⟨g, n⟩ := st
      simp only [] at b3 b4 b5 b6
      by_cases hc : t[p].toNat = 10
      · have hc1 : ((t[p].toNat : Int) == 10) = true := by simp [hc]
        have hc2 : ((t[p].toNat : Int) == 32) = false := by simp [hc]
        have HS : Hid (Pl.step (g, n) t[p] = (1, 0)) := if_pos hc
        have hd1 : decide (W < 1) = false := by simp; omega
        have hd2 : decide (L < 0) = false := by simp; omega
        clear hc b1 b2
        go_wp2
        go_round
        case rel => exact ⟨p + 1, by omega, by go_num, by rw [HE.out, HS.out], by rw [HE.out, HS.out]⟩
        case measure => simp [intOf]; omega
      · have hc1 : ((t[p].toNat : Int) == 10) = false := by simp; omega
        by_cases hs : t[p].toNat = 32
        · have hc2 : ((t[p].toNat : Int) == 32) = true := by simp [hs]
          have HS : Hid (Pl.step (g, n) t[p] = (g + 1, 0)) := by
            show _ = _
            unfold Pl.step
            rw [if_neg hc, if_pos hs]
          rw [HS.out] at b1
          simp only [] at b1
          have hd1 : decide (W < g + 1) = false := by simp; omega
          have hd2 : decide (L < 0) = false := by simp; omega
          clear hc hs b2
          go_wp2
          go_round
          case rel => exact ⟨p + 1, by omega, by go_num, by rw [HE.out, HS.out], by rw [HE.out, HS.out]⟩
          case measure => simp [intOf]; omega
        · have hc2 : ((t[p].toNat : Int) == 32) = false := by simp; omega
          have HS : Hid (Pl.step (g, n) t[p] = (g, n + 1)) := by
            show _ = _
            unfold Pl.step
            rw [if_neg hc, if_neg hs]
          rw [HS.out] at b1 b2
          simp only [] at b1 b2
          have hd1 : decide (W < g) = false := by simp; omega
          have hd2 : decide (L < n + 1) = false := by simp; omega
          clear hc hs
          go_wp2
          go_round
          case rel => exact ⟨p + 1, by omega, by go_num, by rw [HE.out, HS.out], by rw [HE.out, HS.out]⟩
          case measure => simp [intOf]; omega
    · clear HR
      have hd3 : decide (131072 < (t.size : Int)) = false := by simp; omega
      go_wp2_with fail
      refine (ungroup_ok t _ ht2).mono ?_
      rintro e w3 ⟨rfl, hb3⟩
      rw [HU.out]
      have hb4 : Below (w2.heap.size + 1) (w2.alloc (Obj.cells #[Value.int IntKind.i64 0, Value.int IntKind.i64 0] 26)) w3 := by simpa using hb3
      obtain ⟨c0, c1, f0, f1, hsz⟩ := Kit.two_cells hb4
      have hfin := ((hb.trans (hb3.mono hb.size)).setCell (p := ⟨w2.heap.size, 0, none⟩) (by have := hbW; simp; omega) (.int .i64 0)).setCell (p := ⟨w2.heap.size, 1, none⟩) (by have := hbW; simp; omega) (.int .i64 0)
      have q := Kit.read_two (.int .i64 0) (.int .i64 0) c0 c1
      clear hb3 hb4 hb
      go_wp2
      go_ret
      exact ⟨by simp, hfin⟩

theorem law_group (s : ByteArray) (L W : Int) (w : World) (hL : L ≤ 9223372036854775807) (hW : W ≤ 9223372036854775807) :
    Calls Try.prog 5 #[.string s, .int .i64 L, .int .i64 W] w fun e w' => e = .returned (.bool true) ∧ Below w.heap.size w w' := by
  by_cases h1 : 65536 < s.size
  · exact law_group_wrong s L W 4 0 w rfl fun w => group_wrong s L W w 4 0 rfl fun w => check_much s w h1
  · cases h2 : s.data.toList.findIdx? Pl.bad with
    | some k =>
      refine law_group_wrong s L W 2 k w rfl fun w => group_wrong s L W w 2 k rfl fun w => ?_
      have := check_ok s w (by omega)
      rw [(chk_some _ _ h2).1, (chk_some _ _ h2).2] at this
      exact this
    | none =>
      have hl := Pl.lets_of _ h2
      by_cases h3 : L < 1 ∨ W < 1
      · exact law_group_wrong s L W 3 0 w rfl fun w => group_range s L W w (by omega) hl h3
      · exact law_group_ok s L W w (by omega) hl (by omega) (by omega) hL hW

/-! ### The row -/
open Go.ChangeShapes Go.WideShapes Go.ChangeAt
open Go.ChangeMaps (open_string shut_string)

set_option maxRecDepth 100000 in
theorem lifted_group (os : Os) (started : os.Started) (H : Type) (enc : TypeId × Value → H) :
    ReturnsInHanded {} Try.checked os 5 .any (Rows.lettersGroupSpec.pre6 enc Try.prog Try.f5 Rows.lettersGroupRow.domain false) (Rows.lettersGroupSpec.post enc Try.prog Try.f5 false true false false) := by
  refine returnsInHanded_of_change (C := Try.checked) own started (by kernel_rfl) Try.func5
    (ChangeSpec.witness6 (enc := enc) (C := Try.checked) false ⟨#[], #[.string ByteArray.empty, .int .i64 0, .int .i64 0], []⟩ 8 (by kernel_rfl) (by kernel_rfl) (by kernel_rfl) (by kernel_rfl)) ?_
  intro W base args ds gs before hval0 hW hcnd _
  have hval : ∀ (j : Nat) t v, Try.f5.params[j]? = some t → args[j]? = some v → Value.okWide Try.prog W .any base t v := hval0
  have hW' := hW
  obtain ⟨p, q, hA0, hV, rfl, hfz, hnd⟩ := hW
  have hA : DataW.TrodAll enc Try.prog W 0 (fun _ => true) true Try.f5.params.toList args.toList ds p := hA0
  rw [Try.params5] at hA hval
  obtain ⟨v0, vs0, d0, ds0, p0, q0, hargs, rfl, rfl, h0, r0⟩ := trodAll_cons hA
  obtain ⟨v1, vs1, d1, ds1, p1, q1, rfl, rfl, rfl, h1, r1⟩ := trodAll_cons r0
  obtain ⟨v2, vs2, d2, ds2, p2, q2, rfl, rfl, rfl, h2, r2⟩ := trodAll_cons r1
  obtain ⟨rfl, rfl, rfl⟩ := trodAll_nil r2
  obtain rfl : args = #[v0, v1, v2] := by cases args; simp_all
  obtain ⟨rfl, rfl⟩ := trodVars_none hV
  obtain ⟨a0, rfl, rfl, rfl, w0⟩ := open_string Try.underlying9 (hval 0 9 v0 rfl rfl) h0
  obtain ⟨a1, rfl, rfl, rfl, w1⟩ := open_int Try.underlying3 (hval 1 3 v1 rfl rfl) h1
  obtain ⟨a2, rfl, rfl, rfl, w2⟩ := open_int Try.underlying3 (hval 2 3 v2 rfl rfl) h2
  clear hA0 hval0
  refine (law_group a0 a1 a2 W (bounds_i64 w1).2 (bounds_i64 w2).2).mono fun e W' ⟨he, bel⟩ => ?_
  subst he
  exact ⟨_, rfl, _, _, _, [], _, [], hW', trodAll_mk1 (shut_bool Try.underlying4 _), (trodAll_cons_mk (shut_string Try.underlying9 w0) (trodAll_cons_mk (shut_int Try.underlying3 w1) (trodAll_cons_mk (shut_int Try.underlying3 w2) trodAll_mk0))), rfl, bel.frame _, fun h => by cases h⟩

theorem lettersGroup_holds : Rows.LettersGroupSaid :=
  OpenClaim.holds_of_wide 5 Try.f5 rfl rfl rfl rfl rfl rfl rfl ⟨rfl, rfl, rfl, rfl, rfl⟩ rfl rfl rfl rfl rfl (by kernel_rfl) Try.func5 (by kernel_rfl)
    (of_decide_eq_true (by kernel_rfl)) (by unfold Func.isWrapper; first | (rw [if_pos (by decide +kernel)]; kernel_rfl) | (rw [if_neg (by decide +kernel)]; exact ⟨rfl, rfl⟩))
    (fun os started H enc _ => lifted_group os started H enc)
#print axioms lettersGroup_holds
end Go.Proofs.Ytfpjjddbggjpaaa
