/-
  The contract of letters.Group.
-/
import Derived.Test.YtfpjjddbggjpaaaAppend
import Derived.Test.YtfpjjddbggjpaaaCheck
namespace Go.Proofs.Ytfpjjddbggjpaaa
open Go.RowKit

set_option maxHeartbeats 1000000 in
/-- Where Check finds a fault, that is what Group tells. -/
theorem group_wrong (s : ByteArray) (L W : Int) (w : World) (E A : Int) (hE : (E != 0) = true) (hck : ∀ w, Calls Try.prog 8 #[.string s] w fun e w' => e = .returned (.agg #[.int .i64 E, .int .i64 A]) ∧ Below w.heap.size w w') :
    Calls Try.prog 10 #[.string s, .int .i64 L, .int .i64 W] w fun e w' => e = .returned (.tuple #[.string ⟨#[]⟩, .agg #[.int .i64 E, .int .i64 A]]) ∧ Below w.heap.size w w' := by
  have Hck : Hid (∀ w, Calls Try.prog 8 #[.string s] w fun e w' => e = .returned (.agg #[.int .i64 E, .int .i64 A]) ∧ Below w.heap.size w w') := hck
  clear hck
  go_enter Try.func10, Try.ntmps10
  go_wp2_with fail
  refine (Hck.out _).mono ?_
  rintro e w1 ⟨rfl, hb⟩
  have hb1 : Below (w.heap.size + 1) (w.alloc (Obj.cells #[Value.int IntKind.i64 0, Value.int IntKind.i64 0] 26)) w1 := by simpa using hb
  have hz := hb1.size
  simp at hz
  have hb2 := hb1.alloc (by omega) (Obj.cells #[Value.int IntKind.i64 E, Value.int IntKind.i64 A] 26)
  obtain ⟨c0, c1, f0, f1, hsz⟩ := Kit.two_cells hb2
  clear hb Hck
  go_wp2_with fail
  go_region
  all_goals (try go_wp2)
  have q := Kit.read_two (.int .i64 E) (.int .i64 A) c0 c1
  refine bodyPost_ret (v := .tuple #[.string ⟨#[]⟩, .agg #[.int .i64 E, .int .i64 A]]) (by simp [results, Try.results10, go_sem, q.1, q.2]) rfl ⟨rfl, ?_⟩
  exact (Kit.below_two hb2 _ _).drew

theorem check_fine (s : ByteArray) (w : World) (h : s.size ≤ 65536) (hl : Pl.Lets s.data.toList) :
    Calls Try.prog 8 #[.string s] w fun e w' => e = .returned (.agg #[.int .i64 0, .int .i64 0]) ∧ Below w.heap.size w w' := by
  refine (check_ok s w h).mono ?_
  rintro e w' ⟨rfl, hb⟩
  rw [(chk_none _ (Pl.chk_ok _ hl)).1, (chk_none _ (Pl.chk_ok _ hl)).2]
  exact ⟨rfl, hb⟩

set_option maxHeartbeats 1000000 in
theorem group_range (s : ByteArray) (L W : Int) (w : World) (h : s.size ≤ 65536) (hl : Pl.Lets s.data.toList) (hr : L < 1 ∨ W < 1) :
    Calls Try.prog 10 #[.string s, .int .i64 L, .int .i64 W] w fun e w' => e = .returned (.tuple #[.string ⟨#[]⟩, .agg #[.int .i64 3, .int .i64 0]]) ∧ Below w.heap.size w w' := by
  have hr' : L < 1 ∨ (1 ≤ L ∧ W < 1) := by omega
  clear hr
  rcases hr' with hL | ⟨hL, hW⟩
  all_goals
    go_enter Try.func10, Try.ntmps10
    go_wp2_with fail
    refine (check_fine s _ h hl).mono ?_
    rintro e w1 ⟨rfl, hb⟩
    have hb1 : Below (w.heap.size + 1) (w.alloc (Obj.cells #[Value.int IntKind.i64 0, Value.int IntKind.i64 0] 26)) w1 := by simpa using hb
    have hz := hb1.size
    simp at hz
    have hb2 := hb1.alloc (by omega) (Obj.cells #[Value.int IntKind.i64 0, Value.int IntKind.i64 0] 26)
    obtain ⟨c0, c1, f0, f1, hsz⟩ := Kit.two_cells hb2
    clear hb
    go_wp2_with fail
    have q := Kit.read_two (.int .i64 3) (.int .i64 0) c0 c1
    refine bodyPost_ret (v := .tuple #[.string ⟨#[]⟩, .agg #[.int .i64 3, .int .i64 0]]) (by simp [results, Try.results10, go_sem, q.1, q.2]) rfl ⟨rfl, ?_⟩
    exact (Kit.below_two hb2 _ _)

set_option maxHeartbeats 2000000 in
theorem group_ok (s : ByteArray) (L W : Int) (w : World) (h : s.size ≤ 65536) (hl : Pl.Lets s.data.toList) (hL : 1 ≤ L) (hW : 1 ≤ W) (hL2 : L ≤ 9223372036854775807) (hW2 : W ≤ 9223372036854775807) :
    Calls Try.prog 10 #[.string s, .int .i64 L, .int .i64 W] w fun e w' => e = .returned (.tuple #[.string ⟨(Pl.grp L W s.data.toList s.size).toArray⟩, .agg #[.int .i64 0, .int .i64 0]]) ∧ Below w.heap.size w w' := by
  obtain ⟨i0, hi, hz0, hz1, hz2⟩ := info_parts Try.info5
  have HL : Hid (s.size = s.data.toList.length) := Pl.size_len s
  have hq1 : decide (L < 1) = false := by simp; omega
  have hq2 : decide (W < 1) = false := by simp; omega
  have hq3 : (L == 0) = false := by simp; omega
  go_enter Try.func10, Try.ntmps10
  go_wp2_with fail
  refine (check_fine s _ h hl).mono ?_
  rintro e w1 ⟨rfl, hb⟩
  have hb1 : Below (w.heap.size + 1) (w.alloc (Obj.cells #[Value.int IntKind.i64 0, Value.int IntKind.i64 0] 26)) w1 := by simpa using hb
  have hz := hb1.size
  simp at hz
  have hb2 := hb1.alloc (by omega) (Obj.cells #[Value.int IntKind.i64 0, Value.int IntKind.i64 0] 26)
  clear hb hl
  go_wp2_with (first
    | (at_make; refine wpList_make_own _ rfl _ _ 34 rfl (w.heap.size + 1) 5 i0 (.int .u8 0) 1 Try.underlying34 hi hz0 hz1 _ _ _ (2 * s.size) rfl rfl (by omega) (by rw [hz2]; omega) (by unfold maxLen; omega) (by simp; omega) ?_; intro w2 hown1 hgrow1))
  have hown0 : Kit.Owns w2 (w.heap.size + 1) 5 (.slice (some ⟨w1.heap.size + 1, 0, none⟩) 0 (2 * s.size)) [] := by simpa [Kit.Owns, Lib.byteCells] using hown1
  have hbel0 : Below (w.heap.size + 1) (w.alloc (Obj.cells #[Value.int IntKind.i64 0, Value.int IntKind.i64 0] 26)) w2 := hb2.grown hgrow1 (by simp; omega) (fun k hk => by cases hk)
  clear hown1 hgrow1 hb1 hb2 hz
  go_loopw [9, 30] (fun v i wr => ∃ k : Nat, k ≤ s.size ∧ i = .int .i64 k ∧ Kit.Owns wr (w.heap.size + 1) 5 v (Pl.grp L W s.data.toList k) ∧ Below (w.heap.size + 1) (w.alloc (Obj.cells #[Value.int IntKind.i64 0, Value.int IntKind.i64 0] 26)) wr)
    (fun _ i _ => s.size - (intOf i).toNat)
  case atStart => exact ⟨0, Nat.zero_le _, rfl, hown0, hbel0⟩
  case round =>
    obtain ⟨k, hk, rfl, hown, hbel⟩ := hrel
    clear hown0 hbel0
    obtain ⟨c0, c1, f0, f1, hsz⟩ := Kit.two_cells hbel
    by_cases hlt : k < s.size
    · have hk' : k < s.data.toList.length := by have := HL.out; omega
      have HD : Hid (s.data.toList.getD k 0 = s[k]) := by
        show _ = _
        simp only [List.getD, List.getElem?_eq_getElem hk']
        rfl
      have hle := Pl.grp_le L W s.data.toList k
      have hkB : w.heap.size + 1 ≤ wr.heap.size := by omega
      by_cases hg : 0 < k ∧ (k : Int) % L = 0
      · have HG : Hid (Pl.grp L W s.data.toList (k + 1) = Pl.grp L W s.data.toList k ++ [UInt8.ofNat (if ((k : Int) / L) % W = 0 then 10 else 32 : Int).toNat] ++ [s[k]]) := by
          show _ = _
          rw [Pl.grp, Pl.gapL_yes L W k hg, HD.out]
        obtain ⟨hg1, hg2⟩ := hg
        have hd1 : 0 ≤ (k : Int) / L := Int.ediv_nonneg (by omega) (by omega)
        have hd2 : (k : Int) / L ≤ 1048576 := Int.le_trans (Int.ediv_le_self _ (by omega)) (by omega)
        have hg3 : ((k : Int) % L == 0) = true := by simp [hg2]
        have hg4 : decide (0 < (k : Int)) = true := by simp; omega
        have hG0 : 0 ≤ (if ((k : Int) / L) % W = 0 then 10 else 32 : Int) := by split <;> omega
        have hG1 : (if ((k : Int) / L) % W = 0 then 10 else 32 : Int) < 256 := by split <;> omega
        generalize Pl.grp L W s.data.toList k = acc at hown hle HG
        go_wp2_with fail
        refine (gapAhead_any _ _ _ hd1 hW hd2 hW2).mono ?_
        rintro e w3 ⟨rfl, rfl⟩
        generalize (if ((k : Int) / L) % W = 0 then 10 else 32 : Int) = G at hG0 hG1 HG
        go_wp2_with (first
          | (at_builtin
             refine wpList_append_own _ rfl (.tmp 41) (.tmp 47) 34 rfl (w.heap.size + 1) 5 i0 (.int .u8 0) 1 1 Try.underlying34 hi hz0 hz1 hz2 rfl (by decide) _ _ _ rfl (World.ownsRow.alloc hown _) ⟨wr.heap.size, 0, none⟩ 1 1 [.int .u8 G] rfl rfl (cell_one_new _ _ _) (fun u hu => by simp at hu; subst hu; rfl) (by unfold maxLen; omega) (by omega) (by simp; omega) ?_
             intro v' w4 hown' hgrow _
             obtain ⟨hown2, hbel2⟩ := Kit.Owns.grownB (w := w.alloc (Obj.cells #[Value.int IntKind.i64 0, Value.int IntKind.i64 0] 26)) (m := [UInt8.ofNat G.toNat]) (World.ownsRow.alloc hown _) (by simp; omega) (hbel.alloc hkB _) hown' (by simp) (cells_up hG0 hG1 acc) hgrow
             have hkB2 : w.heap.size + 1 ≤ w4.heap.size := by have := hbel2.size; simp at this; omega
             have hle2 : (acc ++ [UInt8.ofNat G.toNat]).length ≤ 2 * k + 1 := by simp; omega
             generalize acc ++ [UInt8.ofNat G.toNat] = acc2 at hown2 hle2 HG
             clear hown hbel hown' hgrow c0 c1 f0 f1)
          | (at_builtin; refine wpList_append_own _ rfl (.tmp 49) (.tmp 53) 34 rfl (w.heap.size + 1) 5 i0 (.int .u8 0) 1 1 Try.underlying34 hi hz0 hz1 hz2 rfl (by decide) _ _ _ rfl (World.ownsRow.alloc hown2 _) ⟨w4.heap.size, 0, none⟩ 1 1 [.int .u8 (s[k].toNat : Int)] rfl rfl (cell_one_new _ _ _) (fun u hu => by simp at hu; subst hu; rfl) (by unfold maxLen; omega) (by omega) (by simp; omega) ?_; intro v5 w5 hown5 hgrow5 _))
        have G2 := Kit.Owns.grownB (w := w.alloc (Obj.cells #[Value.int IntKind.i64 0, Value.int IntKind.i64 0] 26)) (m := [s[k]]) (World.ownsRow.alloc hown2 _) (by simp; omega) (hbel2.alloc hkB2 _) hown5 (by simp) (by simp [Lib.byteCells]) hgrow5
        exact ⟨⟨k + 1, by omega, by go_num, by rw [HG.out]; exact G2.1, G2.2⟩, by simp [intOf]; omega⟩
      · have HG : Hid (Pl.grp L W s.data.toList (k + 1) = Pl.grp L W s.data.toList k ++ [s[k]]) := by
          show _ = _
          rw [Pl.grp, Pl.gapL_no L W k hg, HD.out, List.append_nil]
        generalize Pl.grp L W s.data.toList k = acc at hown hle HG
        by_cases hk0 : 0 < k
        · have hg3 : ((k : Int) % L == 0) = false := by
            simp
            intro e
            exact hg ⟨hk0, e⟩
          have hg4 : decide (0 < (k : Int)) = true := by simp; omega
          clear hg
          go_wp2_with (first
            | (at_builtin; refine wpList_append_own _ rfl (.tmp 49) (.tmp 53) 34 rfl (w.heap.size + 1) 5 i0 (.int .u8 0) 1 1 Try.underlying34 hi hz0 hz1 hz2 rfl (by decide) _ _ _ rfl (World.ownsRow.alloc hown _) ⟨wr.heap.size, 0, none⟩ 1 1 [.int .u8 (s[k].toNat : Int)] rfl rfl (cell_one_new _ _ _) (fun u hu => by simp at hu; subst hu; rfl) (by unfold maxLen; omega) (by omega) (by simp; omega) ?_; intro v5 w5 hown5 hgrow5 _))
          have G2 := Kit.Owns.grownB (w := w.alloc (Obj.cells #[Value.int IntKind.i64 0, Value.int IntKind.i64 0] 26)) (m := [s[k]]) (World.ownsRow.alloc hown _) (by simp; omega) (hbel.alloc hkB _) hown5 (by simp) (by simp [Lib.byteCells]) hgrow5
          exact ⟨⟨k + 1, by omega, by go_num, by rw [HG.out]; exact G2.1, G2.2⟩, by simp [intOf]; omega⟩
        · have hg4 : decide (0 < (k : Int)) = false := by simp; omega
          clear hg
          go_wp2_with (first
            | (at_builtin; refine wpList_append_own _ rfl (.tmp 49) (.tmp 53) 34 rfl (w.heap.size + 1) 5 i0 (.int .u8 0) 1 1 Try.underlying34 hi hz0 hz1 hz2 rfl (by decide) _ _ _ rfl (World.ownsRow.alloc hown _) ⟨wr.heap.size, 0, none⟩ 1 1 [.int .u8 (s[k].toNat : Int)] rfl rfl (cell_one_new _ _ _) (fun u hu => by simp at hu; subst hu; rfl) (by unfold maxLen; omega) (by omega) (by simp; omega) ?_; intro v5 w5 hown5 hgrow5 _))
          have G2 := Kit.Owns.grownB (w := w.alloc (Obj.cells #[Value.int IntKind.i64 0, Value.int IntKind.i64 0] 26)) (m := [s[k]]) (World.ownsRow.alloc hown _) (by simp; omega) (hbel.alloc hkB _) hown5 (by simp) (by simp [Lib.byteCells]) hgrow5
          exact ⟨⟨k + 1, by omega, by go_num, by rw [HG.out]; exact G2.1, G2.2⟩, by simp [intOf]; omega⟩
    · have hstr := Kit.run_string_of_own (P := Try.prog) wr 34 9 5 Try.underlying34 Try.underlying5 Try.underlying9 hown
      have hkk : k = s.size := by omega
      subst hkk
      have q := Kit.read_two (.int .i64 0) (.int .i64 0) c0 c1
      have hbf := Kit.below_two hbel (.int .i64 0) (.int .i64 0)
      generalize hF : Pl.grp L W s.data.toList s.size = F at hstr hown
      have HF : Hid (Pl.grp L W s.data.toList s.size = F) := hF
      clear hown hF
      go_wp2
      refine bodyPost_ret (v := .tuple #[.string ⟨F.toArray⟩, .agg #[.int .i64 0, .int .i64 0]]) (by simp [results, Try.results10, go_sem, q.1, q.2]) rfl ⟨by rw [HF.out], hbf⟩
end Go.Proofs.Ytfpjjddbggjpaaa
