/-
  The contract of the document's own Group: it answers as the program's.
-/
import Derived.Test.YtfpjjddbggjpaaaGroup
import Derived.Test.YtfpjjddbggjpaaaRefCheck
import Derived.Test.YtfpjjddbggjpaaaCut
namespace Go.Proofs.Ytfpjjddbggjpaaa
open Go.RowKit

set_option maxHeartbeats 1000000 in
theorem rgroup_wrong (s : ByteArray) (L W : Int) (w : World) (E A : Int) (hE : (E != 0) = true) (hck : ∀ w, Calls Try.prog 9 #[.string s] w fun e w' => e = .returned (.agg #[.int .i64 E, .int .i64 A]) ∧ Below w.heap.size w w') :
    Calls Try.prog 11 #[.string s, .int .i64 L, .int .i64 W] w fun e w' => e = .returned (.tuple #[.string ⟨#[]⟩, .agg #[.int .i64 E, .int .i64 A]]) ∧ Below w.heap.size w w' := by
  have Hck : Hid (∀ w, Calls Try.prog 9 #[.string s] w fun e w' => e = .returned (.agg #[.int .i64 E, .int .i64 A]) ∧ Below w.heap.size w w') := hck
  clear hck
  go_enter Try.func11, Try.ntmps11
  go_wp2_with fail
  refine (Hck.out _).mono ?_
  rintro e w1 ⟨rfl, hb⟩
  have hb1 : Below (w.heap.size + 1) (w.alloc (Obj.cells #[Value.int IntKind.i64 0, Value.int IntKind.i64 0] 26)) w1 := by simpa using hb
  have hz := hb1.size
  simp at hz
  have hb2 := hb1.alloc (by omega) (Obj.cells #[Value.int IntKind.i64 E, Value.int IntKind.i64 A] 26)
  obtain ⟨c0, c1, f0, f1, hsz⟩ := Kit.two_cells hb2
  clear hb Hck
  go_wp2_with fail
  go_region
  all_goals (try go_wp2)
  have q := Kit.read_two (.int .i64 E) (.int .i64 A) c0 c1
  refine bodyPost_ret (v := .tuple #[.string ⟨#[]⟩, .agg #[.int .i64 E, .int .i64 A]]) (by simp [results, Try.results11, go_sem, q.1, q.2]) rfl ⟨rfl, ?_⟩
  exact (Kit.below_two hb2 _ _).drew

theorem rcheck_fine (s : ByteArray) (w : World) (h : s.size ≤ 65536) (hl : Pl.Lets s.data.toList) :
    Calls Try.prog 9 #[.string s] w fun e w' => e = .returned (.agg #[.int .i64 0, .int .i64 0]) ∧ Below w.heap.size w w' := by
  refine (rcheck_ok s w h).mono ?_
  rintro e w' ⟨rfl, hb⟩
  rw [(chk_none _ (Pl.chk_ok _ hl)).1, (chk_none _ (Pl.chk_ok _ hl)).2]
  exact ⟨rfl, hb⟩

set_option maxHeartbeats 1000000 in
theorem rgroup_range (s : ByteArray) (L W : Int) (w : World) (h : s.size ≤ 65536) (hl : Pl.Lets s.data.toList) (hr : L < 1 ∨ W < 1) :
    Calls Try.prog 11 #[.string s, .int .i64 L, .int .i64 W] w fun e w' => e = .returned (.tuple #[.string ⟨#[]⟩, .agg #[.int .i64 3, .int .i64 0]]) ∧ Below w.heap.size w w' := by
  have hr' : L < 1 ∨ (1 ≤ L ∧ W < 1) := by omega
  clear hr
  rcases hr' with hL | ⟨hL, hW⟩
  all_goals
    go_enter Try.func11, Try.ntmps11
    go_wp2_with fail
    refine (rcheck_fine s _ h hl).mono ?_
    rintro e w1 ⟨rfl, hb⟩
    have hb1 : Below (w.heap.size + 1) (w.alloc (Obj.cells #[Value.int IntKind.i64 0, Value.int IntKind.i64 0] 26)) w1 := by simpa using hb
    have hz := hb1.size
    simp at hz
    have hb2 := hb1.alloc (by omega) (Obj.cells #[Value.int IntKind.i64 0, Value.int IntKind.i64 0] 26)
    obtain ⟨c0, c1, f0, f1, hsz⟩ := Kit.two_cells hb2
    clear hb
    go_wp2_with fail
    have q := Kit.read_two (.int .i64 3) (.int .i64 0) c0 c1
    refine bodyPost_ret (v := .tuple #[.string ⟨#[]⟩, .agg #[.int .i64 3, .int .i64 0]]) (by simp [results, Try.results11, go_sem, q.1, q.2]) rfl ⟨rfl, ?_⟩
    exact (Kit.below_two hb2 _ _)

def strLen : Value → Nat | .string b => b.size | _ => 0

/-- One group more: what becomes of the counts and of what is left. -/
theorem rg_next (l tl : List UInt8) (c : Nat) (W : Int) (m n j : Nat) (hc : 1 ≤ c) (HT : tl = l.drop m) (hm : m ≤ l.length) (hnm : n ≤ m) (HM : m = l.length ∨ (m : Int) = n * (c : Int)) (hlt : 0 < tl.length) (hj : j = c ∧ c ≤ tl.length ∨ j = tl.length ∧ tl.length < c) :
    m + j ≤ l.length ∧ n + 1 ≤ m + j ∧ Pl.grp c W l (m + j) = Pl.grp c W l m ++ Pl.gapN W n ++ tl.take j ∧ (m + j = l.length ∨ ((m + j : Nat) : Int) = ((n + 1 : Nat) : Int) * (c : Int)) ∧ tl.drop j = l.drop (m + j) := by
  subst HT
  rw [List.length_drop] at hlt hj
  have hM : (m : Int) = n * (c : Int) := by
    rcases HM with h | h
    · omega
    · exact h
  refine ⟨by omega, by omega, Pl.grp_run c W (by omega) l m n hM j (by omega) (by omega) (by omega), ?_, by rw [List.drop_drop]⟩
  rcases hj with ⟨rfl, h⟩ | ⟨rfl, h⟩
  · right
    rw [Int.natCast_add, Int.natCast_add, hM, Int.add_mul]
    simp
  · left
    omega

theorem ex_take (tb : ByteArray) (j : Nat) : (tb.extract 0 j).data.toList = tb.data.toList.take j := by
  simp [ByteArray.data_extract]
theorem ex_drop (tb : ByteArray) (j : Nat) : (tb.extract j tb.size).data.toList = tb.data.toList.drop j := by
  have := Pl.size_len tb
  simp [ByteArray.data_extract]
  rw [List.take_of_length_le]
  rw [List.length_drop]
  omega

theorem rg_owned {W0 w4 w5 : World} {B : Nat} {v v5 : Value} {acc gap G : List UInt8} {str : ByteArray} (hown2 : Kit.Owns w4 B 5 v (acc ++ gap)) (hB : B ≤ w4.heap.size) (hbel2 : Below B W0 w4)
    (hown5 : w5.ownsRow B 5 1 v5 ((acc ++ gap).length + str.size) (Lib.byteCells (acc ++ gap) ++ Lib.strCells str)) (hgrow5 : w4.grownBy w5 v.ownBlock) (hG : G = acc ++ gap ++ str.data.toList) : Kit.Owns w5 B 5 v5 G ∧ Below B W0 w5 := by
  subst hG
  have e : (acc ++ gap).length + str.size = ((acc ++ gap) ++ str.data.toList).length := by rw [List.length_append, List.length_append, List.length_append, ← Pl.size_len]
  exact Kit.Owns.grownB hown2 hB hbel2 hown5 e (by rw [Lib.byteCells_append (acc ++ gap)]; rfl) hgrow5

theorem rg_owned0 {W0 w4 w5 : World} {B : Nat} {v v5 : Value} {acc G : List UInt8} {str : ByteArray} (hown2 : Kit.Owns w4 B 5 v acc) (hB : B ≤ w4.heap.size) (hbel2 : Below B W0 w4)
    (hown5 : w5.ownsRow B 5 1 v5 (acc.length + str.size) (Lib.byteCells acc ++ Lib.strCells str)) (hgrow5 : w4.grownBy w5 v.ownBlock) (hG : G = acc ++ str.data.toList) : Kit.Owns w5 B 5 v5 G ∧ Below B W0 w5 := by
  subst hG
  have e : acc.length + str.size = (acc ++ str.data.toList).length := by rw [List.length_append, ← Pl.size_len]
  exact Kit.Owns.grownB hown2 hB hbel2 hown5 e (by rw [Lib.byteCells_append acc]; rfl) hgrow5

set_option maxHeartbeats 8000000 in
theorem rgroup_ok (s : ByteArray) (c : Nat) (W : Int) (w : World) (h : s.size ≤ 65536) (hl : Pl.Lets s.data.toList) (hL : 1 ≤ c) (hW : 1 ≤ W) (hL2 : (c : Int) ≤ 9223372036854775807) (hW2 : W ≤ 9223372036854775807) :
    Calls Try.prog 11 #[.string s, .int .i64 c, .int .i64 W] w fun e w' => e = .returned (.tuple #[.string ⟨(Pl.grp c W s.data.toList s.size).toArray⟩, .agg #[.int .i64 0, .int .i64 0]]) ∧ Below w.heap.size w w' := by
  obtain ⟨i0, hi, hz0, hz1, hz2⟩ := info_parts Try.info5
  have hu9 : Try.prog.underlying 9 = some .string := Try.underlying9
  have HL : Hid (s.size = s.data.toList.length) := Pl.size_len s
  have hq1 : decide ((c : Int) < 1) = false := by simp; omega
  have hq2 : decide (W < 1) = false := by simp; omega
  have hq3 : (W == 0) = false := by simp; omega
  go_enter Try.func11, Try.ntmps11
  go_wp2_with fail
  refine (rcheck_fine s _ h hl).mono ?_
  rintro e w1 ⟨rfl, hb⟩
  have hb1 : Below (w.heap.size + 1) (w.alloc (Obj.cells #[Value.int IntKind.i64 0, Value.int IntKind.i64 0] 26)) w1 := by simpa using hb
  have hz := hb1.size
  simp at hz
  have hb2 := hb1.alloc (by omega) (Obj.cells #[Value.int IntKind.i64 0, Value.int IntKind.i64 0] 26)
  clear hb hl hb1
  go_wp2_with fail
  go_loopw [0, 9, 10] (fun t v i wr => ∃ (m n : Nat) (tb : ByteArray), n ≤ m ∧ m ≤ 65536 ∧ tb.size ≤ 65536 ∧ t = .string tb ∧ Hid (tb.data.toList = s.data.toList.drop m ∧ m ≤ s.data.toList.length ∧ (m = s.data.toList.length ∨ (m : Int) = n * (c : Int))) ∧ i = .int .i64 n ∧ Kit.Owns wr (w.heap.size + 1) 5 v (Pl.grp c W s.data.toList m) ∧ Below (w.heap.size + 1) (w.alloc (Obj.cells #[Value.int IntKind.i64 0, Value.int IntKind.i64 0] 26)) wr)
    (fun t _ _ _ => strLen t)
  case atStart => exact ⟨0, 0, s, Nat.le_refl _, by omega, h, rfl, ⟨rfl, Nat.zero_le _, .inr (by simp)⟩, rfl, Kit.Owns.nil _ _ _, hb2⟩
  case round =>
    obtain ⟨m, n, tb, hnm, hm6, hts, rfl, HT, rfl, hown, hbel⟩ := hrel
    obtain ⟨c0, c1, f0, f1, hsz⟩ := Kit.two_cells hbel
    have HS : Hid (tb.size = tb.data.toList.length) := Pl.size_len tb
    by_cases hlt : 0 < tb.size
    · have hkB : w.heap.size + 1 ≤ wr.heap.size := by omega
      have hle := Pl.grp_le c W s.data.toList m
      by_cases hLt : tb.size < c
      · skip
        have hLd : decide ((tb.size : Int) < (c : Int)) = true := by simp; omega
        have HN : Hid _ := rg_next s.data.toList tb.data.toList c W m n tb.size hL HT.out.1 HT.out.2.1 hnm HT.out.2.2 (by have := HS.out; omega) (.inr (by have := HS.out; omega))
        by_cases hn0 : 0 < n
        · have hd0 : decide (0 < (n : Int)) = true := by simp; omega
          by_cases hnW : (n : Int) % W = 0
          · have hdW : ((n : Int) % W == 0) = true := by simp [hnW]
            have HG : Hid (Pl.gapN W n = [10]) := by show _ = _; unfold Pl.gapN; rw [if_pos hn0, if_pos hnW]
            generalize Pl.grp c W s.data.toList m = acc at hown hle HN
            go_wp2_with (first
              | (at_builtin
                 refine wpList_append_own _ rfl (.tmp 38) (.tmp 39) 34 rfl (w.heap.size + 1) 5 i0 (.int .u8 0) 1 1 Try.underlying34 hi hz0 hz1 hz2 rfl (by decide) _ _ _ rfl (World.ownsRow.alloc hown _) ⟨wr.heap.size, 0, none⟩ 1 1 [.int .u8 10] rfl rfl (cell_one_new _ _ _) (fun u hu => by simp at hu; subst hu; rfl) (by unfold maxLen; omega) (by omega) (by simp; omega) ?_
                 intro v' w4 hown' hgrow _
                 obtain ⟨hown2, hbel2⟩ := Kit.Owns.grownB (w := w.alloc (Obj.cells #[Value.int IntKind.i64 0, Value.int IntKind.i64 0] 26)) (m := [10]) (World.ownsRow.alloc hown _) (by simp; omega) (hbel.alloc hkB _) hown' (by simp) (by simp [Lib.byteCells]) hgrow
                 have hkB2 : w.heap.size + 1 ≤ w4.heap.size := by have := hbel2.size; simp at this; omega
                 have hle2 : (acc ++ [10]).length ≤ 2 * m + 1 := by simp; omega
                 clear hown hbel hown' hgrow c0 c1 f0 f1)
              | (at_builtin; refine Lib.wpList_append_own_string _ rfl (.tmp 53) (.tmp 56) 34 9 rfl (w.heap.size + 1) 5 i0 Try.underlying34 hu9 hi hz0 hz1 hz2 _ _ _ rfl hown2 _ rfl (by unfold maxLen; omega) (by omega) hkB2 ?_; intro v5 w5 hown5 hgrow5 _))
            have hHN := HN.out
            have G := rg_owned hown2 hkB2 hbel2 hown5 hgrow5 (G := Pl.grp c W s.data.toList (m + tb.size)) (by rw [hHN.2.2.1, HG.out, List.take_of_length_le (by have := HS.out; omega)])
            exact ⟨⟨m + tb.size, n + 1, ByteArray.empty, hHN.2.1, by have := hHN.1; have := HL.out; omega, by simp, rfl, ⟨by rw [← hHN.2.2.2.2, List.drop_of_length_le (by have := HS.out; omega)]; rfl, hHN.1, hHN.2.2.2.1⟩, by go_num, G.1, G.2⟩, by show ByteArray.empty.size < tb.size; exact hlt⟩
          · have hdW : ((n : Int) % W == 0) = false := by simp [hnW]
            have HG : Hid (Pl.gapN W n = [32]) := by show _ = _; unfold Pl.gapN; rw [if_pos hn0, if_neg hnW]
            generalize Pl.grp c W s.data.toList m = acc at hown hle HN
            go_wp2_with (first
              | (at_builtin
                 refine wpList_append_own _ rfl (.tmp 43) (.tmp 44) 34 rfl (w.heap.size + 1) 5 i0 (.int .u8 0) 1 1 Try.underlying34 hi hz0 hz1 hz2 rfl (by decide) _ _ _ rfl (World.ownsRow.alloc hown _) ⟨wr.heap.size, 0, none⟩ 1 1 [.int .u8 32] rfl rfl (cell_one_new _ _ _) (fun u hu => by simp at hu; subst hu; rfl) (by unfold maxLen; omega) (by omega) (by simp; omega) ?_
                 intro v' w4 hown' hgrow _
                 obtain ⟨hown2, hbel2⟩ := Kit.Owns.grownB (w := w.alloc (Obj.cells #[Value.int IntKind.i64 0, Value.int IntKind.i64 0] 26)) (m := [32]) (World.ownsRow.alloc hown _) (by simp; omega) (hbel.alloc hkB _) hown' (by simp) (by simp [Lib.byteCells]) hgrow
                 have hkB2 : w.heap.size + 1 ≤ w4.heap.size := by have := hbel2.size; simp at this; omega
                 have hle2 : (acc ++ [32]).length ≤ 2 * m + 1 := by simp; omega
                 clear hown hbel hown' hgrow c0 c1 f0 f1)
              | (at_builtin; refine Lib.wpList_append_own_string _ rfl (.tmp 53) (.tmp 56) 34 9 rfl (w.heap.size + 1) 5 i0 Try.underlying34 hu9 hi hz0 hz1 hz2 _ _ _ rfl hown2 _ rfl (by unfold maxLen; omega) (by omega) hkB2 ?_; intro v5 w5 hown5 hgrow5 _))
            have hHN := HN.out
            have G := rg_owned hown2 hkB2 hbel2 hown5 hgrow5 (G := Pl.grp c W s.data.toList (m + tb.size)) (by rw [hHN.2.2.1, HG.out, List.take_of_length_le (by have := HS.out; omega)])
            exact ⟨⟨m + tb.size, n + 1, ByteArray.empty, hHN.2.1, by have := hHN.1; have := HL.out; omega, by simp, rfl, ⟨by rw [← hHN.2.2.2.2, List.drop_of_length_le (by have := HS.out; omega)]; rfl, hHN.1, hHN.2.2.2.1⟩, by go_num, G.1, G.2⟩, by show ByteArray.empty.size < tb.size; exact hlt⟩
        · have hd0 : decide (0 < (n : Int)) = false := by simp; omega
          have HG : Hid (Pl.gapN W n = []) := if_neg hn0
          generalize Pl.grp c W s.data.toList m = acc at hown hle HN
          go_wp2_with (first
            | (at_builtin; refine Lib.wpList_append_own_string _ rfl (.tmp 53) (.tmp 56) 34 9 rfl (w.heap.size + 1) 5 i0 Try.underlying34 hu9 hi hz0 hz1 hz2 _ _ _ rfl hown _ rfl (by unfold maxLen; omega) (by omega) hkB ?_; intro v5 w5 hown5 hgrow5 _))
          have hHN := HN.out
          have G := rg_owned0 hown hkB hbel hown5 hgrow5 (G := Pl.grp c W s.data.toList (m + tb.size)) (by rw [hHN.2.2.1, HG.out, List.append_nil, List.take_of_length_le (by have := HS.out; omega)])
          exact ⟨⟨m + tb.size, n + 1, ByteArray.empty, hHN.2.1, by have := hHN.1; have := HL.out; omega, by simp, rfl, ⟨by rw [← hHN.2.2.2.2, List.drop_of_length_le (by have := HS.out; omega)]; rfl, hHN.1, hHN.2.2.2.1⟩, by go_num, G.1, G.2⟩, by show ByteArray.empty.size < tb.size; exact hlt⟩
      · skip
        have hLd : decide ((tb.size : Int) < (c : Int)) = false := by simp; omega
        have HN : Hid _ := rg_next s.data.toList tb.data.toList c W m n c hL HT.out.1 HT.out.2.1 hnm HT.out.2.2 (by have := HS.out; omega) (.inl (by have := HS.out; omega))
        by_cases hn0 : 0 < n
        · have hd0 : decide (0 < (n : Int)) = true := by simp; omega
          by_cases hnW : (n : Int) % W = 0
          · have hdW : ((n : Int) % W == 0) = true := by simp [hnW]
            have HG : Hid (Pl.gapN W n = [10]) := by show _ = _; unfold Pl.gapN; rw [if_pos hn0, if_pos hnW]
            generalize Pl.grp c W s.data.toList m = acc at hown hle HN
            go_wp2_with (first
              | (at_builtin
                 refine wpList_append_own _ rfl (.tmp 38) (.tmp 39) 34 rfl (w.heap.size + 1) 5 i0 (.int .u8 0) 1 1 Try.underlying34 hi hz0 hz1 hz2 rfl (by decide) _ _ _ rfl (World.ownsRow.alloc hown _) ⟨wr.heap.size, 0, none⟩ 1 1 [.int .u8 10] rfl rfl (cell_one_new _ _ _) (fun u hu => by simp at hu; subst hu; rfl) (by unfold maxLen; omega) (by omega) (by simp; omega) ?_
                 intro v' w4 hown' hgrow _
                 obtain ⟨hown2, hbel2⟩ := Kit.Owns.grownB (w := w.alloc (Obj.cells #[Value.int IntKind.i64 0, Value.int IntKind.i64 0] 26)) (m := [10]) (World.ownsRow.alloc hown _) (by simp; omega) (hbel.alloc hkB _) hown' (by simp) (by simp [Lib.byteCells]) hgrow
                 have hkB2 : w.heap.size + 1 ≤ w4.heap.size := by have := hbel2.size; simp at this; omega
                 have hle2 : (acc ++ [10]).length ≤ 2 * m + 1 := by simp; omega
                 clear hown hbel hown' hgrow c0 c1 f0 f1)
              | (at_builtin; refine Lib.wpList_append_own_string _ rfl (.tmp 53) (.tmp 56) 34 9 rfl (w.heap.size + 1) 5 i0 Try.underlying34 hu9 hi hz0 hz1 hz2 _ _ _ rfl hown2 _ rfl (by rw [ByteArray.size_extract]; unfold maxLen; omega) (by rw [ByteArray.size_extract]; omega) hkB2 ?_; intro v5 w5 hown5 hgrow5 _))
            have hHN := HN.out
            have G := rg_owned hown2 hkB2 hbel2 hown5 hgrow5 (G := Pl.grp c W s.data.toList (m + c)) (by rw [hHN.2.2.1, HG.out, ex_take])
            exact ⟨⟨m + c, n + 1, tb.extract c tb.size, hHN.2.1, by have := hHN.1; have := HL.out; omega, by rw [ByteArray.size_extract]; omega, rfl, ⟨by rw [← hHN.2.2.2.2, ex_drop], hHN.1, hHN.2.2.2.1⟩, by go_num, G.1, G.2⟩, by show (tb.extract c tb.size).size < tb.size; rw [ByteArray.size_extract]; omega⟩
          · have hdW : ((n : Int) % W == 0) = false := by simp [hnW]
            have HG : Hid (Pl.gapN W n = [32]) := by show _ = _; unfold Pl.gapN; rw [if_pos hn0, if_neg hnW]
            generalize Pl.grp c W s.data.toList m = acc at hown hle HN
            go_wp2_with (first
              | (at_builtin
                 refine wpList_append_own _ rfl (.tmp 43) (.tmp 44) 34 rfl (w.heap.size + 1) 5 i0 (.int .u8 0) 1 1 Try.underlying34 hi hz0 hz1 hz2 rfl (by decide) _ _ _ rfl (World.ownsRow.alloc hown _) ⟨wr.heap.size, 0, none⟩ 1 1 [.int .u8 32] rfl rfl (cell_one_new _ _ _) (fun u hu => by simp at hu; subst hu; rfl) (by unfold maxLen; omega) (by omega) (by simp; omega) ?_
                 intro v' w4 hown' hgrow _
                 obtain ⟨hown2, hbel2⟩ := Kit.Owns.grownB (w := w.alloc (Obj.cells #[Value.int IntKind.i64 0, Value.int IntKind.i64 0] 26)) (m := [32]) (World.ownsRow.alloc hown _) (by simp; omega) (hbel.alloc hkB _) hown' (by simp) (by simp [Lib.byteCells]) hgrow
                 have hkB2 : w.heap.size + 1 ≤ w4.heap.size := by have := hbel2.size; simp at this; omega
                 have hle2 : (acc ++ [32]).length ≤ 2 * m + 1 := by simp; omega
                 clear hown hbel hown' hgrow c0 c1 f0 f1)
              | (at_builtin; refine Lib.wpList_append_own_string _ rfl (.tmp 53) (.tmp 56) 34 9 rfl (w.heap.size + 1) 5 i0 Try.underlying34 hu9 hi hz0 hz1 hz2 _ _ _ rfl hown2 _ rfl (by rw [ByteArray.size_extract]; unfold maxLen; omega) (by rw [ByteArray.size_extract]; omega) hkB2 ?_; intro v5 w5 hown5 hgrow5 _))
            have hHN := HN.out
            have G := rg_owned hown2 hkB2 hbel2 hown5 hgrow5 (G := Pl.grp c W s.data.toList (m + c)) (by rw [hHN.2.2.1, HG.out, ex_take])
            exact ⟨⟨m + c, n + 1, tb.extract c tb.size, hHN.2.1, by have := hHN.1; have := HL.out; omega, by rw [ByteArray.size_extract]; omega, rfl, ⟨by rw [← hHN.2.2.2.2, ex_drop], hHN.1, hHN.2.2.2.1⟩, by go_num, G.1, G.2⟩, by show (tb.extract c tb.size).size < tb.size; rw [ByteArray.size_extract]; omega⟩
        · have hd0 : decide (0 < (n : Int)) = false := by simp; omega
          have HG : Hid (Pl.gapN W n = []) := if_neg hn0
          generalize Pl.grp c W s.data.toList m = acc at hown hle HN
          go_wp2_with (first
            | (at_builtin; refine Lib.wpList_append_own_string _ rfl (.tmp 53) (.tmp 56) 34 9 rfl (w.heap.size + 1) 5 i0 Try.underlying34 hu9 hi hz0 hz1 hz2 _ _ _ rfl hown _ rfl (by rw [ByteArray.size_extract]; unfold maxLen; omega) (by rw [ByteArray.size_extract]; omega) hkB ?_; intro v5 w5 hown5 hgrow5 _))
          have hHN := HN.out
          have G := rg_owned0 hown hkB hbel hown5 hgrow5 (G := Pl.grp c W s.data.toList (m + c)) (by rw [hHN.2.2.1, HG.out, List.append_nil, ex_take])
          exact ⟨⟨m + c, n + 1, tb.extract c tb.size, hHN.2.1, by have := hHN.1; have := HL.out; omega, by rw [ByteArray.size_extract]; omega, rfl, ⟨by rw [← hHN.2.2.2.2, ex_drop], hHN.1, hHN.2.2.2.1⟩, by go_num, G.1, G.2⟩, by show (tb.extract c tb.size).size < tb.size; rw [ByteArray.size_extract]; omega⟩
    · have hstr := Kit.run_string_of_own (P := Try.prog) wr 34 9 5 Try.underlying34 Try.underlying5 Try.underlying9 hown
      have hmm : m = s.size := by
        have h1 := congrArg List.length HT.out.1
        rw [List.length_drop] at h1
        have := HS.out
        have := HL.out
        have := HT.out.2.1
        omega
      subst hmm
      have q := Kit.read_two (.int .i64 0) (.int .i64 0) c0 c1
      have hbf := Kit.below_two hbel (.int .i64 0) (.int .i64 0)
      generalize hF : Pl.grp c W s.data.toList s.size = F at hstr hown
      have HF : Hid (Pl.grp c W s.data.toList s.size = F) := hF
      clear hown hF
      go_wp2
      refine bodyPost_ret (v := .tuple #[.string ⟨F.toArray⟩, .agg #[.int .i64 0, .int .i64 0]]) (by simp [results, Try.results11, go_sem, q.1, q.2]) rfl ⟨by rw [HF.out], hbf⟩
end Go.Proofs.Ytfpjjddbggjpaaa
