/-
  Several texts, joined: LtAp, LtFo, LtGr.
-/
import Derived.Test.YtkohhdkkbaifoaaGreatDoorJn35
import Derived.Test.YtkohhdkkbaifoaaGreatDoorJn1
/-
  The contract of letters.appendFolded: what is owned grows by what the rune is written as.
-/
namespace Go.Proofs.YtkohhdkkbaifoaaGreatDoor
open Go.RowKit

theorem lt_info5 : (Tryz.prog.info? 5).map (fun i => (i.zero, i.size, i.bytes)) = some (some (.int .u8 0), 1, 1) := by kernel_rfl

theorem cells_up {r : Int} (h0 : 0 ≤ r) (h : r < 256) (xs : List UInt8) : Lib.byteCells xs ++ [.int .u8 r] = Lib.byteCells (xs ++ [UInt8.ofNat r.toNat]) := by
  rw [Lib.byteCells_append, Kit.byteCells_ofNat _ (by omega), Int.toNat_of_nonneg h0]

set_option maxRecDepth 100000 in
set_option maxHeartbeats 400000 in
theorem appendFolded_any (B : Nat) (v : Value) (xs : List UInt8) (r : Int) (w : World) (hown : Kit.Owns w B  5 v xs) (hB : B ≤ w.heap.size) (hlen : xs.length ≤ 1048576) (hr0 : 0 ≤ r) (hr1 : r ≤ 2147483647) :
    Calls Tryz.prog 59 #[v, .int .i32 r] w fun e w' => ∃ v', e = .returned v' ∧ Kit.Owns w' B  5 v' (xs ++ Pl.foldRune r) ∧ Below B w w' ∧ Lib.OthersKept  5 none w w' := by
  obtain ⟨i0, hi, hz0, hz1, hz2⟩ := info_parts lt_info5
  by_cases h1 : 65 ≤ r ∧ r ≤ 90
  · have hf : Hid (Pl.foldRune r = [UInt8.ofNat r.toNat]) := if_pos h1
    obtain ⟨h1a, h1b⟩ := h1
    go_enter Tryz.func59, Tryz.ntmps59
    go_wp2_with (first
      | (at_builtin; refine wpList_append_own _ rfl _ _ 87 rfl B  5 i0 (.int .u8 0) 1 1 Tryz.underlying87 hi hz0 hz1 hz2 rfl (by decide) _ _ _ rfl (World.ownsRow.alloc hown _) ⟨w.heap.size, 0, none⟩ 1 1 [.int .u8 r] rfl rfl (cell_one_new _ _ _) (fun u hu => by simp at hu; subst hu; rfl) (by unfold maxLen; omega) (by omega) (by simp; omega) ?_; intro v' w1 hown' hgrow _))
    go_ret
    refine ⟨_, rfl, ?_⟩
    rw [hf.out]
    exact Kit.Owns.grown (World.ownsRow.alloc hown _) (by simp; omega) ((Below.refl B w).alloc hB _) ((Lib.OthersKept.refl  5 none w).alloc _) hown' (by simp) (cells_up hr0 (by omega) xs) hgrow
  · by_cases h2 : 97 ≤ r ∧ r ≤ 122
    · have hf : Hid (Pl.foldRune r = [UInt8.ofNat (r - 32).toNat]) := by show _ = _; unfold Pl.foldRune; rw [if_neg h1, if_pos h2]
      obtain ⟨h2a, h2b⟩ := h2
      clear h1
      go_enter Tryz.func59, Tryz.ntmps59
      go_wp2_with (first
        | (at_builtin; refine wpList_append_own _ rfl _ _ 87 rfl B  5 i0 (.int .u8 0) 1 1 Tryz.underlying87 hi hz0 hz1 hz2 rfl (by decide) _ _ _ rfl (World.ownsRow.alloc hown _) ⟨w.heap.size, 0, none⟩ 1 1 [.int .u8 (r - 97 + 65)] rfl rfl (cell_one_new _ _ _) (fun u hu => by simp at hu; subst hu; rfl) (by unfold maxLen; omega) (by omega) (by simp; omega) ?_; intro v' w1 hown' hgrow _))
      go_ret
      refine ⟨_, rfl, ?_⟩
      rw [hf.out]
      exact Kit.Owns.grown (World.ownsRow.alloc hown _) (by simp; omega) ((Below.refl B w).alloc hB _) ((Lib.OthersKept.refl  5 none w).alloc _) hown' (by simp) (by rw [show r - 97 + 65 = r - 32 by omega]; exact cells_up (by omega) (by omega) xs) hgrow
    · have hf : Hid (Pl.foldRune r = Pl.spell r) := by show _ = _; unfold Pl.foldRune; rw [if_neg h1, if_neg h2]
      have hsp := Pl.spell_two r
      have hu9 : Tryz.prog.underlying 9 = some .string := Tryz.underlying9
      have hsz : (⟨(Pl.spell r).toArray⟩ : ByteArray).size = (Pl.spell r).length := by show (Pl.spell r).toArray.size = _; simp
      by_cases g1 : 65 ≤ r
      · have g2 : 90 < r := by omega
        by_cases g3 : 97 ≤ r
        · have g4 : 122 < r := by omega
          clear h1 h2
          go_enter Tryz.func59, Tryz.ntmps59
          go_wp2_with (first
            | (go_at_call 111; refine (spelling_any _ _).mono ?_; rintro e w' ⟨rfl, rfl⟩)
            | (at_builtin; refine Lib.wpList_append_own_string _ rfl _ _ 87 9 rfl B  5 i0 Tryz.underlying87 hu9 hi hz0 hz1 hz2 _ _ _ rfl hown _ rfl (by rw [hsz]; unfold maxLen; omega) (by rw [hsz]; omega) hB ?_; intro v' w1 hown' hgrow _))
          go_ret
          refine ⟨_, rfl, ?_⟩
          rw [hf.out]
          exact Kit.Owns.grown hown hB (Below.refl B _) (Lib.OthersKept.refl  5 none _) hown' (by rw [hsz]; simp) (by rw [Lib.byteCells_append]; rfl) hgrow
        · clear h1 h2
          go_enter Tryz.func59, Tryz.ntmps59
          go_wp2_with (first
            | (go_at_call 111; refine (spelling_any _ _).mono ?_; rintro e w' ⟨rfl, rfl⟩)
            | (at_builtin; refine Lib.wpList_append_own_string _ rfl _ _ 87 9 rfl B  5 i0 Tryz.underlying87 hu9 hi hz0 hz1 hz2 _ _ _ rfl hown _ rfl (by rw [hsz]; unfold maxLen; omega) (by rw [hsz]; omega) hB ?_; intro v' w1 hown' hgrow _))
          go_ret
          refine ⟨_, rfl, ?_⟩
          rw [hf.out]
          exact Kit.Owns.grown hown hB (Below.refl B _) (Lib.OthersKept.refl  5 none _) hown' (by rw [hsz]; simp) (by rw [Lib.byteCells_append]; rfl) hgrow
      · have g3 : ¬ 97 ≤ r := by omega
        clear h1 h2
        go_enter Tryz.func59, Tryz.ntmps59
        go_wp2_with (first
          | (go_at_call 111; refine (spelling_any _ _).mono ?_; rintro e w' ⟨rfl, rfl⟩)
          | (at_builtin; refine Lib.wpList_append_own_string _ rfl _ _ 87 9 rfl B  5 i0 Tryz.underlying87 hu9 hi hz0 hz1 hz2 _ _ _ rfl hown _ rfl (by rw [hsz]; unfold maxLen; omega) (by rw [hsz]; omega) hB ?_; intro v' w1 hown' hgrow _))
        go_ret
        refine ⟨_, rfl, ?_⟩
        rw [hf.out]
        exact Kit.Owns.grown hown hB (Below.refl B _) (Lib.OthersKept.refl  5 none _) hown' (by rw [hsz]; simp) (by rw [Lib.byteCells_append]; rfl) hgrow
end Go.Proofs.YtkohhdkkbaifoaaGreatDoor

/-
  The contract of letters.Fold.
-/
namespace Go.Proofs.YtkohhdkkbaifoaaGreatDoor
open Go.RowKit

set_option maxRecDepth 100000 in
set_option maxHeartbeats 400000 in
theorem fold_much (s : ByteArray) (w : World) (h : 65536 < s.size) :
    Calls Tryz.prog 22 #[.string s] w fun e w' => e = .returned (.tuple #[.string ⟨#[]⟩, .int .i64 4]) ∧ w = w' := by
  go_enter Tryz.func22, Tryz.ntmps22
  go_wp2
  go_ret2
  exact ⟨rfl, rfl⟩

theorem fold_step (s : ByteArray) (pos : Nat) (hp : pos < s.size) (acc : List UInt8) (HS : acc ++ Pl.fold (s.data.toList.drop pos) = Pl.fold s.data.toList) (hacc : acc.length ≤ pos) :
    1 ≤ (Utf8.decode s pos).2 ∧ pos + (Utf8.decode s pos).2 ≤ s.size ∧ (acc ++ Pl.foldRune (Utf8.decode s pos).1) ++ Pl.fold (s.data.toList.drop (pos + (Utf8.decode s pos).2)) = Pl.fold s.data.toList ∧ (acc ++ Pl.foldRune (Utf8.decode s pos).1).length ≤ pos + (Utf8.decode s pos).2 := by
  have hL := Pl.size_len s
  have hne : s.data.toList.drop pos ≠ [] := by
    intro e
    have := congrArg List.length e
    rw [List.length_drop, List.length_nil] at this
    omega
  rw [Pl.decode_eq]
  have h1 := Pl.decL_pos (s.data.toList.drop pos)
  have h2 := Pl.decL_le _ hne
  have h3 := Pl.decL_short (s.data.toList.drop pos)
  have h4 := Pl.fold_drop s.data.toList pos (by omega)
  rw [List.length_drop] at h2
  refine ⟨h1, by omega, ?_, ?_⟩
  · rw [List.append_assoc, ← h4, HS]
  · rw [List.length_append]
    omega

set_option maxRecDepth 100000 in
set_option maxHeartbeats 1000000 in
theorem fold_ok (s : ByteArray) (w : World) (h : s.size ≤ 65536) :
    Calls Tryz.prog 22 #[.string s] w fun e w' => e = .returned (.tuple #[.string ⟨(Pl.fold s.data.toList).toArray⟩, .int .i64 0]) ∧ Below w.heap.size w w' := by
  obtain ⟨i0, hi, hz0, hz1, hz2⟩ := info_parts lt_info5
  have hb : decide (65536 < (s.size : Int)) = false := by simp; omega
  have hL := Pl.size_len s
  have HL : Hid (s.size = s.data.toList.length) := hL
  clear hL
  go_enter Tryz.func22, Tryz.ntmps22
  go_wp2_with (first
    | (at_make; refine wpList_make_own _ rfl _ _ 87 rfl w.heap.size  5 i0 (.int .u8 0) 1 Tryz.underlying87 hi hz0 hz1 _ _ _ s.size rfl rfl rfl (by rw [hz2]; omega) (by unfold maxLen; omega) (Nat.le_refl _) ?_; intro w1 hown1 hgrow1))
  have hlt1 : w.heap.size < w1.heap.size := (World.ownsRow.lt hown1 _ rfl).2
  have hown0 : Kit.Owns (w1.iter s 0) w.heap.size  5 (.slice (some ⟨w.heap.size, 0, none⟩) 0 s.size) [] := World.ownsRow.alloc hown1 _
  have hbel0 : Below w.heap.size w (w1.iter s 0) := ((Below.refl _ w).grown hgrow1 (Nat.le_refl _) (fun k hk => by cases hk)).alloc (by omega) _
  clear hi hz0 hz1 hz2 hown1 hgrow1
  go_loopw [4] (fun v wr => ∃ (pos : Nat) (acc : List UInt8), pos ≤ s.size ∧ wr.heap[w1.heap.size]? = some (.stringIter s pos) ∧ Kit.Owns wr w.heap.size  5 v acc ∧ Below w.heap.size w wr ∧ Hid (acc ++ Pl.fold (s.data.toList.drop pos) = Pl.fold s.data.toList) ∧ acc.length ≤ pos)
    (fun _ wr => s.size - wr.iterPos w1.heap.size)
  case atStart => exact ⟨0, [], Nat.zero_le _, World.iter_heap w1 s 0, hown0, hbel0, rfl, Nat.le_refl _⟩
  case round =>
    obtain ⟨pos, acc, hps, hk, hown, hbel, HS, hacc⟩ := hrel
    clear hown0 hbel0
    have hmu : Hid (wr.iterPos w1.heap.size = pos) := iterPos_of hk
    by_cases hp : pos < s.size
    · have R := fold_step s pos hp acc HS.out hacc
      have hcle := decode_le s pos
      have hnext : ∀ ty, (Instr.next (.pointer (some ⟨w1.heap.size, 0, none⟩)) true ty).run Tryz.prog wr = _ := fun ty => Lib.run_next_any_at wr w1.heap.size s pos ty hk hp
      have hown1 := hown.iterAt hk (pos + (Utf8.decode s pos).2)
      have hk1 := Lib.iterAt_heap wr w1.heap.size s pos (pos + (Utf8.decode s pos).2) hk
      have hbel1 : Below w.heap.size w (wr.iterAt w1.heap.size s (pos + (Utf8.decode s pos).2)) := Lib.below_iterAt hbel (by omega) s _
      generalize wr.iterAt w1.heap.size s (pos + (Utf8.decode s pos).2) = W1 at hnext hown1 hk1 hbel1
      generalize (Utf8.decode s pos).1 = c at R hcle hnext
      generalize (Utf8.decode s pos).2 = n at R hk1
      obtain ⟨r1, r2, r3, r4⟩ := R
      have HR : Hid ((acc ++ Pl.foldRune c) ++ Pl.fold (s.data.toList.drop (pos + n)) = Pl.fold s.data.toList) := r3
      have hBs : w.heap.size ≤ W1.heap.size := hbel1.size
      clear r3 hk hown hbel HS
      go_wp2_with (go_at_call 59; refine (appendFolded_any w.heap.size _ acc _ W1 hown1 hBs (by omega) (by omega) (by omega)).mono ?_; rintro e W2 ⟨v2, rfl, hown2, hbel2, hkept⟩)
      have hk2 := Kit.kept_iter hkept hk1
      go_roundw
      case rel => exact ⟨pos + n, acc ++ Pl.foldRune c, r2, hk2, hown2, hbel1.trans hbel2, HR, r4⟩
      case measure =>
        rw [hmu.out, iterPos_of hk2]
        omega
    · have hnext : ∀ ty, (Instr.next (.pointer (some ⟨w1.heap.size, 0, none⟩)) true ty).run Tryz.prog wr = _ := fun ty => Lib.run_next_end_at wr w1.heap.size s pos ty hk hp
      have hc := Kit.run_string_of_own (P := Tryz.prog) wr 87 9 5 Tryz.underlying87 Tryz.underlying5 Tryz.underlying9 hown
      have e : Hid (acc = Pl.fold s.data.toList) := by
        have h1 := HS.out
        rw [List.drop_of_length_le (by have := HL.out; omega), Pl.fold_nil, List.append_nil] at h1
        exact h1
      clear hown hk HS
      go_wp2
      go_ret2
      exact ⟨by rw [← e.out]; rfl, hbel⟩
end Go.Proofs.YtkohhdkkbaifoaaGreatDoor

/-
  The contract of letters.Group.
-/
namespace Go.Proofs.YtkohhdkkbaifoaaGreatDoor
open Go.RowKit

theorem check_fine (s : ByteArray) (w : World) (h : s.size ≤ 65536) (hl : Pl.Lets s.data.toList) :
    Calls Tryz.prog 38 #[.string s] w fun e w' => e = .returned (.agg #[.int .i64 0, .int .i64 0]) ∧ Below w.heap.size w w' := by
  refine (check_ok s w h).mono ?_
  rintro e w' ⟨rfl, hb⟩
  rw [(chk_none _ (Pl.chk_ok _ hl)).1, (chk_none _ (Pl.chk_ok _ hl)).2]
  exact ⟨rfl, hb⟩

set_option maxRecDepth 100000 in
set_option maxHeartbeats 1000000 in
theorem group_range (s : ByteArray) (L W : Int) (w : World) (h : s.size ≤ 65536) (hl : Pl.Lets s.data.toList) (hr : L < 1 ∨ W < 1) :
    Calls Tryz.prog 23 #[.string s, .int .i64 L, .int .i64 W] w fun e w' => e = .returned (.tuple #[.string ⟨#[]⟩, .agg #[.int .i64 3, .int .i64 0]]) ∧ Below w.heap.size w w' := by
  have hr' : L < 1 ∨ (1 ≤ L ∧ W < 1) := by omega
  clear hr
  rcases hr' with hL | ⟨hL, hW⟩
  all_goals
    go_enter Tryz.func23, Tryz.ntmps23
    go_wp2_with fail
    refine (check_fine s _ h hl).mono ?_
    rintro e w1 ⟨rfl, hb⟩
    have hb1 : Below (w.heap.size + 1) (w.alloc (Obj.cells #[Value.int IntKind.i64 0, Value.int IntKind.i64 0] 35)) w1 := by simpa using hb
    have hz := hb1.size
    simp at hz
    have hb2 := hb1.alloc (by omega) (Obj.cells #[Value.int IntKind.i64 0, Value.int IntKind.i64 0] 35)
    obtain ⟨c0, c1, f0, f1, hsz⟩ := Kit.two_cells hb2
    clear hb
    go_wp2_with fail
    have q := Kit.read_two (.int .i64 3) (.int .i64 0) c0 c1
    refine bodyPost_ret (v := .tuple #[.string ⟨#[]⟩, .agg #[.int .i64 3, .int .i64 0]]) (by simp [results, Tryz.results23, go_sem, q.1, q.2]) rfl ⟨rfl, ?_⟩
    exact (Kit.below_two hb2 _ _)

set_option maxRecDepth 100000 in
set_option maxHeartbeats 2000000 in
theorem group_ok (s : ByteArray) (L W : Int) (w : World) (h : s.size ≤ 65536) (hl : Pl.Lets s.data.toList) (hL : 1 ≤ L) (hW : 1 ≤ W) (hL2 : L ≤ 9223372036854775807) (hW2 : W ≤ 9223372036854775807) :
    Calls Tryz.prog 23 #[.string s, .int .i64 L, .int .i64 W] w fun e w' => e = .returned (.tuple #[.string ⟨(Pl.grp L W s.data.toList s.size).toArray⟩, .agg #[.int .i64 0, .int .i64 0]]) ∧ Below w.heap.size w w' := by
  obtain ⟨i0, hi, hz0, hz1, hz2⟩ := info_parts lt_info5
  have HL : Hid (s.size = s.data.toList.length) := Pl.size_len s
  have hq1 : decide (L < 1) = false := by simp; omega
  have hq2 : decide (W < 1) = false := by simp; omega
  have hq3 : (L == 0) = false := by simp; omega
  go_enter Tryz.func23, Tryz.ntmps23
  go_wp2_with fail
  refine (check_fine s _ h hl).mono ?_
  rintro e w1 ⟨rfl, hb⟩
  have hb1 : Below (w.heap.size + 1) (w.alloc (Obj.cells #[Value.int IntKind.i64 0, Value.int IntKind.i64 0] 35)) w1 := by simpa using hb
  have hz := hb1.size
  simp at hz
  have hb2 := hb1.alloc (by omega) (Obj.cells #[Value.int IntKind.i64 0, Value.int IntKind.i64 0] 35)
  clear hb hl
  go_wp2_with (first
    | (at_make; refine wpList_make_own _ rfl _ _ 87 rfl (w.heap.size + 1) 5 i0 (.int .u8 0) 1 Tryz.underlying87 hi hz0 hz1 _ _ _ (2 * s.size) rfl rfl (by omega) (by rw [hz2]; omega) (by unfold maxLen; omega) (by simp; omega) ?_; intro w2 hown1 hgrow1))
  have hown0 : Kit.Owns w2 (w.heap.size + 1) 5 (.slice (some ⟨w1.heap.size + 1, 0, none⟩) 0 (2 * s.size)) [] := by simpa [Kit.Owns, Lib.byteCells] using hown1
  have hbel0 : Below (w.heap.size + 1) (w.alloc (Obj.cells #[Value.int IntKind.i64 0, Value.int IntKind.i64 0] 35)) w2 := hb2.grown hgrow1 (by simp; omega) (fun k hk => by cases hk)
  clear hown1 hgrow1 hb1 hb2 hz
  go_loopw [9, 30] (fun v i wr => ∃ k : Nat, k ≤ s.size ∧ i = .int .i64 k ∧ Kit.Owns wr (w.heap.size + 1) 5 v (Pl.grp L W s.data.toList k) ∧ Below (w.heap.size + 1) (w.alloc (Obj.cells #[Value.int IntKind.i64 0, Value.int IntKind.i64 0] 35)) wr)
    (fun _ i _ => s.size - (intOf i).toNat)
  case atStart => exact ⟨0, Nat.zero_le _, rfl, hown0, hbel0⟩
  case round =>
    obtain ⟨k, hk, rfl, hown, hbel⟩ := hrel
    clear hown0 hbel0
    obtain ⟨c0, c1, f0, f1, hsz⟩ := Kit.two_cells hbel
    by_cases hlt : k < s.size
    · have hk' : k < s.data.toList.length := by have := HL.out; omega
      have HD : Hid (s.data.toList.getD k 0 = s[k]) := by
        show _ = _
        simp only [List.getD, List.getElem?_eq_getElem hk']
        rfl
      have hle := Pl.grp_le L W s.data.toList k
      have hkB : w.heap.size + 1 ≤ wr.heap.size := by omega
      by_cases hg : 0 < k ∧ (k : Int) % L = 0
      · have HG : Hid (Pl.grp L W s.data.toList (k + 1) = Pl.grp L W s.data.toList k ++ [UInt8.ofNat (if ((k : Int) / L) % W = 0 then 10 else 32 : Int).toNat] ++ [s[k]]) := by
          show _ = _
          rw [Pl.grp, Pl.gapL_yes L W k hg, HD.out]
        obtain ⟨hg1, hg2⟩ := hg
        have hd1 : 0 ≤ (k : Int) / L := Int.ediv_nonneg (by omega) (by omega)
        have hd2 : (k : Int) / L ≤ 1048576 := Int.le_trans (Int.ediv_le_self _ (by omega)) (by omega)
        have hg3 : ((k : Int) % L == 0) = true := by simp [hg2]
        have hg4 : decide (0 < (k : Int)) = true := by simp; omega
        have hG0 : 0 ≤ (if ((k : Int) / L) % W = 0 then 10 else 32 : Int) := by split <;> omega
        have hG1 : (if ((k : Int) / L) % W = 0 then 10 else 32 : Int) < 256 := by split <;> omega
        generalize Pl.grp L W s.data.toList k = acc at hown hle HG
        go_wp2_with fail
        refine (gapAhead_any _ _ _ hd1 hW hd2 hW2).mono ?_
        rintro e w3 ⟨rfl, rfl⟩
        generalize (if ((k : Int) / L) % W = 0 then 10 else 32 : Int) = G at hG0 hG1 HG
        go_wp2_with (first
          | (at_builtin
             refine wpList_append_own _ rfl (.tmp 41) (.tmp 47) 87 rfl (w.heap.size + 1) 5 i0 (.int .u8 0) 1 1 Tryz.underlying87 hi hz0 hz1 hz2 rfl (by decide) _ _ _ rfl (World.ownsRow.alloc hown _) ⟨wr.heap.size, 0, none⟩ 1 1 [.int .u8 G] rfl rfl (cell_one_new _ _ _) (fun u hu => by simp at hu; subst hu; rfl) (by unfold maxLen; omega) (by omega) (by simp; omega) ?_
             intro v' w4 hown' hgrow _
             obtain ⟨hown2, hbel2⟩ := Kit.Owns.grownB (w := w.alloc (Obj.cells #[Value.int IntKind.i64 0, Value.int IntKind.i64 0] 35)) (m := [UInt8.ofNat G.toNat]) (World.ownsRow.alloc hown _) (by simp; omega) (hbel.alloc hkB _) hown' (by simp) (cells_up hG0 hG1 acc) hgrow
             have hkB2 : w.heap.size + 1 ≤ w4.heap.size := by have := hbel2.size; simp at this; omega
             have hle2 : (acc ++ [UInt8.ofNat G.toNat]).length ≤ 2 * k + 1 := by simp; omega
             generalize acc ++ [UInt8.ofNat G.toNat] = acc2 at hown2 hle2 HG
             clear hown hbel hown' hgrow c0 c1 f0 f1)
          | (at_builtin; refine wpList_append_own _ rfl (.tmp 49) (.tmp 53) 87 rfl (w.heap.size + 1) 5 i0 (.int .u8 0) 1 1 Tryz.underlying87 hi hz0 hz1 hz2 rfl (by decide) _ _ _ rfl (World.ownsRow.alloc hown2 _) ⟨w4.heap.size, 0, none⟩ 1 1 [.int .u8 (s[k].toNat : Int)] rfl rfl (cell_one_new _ _ _) (fun u hu => by simp at hu; subst hu; rfl) (by unfold maxLen; omega) (by omega) (by simp; omega) ?_; intro v5 w5 hown5 hgrow5 _))
        have G2 := Kit.Owns.grownB (w := w.alloc (Obj.cells #[Value.int IntKind.i64 0, Value.int IntKind.i64 0] 35)) (m := [s[k]]) (World.ownsRow.alloc hown2 _) (by simp; omega) (hbel2.alloc hkB2 _) hown5 (by simp) (by simp [Lib.byteCells]) hgrow5
        exact ⟨⟨k + 1, by omega, by go_num, by rw [HG.out]; exact G2.1, G2.2⟩, by simp [intOf]; omega⟩
      · have HG : Hid (Pl.grp L W s.data.toList (k + 1) = Pl.grp L W s.data.toList k ++ [s[k]]) := by
          show _ = _
          rw [Pl.grp, Pl.gapL_no L W k hg, HD.out, List.append_nil]
        generalize Pl.grp L W s.data.toList k = acc at hown hle HG
        by_cases hk0 : 0 < k
        · have hg3 : ((k : Int) % L == 0) = false := by
            simp
            intro e
            exact hg ⟨hk0, e⟩
          have hg4 : decide (0 < (k : Int)) = true := by simp; omega
          clear hg
          go_wp2_with (first
            | (at_builtin; refine wpList_append_own _ rfl (.tmp 49) (.tmp 53) 87 rfl (w.heap.size + 1) 5 i0 (.int .u8 0) 1 1 Tryz.underlying87 hi hz0 hz1 hz2 rfl (by decide) _ _ _ rfl (World.ownsRow.alloc hown _) ⟨wr.heap.size, 0, none⟩ 1 1 [.int .u8 (s[k].toNat : Int)] rfl rfl (cell_one_new _ _ _) (fun u hu => by simp at hu; subst hu; rfl) (by unfold maxLen; omega) (by omega) (by simp; omega) ?_; intro v5 w5 hown5 hgrow5 _))
          have G2 := Kit.Owns.grownB (w := w.alloc (Obj.cells #[Value.int IntKind.i64 0, Value.int IntKind.i64 0] 35)) (m := [s[k]]) (World.ownsRow.alloc hown _) (by simp; omega) (hbel.alloc hkB _) hown5 (by simp) (by simp [Lib.byteCells]) hgrow5
          exact ⟨⟨k + 1, by omega, by go_num, by rw [HG.out]; exact G2.1, G2.2⟩, by simp [intOf]; omega⟩
        · have hg4 : decide (0 < (k : Int)) = false := by simp; omega
          clear hg
          go_wp2_with (first
            | (at_builtin; refine wpList_append_own _ rfl (.tmp 49) (.tmp 53) 87 rfl (w.heap.size + 1) 5 i0 (.int .u8 0) 1 1 Tryz.underlying87 hi hz0 hz1 hz2 rfl (by decide) _ _ _ rfl (World.ownsRow.alloc hown _) ⟨wr.heap.size, 0, none⟩ 1 1 [.int .u8 (s[k].toNat : Int)] rfl rfl (cell_one_new _ _ _) (fun u hu => by simp at hu; subst hu; rfl) (by unfold maxLen; omega) (by omega) (by simp; omega) ?_; intro v5 w5 hown5 hgrow5 _))
          have G2 := Kit.Owns.grownB (w := w.alloc (Obj.cells #[Value.int IntKind.i64 0, Value.int IntKind.i64 0] 35)) (m := [s[k]]) (World.ownsRow.alloc hown _) (by simp; omega) (hbel.alloc hkB _) hown5 (by simp) (by simp [Lib.byteCells]) hgrow5
          exact ⟨⟨k + 1, by omega, by go_num, by rw [HG.out]; exact G2.1, G2.2⟩, by simp [intOf]; omega⟩
    · have hstr := Kit.run_string_of_own (P := Tryz.prog) wr 87 9 5 Tryz.underlying87 Tryz.underlying5 Tryz.underlying9 hown
      have hkk : k = s.size := by omega
      subst hkk
      have q := Kit.read_two (.int .i64 0) (.int .i64 0) c0 c1
      have hbf := Kit.below_two hbel (.int .i64 0) (.int .i64 0)
      generalize hF : Pl.grp L W s.data.toList s.size = F at hstr hown
      have HF : Hid (Pl.grp L W s.data.toList s.size = F) := hF
      clear hown hF
      go_wp2
      refine bodyPost_ret (v := .tuple #[.string ⟨F.toArray⟩, .agg #[.int .i64 0, .int .i64 0]]) (by simp [results, Tryz.results23, go_sem, q.1, q.2]) rfl ⟨by rw [HF.out], hbf⟩
end Go.Proofs.YtkohhdkkbaifoaaGreatDoor
