/-
  Contract of the document's Places (chapter 10).
-/
import Derived.Test.YtigamiehnjipcaaBoSm
import Derived.Test.YtigamiehnjipcaaORWt
namespace Go.Proofs.Ytigamiehnjipcaa
open Go.RowKit PK Vg

set_option maxRecDepth 100000 in
set_option maxHeartbeats 2000000 in
theorem rplaces_bad1 (t c : ByteArray) (E A : Int) (hE : (E != 0) = true) (w : World) (HT : Hid (∀ W, Calls Try.prog 37 #[.string t] W fun e w' => e = .returned (.agg #[.int .i64 E, .int .i64 A]) ∧ Below W.heap.size W w')) : Calls Try.prog 17 #[.string t, .string c] w fun e w' => e = .returned (.tuple #[.slice none 0 0, .agg #[.int .i64 E, .int .i64 A]]) ∧ Below w.heap.size w w' := by
  go_enter Try.func17, Try.ntmps17
  go_wp2_with fail
  refine (HT.out _).mono ?_
  rintro e W1 ⟨rfl, hb⟩
  have hb1 : Below (w.heap.size + 1) (w.alloc (.cells #[.int .i64 0, .int .i64 0] 39)) W1 := by simpa using hb
  have hz := hb1.size
  simp at hz
  have hb2 := hb1.alloc (by omega) (.cells #[.int .i64 E, .int .i64 A] 39)
  clear hb
  obtain ⟨c0, c1, f0, f1, hsz⟩ := Kit.two_cells hb2
  clear HT hb1
  go_wp2_with fail
  go_region
  all_goals (try go_wp2)
  have q := Kit.read_two (.int .i64 E) (.int .i64 A) c0 c1
  refine bodyPost_ret (v := .tuple #[.slice none 0 0, .agg #[.int .i64 E, .int .i64 A]]) (by simp [results, Try.results17, go_sem, q.1, q.2]) rfl ⟨rfl, ?_⟩
  exact (Kit.below_two hb2 _ _).drew
set_option maxRecDepth 100000 in
set_option maxHeartbeats 2000000 in
theorem rplaces_bad2 (t c : ByteArray) (E A : Int) (hE : (E != 0) = true) (w : World) (HT : Hid (∀ W, Calls Try.prog 37 #[.string t] W fun e w' => e = .returned (.agg #[.int .i64 0, .int .i64 0]) ∧ Below W.heap.size W w')) (HC : Hid (∀ W, Calls Try.prog 37 #[.string c] W fun e w' => e = .returned (.agg #[.int .i64 E, .int .i64 A]) ∧ Below W.heap.size W w')) : Calls Try.prog 17 #[.string t, .string c] w fun e w' => e = .returned (.tuple #[.slice none 0 0, .agg #[.int .i64 E, .int .i64 A]]) ∧ Below w.heap.size w w' := by
  go_enter Try.func17, Try.ntmps17
  go_wp2_with fail
  refine (HT.out _).mono ?_
  rintro e W1 ⟨rfl, hb⟩
  have hb1 : Below (w.heap.size + 1) (w.alloc (.cells #[.int .i64 0, .int .i64 0] 39)) W1 := by simpa using hb
  have hz := hb1.size
  simp at hz
  have hb2 := hb1.alloc (by omega) (.cells #[.int .i64 0, .int .i64 0] 39)
  clear hb HT hb1
  go_wp2_with fail
  refine (HC.out _).mono ?_
  rintro e W2 ⟨rfl, hb⟩
  have hb3 := hb2.trans (hb.mono (by have := hb2.size; simp at this ⊢; omega))
  have hb4 := hb3.alloc (by have := hb3.size; simp at this; omega) (.cells #[.int .i64 E, .int .i64 A] 39)
  clear hb hb2 hb3 HC
  obtain ⟨c0, c1, f0, f1, hsz⟩ := Kit.two_cells hb4
  go_wp2_with fail
  go_region
  all_goals (try go_wp2)
  have q := Kit.read_two (.int .i64 E) (.int .i64 A) c0 c1
  refine bodyPost_ret (v := .tuple #[.slice none 0 0, .agg #[.int .i64 E, .int .i64 A]]) (by simp [results, Try.results17, go_sem, q.1, q.2]) rfl ⟨rfl, ?_⟩
  exact (Kit.below_two hb4 _ _).drew

set_option maxRecDepth 100000 in
set_option maxHeartbeats 4000000 in
theorem rplaces_ok (t c : ByteArray) (ht : t.size ≤ 65536) (hc : c.size ≤ 65536) (w : World) (HT : Hid (∀ W, Calls Try.prog 37 #[.string t] W fun e w' => e = .returned (.agg #[.int .i64 0, .int .i64 0]) ∧ Below W.heap.size W w')) (HC : Hid (∀ W, Calls Try.prog 37 #[.string c] W fun e w' => e = .returned (.agg #[.int .i64 0, .int .i64 0]) ∧ Below W.heap.size W w')) : Calls Try.prog 17 #[.string t, .string c] w fun e w' => ∃ v, e = .returned (.tuple #[v, .agg #[.int .i64 0, .int .i64 0]]) ∧ OwnsN w' (w.heap.size + 1) v (plTo t.data.toList c.data.toList (plN t.data.toList c.data.toList)) ∧ Below w.heap.size w w' := by
  obtain ⟨i0, hi0, hz0, hz1, hz2⟩ := info_parts info_int3
  have HPN : Hid (plN t.data.toList c.data.toList = t.size + 1 - c.size) := by unfold plN; rw [Hid, Pl.size_len t, Pl.size_len c]
  go_enter Try.func17, Try.ntmps17
  go_wp2_with fail
  refine (HT.out _).mono ?_
  rintro e W1 ⟨rfl, hb⟩
  have hb1 : Below (w.heap.size + 1) (w.alloc (.cells #[.int .i64 0, .int .i64 0] 39)) W1 := by simpa using hb
  have hz := hb1.size
  simp at hz
  have hb2 := hb1.alloc (by omega) (.cells #[.int .i64 0, .int .i64 0] 39)
  clear hb HT hb1 hz
  go_wp2_with fail
  refine (HC.out _).mono ?_
  rintro e W2 ⟨rfl, hb⟩
  have hb3 := hb2.trans (hb.mono (by have := hb2.size; simp at this ⊢; omega))
  have hb4 := hb3.alloc (by have := hb3.size; simp at this; omega) (.cells #[.int .i64 0, .int .i64 0] 39)
  clear hb hb2 hb3 HC
  go_upto_region 8 with fail
  generalize W2.alloc (.cells #[.int .i64 0, .int .i64 0] 39) = V at *
  have hsz := (Kit.two_cells hb4).2.2.2.2
  have HVZ : Hid ((w.alloc (.cells #[.int .i64 0, .int .i64 0] 39)).heap.size = w.heap.size + 1) := by simp [Hid]
  obtain ⟨w1, hw1⟩ : ∃ x, x = w.alloc (.cells #[.int .i64 0, .int .i64 0] 39) := ⟨_, rfl⟩
  rw [← hw1] at hb4 HVZ
  have HW1 := (show Hid _ from hw1)
  clear hw1

  obtain ⟨n, hn⟩ : ∃ n, n = t.size + 1 - c.size := ⟨_, rfl⟩
  have HNE := (show Hid _ from hn)
  rw [← hn] at HPN
  have hn2 : n ≤ 65537 := by omega
  have HLC : Hid (c.size = c.data.toList.length) := Pl.size_len c
  clear hn
  go_wp2_with fail
  go_loopw [8, 9] (fun o i W => ∃ (k : Nat) (v : Value), k ≤ n ∧ i = .int .i64 (k : Nat) ∧ v = o ∧ OwnsN W (w.heap.size + 1) v (plTo t.data.toList c.data.toList k) ∧ Below (w.heap.size + 1) w1 W) (fun _ i _ => ((n : Int) - intOf i).toNat)
  case atStart => exact ⟨0, _, by omega, rfl, rfl, World.ownsRow_nil _ _ _ _, hb4⟩
  case round =>
    clear hb4
    obtain ⟨k, v, hk, rfl, rfl, hown, hbe⟩ := hrel
    have hln := plTo_len t.data.toList c.data.toList k
    have hbz := hbe.size
    have HBX := (show Hid _ from hbe)
    have HOWN := (show Hid _ from hown)
    by_cases hlt : k < n
    · have HLT : Hid (k < n) := hlt
      have hlt2 : (k : Int) ≤ (t.size : Int) - (c.size : Int) := by have := HNE.out; omega
      have hkt : k + c.size ≤ t.size := by omega
      have hcv := fun w => Lib.run_convert_string_bytes (P := Try.prog) w 9 59 5 c Try.underlying9 Try.underlying59 Try.underlying5
      clear hlt
      go_wp2_with fail
      have hbB : Below wr.heap.size wr (Lib.bytesWorld wr 5 c) := below_bytes wr (Nat.le_refl _) 5 c
      have hownB := own_stepN hown hbB
      have hbeB := hbe.trans (hbB.mono (by rw [← HVZ.out]; exact hbe.size))
      generalize Lib.bytesWorld wr 5 c = V2 at *
      clear hcv hbB hown hbe HBX HOWN hbz
      go_loopw [10, 36] (fun f i W => ∃ (j : Nat) (b : Bool), j ≤ c.size ∧ i = .int .i64 (j : Nat) ∧ f = .bool b ∧ (b = true → ∀ q, q < j → t.data.toList.getD (k + q) 0 ≠ c.data.toList.getD q 0) ∧ (b = false → mt t.data.toList c.data.toList k = true) ∧ OwnsN W (w.heap.size + 1) v (plTo t.data.toList c.data.toList k) ∧ Below (w.heap.size + 1) w1 W) (fun _ i _ => ((c.size : Int) - intOf i).toNat)
      case atStart => exact ⟨0, true, by omega, rfl, rfl, fun _ q hq => by omega, (fun h => by cases h), hownB, hbeB⟩
      case round =>
        clear hownB hbeB
        obtain ⟨j, b, hj, rfl, rfl, hf0, hf1, hown, hbe⟩ := hrel
        have HBX := (show Hid _ from hbe)
        have HOWN := (show Hid _ from hown)
        have hz5 : w.heap.size + 1 ≤ wr.heap.size := by rw [← HVZ.out]; exact hbe.size
        by_cases hlt : j < c.size
        · have HLJ : Hid (j < c.size) := hlt
          have hl1 : (j : Int) < (c.size : Int) := by omega
          have hl2 : (k : Int) + (j : Int) < (t.size : Int) := by omega
          have hl4 : k + j < t.size := by omega
          have hl5 : ((k : Int) + (j : Int)).toNat = k + j := by omega
          have hl6 : ¬ (k : Int) + (j : Int) < 0 := by omega
          have hx := (getD_byte t (k + j) hl4).symm
          have hy := (getD_byte c j hlt).symm
          have HF1 := (show Hid _ from hf1)
          have HNX : Hid (b = true → t.data.toList.getD (k + j) 0 ≠ c.data.toList.getD j 0 → ∀ q, q < j + 1 → t.data.toList.getD (k + q) 0 ≠ c.data.toList.getD q 0) := fun hb h q hq => by
            by_cases e : q = j
            · rw [e]; exact h
            · exact hf0 hb q (by omega)
          have HYES : Hid (t.data.toList.getD (k + j) 0 = c.data.toList.getD j 0 → mt t.data.toList c.data.toList k = true) := fun h => mt_true (i := j) (by rw [← HLC.out]; exact HLJ.out) h
          generalize t.data.toList.getD (k + j) 0 = x at *
          generalize c.data.toList.getD j 0 = y at *
          clear hown hbe hf0 hf1
          cases b
          · clear hx hy hl2 hl5 hl6
            go_upto_region 15 with fail
            go_quiet (fail)
            go_wp2
            go_roundw
            case rel => exact ⟨j + 1, false, HLJ.out, by go_num, rfl, (fun h => by cases h), HF1.out, HOWN.out, HBX.out.trans ⟨rfl, rfl, rfl, Nat.le_refl _, fun _ _ => rfl⟩⟩
            case measure => have := HLJ.out; simp [intOf]; omega
          · by_cases hxy : x = y
            · subst hxy
              have HT := (show Hid _ from HYES.out rfl)
              have hb : (((x.toNat : Nat) : Int) != ((x.toNat : Nat) : Int)) = false := by simp
              clear HYES HNX HF1
              go_upto_region 15 with fail
              go_quiet (fail)
              go_wp2
              go_roundw
              case rel => exact ⟨j + 1, false, HLJ.out, by go_num, rfl, (fun h => by cases h), (fun _ => HT.out), HOWN.out, HBX.out.trans ⟨rfl, rfl, rfl, Nat.le_refl _, fun _ _ => rfl⟩⟩
              case measure => have := HLJ.out; simp [intOf]; omega
            · have HNN := (show Hid _ from HNX.out rfl hxy)
              have hb : (((x.toNat : Nat) : Int) != ((y.toNat : Nat) : Int)) = true := by have := byte_ne hxy; simp at this ⊢; exact this
              clear HYES HNX hxy HF1
              go_upto_region 15 with fail
              go_quiet (fail)
              go_wp2
              go_roundw
              case rel => exact ⟨j + 1, true, HLJ.out, by go_num, rfl, (fun _ => HNN.out), (fun h => by cases h), HOWN.out, HBX.out.trans ⟨rfl, rfl, rfl, Nat.le_refl _, fun _ _ => rfl⟩⟩
              case measure => have := HLJ.out; simp [intOf]; omega
        · obtain rfl : j = c.size := by omega
          have hnn : ¬ ((c.size : Nat) : Int) < ((c.size : Nat) : Int) := by omega
          clear hlt HBX HOWN
          cases b
          · have HPL : Hid (plTo t.data.toList c.data.toList (k + 1) = plTo t.data.toList c.data.toList k) := plTo_no (hf1 rfl)
            clear hf0 hf1
            go_wp2
            go_roundw
            case rel => exact ⟨k + 1, v, HLT.out, by go_num, rfl, by rw [HPL.out]; exact hown, hbe⟩
            case measure => have := HLT.out; simp [intOf]; omega
          · have HPL : Hid (plTo t.data.toList c.data.toList (k + 1) = plTo t.data.toList c.data.toList k ++ [k]) := plTo_yes (mt_false fun i hi => hf0 rfl i (by rw [HLC.out]; exact hi))
            clear hf0 hf1
            generalize plTo t.data.toList c.data.toList k = L at *
            go_wp2_with (first | (at_builtin; refine wpList_append_own _ rfl _ _ 23 rfl (w.heap.size + 1) 3 i0 (.int .i64 0) 1 8 Try.underlying23 hi0 hz0 hz1 hz2 rfl (by decide) _ _ _ rfl (World.ownsRow.alloc hown _) ⟨wr.heap.size, 0, none⟩ 1 1 [.int .i64 (k : Nat)] rfl rfl (cell_one_new _ _ _) (fun u hu => by simp at hu; subst hu; rfl) (by unfold maxLen; omega) (by omega) (by simp; omega) ?_; intro v' w1' hown' hgrow _))
            go_roundw
            case rel =>
              refine ⟨k + 1, v', HLT.out, by go_num, rfl, ?_, ?_⟩
              · rw [HPL.out, OwnsN, nums_append, List.length_append]
                exact hown'
              · exact (hbe.alloc (by omega) _).grown hgrow (by simp; omega) (fun j hj => by have := (World.ownsRow.lt hown j hj).1; omega)
            case measure => have := HLT.out; simp [intOf]; omega
    · obtain rfl : k = n := by omega
      have hnn : ¬ ((k : Nat) : Int) ≤ (t.size : Int) - (c.size : Int) := by have := HNE.out; omega
      have HKN : Hid (k = plN t.data.toList c.data.toList) := HPN.out.symm
      clear hlt hown hbe

      have hbx := HBX.out
      rw [HW1.out] at hbx
      obtain ⟨c0, c1, f0, f1, hsz⟩ := Kit.two_cells hbx
      obtain ⟨av, cv, hev⟩ := own_slice' HOWN.out
      have HEV := (show Hid _ from hev)
      clear hev hsz hbx
      go_wp2
      have q := Kit.read_two (.int .i64 0) (.int .i64 0) c0 c1
      have hbx := HBX.out
      rw [HW1.out] at hbx
      refine bodyPost_ret (v := .tuple #[v, .agg #[.int .i64 0, .int .i64 0]]) (by simp [results, Try.results17, go_sem, q.1, q.2]) rfl ⟨v, rfl, ?_, Kit.below_two hbx _ _⟩
      rw [← HKN.out]
      exact own_two HOWN.out

theorem rplaces_any (t c : ByteArray) (w : World) : Calls Try.prog 17 #[.string t, .string c] w fun e w' => ∃ v, e = .returned (.tuple #[v, .agg #[.int .i64 (plE t.data.toList c.data.toList), .int .i64 (plAt t.data.toList c.data.toList)]]) ∧ OwnsN w' (w.heap.size + 1) v (plL t.data.toList c.data.toList) ∧ Below w.heap.size w w' := by
  have HT := fun W => rcheck_all t W
  have HC := fun W => rcheck_all c W
  have s1 := Pl.size_len t
  have s2 := Pl.size_len c
  unfold plE plAt plL plE
  rcases ck_cases t.data.toList with ⟨e1, e2, e3, _⟩ | h1
  · rw [e1, e2] at HT
    rcases ck_cases c.data.toList with ⟨d1, d2, d3, _⟩ | h2
    · rw [d1, d2] at HC
      simp only [e1, e2, d1, d2, ne_eq, not_true_eq_false, if_false]
      exact rplaces_ok t c (by omega) (by omega) w HT HC
    · have h3 : ckE c.data.toList ≠ 0 := by simpa using h2
      simp only [e1, e2, h3, ne_eq, not_true_eq_false, not_false_eq_true, if_true, if_false]
      exact (rplaces_bad2 t c _ _ h2 w HT HC).mono fun e w' h => ⟨_, h.1, World.ownsRow_nil _ _ _ _, h.2⟩
  · have h3 : ckE t.data.toList ≠ 0 := by simpa using h1
    simp only [h3, ne_eq, not_false_eq_true, if_true]
    exact (rplaces_bad1 t c _ _ h1 w HT).mono fun e w' h => ⟨_, h.1, World.ownsRow_nil _ _ _ _, h.2⟩
end Go.Proofs.Ytigamiehnjipcaa
