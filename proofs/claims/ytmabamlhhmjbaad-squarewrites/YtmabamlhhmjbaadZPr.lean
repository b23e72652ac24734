/-
  Contract of square.Pairs.
-/
import Derived.Test.YtmabamlhhmjbaadZSmall
import Derived.BigRegion
namespace Go.Proofs.Ytmabamlhhmjbaad
open Go.RowKit PK Vg Zq

/-- What Pairs says of a text. -/
def prE (t : List UInt8) : Int := if ckE t ≠ 0 then ckE t else if 65536 < (prs (t.map jI)).length then 4 else 0
def prAt (t : List UInt8) : Int := if ckE t ≠ 0 then ckAt t else 0
def prS (t : List UInt8) : List UInt8 := if ckE t ≠ 0 then [] else if 65536 < (prs (t.map jI)).length then [] else prs (t.map jI)
theorem cells_pair (l : List UInt8) (a b : UInt8) : Lib.byteCells l ++ [.int .u8 (a.toNat : Int), .int .u8 (b.toNat : Int)] = Lib.byteCells (l ++ [a, b]) := by simp [Lib.byteCells]
theorem cells_new (w : World) (cs : Array Value) (T : TypeId) : ∀ j u, cs.toList[j]? = some u → (w.alloc (.cells cs T)).cell? ((⟨w.heap.size, 0, none⟩ : Addr).add j) = some u := fun j u h => by rw [addr_add]; exact (RowAt.new w T cs).cell (by simpa using h)
set_option maxRecDepth 100000 in
set_option maxHeartbeats 4000000 in
theorem zpr_bad (t : ByteArray) (hE : (ckE t.data.toList != 0) = true) (w : World) : Calls Try.prog 20 #[.string t] w fun e w' => e = .returned (.tuple #[.string ⟨#[]⟩, .agg #[.int .i64 (ckE t.data.toList), .int .i64 (ckAt t.data.toList)]]) ∧ Below w.heap.size w w' := by
  have HT := (show Hid (∀ W, Calls Try.prog 27 #[.string t] W fun e w' => e = .returned (.agg #[.int .i64 (ckE t.data.toList), .int .i64 (ckAt t.data.toList)]) ∧ Below W.heap.size W w') from fun W => check_all t W)
  generalize ckE t.data.toList = E at *
  generalize ckAt t.data.toList = A at *
  go_enter Try.func20, Try.ntmps20
  go_wp2_with fail
  refine (HT.out _).mono ?_
  rintro e W1 ⟨rfl, hb⟩
  have hb1 : Below (w.heap.size + 1) (w.alloc (.cells #[.int .i64 0, .int .i64 0] 25)) W1 := by simpa using hb
  have hz := hb1.size
  simp at hz
  have hb2 := hb1.alloc (by omega) (.cells #[.int .i64 E, .int .i64 A] 25)
  clear hb
  obtain ⟨c0, c1, f0, f1, hsz⟩ := Kit.two_cells hb2
  clear HT hb1
  go_wp2_with fail
  go_region
  all_goals (try go_wp2)
  have q := Kit.read_two (.int .i64 E) (.int .i64 A) c0 c1
  refine bodyPost_ret (v := .tuple #[.string ⟨#[]⟩, .agg #[.int .i64 E, .int .i64 A]]) (by simp [results, Try.results20, go_sem, q.1, q.2]) rfl ⟨rfl, ?_⟩
  exact (Kit.below_two hb2 _ _).drew
set_option maxRecDepth 100000 in
set_option maxHeartbeats 4000000 in
theorem zpr_ok (t : ByteArray) (hE : ckE t.data.toList = 0) (hA : ckAt t.data.toList = 0) (hs : t.size ≤ 65536) (R : ByteArray) (E : Int) (HR : Hid (R = ⟨(if 65536 < (prs (t.data.toList.map jI)).length then [] else prs (t.data.toList.map jI)).toArray⟩)) (HRE : Hid (E = if 65536 < (prs (t.data.toList.map jI)).length then 4 else 0)) (w : World) : Calls Try.prog 20 #[.string t] w fun e w' => e = .returned (.tuple #[.string R, .agg #[.int .i64 E, .int .i64 0]]) ∧ Below w.heap.size w w' := by
  have HT := (show Hid (∀ W, Calls Try.prog 27 #[.string t] W fun e w' => e = .returned (.agg #[.int .i64 0, .int .i64 0]) ∧ Below W.heap.size W w') from fun W => by have := check_all t W; rw [hE, hA] at this; exact this)
  obtain ⟨i0, hi0, hz0, hz1, hz2⟩ := x_info_parts v_info_byte
  have HTS : Hid (t.size = t.data.toList.length) := Pl.size_len t
  have HML : Hid ((t.data.toList.map jI).length = t.size) := by rw [Hid, List.length_map]; exact (Pl.size_len t).symm
  clear hE hA
  go_enter Try.func20, Try.ntmps20
  go_wp2_with fail
  refine (HT.out _).mono ?_
  rintro e W1 ⟨rfl, hb⟩
  have hb1 : Below (w.heap.size + 1) (w.alloc (.cells #[.int .i64 0, .int .i64 0] 25)) W1 := by simpa using hb
  have hz := hb1.size
  simp at hz
  have hb2 := hb1.alloc (by omega) (.cells #[.int .i64 0, .int .i64 0] 25)
  clear hb HT hb1
  obtain ⟨V, hV⟩ : ∃ V, V = W1.alloc (.cells #[.int .i64 0, .int .i64 0] 25) := ⟨_, rfl⟩
  have hVs : w.heap.size + 1 ≤ V.heap.size := by rw [hV]; simp; omega
  have HV1 : Hid (V.heap.size = W1.heap.size + 1) := by rw [hV]; simp [Hid]
  rw [← hV] at hb2
  go_wp2_with (first | (at_make; rw [← hV]; refine wpList_make_own _ rfl _ _ 43 rfl V.heap.size 5 i0 (.int .u8 0) 1 Try.underlying43 hi0 hz0 hz1 _ _ _ (t.size + 1) rfl rfl (by omega) (by rw [hz2]; omega) (by unfold maxLen; omega) (Nat.le_refl _) ?_; intro w1 hown1 hgrow1))
  have hown0 : Kit.Owns w1 V.heap.size 5 (.slice (some ⟨W1.heap.size + 1, 0, none⟩) 0 (t.size + 1)) [] := by rw [HV1.out] at hown1 ⊢; exact hown1
  have hb0 : Below V.heap.size V w1 := (Below.refl _ _).grown hgrow1 (Nat.le_refl _) (fun k hk => by cases hk)
  clear hown1 hgrow1 hV
  go_loopw [5, 6] (fun o i W => ∃ (k : Nat) (v : Value) (l : List UInt8), k ≤ t.size ∧ i = .int .i64 (k : Nat) ∧ v = o ∧ Kit.Owns W V.heap.size 5 v l ∧ Hid (l ++ prs ((t.data.toList.map jI).drop k) = prs (t.data.toList.map jI)) ∧ Hid (l.length ≤ 2 * k) ∧ Below V.heap.size V W) (fun _ i _ => ((t.size : Int) - intOf i).toNat)
  case atStart => exact ⟨0, _, [], by omega, rfl, rfl, hown0, rfl, Nat.le_refl _, hb0⟩
  case round =>
    clear hown0 hb0
    obtain ⟨k, v, l, hk, rfl, rfl, hown, HP, HLL, hbv⟩ := hrel
    have hzv := hbv.size
    by_cases hlt : k < t.size
    · have hlt2 : (k : Int) < (t.size : Int) := by omega
      have hix := (getD_byte t k hlt).symm
      have HG := (show Hid ((t.data.toList.map jI).getD k 0 = jI (t.data.toList.getD k 0)) from map_getD (getD_size hlt))
      have HW := (show Hid (∀ W, Calls Try.prog 39 #[.int .u8 (t.data.toList.getD k 0).toNat] W fun e w' => e = .returned (.int .u8 (jI (t.data.toList.getD k 0)).toNat) ∧ W = w') from written_any _)
      have HF := (show Hid (∀ W, Calls Try.prog 40 #[.int .u8 (jI (t.data.toList.getD k 0)).toNat] W fun e w' => e = .returned (.int .u8 (fil (jI (t.data.toList.getD k 0))).toNat) ∧ W = w') from filler_any _)
      generalize t.data.toList.getD k 0 = x at *
      by_cases hlt1 : k + 1 < t.size
      · have hlt3 : (k : Int) + 1 < (t.size : Int) := by omega
        have hlt4 : ¬ ((k : Int) + 1 < 0) := by omega
        have hlt5 : (0 : Int) ≤ (k : Int) + 1 := by omega
        have hiy := (getD_byte t (k + 1) hlt1).symm
        have HG2 := (show Hid ((t.data.toList.map jI).getD (k + 1) 0 = jI (t.data.toList.getD (k + 1) 0)) from map_getD (getD_size hlt1))
        have HY := (show Hid (∀ W, Calls Try.prog 39 #[.int .u8 (t.data.toList.getD (k + 1) 0).toNat] W fun e w' => e = .returned (.int .u8 (jI (t.data.toList.getD (k + 1) 0)).toNat) ∧ W = w') from written_any _)
        generalize t.data.toList.getD (k + 1) 0 = y at *
        by_cases hxy : jI y = jI x
        · have HS : Hid (prs ((t.data.toList.map jI).drop k) = [jI x, fil (jI x)] ++ prs ((t.data.toList.map jI).drop (k + 1))) := by
            have := prs_one (u := t.data.toList.map jI) (i := k) (by rw [HML.out]; omega) (fun _ => by rw [HG.out, HG2.out]; exact hxy)
            rw [HG.out] at this
            exact this
          rw [hxy] at HY
          have hne : (((jI x).toNat : Int) != ((jI x).toNat : Int)) = false := by simp
          clear hxy HG HG2
          generalize jI x = a at *
          generalize fil a = b at *
          go_wp2_with fail
          refine (HW.out _).mono ?_
          rintro e Y ⟨rfl, rfl⟩
          go_wp2_with fail
          refine (HF.out _).mono ?_
          rintro e Y ⟨rfl, rfl⟩
          go_wp2_with fail
          refine (HY.out _).mono ?_
          rintro e Y ⟨rfl, rfl⟩
          go_wp2_with (first | (at_builtin; refine wpList_append_own _ rfl _ _ 43 rfl V.heap.size 5 i0 (.int .u8 0) 1 1 Try.underlying43 hi0 hz0 hz1 hz2 rfl (by decide) _ _ _ rfl (World.ownsRow.alloc hown _) ⟨wr.heap.size, 0, none⟩ 2 2 [.int .u8 ((a).toNat : Int), .int .u8 ((b).toNat : Int)] rfl rfl (cells_new _ #[.int .u8 ((a).toNat : Int), .int .u8 ((b).toNat : Int)] _) (fun u hu => by simp at hu; rcases hu with rfl | rfl <;> rfl) (by have := HLL.out; unfold maxLen; omega) (by have := HLL.out; omega) (by simp; omega) ?_; intro v5 w5 hown5 hgrow5 _))
          have hbY := (hbv.alloc (by omega) (.cells #[.int .u8 ((a).toNat : Int), .int .u8 ((b).toNat : Int)] 5)).grown hgrow5 (by simp; omega) (fun k hk => (World.ownsRow.lt hown k hk).1)
          go_roundw
          case rel =>
            refine ⟨k + 1, _, l ++ [a, b], by omega, by go_num, rfl, ?_, ?_, ?_, hbY⟩
            · unfold Kit.Owns
              rw [← cells_pair, List.length_append]
              exact hown5
            · rw [Hid, List.append_assoc, ← HS.out]; exact HP.out
            · rw [Hid, List.length_append]; have := HLL.out; simp; omega
          case measure => simp [intOf]; omega
        · have HS : Hid (prs ((t.data.toList.map jI).drop k) = [jI x, jI y] ++ prs ((t.data.toList.map jI).drop (k + 2))) := by
            have := prs_two (u := t.data.toList.map jI) (i := k) (by rw [HML.out]; omega) (by rw [HG.out, HG2.out]; exact hxy)
            rw [HG.out, HG2.out] at this
            exact this
          have hne : (((jI y).toNat : Int) != ((jI x).toNat : Int)) = true := by
            rw [bne_iff_ne]
            intro e
            exact hxy (UInt8.toNat_inj.1 (by omega))
          clear hxy HG HG2
          generalize jI x = a at *
          generalize fil a = f at *
          generalize jI y = b at *
          go_wp2_with fail
          refine (HW.out _).mono ?_
          rintro e Y ⟨rfl, rfl⟩
          go_wp2_with fail
          refine (HF.out _).mono ?_
          rintro e Y ⟨rfl, rfl⟩
          go_wp2_with fail
          refine (HY.out _).mono ?_
          rintro e Y ⟨rfl, rfl⟩
          go_wp2_with fail
          refine (HY.out _).mono ?_
          rintro e Y ⟨rfl, rfl⟩
          go_wp2_with (first | (at_builtin; refine wpList_append_own _ rfl _ _ 43 rfl V.heap.size 5 i0 (.int .u8 0) 1 1 Try.underlying43 hi0 hz0 hz1 hz2 rfl (by decide) _ _ _ rfl (World.ownsRow.alloc hown _) ⟨wr.heap.size, 0, none⟩ 2 2 [.int .u8 ((a).toNat : Int), .int .u8 ((b).toNat : Int)] rfl rfl (cells_new _ #[.int .u8 ((a).toNat : Int), .int .u8 ((b).toNat : Int)] _) (fun u hu => by simp at hu; rcases hu with rfl | rfl <;> rfl) (by have := HLL.out; unfold maxLen; omega) (by have := HLL.out; omega) (by simp; omega) ?_; intro v5 w5 hown5 hgrow5 _))
          have hbY := (hbv.alloc (by omega) (.cells #[.int .u8 ((a).toNat : Int), .int .u8 ((b).toNat : Int)] 5)).grown hgrow5 (by simp; omega) (fun k hk => (World.ownsRow.lt hown k hk).1)
          go_roundw
          case rel =>
            refine ⟨k + 2, _, l ++ [a, b], by omega, by go_num, rfl, ?_, ?_, ?_, hbY⟩
            · unfold Kit.Owns
              rw [← cells_pair, List.length_append]
              exact hown5
            · rw [Hid, List.append_assoc, ← HS.out]; exact HP.out
            · rw [Hid, List.length_append]; have := HLL.out; simp; omega
          case measure => simp [intOf]; omega
      · have hlt3 : ¬ ((k : Int) + 1 < (t.size : Int)) := by omega
        have HS : Hid (prs ((t.data.toList.map jI).drop k) = [jI x, fil (jI x)] ++ prs ((t.data.toList.map jI).drop (k + 1))) := by
          have := prs_one (u := t.data.toList.map jI) (i := k) (by rw [HML.out]; omega) (fun h => by rw [HML.out] at h; omega)
          rw [HG.out] at this
          exact this
        clear HG
        generalize jI x = a at *
        generalize fil a = b at *
        go_wp2_with fail
        refine (HW.out _).mono ?_
        rintro e Y ⟨rfl, rfl⟩
        go_wp2_with fail
        refine (HF.out _).mono ?_
        rintro e Y ⟨rfl, rfl⟩
        go_wp2_with (first | (at_builtin; refine wpList_append_own _ rfl _ _ 43 rfl V.heap.size 5 i0 (.int .u8 0) 1 1 Try.underlying43 hi0 hz0 hz1 hz2 rfl (by decide) _ _ _ rfl (World.ownsRow.alloc hown _) ⟨wr.heap.size, 0, none⟩ 2 2 [.int .u8 ((a).toNat : Int), .int .u8 ((b).toNat : Int)] rfl rfl (cells_new _ #[.int .u8 ((a).toNat : Int), .int .u8 ((b).toNat : Int)] _) (fun u hu => by simp at hu; rcases hu with rfl | rfl <;> rfl) (by have := HLL.out; unfold maxLen; omega) (by have := HLL.out; omega) (by simp; omega) ?_; intro v5 w5 hown5 hgrow5 _))
        have hbY := (hbv.alloc (by omega) (.cells #[.int .u8 ((a).toNat : Int), .int .u8 ((b).toNat : Int)] 5)).grown hgrow5 (by simp; omega) (fun k hk => (World.ownsRow.lt hown k hk).1)
        go_roundw
        case rel =>
          refine ⟨k + 1, _, l ++ [a, b], by omega, by go_num, rfl, ?_, ?_, ?_, hbY⟩
          · unfold Kit.Owns
            rw [← cells_pair, List.length_append]
            exact hown5
          · rw [Hid, List.append_assoc, ← HS.out]; exact HP.out
          · rw [Hid, List.length_append]; have := HLL.out; simp; omega
        case measure => simp [intOf]; omega
    · obtain rfl : k = t.size := by omega
      have HPE : Hid (l = prs (t.data.toList.map jI)) := by
        have := HP.out
        rw [List.drop_eq_nil_of_le (by rw [HML.out]; omega)] at this
        rw [Hid]
        simpa [prs] using this
      have hlen := Kit.run_len_own (P := Try.prog) wr 43 3 5 Try.underlying43 hown
      have hst := Kit.run_string_of_own (P := Try.prog) wr 43 9 5 Try.underlying43 Try.underlying5 Try.underlying9 hown
      have hbw := hb2.trans (hbv.mono hVs)
      obtain ⟨c0, c1, f0, f1, hsz⟩ := Kit.two_cells hbw
      by_cases hmuch : 65536 < l.length
      · have hm2 : (65536 : Int) < (l.length : Int) := by omega
        have HMU : Hid (65536 < l.length) := hmuch
        clear hown HP hmuch
        go_wp2
        have q := Kit.read_two (.int .i64 4) (.int .i64 0) c0 c1
        refine bodyPost_ret (v := .tuple #[.string ⟨#[]⟩, .agg #[.int .i64 4, .int .i64 0]]) (by simp [results, Try.results20, go_sem, q.1, q.2]) rfl ⟨by rw [HR.out, HRE.out, ← HPE.out, if_pos HMU.out, if_pos HMU.out], ?_⟩
        exact Kit.below_two hbw _ _
      · have hm2 : ¬ (65536 : Int) < (l.length : Int) := by omega
        have HMU : Hid (¬ 65536 < l.length) := hmuch
        clear hown HP hmuch
        go_wp2
        have q := Kit.read_two (.int .i64 0) (.int .i64 0) c0 c1
        refine bodyPost_ret (v := .tuple #[.string ⟨l.toArray⟩, .agg #[.int .i64 0, .int .i64 0]]) (by simp [results, Try.results20, go_sem, q.1, q.2]) rfl ⟨by rw [HR.out, HRE.out, ← HPE.out, if_neg HMU.out, if_neg HMU.out], ?_⟩
        exact Kit.below_two hbw _ _
theorem zpr_any (t : ByteArray) (w : World) : Calls Try.prog 20 #[.string t] w fun e w' => e = .returned (.tuple #[.string ⟨(prS t.data.toList).toArray⟩, .agg #[.int .i64 (prE t.data.toList), .int .i64 (prAt t.data.toList)]]) ∧ Below w.heap.size w w' := by
  unfold prS prE prAt
  rcases ck_cases t.data.toList with ⟨e1, e2, e3, _⟩ | e1
  · have h0 : ¬ ckE t.data.toList ≠ 0 := fun h => h e1
    rw [if_neg h0, if_neg h0, if_neg h0]
    exact zpr_ok t e1 e2 (by rw [Pl.size_len]; exact e3) _ _ rfl rfl w
  · have h0 : ckE t.data.toList ≠ 0 := by simpa using e1
    rw [if_pos h0, if_pos h0, if_pos h0]
    exact zpr_bad t e1 w
end Go.Proofs.Ytmabamlhhmjbaad
