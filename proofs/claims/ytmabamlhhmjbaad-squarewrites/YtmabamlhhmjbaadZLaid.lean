/-
  Contract of the document's Laid and Sheet.
-/
import Derived.Test.YtmabamlhhmjbaadZRef
import Derived.Test.YtmabamlhhmjbaadZSt
namespace Go.Proofs.Ytmabamlhhmjbaad
open Go.RowKit PK Vg Zq

set_option maxRecDepth 100000 in
set_option maxHeartbeats 4000000 in
theorem laid_any (key : ByteArray) (hs : key.size ≤ 65536) (hk : Ls key.data.toList) (w : World) : Calls Try.prog 38 #[.string key] w fun e w' => ∃ v, e = .returned v ∧ Kit.Owns w' (w.heap.size + 1) 5 v (laid key.data.toList) ∧ Below w.heap.size w w' := by
  obtain ⟨i0, hi0, hz0, hz1, hz2⟩ := x_info_parts v_info_byte
  obtain ⟨B, hB⟩ : ∃ B : ByteArray, B = key ++ (⟨#[65, 66, 67, 68, 69, 70, 71, 72, 73, 75, 76, 77, 78, 79, 80, 81, 82, 83, 84, 85, 86, 87, 88, 89, 90]⟩ : ByteArray) := ⟨_, rfl⟩
  have hcv := fun w => Lib.run_convert_string_bytes (P := Try.prog) w 9 43 5 B Try.underlying9 Try.underlying43 Try.underlying5
  have hBl : B.data.toList = key.data.toList ++ alpha := by rw [hB]; exact cat_list _ _
  have hBs : B.size = key.size + 25 := by rw [hB, cat_size]; rfl
  have HL : Hid (Ls B.data.toList) := by rw [hBl]; exact ls_append hk (fun c hc => ((mem_alpha c).1 hc).1)
  have HLA : Hid (lay B.data.toList B.size = laid key.data.toList) := by rw [Pl.size_len, Hid, lay_all, hBl]; rfl
  have HB : Hid (B = key ++ (⟨#[65, 66, 67, 68, 69, 70, 71, 72, 73, 75, 76, 77, 78, 79, 80, 81, 82, 83, 84, 85, 86, 87, 88, 89, 90]⟩ : ByteArray)) := hB
  have hBs2 : B.size ≤ 65562 := by omega
  clear hB hBl hBs
  go_enter Try.func38, Try.ntmps38
  go_wp2_with (first | (refine wpList_cat rfl _ _ _ _ rfl _ _ rfl rfl (by show key.size + 25 ≤ _; omega) ?_; rw [← HB.out]))
  have hp0 := bytes_plain w 5 B
  have hb0 := bytes_below w 5 B
  have HVs : Hid ((Lib.bytesWorld w 5 B).heap.size = w.heap.size + 1) := Lib.bytesWorld_size w _ B
  obtain ⟨V, hV⟩ : ∃ V, V = Lib.bytesWorld w 5 B := ⟨_, rfl⟩
  rw [← hV] at hp0 hb0 HVs
  rw [← hV]
  clear hV hcv
  go_loopw [3, 10] (fun o i W => ∃ (k : Nat) (v : Value), k ≤ B.size ∧ i = .int .i64 (k : Nat) ∧ v = o ∧ Kit.Owns W V.heap.size 5 v (lay B.data.toList k) ∧ Below V.heap.size V W) (fun _ i _ => ((B.size : Int) - intOf i).toNat)
  case atStart => exact ⟨0, _, by omega, rfl, rfl, Kit.Owns.nil _ _ _, Below.refl _ _⟩
  case round =>
    obtain ⟨k, v, hk2, rfl, rfl, hown, hbv⟩ := hrel
    have hzv := hbv.size
    by_cases hlt : k < B.size
    · have hlt2 : (k : Int) < (B.size : Int) := by omega
      have hpm := hp0.below hbv k hlt
      have hcl := HL.out.at (getD_size hlt)
      have hjl := jI_ok hcl
      have HST := (show Hid (lay B.data.toList (k + 1) = addN (lay B.data.toList k) (jI (B.data.toList.getD k 0))) from lay_succ _ (getD_size hlt))
      have HLE := (show Hid ((lay B.data.toList k).length ≤ 25) from lay_le HL.out k)
      have HH := (show Hid (Calls Try.prog 51 #[v, .int .u8 (jI (B.data.toList.getD k 0)).toNat] wr fun e w' => e = .returned (.bool (decide (jI (B.data.toList.getD k 0) ∈ lay B.data.toList k))) ∧ wr = w') from has_any v _ (by have := HLE.out; omega) _ wr (BtsAt.of_own hown))
      have hJ := u8_beq (B.data.toList.getD k 0) 74
      have hjd : jI (B.data.toList.getD k 0) = if B.data.toList.getD k 0 = 74 then 73 else B.data.toList.getD k 0 := rfl
      generalize B.data.toList.getD k 0 = b at *
      generalize lay B.data.toList k = L at *
      by_cases hin : jI b ∈ L
      · have HE : Hid (lay B.data.toList (k + 1) = L) := by rw [Hid, HST.out, addN_in hin]
        rw [decide_eq_true hin] at HH
        clear hin HST
        by_cases hb : b = 74
        · subst hb
          have e73 : jI 74 = 73 := rfl
          rw [e73] at HH
          clear hjd e73 hJ
          go_wp2_with fail
          refine HH.out.mono ?_
          rintro e Y ⟨rfl, rfl⟩
          go_wp2_with fail
          go_roundw
          case rel => exact ⟨k + 1, _, by omega, by go_num, rfl, by rw [HE.out]; exact hown, hbv⟩
          case measure => simp [intOf]; omega
        · rw [decide_eq_false hb] at hJ
          rw [if_neg hb] at hjd
          have hJ2 : ((b.toNat : Int) == 74) = false := hJ
          rw [hjd] at HH
          clear hjd hJ hb
          go_wp2_with fail
          refine HH.out.mono ?_
          rintro e Y ⟨rfl, rfl⟩
          go_wp2_with fail
          go_roundw
          case rel => exact ⟨k + 1, _, by omega, by go_num, rfl, by rw [HE.out]; exact hown, hbv⟩
          case measure => simp [intOf]; omega
      · have HE : Hid (lay B.data.toList (k + 1) = L ++ [jI b]) := by rw [Hid, HST.out, addN_out hin]
        rw [decide_eq_false hin] at HH
        clear hin HST
        by_cases hb : b = 74
        · subst hb
          have e73 : jI 74 = 73 := rfl
          rw [e73] at HH HE
          clear hjd e73 hJ
          go_wp2_with fail
          refine HH.out.mono ?_
          rintro e Y ⟨rfl, rfl⟩
          go_wp2_with (first | (at_builtin; refine wpList_append_own _ rfl _ _ 43 rfl V.heap.size 5 i0 (.int .u8 0) 1 1 Try.underlying43 hi0 hz0 hz1 hz2 rfl (by decide) _ _ _ rfl (World.ownsRow.alloc hown _) ⟨wr.heap.size, 0, none⟩ 1 1 [.int .u8 (73 : Int)] rfl rfl (cells_new _ #[.int .u8 (73 : Int)] _) (fun u hu => by simp at hu; subst hu; rfl) (by have := HLE.out; unfold maxLen; omega) (by have := HLE.out; omega) (by simp; omega) ?_; intro v5 w5 hown5 hgrow5 _))
          have hbY := (hbv.alloc (by omega) (.cells #[.int .u8 (73 : Int)] 5)).grown hgrow5 (by simp; omega) (fun k hk => (World.ownsRow.lt hown k hk).1)
          go_roundw
          case rel =>
            refine ⟨k + 1, _, by omega, by go_num, rfl, ?_, hbY⟩
            rw [HE.out]
            unfold Kit.Owns
            rw [← v_cells_byte, List.length_append]
            exact hown5
          case measure => simp [intOf]; omega
        · rw [decide_eq_false hb] at hJ
          rw [if_neg hb] at hjd
          have hJ2 : ((b.toNat : Int) == 74) = false := hJ
          rw [hjd] at HH HE
          clear hjd hJ hb
          go_wp2_with fail
          refine HH.out.mono ?_
          rintro e Y ⟨rfl, rfl⟩
          go_wp2_with (first | (at_builtin; refine wpList_append_own _ rfl _ _ 43 rfl V.heap.size 5 i0 (.int .u8 0) 1 1 Try.underlying43 hi0 hz0 hz1 hz2 rfl (by decide) _ _ _ rfl (World.ownsRow.alloc hown _) ⟨wr.heap.size, 0, none⟩ 1 1 [.int .u8 (b.toNat : Int)] rfl rfl (cells_new _ #[.int .u8 (b.toNat : Int)] _) (fun u hu => by simp at hu; subst hu; rfl) (by have := HLE.out; unfold maxLen; omega) (by have := HLE.out; omega) (by simp; omega) ?_; intro v5 w5 hown5 hgrow5 _))
          have hbY := (hbv.alloc (by omega) (.cells #[.int .u8 (b.toNat : Int)] 5)).grown hgrow5 (by simp; omega) (fun k hk => (World.ownsRow.lt hown k hk).1)
          go_roundw
          case rel =>
            refine ⟨k + 1, _, by omega, by go_num, rfl, ?_, hbY⟩
            rw [HE.out]
            unfold Kit.Owns
            rw [← v_cells_byte, List.length_append]
            exact hown5
          case measure => simp [intOf]; omega
    · obtain rfl : k = B.size := by omega
      rw [HLA.out, HVs.out] at hown
      have hbw := hb0.trans (hbv.mono (by rw [HVs.out]; omega))
      go_wp2
      go_ret
      exact ⟨_, rfl, hown, hbw⟩
set_option maxRecDepth 100000 in
set_option maxHeartbeats 4000000 in
theorem rst_bad (key : ByteArray) (E A : Int) (hE : (E != 0) = true) (HT : Hid (∀ W, Calls Try.prog 29 #[.string key] W fun e w' => e = .returned (.agg #[.int .i64 E, .int .i64 A]) ∧ Below W.heap.size W w')) (w : World) : Calls Try.prog 19 #[.string key] w fun e w' => e = .returned (.tuple #[.string ⟨#[]⟩, .agg #[.int .i64 E, .int .i64 A]]) ∧ Below w.heap.size w w' := by
  go_enter Try.func19, Try.ntmps19
  go_wp2_with fail
  refine (HT.out _).mono ?_
  rintro e W1 ⟨rfl, hb⟩
  have hb1 : Below (w.heap.size + 1) (w.alloc (.cells #[.int .i64 0, .int .i64 0] 25)) W1 := by simpa using hb
  have hz := hb1.size
  simp at hz
  have hb2 := hb1.alloc (by omega) (.cells #[.int .i64 E, .int .i64 A] 25)
  clear hb
  obtain ⟨c0, c1, f0, f1, hsz⟩ := Kit.two_cells hb2
  clear HT hb1
  go_wp2_with fail
  go_region
  all_goals (try go_wp2)
  have q := Kit.read_two (.int .i64 E) (.int .i64 A) c0 c1
  refine bodyPost_ret (v := .tuple #[.string ⟨#[]⟩, .agg #[.int .i64 E, .int .i64 A]]) (by simp [results, Try.results19, go_sem, q.1, q.2]) rfl ⟨rfl, ?_⟩
  exact (Kit.below_two hb2 _ _).drew
set_option maxRecDepth 100000 in
set_option maxHeartbeats 4000000 in
theorem rst_ok (key : ByteArray) (L : List UInt8) (HT : Hid (∀ W, Calls Try.prog 29 #[.string key] W fun e w' => e = .returned (.agg #[.int .i64 0, .int .i64 0]) ∧ Below W.heap.size W w')) (HS : Hid (∀ W, Calls Try.prog 38 #[.string key] W fun e w' => ∃ v, e = .returned v ∧ Kit.Owns w' (W.heap.size + 1) 5 v L ∧ Below W.heap.size W w')) (w : World) : Calls Try.prog 19 #[.string key] w fun e w' => e = .returned (.tuple #[.string ⟨L.toArray⟩, .agg #[.int .i64 0, .int .i64 0]]) ∧ Below w.heap.size w w' := by
  go_enter Try.func19, Try.ntmps19
  go_wp2_with fail
  refine (HT.out _).mono ?_
  rintro e W1 ⟨rfl, hb⟩
  have hb1 : Below (w.heap.size + 1) (w.alloc (.cells #[.int .i64 0, .int .i64 0] 25)) W1 := by simpa using hb
  have hz := hb1.size
  simp at hz
  have hb2 := hb1.alloc (by omega) (.cells #[.int .i64 0, .int .i64 0] 25)
  clear hb HT hb1
  go_wp2_with fail
  refine (HS.out _).mono ?_
  rintro e X6 ⟨v, rfl, hown, hc⟩
  have hb6 := hb2.trans (hc.mono (by have := hb2.size; simp at this ⊢ <;> omega))
  clear hc hb2 HS
  have hst := Kit.run_string_of_own (P := Try.prog) X6 43 9 5 Try.underlying43 Try.underlying5 Try.underlying9 hown
  obtain ⟨c0, c1, f0, f1, hsz⟩ := Kit.two_cells hb6
  clear hown
  go_wp2
  have q := Kit.read_two (.int .i64 0) (.int .i64 0) c0 c1
  refine bodyPost_ret (v := .tuple #[.string ⟨L.toArray⟩, .agg #[.int .i64 0, .int .i64 0]]) (by simp [results, Try.results19, go_sem, q.1, q.2]) rfl ⟨rfl, ?_⟩
  exact Kit.below_two hb6 _ _
theorem rst_any (key : ByteArray) (w : World) : Calls Try.prog 19 #[.string key] w fun e w' => e = .returned (.tuple #[.string ⟨(stS key.data.toList).toArray⟩, .agg #[.int .i64 (ckE key.data.toList), .int .i64 (ckAt key.data.toList)]]) ∧ Below w.heap.size w w' := by
  unfold stS
  rcases ck_cases key.data.toList with ⟨e1, e2, e3, e4⟩ | e1
  · have h0 : ¬ ckE key.data.toList ≠ 0 := fun h => h e1
    rw [if_neg h0, e1, e2]
    exact rst_ok key _ (fun W => by have := rcheck_all key W; rw [e1, e2] at this; exact this) (fun W => laid_any key (by rw [Pl.size_len]; exact e3) (ls_of e4) W) w
  · have h0 : ckE key.data.toList ≠ 0 := by simpa using e1
    rw [if_pos h0]
    exact rst_bad key _ _ e1 (fun W => rcheck_all key W) w
end Go.Proofs.Ytmabamlhhmjbaad
