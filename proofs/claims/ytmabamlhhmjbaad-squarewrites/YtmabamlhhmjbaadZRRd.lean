/-
  Contract of the document's Read.
-/
import Derived.Test.YtmabamlhhmjbaadZFrom
import Derived.Test.YtmabamlhhmjbaadZRd
namespace Go.Proofs.Ytmabamlhhmjbaad
open Go.RowKit PK Vg Zq

theorem ext_two {t : ByteArray} {k : Nat} (h : k + 1 < t.size) : t.extract k (k + 2) = ⟨#[t.data.toList.getD k 0, t.data.toList.getD (k + 1) 0]⟩ := by
  have hl := Pl.size_len t
  have e : (t.extract k (k + 2)).data.toList = [t.data.toList.getD k 0, t.data.toList.getD (k + 1) 0] := by
    rw [ByteArray.data_extract, Array.toList_extract]
    rw [List.extract_eq_take_drop, show k + 2 - k = 2 by omega, drop_cons (by omega), drop_cons (by omega)]
    rfl
  have := ba_list (t.extract k (k + 2))
  rw [e] at this
  exact this.symm
set_option maxRecDepth 100000 in
set_option maxHeartbeats 4000000 in
theorem rrd_key (key t : ByteArray) (E A : Int) (hE : (E != 0) = true) (HK : Hid (∀ W, Calls Try.prog 29 #[.string key] W fun e w' => e = .returned (.agg #[.int .i64 E, .int .i64 A]) ∧ Below W.heap.size W w')) (w : World) : Calls Try.prog 25 #[.string key, .string t] w fun e w' => e = .returned (.tuple #[.string ⟨#[]⟩, .agg #[.int .i64 E, .int .i64 A]]) ∧ Below w.heap.size w w' := by
  go_enter Try.func25, Try.ntmps25
  go_wp2_with fail
  refine (HK.out _).mono ?_
  rintro e W1 ⟨rfl, hb⟩
  have hb1 : Below (w.heap.size + 1) (w.alloc (.cells #[.int .i64 0, .int .i64 0] 25)) W1 := by simpa using hb
  have hz := hb1.size
  simp at hz
  have hb2 := hb1.alloc (by omega) (.cells #[.int .i64 E, .int .i64 A] 25)
  clear hb hb1 HK
  obtain ⟨c0, c1, f0, f1, hsz⟩ := Kit.two_cells hb2
  go_wp2_with fail
  go_region
  all_goals (try go_wp2)
  have q := Kit.read_two (.int .i64 E) (.int .i64 A) c0 c1
  refine bodyPost_ret (v := .tuple #[.string ⟨#[]⟩, .agg #[.int .i64 E, .int .i64 A]]) (by simp [results, Try.results25, go_sem, q.1, q.2]) rfl ⟨rfl, ?_⟩
  exact (Kit.below_two hb2 _ _).drew
set_option maxRecDepth 100000 in
set_option maxHeartbeats 4000000 in
theorem rrd_text (key t : ByteArray) (E A : Int) (hE : (E != 0) = true) (HK : Hid (∀ W, Calls Try.prog 29 #[.string key] W fun e w' => e = .returned (.agg #[.int .i64 0, .int .i64 0]) ∧ Below W.heap.size W w')) (HT : Hid (∀ W, Calls Try.prog 29 #[.string t] W fun e w' => e = .returned (.agg #[.int .i64 E, .int .i64 A]) ∧ Below W.heap.size W w')) (w : World) : Calls Try.prog 25 #[.string key, .string t] w fun e w' => e = .returned (.tuple #[.string ⟨#[]⟩, .agg #[.int .i64 E, .int .i64 A]]) ∧ Below w.heap.size w w' := by
  go_enter Try.func25, Try.ntmps25
  go_wp2_with fail
  refine (HK.out _).mono ?_
  rintro e W1 ⟨rfl, hb⟩
  have hb1 : Below (w.heap.size + 1) (w.alloc (.cells #[.int .i64 0, .int .i64 0] 25)) W1 := by simpa using hb
  have hz := hb1.size
  simp at hz
  have hb2 := hb1.alloc (by omega) (.cells #[.int .i64 0, .int .i64 0] 25)
  clear hb hb1 HK
  go_wp2_with fail
  refine (HT.out _).mono ?_
  rintro e W2 ⟨rfl, hb3⟩
  have hz3 := hb3.size
  simp at hz3
  have hb4 := (hb2.trans (hb3.mono (by simp; omega))).alloc (by omega) (.cells #[.int .i64 E, .int .i64 A] 25)
  clear hb2 hb3 HT
  obtain ⟨c0, c1, f0, f1, hsz⟩ := Kit.two_cells hb4
  go_wp2_with fail
  go_region
  all_goals (try go_wp2)
  have q := Kit.read_two (.int .i64 E) (.int .i64 A) c0 c1
  refine bodyPost_ret (v := .tuple #[.string ⟨#[]⟩, .agg #[.int .i64 E, .int .i64 A]]) (by simp [results, Try.results25, go_sem, q.1, q.2]) rfl ⟨rfl, ?_⟩
  exact (Kit.below_two hb4 _ _).drew
set_option maxRecDepth 100000 in
set_option maxHeartbeats 4000000 in
theorem rrd_odd (key t : ByteArray) (h : t.size % 2 = 1) (hs : t.size ≤ 65536) (HK : Hid (∀ W, Calls Try.prog 29 #[.string key] W fun e w' => e = .returned (.agg #[.int .i64 0, .int .i64 0]) ∧ Below W.heap.size W w')) (HT : Hid (∀ W, Calls Try.prog 29 #[.string t] W fun e w' => e = .returned (.agg #[.int .i64 0, .int .i64 0]) ∧ Below W.heap.size W w')) (w : World) : Calls Try.prog 25 #[.string key, .string t] w fun e w' => e = .returned (.tuple #[.string ⟨#[]⟩, .agg #[.int .i64 8, .int .i64 (t.size : Nat)]]) ∧ Below w.heap.size w w' := by
  have h1 : (((t.size : Int) % 2) == 1) = true := by simp; omega
  have h2 : ((t.size : Int) % 2) = 1 := by omega
  go_enter Try.func25, Try.ntmps25
  go_wp2_with fail
  refine (HK.out _).mono ?_
  rintro e W1 ⟨rfl, hb⟩
  have hb1 : Below (w.heap.size + 1) (w.alloc (.cells #[.int .i64 0, .int .i64 0] 25)) W1 := by simpa using hb
  have hz := hb1.size
  simp at hz
  have hb2 := hb1.alloc (by omega) (.cells #[.int .i64 0, .int .i64 0] 25)
  clear hb hb1 HK
  go_wp2_with fail
  refine (HT.out _).mono ?_
  rintro e W2 ⟨rfl, hb3⟩
  have hz3 := hb3.size
  simp at hz3
  have hb4 := (hb2.trans (hb3.mono (by simp; omega))).alloc (by omega) (.cells #[.int .i64 0, .int .i64 0] 25)
  clear hb2 hb3 HT
  obtain ⟨c0, c1, f0, f1, hsz⟩ := Kit.two_cells hb4
  go_wp2
  have q := Kit.read_two (.int .i64 8) (.int .i64 (t.size : Nat)) c0 c1
  refine bodyPost_ret (v := .tuple #[.string ⟨#[]⟩, .agg #[.int .i64 8, .int .i64 (t.size : Nat)]]) (by simp [results, Try.results25, go_sem, q.1, q.2]) rfl ⟨rfl, ?_⟩
  exact Kit.below_two hb4 _ _
set_option maxRecDepth 100000 in
set_option maxHeartbeats 4000000 in
theorem rrd_even (key t : ByteArray) (h : t.size % 2 = 0) (hs : t.size ≤ 65536) (ht : Ls t.data.toList) (L : List UInt8) (hL : Sq L) (R : ByteArray) (E A : Int) (HRR : Hid (R = ⟨(if unE t.data.toList ≠ 0 then [] else twos (dec L) t.data.toList).toArray⟩)) (HRE : Hid (E = unE t.data.toList)) (HRA : Hid (A = unAt t.data.toList)) (HK : Hid (∀ W, Calls Try.prog 29 #[.string key] W fun e w' => e = .returned (.agg #[.int .i64 0, .int .i64 0]) ∧ Below W.heap.size W w')) (HT : Hid (∀ W, Calls Try.prog 29 #[.string t] W fun e w' => e = .returned (.agg #[.int .i64 0, .int .i64 0]) ∧ Below W.heap.size W w')) (HLD : Hid (∀ W, Calls Try.prog 38 #[.string key] W fun e w' => ∃ v, e = .returned v ∧ Kit.Owns w' (W.heap.size + 1) 5 v L ∧ Below W.heap.size W w')) (w : World) : Calls Try.prog 25 #[.string key, .string t] w fun e w' => e = .returned (.tuple #[.string R, .agg #[.int .i64 E, .int .i64 A]]) ∧ Below w.heap.size w w' := by
  obtain ⟨i0, hi0, hz0, hz1, hz2⟩ := x_info_parts v_info_byte
  have h1 : (((t.size : Int) % 2) == 1) = false := beq_false_of_ne (by omega)
  have h2 : ((t.size : Int) % 2) = 0 := by omega
  have HE : Hid (t.data.toList.length % 2 = 0) := by rw [Hid, ← Pl.size_len]; exact h
  have HE2 : Hid (t.size % 2 = 0) := h
  have HLS : Hid (Ls t.data.toList) := ht
  have hcv := fun w => Lib.run_convert_string_bytes (P := Try.prog) w 9 43 5 t Try.underlying9 Try.underlying43 Try.underlying5
  clear h ht
  go_enter Try.func25, Try.ntmps25
  go_wp2_with fail
  refine (HK.out _).mono ?_
  rintro e W1 ⟨rfl, hb⟩
  have hb1 : Below (w.heap.size + 1) (w.alloc (.cells #[.int .i64 0, .int .i64 0] 25)) W1 := by simpa using hb
  have hz := hb1.size
  simp at hz
  have hb2 := hb1.alloc (by omega) (.cells #[.int .i64 0, .int .i64 0] 25)
  clear hb hb1 HK
  go_wp2_with fail
  refine (HT.out _).mono ?_
  rintro e W2 ⟨rfl, hb3⟩
  have hz3 := hb3.size
  simp at hz3
  have hb4 := (hb2.trans (hb3.mono (by simp; omega))).alloc (by omega) (.cells #[.int .i64 0, .int .i64 0] 25)
  clear hb2 hb3 HT
  go_wp2_with fail
  have hb5 := hb4.trans ((bytes_below (W2.alloc (.cells #[.int .i64 0, .int .i64 0] 25)) 5 t).mono (by have := hb4.size; simpa using this))
  obtain ⟨V, hV⟩ : ∃ V, V = Lib.bytesWorld (W2.alloc (.cells #[.int .i64 0, .int .i64 0] 25)) 5 t := ⟨_, rfl⟩
  rw [← hV] at hb5
  rw [← hV]
  clear hV hcv hb4 h1 h2
  go_loopw [34] (fun i W => ∃ k : Nat, k ≤ t.size ∧ i = .int .i64 (k : Nat) ∧ Hid (∀ j, j < k → wrong t.data.toList j = false) ∧ Below (w.heap.size + 1) (w.alloc (.cells #[.int .i64 0, .int .i64 0] 25)) W) (fun i _ => ((t.size : Int) - intOf i).toNat)
  case atStart => exact ⟨0, by omega, rfl, fun j hj => by omega, hb5⟩
  case round =>
    clear hb5
    obtain ⟨k, hk, rfl, HA, hbw⟩ := hrel
    obtain ⟨c0, c1, f0, f1, hsz⟩ := Kit.two_cells hbw
    by_cases hlt : k < t.size
    · have hlt2 : (k : Int) < (t.size : Int) := by omega
      have hix := (getD_byte t k hlt).symm
      by_cases hJ : t.data.toList.getD k 0 = 74
      · have HU : Hid (fw t.data.toList = some k) := fw_some (getD_size hlt) ((wrong_iff _ _).2 (.inl hJ)) HA.out
        have HU3 : Hid (unE t.data.toList = 8 ∧ unAt t.data.toList = k) := un_some HE.out HU.out
        rw [hJ] at hix
        clear hJ
        go_upto_region 12 with fail
        go_quiet (fail)
        go_wp2
        have q := Kit.read_two (W := wr.drewN nq) (.int .i64 8) (.int .i64 ((k : Nat))) c0 c1
        refine bodyPost_ret (v := .tuple #[.string ⟨#[]⟩, .agg #[.int .i64 8, .int .i64 (k : Nat)]]) (by simp [results, Try.results25, go_sem, q.1, q.2]) rfl ⟨by rw [HRR.out, HRE.out, HRA.out, HU3.out.1, HU3.out.2, if_pos (by decide)], ?_⟩
        exact Kit.below_two (below_draws' hbw nq) _ _
      · have hJ2 : (((t.data.toList.getD k 0).toNat : Int) == 74) = false := by have := u8_eq (c := t.data.toList.getD k 0) (n := 74) (by omega); rw [show ((74 : Nat) : Int) = 74 from rfl] at this; rw [this]; simpa using hJ
        by_cases hodd : k % 2 = 1
        · obtain ⟨j, rfl⟩ : ∃ j, k = j + 1 := ⟨k - 1, by omega⟩
          have hjlt : j < t.size := by omega
          have hb1 : (0 : Int) ≤ (j : Int) + 1 := by omega
          have hb2 : (j : Int) + 1 < (t.size : Int) := by omega
          have hb3 : ¬ ((j : Int) + 1 < 0) := by omega
          have hjlt2 : (j : Int) < (t.size : Int) := by omega
          have hiy := (getD_byte t j hjlt).symm
          have ho2 : (((j : Int) + 1) % 2 == 1) = true := by simp; omega
          have ho4 : (((j : Int) + 1).tmod 2 == 1) = true := by rw [Int.tmod_eq_emod_of_nonneg (by omega)]; exact ho2
          have hwj : IntKind.i64.wrap (j : Int) = (j : Int) := IntWalk.i64_in _ (by omega)
          by_cases hxy : t.data.toList.getD (j + 1) 0 = t.data.toList.getD j 0
          · have HU : Hid (fw t.data.toList = some (j + 1)) := fw_some (getD_size hlt) ((wrong_iff _ _).2 (.inr ⟨hodd, hxy⟩)) HA.out
            have HU3 : Hid (unE t.data.toList = 8 ∧ unAt t.data.toList = (j + 1 : Nat)) := un_some HE.out HU.out
            rw [hxy] at hix hJ2
            generalize t.data.toList.getD j 0 = y at *
            clear hxy hJ hodd HA
            go_upto_region 12 with fail
            go_quiet (fail)
            go_wp2
            have q := Kit.read_two (W := wr.drewN nq) (.int .i64 8) (.int .i64 ((j : Int) + 1)) c0 c1
            refine bodyPost_ret (v := .tuple #[.string ⟨#[]⟩, .agg #[.int .i64 8, .int .i64 (j + 1 : Nat)]]) (by simp [results, Try.results25, go_sem, q.1, q.2]) rfl ⟨by rw [HRR.out, HRE.out, HRA.out, HU3.out.1, HU3.out.2, if_pos (by decide)], ?_⟩
            exact Kit.below_two (below_draws' hbw nq) _ _
          · have HN : Hid (∀ i, i < j + 1 + 1 → wrong t.data.toList i = false) := fun i hi => by
              by_cases hi2 : i = j + 1
              · subst hi2
                cases hw : wrong t.data.toList (j + 1)
                · rfl
                · rcases (wrong_iff _ _).1 hw with e | e
                  · exact absurd e hJ
                  · exact absurd e.2 hxy
              · exact HA.out i (by omega)
            have hne := u8_beq (t.data.toList.getD (j + 1) 0) (t.data.toList.getD j 0)
            rw [decide_eq_false hxy] at hne
            generalize t.data.toList.getD j 0 = y at *
            generalize t.data.toList.getD (j + 1) 0 = x at *
            clear hxy hJ hodd HA
            go_upto_region 12 with fail
            go_quiet (fail)
            go_wp2_with fail
            go_roundw
            case rel => exact ⟨j + 1 + 1, by omega, by go_num, HN.out, below_draws' hbw _⟩
            case measure => simp [intOf]; omega
        · have HN : Hid (∀ i, i < k + 1 → wrong t.data.toList i = false) := fun i hi => by
            by_cases hi2 : i = k
            · subst hi2
              cases hw : wrong t.data.toList i
              · rfl
              · rcases (wrong_iff _ _).1 hw with e | e
                · exact absurd e hJ
                · exact absurd e.1 hodd
            · exact HA.out i (by omega)
          have ho2 : ((k : Int) % 2 == 1) = false := beq_false_of_ne (by omega)
          have ho4 : ((k : Int).tmod 2 == 1) = false := by rw [Int.tmod_eq_emod_of_nonneg (by omega)]; exact ho2
          generalize t.data.toList.getD k 0 = x at *
          clear hJ HA
          go_upto_region 12 with fail
          go_quiet (fail)
          go_wp2_with fail
          go_roundw
          case rel => exact ⟨k + 1, by omega, by go_num, HN.out, below_draws' hbw _⟩
          case measure => simp [intOf]; omega
    · have HU : Hid (fw t.data.toList = none) := fw_none fun j hj => HA.out j (by have := Pl.size_len t; omega)
      have HU3 : Hid (unE t.data.toList = 0 ∧ unAt t.data.toList = 0) := un_none HE.out HU.out
      have HGD : Hid (Zq.Good t.data.toList) := fw_good HLS.out HE.out HU.out
      clear c0 c1 f0 f1 hsz
      go_wp2_with fail
      refine (HLD.out _).mono ?_
      rintro e W3 ⟨sv, rfl, hsv, hc5⟩
      have hz5 := hc5.size
      have hzw := hbw.size
      simp at hzw
      have hb6 := hbw.trans (hc5.mono hzw)
      have HBT : Hid (BtsAt W3 sv L) := BtsAt.of_own hsv
      have hz6 := hb6.size
      simp at hz6
      clear hbw hc5 hsv HLD
      have HMEM : Hid (∀ c ∈ t.data.toList, c ∈ L) := fun c hc => (hL.mem c).2 ((mem_alpha c).2 (HGD.out.nj c hc))
      go_wp2_with fail
      go_loopw [10, 11] (fun o i W => ∃ (k : Nat) (v : Value), k ≤ t.size ∧ Hid (k % 2 = 0) ∧ i = .int .i64 (k : Nat) ∧ v = o ∧ Kit.Owns W W3.heap.size 5 v (twos (dec L) (t.data.toList.take k)) ∧ Below W3.heap.size W3 W) (fun _ i _ => ((t.size : Int) - intOf i).toNat)
      case atStart => exact ⟨0, _, by omega, rfl, rfl, rfl, by rw [show twos (dec L) (t.data.toList.take 0) = [] by simp [twos]]; exact Kit.Owns.nil _ _ _, Below.refl _ _⟩
      case round =>
        obtain ⟨k, v, hk, HK2, rfl, rfl, hown, hbv⟩ := hrel
        have hzv := hbv.size
        by_cases hlt : k < t.size
        · have hlt1 : k + 1 < t.size := by have := HE2.out; have := HK2.out; omega
          have hlt2 : (k : Int) < (t.size : Int) := by omega
          have hlt3 : (k : Int) + 2 ≤ (t.size : Int) := by omega
          have hlt4 : (0 : Int) ≤ (k : Int) + 2 := by omega
          have HTW := (show Hid _ from twos_at (dec L) (t := t.data.toList) HK2.out (getD_size hlt1))
          have HTL : Hid ((twos (dec L) (t.data.toList.take k)).length = k) := by rw [Hid, twos_len _ _ (by rw [List.length_take]; have := Pl.size_len t; have := HK2.out; omega), List.length_take]; have := Pl.size_len t; omega
          have hxm : t.data.toList.getD k 0 ∈ L := HMEM.out _ (getD_mem hlt)
          have hym : t.data.toList.getD (k + 1) 0 ∈ L := HMEM.out _ (getD_mem hlt1)
          have hxy : t.data.toList.getD k 0 ≠ t.data.toList.getD (k + 1) 0 := fun e => by
            have := good_wrong HGD.out (k + 1) (getD_size hlt1)
            rw [(wrong_iff _ _).2 (.inr ⟨by have := HK2.out; omega, e.symm⟩)] at this
            cases this
          have HFR := (show Hid (Calls Try.prog 45 #[sv, .string (t.extract k (k + 2))] wr fun e w' => e = .returned (.string ⟨#[(dec L (t.data.toList.getD k 0) (t.data.toList.getD (k + 1) 0)).1, (dec L (t.data.toList.getD k 0) (t.data.toList.getD (k + 1) 0)).2]⟩) ∧ Below wr.heap.size wr w') from rfrom_any sv L hL _ _ hxm hym hxy _ (ext_two hlt1) wr (HBT.out.below hbv))
          clear hxm hym hxy
          generalize (dec L (t.data.toList.getD k 0) (t.data.toList.getD (k + 1) 0)).1 = q1 at *
          generalize (dec L (t.data.toList.getD k 0) (t.data.toList.getD (k + 1) 0)).2 = q2 at *
          go_wp2_with fail
          refine HFR.out.mono ?_
          rintro e Y ⟨rfl, hb9⟩
          have hownY := own_below hown hb9
          have hbY := hbv.trans (hb9.mono hzv)
          have hzY := hbY.size
          go_wp2_with (first | (at_builtin; refine Lib.wpList_append_own_string _ rfl _ _ 43 9 rfl W3.heap.size 5 i0 Try.underlying43 Try.underlying9 hi0 hz0 hz1 hz2 _ _ _ rfl hownY ⟨#[q1, q2]⟩ rfl (by have := HTL.out; have e1 : (⟨#[q1, q2]⟩ : ByteArray).size = 2 := rfl; unfold maxLen; omega) (by have := HTL.out; have e1 : (⟨#[q1, q2]⟩ : ByteArray).size = 2 := rfl; omega) hzY ?_; intro v6 w6 hown6 hgrow6 _))
          have hbZ := hbY.grown hgrow6 hzY (fun k hk => (World.ownsRow.lt hownY k hk).1)
          go_roundw
          case rel =>
            refine ⟨k + 2, _, by omega, by rw [Hid]; have := HK2.out; omega, by go_num, rfl, ?_, hbZ⟩
            rw [HTW.out]
            unfold Kit.Owns
            rw [← cells_str, List.length_append]
            exact hown6
          case measure => simp [intOf]; omega
        · obtain rfl : k = t.size := by omega
          rw [show (t.data.toList.take t.size) = t.data.toList by rw [Pl.size_len, List.take_length]] at hown
          have hst := Kit.run_string_of_own (P := Try.prog) wr 43 9 5 Try.underlying43 Try.underlying5 Try.underlying9 hown
          have HRF : Hid (R = ⟨(twos (dec L) t.data.toList).toArray⟩) := by rw [Hid, HRR.out, HU3.out.1, if_neg (by decide)]
          rw [← HRF.out] at hst
          have hbx := hb6.trans (hbv.mono hz6)
          obtain ⟨c0, c1, f0, f1, hsz⟩ := Kit.two_cells hbx
          clear hown
          go_wp2
          have q := Kit.read_two (.int .i64 0) (.int .i64 0) c0 c1
          refine bodyPost_ret (v := .tuple #[.string R, .agg #[.int .i64 0, .int .i64 0]]) (by simp [results, Try.results25, go_sem, q.1, q.2]) rfl ⟨by rw [HRE.out, HRA.out, HU3.out.1, HU3.out.2], ?_⟩
          exact Kit.below_two hbx _ _
theorem rrd_any (key t : ByteArray) (w : World) : Calls Try.prog 25 #[.string key, .string t] w fun e w' => e = .returned (.tuple #[.string ⟨(rdS key.data.toList t.data.toList).toArray⟩, .agg #[.int .i64 (rdE key.data.toList t.data.toList), .int .i64 (rdAt key.data.toList t.data.toList)]]) ∧ Below w.heap.size w w' := by
  unfold rdS rdE rdAt
  have hl := Pl.size_len t
  by_cases hk : ckE key.data.toList = 0
  · have h0 : ¬ ckE key.data.toList ≠ 0 := fun h => h hk
    rw [if_neg h0, if_neg h0, if_neg h0]
    obtain ⟨k1, k2, k3⟩ := ck_ls hk
    have HK : ∀ W, Calls Try.prog 29 #[.string key] W fun e w' => e = .returned (.agg #[.int .i64 0, .int .i64 0]) ∧ Below W.heap.size W w' := fun W => by have := rcheck_all key W; rw [hk, k1] at this; exact this
    by_cases ht : ckE t.data.toList = 0
    · have h1 : ¬ ckE t.data.toList ≠ 0 := fun h => h ht
      rw [if_neg h1, if_neg h1, if_neg h1]
      obtain ⟨t1, t2, t3⟩ := ck_ls ht
      have hsz : t.size ≤ 65536 := by omega
      have HT : ∀ W, Calls Try.prog 29 #[.string t] W fun e w' => e = .returned (.agg #[.int .i64 0, .int .i64 0]) ∧ Below W.heap.size W w' := fun W => by have := rcheck_all t W; rw [ht, t1] at this; exact this
      by_cases ho : t.size % 2 = 1
      · have hu := un_odd (t := t.data.toList) (by omega)
        rw [hu.1, hu.2, if_pos (by decide), ← hl]
        exact rrd_odd key t ho hsz HK HT w
      · exact rrd_even key t (by omega) hsz t3 (laid key.data.toList) (sq_laid k3) _ _ _ rfl rfl rfl HK HT (fun W => laid_any key (by rw [Pl.size_len]; exact k2) k3 W) w
    · rw [if_pos ht, if_pos ht, if_pos ht]
      exact rrd_text key t _ _ (by simpa using ht) HK (fun W => rcheck_all t W) w
  · rw [if_pos hk, if_pos hk, if_pos hk]
    exact rrd_key key t _ _ (by simpa using hk) (fun W => rcheck_all key W) w
end Go.Proofs.Ytmabamlhhmjbaad
