/-
  Contract of the document's Write.
-/
import Derived.Test.YtmabamlhhmjbaadZRPr
import Derived.Test.YtmabamlhhmjbaadZWr
namespace Go.Proofs.Ytmabamlhhmjbaad
open Go.RowKit PK Vg Zq

set_option maxRecDepth 100000 in
set_option maxHeartbeats 4000000 in
theorem rwr_key (key t : ByteArray) (E A : Int) (hE : (E != 0) = true) (HT : Hid (∀ W, Calls Try.prog 29 #[.string key] W fun e w' => e = .returned (.agg #[.int .i64 E, .int .i64 A]) ∧ Below W.heap.size W w')) (w : World) : Calls Try.prog 23 #[.string key, .string t] w fun e w' => e = .returned (.tuple #[.string ⟨#[]⟩, .agg #[.int .i64 E, .int .i64 A]]) ∧ Below w.heap.size w w' := by
  go_enter Try.func23, Try.ntmps23
  go_wp2_with fail
  refine (HT.out _).mono ?_
  rintro e W1 ⟨rfl, hb⟩
  have hb1 : Below (w.heap.size + 1) (w.alloc (.cells #[.int .i64 0, .int .i64 0] 25)) W1 := by simpa using hb
  have hz := hb1.size
  simp at hz
  have hb2 := hb1.alloc (by omega) (.cells #[.int .i64 E, .int .i64 A] 25)
  clear hb hb1 HT
  obtain ⟨c0, c1, f0, f1, hsz⟩ := Kit.two_cells hb2
  go_wp2_with fail
  go_region
  all_goals (try go_wp2)
  have q := Kit.read_two (.int .i64 E) (.int .i64 A) c0 c1
  refine bodyPost_ret (v := .tuple #[.string ⟨#[]⟩, .agg #[.int .i64 E, .int .i64 A]]) (by simp [results, Try.results23, go_sem, q.1, q.2]) rfl ⟨rfl, ?_⟩
  exact (Kit.below_two hb2 _ _).drew
set_option maxRecDepth 100000 in
set_option maxHeartbeats 4000000 in
theorem rwr_text (key t p : ByteArray) (E A : Int) (hE : (E != 0) = true) (HT : Hid (∀ W, Calls Try.prog 29 #[.string key] W fun e w' => e = .returned (.agg #[.int .i64 0, .int .i64 0]) ∧ Below W.heap.size W w')) (HP : Hid (∀ W, Calls Try.prog 21 #[.string t] W fun e w' => e = .returned (.tuple #[.string p, .agg #[.int .i64 E, .int .i64 A]]) ∧ Below W.heap.size W w')) (w : World) : Calls Try.prog 23 #[.string key, .string t] w fun e w' => e = .returned (.tuple #[.string ⟨#[]⟩, .agg #[.int .i64 E, .int .i64 A]]) ∧ Below w.heap.size w w' := by
  go_enter Try.func23, Try.ntmps23
  go_wp2_with fail
  refine (HT.out _).mono ?_
  rintro e W1 ⟨rfl, hb⟩
  have hb1 : Below (w.heap.size + 1) (w.alloc (.cells #[.int .i64 0, .int .i64 0] 25)) W1 := by simpa using hb
  have hz := hb1.size
  simp at hz
  have hb2 := hb1.alloc (by omega) (.cells #[.int .i64 0, .int .i64 0] 25)
  clear hb hb1 HT
  go_wp2_with fail
  refine (HP.out _).mono ?_
  rintro e W2 ⟨rfl, hb3⟩
  have hz3 := hb3.size
  simp at hz3
  have hb4 := (hb2.trans (hb3.mono (by simp; omega))).alloc (by omega) (.cells #[.int .i64 E, .int .i64 A] 25)
  have r8 := RowAt.new W2 25 #[.int .i64 E, .int .i64 A]
  clear hb2 hb3 HP
  clear r8
  obtain ⟨c0, c1, f0, f1, hsz⟩ := Kit.two_cells hb4
  go_wp2_with fail
  go_region
  all_goals (try go_wp2)
  have q := Kit.read_two (.int .i64 E) (.int .i64 A) c0 c1
  refine bodyPost_ret (v := .tuple #[.string ⟨#[]⟩, .agg #[.int .i64 E, .int .i64 A]]) (by simp [results, Try.results23, go_sem, q.1, q.2]) rfl ⟨rfl, ?_⟩
  exact (Kit.below_two hb4 _ _).drew
set_option maxRecDepth 100000 in
set_option maxHeartbeats 4000000 in
theorem rwr_run (key t p : ByteArray) (L : List UInt8) (hL : Sq L) (hp : Zq.Good p.data.toList) (hs : p.size ≤ 65536) (R : ByteArray) (HR : Hid (R = ⟨(twos (enc L) p.data.toList).toArray⟩)) (HT : Hid (∀ W, Calls Try.prog 29 #[.string key] W fun e w' => e = .returned (.agg #[.int .i64 0, .int .i64 0]) ∧ Below W.heap.size W w')) (HP : Hid (∀ W, Calls Try.prog 21 #[.string t] W fun e w' => e = .returned (.tuple #[.string p, .agg #[.int .i64 0, .int .i64 0]]) ∧ Below W.heap.size W w')) (HLD : Hid (∀ W, Calls Try.prog 38 #[.string key] W fun e w' => ∃ v, e = .returned v ∧ Kit.Owns w' (W.heap.size + 1) 5 v L ∧ Below W.heap.size W w')) (w : World) : Calls Try.prog 23 #[.string key, .string t] w fun e w' => e = .returned (.tuple #[.string R, .agg #[.int .i64 0, .int .i64 0]]) ∧ Below w.heap.size w w' := by
  obtain ⟨i0, hi0, hz0, hz1, hz2⟩ := x_info_parts v_info_byte
  have HE : Hid (p.size % 2 = 0) := by rw [Hid, Pl.size_len]; exact hp.even
  have HMEM : Hid (∀ c ∈ p.data.toList, c ∈ L) := fun c hc => (hL.mem c).2 ((mem_alpha c).2 (hp.nj c hc))
  clear hp
  go_enter Try.func23, Try.ntmps23
  go_wp2_with fail
  refine (HT.out _).mono ?_
  rintro e W1 ⟨rfl, hb⟩
  have hb1 : Below (w.heap.size + 1) (w.alloc (.cells #[.int .i64 0, .int .i64 0] 25)) W1 := by simpa using hb
  have hz := hb1.size
  simp at hz
  have hb2 := hb1.alloc (by omega) (.cells #[.int .i64 0, .int .i64 0] 25)
  clear hb hb1 HT
  go_wp2_with fail
  refine (HP.out _).mono ?_
  rintro e W2 ⟨rfl, hb3⟩
  have hz3 := hb3.size
  simp at hz3
  have hb4 := (hb2.trans (hb3.mono (by simp; omega))).alloc (by omega) (.cells #[.int .i64 0, .int .i64 0] 25)
  have r8 := RowAt.new W2 25 #[.int .i64 0, .int .i64 0]
  clear hb2 hb3 HP
  go_wp2_with fail
  refine (HLD.out _).mono ?_
  rintro e W3 ⟨sv, rfl, hsv, hb5⟩
  have hz5 := hb5.size
  simp at hz5
  have hb6 := hb4.trans (hb5.mono (by simp; omega))
  have r9 := r8.below hb5 r8.lt
  have HBT : Hid (BtsAt W3 sv L) := BtsAt.of_own hsv
  have hzw := hb6.size
  simp at hzw
  clear hb4 hb5 r8 hsv HLD
  go_wp2_with fail
  go_loopw [10, 11] (fun o i W => ∃ (k : Nat) (v : Value), k ≤ p.size ∧ Hid (k % 2 = 0) ∧ i = .int .i64 (k : Nat) ∧ v = o ∧ Kit.Owns W W3.heap.size 5 v (twos (enc L) (p.data.toList.take k)) ∧ Below W3.heap.size W3 W) (fun _ i _ => ((p.size : Int) - intOf i).toNat)
  case atStart => exact ⟨0, _, by omega, rfl, rfl, rfl, by rw [show twos (enc L) (p.data.toList.take 0) = [] by simp [twos]]; exact Kit.Owns.nil _ _ _, Below.refl _ _⟩
  case round =>
    obtain ⟨k, v, hk, HK2, rfl, rfl, hown, hbv⟩ := hrel
    have hzv := hbv.size
    by_cases hlt : k < p.size
    · have hlt1 : k + 1 < p.size := by have := HE.out; have := HK2.out; omega
      have hlt2 : (k : Int) < (p.size : Int) := by omega
      have hlt3 : (k : Int) + 1 < (p.size : Int) := by omega
      have HTW := (show Hid _ from twos_at (enc L) (t := p.data.toList) HK2.out (getD_size hlt1))
      have hxm : p.data.toList.getD k 0 ∈ L := HMEM.out _ (getD_mem hlt)
      have hym : p.data.toList.getD (k + 1) 0 ∈ L := HMEM.out _ (getD_mem hlt1)
      have HPR := (show Hid (Calls Try.prog 43 #[sv, .int .u8 (p.data.toList.getD k 0).toNat, .int .u8 (p.data.toList.getD (k + 1) 0).toNat] wr.drew fun e w' => e = .returned (.string ⟨#[(enc L (p.data.toList.getD k 0) (p.data.toList.getD (k + 1) 0)).1, (enc L (p.data.toList.getD k 0) (p.data.toList.getD (k + 1) 0)).2]⟩) ∧ Below wr.drew.heap.size wr.drew w') from rpair_any sv L hL _ _ hxm hym wr.drew ((HBT.out.below hbv).below (Below.refl _ _).drew))
      have HTL : Hid ((twos (enc L) (p.data.toList.take k)).length = k) := by rw [Hid, twos_len _ _ (by rw [List.length_take]; have := Pl.size_len p; have := HK2.out; omega), List.length_take]; have := Pl.size_len p; omega
      have hix := (getD_byte p k hlt).symm
      have hiy := (getD_byte p (k + 1) hlt1).symm
      clear hxm hym
      generalize p.data.toList.getD k 0 = x at *
      generalize p.data.toList.getD (k + 1) 0 = y at *
      generalize (enc L x y).1 = q1 at *
      generalize (enc L x y).2 = q2 at *
      go_upto_region 12 with fail
      refine wp_region_noPanic ?_
      refine wp_region_held_drew (S := fun _ => True) (by kernel_rfl) trivial (fun hS => ?_)
      refine vtake 0 35 (v) rfl rfl (by kernel_rfl) (by kernel_rfl) (by kernel_rfl) (fun _ _ _ _ h => h) (by rfl) (fun W hW => by clear hS hW; go_simp) hS ?_
      simp only [List.setIfInBounds_toArray, List.set_cons_succ, List.set_cons_zero]
      refine vtake 1 36 (sv) rfl rfl (by kernel_rfl) (by kernel_rfl) (by kernel_rfl) (fun _ _ _ _ h => h) (by rfl) (fun W hW => by clear hS hW; go_simp) hS ?_
      simp only [List.setIfInBounds_toArray, List.set_cons_succ, List.set_cons_zero]
      refine vtake 2 37 (.string p) rfl rfl (by kernel_rfl) (by kernel_rfl) (by kernel_rfl) (fun _ _ _ _ h => h) (by rfl) (fun W hW => by clear hS hW; go_simp) hS ?_
      simp only [List.setIfInBounds_toArray, List.set_cons_succ, List.set_cons_zero]
      refine vtake 3 38 (.int .i64 ((k : Nat) : Int)) rfl rfl (by kernel_rfl) (by kernel_rfl) (by kernel_rfl) (fun _ _ _ _ h => h) (by rfl) (fun W hW => by clear hS hW; go_simp) hS ?_
      simp only [List.setIfInBounds_toArray, List.set_cons_succ, List.set_cons_zero]
      refine vtake 4 39 (.int .u8 (x.toNat : Nat)) rfl rfl (by kernel_rfl) (by kernel_rfl) (by kernel_rfl) (fun _ _ _ _ h => h) (by rfl) (fun W hW => by clear hS hW; go_simp) hS ?_
      simp only [List.setIfInBounds_toArray, List.set_cons_succ, List.set_cons_zero]
      refine vtake 5 40 (.string p) rfl rfl (by kernel_rfl) (by kernel_rfl) (by kernel_rfl) (fun _ _ _ _ h => h) (by rfl) (fun W hW => by clear hS hW; go_simp) hS ?_
      simp only [List.setIfInBounds_toArray, List.set_cons_succ, List.set_cons_zero]
      refine vtake 6 41 (.int .i64 ((k : Nat) : Int)) rfl rfl (by kernel_rfl) (by kernel_rfl) (by kernel_rfl) (fun _ _ _ _ h => h) (by rfl) (fun W hW => by clear hS hW; go_simp) hS ?_
      simp only [List.setIfInBounds_toArray, List.set_cons_succ, List.set_cons_zero]
      refine vtake 7 42 (.int .i64 ((k + 1 : Nat) : Int)) rfl rfl (by kernel_rfl) (by kernel_rfl) (by kernel_rfl) (fun _ _ _ _ h => h) (by rfl) (fun W hW => by clear hS hW; go_simp; exact IntWalk.i64_in _ (by omega)) hS ?_
      simp only [List.setIfInBounds_toArray, List.set_cons_succ, List.set_cons_zero]
      refine vtake 8 43 (.int .u8 (y.toNat : Nat)) rfl rfl (by kernel_rfl) (by kernel_rfl) (by kernel_rfl) (fun _ _ _ _ h => h) (by rfl) (fun W hW => by clear hS hW; first | (go_simp; done) | (go_simp; intro; omega)) hS ?_
      simp only [List.setIfInBounds_toArray, List.set_cons_succ, List.set_cons_zero]
      refine wpAnyH_ready (rs := [9]) (by kernel_rfl) (by simp) ?_
      refine AllReadyH.cons (o := _) rfl (fun K hK => ?_) AllReadyH.nil
      rw [if_pos (by rfl)]
      go_simp
      refine Calls.mono (HPR.out) ?_
      rintro e Y ⟨rfl, hb9⟩
      refine hK.out _ _ (trivial) (fun hS1 => ?_)
      clear hK hS K
      have hS := hS1
      clear hS1
      have hownY := own_below (show Kit.Owns wr.drew W3.heap.size 5 v (twos (enc L) (p.data.toList.take k)) from hown) hb9
      have hbY := hbv.drew.trans (hb9.mono (by show W3.heap.size ≤ wr.heap.size; omega))
      have hzY := hbY.size
      refine wpAnyH_ready (rs := [10]) (by kernel_rfl) (by simp) ?_
      refine AllReadyH.cons (o := _) rfl (fun K hK => ?_) AllReadyH.nil
      rw [if_pos (by rfl)]
      refine wp_append_string _ _ _ 43 9 rfl W3.heap.size 5 i0 Try.underlying43 Try.underlying9 hi0 hz0 hz1 hz2 _ _ _ rfl hownY ⟨#[q1, q2]⟩ rfl (by have := HTL.out; have e1 : (⟨#[q1, q2]⟩ : ByteArray).size = 2 := rfl; unfold maxLen; omega) (by have := HTL.out; have e1 : (⟨#[q1, q2]⟩ : ByteArray).size = 2 := rfl; omega) hzY ?_
      intro v6 w6 hown6 hgrow6
      have hb6 := hbY.grown hgrow6 hzY (fun k hk => (World.ownsRow.lt hownY k hk).1)
      refine hK.out _ _ trivial (fun hS1 => ?_)
      clear hK hS K
      have hS := hS1
      clear hS1
      simp only [Act.put, List.setIfInBounds_toArray]
      refine vtake 11 10 (v6) rfl rfl (by kernel_rfl) (by kernel_rfl) (by kernel_rfl) (fun _ _ _ _ h => h) (by rfl) (fun W hW => by clear hS hW; go_simp) hS ?_
      simp only [List.setIfInBounds_toArray, List.set_cons_succ, List.set_cons_zero]
      refine wpAnyH_done (by kernel_rfl) ?_ _
      refine NoPanic.normal ?_
      go_wp2_with fail
      go_roundw
      case rel =>
        refine ⟨k + 2, _, by omega, by rw [Hid]; have := HK2.out; omega, by go_num, rfl, ?_, hb6⟩
        rw [HTW.out]
        unfold Kit.Owns
        rw [← cells_str, List.length_append]
        exact hown6
      case measure => simp [intOf]; omega
    · obtain rfl : k = p.size := by omega
      rw [show (p.data.toList.take p.size) = p.data.toList by rw [Pl.size_len, List.take_length]] at hown
      have hst := Kit.run_string_of_own (P := Try.prog) wr.drew 43 9 5 Try.underlying43 Try.underlying5 Try.underlying9 (show Kit.Owns wr.drew W3.heap.size 5 v (twos (enc L) p.data.toList) from hown)
      rw [← HR.out] at hst
      have hbw := hb6.trans (hbv.mono hzw)
      obtain ⟨c0, c1, f0, f1, hsz⟩ := Kit.two_cells hbw
      have r10 := r9.below hbv r9.lt
      have d0 := r10.cell (i := 0) rfl
      have d1 := r10.cell (i := 1) rfl
      clear hown r10 r9
      go_wp2_with fail
      go_region
      all_goals (try go_wp2)
      have q := Kit.read_two (.int .i64 0) (.int .i64 0) c0 c1
      refine bodyPost_ret (v := .tuple #[.string R, .agg #[.int .i64 0, .int .i64 0]]) (by simp [results, Try.results23, go_sem, q.1, q.2]) rfl ⟨rfl, ?_⟩
      exact (Kit.below_two hbw _ _).drew
theorem rwr_any (key t : ByteArray) (w : World) : Calls Try.prog 23 #[.string key, .string t] w fun e w' => e = .returned (.tuple #[.string ⟨(wtS key.data.toList t.data.toList).toArray⟩, .agg #[.int .i64 (wtE key.data.toList t.data.toList), .int .i64 (wtAt key.data.toList t.data.toList)]]) ∧ Below w.heap.size w w' := by
  unfold wtS wtE wtAt
  by_cases hk : ckE key.data.toList = 0
  · have h0 : ¬ ckE key.data.toList ≠ 0 := fun h => h hk
    rw [if_neg h0, if_neg h0, if_neg h0]
    obtain ⟨k1, k2, k3⟩ := ck_ls hk
    have HK : ∀ W, Calls Try.prog 29 #[.string key] W fun e w' => e = .returned (.agg #[.int .i64 0, .int .i64 0]) ∧ Below W.heap.size W w' := fun W => by have := rcheck_all key W; rw [hk, k1] at this; exact this
    rcases pr_cases t.data.toList with ⟨p1, p2, p3, p4, p5, p6, p7, p8, p9⟩ | p1
    · have h1 : ¬ prE t.data.toList ≠ 0 := fun h => h p1
      rw [if_neg h1, p1, p2]
      exact rwr_run key t ⟨(prS t.data.toList).toArray⟩ (laid key.data.toList) (sq_laid k3) p9 (by rw [ba_size]; exact p8) _ rfl HK (fun W => by have := rpr_any t W; rw [p1, p2] at this; exact this) (fun W => laid_any key (by rw [Pl.size_len]; exact k2) k3 W) w
    · have h1 : prE t.data.toList ≠ 0 := by simpa using p1
      rw [if_pos h1]
      exact rwr_text key t _ _ _ p1 HK (fun W => rpr_any t W) w
  · rw [if_pos hk, if_pos hk, if_pos hk]
    exact rwr_key key t _ _ (by simpa using hk) (fun W => rcheck_all key W) w
end Go.Proofs.Ytmabamlhhmjbaad
