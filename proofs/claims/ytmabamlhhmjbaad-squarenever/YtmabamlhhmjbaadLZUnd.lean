/-
  SquareUndone, walked.
-/
import Derived.Test.YtmabamlhhmjbaadZAliv
namespace Go.Proofs.Ytmabamlhhmjbaad
open Go.RowKit PK Vg Zq

set_option maxRecDepth 100000 in
set_option maxHeartbeats 4000000 in
theorem zund_bad (key t R : ByteArray) (E A : Int) (hE : (E != 0) = true) (HW : Hid (∀ W, Calls Try.prog 22 #[.string key, .string t] W fun e w' => e = .returned (.tuple #[.string R, .agg #[.int .i64 E, .int .i64 A]]) ∧ Below W.heap.size W w')) (w : World) : Calls Try.prog 7 #[.string key, .string t] w fun e w' => e = .returned (.bool true) ∧ Below w.heap.size w w' := by
  have HA := (show Hid (∀ W, Calls Try.prog 26 #[] W fun e w' => e = .returned (.bool true) ∧ Below W.heap.size W w') from zalive_any)
  go_enter Try.func7, Try.ntmps7
  go_wp2_with fail
  refine (HA.out _).mono ?_
  rintro e W0 ⟨rfl, hb0⟩
  go_wp2_with fail
  refine (HW.out _).mono ?_
  rintro e W1 ⟨rfl, hb1⟩
  have hb := (hb0.trans (hb1.mono hb0.size)).alloc (by have := hb0.size; have := hb1.size; omega) (.cells #[.int .i64 E, .int .i64 A] 25)
  clear hb0 hb1
  go_wp2
  go_ret
  exact ⟨rfl, hb⟩
set_option maxRecDepth 100000 in
set_option maxHeartbeats 4000000 in
theorem zund_a (key t S p R : ByteArray) (hS : S.size = p.size) (E A : Int) (hE : (E != 0) = true) (HW : Hid (∀ W, Calls Try.prog 22 #[.string key, .string t] W fun e w' => e = .returned (.tuple #[.string S, .agg #[.int .i64 0, .int .i64 0]]) ∧ Below W.heap.size W w')) (HP : Hid (∀ W, Calls Try.prog 20 #[.string t] W fun e w' => e = .returned (.tuple #[.string p, .agg #[.int .i64 0, .int .i64 0]]) ∧ Below W.heap.size W w')) (HR : Hid (∀ W, Calls Try.prog 24 #[.string key, .string S] W fun e w' => e = .returned (.tuple #[.string p, .agg #[.int .i64 0, .int .i64 0]]) ∧ Below W.heap.size W w')) (HR2 : Hid (∀ W, Calls Try.prog 24 #[.string key, .string t] W fun e w' => e = .returned (.tuple #[.string R, .agg #[.int .i64 E, .int .i64 A]]) ∧ Below W.heap.size W w')) (w : World) : Calls Try.prog 7 #[.string key, .string t] w fun e w' => e = .returned (.bool true) ∧ Below w.heap.size w w' := by
  have HA := (show Hid (∀ W, Calls Try.prog 26 #[] W fun e w' => e = .returned (.bool true) ∧ Below W.heap.size W w') from zalive_any)
  go_enter Try.func7, Try.ntmps7
  go_wp2_with fail
  refine (HA.out _).mono ?_
  rintro e W0 ⟨rfl, hb0⟩
  go_wp2_with fail
  refine (HW.out _).mono ?_
  rintro e W1 ⟨rfl, hb1⟩
  have u1 : UAt w (W1.alloc (.cells #[.int .i64 0, .int .i64 0] 25)) W1.heap.size := ⟨RowAt.new _ _ _, (hb0.trans (hb1.mono hb0.size)).alloc (by have := hb0.size; have := hb1.size; omega) _, by have := hb0.size; have := hb1.size; omega⟩
  clear hb0 hb1
  go_wp2_with fail
  refine (HP.out _).mono ?_
  rintro e W2 ⟨rfl, hb2⟩
  have u2 := u1.step hb2
  obtain ⟨c0, c1, f0, f1⟩ := u2.cells
  have u3 := u2.set
  clear hb2 u1 u2
  go_wp2_with fail
  refine (HR.out _).mono ?_
  rintro e W3 ⟨rfl, hb3⟩
  have u4 := (u3.step hb3).alloc (.cells #[.int .i64 0, .int .i64 0] 25)
  clear hb3 c0 c1 f0 f1 u3
  obtain ⟨c0, c1, f0, f1⟩ := u4.cells
  go_wp2_with fail
  refine (HR2.out _).mono ?_
  rintro e W4 ⟨rfl, hb4⟩
  have u5 := u4.step hb4
  clear hb4 c0 c1 f0 f1 u4
  obtain ⟨c0, c1, f0, f1⟩ := u5.cells
  have hbe := (u5.below.setCell (p := ⟨W1.heap.size, 0, none⟩) u5.le (.int .i64 E)).setCell (p := ⟨W1.heap.size, 1, none⟩) u5.le (.int .i64 A)
  go_wp2
  go_ret
  exact ⟨rfl, hbe⟩
set_option maxRecDepth 100000 in
set_option maxHeartbeats 4000000 in
theorem zund_b (key t S p r : ByteArray) (hS : S.size = p.size) (HW : Hid (∀ W, Calls Try.prog 22 #[.string key, .string t] W fun e w' => e = .returned (.tuple #[.string S, .agg #[.int .i64 0, .int .i64 0]]) ∧ Below W.heap.size W w')) (HP : Hid (∀ W, Calls Try.prog 20 #[.string t] W fun e w' => e = .returned (.tuple #[.string p, .agg #[.int .i64 0, .int .i64 0]]) ∧ Below W.heap.size W w')) (HR : Hid (∀ W, Calls Try.prog 24 #[.string key, .string S] W fun e w' => e = .returned (.tuple #[.string p, .agg #[.int .i64 0, .int .i64 0]]) ∧ Below W.heap.size W w')) (HR2 : Hid (∀ W, Calls Try.prog 24 #[.string key, .string t] W fun e w' => e = .returned (.tuple #[.string r, .agg #[.int .i64 0, .int .i64 0]]) ∧ Below W.heap.size W w')) (HP2 : Hid (∀ W, Calls Try.prog 20 #[.string r] W fun e w' => e = .returned (.tuple #[.string r, .agg #[.int .i64 0, .int .i64 0]]) ∧ Below W.heap.size W w')) (HW2 : Hid (∀ W, Calls Try.prog 22 #[.string key, .string r] W fun e w' => e = .returned (.tuple #[.string t, .agg #[.int .i64 0, .int .i64 0]]) ∧ Below W.heap.size W w')) (w : World) : Calls Try.prog 7 #[.string key, .string t] w fun e w' => e = .returned (.bool true) ∧ Below w.heap.size w w' := by
  have HA := (show Hid (∀ W, Calls Try.prog 26 #[] W fun e w' => e = .returned (.bool true) ∧ Below W.heap.size W w') from zalive_any)
  go_enter Try.func7, Try.ntmps7
  go_wp2_with fail
  refine (HA.out _).mono ?_
  rintro e W0 ⟨rfl, hb0⟩
  go_wp2_with fail
  refine (HW.out _).mono ?_
  rintro e W1 ⟨rfl, hb1⟩
  have u1 : UAt w (W1.alloc (.cells #[.int .i64 0, .int .i64 0] 25)) W1.heap.size := ⟨RowAt.new _ _ _, (hb0.trans (hb1.mono hb0.size)).alloc (by have := hb0.size; have := hb1.size; omega) _, by have := hb0.size; have := hb1.size; omega⟩
  clear hb0 hb1
  go_wp2_with fail
  refine (HP.out _).mono ?_
  rintro e W2 ⟨rfl, hb2⟩
  have u2 := u1.step hb2
  obtain ⟨c0, c1, f0, f1⟩ := u2.cells
  have u3 := u2.set
  clear hb2 u1 u2
  go_wp2_with fail
  refine (HR.out _).mono ?_
  rintro e W3 ⟨rfl, hb3⟩
  have u4 := (u3.step hb3).alloc (.cells #[.int .i64 0, .int .i64 0] 25)
  clear hb3 c0 c1 f0 f1 u3
  obtain ⟨c0, c1, f0, f1⟩ := u4.cells
  go_wp2_with fail
  refine (HR2.out _).mono ?_
  rintro e W4 ⟨rfl, hb4⟩
  have u5 := u4.step hb4
  clear hb4 c0 c1 f0 f1 u4
  obtain ⟨c0, c1, f0, f1⟩ := u5.cells
  have u6 := u5.set
  clear u5
  go_wp2_with fail
  refine (HP2.out _).mono ?_
  rintro e W5 ⟨rfl, hb5⟩
  have u7 := u6.step hb5
  clear hb5 c0 c1 f0 f1 u6
  obtain ⟨c0, c1, f0, f1⟩ := u7.cells
  have u8 := u7.set
  clear u7
  go_wp2_with fail
  refine (HW2.out _).mono ?_
  rintro e W6 ⟨rfl, hb6⟩
  have u9 := u8.step hb6
  clear hb6 c0 c1 f0 f1 u8
  obtain ⟨c0, c1, f0, f1⟩ := u9.cells
  have uA := u9.set
  clear u9
  go_wp2
  go_ret
  exact ⟨rfl, uA.below⟩
theorem wt_cases (key t : List UInt8) : (wtE key t = 0 ∧ wtAt key t = 0 ∧ ckE key = 0 ∧ Ls key ∧ prE t = 0 ∧ wtS key t = twos (enc (laid key)) (prS t)) ∨ (wtE key t != 0) = true := by
  unfold wtE wtAt wtS
  by_cases hk : ckE key = 0
  · have h0 : ¬ ckE key ≠ 0 := fun h => h hk
    rw [if_neg h0, if_neg h0, if_neg h0]
    rcases pr_cases t with ⟨p1, p2, _⟩ | p1
    · have h1 : ¬ prE t ≠ 0 := fun h => h p1
      rw [if_neg h1]
      exact .inl ⟨p1, p2, hk, (ck_ls hk).2.2, p1, rfl⟩
    · exact .inr p1
  · rw [if_pos hk]
    exact .inr (by simpa using hk)
theorem pr_good {l : List UInt8} (h : Zq.Good l) (hl : l.length ≤ 65536) : prE l = 0 ∧ prAt l = 0 ∧ prS l = l := by
  have hc := ck_of_ls h.ls hl
  have h0 : ¬ ckE l ≠ 0 := fun e => e hc.1
  have hm : l.map jI = l := map_nj h.nj
  unfold prE prAt prS
  rw [if_neg h0, if_neg h0, if_neg h0, hm, prs_id h, if_neg (by omega), if_neg (by omega)]
  exact ⟨rfl, rfl, rfl⟩
theorem rd_good {key l : List UInt8} (hk : ckE key = 0) (h : Zq.Good l) (hl : l.length ≤ 65536) : rdE key l = 0 ∧ rdAt key l = 0 ∧ rdS key l = twos (dec (laid key)) l := by
  have hc := ck_of_ls h.ls hl
  have h0 : ¬ ckE l ≠ 0 := fun e => e hc.1
  have h1 : ¬ ckE key ≠ 0 := fun e => e hk
  have hu := un_none h.even (good_fw h)
  have h2 : ¬ unE l ≠ 0 := fun e => e hu.1
  unfold rdE rdAt rdS
  rw [if_neg h1, if_neg h1, if_neg h1, if_neg h0, if_neg h0, if_neg h0, if_neg h2]
  exact ⟨hu.1, hu.2, rfl⟩
theorem rd_cases {key t : List UInt8} (hk : ckE key = 0) : (rdE key t = 0 ∧ rdAt key t = 0 ∧ Zq.Good t ∧ t.length ≤ 65536 ∧ rdS key t = twos (dec (laid key)) t) ∨ (rdE key t != 0) = true := by
  have h1 : ¬ ckE key ≠ 0 := fun e => e hk
  by_cases ht : ckE t = 0
  · obtain ⟨t1, t2, t3⟩ := ck_ls ht
    rcases un_cases t3 with ⟨_, _, u3⟩ | u1
    · have := rd_good (key := key) hk u3 t2
      exact .inl ⟨this.1, this.2.1, u3, t2, this.2.2⟩
    · unfold rdE
      rw [if_neg h1, if_neg (fun e => e ht)]
      exact .inr u1
  · unfold rdE
    rw [if_neg h1, if_pos ht]
    exact .inr (by simpa using ht)
theorem wt_good {key l : List UInt8} (hk : ckE key = 0) (h : Zq.Good l) (hl : l.length ≤ 65536) : wtE key l = 0 ∧ wtAt key l = 0 ∧ wtS key l = twos (enc (laid key)) l := by
  have h1 : ¬ ckE key ≠ 0 := fun e => e hk
  obtain ⟨p1, p2, p3⟩ := pr_good h hl
  have h2 : ¬ prE l ≠ 0 := fun e => e p1
  unfold wtE wtAt wtS
  rw [if_neg h1, if_neg h1, if_neg h1, if_neg h2, p3]
  exact ⟨p1, p2, rfl⟩
theorem zundone_any (key t : ByteArray) (w : World) : Calls Try.prog 7 #[.string key, .string t] w fun e w' => e = .returned (.bool true) ∧ Below w.heap.size w w' := by
  rcases wt_cases key.data.toList t.data.toList with ⟨e1, e2, hk, kl, hp, es⟩ | e1
  · rcases pr_cases t.data.toList with ⟨p1, p2, p3, p4, p5, p6, p7, p8, p9⟩ | p1
    · have hsq := sq_laid kl
      have hl : (twos (enc (laid key.data.toList)) (prS t.data.toList)).length = (prS t.data.toList).length := twos_length _ p9
      have hg := enc_good hsq p9
      have HW : ∀ W, Calls Try.prog 22 #[.string key, .string t] W fun e w' => e = .returned (.tuple #[.string ⟨(twos (enc (laid key.data.toList)) (prS t.data.toList)).toArray⟩, .agg #[.int .i64 0, .int .i64 0]]) ∧ Below W.heap.size W w' := fun W => by have := zwr_any key t W; rw [e1, e2, es] at this; exact this
      have HP : ∀ W, Calls Try.prog 20 #[.string t] W fun e w' => e = .returned (.tuple #[.string ⟨(prS t.data.toList).toArray⟩, .agg #[.int .i64 0, .int .i64 0]]) ∧ Below W.heap.size W w' := fun W => by have := zpr_any t W; rw [p1, p2] at this; exact this
      have HR : ∀ W, Calls Try.prog 24 #[.string key, .string ⟨(twos (enc (laid key.data.toList)) (prS t.data.toList)).toArray⟩] W fun e w' => e = .returned (.tuple #[.string ⟨(prS t.data.toList).toArray⟩, .agg #[.int .i64 0, .int .i64 0]]) ∧ Below W.heap.size W w' := fun W => by
        have := zrd_any key ⟨(twos (enc (laid key.data.toList)) (prS t.data.toList)).toArray⟩ W
        have hr := rd_good (key := key.data.toList) hk hg (by rw [hl]; exact p8)
        rw [show (⟨(twos (enc (laid key.data.toList)) (prS t.data.toList)).toArray⟩ : ByteArray).data.toList = twos (enc (laid key.data.toList)) (prS t.data.toList) from rfl, hr.1, hr.2.1, hr.2.2, dec_enc hsq p9] at this
        exact this
      have hsz : (⟨(twos (enc (laid key.data.toList)) (prS t.data.toList)).toArray⟩ : ByteArray).size = (⟨(prS t.data.toList).toArray⟩ : ByteArray).size := by rw [ba_size, ba_size, hl]
      rcases rd_cases (key := key.data.toList) (t := t.data.toList) hk with ⟨r1, r2, r3, r4, r5⟩ | r1
      · have hl2 : (twos (dec (laid key.data.toList)) t.data.toList).length = t.data.toList.length := twos_length _ r3
        have hg2 := dec_good hsq r3
        have q1 := pr_good hg2 (by rw [hl2]; exact r4)
        have q2 := wt_good (key := key.data.toList) hk hg2 (by rw [hl2]; exact r4)
        refine zund_b key t _ _ ⟨(twos (dec (laid key.data.toList)) t.data.toList).toArray⟩ hsz HW HP HR (fun W => ?_) (fun W => ?_) (fun W => ?_) w
        · have := zrd_any key t W; rw [r1, r2, r5] at this; exact this
        · have := zpr_any ⟨(twos (dec (laid key.data.toList)) t.data.toList).toArray⟩ W
          rw [show (⟨(twos (dec (laid key.data.toList)) t.data.toList).toArray⟩ : ByteArray).data.toList = twos (dec (laid key.data.toList)) t.data.toList from rfl, q1.1, q1.2.1, q1.2.2] at this
          exact this
        · have := zwr_any key ⟨(twos (dec (laid key.data.toList)) t.data.toList).toArray⟩ W
          rw [show (⟨(twos (dec (laid key.data.toList)) t.data.toList).toArray⟩ : ByteArray).data.toList = twos (dec (laid key.data.toList)) t.data.toList from rfl, q2.1, q2.2.1, q2.2.2, enc_dec hsq r3, ba_list] at this
          exact this
      · exact zund_a key t _ _ _ hsz _ _ r1 HW HP HR (fun W => zrd_any key t W) w
    · rw [hp] at p1; cases p1
  · exact zund_bad key t _ _ _ e1 (fun W => zwr_any key t W) w
end Go.Proofs.Ytmabamlhhmjbaad
