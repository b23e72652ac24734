/-
  Contract of square.Write.
-/
import Derived.Test.YtmabamlhhmjbaadZPr
import Derived.Test.YtmabamlhhmjbaadZMv
namespace Go.Proofs.Ytmabamlhhmjbaad
open Go.RowKit PK Vg Zq

theorem sq_enc_any (key p : ByteArray) (hk : Ls key.data.toList) (hp : Zq.Good p.data.toList) (hs : p.size ≤ 65536) (w : World) : Calls Try.prog 42 #[.agg (shV (laid key.data.toList)), .string p, .int .i64 1] w fun e w' => e = .returned (.string ⟨(twos (enc (laid key.data.toList)) p.data.toList).toArray⟩) ∧ Below w.heap.size w w' :=
  moved_any _ (sq_laid hk) 1 (by decide) p hs (by rw [Pl.size_len]; exact hp.even) (fun c hc => (laid_mem hk c).2 ((mem_alpha c).2 (hp.nj c hc))) w
theorem sq_dec_any (key p : ByteArray) (hk : Ls key.data.toList) (hp : Zq.Good p.data.toList) (hs : p.size ≤ 65536) (w : World) : Calls Try.prog 42 #[.agg (shV (laid key.data.toList)), .string p, .int .i64 4] w fun e w' => e = .returned (.string ⟨(twos (dec (laid key.data.toList)) p.data.toList).toArray⟩) ∧ Below w.heap.size w w' :=
  moved_any _ (sq_laid hk) 4 (by decide) p hs (by rw [Pl.size_len]; exact hp.even) (fun c hc => (laid_mem hk c).2 ((mem_alpha c).2 (hp.nj c hc))) w
set_option maxRecDepth 100000 in
set_option maxHeartbeats 4000000 in
theorem zwr_key (key t : ByteArray) (hE : (ckE key.data.toList != 0) = true) (w : World) : Calls Try.prog 22 #[.string key, .string t] w fun e w' => e = .returned (.tuple #[.string ⟨#[]⟩, .agg #[.int .i64 (ckE key.data.toList), .int .i64 (ckAt key.data.toList)]]) ∧ Below w.heap.size w w' := by
  have HT := (show Hid (∀ W, Calls Try.prog 27 #[.string key] W fun e w' => e = .returned (.agg #[.int .i64 (ckE key.data.toList), .int .i64 (ckAt key.data.toList)]) ∧ Below W.heap.size W w') from fun W => check_all key W)
  generalize ckE key.data.toList = E at *
  generalize ckAt key.data.toList = A at *
  go_enter Try.func22, Try.ntmps22
  go_wp2_with fail
  refine (HT.out _).mono ?_
  rintro e W1 ⟨rfl, hb⟩
  have hb1 : Below (w.heap.size + 1) (w.alloc (.cells #[.int .i64 0, .int .i64 0] 25)) W1 := by simpa using hb
  have hz := hb1.size
  simp at hz
  have hb2 := hb1.alloc (by omega) (.cells #[.int .i64 E, .int .i64 A] 25)
  clear hb
  obtain ⟨c0, c1, f0, f1, hsz⟩ := Kit.two_cells hb2
  clear HT hb1
  go_wp2_with fail
  go_region
  all_goals (try go_wp2)
  have q := Kit.read_two (.int .i64 E) (.int .i64 A) c0 c1
  refine bodyPost_ret (v := .tuple #[.string ⟨#[]⟩, .agg #[.int .i64 E, .int .i64 A]]) (by simp [results, Try.results22, go_sem, q.1, q.2]) rfl ⟨rfl, ?_⟩
  exact (Kit.below_two hb2 _ _).drew
set_option maxRecDepth 100000 in
set_option maxHeartbeats 4000000 in
theorem zwr_text (key t : ByteArray) (hE : ckE key.data.toList = 0) (hA : ckAt key.data.toList = 0) (hP : (prE t.data.toList != 0) = true) (w : World) : Calls Try.prog 22 #[.string key, .string t] w fun e w' => e = .returned (.tuple #[.string ⟨#[]⟩, .agg #[.int .i64 (prE t.data.toList), .int .i64 (prAt t.data.toList)]]) ∧ Below w.heap.size w w' := by
  have HT := (show Hid (∀ W, Calls Try.prog 27 #[.string key] W fun e w' => e = .returned (.agg #[.int .i64 0, .int .i64 0]) ∧ Below W.heap.size W w') from fun W => by have := check_all key W; rw [hE, hA] at this; exact this)
  have HP := (show Hid (∀ W, Calls Try.prog 20 #[.string t] W fun e w' => e = .returned (.tuple #[.string ⟨(prS t.data.toList).toArray⟩, .agg #[.int .i64 (prE t.data.toList), .int .i64 (prAt t.data.toList)]]) ∧ Below W.heap.size W w') from fun W => zpr_any t W)
  generalize prE t.data.toList = E at *
  generalize prAt t.data.toList = A at *
  generalize (⟨(prS t.data.toList).toArray⟩ : ByteArray) = R at *
  clear hE hA
  go_enter Try.func22, Try.ntmps22
  go_wp2_with fail
  refine (HT.out _).mono ?_
  rintro e W1 ⟨rfl, hb⟩
  have hb1 : Below (w.heap.size + 1) (w.alloc (.cells #[.int .i64 0, .int .i64 0] 25)) W1 := by simpa using hb
  have hz := hb1.size
  simp at hz
  have hb2 := hb1.alloc (by omega) (.cells #[.int .i64 0, .int .i64 0] 25)
  clear hb hb1 HT
  go_wp2_with fail
  refine (HP.out _).mono ?_
  rintro e W2 ⟨rfl, hb3⟩
  have hz3 := hb3.size
  simp at hz3
  have hb4 := (hb2.trans (hb3.mono (by simp; omega))).alloc (by omega) (.cells #[.int .i64 E, .int .i64 A] 25)
  clear hb2 hb3 HP
  obtain ⟨c0, c1, f0, f1, hsz⟩ := Kit.two_cells hb4
  go_wp2_with fail
  go_region
  all_goals (try go_wp2)
  have q := Kit.read_two (.int .i64 E) (.int .i64 A) c0 c1
  refine bodyPost_ret (v := .tuple #[.string ⟨#[]⟩, .agg #[.int .i64 E, .int .i64 A]]) (by simp [results, Try.results22, go_sem, q.1, q.2]) rfl ⟨rfl, ?_⟩
  exact (Kit.below_two hb4 _ _).drew
set_option maxRecDepth 100000 in
set_option maxHeartbeats 4000000 in
theorem zwr_run (key t p r : ByteArray) (V : Array Value) (w : World)
    (HT : Hid (∀ W, Calls Try.prog 27 #[.string key] W fun e w' => e = .returned (.agg #[.int .i64 0, .int .i64 0]) ∧ Below W.heap.size W w'))
    (HP : Hid (∀ W, Calls Try.prog 20 #[.string t] W fun e w' => e = .returned (.tuple #[.string p, .agg #[.int .i64 0, .int .i64 0]]) ∧ Below W.heap.size W w'))
    (HS : Hid (∀ W, Calls Try.prog 37 #[.string key] W fun e w' => e = .returned (.agg V) ∧ Below W.heap.size W w'))
    (HM : Hid (∀ W, Calls Try.prog 42 #[.agg V, .string p, .int .i64 1] W fun e w' => e = .returned (.string r) ∧ Below W.heap.size W w')) :
    Calls Try.prog 22 #[.string key, .string t] w fun e w' => e = .returned (.tuple #[.string r, .agg #[.int .i64 0, .int .i64 0]]) ∧ Below w.heap.size w w' := by
  go_enter Try.func22, Try.ntmps22
  go_wp2_with fail
  refine (HT.out _).mono ?_
  rintro e W1 ⟨rfl, hb⟩
  have hb1 : Below (w.heap.size + 1) (w.alloc (.cells #[.int .i64 0, .int .i64 0] 25)) W1 := by simpa using hb
  have hz := hb1.size
  simp at hz
  have hb2 := hb1.alloc (by omega) (.cells #[.int .i64 0, .int .i64 0] 25)
  clear hb hb1 HT
  go_wp2_with fail
  refine (HP.out _).mono ?_
  rintro e W2 ⟨rfl, hb3⟩
  have hz3 := hb3.size
  simp at hz3
  have hb4 := (hb2.trans (hb3.mono (by simp; omega))).alloc (by omega) (.cells #[.int .i64 0, .int .i64 0] 25)
  clear hb2 hb3 HP
  go_wp2_with fail
  refine (HS.out _).mono ?_
  rintro e W3 ⟨rfl, hb5⟩
  have hz5 := hb5.size
  simp at hz5
  have hb6 := hb4.trans (hb5.mono (by simp; omega))
  clear hb4 hb5
  go_wp2_with fail
  refine (HM.out _).mono ?_
  rintro e W4 ⟨rfl, hb7⟩
  have hz7 := hb7.size
  have hb8 := hb6.trans (hb7.mono (by omega))
  clear hb6 hb7 HM HS
  obtain ⟨c0, c1, f0, f1, hsz⟩ := Kit.two_cells hb8
  go_wp2
  have q := Kit.read_two (.int .i64 0) (.int .i64 0) c0 c1
  refine bodyPost_ret (v := .tuple #[.string r, .agg #[.int .i64 0, .int .i64 0]]) (by simp [results, Try.results22, go_sem, q.1, q.2]) rfl ⟨rfl, ?_⟩
  exact Kit.below_two hb8 _ _
/-- What Write says. -/
def wtE (key t : List UInt8) : Int := if ckE key ≠ 0 then ckE key else prE t
def wtAt (key t : List UInt8) : Int := if ckE key ≠ 0 then ckAt key else prAt t
def wtS (key t : List UInt8) : List UInt8 := if ckE key ≠ 0 then [] else if prE t ≠ 0 then [] else twos (enc (laid key)) (prS t)
theorem pr_cases (t : List UInt8) : (prE t = 0 ∧ prAt t = 0 ∧ ckE t = 0 ∧ ckAt t = 0 ∧ t.length ≤ 65536 ∧ Ls t ∧ prS t = prs (t.map jI) ∧ (prS t).length ≤ 65536 ∧ Zq.Good (prS t)) ∨ (prE t != 0) = true := by
  unfold prE prAt prS
  rcases ck_cases t with ⟨e1, e2, e3, e4⟩ | e1
  · have h0 : ¬ ckE t ≠ 0 := fun h => h e1
    rw [if_neg h0, if_neg h0, if_neg h0]
    by_cases hm : 65536 < (prs (t.map jI)).length
    · rw [if_pos hm]; exact .inr rfl
    · rw [if_neg hm, if_neg hm]
      exact .inl ⟨rfl, rfl, e1, e2, e3, ls_of e4, rfl, by omega, prs_good _ (nj_map (ls_of e4))⟩
  · have h0 : ckE t ≠ 0 := by simpa using e1
    rw [if_pos h0]
    exact .inr e1
theorem ck_ls {t : List UInt8} (h : ckE t = 0) : ckAt t = 0 ∧ t.length ≤ 65536 ∧ Ls t := by
  rcases ck_cases t with ⟨_, e2, e3, e4⟩ | e1
  · exact ⟨e2, e3, ls_of e4⟩
  · rw [h] at e1; cases e1
theorem zwr_any (key t : ByteArray) (w : World) : Calls Try.prog 22 #[.string key, .string t] w fun e w' => e = .returned (.tuple #[.string ⟨(wtS key.data.toList t.data.toList).toArray⟩, .agg #[.int .i64 (wtE key.data.toList t.data.toList), .int .i64 (wtAt key.data.toList t.data.toList)]]) ∧ Below w.heap.size w w' := by
  unfold wtS wtE wtAt
  by_cases hk : ckE key.data.toList = 0
  · have h0 : ¬ ckE key.data.toList ≠ 0 := fun h => h hk
    rw [if_neg h0, if_neg h0, if_neg h0]
    obtain ⟨k1, k2, k3⟩ := ck_ls hk
    rcases pr_cases t.data.toList with ⟨p1, p2, p3, p4, p5, p6, p7, p8, p9⟩ | p1
    · have h1 : ¬ prE t.data.toList ≠ 0 := fun h => h p1
      rw [if_neg h1, p1, p2]
      refine zwr_run key t ⟨(prS t.data.toList).toArray⟩ _ _ w (fun W => by have := check_all key W; rw [hk, k1] at this; exact this) (fun W => by have := zpr_any t W; rw [p1, p2] at this; exact this) (fun W => sheet_any key (by rw [Pl.size_len]; exact k2) k3 W) (fun W => sq_enc_any key ⟨(prS t.data.toList).toArray⟩ k3 p9 (by rw [ba_size]; exact p8) W)
    · have h1 : prE t.data.toList ≠ 0 := by simpa using p1
      rw [if_pos h1]
      exact zwr_text key t hk k1 p1 w
  · rw [if_pos hk, if_pos hk, if_pos hk]
    exact zwr_key key t (by simpa using hk) w
end Go.Proofs.Ytmabamlhhmjbaad
