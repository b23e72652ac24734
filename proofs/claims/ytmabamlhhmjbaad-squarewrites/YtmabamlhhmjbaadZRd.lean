/-
  Contract of square.Read.
-/
import Derived.Test.YtmabamlhhmjbaadZWr
import Derived.Test.YtmabamlhhmjbaadZUn
namespace Go.Proofs.Ytmabamlhhmjbaad
open Go.RowKit PK Vg Zq

set_option maxRecDepth 100000 in
set_option maxHeartbeats 4000000 in
theorem zrd_key (key t : ByteArray) (E A : Int) (hE : (E != 0) = true) (HK : Hid (∀ W, Calls Try.prog 27 #[.string key] W fun e w' => e = .returned (.agg #[.int .i64 E, .int .i64 A]) ∧ Below W.heap.size W w')) (w : World) : Calls Try.prog 24 #[.string key, .string t] w fun e w' => e = .returned (.tuple #[.string ⟨#[]⟩, .agg #[.int .i64 E, .int .i64 A]]) ∧ Below w.heap.size w w' := by
  go_enter Try.func24, Try.ntmps24
  have hb3 : Below (w.heap.size + 1) (w.alloc (.cells #[.int .i64 0, .int .i64 0] 25)) ((w.alloc (.cells #[.int .i64 0, .int .i64 0] 25)).alloc (.cells #[.string key, .string t] 9)) := (Below.refl _ _).alloc (by simp) _
  have r3 := RowAt.new (w.alloc (.cells #[.int .i64 0, .int .i64 0] 25)) 9 #[.string key, .string t]
  rw [World.size_alloc] at r3
  have z0 := r3.cell (i := 0) rfl
  have z1 := r3.cell (i := 1) rfl
  go_wp2_with fail
  refine wp_loop_rounds 3 ?_
  rw [rounds_succ]
  go_wp2_with fail
  refine (HK.out _).mono ?_
  rintro e X4 ⟨rfl, hc⟩
  have hb4 := (hb3.trans (hc.mono (by have := hb3.size; simp at this ⊢ <;> omega))).alloc (by have := hb3.size; have := hc.size; simp at * <;> omega) (.cells #[.int .i64 E, .int .i64 A] 25)
  clear hc hb3 r3 z0 z1
  obtain ⟨c0, c1, f0, f1, hsz⟩ := Kit.two_cells hb4
  go_wp2_with fail
  go_region
  all_goals (try go_wp2)
  have q := Kit.read_two (.int .i64 E) (.int .i64 A) c0 c1
  refine bodyPost_ret (v := .tuple #[.string ⟨#[]⟩, .agg #[.int .i64 E, .int .i64 A]]) (by simp [results, Try.results24, go_sem, q.1, q.2]) rfl ⟨rfl, ?_⟩
  exact (Kit.below_two hb4 _ _).drew
set_option maxRecDepth 100000 in
set_option maxHeartbeats 4000000 in
theorem zrd_text (key t : ByteArray) (E A : Int) (hE : (E != 0) = true) (HK : Hid (∀ W, Calls Try.prog 27 #[.string key] W fun e w' => e = .returned (.agg #[.int .i64 0, .int .i64 0]) ∧ Below W.heap.size W w')) (HT : Hid (∀ W, Calls Try.prog 27 #[.string t] W fun e w' => e = .returned (.agg #[.int .i64 E, .int .i64 A]) ∧ Below W.heap.size W w')) (w : World) : Calls Try.prog 24 #[.string key, .string t] w fun e w' => e = .returned (.tuple #[.string ⟨#[]⟩, .agg #[.int .i64 E, .int .i64 A]]) ∧ Below w.heap.size w w' := by
  go_enter Try.func24, Try.ntmps24
  have hb3 : Below (w.heap.size + 1) (w.alloc (.cells #[.int .i64 0, .int .i64 0] 25)) ((w.alloc (.cells #[.int .i64 0, .int .i64 0] 25)).alloc (.cells #[.string key, .string t] 9)) := (Below.refl _ _).alloc (by simp) _
  have r3 := RowAt.new (w.alloc (.cells #[.int .i64 0, .int .i64 0] 25)) 9 #[.string key, .string t]
  rw [World.size_alloc] at r3
  have z0 := r3.cell (i := 0) rfl
  have z1 := r3.cell (i := 1) rfl
  go_wp2_with fail
  refine wp_loop_rounds 3 ?_
  rw [rounds_succ]
  go_wp2_with fail
  refine (HK.out _).mono ?_
  rintro e X4 ⟨rfl, hc⟩
  have hb4 := (hb3.trans (hc.mono (by have := hb3.size; simp at this ⊢ <;> omega))).alloc (by have := hb3.size; have := hc.size; simp at * <;> omega) (.cells #[.int .i64 0, .int .i64 0] 25)
  have r4 := (r3.below hc r3.lt).alloc (.cells #[.int .i64 0, .int .i64 0] 25)
  clear hc hb3 r3 z0 z1
  have z0 := r4.cell (i := 0) rfl
  have z1 := r4.cell (i := 1) rfl
  go_wp2_with fail
  rw [rounds_succ]
  go_wp2_with fail
  refine (HT.out _).mono ?_
  rintro e X5 ⟨rfl, hc⟩
  have hb5 := (hb4.trans (hc.mono (by have := hb4.size; simp at this ⊢ <;> omega))).alloc (by have := hb4.size; have := hc.size; simp at * <;> omega) (.cells #[.int .i64 E, .int .i64 A] 25)
  clear hc hb4 r4 z0 z1
  obtain ⟨c0, c1, f0, f1, hsz⟩ := Kit.two_cells hb5
  go_wp2_with fail
  go_region
  all_goals (try go_wp2)
  have q := Kit.read_two (.int .i64 E) (.int .i64 A) c0 c1
  refine bodyPost_ret (v := .tuple #[.string ⟨#[]⟩, .agg #[.int .i64 E, .int .i64 A]]) (by simp [results, Try.results24, go_sem, q.1, q.2]) rfl ⟨rfl, ?_⟩
  exact (Kit.below_two hb5 _ _).drew
set_option maxRecDepth 100000 in
set_option maxHeartbeats 4000000 in
theorem zrd_un (key t : ByteArray) (L : List UInt8) (E A : Int) (hE : (E != 0) = true) (HK : Hid (∀ W, Calls Try.prog 27 #[.string key] W fun e w' => e = .returned (.agg #[.int .i64 0, .int .i64 0]) ∧ Below W.heap.size W w')) (HT : Hid (∀ W, Calls Try.prog 27 #[.string t] W fun e w' => e = .returned (.agg #[.int .i64 0, .int .i64 0]) ∧ Below W.heap.size W w'))
    (HS : Hid (∀ W, Calls Try.prog 37 #[.string key] W fun e w' => e = .returned (.agg (shV L)) ∧ Below W.heap.size W w'))
    (HU : Hid (∀ W, Calls Try.prog 44 #[.agg (shV L), .string t] W fun e w' => e = .returned (.agg #[.int .i64 E, .int .i64 A]) ∧ Below W.heap.size W w')) (w : World) : Calls Try.prog 24 #[.string key, .string t] w fun e w' => e = .returned (.tuple #[.string ⟨#[]⟩, .agg #[.int .i64 E, .int .i64 A]]) ∧ Below w.heap.size w w' := by
  go_enter Try.func24, Try.ntmps24
  have hb3 : Below (w.heap.size + 1) (w.alloc (.cells #[.int .i64 0, .int .i64 0] 25)) ((w.alloc (.cells #[.int .i64 0, .int .i64 0] 25)).alloc (.cells #[.string key, .string t] 9)) := (Below.refl _ _).alloc (by simp) _
  have r3 := RowAt.new (w.alloc (.cells #[.int .i64 0, .int .i64 0] 25)) 9 #[.string key, .string t]
  rw [World.size_alloc] at r3
  have z0 := r3.cell (i := 0) rfl
  have z1 := r3.cell (i := 1) rfl
  go_wp2_with fail
  refine wp_loop_rounds 3 ?_
  rw [rounds_succ]
  go_wp2_with fail
  refine (HK.out _).mono ?_
  rintro e X4 ⟨rfl, hc⟩
  have hb4 := (hb3.trans (hc.mono (by have := hb3.size; simp at this ⊢ <;> omega))).alloc (by have := hb3.size; have := hc.size; simp at * <;> omega) (.cells #[.int .i64 0, .int .i64 0] 25)
  have r4 := (r3.below hc r3.lt).alloc (.cells #[.int .i64 0, .int .i64 0] 25)
  clear hc hb3 r3 z0 z1
  have z0 := r4.cell (i := 0) rfl
  have z1 := r4.cell (i := 1) rfl
  go_wp2_with fail
  rw [rounds_succ]
  go_wp2_with fail
  refine (HT.out _).mono ?_
  rintro e X5 ⟨rfl, hc⟩
  have hb5 := (hb4.trans (hc.mono (by have := hb4.size; simp at this ⊢ <;> omega))).alloc (by have := hb4.size; have := hc.size; simp at * <;> omega) (.cells #[.int .i64 0, .int .i64 0] 25)
  clear hc hb4 r4 z0 z1
  go_wp2_with fail
  rw [rounds_succ]
  have hz66 := run_zero v_zero_sheet
  go_wp2_with fail
  refine (HS.out _).mono ?_
  rintro e X6 ⟨rfl, hc⟩
  have hb6 := (hb5.trans (hc.mono (by have := hb5.size; simp at this ⊢ <;> omega))).alloc (by have := hb5.size; have := hc.size; simp at * <;> omega) (.cells (shV L) 66)
  have r6 := RowAt.new X6 66 (shV L)
  clear hc hb5
  go_wp2_with (first | (refine wpList_store_row rfl 66 _ _ rfl X6.heap.size (shV L) rfl rfl 66 _ (RowAt.new X6 66 (shV [])) (by rw [shV_size]; exact v_size_sheet) (by rw [shV_size, shV_size]) (shV_one _) ?_; rw [World.setRow_alloc_new]) | refine wpList_load_row rfl 66 _ rfl X6.heap.size rfl 66 (shV L) (0, 0) _ r6 Try.underlying66 rfl (by rw [shV_size]; exact v_size_sheet) ?_)
  refine (HU.out _).mono ?_
  rintro e X7 ⟨rfl, hc⟩
  have hb7 := (hb6.trans (hc.mono (by have := hb6.size; simp at this ⊢ <;> omega))).alloc (by have := hb6.size; have := hc.size; simp at * <;> omega) (.cells #[.int .i64 E, .int .i64 A] 25)
  clear hc hb6
  obtain ⟨c0, c1, f0, f1, hsz⟩ := Kit.two_cells hb7
  go_wp2_with fail
  go_region
  all_goals (try go_wp2)
  have q := Kit.read_two (.int .i64 E) (.int .i64 A) c0 c1
  refine bodyPost_ret (v := .tuple #[.string ⟨#[]⟩, .agg #[.int .i64 E, .int .i64 A]]) (by simp [results, Try.results24, go_sem, q.1, q.2]) rfl ⟨rfl, ?_⟩
  exact (Kit.below_two hb7 _ _).drew
set_option maxRecDepth 100000 in
set_option maxHeartbeats 4000000 in
theorem zrd_run (key t r : ByteArray) (L : List UInt8) (HK : Hid (∀ W, Calls Try.prog 27 #[.string key] W fun e w' => e = .returned (.agg #[.int .i64 0, .int .i64 0]) ∧ Below W.heap.size W w')) (HT : Hid (∀ W, Calls Try.prog 27 #[.string t] W fun e w' => e = .returned (.agg #[.int .i64 0, .int .i64 0]) ∧ Below W.heap.size W w'))
    (HS : Hid (∀ W, Calls Try.prog 37 #[.string key] W fun e w' => e = .returned (.agg (shV L)) ∧ Below W.heap.size W w'))
    (HU : Hid (∀ W, Calls Try.prog 44 #[.agg (shV L), .string t] W fun e w' => e = .returned (.agg #[.int .i64 0, .int .i64 0]) ∧ Below W.heap.size W w'))
    (HM : Hid (∀ W, Calls Try.prog 42 #[.agg (shV L), .string t, .int .i64 4] W fun e w' => e = .returned (.string r) ∧ Below W.heap.size W w')) (w : World) : Calls Try.prog 24 #[.string key, .string t] w fun e w' => e = .returned (.tuple #[.string r, .agg #[.int .i64 0, .int .i64 0]]) ∧ Below w.heap.size w w' := by
  go_enter Try.func24, Try.ntmps24
  have hb3 : Below (w.heap.size + 1) (w.alloc (.cells #[.int .i64 0, .int .i64 0] 25)) ((w.alloc (.cells #[.int .i64 0, .int .i64 0] 25)).alloc (.cells #[.string key, .string t] 9)) := (Below.refl _ _).alloc (by simp) _
  have r3 := RowAt.new (w.alloc (.cells #[.int .i64 0, .int .i64 0] 25)) 9 #[.string key, .string t]
  rw [World.size_alloc] at r3
  have z0 := r3.cell (i := 0) rfl
  have z1 := r3.cell (i := 1) rfl
  go_wp2_with fail
  refine wp_loop_rounds 3 ?_
  rw [rounds_succ]
  go_wp2_with fail
  refine (HK.out _).mono ?_
  rintro e X4 ⟨rfl, hc⟩
  have hb4 := (hb3.trans (hc.mono (by have := hb3.size; simp at this ⊢ <;> omega))).alloc (by have := hb3.size; have := hc.size; simp at * <;> omega) (.cells #[.int .i64 0, .int .i64 0] 25)
  have r4 := (r3.below hc r3.lt).alloc (.cells #[.int .i64 0, .int .i64 0] 25)
  clear hc hb3 r3 z0 z1
  have z0 := r4.cell (i := 0) rfl
  have z1 := r4.cell (i := 1) rfl
  go_wp2_with fail
  rw [rounds_succ]
  go_wp2_with fail
  refine (HT.out _).mono ?_
  rintro e X5 ⟨rfl, hc⟩
  have hb5 := (hb4.trans (hc.mono (by have := hb4.size; simp at this ⊢ <;> omega))).alloc (by have := hb4.size; have := hc.size; simp at * <;> omega) (.cells #[.int .i64 0, .int .i64 0] 25)
  clear hc hb4 r4 z0 z1
  go_wp2_with fail
  rw [rounds_succ]
  have hz66 := run_zero v_zero_sheet
  go_wp2_with fail
  refine (HS.out _).mono ?_
  rintro e X6 ⟨rfl, hc⟩
  have hb6 := (hb5.trans (hc.mono (by have := hb5.size; simp at this ⊢ <;> omega))).alloc (by have := hb5.size; have := hc.size; simp at * <;> omega) (.cells (shV L) 66)
  have r6 := RowAt.new X6 66 (shV L)
  clear hc hb5
  go_wp2_with (first | (refine wpList_store_row rfl 66 _ _ rfl X6.heap.size (shV L) rfl rfl 66 _ (RowAt.new X6 66 (shV [])) (by rw [shV_size]; exact v_size_sheet) (by rw [shV_size, shV_size]) (shV_one _) ?_; rw [World.setRow_alloc_new]) | refine wpList_load_row rfl 66 _ rfl X6.heap.size rfl 66 (shV L) (0, 0) _ r6 Try.underlying66 rfl (by rw [shV_size]; exact v_size_sheet) ?_)
  refine (HU.out _).mono ?_
  rintro e X7 ⟨rfl, hc⟩
  have hb7 := (hb6.trans (hc.mono (by have := hb6.size; simp at this ⊢ <;> omega))).alloc (by have := hb6.size; have := hc.size; simp at * <;> omega) (.cells #[.int .i64 0, .int .i64 0] 25)
  have r7 := (r6.below hc r6.lt).alloc (.cells #[.int .i64 0, .int .i64 0] 25)
  clear hc hb6 r6
  go_wp2_with (first | refine wpList_load_row rfl 66 _ rfl X6.heap.size rfl 66 (shV L) (0, 0) _ r7 Try.underlying66 rfl (by rw [shV_size]; exact v_size_sheet) ?_)
  refine (HM.out _).mono ?_
  rintro e X8 ⟨rfl, hc⟩
  have hb8 := hb7.trans (hc.mono (by have := hb7.size; simp at this ⊢ <;> omega))
  clear hc hb7 r7
  obtain ⟨c0, c1, f0, f1, hsz⟩ := Kit.two_cells hb8
  go_wp2
  have q := Kit.read_two (.int .i64 0) (.int .i64 0) c0 c1
  refine bodyPost_ret (v := .tuple #[.string r, .agg #[.int .i64 0, .int .i64 0]]) (by simp [results, Try.results24, go_sem, q.1, q.2]) rfl ⟨rfl, ?_⟩
  exact Kit.below_two hb8 _ _
/-- What Read says. -/
def rdE (key t : List UInt8) : Int := if ckE key ≠ 0 then ckE key else if ckE t ≠ 0 then ckE t else unE t
def rdAt (key t : List UInt8) : Int := if ckE key ≠ 0 then ckAt key else if ckE t ≠ 0 then ckAt t else unAt t
def rdS (key t : List UInt8) : List UInt8 := if ckE key ≠ 0 then [] else if ckE t ≠ 0 then [] else if unE t ≠ 0 then [] else twos (dec (laid key)) t
theorem un_cases {t : List UInt8} (ht : Ls t) : (unE t = 0 ∧ unAt t = 0 ∧ Zq.Good t) ∨ (unE t != 0) = true := by
  by_cases h : t.length % 2 = 1
  · rw [(un_odd h).1]; exact .inr rfl
  · cases hf : fw t with
    | none => exact .inl ⟨(un_none (by omega) hf).1, (un_none (by omega) hf).2, fw_good ht (by omega) hf⟩
    | some k => rw [(un_some (by omega) hf).1]; exact .inr rfl
theorem unw_any (key t : ByteArray) (hk : Ls key.data.toList) (ht : Ls t.data.toList) (hs : t.size ≤ 65536) (w : World) : Calls Try.prog 44 #[.agg (shV (laid key.data.toList)), .string t] w fun e w' => e = .returned (.agg #[.int .i64 (unE t.data.toList), .int .i64 (unAt t.data.toList)]) ∧ Below w.heap.size w w' := by
  have hl := Pl.size_len t
  by_cases h : t.size % 2 = 1
  · have := un_odd (t := t.data.toList) (by omega)
    rw [this.1, this.2, ← hl]
    exact unw_odd _ t h hs w
  · exact unw_even _ (sq_laid hk) t (by omega) hs ht w
theorem zrd_any (key t : ByteArray) (w : World) : Calls Try.prog 24 #[.string key, .string t] w fun e w' => e = .returned (.tuple #[.string ⟨(rdS key.data.toList t.data.toList).toArray⟩, .agg #[.int .i64 (rdE key.data.toList t.data.toList), .int .i64 (rdAt key.data.toList t.data.toList)]]) ∧ Below w.heap.size w w' := by
  unfold rdS rdE rdAt
  by_cases hk : ckE key.data.toList = 0
  · have h0 : ¬ ckE key.data.toList ≠ 0 := fun h => h hk
    rw [if_neg h0, if_neg h0, if_neg h0]
    obtain ⟨k1, k2, k3⟩ := ck_ls hk
    have HK : ∀ W, Calls Try.prog 27 #[.string key] W fun e w' => e = .returned (.agg #[.int .i64 0, .int .i64 0]) ∧ Below W.heap.size W w' := fun W => by have := check_all key W; rw [hk, k1] at this; exact this
    by_cases ht : ckE t.data.toList = 0
    · have h1 : ¬ ckE t.data.toList ≠ 0 := fun h => h ht
      rw [if_neg h1, if_neg h1, if_neg h1]
      obtain ⟨t1, t2, t3⟩ := ck_ls ht
      have hsz : t.size ≤ 65536 := by rw [Pl.size_len]; exact t2
      have HT : ∀ W, Calls Try.prog 27 #[.string t] W fun e w' => e = .returned (.agg #[.int .i64 0, .int .i64 0]) ∧ Below W.heap.size W w' := fun W => by have := check_all t W; rw [ht, t1] at this; exact this
      rcases un_cases t3 with ⟨u1, u2, u3⟩ | u1
      · have h2 : ¬ unE t.data.toList ≠ 0 := fun h => h u1
        rw [if_neg h2, u1, u2]
        exact zrd_run key t _ _ HK HT (fun W => sheet_any key (by rw [Pl.size_len]; exact k2) k3 W) (fun W => by have := unw_any key t k3 t3 hsz W; rw [u1, u2] at this; exact this) (fun W => sq_dec_any key t k3 u3 hsz W) w
      · have h2 : unE t.data.toList ≠ 0 := by simpa using u1
        rw [if_pos h2]
        exact zrd_un key t _ _ _ u1 HK HT (fun W => sheet_any key (by rw [Pl.size_len]; exact k2) k3 W) (fun W => unw_any key t k3 t3 hsz W) w
    · rw [if_pos ht, if_pos ht, if_pos ht]
      exact zrd_text key t _ _ (by simpa using ht) HK (fun W => check_all t W) w
  · rw [if_pos hk, if_pos hk, if_pos hk]
    exact zrd_key key t _ _ (by simpa using hk) (fun W => check_all key W) w
end Go.Proofs.Ytmabamlhhmjbaad
