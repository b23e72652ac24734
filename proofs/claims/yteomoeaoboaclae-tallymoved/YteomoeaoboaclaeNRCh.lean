/-
  Contracts of the document's Same, Chi and Shift (chapter 7).
-/
import Derived.Test.YteomoeaoboaclaeNRWg
namespace Go.Proofs.Yteomoeaoboaclae
open Go.RowKit PK Vg Tl Fl

theorem run_bits (a : Nat) (w : World) : (callFunc 34 #[.float .f64 a]).run Try.prog w = .ok (.value (.int .u64 (a : Int))) w := by rfl
set_option maxHeartbeats 400000 in
theorem same_any (a b : Nat) (w : World) : Calls Try.prog 15 #[.float .f64 a, .float .f64 b] w fun e w' => e = .returned (.bool (decide (a = b))) ∧ w = w' := by
  have hb := run_bits
  go_enter Try.func15, Try.ntmps15
  go_wp2
  go_ret
  show Ending.returned (.bool ((a : Int) == (b : Int))) = _ ∧ _
  exact ⟨ret_bool (by by_cases h : a = b <;> simp [h] <;> omega), rfl⟩
set_option maxRecDepth 100000 in
set_option maxHeartbeats 2000000 in
theorem rchi_bad (t : ByteArray) (F : Nat → Nat) (E A : Int) (hE : (E != 0) = true) (HT : Hid (∀ W, Calls Try.prog 32 #[.string t, .agg (flts F)] W fun e w' => e = .returned (.agg #[.int .i64 E, .int .i64 A]) ∧ Below W.heap.size W w')) (w : World) : Calls Try.prog 14 #[.string t, .agg (flts F)] w fun e w' => e = .returned (.tuple #[.float .f64 0, .agg #[.int .i64 E, .int .i64 A]]) ∧ Below w.heap.size w w' := by
  have h0 := WgAt.new w F
  go_enter Try.func14, Try.ntmps14
  go_wp2_with (first | refine wpList_load_row rfl 36 _ rfl w.heap.size rfl 36 (flts F) (0, 0) _ h0.row Try.underlying36 rfl (by rw [flts_size]; exact v_size_w) ?_)
  refine (HT.out _).mono ?_
  rintro e W1 ⟨rfl, hb⟩
  have h2 := (h0.step hb).alloc (.cells #[.int .i64 E, .int .i64 A] 25)
  have c0 := h2.res.cell (i := 0) rfl
  have c1 := h2.res.cell (i := 1) rfl
  have f0 := h2.res.frozen 0
  have f1 := h2.res.frozen 1
  clear hb HT h0
  go_wp2_with fail
  go_region
  all_goals (try go_wp2)
  have q := Kit.read_two (.int .i64 E) (.int .i64 A) c0 c1
  exact bodyPost_ret (v := .tuple #[.float .f64 0, .agg #[.int .i64 E, .int .i64 A]]) (by simp [results, Try.results14, go_sem, q.1, q.2]) rfl ⟨rfl, (h2.done _ _).drew⟩
set_option maxRecDepth 100000 in
set_option maxHeartbeats 2000000 in
theorem rchi_ok (t : ByteArray) (F : Nat → Nat) (x : Nat) (HT : Hid (∀ W, Calls Try.prog 32 #[.string t, .agg (flts F)] W fun e w' => e = .returned (.agg #[.int .i64 0, .int .i64 0]) ∧ Below W.heap.size W w')) (HF : Hid (∀ W, Calls Try.prog 33 #[.string t, .int .i64 0, .agg (flts F)] W fun e w' => e = .returned (.float .f64 x) ∧ Below W.heap.size W w')) (w : World) : Calls Try.prog 14 #[.string t, .agg (flts F)] w fun e w' => e = .returned (.tuple #[.float .f64 x, .agg #[.int .i64 0, .int .i64 0]]) ∧ Below w.heap.size w w' := by
  have h0 := WgAt.new w F
  go_enter Try.func14, Try.ntmps14
  go_wp2_with (first | refine wpList_load_row rfl 36 _ rfl w.heap.size rfl 36 (flts F) (0, 0) _ h0.row Try.underlying36 rfl (by rw [flts_size]; exact v_size_w) ?_)
  refine (HT.out _).mono ?_
  rintro e W1 ⟨rfl, hb⟩
  have h2 := (h0.step hb).alloc (.cells #[.int .i64 0, .int .i64 0] 25)
  clear hb HT h0
  go_wp2_with (first | refine wpList_load_row rfl 36 _ rfl w.heap.size rfl 36 (flts F) (0, 0) _ h2.row Try.underlying36 rfl (by rw [flts_size]; exact v_size_w) ?_)
  refine (HF.out _).mono ?_
  rintro e W2 ⟨rfl, hb⟩
  have h3 := h2.step hb
  have c0 := h3.res.cell (i := 0) rfl
  have c1 := h3.res.cell (i := 1) rfl
  have f0 := h3.res.frozen 0
  have f1 := h3.res.frozen 1
  clear hb HF h2
  go_wp2
  have q := Kit.read_two (.int .i64 0) (.int .i64 0) c0 c1
  exact bodyPost_ret (v := .tuple #[.float .f64 x, .agg #[.int .i64 0, .int .i64 0]]) (by simp [results, Try.results14, go_sem, q.1, q.2]) rfl ⟨rfl, h3.done _ _⟩
theorem leq_bool (x y : Nat) : (FloatKind.f64.format.order x y == some .lt || FloatKind.f64.format.order x y == some .eq) = decide (Le x y) := by
  show (D.order x y == some .lt || D.order x y == some .eq) = _
  by_cases h : Le x y
  · rw [decide_eq_true h]
    rcases h with h | h <;> simp [h]
  · rw [decide_eq_false h]
    have h1 : ¬ D.order x y = some .lt := fun e => h (.inl e)
    have h2 : ¬ D.order x y = some .eq := fun e => h (.inr e)
    simp [h1, h2]
theorem lss_bool {x y : Nat} (hx : NN x) (hy : NN y) : (FloatKind.f64.format.order x y == some .lt) = !decide (Le y x) := by
  show (D.order x y == some .lt) = _
  by_cases h : Le y x
  · have : ¬ D.order x y = some .lt := fun e => ((order_swap hx hy).2.1 e) h
    simp [h, this]
  · have := (order_swap hx hy).2.2 h
    simp [h, this]
theorem WgAt.drew {w W : World} {F : Nat → Nat} (h : WgAt w W F) : WgAt w W.drew F := ⟨h.row, h.res, h.below.drew⟩
set_option maxRecDepth 100000 in
set_option maxHeartbeats 2000000 in
theorem rsh_bad (t : ByteArray) (F : Nat → Nat) (E A : Int) (hE : (E != 0) = true) (HT : Hid (∀ W, Calls Try.prog 32 #[.string t, .agg (flts F)] W fun e w' => e = .returned (.agg #[.int .i64 E, .int .i64 A]) ∧ Below W.heap.size W w')) (w : World) : Calls Try.prog 17 #[.string t, .agg (flts F)] w fun e w' => e = .returned (.tuple #[.int .i64 0, .agg #[.int .i64 E, .int .i64 A]]) ∧ Below w.heap.size w w' := by
  have h0 := WgAt.new w F
  go_enter Try.func17, Try.ntmps17
  go_wp2_with (first | refine wpList_load_row rfl 36 _ rfl w.heap.size rfl 36 (flts F) (0, 0) _ h0.row Try.underlying36 rfl (by rw [flts_size]; exact v_size_w) ?_)
  refine (HT.out _).mono ?_
  rintro e W1 ⟨rfl, hb⟩
  have h2 := (h0.step hb).alloc (.cells #[.int .i64 E, .int .i64 A] 25)
  have c0 := h2.res.cell (i := 0) rfl
  have c1 := h2.res.cell (i := 1) rfl
  have f0 := h2.res.frozen 0
  have f1 := h2.res.frozen 1
  clear hb HT h0
  go_wp2_with fail
  go_region
  all_goals (try go_wp2)
  have q := Kit.read_two (.int .i64 E) (.int .i64 A) c0 c1
  exact bodyPost_ret (v := .tuple #[.int .i64 0, .agg #[.int .i64 E, .int .i64 A]]) (by simp [results, Try.results17, go_sem, q.1, q.2]) rfl ⟨rfl, (h2.done _ _).drew⟩
set_option maxRecDepth 100000 in
set_option maxHeartbeats 2000000 in
theorem rsh_ok (t : ByteArray) (F G : Nat → Nat) (hG : ∀ s, s < 26 → NN (G s)) (r : Nat) (hr : Least G 26 r) (HT : Hid (∀ W, Calls Try.prog 32 #[.string t, .agg (flts F)] W fun e w' => e = .returned (.agg #[.int .i64 0, .int .i64 0]) ∧ Below W.heap.size W w')) (HF : Hid (∀ s, s < 26 → ∀ W, Calls Try.prog 33 #[.string t, .int .i64 (s : Nat), .agg (flts F)] W fun e w' => e = .returned (.float .f64 (G s)) ∧ Below W.heap.size W w')) (w : World) : Calls Try.prog 17 #[.string t, .agg (flts F)] w fun e w' => e = .returned (.tuple #[.int .i64 (r : Nat), .agg #[.int .i64 0, .int .i64 0]]) ∧ Below w.heap.size w w' := by
  have h0 := WgAt.new w F
  have HR : Hid (∀ b, Least G 26 b → b = r) := fun b hb => least_unique hb hr
  go_enter Try.func17, Try.ntmps17
  go_wp2_with (first | refine wpList_load_row rfl 36 _ rfl w.heap.size rfl 36 (flts F) (0, 0) _ h0.row Try.underlying36 rfl (by rw [flts_size]; exact v_size_w) ?_)
  refine (HT.out _).mono ?_
  rintro e W1 ⟨rfl, hb⟩
  have h2 := (h0.step hb).alloc (.cells #[.int .i64 0, .int .i64 0] 25)
  clear hb HT h0
  go_wp2_with fail
  go_loopw [7, 8] (fun x i V => ∃ b k : Nat, k ≤ b ∧ b < 26 ∧ x = .int .i64 (b : Nat) ∧ i = .int .i64 ((k : Int) - 1) ∧ Hid ((∀ t, k ≤ t → t < 26 → Le (G b) (G t)) ∧ ∀ t, k ≤ t → t < b → ¬ Le (G t) (G b)) ∧ WgAt w V F) (fun _ i _ => (intOf i + 1).toNat)
  case atStart => exact ⟨25, 25, by omega, by omega, rfl, rfl, ⟨fun t h1 h2 => by rw [show t = 25 by omega]; exact le_refl (hG 25 (by omega)), fun t h1 h2 => by omega⟩, h2⟩
  case round =>
    clear h2
    obtain ⟨b, k, hkb, hb, rfl, rfl, HB, hg⟩ := hrel
    by_cases hk : 0 < k
    · obtain ⟨s, rfl⟩ : ∃ s, k = s + 1 := ⟨k - 1, by omega⟩
      have e0 : ((s + 1 : Nat) : Int) - 1 = (s : Int) := by omega
      rw [e0]
      have HFS := (show Hid _ from HF.out s (by omega))
      have HFB := (show Hid _ from HF.out b hb)
      have HST := (show Hid _ from least_down (F := G) (n := 26) hG (k := s) (b := b) (by omega) hb ⟨fun t h1 h2 => HB.out.1 t (by omega) h2, fun t h1 h2 => HB.out.2 t (by omega) h2⟩ (by omega) (by omega))
      have hs2 : (0 : Int) ≤ (s : Int) := by omega
      have hle := leq_bool (G s) (G b)
      clear e0
      go_upto_region 8 with fail
      refine wp_region_noPanic ?_
      refine wp_region_held_drew (S := fun W => WgAt w W F) (by kernel_rfl) hg.drew (fun hS => ?_)
      refine vtake 0 20 (.string t) rfl rfl (by kernel_rfl) (by kernel_rfl) (by kernel_rfl) (fun _ _ _ _ h => h) (by rfl) (fun W hW => by clear hS hW; go_simp) hS ?_
      simp only [List.setIfInBounds_toArray, List.set_cons_succ, List.set_cons_zero]
      refine vtake 1 21 (.int .i64 ((s : Nat) : Int)) rfl rfl (by kernel_rfl) (by kernel_rfl) (by kernel_rfl) (fun _ _ _ _ h => h) (by rfl) (fun W hW => by clear hS hW; go_simp) hS ?_
      simp only [List.setIfInBounds_toArray, List.set_cons_succ, List.set_cons_zero]
      refine vtake 2 22 (.agg (flts F)) rfl rfl (by kernel_rfl) (by kernel_rfl) (by kernel_rfl) (fun _ _ _ _ h => h) (by rfl) (fun W hW => by have u := run_loadVar_row (P := Try.prog) W w.heap.size 36 36 (flts F) (0, 0) _ hW.row Try.underlying36 rfl (by rw [flts_size]; exact v_size_w); clear hS hW; simp [execOp, Act.eval, Instr.loadAt, Instr.sureAddr, u]) hS ?_
      simp only [List.setIfInBounds_toArray, List.set_cons_succ, List.set_cons_zero]
      refine vtake 4 24 (.string t) rfl rfl (by kernel_rfl) (by kernel_rfl) (by kernel_rfl) (fun _ _ _ _ h => h) (by rfl) (fun W hW => by clear hS hW; go_simp) hS ?_
      simp only [List.setIfInBounds_toArray, List.set_cons_succ, List.set_cons_zero]
      refine vtake 5 25 (.int .i64 ((b : Nat) : Int)) rfl rfl (by kernel_rfl) (by kernel_rfl) (by kernel_rfl) (fun _ _ _ _ h => h) (by rfl) (fun W hW => by clear hS hW; go_simp) hS ?_
      simp only [List.setIfInBounds_toArray, List.set_cons_succ, List.set_cons_zero]
      refine vtake 6 26 (.agg (flts F)) rfl rfl (by kernel_rfl) (by kernel_rfl) (by kernel_rfl) (fun _ _ _ _ h => h) (by rfl) (fun W hW => by have u := run_loadVar_row (P := Try.prog) W w.heap.size 36 36 (flts F) (0, 0) _ hW.row Try.underlying36 rfl (by rw [flts_size]; exact v_size_w); clear hS hW; simp [execOp, Act.eval, Instr.loadAt, Instr.sureAddr, u]) hS ?_
      simp only [List.setIfInBounds_toArray, List.set_cons_succ, List.set_cons_zero]
      refine wpAnyH_ready (rs := [3]) (by kernel_rfl) (by simp) ?_
      refine AllReadyH.cons (o := _) rfl (fun K hK => ?_) AllReadyH.nil
      rw [if_pos (by rfl)]
      go_simp
      refine Calls.mono (HFS.out _) ?_
      rintro e Y ⟨rfl, hb8⟩
      refine hK.out _ _ (hS.step hb8) (fun hS1 => ?_)
      clear hK hS K
      have hS := hS1
      clear hS1
      refine wpAnyH_ready (rs := [7]) (by kernel_rfl) (by simp) ?_
      refine AllReadyH.cons (o := _) rfl (fun K hK => ?_) AllReadyH.nil
      rw [if_pos (by rfl)]
      go_simp
      refine Calls.mono (HFB.out _) ?_
      rintro e Y ⟨rfl, hb9⟩
      refine hK.out _ _ (hS.step hb9) (fun hS1 => ?_)
      clear hK hS K
      have hS := hS1
      clear hS1
      refine vtake 8 28 (.bool (FloatKind.f64.format.order (G s) (G b) == some .lt || FloatKind.f64.format.order (G s) (G b) == some .eq)) rfl rfl (by kernel_rfl) (by kernel_rfl) (by kernel_rfl) (fun _ _ _ _ h => h) (by rfl) (fun W hW => by clear hS hW; go_simp) hS ?_
      simp only [List.setIfInBounds_toArray, List.set_cons_succ, List.set_cons_zero]
      refine wpAnyH_done (by kernel_rfl) ?_ _
      refine NoPanic.normal ?_
      rw [hle]
      by_cases hc : Le (G s) (G b)
      · rw [decide_eq_true hc]
        rw [if_pos hc] at HST
        clear hle hc
        go_wp2_with fail
        go_roundw
        case rel => exact ⟨s, s, by omega, by omega, rfl, by go_num, HST.out, hS⟩
        case measure => simp [intOf] <;> omega
      · rw [decide_eq_false hc]
        rw [if_neg hc] at HST
        clear hle hc
        go_wp2_with fail
        go_roundw
        case rel => exact ⟨b, s, by omega, hb, rfl, by go_num, HST.out, hS⟩
        case measure => simp [intOf] <;> omega
    · obtain rfl : k = 0 := by omega
      have HX : Hid (b = r) := HR.out b ⟨hb, fun t ht => HB.out.1 t (by omega) ht, fun t ht => HB.out.2 t (by omega) ht⟩
      have c0 := hg.res.cell (i := 0) rfl
      have c1 := hg.res.cell (i := 1) rfl
      have f0 := hg.res.frozen 0
      have f1 := hg.res.frozen 1
      go_wp2
      have q := Kit.read_two (.int .i64 0) (.int .i64 0) c0 c1
      exact bodyPost_ret (v := .tuple #[.int .i64 (b : Nat), .agg #[.int .i64 0, .int .i64 0]]) (by simp [results, Try.results17, go_sem, q.1, q.2]) rfl ⟨by rw [HX.out], hg.done _ _⟩
/-- What Chi and Shift say. -/
def chiS (t : List UInt8) (F : Nat → Nat) : Nat := if wgE t F ≠ 0 then 0 else far (cnt t) t.length F 0
theorem wg_cases (t : List UInt8) (F : Nat → Nat) : (wgE t F = 0 ∧ wgAt t = 0 ∧ Ls t ∧ t.length ≠ 0 ∧ t.length ≤ 65536 ∧ ∀ c, c < 26 → Wt (F c)) ∨ (wgE t F != 0) = true := by
  unfold wgE wgAt
  rcases ck_cases t with ⟨e1, e2, e3, e4⟩ | e1
  · have h0 : ¬ ckE t ≠ 0 := fun h => h e1
    rw [if_neg h0, if_neg h0]
    by_cases hw : ∀ c, c < 26 → Wt (F c)
    · rw [if_pos hw]
      by_cases hl : t.length = 0
      · rw [if_pos hl]; exact .inr rfl
      · rw [if_neg hl]; exact .inl ⟨rfl, rfl, ls_of e4, hl, e3, hw⟩
    · rw [if_neg hw]; exact .inr rfl
  · have h0 : ckE t ≠ 0 := by simpa using e1
    rw [if_pos h0]
    exact .inr e1
theorem far_all {t : List UInt8} {F : Nat → Nat} (h1 : t.length ≠ 0) (h2 : t.length ≤ 65536) (hw : ∀ c, c < 26 → Wt (F c)) : ∀ s, s < 26 → NN (far (cnt t) t.length F s) := fun s _ => by
  have h3 : (2 : Nat) ^ 40 = 1099511627776 := by decide
  exact far_nn h1 (by omega) (fun c _ => by have := cnt_le t c; omega) hw s
/-- The least shift. -/
noncomputable def shS (t : List UInt8) (F : Nat → Nat) : Nat := Classical.epsilon fun b => Least (far (cnt t) t.length F) 26 b
theorem shS_least {t : List UInt8} {F : Nat → Nat} (h1 : t.length ≠ 0) (h2 : t.length ≤ 65536) (hw : ∀ c, c < 26 → Wt (F c)) : Least (far (cnt t) t.length F) 26 (shS t F) := by
  exact Classical.epsilon_spec (least_exists (F := far (cnt t) t.length F) (n := 26) (by decide) (far_all h1 h2 hw))
noncomputable def shR (t : List UInt8) (F : Nat → Nat) : Nat := if wgE t F ≠ 0 then 0 else shS t F
theorem rchi_any (t : ByteArray) (F : Nat → Nat) (w : World) : Calls Try.prog 14 #[.string t, .agg (flts F)] w fun e w' => e = .returned (.tuple #[.float .f64 (chiS t.data.toList F), .agg #[.int .i64 (wgE t.data.toList F), .int .i64 (wgAt t.data.toList)]]) ∧ Below w.heap.size w w' := by
  unfold chiS
  have hl := Pl.size_len t
  rcases wg_cases t.data.toList F with ⟨e1, e2, e3, e4, e5, e6⟩ | e1
  · rw [if_neg (fun h => h e1), e1, e2, ← hl]
    refine rchi_ok t F _ (fun W => by have := rwg_any t F W; rw [e1, e2] at this; exact this) (fun W => rfar_any t e3 (by omega) (by omega) F e6 0 (by decide) W) w
  · rw [if_pos (by simpa using e1)]
    exact rchi_bad t F _ _ e1 (fun W => rwg_any t F W) w
theorem rsh_any (t : ByteArray) (F : Nat → Nat) (w : World) : Calls Try.prog 17 #[.string t, .agg (flts F)] w fun e w' => e = .returned (.tuple #[.int .i64 (shR t.data.toList F : Nat), .agg #[.int .i64 (wgE t.data.toList F), .int .i64 (wgAt t.data.toList)]]) ∧ Below w.heap.size w w' := by
  unfold shR
  have hl := Pl.size_len t
  rcases wg_cases t.data.toList F with ⟨e1, e2, e3, e4, e5, e6⟩ | e1
  · rw [if_neg (fun h => h e1), e1, e2]
    refine rsh_ok t F (far (cnt t.data.toList) t.data.toList.length F) (far_all e4 e5 e6) _ (shS_least e4 e5 e6) (fun W => by have := rwg_any t F W; rw [e1, e2] at this; exact this) (fun s hs W => ?_) w
    have := rfar_any t e3 (by omega) (by omega) F e6 s hs W
    rw [hl] at this
    exact this
  · rw [if_pos (by simpa using e1)]
    exact rsh_bad t F _ _ e1 (fun W => rwg_any t F W) w
end Go.Proofs.Yteomoeaoboaclae
