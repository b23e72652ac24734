/-
  Contract of tally.Shift.
-/
import Derived.Test.YteomoeaoboaclaeTCh
namespace Go.Proofs.Yteomoeaoboaclae
open Go.RowKit PK Vg Tl Fl

/-- The weights, the result's variable, and the counts. -/
structure TshAt (w W : World) (g : Nat) (F : Nat → Nat) (C : Nat → Int) : Prop where
  row : RowAt W w.heap.size 36 (flts F)
  res : RowAt W (w.heap.size + 1) 25 #[.int .i64 0, .int .i64 0]
  cts : RowAt W g 22 (ints 26 C)
  below : Below w.heap.size w W
theorem TshAt.step {w W W' : World} {g : Nat} {F : Nat → Nat} {C : Nat → Int} (h : TshAt w W g F C) (hb : Below W.heap.size W W') : TshAt w W' g F C := ⟨h.row.below hb h.row.lt, h.res.below hb h.res.lt, h.cts.below hb h.cts.lt, h.below.trans (hb.mono h.below.size)⟩
theorem TshAt.done {w W : World} {g : Nat} {F : Nat → Nat} {C : Nat → Int} (h : TshAt w W g F C) (x y : Value) : Below w.heap.size w ((W.setCell ⟨w.heap.size + 1, 0, none⟩ x).setCell ⟨w.heap.size + 1, 1, none⟩ y) :=
  (h.below.setCell (p := ⟨w.heap.size + 1, 0, none⟩) (by simp) _).setCell (p := ⟨w.heap.size + 1, 1, none⟩) (by simp) _
theorem TshAt.new {w W : World} {F : Nat → Nat} (h : WgAt w W F) (C : Nat → Int) : TshAt w ((W.alloc (.cells (ints 26 fun _ => 0) 22)).setRow W.heap.size (ints 26 C)) W.heap.size F C := by
  have l1 := h.row.lt
  have l2 := h.res.lt
  exact ⟨(h.row.alloc _).rowOther _ _ (by omega), (h.res.alloc _).rowOther _ _ (by omega), (RowAt.new W 22 (ints 26 fun _ => 0)).row _, Below.setRow (h.below.alloc h.below.size _) _ (by omega) _⟩
set_option maxRecDepth 100000 in
set_option maxHeartbeats 2000000 in
theorem tsh_ok (t : ByteArray) (F G : Nat → Nat) (C : Nat → Int) (hG : ∀ s, s < 26 → NN (G s)) (r : Nat) (hr : Least G 26 r) (HT : Hid (∀ W, Calls Try.prog 30 #[.string t, .agg (flts F)] W fun e w' => e = .returned (.agg #[.int .i64 0, .int .i64 0]) ∧ Below W.heap.size W w')) (HC : Hid (∀ W, Calls Try.prog 22 #[.string t, .int .i64 0, .int .i64 1] W fun e w' => e = .returned (.agg (ints 26 C)) ∧ Below W.heap.size W w')) (HF : Hid (∀ s, s < 26 → ∀ W, Calls Try.prog 31 #[.agg (ints 26 C), .int .i64 (t.size : Nat), .agg (flts F), .int .i64 (s : Nat)] W fun e w' => e = .returned (.float .f64 (G s)) ∧ Below W.heap.size W w')) (w : World) : Calls Try.prog 16 #[.string t, .agg (flts F)] w fun e w' => e = .returned (.tuple #[.int .i64 (r : Nat), .agg #[.int .i64 0, .int .i64 0]]) ∧ Below w.heap.size w w' := by
  have h0 := WgAt.new w F
  have HR : Hid (∀ b, Least G 26 b → b = r) := fun b hb => least_unique hb hr
  have HF0 := (show Hid _ from HF.out 0 (by decide))
  have hz22 := run_zero' v_zero_cts
  go_enter Try.func16, Try.ntmps16
  go_wp2_with (first | refine wpList_load_row rfl 36 _ rfl w.heap.size rfl 36 (flts F) (0, 0) _ h0.row Try.underlying36 rfl (by rw [flts_size]; exact v_size_w) ?_)
  refine (HT.out _).mono ?_
  rintro e W1 ⟨rfl, hb⟩
  have h2 := (h0.step hb).alloc (.cells #[.int .i64 0, .int .i64 0] 25)
  clear hb HT h0
  go_wp2_with fail
  refine (HC.out _).mono ?_
  rintro e W2 ⟨rfl, hb⟩
  have h3 := TshAt.new (h2.step hb) C
  have hrn := RowAt.new W2 22 (ints 26 fun _ => 0)
  clear hb HC h2
  go_upto_region 5 with (first | refine wpList_store_row rfl 22 _ _ rfl W2.heap.size (ints 26 C) rfl rfl 22 _ hrn (by rw [ints_size]; exact v_info_cts) (by simp only [ints_size]) (ints_one _ _) ?_)
  obtain ⟨g, hgg⟩ : ∃ g, g = W2.heap.size := ⟨_, rfl⟩
  rw [← hgg] at h3 ⊢
  generalize (W2.alloc (.cells (ints 26 fun _ => 0) 22)).setRow g (ints 26 C) = V at *
  clear hgg hrn hz22
  go_wp2_with (first | refine wpList_load_row rfl 22 _ rfl g rfl 22 (ints 26 C) (0, 0) _ h3.cts Try.underlying22 rfl (by rw [ints_size]; exact v_info_cts) ?_ | refine wpList_load_row rfl 36 _ rfl w.heap.size rfl 36 (flts F) (0, 0) _ h3.row Try.underlying36 rfl (by rw [flts_size]; exact v_size_w) ?_)
  refine (HF0.out _).mono ?_
  rintro e W3 ⟨rfl, hb⟩
  have h4 := h3.step hb
  clear hb HF0 h3
  go_wp2_with fail
  go_loopw [10, 8, 9] (fun i x y W => ∃ s b : Nat, 1 ≤ s ∧ s ≤ 26 ∧ b < s ∧ i = .int .i64 (s : Nat) ∧ x = .int .i64 (b : Nat) ∧ y = .float .f64 (G b) ∧ Hid (Least G s b) ∧ TshAt w W g F C) (fun i _ _ _ => ((26 : Int) - intOf i).toNat)
  case atStart => exact ⟨1, 0, by omega, by omega, by omega, rfl, rfl, rfl, least_first (hG 0 (by omega)), h4⟩
  case round =>
    clear h4
    obtain ⟨s, b, hs1, hs2, hbs, rfl, rfl, rfl, HB, hg⟩ := hrel
    by_cases hlt : s < 26
    · have hlt2 : (s : Int) < 26 := by omega
      have HF2 := (show Hid _ from HF.out s hlt)
      have hle := lss_bool (hG s hlt) (hG b (by omega))
      go_wp2_with (first | refine wpList_load_row rfl 22 _ rfl g rfl 22 (ints 26 C) (0, 0) _ hg.cts Try.underlying22 rfl (by rw [ints_size]; exact v_info_cts) ?_ | refine wpList_load_row rfl 36 _ rfl w.heap.size rfl 36 (flts F) (0, 0) _ hg.row Try.underlying36 rfl (by rw [flts_size]; exact v_size_w) ?_)
      refine (HF2.out _).mono ?_
      rintro e W4 ⟨rfl, hb⟩
      have hg2 := hg.step hb
      clear hb HF2 hg
      by_cases hc : Le (G b) (G s)
      · have HX : Hid (Least G (s + 1) b) := least_keep HB.out hc
        rw [decide_eq_true hc] at hle
        have hle2 : (FloatKind.f64.format.order (G s) (G b) == some .lt) = false := hle
        clear hc hle
        go_wp2_with fail
        go_roundw
        case rel => exact ⟨s + 1, b, by omega, by omega, by omega, by go_num, rfl, rfl, HX.out, hg2⟩
        case measure => simp [intOf] <;> omega
      · have HX : Hid (Least G (s + 1) s) := least_take (fun q hq => hG q (by omega)) HB.out hc
        rw [decide_eq_false hc] at hle
        have hle2 : (FloatKind.f64.format.order (G s) (G b) == some .lt) = true := hle
        clear hc hle
        go_wp2_with fail
        go_roundw
        case rel => exact ⟨s + 1, s, by omega, by omega, by omega, by go_num, rfl, rfl, HX.out, hg2⟩
        case measure => simp [intOf] <;> omega
    · obtain rfl : s = 26 := by omega
      have HX : Hid (b = r) := HR.out b HB.out
      have c0 := hg.res.cell (i := 0) rfl
      have c1 := hg.res.cell (i := 1) rfl
      have f0 := hg.res.frozen 0
      have f1 := hg.res.frozen 1
      go_wp2
      have q := Kit.read_two (.int .i64 0) (.int .i64 0) c0 c1
      exact bodyPost_ret (v := .tuple #[.int .i64 (b : Nat), .agg #[.int .i64 0, .int .i64 0]]) (by simp [results, Try.results16, go_sem, q.1, q.2]) rfl ⟨by rw [HX.out], hg.done _ _⟩
theorem tsh_any (t : ByteArray) (F : Nat → Nat) (w : World) : Calls Try.prog 16 #[.string t, .agg (flts F)] w fun e w' => e = .returned (.tuple #[.int .i64 (shR t.data.toList F : Nat), .agg #[.int .i64 (wgE t.data.toList F), .int .i64 (wgAt t.data.toList)]]) ∧ Below w.heap.size w w' := by
  unfold shR
  have hl := Pl.size_len t
  rcases wg_cases t.data.toList F with ⟨e1, e2, e3, e4, e5, e6⟩ | e1
  · rw [if_neg (fun h => h e1), e1, e2]
    refine tsh_ok t F (far (cnt t.data.toList) t.data.toList.length F) (fun c => (cnt t.data.toList c : Nat)) (far_all e4 e5 e6) _ (shS_least e4 e5 e6) (fun W => by have := tuw_any t F W; rw [e1, e2] at this; exact this) (fun W => ?_) (fun s hs W => ?_) w
    · have := tcn_any t e3 (by omega) 0 1 (by decide) (by decide) W
      rw [col_one] at this
      exact this
    · have := tfa_any (cnt t.data.toList) t.size (by omega) (by omega) (fun c _ => Nat.le_trans (cnt_le _ _) e5) F e6 s hs W
      rw [hl] at this ⊢
      exact this
  · rw [if_pos (by simpa using e1)]
    exact tsh_bad t F _ _ e1 (fun W => tuw_any t F W) w
end Go.Proofs.Yteomoeaoboaclae
