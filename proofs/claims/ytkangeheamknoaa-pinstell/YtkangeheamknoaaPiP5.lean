/-
  Contract of pins' Stream (chapter 12).
-/
import Derived.Test.YtkangeheamknoaaPiP3
namespace Go.Proofs.Ytkangeheamknoaa
open Go.RowKit PK Dm

set_option maxRecDepth 100000 in
set_option maxHeartbeats 4000000 in
theorem pst_bad (v : Value) (D : Dr) (n : Int) (hE : stE D n ≠ 0) (w : World) (hd : DrAt w v D) : Calls Try.prog 8 #[v, .int .i64 n] w fun e w' => e = .returned (.tuple #[.slice none 0 0, .int .i64 (stE D n)]) ∧ Below w.heap.size w w' := by
  have HW := (show Hid (∀ W, Below w.heap.size w W → Calls Try.prog 6 #[v] W fun e w' => e = .returned (.int .i64 (dE D)) ∧ Below W.heap.size W w') from fun W hb => ppi_wrong v D W (hd.below hb))
  obtain ⟨a, b, rfl, _, _⟩ := hd
  have h0 := DgAt.new w a b
  by_cases hz : dE D = 0
  · have HE : Hid (stE D n = 3 ∧ (n < 0 ∨ 65536 < n)) := by
      unfold stE at hE ⊢
      rw [if_neg (fun h => h hz)] at hE ⊢
      by_cases h : n < 0 ∨ 65536 < n
      · exact ⟨by rw [if_pos h], h⟩
      · rw [if_neg h] at hE; exact absurd rfl hE
    rw [hz] at HW
    clear hE hz
    go_enter Try.func8, Try.ntmps8
    go_wp2_with (first | refine wpList_load_row rfl 25 _ rfl w.heap.size rfl 25 #[a, b] (0, 0) _ h0.row Try.underlying25 rfl v_info_drum ?_)
    refine (HW.out _ h0.below).mono ?_
    rintro e W1 ⟨rfl, hb⟩
    have HBE := (show Hid _ from (h0.step hb).below)
    clear hb h0 HW
    by_cases h1 : n < 0
    · go_wp2
      go_ret2
      exact ⟨by rw [HE.out.1]; rfl, HBE.out⟩
    · have h2 : 65536 < n := by have := HE.out.2; omega
      go_wp2
      go_ret2
      exact ⟨by rw [HE.out.1]; rfl, HBE.out⟩
  · have HE : Hid (stE D n = dE D) := by unfold stE; rw [Hid, if_pos hz]
    have hz2 : (dE D != 0) = true := by simpa using hz
    clear hE hz
    generalize dE D = E at *
    go_enter Try.func8, Try.ntmps8
    go_wp2_with (first | refine wpList_load_row rfl 25 _ rfl w.heap.size rfl 25 #[a, b] (0, 0) _ h0.row Try.underlying25 rfl v_info_drum ?_)
    refine (HW.out _ h0.below).mono ?_
    rintro e W1 ⟨rfl, hb⟩
    have HBE := (show Hid _ from (h0.step hb).below)
    clear hb h0 HW
    go_wp2
    go_ret2
    exact ⟨by rw [HE.out]; rfl, HBE.out⟩
/-- The first m are told. -/
def stF (D : Dr) (m : Nat) : Nat → Int := fun k => if k < m then ((pushed D k : Nat) : Int) else 0
theorem stF_start (D : Dr) (n : Nat) : (ints n fun _ => 0) = ints n (stF D 0) := ints_ext fun i _ => by unfold stF; rw [if_neg (by omega)]
theorem stF_next (D : Dr) (n m : Nat) : ints n (upd (stF D m) m ((pushed D m : Nat) : Int)) = ints n (stF D (m + 1)) := ints_ext fun i hi => by
  unfold upd
  by_cases e : i = m
  · rw [if_pos e]
    unfold stF
    rw [if_pos (by omega), e]
  · rw [if_neg e]
    unfold stF
    by_cases e2 : i < m
    · rw [if_pos e2, if_pos (by omega)]
    · rw [if_neg e2, if_neg (by omega)]
theorem stF_all (D : Dr) (n : Nat) : ints n (stF D n) = ints n fun i => ((pushed D i : Nat) : Int) := ints_ext fun i hi => by
  unfold stF
  rw [if_pos hi]
theorem p_made_tab (z : Value) (n : Nat) : madeCells #[z] n = tab n fun _ => z := by
  unfold madeCells tab
  apply Array.ext
  · simp
  · intro i h1 h2
    simp [Nat.mod_one]
/-- What next leaves. -/
theorem WkAt.nextOf {w W V : World} {g i go : Nat} {a b : Value} {T : TypeId} {c : Array Value} (h : WkAt w W g a b i) (ho : RowAt W go T c) (hne : go ≠ g) (hg : w.heap.size ≤ g) (hb : Below W.heap.size W V) :
    WkAt w (V.setCell ⟨g, 2, none⟩ (.int .i64 ((i + 1 : Nat) : Int))) g a b (i + 1) ∧ RowAt (V.setCell ⟨g, 2, none⟩ (.int .i64 ((i + 1 : Nat) : Int))) go T c :=
  ⟨⟨(h.row.below hb h.row.lt).set 2 (.int .i64 ((i + 1 : Nat) : Int)), (h.step hb).below.setCell (p := ⟨g, 2, none⟩) hg _⟩, (ho.below hb ho.lt).setOther _ _ hne⟩
set_option maxRecDepth 100000 in
set_option maxHeartbeats 4000000 in
theorem pst_ok (v : Value) (D : Dr) (hz : dE D = 0) (n : Nat) (hn : n ≤ 65536) (w : World) (hd : DrAt w v D) : Calls Try.prog 8 #[v, .int .i64 (n : Nat)] w fun e w' => ∃ g, e = .returned (.tuple #[.slice (some ⟨g, 0, none⟩) n n, .int .i64 0]) ∧ RowAt w' g 3 (ints n fun i => ((pushed D i : Nat) : Int)) ∧ Below w.heap.size w w' := by
  have HW := (show Hid (∀ W, Below w.heap.size w W → Calls Try.prog 6 #[v] W fun e w' => e = .returned (.int .i64 0) ∧ Below W.heap.size W w') from fun W hb => by have := ppi_wrong v D W (hd.below hb); rw [hz] at this; exact this)
  have HPL := (show Hid (∀ i, pushed D i ≤ 27) from fun i => Nat.le_trans (pushed_le D i) (dE_zero hz).2.2.1)
  obtain ⟨a, b, rfl, hwh, hbr⟩ := hd
  have HNX := (show Hid (∀ i W g, i ≤ 65536 → WkAt w W g a b i → Calls Try.prog 16 #[.pointer (some ⟨g, 0, none⟩)] W fun e w' => e = .returned (.int .i64 (pushed D i : Nat)) ∧ ∃ V, Below W.heap.size W V ∧ w' = V.setCell ⟨g, 2, none⟩ (.int .i64 ((i + 1 : Nat) : Int))) from fun i W g hi hW => pnx_any D hz a b g i hi W hW.row (hwh.below hW.below) (hbr.below hW.below))
  have hmk := run_make_row' (P := Try.prog) 28 3 (.int .i64 0) 8 Try.underlying28 g_info_int rfl .i64 .i64 n (by omega) (by omega)
  rw [p_made_tab] at hmk
  obtain ⟨aw, cw, R, rfl, _⟩ := hwh
  obtain ⟨ab, cb, rfl, _⟩ := hbr
  generalize D.nw = nw at *
  generalize D.nb = nb at *
  have h0 := DgAt.new w (.slice aw nw cw) (.slice ab nb cb)
  have hn1 : ¬ (65536 : Int) < (n : Int) := by omega
  have HS0 := (show Hid _ from stF_start D n)
  clear hz
  go_enter Try.func8, Try.ntmps8
  go_wp2_with (first | refine wpList_load_row rfl 25 _ rfl w.heap.size rfl 25 #[.slice aw nw cw, .slice ab nb cb] (0, 0) _ h0.row Try.underlying25 rfl v_info_drum ?_)
  refine (HW.out _ h0.below).mono ?_
  rintro e W1 ⟨rfl, hb⟩
  have h1 := h0.step hb
  clear hb h0 HW
  go_upto_region 7 with fail
  have h2 := h1.alloc (.cells (tab n fun _ => .int .i64 0) 3)
  have hr2 : RowAt (W1.alloc (.cells (tab n fun _ => .int .i64 0) 3)) W1.heap.size 3 (ints n fun _ => 0) := RowAt.new W1 _ _
  have hzo := h1.lt
  generalize W1.alloc (.cells (tab n fun _ => .int .i64 0) 3) = W2 at *
  generalize W1.heap.size = go at *
  rw [HS0.out] at hr2
  clear hmk h1 HS0 hn1
  go_upto_region 8 with (first | refine wpList_load_row rfl 25 _ rfl w.heap.size rfl 25 #[.slice aw nw cw, .slice ab nb cb] (0, 0) _ h2.row Try.underlying25 rfl v_info_drum ?_)
  have hw3 : WkAt w (W2.alloc (.cells #[.slice aw nw cw, .slice ab nb cb, .int .i64 ((0 : Nat) : Int)] 46)) W2.heap.size (.slice aw nw cw) (.slice ab nb cb) 0 := ⟨RowAt.new W2 _ _, h2.below.alloc h2.below.size _⟩
  have hr3 := hr2.alloc (.cells #[.slice aw nw cw, .slice ab nb cb, .int .i64 ((0 : Nat) : Int)] 46)
  have hgo := hr2.lt
  have hzw := h2.below.size
  rw [show ((0 : Nat) : Int) = 0 from rfl] at hw3 hr3
  generalize W2.alloc (.cells #[.slice aw nw cw, .slice ab nb cb, .int .i64 0] 46) = W3 at *
  generalize W2.heap.size = gw at *
  clear h2 hr2
  go_wp2_with fail
  go_loopw [27] (fun x W => ∃ i : Nat, i ≤ n ∧ x = .int .i64 (i : Nat) ∧ RowAt W go 3 (ints n (stF D i)) ∧ WkAt w W gw (.slice aw nw cw) (.slice ab nb cb) i) (fun x _ => ((n : Int) - intOf x).toNat)
  case atStart => exact ⟨0, by omega, rfl, hr3, hw3⟩
  case round =>
    clear hr3 hw3
    obtain ⟨i, hi, rfl, hro, hwk⟩ := hrel
    by_cases hlt : i < n
    case neg =>
      obtain rfl : i = n := by omega
      have hnn : ¬ ((i : Nat) : Int) < ((i : Nat) : Int) := by omega
      rw [stF_all] at hro
      have HRO := (show Hid _ from hro)
      have HBE := (show Hid _ from hwk.below)
      clear hro hwk hlt
      go_wp2
      go_ret2
      exact ⟨go, rfl, HRO.out, HBE.out⟩
    have HLT : Hid (i < n) := hlt
    have hlt2 : (i : Int) < (n : Int) := by omega
    have HCA := (show Hid _ from HNX.out i wr gw (by omega) hwk)
    have HST := (show Hid _ from stF_next D n i)
    have HWK := (show Hid (WkAt w wr gw (.slice aw nw cw) (.slice ab nb cb) i) from hwk)
    have HRO := (show Hid (RowAt wr go 3 (ints n (stF D i))) from hro)
    have HNG := (show Hid (∀ W, RowAt W go 3 (ints n (stF D i)) → W.cell? ⟨go, i, none⟩ = some (.int .i64 (stF D i i))) from fun W h => h.cell (ints_get (stF D i) hlt))
    obtain ⟨p, hp⟩ : ∃ p, p = pushed D i := ⟨_, rfl⟩
    rw [← hp] at HCA HST
    clear hlt hro hwk hp
    go_wp2_with fail
    refine Calls.mono HCA.out ?_
    rintro e Y ⟨rfl, V, hb, rfl⟩
    obtain ⟨hwk2, hro2⟩ := WkAt.nextOf HWK.out HRO.out (by omega) (by omega) hb
    generalize V.setCell ⟨gw, 2, none⟩ (.int .i64 ((i + 1 : Nat) : Int)) = Y at *
    have hcell := HNG.out Y hro2
    have hfz := hro2.frozen i
    have HN : Hid (RowAt (Y.setCell ⟨go, i, none⟩ (.int .i64 (p : Nat))) go 3 (ints n (stF D (i + 1))) ∧ WkAt w (Y.setCell ⟨go, i, none⟩ (.int .i64 (p : Nat))) gw (.slice aw nw cw) (.slice ab nb cb) (i + 1)) := by
      refine ⟨?_, hwk2.row.setOther _ _ (by show gw ≠ go; omega), hwk2.below.setCell (p := ⟨go, i, none⟩) (by show w.heap.size ≤ go; omega) _⟩
      have h1 := hro2.set i (.int .i64 (p : Nat))
      rw [ints_set, HST.out] at h1
      exact h1
    clear HCA HST HWK HRO HNG hb hwk2 hro2
    go_wp2
    go_roundw
    case rel => exact ⟨i + 1, HLT.out, by go_num, HN.out.1, HN.out.2⟩
    case measure => have := HLT.out; simp [intOf]; omega
theorem ppi_stream : PDSt 8 := fun v D n w hd => by
  by_cases hE : stE D n = 0
  · obtain ⟨h1, h2, h3⟩ := stE_zero hE
    have hnn : n = ((n.toNat : Nat) : Int) := by omega
    have := pst_ok v D h1 n.toNat (by omega) w hd
    rw [← hnn] at this
    refine this.mono ?_
    rintro e w' ⟨g, h4, h5, h6⟩
    refine ⟨_, by rw [h4, hE], ?_, h6⟩
    unfold stN
    rw [if_pos hE]
    exact NumsAt.of_row h5 (by unfold maxLen; omega)
  · refine (pst_bad v D n hE w hd).mono ?_
    rintro e w' ⟨h1, h2⟩
    refine ⟨_, h1, ?_, h2⟩
    unfold stN
    rw [if_neg hE]
    exact ⟨none, 0, rfl, by decide, fun c hc => by omega⟩
end Go.Proofs.Ytkangeheamknoaa
