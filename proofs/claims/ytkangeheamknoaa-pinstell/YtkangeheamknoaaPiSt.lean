/-
  Contract of the document's Stream (chapter 12).
-/
import Derived.Test.YtkangeheamknoaaPiPu
namespace Go.Proofs.Ytkangeheamknoaa
open Go.RowKit PK Dm

/-- What Stream says is wrong. -/
def stE (D : Dr) (n : Int) : Int := if dE D ≠ 0 then dE D else if n < 0 ∨ 65536 < n then 3 else 0
/-- How many bars are pushed, at each of n letters. -/
def stL (D : Dr) (n : Nat) : List Nat := (List.range n).map (pushed D)
theorem stL_len (D : Dr) (n : Nat) : (stL D n).length = n := by simp [stL]
theorem stL_succ (D : Dr) (n : Nat) : stL D (n + 1) = stL D n ++ [pushed D n] := by
  unfold stL
  rw [List.range_succ, List.map_append]
  rfl
theorem DgAt.grown {w W W' : World} {a b : Value} {r : Option Nat} (h : DgAt w W a b) (hg : W.grownBy W' r) (hr : ∀ p, r = some p → w.heap.size < p) : DgAt w W' a b :=
  ⟨(hg.block w.heap.size h.row.lt (fun e => by have := hr _ e.symm; omega)).trans h.row, h.below.grown hg h.below.size (fun p hp => by have := hr p hp; omega)⟩
set_option maxRecDepth 100000 in
set_option maxHeartbeats 4000000 in
theorem rst_bad (v : Value) (D : Dr) (n : Int) (hE : stE D n ≠ 0) (w : World) (hd : DrAt w v D) : Calls Try.prog 9 #[v, .int .i64 n] w fun e w' => e = .returned (.tuple #[.slice none 0 0, .int .i64 (stE D n)]) ∧ Below w.heap.size w w' := by
  have HW := (show Hid (∀ W, Below w.heap.size w W → Calls Try.prog 7 #[v] W fun e w' => e = .returned (.int .i64 (dE D)) ∧ Below W.heap.size W w') from fun W hb => rdw_any v D W (hd.below hb))
  obtain ⟨a, b, rfl, _, _⟩ := hd
  have h0 := DgAt.new w a b
  by_cases hz : dE D = 0
  · have HE : Hid (stE D n = 3 ∧ (n < 0 ∨ 65536 < n)) := by
      unfold stE at hE ⊢
      rw [if_neg (fun h => h hz)] at hE ⊢
      by_cases h : n < 0 ∨ 65536 < n
      · exact ⟨by rw [if_pos h], h⟩
      · rw [if_neg h] at hE; exact absurd rfl hE
    rw [hz] at HW
    clear hE hz
    go_enter Try.func9, Try.ntmps9
    go_wp2_with (first | refine wpList_load_row rfl 25 _ rfl w.heap.size rfl 25 #[a, b] (0, 0) _ h0.row Try.underlying25 rfl v_info_drum ?_)
    refine (HW.out _ h0.below).mono ?_
    rintro e W1 ⟨rfl, hb⟩
    have HBE := (show Hid _ from (h0.step hb).below)
    clear hb h0 HW
    by_cases h1 : n < 0
    · go_wp2
      go_ret2
      exact ⟨by rw [HE.out.1]; rfl, HBE.out⟩
    · have h2 : 65536 < n := by have := HE.out.2; omega
      go_wp2
      go_ret2
      exact ⟨by rw [HE.out.1]; rfl, HBE.out⟩
  · have HE : Hid (stE D n = dE D) := by unfold stE; rw [Hid, if_pos hz]
    have hz2 : (dE D != 0) = true := by simpa using hz
    clear hE hz
    generalize dE D = E at *
    go_enter Try.func9, Try.ntmps9
    go_wp2_with (first | refine wpList_load_row rfl 25 _ rfl w.heap.size rfl 25 #[a, b] (0, 0) _ h0.row Try.underlying25 rfl v_info_drum ?_)
    refine (HW.out _ h0.below).mono ?_
    rintro e W1 ⟨rfl, hb⟩
    have HBE := (show Hid _ from (h0.step hb).below)
    clear hb h0 HW
    go_wp2
    go_ret2
    exact ⟨by rw [HE.out]; rfl, HBE.out⟩
set_option maxRecDepth 100000 in
set_option maxHeartbeats 4000000 in
theorem rst_ok (v : Value) (D : Dr) (hz : dE D = 0) (n : Nat) (hn : n ≤ 65536) (w : World) (hd : DrAt w v D) : Calls Try.prog 9 #[v, .int .i64 (n : Nat)] w fun e w' => ∃ v', e = .returned (.tuple #[v', .int .i64 0]) ∧ OwnsL w' (w.heap.size + 1) v' (stL D n) ∧ Below w.heap.size w w' := by
  obtain ⟨i0, hi0, hz0, hz1, hz2⟩ := x_info_parts g_info_int
  obtain ⟨e1, e2, e3, e4⟩ := dE_zero hz
  have HW := (show Hid (∀ W, Below w.heap.size w W → Calls Try.prog 7 #[v] W fun e w' => e = .returned (.int .i64 0) ∧ Below W.heap.size W w') from fun W hb => by have := rdw_any v D W (hd.below hb); rw [hz] at this; exact this)
  have HP := (show Hid (∀ i W, i ≤ 65536 → Below w.heap.size w W → Calls Try.prog 17 #[v, .int .i64 (i : Nat)] W fun e w' => e = .returned (.int .i64 (pushed D i : Nat)) ∧ Below W.heap.size W w') from fun i W hi hb => rpu_any v D e4 e2 e3 i hi W (hd.below hb))
  have HPL := (show Hid (∀ i, pushed D i ≤ 27) from fun i => Nat.le_trans (pushed_le D i) e3)
  obtain ⟨a, b, rfl, _, _⟩ := hd
  have h0 := DgAt.new w a b
  have hn1 : ¬ (65536 : Int) < (n : Int) := by omega
  clear e1 e2 e3 e4 hz
  go_enter Try.func9, Try.ntmps9
  go_wp2_with (first | refine wpList_load_row rfl 25 _ rfl w.heap.size rfl 25 #[a, b] (0, 0) _ h0.row Try.underlying25 rfl v_info_drum ?_)
  refine (HW.out _ h0.below).mono ?_
  rintro e W1 ⟨rfl, hb⟩
  have h1 := h0.step hb
  clear hb h0 HW
  go_wp2_with fail
  go_loopw [7, 8] (fun o x W => ∃ (i : Nat) (u : Value), i ≤ n ∧ x = .int .i64 (i : Nat) ∧ u = o ∧ OwnsL W (w.heap.size + 1) u (stL D i) ∧ DgAt w W a b) (fun _ x _ => ((n : Int) - intOf x).toNat)
  case atStart => exact ⟨0, _, by omega, rfl, rfl, OwnsL.nil _ _, h1⟩
  case round =>
    clear h1 hn1
    obtain ⟨i, u, hi, rfl, rfl, hown, hg⟩ := hrel
    by_cases hlt : i < n
    case neg =>
      obtain rfl : i = n := by omega
      have hnn : ¬ ((i : Nat) : Int) < ((i : Nat) : Int) := by omega
      have HOWN := (show Hid _ from hown)
      have HG := (show Hid _ from hg.below)
      clear hown hg hlt
      go_wp2
      go_ret2
      exact ⟨u, rfl, HOWN.out, HG.out⟩
    have HLT : Hid (i < n) := hlt
    have hlt2 : (i : Int) < (n : Int) := by omega
    have hlen := stL_len D i
    have HNX := (show Hid _ from stL_succ D i)
    have hpl := HPL.out i
    have HCA := (show Hid _ from HP.out i wr (by omega) hg.below)
    have HG := (show Hid (DgAt w wr a b) from hg)
    have HOWN := (show Hid (OwnsL wr (w.heap.size + 1) u (stL D i)) from hown)
    generalize pushed D i = x at *
    clear hlt hown
    go_wp2_with (first | refine wpList_load_row rfl 25 _ rfl w.heap.size rfl 25 #[a, b] (0, 0) _ hg.row Try.underlying25 rfl v_info_drum ?_)
    refine Calls.mono HCA.out ?_
    rintro e Y ⟨rfl, hb⟩
    have hg2 := hg.step hb
    have hown := OwnsL.below HOWN.out hb
    have hzY := hg2.below.size
    have hlY := hg2.lt
    clear hb hg HG HOWN HCA
    go_wp2_with (first | (at_builtin; refine wpList_append_own _ rfl _ _ 28 rfl (w.heap.size + 1) 3 i0 (.int .i64 0) 1 8 Try.underlying28 hi0 hz0 hz1 hz2 rfl (by decide) _ _ _ rfl (World.ownsRow.alloc hown _) ⟨Y.heap.size, 0, none⟩ 1 1 [.int .i64 (x : Nat)] rfl rfl (cell_one_new _ _ _) (fun u hu => by simp at hu; subst hu; rfl) (by unfold maxLen; omega) (by omega) (by simp; omega) ?_; intro v' w1 hown' hgrow _))
    go_roundw
    case rel =>
      refine ⟨i + 1, v', HLT.out, by go_num, rfl, ?_, ?_⟩
      · rw [HNX.out, OwnsL, nnums_append, List.length_append]
        exact hown'
      · exact (hg2.alloc _).grown hgrow (fun p hp => by have := (World.ownsRow.lt hown p hp).1; omega)
    case measure => have := HLT.out; simp [intOf]; omega
end Go.Proofs.Ytkangeheamknoaa
