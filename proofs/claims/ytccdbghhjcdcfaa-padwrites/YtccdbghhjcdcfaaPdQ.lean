/-
  Contracts of pad's Chances and Secret (chapter 14).
-/
import Derived.Test.YtccdbghhjcdcfaaPdP
namespace Go.Proofs.Ytccdbghhjcdcfaa
open Go.RowKit PK Pd

def sgS (n s : Int) : Int := if n < 2 ∨ 64 < n then 1 else if s < 0 ∨ n ≤ s then 3 else 0
def wgE (n : Int) (m : Nat) (f : Nat → Int) : Int := if (m : Int) ≠ n then 8 else if wB m f = false then 3 else 0
theorem wtE_split (n s : Int) (m : Nat) (f : Nat → Int) : wtE n s m f = if sgS n s ≠ 0 then sgS n s else wgE n m f := by
  unfold wtE sgS wgE
  by_cases h1 : n < 2 ∨ 64 < n
  · simp only [if_pos h1]; rfl
  simp only [if_neg h1]
  by_cases h2 : s < 0 ∨ n ≤ s
  · simp only [if_pos h2]; rfl
  simp only [if_neg h2]
  rfl
theorem inB_one (n s : Int) : inB n 1 (fun _ => s) = false ↔ (s < 0 ∨ n ≤ s) := by
  have e : inB n 1 (fun _ => s) = (decide (0 ≤ s ∧ s < n) && true) := rfl
  rw [e, Bool.and_true, decide_eq_false_iff_not]
  omega
theorem sgE_sign (n s : Int) : sgE n 1 (fun _ => 1) (fun _ _ => s) = sgS n s := by
  rw [sgE_one]
  unfold sgS
  by_cases h : s < 0 ∨ n ≤ s
  · rw [if_pos h, if_pos ((inB_one n s).2 h)]
  · rw [if_neg h, if_neg (fun e => h ((inB_one n s).1 e))]
theorem sgE_none (n : Int) (L : Nat → Nat) (Z : Nat → Nat → Int) : sgE n 0 L Z = sgS n 0 := by
  unfold sgE sgS
  by_cases h : n < 2 ∨ 64 < n
  · rw [if_pos h, if_pos h]
  · rw [if_neg h, if_neg h, if_pos (by rfl), if_neg (by omega)]
/-- signsWrong(n, []int{s}). -/
theorem psig_one (n s : Int) (w : World) : Calls Try.prog 27 #[.int .i64 n, .slice (some ⟨w.heap.size + 1, 0, none⟩) 1 1] ((w.alloc (.cells #[.int .i64 s] 3)).alloc (.cells #[.slice (some ⟨w.heap.size, 0, none⟩) 1 1] 22)) fun e w' => (w.alloc (.cells #[.int .i64 s] 3)).alloc (.cells #[.slice (some ⟨w.heap.size, 0, none⟩) 1 1] 22) = w' ∧ e = .returned (.int .i64 (sgS n s)) := by
  have h := one_mat (w.alloc (.cells #[.int .i64 s] 3)) _ 1 (fun _ => s) (one_num w s)
  have hz : (w.alloc (.cells #[.int .i64 s] 3)).heap.size = w.heap.size + 1 := by simp
  rw [hz] at h
  have := psig_any n _ 1 _ _ _ h
  rw [sgE_sign] at this
  exact this
set_option maxRecDepth 100000 in
set_option maxHeartbeats 4000000 in
theorem pch_any (n s : Int) (v : Value) (m : Nat) (f : Nat → Int) (w : World) (hv : NumsAt w v m f) : Calls Try.prog 13 #[.int .i64 n, v, .int .i64 s] w fun e w' => ∃ v', e = .returned (.tuple #[v', .int .i64 (wtE n s m f)]) ∧ Ans w' v' (rl (wtE n s m f) n.toNat) (chF n s f) ∧ Below w.heap.size w w' := by
  have HM := (show Hid (Calls Try.prog 27 #[.int .i64 n, .slice (some ⟨w.heap.size + 1, 0, none⟩) 1 1] ((w.alloc (.cells #[.int .i64 s] 3)).alloc (.cells #[.slice (some ⟨w.heap.size, 0, none⟩) 1 1] 22)) fun e w' => (w.alloc (.cells #[.int .i64 s] 3)).alloc (.cells #[.slice (some ⟨w.heap.size, 0, none⟩) 1 1] 22) = w' ∧ e = .returned (.int .i64 (sgS n s))) from psig_one n s w)
  have HB := (show Hid (Below w.heap.size w ((w.alloc (.cells #[.int .i64 s] 3)).alloc (.cells #[.slice (some ⟨w.heap.size, 0, none⟩) 1 1] 22))) from ((Below.refl _ _).alloc (Nat.le_refl _) _).alloc (by simp) _)
  have HW := (show Hid (∀ W, Below w.heap.size w W → Calls Try.prog 28 #[.int .i64 n, v] W fun e w' => W = w' ∧ e = .returned (.int .i64 (wgE n m f))) from fun W hb => pwei_any n v m f W (hv.below hb))
  obtain ⟨a, c, rfl, hm, hc⟩ := hv
  have HC := (show Hid _ from hc)
  unfold maxLen at hm
  clear hc
  have HX := (show Hid _ from wtE_split n s m f)
  obtain ⟨E, hE⟩ : ∃ E, E = wtE n s m f := ⟨_, rfl⟩
  rw [← hE] at HX ⊢
  have HE := (show Hid _ from hE)
  clear hE
  obtain ⟨S, hS⟩ : ∃ S, S = sgS n s := ⟨_, rfl⟩
  rw [← hS] at HX HM
  clear hS
  obtain ⟨G, hG⟩ : ∃ G, G = wgE n m f := ⟨_, rfl⟩
  rw [← hG] at HX HW
  clear hG
  by_cases hS : S = 0
  case neg =>
    have hE1 : (S != 0) = true := by simp [hS]
    have HR : Hid (E = S ∧ rl E n.toNat = 0) := by
      have h1 : E = S := by rw [HX.out, if_pos hS]
      refine ⟨h1, ?_⟩
      unfold rl
      rw [h1, if_neg hS]
    clear hS HC HE HX HW
    go_enter Try.func13, Try.ntmps13
    go_wp2_with fail
    refine HM.out.mono ?_
    rintro e W1 ⟨rfl, rfl⟩
    clear HM
    go_wp2
    go_ret2
    exact ⟨_, by rw [HR.out.1]; rfl, by rw [HR.out.2]; exact Ans.nil _ _, HB.out⟩
  subst hS
  have HX2 : Hid (E = G) := by rw [Hid, HX.out, if_neg (by simp)]
  clear HX
  by_cases hG : G = 0
  case neg =>
    have hE1 : (G != 0) = true := by simp [hG]
    have HR : Hid (rl E n.toNat = 0) := by
      rw [Hid, HX2.out]
      unfold rl
      rw [if_neg hG]
    clear hG HC HE
    go_enter Try.func13, Try.ntmps13
    go_wp2_with fail
    refine HM.out.mono ?_
    rintro e W1 ⟨rfl, rfl⟩
    clear HM
    go_wp2_with fail
    refine (HW.out _ HB.out).mono ?_
    rintro e W1 ⟨rfl, rfl⟩
    clear HW
    go_wp2
    go_ret2
    exact ⟨_, by rw [HX2.out]; rfl, by rw [HR.out]; exact Ans.nil _ _, HB.out⟩
  subst hG
  obtain ⟨h1, h2, h3, h4, h5, _⟩ := wtE_zero (HE.out.symm.trans HX2.out)
  have HE0 := (show Hid _ from HX2.out)
  clear HE HX2
  obtain ⟨N, rfl⟩ : ∃ N : Nat, n = (N : Int) := ⟨n.toNat, by omega⟩
  obtain ⟨x, rfl⟩ : ∃ x : Nat, s = (x : Int) := ⟨s.toNat, by omega⟩
  obtain rfl : m = N := by omega
  have hN1 : 2 ≤ m := by omega
  have hN2 : m ≤ 64 := by omega
  have hx3 : x < m := by omega
  have HCF : Hid (∀ i, chF (m : Int) (x : Int) f i = f (lst m i x)) := fun i => by unfold chF; rw [Int.toNat_natCast, Int.toNat_natCast]
  have HT : Hid (((m : Int)).toNat = m) := Int.toNat_natCast m
  have hmk := run_make_row' (P := Try.prog) 22 3 (.int .i64 0) 8 Try.underlying22 g_info_int rfl .i64 .i64 m (by omega) (by omega)
  rw [made_tabT] at hmk
  clear h1 h2 h3 h4 h5
  go_enter Try.func13, Try.ntmps13
  go_wp2_with fail
  refine HM.out.mono ?_
  rintro e W1 ⟨rfl, rfl⟩
  clear HM
  go_wp2_with fail
  refine (HW.out _ HB.out).mono ?_
  rintro e W1 ⟨rfl, rfl⟩
  clear HW
  have hbe0 := HB.out
  clear HB
  generalize (w.alloc (.cells #[.int .i64 (x : Int)] 3)).alloc (.cells #[.slice (some ⟨w.heap.size, 0, none⟩) 1 1] 22) = W1 at *
  go_upto_region 8 with fail
  have hr6 : RowAt (W1.alloc (.cells (tab m fun _ => .int .i64 0) 3)) W1.heap.size 3 (ints m (mk (chF (m : Int) (x : Int) f) 0)) := by
    rw [← mk_zero]
    exact RowAt.new W1 _ _
  have hb6 := hbe0.alloc hbe0.size (.cells (tab m fun _ => .int .i64 0) 3)
  generalize W1.alloc (.cells (tab m fun _ => .int .i64 0) 3) = W3 at *
  have hz0 := hbe0.size
  generalize W1.heap.size = g at *
  clear hmk hbe0
  go_wp2_with fail
  go_loopw [30] (fun y W => ∃ i : Nat, i ≤ m ∧ y = .int .i64 (i : Nat) ∧ RowAt W g 3 (ints m (mk (chF (m : Int) (x : Int) f) i)) ∧ Below w.heap.size w W) (fun y _ => ((m : Int) - intOf y).toNat)
  case atStart => exact ⟨0, by omega, rfl, hr6, hb6⟩
  case round =>
    clear hr6 hb6
    obtain ⟨i, hi, rfl, hro, hbe⟩ := hrel
    by_cases hlt : i < m
    case neg =>
      obtain rfl : i = m := by omega
      have hnn : ¬ ((i : Nat) : Int) < ((i : Nat) : Int) := by omega
      rw [mk_all] at hro
      have HRO := (show Hid _ from hro)
      have HBE := (show Hid _ from hbe)
      have HR : Hid (rl E i = i) := by rw [Hid, HE0.out]; rfl
      clear hro hbe hlt
      go_wp2
      go_ret2
      exact ⟨_, by rw [HE0.out]; rfl, by rw [HR.out]; exact Ans.row HRO.out (by unfold maxLen; omega), HBE.out⟩
    have HLT : Hid (i < m) := hlt
    have hlt2 : (i : Int) < (m : Int) := by omega
    have hq : lst m i x < m := lst_lt (by omega) i x
    have hqe : lst m i x = (i + (m - x) % m) % m := rfl
    obtain ⟨b1, o1, rfl, c1⟩ := HC.out _ hq
    have d1 := (hbe.cell (p := ⟨b1, o1 + lst m i x, none⟩) (cell_block c1)).trans c1
    have HV := (show Hid _ from HCF.out i)
    have hqi : (((lst m i x : Nat) : Int)) < (m : Int) := by omega
    have hz := hbe.size
    go_wp2_with fail
    refine (popp_any m x hN1 hN2 hx3 wr).mono ?_
    rintro e W4 ⟨rfl, rfl⟩
    have hy4 : (m - x) % m < m := Nat.mod_lt _ (by omega)
    obtain ⟨y', hy'⟩ : ∃ y', y' = (m - x) % m := ⟨_, rfl⟩
    rw [← hy'] at hy4 hqe ⊢
    clear hy'
    go_wp2_with fail
    refine (padd_two m i y' hN1 hN2 hlt hy4 wr).mono ?_
    rintro e W4 ⟨rfl, rfl⟩
    rw [← hqe]
    clear hqe
    have hro5 := hro.alloc (.cells #[.int .i64 (i : Nat), .int .i64 (y' : Nat)] 3)
    have hbe5 := hbe.alloc hz (.cells #[.int .i64 (i : Nat), .int .i64 (y' : Nat)] 3)
    have d2 := (hbe5.cell (p := ⟨b1, o1 + lst m i x, none⟩) (cell_block c1)).trans c1
    have hcell := hro5.cell (ints_get (mk (chF (m : Int) (x : Int) f) i) hlt)
    have hfz := hro5.frozen i
    generalize wr.alloc (.cells #[.int .i64 (i : Nat), .int .i64 (y' : Nat)] 3) = W5 at *
    have HN : Hid (RowAt (W5.setCell ⟨g, i, none⟩ (.int .i64 (chF (m : Int) (x : Int) f i))) g 3 (ints m (mk (chF (m : Int) (x : Int) f) (i + 1))) ∧ Below w.heap.size w (W5.setCell ⟨g, i, none⟩ (.int .i64 (chF (m : Int) (x : Int) f i)))) := by
      refine ⟨?_, hbe5.setCell (p := ⟨g, i, none⟩) hz0 _⟩
      have h1 := hro5.set i (.int .i64 (chF (m : Int) (x : Int) f i))
      rw [ints_set, mk_next] at h1
      exact h1
    rw [HV.out] at HN
    clear HV hro hbe hro5 hbe5 hlt d1 c1
    generalize f (lst m i x) = z at *
    generalize lst m i x = q at *
    go_wp2
    go_roundw
    case rel => exact ⟨i + 1, HLT.out, by go_num, HN.out.1, HN.out.2⟩
    case measure => have := HLT.out; simp [intOf]; omega
set_option maxRecDepth 100000 in
set_option maxHeartbeats 4000000 in
theorem pse_any (n : Int) (v : Value) (m : Nat) (f : Nat → Int) (w : World) (hv : NumsAt w v m f) : Calls Try.prog 15 #[.int .i64 n, v] w fun e w' => e = .returned (.tuple #[.bool (seB n m f), .int .i64 (wtE n 0 m f)]) ∧ Below w.heap.size w w' := by
  have HM := (show Hid (Calls Try.prog 27 #[.int .i64 n, .slice none 0 0] w fun e w' => w = w' ∧ e = .returned (.int .i64 (sgS n 0))) from by
    have := psig_any n _ 0 _ _ w (MatAt.nil w (fun _ => 0) (fun _ _ => 0))
    rw [sgE_none] at this
    exact this)
  have HW := (show Hid (Calls Try.prog 28 #[.int .i64 n, v] w fun e w' => w = w' ∧ e = .returned (.int .i64 (wgE n m f))) from pwei_any n v m f w hv)
  obtain ⟨a, c, rfl, hm, hc⟩ := hv
  have HC := (show Hid _ from hc)
  unfold maxLen at hm
  clear hc
  have HX := (show Hid _ from wtE_split n 0 m f)
  have HS := (show Hid (seB n m f = if wtE n 0 m f = 0 then evB m f else false) from rfl)
  obtain ⟨B, hB⟩ : ∃ B, B = seB n m f := ⟨_, rfl⟩
  rw [← hB] at HS ⊢
  clear hB
  obtain ⟨E, hE⟩ : ∃ E, E = wtE n 0 m f := ⟨_, rfl⟩
  rw [← hE] at HX HS ⊢
  have HE := (show Hid _ from hE)
  clear hE
  obtain ⟨S, hS⟩ : ∃ S, S = sgS n 0 := ⟨_, rfl⟩
  rw [← hS] at HX HM
  clear hS
  obtain ⟨G, hG⟩ : ∃ G, G = wgE n m f := ⟨_, rfl⟩
  rw [← hG] at HX HW
  clear hG
  by_cases hS : S = 0
  case neg =>
    have hE1 : (S != 0) = true := by simp [hS]
    have HR : Hid (E = S ∧ B = false) := by
      have h1 : E = S := by rw [HX.out, if_pos hS]
      refine ⟨h1, ?_⟩
      rw [HS.out, h1, if_neg hS]
    clear hS HC HE HX HW HS
    go_enter Try.func15, Try.ntmps15
    go_wp2_with fail
    refine HM.out.mono ?_
    rintro e W1 ⟨rfl, rfl⟩
    clear HM
    go_wp2
    go_ret2
    exact ⟨by rw [HR.out.1, HR.out.2]; rfl, Below.refl _ _⟩
  subst hS
  have HX2 : Hid (E = G) := by rw [Hid, HX.out, if_neg (by simp)]
  clear HX
  by_cases hG : G = 0
  case neg =>
    have hE1 : (G != 0) = true := by simp [hG]
    have HR : Hid (B = false) := by rw [Hid, HS.out, HX2.out, if_neg hG]
    clear hG HC HE HS
    go_enter Try.func15, Try.ntmps15
    go_wp2_with fail
    refine HM.out.mono ?_
    rintro e W1 ⟨rfl, rfl⟩
    clear HM
    go_wp2_with fail
    refine HW.out.mono ?_
    rintro e W1 ⟨rfl, rfl⟩
    clear HW
    go_wp2
    go_ret2
    exact ⟨by rw [HX2.out, HR.out]; rfl, Below.refl _ _⟩
  subst hG
  obtain ⟨h1, h2, h3, h4, h5, _⟩ := wtE_zero (HE.out.symm.trans HX2.out)
  have HE0 := (show Hid _ from HX2.out)
  have HB : Hid (B = evB m f) := by rw [Hid, HS.out, HE0.out, if_pos rfl]
  clear HE HX2 HS
  obtain ⟨b0, o0, hab, c0⟩ := HC.out 0 (by omega)
  subst hab
  rw [Nat.add_zero] at c0
  have hm0 : 0 < m := by omega
  clear h1 h2 h3 h4 h5
  go_enter Try.func15, Try.ntmps15
  go_wp2_with fail
  refine HM.out.mono ?_
  rintro e W1 ⟨rfl, rfl⟩
  clear HM
  go_wp2_with fail
  refine HW.out.mono ?_
  rintro e W1 ⟨rfl, rfl⟩
  clear HW
  go_wp2_with fail
  go_loopw [23] (fun y W => ∃ i : Nat, i ≤ m ∧ y = .int .i64 (i : Nat) ∧ (∀ j, j < i → f j = f 0) ∧ w = W) (fun y _ => ((m : Int) - intOf y).toNat)
  case atStart => exact ⟨0, by omega, rfl, fun j hj => by omega, rfl⟩
  case round =>
    obtain ⟨i, hi, rfl, hin, rfl⟩ := hrel
    have HIN := (show Hid _ from hin)
    clear hin
    by_cases hlt : i < m
    · have HLT : Hid (i < m) := hlt
      have hlt2 : (i : Int) < (m : Int) := by omega
      obtain ⟨b1, o1, e1, c1⟩ := HC.out i hlt
      cases e1
      clear hlt
      by_cases hz : f i = f 0
      · have HNX : Hid (∀ j, j < i + 1 → f j = f 0) := fun j hj => by
          by_cases e : j = i
          · rw [e]; exact hz
          · exact HIN.out j (by omega)
        rw [hz] at c1
        have hz1 : (f 0 != f 0) = false := by simp
        clear hz
        generalize f 0 = z at *
        go_wp2
        go_roundw
        case rel => exact ⟨i + 1, HLT.out, by go_num, HNX.out, trivial⟩
        case measure => have := HLT.out; simp [intOf]; omega
      · have HF : Hid (B = false) := by rw [Hid, HB.out]; exact evB_false HLT.out hz
        have hz1 : (f i != f 0) = true := by simp [hz]
        clear hz
        generalize f i = z at *
        generalize f 0 = z0 at *
        go_wp2
        go_ret2
        exact ⟨by rw [HE0.out, HF.out]; rfl, Below.refl _ _⟩
    · obtain rfl : i = m := by omega
      have hnn : ¬ ((i : Nat) : Int) < ((i : Nat) : Int) := by omega
      have HF : Hid (B = true) := by rw [Hid, HB.out]; exact (evB_iff _ _).2 HIN.out
      clear hlt
      go_wp2
      go_ret2
      exact ⟨by rw [HE0.out, HF.out]; rfl, Below.refl _ _⟩
end Go.Proofs.Ytccdbghhjcdcfaa
