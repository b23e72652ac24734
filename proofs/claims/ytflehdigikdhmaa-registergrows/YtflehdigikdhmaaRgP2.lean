/-
  Contract of register's Run (chapter 11).
-/
import Derived.Test.YtflehdigikdhmaaRgP1
namespace Go.Proofs.Ytflehdigikdhmaa
open Go.RowKit PK Rg

set_option maxRecDepth 100000 in
set_option maxHeartbeats 2000000 in
theorem prun_bad (vt vs : Value) (nt ns : Nat) (ft fs : Nat → Int) (n : Int) (hE : rrE nt ns ft fs n ≠ 0) (w : World) (ht : NumsAt w vt nt ft) (hs : NumsAt w vs ns fs) : Calls Try.prog 7 #[vt, vs, .int .i64 n] w fun e w' => e = .returned (.tuple #[.slice none 0 0, .int .i64 (rrE nt ns ft fs n)]) ∧ Below w.heap.size w w' := by
  have HF1 := (show Hid (∀ W, Below w.heap.size w W → Calls Try.prog 15 #[vt] W fun e w' => e = .returned (.bool (frB nt ft)) ∧ Below W.heap.size W w') from fun W hb => pbits_any vt nt ft W (ht.below hb))
  have HF2 := (show Hid (∀ W, Below w.heap.size w W → Calls Try.prog 15 #[vs] W fun e w' => e = .returned (.bool (frB ns fs)) ∧ Below W.heap.size W w') from fun W hb => pbits_any vs ns fs W (hs.below hb))
  obtain ⟨at', ct, rfl, hmt, _⟩ := ht
  obtain ⟨as', cs, rfl, hms, _⟩ := hs
  unfold maxLen at hmt hms
  by_cases h1 : 256 < nt ∨ ns ≠ nt
  · have HE : Hid (rrE nt ns ft fs n = 8) := by unfold rrE; rw [Hid, if_pos h1]
    clear hE HF1 HF2
    by_cases h2 : 256 < nt
    · have h3 : (256 : Int) < (nt : Int) := by omega
      clear h1 h2
      go_enter Try.func7, Try.ntmps7
      go_wp2
      go_ret2
      exact ⟨by rw [HE.out]; rfl, Below.refl _ _⟩
    · have h3 : ¬ (256 : Int) < (nt : Int) := by omega
      have h4 : (((ns : Nat) : Int) != ((nt : Nat) : Int)) = true := by simp; omega
      clear h1 h2
      go_enter Try.func7, Try.ntmps7
      go_wp2
      go_ret2
      exact ⟨by rw [HE.out]; rfl, Below.refl _ _⟩
  · have h3 : ¬ (256 : Int) < (nt : Int) := by omega
    have h4 : (((ns : Nat) : Int) != ((nt : Nat) : Int)) = false := by simp; omega
    have HE : Hid (rrE nt ns ft fs n = 3 ∧ (n < 0 ∨ 65536 < n ∨ frB nt ft = false ∨ frB ns fs = false)) := by
      unfold rrE at hE ⊢
      rw [if_neg h1] at hE ⊢
      by_cases h5 : n < 0 ∨ 65536 < n ∨ frB nt ft = false ∨ frB ns fs = false
      · exact ⟨by rw [if_pos h5], h5⟩
      · rw [if_neg h5] at hE; exact absurd rfl hE
    clear h1 hE
    by_cases h5 : n < 0
    · clear HF1 HF2
      go_enter Try.func7, Try.ntmps7
      go_wp2
      go_ret2
      exact ⟨by rw [HE.out.1]; rfl, Below.refl _ _⟩
    · by_cases h6 : 65536 < n
      · clear HF1 HF2
        go_enter Try.func7, Try.ntmps7
        go_wp2
        go_ret2
        exact ⟨by rw [HE.out.1]; rfl, Below.refl _ _⟩
      · go_enter Try.func7, Try.ntmps7
        go_wp2_with fail
        refine (HF1.out _ (Below.refl _ _)).mono ?_
        rintro e W1 ⟨rfl, hb⟩
        cases h7 : frB nt ft
        · clear h7 HF2
          go_wp2
          go_ret2
          exact ⟨by rw [HE.out.1]; rfl, hb⟩
        · have h8 : frB ns fs = false := by
            rcases HE.out.2 with h | h | h | h
            · omega
            · omega
            · rw [h7] at h; cases h
            · exact h
          rw [h8] at HF2
          clear h7 h8
          go_wp2_with fail
          refine (HF2.out _ hb).mono ?_
          rintro e W2 ⟨rfl, hb2⟩
          have HBE := (show Hid _ from hb.trans (hb2.mono hb.size))
          clear hb hb2 HF1 HF2
          go_wp2
          go_ret2
          exact ⟨by rw [HE.out.1]; rfl, HBE.out⟩
/-- What is made so far: the first m. -/
def mkF (l : List Nat) (m : Nat) : Nat → Int := fun k => if k < m then ((l.getD k 0 : Nat) : Int) else 0
theorem b1_bt {x : Nat} (h : x ≤ 1) : b1 (bt x) = (x : Int) := by
  rcases (by omega : x = 0 ∨ x = 1) with rfl | rfl <;> rfl
theorem rgB_sum (t s : Nat → Nat) (L n : Nat) {i : Nat} (h1 : L ≤ i) (h2 : i < n) : b1 (sx L fun k => bt (t k) && bt ((rgB t s L n).getD (i - 1 - k) 0)) = (((rgB t s L n).getD i 0 : Nat) : Int) := by
  have h := rgB_makes t s L n i h1 h2
  unfold At at h
  rw [← h, b1_bt (rgB_bit t s L n i)]
theorem mkF_start (t s : Nat → Nat) (L n : Nat) (hs : ∀ k, k < L → s k ≤ 1) : ints n (cpF (fun _ => 0) (fun k => ((s k : Nat) : Int)) (min L n)) = ints n (mkF (rgB t s L n) (min L n)) := ints_ext fun i hi => by
  unfold cpF mkF
  by_cases e : i < min L n
  · rw [if_pos e, if_pos e, rgB_get t s L (n := i + 1) (m := n) (by omega) (by omega), rgB_at, if_pos (by omega)]
    have := hs i (by omega)
    show ((s i : Nat) : Int) = ((s i % 2 : Nat) : Int)
    omega
  · rw [if_neg e, if_neg e]
theorem mkF_next (l : List Nat) (n m : Nat) : ints n (upd (mkF l m) m ((l.getD m 0 : Nat) : Int)) = ints n (mkF l (m + 1)) := ints_ext fun i hi => by
  unfold upd
  by_cases e : i = m
  · rw [if_pos e]
    unfold mkF
    rw [if_pos (by omega), e]
  · rw [if_neg e]
    unfold mkF
    by_cases e2 : i < m
    · rw [if_pos e2, if_pos (by omega)]
    · rw [if_neg e2, if_neg (by omega)]
theorem mkF_all (l : List Nat) (n : Nat) : ints n (mkF l n) = ints n fun i => ((l.getD i 0 : Nat) : Int) := ints_ext fun i hi => by
  unfold mkF
  rw [if_pos hi]
theorem mkF_part {t s : Nat → Nat} {L n m : Nat} {W : World} {g : Nat} (h : RowAt W g 3 (ints n (mkF (rgB t s L n) m))) (hm : m ≤ n) (hn : n ≤ maxLen) : NumsAt W (.slice (some ⟨g, 0, none⟩) m n) m (bi fun k => bt ((rgB t s L n).getD k 0)) :=
  ⟨some ⟨g, 0, none⟩, n, rfl, by omega, fun c hc => ⟨g, 0, rfl, by
    have h1 := h.cell (ints_get _ (show c < n by omega))
    unfold mkF at h1
    rw [if_pos hc] at h1
    unfold bi
    rw [b1_bt (rgB_bit t s L n c), Nat.zero_add]
    exact h1⟩⟩
set_option maxRecDepth 100000 in
set_option maxHeartbeats 4000000 in
theorem prun_ok (vt vs : Value) (L : Nat) (hL : L ≤ 256) (t s : Nat → Nat) (h1t : ∀ k, k < L → t k ≤ 1) (h1s : ∀ k, k < L → s k ≤ 1) (n : Nat) (hn : n ≤ 65536) (w : World) (ht : NumsAt w vt L fun k => (t k : Nat)) (hs : NumsAt w vs L fun k => (s k : Nat)) : Calls Try.prog 7 #[vt, vs, .int .i64 (n : Nat)] w fun e w' => ∃ g, e = .returned (.tuple #[.slice (some ⟨g, 0, none⟩) n n, .int .i64 0]) ∧ RowAt w' g 3 (ints n fun i => (((rgB t s L n).getD i 0 : Nat) : Int)) ∧ Below w.heap.size w w' := by
  have hfT : frB L (fun k => ((t k : Nat) : Int)) = true := (frB_iff _ _).2 fun i hi => by have := h1t i hi; omega
  have hfS : frB L (fun k => ((s k : Nat) : Int)) = true := (frB_iff _ _).2 fun i hi => by have := h1s i hi; omega
  have HF1 := (show Hid (∀ W, Below w.heap.size w W → Calls Try.prog 15 #[vt] W fun e w' => e = .returned (.bool true) ∧ Below W.heap.size W w') from fun W hb => by have := pbits_any vt L _ W (ht.below hb); rw [hfT] at this; exact this)
  have HF2 := (show Hid (∀ W, Below w.heap.size w W → Calls Try.prog 15 #[vs] W fun e w' => e = .returned (.bool true) ∧ Below W.heap.size W w') from fun W hb => by have := pbits_any vs L _ W (hs.below hb); rw [hfS] at this; exact this)
  have HT := (show Hid (NumsAt w vt L (bi fun k => bt (t k))) from nums_ext ht fun i hi => (b1_bt (h1t i hi)).symm)
  have HS := (show Hid (NumsAt w vs L fun k => (s k : Nat)) from hs)
  have H0 := (show Hid _ from mkF_start t s L n h1s)
  have HMF : Hid (∀ m W g, m ≤ n → RowAt W g 3 (ints n (mkF (rgB t s L n) m)) → NumsAt W (.slice (some ⟨g, 0, none⟩) m n) m (bi fun k => bt ((rgB t s L n).getD k 0))) := fun m W g hm h => mkF_part h hm (by unfold maxLen; omega)
  have HSUM : Hid (∀ i, L ≤ i → i < n → b1 (sx L fun k => bt (t k) && bt ((rgB t s L n).getD (i - 1 - k) 0)) = (((rgB t s L n).getD i 0 : Nat) : Int)) := fun i h1 h2 => rgB_sum t s L n h1 h2
  have hmk := run_make_row' (P := Try.prog) 22 3 (.int .i64 0) 8 Try.underlying22 g_info_int rfl .i64 .i64 n (by omega) (by omega)
  rw [made_tabT] at hmk
  generalize rgB t s L n = O at *
  obtain ⟨at', ct, rfl, _, _⟩ := ht
  obtain ⟨as', cs, rfl, _, _⟩ := hs
  have h3 : ¬ (256 : Int) < (L : Int) := by omega
  have h4 : (((L : Nat) : Int) != ((L : Nat) : Int)) = false := by simp
  have h5 : ¬ (65536 : Int) < (n : Int) := by omega
  clear h1t h1s hfT hfS
  go_enter Try.func7, Try.ntmps7
  go_wp2_with fail
  refine (HF1.out _ (Below.refl _ _)).mono ?_
  rintro e W1 ⟨rfl, hb⟩
  clear HF1
  go_wp2_with fail
  refine (HF2.out _ hb).mono ?_
  rintro e W2 ⟨rfl, hb2⟩
  have hbe0 := hb.trans (hb2.mono hb.size)
  clear hb hb2 HF2 h3 h4 h5
  go_upto_region 6 with fail
  have hr6 : RowAt (W2.alloc (.cells (tab n fun _ => .int .i64 0) 3)) W2.heap.size 3 (ints n fun _ => 0) := RowAt.new W2 _ _
  have hb6 := hbe0.alloc hbe0.size (.cells (tab n fun _ => .int .i64 0) 3)
  generalize W2.alloc (.cells (tab n fun _ => .int .i64 0) 3) = W3 at *
  have hz0 := hbe0.size
  generalize W2.heap.size = g at *
  clear hmk hbe0
  have hsB := HS.out.below (w' := W3) hb6
  obtain ⟨W4, hcp, hr4, hb4⟩ := run_copy_ints hr6 hsB hb6 hz0
  rw [H0.out] at hr4
  obtain ⟨c, hc⟩ : ∃ c, c = min L n := ⟨_, rfl⟩
  rw [← hc] at hcp hr4
  have hcL : c ≤ L := by omega
  have hcn : c ≤ n := by omega
  have HCL : Hid (c < n → c = L) := fun h => by omega
  have hsub : (n : Int) - (c : Int) = ((n - c : Nat) : Int) := by omega
  clear hr6 hb6 hsB hc H0 HS
  go_wp2_with fail
  go_loopw [46] (fun x W => ∃ i : Nat, i ≤ n - c ∧ x = .int .i64 (i : Nat) ∧ RowAt W g 3 (ints n (mkF O (c + i))) ∧ Below w.heap.size w W) (fun x _ => (((n - c : Nat) : Int) - intOf x).toNat)
  case atStart => exact ⟨0, by omega, rfl, hr4, hb4⟩
  case round =>
    clear hr4 hb4 hcp
    obtain ⟨i, hi, rfl, hro, hbe⟩ := hrel
    by_cases hlt : i < n - c
    case neg =>
      obtain rfl : i = n - c := by omega
      have hnn : ¬ ((n - c : Nat) : Int) < ((n - c : Nat) : Int) := by omega
      rw [show c + (n - c) = n by omega, mkF_all] at hro
      have HRO := (show Hid _ from hro)
      have HBE := (show Hid _ from hbe)
      clear hro hbe hlt
      go_wp2
      go_ret2
      exact ⟨g, rfl, HRO.out, HBE.out⟩
    have HLT : Hid (i < n - c) := hlt
    have hlt2 : (i : Int) < ((n - c : Nat) : Int) := by omega
    obtain rfl : c = L := HCL.out (by omega)
    have HS7 := (show Hid (Calls Try.prog 16 #[.slice at' c ct, .slice (some ⟨g, 0, none⟩) (c + i) n] wr fun e w' => e = .returned (.int .i64 (((O.getD (c + i) 0 : Nat) : Int))) ∧ Below wr.heap.size wr w') from by
      have := psum_any (.slice at' c ct) (.slice (some ⟨g, 0, none⟩) (c + i) n) c (c + i) (by omega) (fun k => bt (t k)) (fun k => bt (O.getD k 0)) wr (HT.out.below hbe) (HMF.out (c + i) wr g (by omega) hro)
      rw [HSUM.out (c + i) (by omega) (by omega)] at this
      exact this)
    have hat : (c : Int) + (i : Int) = ((c + i : Nat) : Int) := by omega
    have hai : ((c + i : Nat) : Int) < (n : Int) := by omega
    have hai2 : c + i ≤ n := by omega
    obtain ⟨q, hq⟩ : ∃ q, q = c + i := ⟨_, rfl⟩
    rw [← hq] at HS7 hat hai hai2 hro
    have HQ := (show Hid _ from hq)
    have HRO := (show Hid _ from hro)
    have HBE := (show Hid _ from hbe)
    clear hlt hro hbe hq HT HMF HSUM HCL
    go_wp2_with fail
    refine Calls.mono HS7.out ?_
    rintro e W5 ⟨rfl, hb5⟩
    have hro5 := RowAt.below HRO.out hb5 (RowAt.lt HRO.out)
    have hbe5 := HBE.out.trans (hb5.mono HBE.out.size)
    have hqn : q < n := by omega
    have hcell := hro5.cell (ints_get (mkF O q) hqn)
    have hfz := hro5.frozen q
    have HN : Hid (RowAt (W5.setCell ⟨g, q, none⟩ (.int .i64 ((O.getD q 0 : Nat) : Int))) g 3 (ints n (mkF O (q + 1))) ∧ Below w.heap.size w (W5.setCell ⟨g, q, none⟩ (.int .i64 ((O.getD q 0 : Nat) : Int)))) := by
      refine ⟨?_, hbe5.setCell (p := ⟨g, q, none⟩) hz0 _⟩
      have h1 := hro5.set q (.int .i64 ((O.getD q 0 : Nat) : Int))
      rw [ints_set, mkF_next] at h1
      exact h1
    generalize ((O.getD q 0 : Nat) : Int) = z at *
    clear HS7 HRO HBE hb5 hro5 hbe5
    go_wp2
    go_roundw
    case rel => exact ⟨i + 1, HLT.out, by go_num, by rw [show c + (i + 1) = q + 1 by rw [HQ.out]; omega]; exact HN.out.1, HN.out.2⟩
    case measure => have := HLT.out; simp [intOf]; omega
theorem prg_run : PRun 7 := fun vt vs nt ns ft fs n w ht hs => by
  by_cases hE : rrE nt ns ft fs n = 0
  · obtain ⟨h1, rfl, h3, h4, h5, h6⟩ := rrE_zero hE
    have hnn : n = ((n.toNat : Nat) : Int) := by omega
    have := prun_ok vt vs ns h1 (fun k => (ft k).toNat) (fun k => (fs k).toNat) (fun k hk => (fair_nat h5 hk).2) (fun k hk => (fair_nat h6 hk).2) n.toNat (by omega) w (nums_ext ht.2 fun i hi => (fair_nat h5 hi).1) (nums_ext hs.2 fun i hi => (fair_nat h6 hi).1)
    rw [← hnn] at this
    refine this.mono ?_
    rintro e w' ⟨g, h7, h8, h9⟩
    refine ⟨_, by rw [h7, hE], ?_, h9⟩
    rw [hE]
    exact ⟨⟨_, _, rfl, Nat.le_refl _⟩, NumsAt.of_row h8 (by show n.toNat ≤ maxLen; unfold maxLen; omega)⟩
  · refine (prun_bad vt vs nt ns ft fs n hE w ht.2 hs.2).mono ?_
    rintro e w' ⟨h1, h2⟩
    refine ⟨_, h1, ?_, h2⟩
    unfold rl
    rw [if_neg hE]
    exact Ans.nil _ _
end Go.Proofs.Ytflehdigikdhmaa
