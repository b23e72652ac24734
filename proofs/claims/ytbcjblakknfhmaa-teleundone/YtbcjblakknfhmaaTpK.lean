/-
  Contract of tele's Key (chapter 13).
-/
import Derived.Test.YtbcjblakknfhmaaTpT
import Derived.Test.YtbcjblakknfhmaaTpW
import Derived.Test.YtbcjblakknfhmaaTeD
namespace Go.Proofs.Ytbcjblakknfhmaa
open Go.RowKit PK Tl

set_option maxRecDepth 100000 in
set_option maxHeartbeats 4000000 in
theorem pky_bad (v : Value) (T : Te) (n : Int) (hE : kyE T n ≠ 0) (w : World) (hd : TeAt w v T) : Calls Try.prog 10 #[v, .int .i64 n] w fun e w' => e = .returned (.tuple #[.slice none 0 0, .int .i64 (kyE T n)]) ∧ Below w.heap.size w w' := by
  have HW := (show Hid (∀ W, Below w.heap.size w W → Calls Try.prog 8 #[v] W fun e w' => e = .returned (.int .i64 (teE T)) ∧ Below W.heap.size W w') from fun W hb => ptw_any v T W (hd.below hb))
  obtain ⟨R, rfl, _⟩ := hd
  have h0 := TgAt.new w R T.pl
  by_cases hz : teE T = 0
  · have HE : Hid (kyE T n = 3 ∧ (n < 0 ∨ 65536 < n)) := by
      unfold kyE at hE ⊢
      rw [if_neg (fun h => h hz)] at hE ⊢
      by_cases h : n < 0 ∨ 65536 < n
      · exact ⟨by rw [if_pos h], h⟩
      · rw [if_neg h] at hE; exact absurd rfl hE
    rw [hz] at HW
    clear hE hz
    go_enter Try.func10, Try.ntmps10
    go_wp2_with (first | refine wpList_load_row rfl 27 _ rfl w.heap.size rfl 27 (teA R T.pl) (0, 0) _ h0.row Try.underlying27 rfl (by rw [teA_size]; exact t_info_tele) ?_)
    refine (HW.out _ h0.below).mono ?_
    rintro e W1 ⟨rfl, hb⟩
    have HBE := (show Hid _ from (h0.step hb).below)
    clear hb h0 HW
    by_cases h1 : n < 0
    · go_wp2
      go_ret2
      exact ⟨by rw [HE.out.1]; rfl, HBE.out⟩
    · have h2 : 65536 < n := by have := HE.out.2; omega
      go_wp2
      go_ret2
      exact ⟨by rw [HE.out.1]; rfl, HBE.out⟩
  · have HE : Hid (kyE T n = teE T) := by unfold kyE; rw [Hid, if_pos hz]
    have hz2 : (teE T != 0) = true := by simpa using hz
    clear hE hz
    obtain ⟨E, hEE⟩ : ∃ E, E = teE T := ⟨_, rfl⟩
    rw [← hEE] at HW HE hz2
    clear hEE
    go_enter Try.func10, Try.ntmps10
    go_wp2_with (first | refine wpList_load_row rfl 27 _ rfl w.heap.size rfl 27 (teA R T.pl) (0, 0) _ h0.row Try.underlying27 rfl (by rw [teA_size]; exact t_info_tele) ?_)
    refine (HW.out _ h0.below).mono ?_
    rintro e W1 ⟨rfl, hb⟩
    have HBE := (show Hid _ from (h0.step hb).below)
    clear hb h0 HW
    go_wp2
    go_ret2
    exact ⟨by rw [HE.out]; rfl, HBE.out⟩
/-- The first m are told. -/
def kyF (T : Te) (m : Nat) : Nat → Int := fun k => if k < m then ((keyN T k : Nat) : Int) else 0
theorem kyF_start (T : Te) (n : Nat) : (ints n fun _ => 0) = ints n (kyF T 0) := ints_ext fun i _ => by unfold kyF; rw [if_neg (by omega)]
theorem kyF_next (T : Te) (n m : Nat) : ints n (upd (kyF T m) m ((keyN T m : Nat) : Int)) = ints n (kyF T (m + 1)) := ints_ext fun i hi => by
  unfold upd
  by_cases e : i = m
  · rw [if_pos e]
    unfold kyF
    rw [if_pos (by omega), e]
  · rw [if_neg e]
    unfold kyF
    by_cases e2 : i < m
    · rw [if_pos e2, if_pos (by omega)]
    · rw [if_neg e2, if_neg (by omega)]
theorem kyF_all (T : Te) (n : Nat) : ints n (kyF T n) = ints n fun i => ((keyN T i : Nat) : Int) := ints_ext fun i hi => by
  unfold kyF
  rw [if_pos hi]
/-- The machine at work, and the letters. -/
structure KyS (w W : World) (R : Nat → Value) (T : Te) (g n i : Nat) : Prop where
  row : RowAt W w.heap.size 27 (teA R fun k => ((pos T i k : Nat) : Int))
  out : RowAt W g 3 (ints n (kyF T i))
  below : Below w.heap.size w W
  lt : w.heap.size < g
theorem KyS.drew {w W : World} {R : Nat → Value} {T : Te} {g n i : Nat} (h : KyS w W R T g n i) : KyS w W.drew R T g n i := ⟨h.row, h.out, h.below.drew, h.lt⟩
theorem KyS.step {w W W' : World} {R : Nat → Value} {T : Te} {g n i : Nat} (h : KyS w W R T g n i) (hb : Below W.heap.size W W') : KyS w W' R T g n i := ⟨h.row.below hb h.row.lt, h.out.below hb h.out.lt, h.below.trans (hb.mono h.below.size), h.lt⟩
/-- The machine alone. -/
structure KyB (w W : World) (R : Nat → Value) (T : Te) (i : Nat) : Prop where
  row : RowAt W w.heap.size 27 (teA R fun k => ((pos T i k : Nat) : Int))
  below : Below w.heap.size w W
theorem KyB.step {w W W' : World} {R : Nat → Value} {T : Te} {i : Nat} (h : KyB w W R T i) (hb : Below W.heap.size W W') : KyB w W' R T i := ⟨h.row.below hb h.row.lt, h.below.trans (hb.mono h.below.size)⟩
theorem KyB.set {w W : World} {R : Nat → Value} {T : Te} {i g : Nat} (h : KyB w W R T i) (hg : w.heap.size < g) (k : Nat) (v : Value) : KyB w (W.setCell ⟨g, k, none⟩ v) R T i := ⟨h.row.setOther _ _ (by show w.heap.size ≠ g; omega), h.below.setCell (p := ⟨g, k, none⟩) (by show w.heap.size ≤ g; omega) _⟩
set_option maxRecDepth 100000 in
set_option maxHeartbeats 8000000 in
theorem pky_ok (v : Value) (T : Te) (hz : teE T = 0) (n : Nat) (hn : n ≤ 65536) (w : World) (hd : TeAt w v T) : Calls Try.prog 10 #[v, .int .i64 (n : Nat)] w fun e w' => ∃ g, e = .returned (.tuple #[.slice (some ⟨g, 0, none⟩) n n, .int .i64 0]) ∧ RowAt w' g 3 (ints n fun i => ((keyN T i : Nat) : Int)) ∧ w.heap.size ≤ g ∧ Below w.heap.size w w' := by
  have HW := (show Hid (∀ W, Below w.heap.size w W → Calls Try.prog 8 #[v] W fun e w' => e = .returned (.int .i64 0) ∧ Below W.heap.size W w') from fun W hb => by have := ptw_any v T W (hd.below hb); rw [hz] at this; exact this)
  obtain ⟨R, rfl, hp⟩ := hd
  have h0 := TgAt.new w R T.pl
  have HPZ := (show Hid (teA R T.pl = teA R fun k => ((pos T 0 k : Nat) : Int)) from teA_ext fun k hk => (pos_zero hz hk).symm)
  have HC1 := (show Hid (∀ i W, Below w.heap.size w W → Calls Try.prog 23 #[.agg (tab 5 R), .agg (ints 5 fun k => ((pos T i k : Nat) : Int))] W fun e w' => e = .returned (.int .i64 (numOf (fun h => T.pin h (pos T i h)) 5 : Nat)) ∧ Below W.heap.size W w') from fun i W hb => pshown_any R T.ln T.pin (pos T i) (fun k hk => ⟨pos_lt hz i (by omega), (teE_zero hz (k := k) (by omega)).2.1⟩) W (fun k hk => (hp k (by omega)).below hb))
  have HC2 := (show Hid (∀ i W, Below w.heap.size w W → Calls Try.prog 23 #[.agg (tab 5 fun k => R (5 + k)), .agg (ints 5 fun k => ((pos T i (5 + k) : Nat) : Int))] W fun e w' => e = .returned (.int .i64 (numOf (fun h => T.pin (5 + h) (pos T i (5 + h))) 5 : Nat)) ∧ Below W.heap.size W w') from fun i W hb => pshown_any (fun k => R (5 + k)) (fun k => T.ln (5 + k)) (fun k => T.pin (5 + k)) (fun k => pos T i (5 + k)) (fun k hk => ⟨pos_lt hz i (by omega), (teE_zero hz (k := 5 + k) (by omega)).2.1⟩) W (fun k hk => (hp (5 + k) (by omega)).below hb))
  have HTU := (show Hid (∀ i W, TuAt w W W w.heap.size R (fun k => ((pos T i k : Nat) : Int)) → Calls Try.prog 24 #[.pointer (some ⟨w.heap.size, 0, none⟩)] W fun e w' => e = .returned (.tuple #[]) ∧ TuAt w W w' w.heap.size R fun k => ((pos T (i + 1) k : Nat) : Int)) from fun i W hW => pturn_any w.heap.size R T hz i w W (Nat.le_refl _) hp hW)
  have hmk := run_make_row' (P := Try.prog) 28 3 (.int .i64 0) 8 Try.underlying28 g_info_int rfl .i64 .i64 n (by omega) (by omega)
  rw [p_made_tab] at hmk
  have HMZ := (show Hid _ from hmk)
  have hn1 : ¬ (65536 : Int) < (n : Int) := by omega
  have HS0 := (show Hid _ from kyF_start T n)
  clear hp hz hmk
  go_enter Try.func10, Try.ntmps10
  go_wp2_with (first | refine wpList_load_row rfl 27 _ rfl w.heap.size rfl 27 (teA R T.pl) (0, 0) _ h0.row Try.underlying27 rfl (by rw [teA_size]; exact t_info_tele) ?_)
  refine (HW.out _ h0.below).mono ?_
  rintro e W1 ⟨rfl, hb⟩
  have h1 := h0.step hb
  clear hb h0 HW
  have hmk := HMZ.out
  go_upto_region 7 with fail
  have hr2 : RowAt (W1.alloc (.cells (tab n fun _ => .int .i64 0) 3)) W1.heap.size 3 (ints n fun _ => 0) := RowAt.new W1 _ _
  have h2 := h1.alloc (.cells (tab n fun _ => .int .i64 0) 3)
  rw [HS0.out] at hr2
  have hks : KyS w (W1.alloc (.cells (tab n fun _ => .int .i64 0) 3)) R T W1.heap.size n 0 := ⟨by have := h2.row; rw [HPZ.out] at this; exact this, hr2, h2.below, h1.lt⟩
  have HKS := (show Hid _ from hks)
  generalize W1.alloc (.cells (tab n fun _ => .int .i64 0) 3) = W2 at *
  generalize W1.heap.size = g at *
  clear hmk HMZ h1 h2 hr2 hks HS0 HPZ hn1
  go_wp2_with fail
  go_loopw [24] (fun x W => ∃ i : Nat, i ≤ n ∧ x = .int .i64 (i : Nat) ∧ KyS w W R T g n i) (fun x _ => ((n : Int) - intOf x).toNat)
  case atStart => exact ⟨0, by omega, rfl, HKS.out⟩
  case round =>
    clear HKS
    obtain ⟨i, hi, rfl, hks⟩ := hrel
    by_cases hlt : i < n
    case neg =>
      obtain rfl : i = n := by omega
      have hnn : ¬ ((i : Nat) : Int) < ((i : Nat) : Int) := by omega
      have hro := hks.out
      rw [kyF_all] at hro
      have HRO := (show Hid _ from hro)
      have HBE := (show Hid _ from hks.below)
      have HGL := (show Hid _ from Nat.le_of_lt hks.lt)
      clear hro hks hlt
      go_wp2
      go_ret2
      exact ⟨g, by first | rfl | trivial, HRO.out, HGL.out, HBE.out⟩
    have HLT : Hid (i < n) := hlt
    have hlt2 : (i : Int) < (n : Int) := by omega
    have HC1i := (show Hid _ from HC1.out i)
    have HC2i := (show Hid _ from HC2.out i)
    have HTUi := (show Hid _ from HTU.out i)
    have HKE := (show Hid (keyN T i = numOf (fun h => T.pin h (pos T i h)) 5 ^^^ numOf (fun h => T.pin (5 + h) (pos T i (5 + h))) 5) from keyN_pos T i)
    have hx1 := numOf_lt (fun h => T.pin h (pos T i h)) 5
    have hx2 := numOf_lt (fun h => T.pin (5 + h) (pos T i (5 + h))) 5
    generalize numOf (fun h => T.pin h (pos T i h)) 5 = x1 at *
    generalize numOf (fun h => T.pin (5 + h) (pos T i (5 + h))) 5 = x2 at *
    have hbx := bits_xor (a := x1) (b := x2) (by omega) (by omega)
    have HST := (show Hid _ from kyF_next T n i)
    rw [HKE.out] at HST
    generalize x1 ^^^ x2 = z at *
    have HKS := (show Hid (KyS w wr R T g n i) from hks)
    have HNG := (show Hid (∀ W, RowAt W g 3 (ints n (kyF T i)) → W.cell? ⟨g, i, none⟩ = some (.int .i64 (kyF T i i))) from fun W h => h.cell (ints_get (kyF T i) hlt))
    clear hlt hks HC1 HC2 HTU HKE
    obtain ⟨QC, hQC⟩ : ∃ x, x = tab 5 R := ⟨_, rfl⟩
    have HQC := (show Hid _ from hQC)
    obtain ⟨AC, hAC⟩ : ∃ x, x = ints 5 fun k => ((pos T i k : Nat) : Int) := ⟨_, rfl⟩
    have HAC := (show Hid _ from hAC)
    obtain ⟨QP, hQP⟩ : ∃ x, x = tab 5 fun k => R (5 + k) := ⟨_, rfl⟩
    have HQP := (show Hid _ from hQP)
    obtain ⟨AP, hAP⟩ : ∃ x, x = ints 5 fun k => ((pos T i (5 + k) : Nat) : Int) := ⟨_, rfl⟩
    have HAP := (show Hid _ from hAP)
    rw [← hQC, ← hAC] at HC1i
    rw [← hQP, ← hAP] at HC2i
    clear hQC hAC hQP hAP
    have HLQC := (show Hid (∀ W, KyB w W R T i → (Instr.loadAt 24 (.pointer (some ⟨w.heap.size, 0, none⟩))).run Try.prog W = .ok (.agg QC) W) from fun W hW => by
      have u := run_loadAt_mid (P := Try.prog) W w.heap.size 0 24 (tab 5 R).toList _ (show W.rangeAt w.heap.size 0 (tab 5 R).toList from te_chi hW.row) Try.underlying24 rfl (by rw [Array.length_toList, tab_size]; exact t_info_fivep)
      rw [Array.toArray_toList] at u
      rw [HQC.out]
      exact u)
    have HLAC := (show Hid (∀ W, KyB w W R T i → (Instr.loadAt 25 (.pointer (some ⟨w.heap.size, 11, none⟩))).run Try.prog W = .ok (.agg AC) W) from fun W hW => by
      have u := run_loadAt_mid (P := Try.prog) W w.heap.size 11 25 (ints 5 fun k => ((pos T i k : Nat) : Int)).toList _ (show W.rangeAt w.heap.size 11 (ints 5 fun k => ((pos T i k : Nat) : Int)).toList from te_chiAt hW.row) Try.underlying25 rfl (by rw [Array.length_toList, ints_size]; exact t_info_fivei)
      rw [Array.toArray_toList] at u
      rw [HAC.out]
      exact u)
    have HLQP := (show Hid (∀ W, KyB w W R T i → (Instr.loadAt 24 (.pointer (some ⟨w.heap.size, 5, none⟩))).run Try.prog W = .ok (.agg QP) W) from fun W hW => by
      have u := run_loadAt_mid (P := Try.prog) W w.heap.size 5 24 (tab 5 fun k => R (5 + k)).toList _ (show W.rangeAt w.heap.size 5 (tab 5 fun k => R (5 + k)).toList from te_psi hW.row) Try.underlying24 rfl (by rw [Array.length_toList, tab_size]; exact t_info_fivep)
      rw [Array.toArray_toList] at u
      rw [HQP.out]
      exact u)
    have HLAP := (show Hid (∀ W, KyB w W R T i → (Instr.loadAt 25 (.pointer (some ⟨w.heap.size, 16, none⟩))).run Try.prog W = .ok (.agg AP) W) from fun W hW => by
      have u := run_loadAt_mid (P := Try.prog) W w.heap.size 16 25 (ints 5 fun k => ((pos T i (5 + k) : Nat) : Int)).toList _ (show W.rangeAt w.heap.size 16 (ints 5 fun k => ((pos T i (5 + k) : Nat) : Int)).toList from te_psiAt hW.row) Try.underlying25 rfl (by rw [Array.length_toList, ints_size]; exact t_info_fivei)
      rw [Array.toArray_toList] at u
      rw [HAP.out]
      exact u)
    clear HQC HAC HQP HAP
    have HGL := (show Hid (w.heap.size < g) from HKS.out.lt)
    go_upto_region 10 with fail
    refine wp_region_noPanic ?_
    refine wp_region_held_drew (S := fun W => KyB w W R T i) (by kernel_rfl) ⟨HKS.out.row, HKS.out.below.drew⟩ (fun hS => ?_)
    have hO : RowAt wr.drew g 3 (ints n (kyF T i)) := HKS.out.out
    obtain ⟨U, hU⟩ : ∃ x, x = wr.drew := ⟨_, rfl⟩
    rw [← hU] at hS hO ⊢
    clear hU HKS
    refine vtake 0 27 (.slice (some ⟨g, 0, none⟩) n n) rfl rfl (by kernel_rfl) (by kernel_rfl) (by kernel_rfl) (fun _ _ _ _ h => h) (by rfl) (fun W hW => by clear hS hW; go_simp) hS ?_
    simp only [List.setIfInBounds_toArray, List.set_cons_succ, List.set_cons_zero]
    refine vtake 1 28 (.int .i64 (i : Nat)) rfl rfl (by kernel_rfl) (by kernel_rfl) (by kernel_rfl) (fun _ _ _ _ h => h) (by rfl) (fun W hW => by clear hS hW; go_simp) hS ?_
    simp only [List.setIfInBounds_toArray, List.set_cons_succ, List.set_cons_zero]
    refine vtake 2 29 (.pointer (some ⟨w.heap.size, 0, none⟩)) rfl rfl (by kernel_rfl) (by kernel_rfl) (by kernel_rfl) (fun _ _ _ _ h => h) (by rfl) (fun W hW => by clear hS hW; go_simp) hS ?_
    simp only [List.setIfInBounds_toArray, List.set_cons_succ, List.set_cons_zero]
    refine vtake 3 30 (.agg QC) rfl rfl (by kernel_rfl) (by kernel_rfl) (by kernel_rfl) (fun _ _ _ _ h => h) (by rfl) (fun W hW => by have u := HLQC.out W hW; clear hS hW; simp [execOp, Act.eval, u]) hS ?_
    simp only [List.setIfInBounds_toArray, List.set_cons_succ, List.set_cons_zero]
    refine vtake 4 31 (.pointer (some ⟨w.heap.size, 11, none⟩)) rfl rfl (by kernel_rfl) (by kernel_rfl) (by kernel_rfl) (fun _ _ _ _ h => h) (by rfl) (fun W hW => by clear hS hW; go_simp) hS ?_
    simp only [List.setIfInBounds_toArray, List.set_cons_succ, List.set_cons_zero]
    refine vtake 5 32 (.agg AC) rfl rfl (by kernel_rfl) (by kernel_rfl) (by kernel_rfl) (fun _ _ _ _ h => h) (by rfl) (fun W hW => by have u := HLAC.out W hW; clear hS hW; simp [execOp, Act.eval, u]) hS ?_
    simp only [List.setIfInBounds_toArray, List.set_cons_succ, List.set_cons_zero]
    refine vtake 7 34 (.pointer (some ⟨w.heap.size, 5, none⟩)) rfl rfl (by kernel_rfl) (by kernel_rfl) (by kernel_rfl) (fun _ _ _ _ h => h) (by rfl) (fun W hW => by clear hS hW; go_simp) hS ?_
    simp only [List.setIfInBounds_toArray, List.set_cons_succ, List.set_cons_zero]
    refine vtake 8 35 (.agg QP) rfl rfl (by kernel_rfl) (by kernel_rfl) (by kernel_rfl) (fun _ _ _ _ h => h) (by rfl) (fun W hW => by have u := HLQP.out W hW; clear hS hW; simp [execOp, Act.eval, u]) hS ?_
    simp only [List.setIfInBounds_toArray, List.set_cons_succ, List.set_cons_zero]
    refine vtake 9 36 (.pointer (some ⟨w.heap.size, 16, none⟩)) rfl rfl (by kernel_rfl) (by kernel_rfl) (by kernel_rfl) (fun _ _ _ _ h => h) (by rfl) (fun W hW => by clear hS hW; go_simp) hS ?_
    simp only [List.setIfInBounds_toArray, List.set_cons_succ, List.set_cons_zero]
    refine vtake 10 37 (.agg AP) rfl rfl (by kernel_rfl) (by kernel_rfl) (by kernel_rfl) (fun _ _ _ _ h => h) (by rfl) (fun W hW => by have u := HLAP.out W hW; clear hS hW; simp [execOp, Act.eval, u]) hS ?_
    simp only [List.setIfInBounds_toArray, List.set_cons_succ, List.set_cons_zero]
    refine wpAnyH_ready (rs := [6]) (by kernel_rfl) (by simp) ?_
    refine AllReadyH.cons (o := _) rfl (fun K hK => ?_) AllReadyH.nil
    rw [if_pos (by rfl)]
    go_simp
    refine Calls.mono (HC1i.out _ hS.below) ?_
    rintro e Y ⟨rfl, hb8⟩
    refine hK.out _ _ (hS.step hb8) (fun hS1 => ?_)
    have hO1 := hO.below hb8 hO.lt
    clear hK hS K hO hb8
    have hS := hS1
    have hO := hO1
    clear hS1 hO1
    refine wpAnyH_ready (rs := [11]) (by kernel_rfl) (by simp) ?_
    refine AllReadyH.cons (o := _) rfl (fun K hK => ?_) AllReadyH.nil
    rw [if_pos (by rfl)]
    go_simp
    refine Calls.mono (HC2i.out _ hS.below) ?_
    rintro e Y2 ⟨rfl, hb8⟩
    refine hK.out _ _ (hS.step hb8) (fun hS1 => ?_)
    have hO1 := hO.below hb8 hO.lt
    clear hK hS K hO hb8
    have hS := hS1
    have hO := hO1
    clear hS1 hO1
    refine vtake 12 39 (.int .i64 (z : Nat)) rfl rfl (by kernel_rfl) (by kernel_rfl) (by kernel_rfl) (fun _ _ _ _ h => h) (by rfl) (fun W hW => by clear hS hW; go_simp) hS ?_
    simp only [List.setIfInBounds_toArray, List.set_cons_succ, List.set_cons_zero]
    refine vtake 13 40 (.pointer (some ⟨g, i, none⟩)) rfl rfl (by kernel_rfl) (by kernel_rfl) (by kernel_rfl) (fun _ _ _ _ h => h) (by rfl) (fun W hW => by clear hS hW; go_simp) hS ?_
    simp only [List.setIfInBounds_toArray, List.set_cons_succ, List.set_cons_zero]
    have hcell := HNG.out _ hO
    have hfz := hO.frozen i
    refine wpAnyH_ready (rs := [14]) (by kernel_rfl) (by simp) ?_
    refine AllReadyH.cons (o := _) rfl (fun K hK => ?_) AllReadyH.nil
    rw [if_pos (by rfl)]
    go_simp
    have hO1 := hO.set i (.int .i64 (z : Nat))
    rw [ints_set, HST.out] at hO1
    refine hK.out _ _ (hS.set HGL.out _ _) (fun hS1 => ?_)
    clear hK hS K
    have hS := hS1
    clear hS1
    refine wpAnyH_done (by kernel_rfl) ?_ _
    refine NoPanic.normal ?_
    clear hcell hfz hO
    generalize Y2.setCell ⟨g, i, none⟩ (.int .i64 (z : Nat)) = V at *
    have HVB := (show Hid _ from hS)
    have HVO := (show Hid _ from hO1)
    have HCT := (show Hid _ from HTUi.out V ⟨hS.row, hS.below, rg_refl _ _⟩)
    clear hS hO1
    go_wp2_with fail
    refine Calls.mono HCT.out ?_
    rintro e Z ⟨rfl, htu⟩
    have HN : Hid (KyS w Z R T g n (i + 1)) := ⟨htu.row, (htu.grown.block g (RowAt.lt HVO.out) (fun e => by have := HGL.out; cases e; omega)).trans HVO.out, htu.base, HGL.out⟩
    clear htu HCT HVB HVO
    go_wp2
    go_roundw
    case rel => exact ⟨i + 1, HLT.out, by go_num, HN.out⟩
    case measure => have := HLT.out; simp [intOf]; omega
end Go.Proofs.Ytbcjblakknfhmaa
