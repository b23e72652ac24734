/-
  Contract of the document's Signals (chapter 9).
-/
import Derived.Test.YtigamiehnjipcaaChFit
import Derived.Test.YtigamiehnjipcaaJn5
import Derived.Test.YtigamiehnjipcaaJn2
namespace Go.Proofs.Ytigamiehnjipcaa
open Go.RowKit PK Vg

/-- What the document's Signals holds. -/
structure RqS (w W : World) (F : Nat → Int) : Prop where
  res : RowAt W w.heap.size 29 (ints 78 fun _ => 0)
  out : RowAt W (w.heap.size + 1) 29 (ints 78 F)
  below : Below w.heap.size w W
section
variable {w W W' : World} {F : Nat → Int}
theorem RqS.step (h : RqS w W F) (hb : Below W.heap.size W W') : RqS w W' F := ⟨h.res.below hb h.res.lt, h.out.below hb h.out.lt, h.below.trans (hb.mono h.below.size)⟩
theorem RqS.alloc (h : RqS w W F) (o : Obj) : RqS w (W.alloc o) F := h.step ((Below.refl _ _).alloc (Nat.le_refl _) o)
theorem RqS.drewN (h : RqS w W F) (n : Nat) : RqS w (W.drewN n) F := ⟨h.res, h.out, h.below.trans ⟨rfl, rfl, rfl, Nat.le_refl _, fun _ _ => rfl⟩⟩
theorem RqS.drew (h : RqS w W F) : RqS w W.drew F := ⟨h.res, h.out, h.below.trans ⟨rfl, rfl, rfl, Nat.le_refl _, fun _ _ => rfl⟩⟩
theorem RqS.set (h : RqS w W F) (m : Nat) (x : Int) : RqS w (W.setCell ⟨w.heap.size + 1, m, none⟩ (.int .i64 x)) (upd F m x) := by
  refine ⟨h.res.setOther _ _ (by simp), ?_, h.below.setCell (p := ⟨w.heap.size + 1, m, none⟩) (by simp) _⟩
  have := h.out.set m (.int .i64 x)
  rw [ints_set] at this
  exact this
theorem RqS.zero (h : RqS w W F) : RqS w (W.setRow w.heap.size (ints 78 fun _ => 0)) F := ⟨h.res.row _, h.out.rowOther _ _ (by omega), Below.setRow h.below _ (Nat.le_refl _) _⟩
end
theorem RqS.new (w : World) : RqS w ((w.alloc (.cells (ints 78 fun _ => 0) 29)).alloc (.cells (ints 78 fun _ => 0) 29)) fun _ => 0 := by
  have h := RowAt.new (w.alloc (.cells (ints 78 fun _ => 0) 29)) 29 (ints 78 fun _ => 0)
  rw [World.size_alloc] at h
  exact ⟨(RowAt.new w _ _).alloc _, h, ((Below.refl _ w).alloc (Nat.le_refl _) _).alloc (by simp) _⟩
theorem sgErr_at {T : Nat → ByteArray} {n i : Nat} (h0 : sgK T n = 0) (h1 : sg3 T n i = 0) (hi : i < 3) {E : Int} (hE : E ≠ 0) (h : lkE (sgL T i) (sgL T (i + 3)) n = E) : sgErr T n = E ∧ sgArr T n = ints 78 fun _ => 0 := by
  have h2 : sg3 T n (i + 1) = E := by
    show (if sg3 T n i ≠ 0 then sg3 T n i else lkE (sgL T i) (sgL T (i + 3)) n) = E
    rw [if_neg (fun e => e h1), h]
  have h3 := sg3_le (T := T) (n := n) (k := i + 1) (by rw [h2]; exact hE) (3 - (i + 1))
  rw [show i + 1 + (3 - (i + 1)) = 3 by omega, h2] at h3
  have h4 : sgErr T n = E := by
    unfold sgErr
    rw [if_neg (fun e => e h0), h3]
  exact ⟨h4, by unfold sgArr; rw [h4, if_pos hE]⟩
set_option maxRecDepth 100000 in
set_option maxHeartbeats 8000000 in
theorem rsignals_any (v : Value) (n : Nat) (T : Nat → ByteArray) (w : World) (hv : StrsAt w v n T) : Calls Try.prog 15 #[v] w fun e w' => e = .returned (.tuple #[.agg (sgArr T n), .int .i64 (sgErr T n)]) ∧ Below w.heap.size w w' := by
  obtain ⟨av, cv, rfl, hmv, hcv⟩ := hv
  have HCV := (show Hid (∀ i, i < n → ∃ b o, av = some ⟨b, o, none⟩ ∧ w.cell? ⟨b, o + i, none⟩ = some (.string (T i))) from hcv)
  unfold maxLen at hmv
  have hz78 := o_zero v_zero_three
  have hg0 := RqS.new w
  have HRET : Hid (∀ E : Int, E ≠ 0 → sgErr T n = E → sgArr T n = ints 78 fun _ => 0) := fun E h1 h2 => by unfold sgArr; rw [h2, if_pos h1]
  clear hcv
  go_enter Try.func15, Try.ntmps15
  go_upto_region 2 with fail
  generalize (w.alloc (.cells (ints 78 fun _ => 0) 29)).alloc (.cells (ints 78 fun _ => 0) 29) = W0 at *
  clear hz78
  go_wp2_with fail
  go_loopw [19] (fun i W => ∃ k : Nat, k ≤ n ∧ i = .int .i64 (k : Nat) ∧ sgK T k = 0 ∧ RqS w W fun _ => 0) (fun i _ => ((n : Int) - intOf i).toNat)
  case atStart => exact ⟨0, by omega, rfl, rfl, hg0⟩
  case round =>
    clear hg0
    obtain ⟨k, hk, rfl, hok, hg⟩ := hrel
    by_cases hlt : k < n
    · have HLT : Hid (k < n) := hlt
      have hlt2 : (k : Int) < (n : Int) := by omega
      obtain ⟨bs, os, rfl, hcs⟩ := HCV.out k hlt
      have hcs2 := (hg.below.cell (p := ⟨bs, os + k, none⟩) (cell_block hcs)).trans hcs
      have HSG : Hid (sgK T (k + 1) = sgE (T k).data.toList) := by
        show (if sgK T k ≠ 0 then sgK T k else sgE (T k).data.toList) = _
        rw [if_neg (fun e => e hok)]
      have HERR : Hid (∀ E : Int, E ≠ 0 → sgE (T k).data.toList = E → sgErr T n = E) := fun E h0 hE => by
        have h1 : sgK T (k + 1) ≠ 0 := by rw [HSG.out, hE]; exact h0
        have h2 := sgK_le h1 (n - (k + 1))
        rw [show k + 1 + (n - (k + 1)) = n by have := HLT.out; omega] at h2
        show (if sgK T n ≠ 0 then sgK T n else sg3 T n 3) = E
        rw [h2, if_pos h1, HSG.out, hE]
      have HG := (show Hid _ from hg)
      clear hok hcs hlt hg
      go_wp2_with fail
      refine (rcheck_all (T k) _).mono ?_
      rintro e W1 ⟨rfl, hb⟩
      have hg1 := HG.out.step hb
      clear hb HG hcs2
      have HSE : Hid (sgE (T k).data.toList = if ckE (T k).data.toList ≠ 0 then ckE (T k).data.toList else if (T k).data.toList.length < 6 then 5 else 0) := rfl
      have HSZ : Hid ((T k).size = (T k).data.toList.length) := Pl.size_len (T k)
      generalize ckAt (T k).data.toList = A at *
      obtain ⟨E, hE⟩ : ∃ E, E = ckE (T k).data.toList := ⟨_, rfl⟩
      rw [← hE] at HSE ⊢
      clear hE
      have c0 := (RowAt.new W1 39 #[.int .i64 E, .int .i64 A]).cell (i := 0) rfl
      have hrf := RowAt.new W1 39 #[.int .i64 E, .int .i64 A]
      have hlr := hg1.out.lt
      have hg2 := hg1.alloc (.cells #[.int .i64 E, .int .i64 A] 39)
      clear hg1
      by_cases h0 : E = 0
      · subst h0
        have HG2 := (show Hid _ from hg2)
        by_cases h6 : (T k).size < 6
        · have HER : Hid (sgErr T n = 5) := HERR.out 5 (by decide) (by rw [HSE.out, if_neg (fun h => h rfl), if_pos (by rw [← HSZ.out]; exact h6)])
          have HAR : Hid (sgArr T n = ints 78 fun _ => 0) := HRET.out 5 (by decide) HER.out
          have h6i : ((T k).size : Int) < 6 := by omega
          have hor := hg2.out
          have hrs := hg2.res
          have hbe := hg2.below
          clear hg2 hrf h6
          go_wp2_with (first | refine wpList_load_row rfl 29 _ rfl (w.heap.size + 1) rfl 29 (ints 78 fun _ => 0) (0, 0) _ hor Try.underlying29 rfl (by rw [ints_size]; exact v_info_three) ?_ | refine wpList_store_row rfl 29 _ _ rfl w.heap.size (ints 78 fun _ => 0) rfl rfl 29 _ hrs (by rw [ints_size]; exact v_info_three) (by simp only [ints_size]) (ints_one _ _) ?_)
          exact bodyPost_ret (v := .tuple #[.agg (ints 78 fun _ => 0), .int .i64 5]) (results_cell_tmp2 rfl _ _ w.heap.size 29 _ (0, 0) _ _ rfl rfl (hrs.row _) Try.underlying29 rfl (by rw [ints_size]; exact v_info_three)) rfl ⟨by rw [HAR.out, HER.out], Below.setRow hbe _ (Nat.le_refl _) _⟩
        · have HK1 : Hid (sgK T (k + 1) = 0) := by rw [Hid, HSG.out, HSE.out, if_neg (fun h => h rfl), if_neg (by rw [← HSZ.out]; exact h6)]
          have h6i : ¬ ((T k).size : Int) < 6 := by omega
          clear hg2 hrf h6 hlr
          go_wp2
          go_roundw
          case rel => exact ⟨k + 1, HLT.out, by go_num, HK1.out, HG2.out⟩
          case measure => have := HLT.out; simp [intOf]; omega
      · have h0b : (E != 0) = true := by simpa using h0
        have HER : Hid (sgErr T n = E) := HERR.out E h0 (by rw [HSE.out, if_pos h0])
        have HAR : Hid (sgArr T n = ints 78 fun _ => 0) := HRET.out E h0 HER.out
        clear h0
        go_upto_region 7 with fail
        clear c0
        obtain ⟨q7, hq7⟩ : ∃ x, x = W1.heap.size := ⟨_, rfl⟩
        rw [← hq7] at hrf hlr ⊢
        have hlq : q7 ≠ w.heap.size := by omega
        clear hq7
        generalize W1.alloc (.cells #[.int .i64 E, .int .i64 A] 39) = X at *
        have hgd : RqS w X.drew (fun _ => 0) ∧ RowAt X.drew q7 39 #[.int .i64 E, .int .i64 A] := ⟨hg2.drew, hrf⟩
        clear hg2 hrf hlr
        refine wp_region_noPanic ?_
        refine wp_region_held_drew (S := fun W => RqS w W (fun _ => 0) ∧ RowAt W q7 39 #[.int .i64 E, .int .i64 A]) (by kernel_rfl) hgd (fun hS => ?_)
        clear hgd
        obtain ⟨U, hU⟩ : ∃ x, x = X.drew := ⟨_, rfl⟩
        rw [← hU] at hS ⊢
        clear hU
        refine vtake 0 28 (.agg (ints 78 fun _ => 0)) rfl rfl (by kernel_rfl) (by kernel_rfl) (by kernel_rfl) (fun _ _ _ _ h => h) (by rfl) (fun W hW => by obtain ⟨hW, _⟩ := hW; have u := run_loadAt_mid (P := Try.prog) W (w.heap.size + 1) 0 29 (ints 78 fun _ => 0).toList _ (RowAt.range hW.out) Try.underlying29 rfl (by rw [Array.length_toList, ints_size]; exact v_info_three); clear hS hW; simp [execOp, Act.eval, u]) hS ?_
        simp only [List.setIfInBounds_toArray, List.set_cons_succ, List.set_cons_zero]
        refine vtake 1 29 (.pointer (some ⟨q7, 0, none⟩)) rfl rfl (by kernel_rfl) (by kernel_rfl) (by kernel_rfl) (fun _ _ _ _ h => h) (by rfl) (fun W hW => by clear hS hW; go_simp) hS ?_
        simp only [List.setIfInBounds_toArray, List.set_cons_succ, List.set_cons_zero]
        refine vtake 2 30 (.int .i64 E) rfl rfl (by kernel_rfl) (by kernel_rfl) (by kernel_rfl) (fun _ _ _ _ h => h) (by rfl) (fun W hW => by obtain ⟨_, hW⟩ := hW; have u := hW.cell (i := 0) rfl; clear hS hW; go_simp) hS ?_
        simp only [List.setIfInBounds_toArray, List.set_cons_succ, List.set_cons_zero]
        refine storeH 3 _ (by kernel_rfl) rfl (by kernel_rfl) 29 (Operand.tmp 2) (Operand.tmp 28) rfl w.heap.size (ints 78 fun _ => 0) rfl rfl 29 _ hS.1.res (by rw [ints_size]; exact v_info_three) (by simp only [ints_size]) (ints_one _ _) rfl ⟨hS.1.zero, hS.2.rowOther _ _ hlq⟩ (fun hS1 => ?_)
        clear hS
        have hS := hS1
        refine vtake 4 3 (.int .i64 E) rfl rfl (by kernel_rfl) (by kernel_rfl) (by kernel_rfl) (fun _ _ _ _ h => h) (by rfl) (fun W hW => by clear hS hW; go_simp) hS ?_
        simp only [List.setIfInBounds_toArray, List.set_cons_succ, List.set_cons_zero]
        refine wpAnyH_done (by kernel_rfl) ?_ _
        refine NoPanic.normal ?_
        have hrs := hS1.1.res
        have hbe := hS1.1.below
        clear hS1 hS
        go_wp2_with fail
        exact bodyPost_ret (v := .tuple #[.agg (ints 78 fun _ => 0), .int .i64 E]) (results_cell_tmp2 rfl _ _ w.heap.size 29 _ (0, 0) _ _ rfl rfl (hrs) Try.underlying29 rfl (by rw [ints_size]; exact v_info_three)) rfl ⟨by rw [HAR.out, HER.out], hbe⟩
    · obtain rfl : k = n := by omega
      have hnn : ¬ ((k : Nat) : Int) < ((k : Nat) : Int) := by omega
      have HK0 := (show Hid (sgK T k = 0) from hok)
      have HTW := (show Hid (∀ i j, i < 3 → j < k → TwoL (T j) i (i + 3) (sgL T i j) (sgL T (i + 3) j)) from fun i j hi hj => two_of (sgK_zero HK0.out j hj) (by omega) (by omega))
      have hg0 : RqS w wr (rowTo (sgP T k) (0 * 26)) := by
        have e : rowTo (sgP T k) (0 * 26) = fun _ => 0 := funext fun i => if_neg (by omega)
        rw [e]
        exact hg
      clear hok hlt hg
      go_wp2_with fail
      go_loopw [8] (fun i W => ∃ j : Nat, j ≤ 3 ∧ i = .int .i64 (j : Nat) ∧ sg3 T k j = 0 ∧ RqS w W (rowTo (sgP T k) (j * 26))) (fun i _ => ((3 : Int) - intOf i).toNat)
      case atStart => exact ⟨0, by omega, rfl, rfl, hg0⟩
      case round =>
        clear hg0
        obtain ⟨i, hi, rfl, hok, hg⟩ := hrel
        by_cases hlt : i < 3
        · have HLI : Hid (i < 3) := hlt
          have hlti : (i : Int) < 3 := by omega
          have HSE := (show Hid (∀ E : Int, E ≠ 0 → lkE (sgL T i) (sgL T (i + 3)) k = E → sgErr T k = E ∧ sgArr T k = ints 78 fun _ => 0) from fun E h0 h1 => sgErr_at HK0.out hok hlt h0 h1)
          have HS0 : Hid (lkE (sgL T i) (sgL T (i + 3)) k = 0 → sg3 T k (i + 1) = 0) := fun h => by
            show (if sg3 T k i ≠ 0 then sg3 T k i else lkE (sgL T i) (sgL T (i + 3)) k) = 0
            rw [if_neg (fun e => e hok), h]
          have HAB := (show Hid (∀ j, j < k → TwoL (T j) i (i + 3) (sgL T i j) (sgL T (i + 3) j)) from fun j hj => HTW.out i j hlt hj)
          have HPE : Hid (sgP T k i = lkP (sgL T i) (sgL T (i + 3)) k) := rfl
          generalize sgP T k = P at *
          generalize sgL T i = A at *
          generalize sgL T (i + 3) = B at *
          clear hok hlt
          go_wp2_with fail
          go_loopw [42] (fun x W => ∃ s : Nat, s ≤ k ∧ x = .int .i64 (s : Nat) ∧ (∀ a b, a < s → b < k → (A a = A b ↔ B a = B b)) ∧ RqS w W (rowTo P (i * 26))) (fun x _ => ((k : Int) - intOf x).toNat)
          case atStart => exact ⟨0, by omega, rfl, fun a b ha => by omega, hg⟩
          case round =>
            clear hg
            obtain ⟨s, hs, rfl, hfs, hg⟩ := hrel
            by_cases hlt : s < k
            · have HLS : Hid (s < k) := hlt
              have hlts : (s : Int) < (k : Int) := by omega
              obtain ⟨bs, os, rfl, hcs⟩ := HCV.out s hlt
              have hcs2 := (hg.below.cell (p := ⟨bs, os + s, none⟩) (cell_block hcs)).trans hcs
              obtain ⟨hi1, hj1, ea1, eb1, _, _⟩ := HAB.out s hlt
              have HFS := (show Hid _ from hfs)
              have HG := (show Hid _ from hg)
              clear hcs hlt hfs
              go_wp2_with fail
              go_loopw [48] (fun x W => ∃ t : Nat, t ≤ k ∧ x = .int .i64 (t : Nat) ∧ (∀ b, b < t → (A s = A b ↔ B s = B b)) ∧ RqS w W (rowTo P (i * 26))) (fun x _ => ((k : Int) - intOf x).toNat)
              case atStart => exact ⟨0, by omega, rfl, fun b hb => by omega, hg⟩
              case round =>
                clear hg HG hcs2
                obtain ⟨t, ht, rfl, hft, hg⟩ := hrel
                by_cases hlt : t < k
                · have HLQ : Hid (t < k) := hlt
                  have hltt : (t : Int) < (k : Int) := by omega
                  have hct : w.cell? ⟨bs, os + t, none⟩ = some (.string (T t)) := by
                    obtain ⟨b', o', e, h⟩ := HCV.out t hlt
                    cases e
                    exact h
                  have hct2 := (hg.below.cell (p := ⟨bs, os + t, none⟩) (cell_block hct)).trans hct
                  obtain ⟨hi2, hj2, ea2, eb2, _, _⟩ := HAB.out t hlt
                  have k1 : (i : Int) < ((T s).size : Int) := by omega
                  have k2 : (i : Int) + 3 < ((T s).size : Int) := by omega
                  have k3 : (i : Int) < ((T t).size : Int) := by omega
                  have k4 : (i : Int) + 3 < ((T t).size : Int) := by omega
                  have k5 : ((i : Int) + 3).toNat = i + 3 := by omega
                  have k6 : ¬ (i : Int) + 3 < 0 := by omega
                  have HFT := (show Hid _ from hft)
                  have HG := (show Hid (RqS w wr (rowTo P (i * 26))) from hg)
                  obtain ⟨b1, hb1⟩ : ∃ b, b = (((A s : Nat) : Int) + 65 == ((A t : Nat) : Int) + 65) := ⟨_, rfl⟩
                  obtain ⟨b2, hb2⟩ : ∃ b, b = (((B s : Nat) : Int) + 65 == ((B t : Nat) : Int) + 65) := ⟨_, rfl⟩
                  have HB1 : Hid (b1 = true ↔ A s = A t) := by rw [Hid, hb1]; simp; omega
                  have HB2 : Hid (b2 = true ↔ B s = B t) := by rw [Hid, hb2]; simp; omega
                  have hb1' := hb1.symm
                  have hb2' := hb2.symm
                  clear hct hlt hft hg hb1 hb2
                  go_upto_region 20 with fail
                  go_quiet (fail)
                  have hgX := HG.out.drewN nq
                  generalize wr.drewN nq = X at *
                  clear HG hct2 hi1 hi2 hj1 hj2 ea1 ea2 eb1 eb2 k1 k2 k3 k4 k5 k6 hb1' hb2'
                  cases b1 <;> cases b2
                  · have HNX : Hid (∀ b, b < t + 1 → (A s = A b ↔ B s = B b)) := fun b hb => by
                      by_cases e : b = t
                      · rw [e, ← HB1.out, ← HB2.out]
                      · exact HFT.out b (by omega)
                    have HGX := (show Hid _ from hgX)
                    clear hgX
                    go_wp2
                    go_roundw
                    case rel => exact ⟨t + 1, HLQ.out, by go_num, HNX.out, HGX.out⟩
                    case measure => have := HLQ.out; simp [intOf]; omega
                  · have HE8 : Hid (lkE A B k = 8) := fits_not HLS.out HLQ.out (fun e => by
                      have e1 := HB1.out
                      have e2 := HB2.out
                      rw [← e, ← e1] at e2
                      simp at e2)
                    have HRR := (show Hid _ from HSE.out 8 (by decide) HE8.out)
                    go_wp2_with (first | refine wpList_build0 rfl 29 rfl (ints 78 fun _ => 0) built_three ?_ | refine wpList_store_row rfl 29 _ _ rfl w.heap.size (ints 78 fun _ => 0) rfl rfl 29 _ hgX.res (by rw [ints_size]; exact v_info_three) (by simp only [ints_size]) (ints_one _ _) ?_)
                    exact bodyPost_ret (v := .tuple #[.agg (ints 78 fun _ => 0), .int .i64 8]) (results_cell_tmp2 rfl _ _ w.heap.size 29 _ (0, 0) _ _ rfl rfl (hgX.res.row _) Try.underlying29 rfl (by rw [ints_size]; exact v_info_three)) rfl ⟨by rw [HRR.out.1, HRR.out.2], Below.setRow hgX.below _ (Nat.le_refl _) _⟩
                  · have HE8 : Hid (lkE A B k = 8) := fits_not HLS.out HLQ.out (fun e => by
                      have e1 := HB1.out
                      have e2 := HB2.out
                      rw [← e, ← e1] at e2
                      simp at e2)
                    have HRR := (show Hid _ from HSE.out 8 (by decide) HE8.out)
                    go_wp2_with (first | refine wpList_build0 rfl 29 rfl (ints 78 fun _ => 0) built_three ?_ | refine wpList_store_row rfl 29 _ _ rfl w.heap.size (ints 78 fun _ => 0) rfl rfl 29 _ hgX.res (by rw [ints_size]; exact v_info_three) (by simp only [ints_size]) (ints_one _ _) ?_)
                    exact bodyPost_ret (v := .tuple #[.agg (ints 78 fun _ => 0), .int .i64 8]) (results_cell_tmp2 rfl _ _ w.heap.size 29 _ (0, 0) _ _ rfl rfl (hgX.res.row _) Try.underlying29 rfl (by rw [ints_size]; exact v_info_three)) rfl ⟨by rw [HRR.out.1, HRR.out.2], Below.setRow hgX.below _ (Nat.le_refl _) _⟩
                  · have HNX : Hid (∀ b, b < t + 1 → (A s = A b ↔ B s = B b)) := fun b hb => by
                      by_cases e : b = t
                      · rw [e, ← HB1.out, ← HB2.out]
                      · exact HFT.out b (by omega)
                    have HGX := (show Hid _ from hgX)
                    clear hgX
                    go_wp2
                    go_roundw
                    case rel => exact ⟨t + 1, HLQ.out, by go_num, HNX.out, HGX.out⟩
                    case measure => have := HLQ.out; simp [intOf]; omega
                · obtain rfl : t = k := by omega
                  have hnn2 : ¬ ((t : Nat) : Int) < ((t : Nat) : Int) := by omega
                  have HNX : Hid (∀ a b, a < s + 1 → b < t → (A a = A b ↔ B a = B b)) := fun a b ha hb => by
                    by_cases e : a = s
                    · rw [e]; exact hft b hb
                    · exact HFS.out a b (by omega) hb
                  have HG := (show Hid _ from hg)
                  clear hg hft hlt
                  go_wp2
                  go_roundw
                  case rel => exact ⟨s + 1, HLS.out, by go_num, HNX.out, HG.out⟩
                  case measure => have := HLS.out; simp [intOf]; omega
            · obtain rfl : s = k := by omega
              have HFI : Hid (Fits A B s) := fun a b ha hb => hfs a b ha hb
              clear hfs hlt
              have hg0 : RqS w wr (rowTo P (i * 26 + 0)) := hg
              clear hg
              go_wp2_with fail
              go_loopw [13] (fun x W => ∃ c : Nat, c ≤ 26 ∧ x = .int .i64 (c : Nat) ∧ (∀ d, d < c → ∃ j, j < s ∧ A j = d) ∧ RqS w W (rowTo P (i * 26 + c))) (fun x _ => ((26 : Int) - intOf x).toNat)
              case atStart => exact ⟨0, by omega, rfl, fun d hd => by omega, hg0⟩
              case round =>
                clear hg0
                obtain ⟨c, hc, rfl, hfd, hg⟩ := hrel
                by_cases hlt : c < 26
                · have HLC : Hid (c < 26) := hlt
                  have hltc : (c : Int) < 26 := by omega
                  have HFD := (show Hid _ from hfd)
                  have hg0 : RqS w wr (rowTo P (i * 26 + c + cond false 1 0)) := hg
                  clear hg hfd hlt
                  go_wp2_with fail
                  go_loopw [14, 78] (fun f x W => ∃ (t : Nat) (b : Bool), t ≤ s ∧ x = .int .i64 (t : Nat) ∧ f = .bool b ∧ (b = false → ∀ j, j < t → A j ≠ c) ∧ (b = true → ∃ j, j < s ∧ A j = c) ∧ RqS w W (rowTo P (i * 26 + c + cond b 1 0))) (fun _ x _ => ((s : Int) - intOf x).toNat)
                  case atStart => exact ⟨0, false, by omega, rfl, rfl, fun _ j hj => by omega, (fun h => by cases h), hg0⟩
                  case round =>
                    clear hg0
                    obtain ⟨t, b, ht, rfl, rfl, hf0, hf1, hg⟩ := hrel
                    by_cases hlt : t < s
                    · have HLQ : Hid (t < s) := hlt
                      have hltt : (t : Int) < (s : Int) := by omega
                      obtain ⟨bs, os, rfl, hct⟩ := HCV.out t hlt
                      have hct2 := (hg.below.cell (p := ⟨bs, os + t, none⟩) (cell_block hct)).trans hct
                      obtain ⟨hi2, hj2, ea2, eb2, ha26, hb26⟩ := HAB.out t hlt
                      have k3 : (i : Int) < ((T t).size : Int) := by omega
                      have k4 : (i : Int) + 3 < ((T t).size : Int) := by omega
                      have k5 : ((i : Int) + 3).toNat = i + 3 := by omega
                      have k6 : ¬ (i : Int) + 3 < 0 := by omega
                      have HF0 := (show Hid _ from hf0)
                      have HF1 := (show Hid _ from hf1)
                      have HG := (show Hid _ from hg)
                      have HVA := (show Hid (A t = c → flat P (i * 26 + c) = ((B t : Nat) : Int)) from fun e => by
                        have := fits_at HFI.out HLQ.out
                        have hc26 := HLC.out
                        unfold flat
                        rw [show (i * 26 + c) / 26 = i by omega, show (i * 26 + c) % 26 = c by omega, HPE.out, ← e, this])
                      obtain ⟨x, hx⟩ : ∃ x, x = A t := ⟨_, rfl⟩
                      obtain ⟨y, hy⟩ : ∃ y, y = B t := ⟨_, rfl⟩
                      have HX := (show Hid _ from hx)
                      rw [← hx] at ea2 ha26 HVA
                      rw [← hy] at eb2 hb26 HVA
                      have hx2 : (x : Int) < 26 := by omega
                      have hy2 : (y : Int) < 26 := by omega
                      clear hct hlt hf0 hf1 hg hx hy
                      by_cases hxc : x = c
                      · have hxb : (((x : Nat) : Int) == ((c : Nat) : Int)) = true := by rw [hxc]; simp
                        have HXC := (show Hid _ from hxc)
                        clear hxc
                        go_upto_region 32 with fail
                        have hgd := HG.out.drew
                        clear HG hct2
                        refine wp_region_noPanic ?_
                        refine wp_region_held_drew (S := fun _ => True) (by kernel_rfl) trivial (fun hS => ?_)
                        obtain ⟨U, hU⟩ : ∃ x, x = wr.drew := ⟨_, rfl⟩
                        rw [← hU] at hgd ⊢
                        clear hU
                        refine vtake 0 89 (.int .i64 (i : Nat)) rfl rfl (by kernel_rfl) (by kernel_rfl) (by kernel_rfl) (fun _ _ _ _ h => h) (by rfl) (fun W hW => by clear hS hW; go_simp) hS ?_
                        simp only [List.setIfInBounds_toArray, List.set_cons_succ, List.set_cons_zero]
                        refine vtake 1 90 (.int .i64 (c : Nat)) rfl rfl (by kernel_rfl) (by kernel_rfl) (by kernel_rfl) (fun _ _ _ _ h => h) (by rfl) (fun W hW => by clear hS hW; go_simp) hS ?_
                        simp only [List.setIfInBounds_toArray, List.set_cons_succ, List.set_cons_zero]
                        refine vtake 2 91 (.string (T t)) rfl rfl (by kernel_rfl) (by kernel_rfl) (by kernel_rfl) (fun _ _ _ _ h => h) (by rfl) (fun W hW => by clear hS hW; go_simp) hS ?_
                        simp only [List.setIfInBounds_toArray, List.set_cons_succ, List.set_cons_zero]
                        refine vtake 3 92 (.int .i64 (i : Nat)) rfl rfl (by kernel_rfl) (by kernel_rfl) (by kernel_rfl) (fun _ _ _ _ h => h) (by rfl) (fun W hW => by clear hS hW; go_simp) hS ?_
                        simp only [List.setIfInBounds_toArray, List.set_cons_succ, List.set_cons_zero]
                        refine vtake 4 93 (.int .i64 ((i : Int) + 3)) rfl rfl (by kernel_rfl) (by kernel_rfl) (by kernel_rfl) (fun _ _ _ _ h => h) (by rfl) (fun W hW => by have u1 : (i : Int) < 3 := (by have := HLI.out; omega); clear hS hW; go_simp; rw [IntKind.wrap_i64]; omega) hS ?_
                        simp only [List.setIfInBounds_toArray, List.set_cons_succ, List.set_cons_zero]
                        refine vtake 5 94 (.int .u8 ((y : Int) + 65)) rfl rfl (by kernel_rfl) (by kernel_rfl) (by kernel_rfl) (fun _ _ _ _ h => h) (by rfl) (fun W hW => by clear hS hW; go_simp) hS ?_
                        simp only [List.setIfInBounds_toArray, List.set_cons_succ, List.set_cons_zero]
                        refine vtake 6 95 (.int .u8 (y : Int)) rfl rfl (by kernel_rfl) (by kernel_rfl) (by kernel_rfl) (fun _ _ _ _ h => h) (by rfl) (fun W hW => by clear hS hW; go_simp; rw [IntKind.wrap_u8]; omega) hS ?_
                        simp only [List.setIfInBounds_toArray, List.set_cons_succ, List.set_cons_zero]
                        refine vtake 7 96 (.int .i64 (y : Int)) rfl rfl (by kernel_rfl) (by kernel_rfl) (by kernel_rfl) (fun _ _ _ _ h => h) (by rfl) (fun W hW => by clear hS hW; go_simp; rw [IntKind.wrap_i64]; omega) hS ?_
                        simp only [List.setIfInBounds_toArray, List.set_cons_succ, List.set_cons_zero]
                        refine vtake 8 97 (.pointer (some ⟨w.heap.size + 1, i * 26, none⟩)) rfl rfl (by kernel_rfl) (by kernel_rfl) (by kernel_rfl) (fun _ _ _ _ h => h) (by rfl) (fun W hW => by have u1 : ¬ (3 : Int) ≤ (i : Int) := (by have := HLI.out; omega); clear hS hW; go_simp) hS ?_
                        simp only [List.setIfInBounds_toArray, List.set_cons_succ, List.set_cons_zero]
                        refine vtake 9 98 (.pointer (some ⟨w.heap.size + 1, i * 26 + c, none⟩)) rfl rfl (by kernel_rfl) (by kernel_rfl) (by kernel_rfl) (fun _ _ _ _ h => h) (by rfl) (fun W hW => by have u1 : ¬ (26 : Int) ≤ (c : Int) := (by have := HLC.out; omega); clear hS hW; go_simp) hS ?_
                        simp only [List.setIfInBounds_toArray, List.set_cons_succ, List.set_cons_zero]
                        refine wpAnyH_ready (rs := [10]) (by kernel_rfl) (by simp) ?_
                        refine AllReadyH.cons (o := _) rfl (fun K hK => ?_) AllReadyH.nil
                        rw [if_pos (by rfl)]
                        have hc1 := hgd.out.cell (ints_get (rowTo P (i * 26 + c + cond b 1 0)) (i := i * 26 + c) (by have := HLI.out; have := HLC.out; omega))
                        have hf1 := hgd.out.frozen (i * 26 + c)
                        have HLY : Hid (RqS w (U.setCell ⟨w.heap.size + 1, i * 26 + c, none⟩ (.int .i64 (y : Int))) (rowTo P (i * 26 + c + cond true 1 0))) := by
                          have h1 := hgd.set (i * 26 + c) ((y : Nat) : Int)
                          rw [← HVA.out HXC.out] at h1
                          have e : upd (rowTo P (i * 26 + c + cond b 1 0)) (i * 26 + c) (flat P (i * 26 + c)) = rowTo P (i * 26 + c + cond true 1 0) := by
                            cases b
                            · exact rowTo_put P _
                            · exact rowTo_again P _
                          rw [e, HVA.out HXC.out] at h1
                          exact h1
                        generalize rowTo P (i * 26 + c + cond b 1 0) = F0 at *
                        go_simp
                        refine hK.out _ _ trivial (fun _ => ?_)
                        clear hK K hS hgd hc1 hf1
                        refine wpAnyH_done (by kernel_rfl) ?_ _
                        refine NoPanic.normal ?_
                        go_wp2_with fail
                        go_roundw
                        case rel => exact ⟨t + 1, true, HLQ.out, by go_num, rfl, (fun h => by cases h), fun _ => ⟨t, HLQ.out, by rw [← HX.out]; exact HXC.out⟩, HLY.out⟩
                        case measure => have := HLQ.out; simp [intOf]; omega
                      · have hxb : (((x : Nat) : Int) == ((c : Nat) : Int)) = false := by simp; omega
                        have HNX : Hid (b = false → ∀ j, j < t + 1 → A j ≠ c) := fun h j hj => by
                          by_cases e : j = t
                          · rw [e, ← HX.out]; exact hxc
                          · exact HF0.out h j (by omega)
                        clear hxc
                        go_wp2
                        go_roundw
                        case rel => exact ⟨t + 1, b, HLQ.out, by go_num, rfl, HNX.out, HF1.out, HG.out⟩
                        case measure => have := HLQ.out; simp [intOf]; omega
                    · obtain rfl : t = s := by omega
                      have hnn2 : ¬ ((t : Nat) : Int) < ((t : Nat) : Int) := by omega
                      clear hlt
                      cases b
                      · have HE6 : Hid (lkE A B t = 6) := fits_none HFI.out HLC.out (hf0 rfl)
                        have HRR := (show Hid _ from HSE.out 6 (by decide) HE6.out)
                        have hrs := hg.res
                        have hbe := hg.below
                        clear hf0 hf1 hg
                        go_wp2_with (first | refine wpList_build0 rfl 29 rfl (ints 78 fun _ => 0) built_three ?_ | refine wpList_store_row rfl 29 _ _ rfl w.heap.size (ints 78 fun _ => 0) rfl rfl 29 _ hrs (by rw [ints_size]; exact v_info_three) (by simp only [ints_size]) (ints_one _ _) ?_)
                        exact bodyPost_ret (v := .tuple #[.agg (ints 78 fun _ => 0), .int .i64 6]) (results_cell_tmp2 rfl _ _ w.heap.size 29 _ (0, 0) _ _ rfl rfl (hrs.row _) Try.underlying29 rfl (by rw [ints_size]; exact v_info_three)) rfl ⟨by rw [HRR.out.1, HRR.out.2], Below.setRow hbe _ (Nat.le_refl _) _⟩
                      · have HNX : Hid (∀ d, d < c + 1 → ∃ j, j < t ∧ A j = d) := fun d hd => by
                          by_cases e : d = c
                          · rw [e]; exact hf1 rfl
                          · exact HFD.out d (by omega)
                        have HG : Hid (RqS w wr (rowTo P (i * 26 + (c + 1)))) := hg
                        clear hf0 hf1 hg
                        go_wp2
                        go_roundw
                        case rel => exact ⟨c + 1, HLC.out, by go_num, HNX.out, HG.out⟩
                        case measure => have := HLC.out; simp [intOf]; omega
                · obtain rfl : c = 26 := by omega
                  have HE0 : Hid (sg3 T s (i + 1) = 0) := HS0.out (fits_all HFI.out hfd)
                  have HG : Hid (RqS w wr (rowTo P ((i + 1) * 26))) := by rw [Hid, show (i + 1) * 26 = i * 26 + 26 by omega]; exact hg
                  clear hg hfd hlt
                  go_wp2
                  go_roundw
                  case rel => exact ⟨i + 1, HLI.out, by go_num, HE0.out, HG.out⟩
                  case measure => have := HLI.out; simp [intOf]; omega
        · obtain rfl : i = 3 := by omega
          have hor := hg.out
          have e3 : ints 78 (rowTo (sgP T k) (3 * 26)) = ints 78 (flat (sgP T k)) := flatTo_all (sgP T k) 3 rfl
          rw [e3] at hor
          have hrs := hg.res
          have HBE := (show Hid (Below w.heap.size w wr) from hg.below)
          have HER : Hid (sgErr T k = 0) := by unfold sgErr; rw [Hid, if_neg (fun e => e HK0.out)]; exact hok
          have HAR : Hid (sgArr T k = ints 78 (flat (sgP T k))) := by unfold sgArr; rw [Hid, HER.out, if_neg (fun h => h rfl)]
          clear hg hlt hok e3
          go_wp2_with (first | refine wpList_load_row rfl 29 _ rfl (w.heap.size + 1) rfl 29 (ints 78 (flat (sgP T k))) (0, 0) _ hor Try.underlying29 rfl (by rw [ints_size]; exact v_info_three) ?_ | refine wpList_store_row rfl 29 _ _ rfl w.heap.size (ints 78 (flat (sgP T k))) rfl rfl 29 _ hrs (by rw [ints_size]; exact v_info_three) (by simp only [ints_size]) (ints_one _ _) ?_)
          exact bodyPost_ret (v := .tuple #[.agg (ints 78 (flat (sgP T k))), .int .i64 0]) (results_cell_tmp2 rfl _ _ w.heap.size 29 _ (0, 0) _ _ rfl rfl (hrs.row _) Try.underlying29 rfl (by rw [ints_size]; exact v_info_three)) rfl ⟨by rw [HAR.out, HER.out], Below.setRow HBE.out _ (Nat.le_refl _) _⟩
end Go.Proofs.Ytigamiehnjipcaa
