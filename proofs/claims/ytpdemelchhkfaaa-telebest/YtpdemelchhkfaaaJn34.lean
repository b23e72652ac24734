/-
  Several texts, joined: TgI, TgJ.
-/
import Derived.Test.YtpdemelchhkfaaaJn33
/-
  tele.Best behind its pool, alone: the greatest count, where it comes first, what is told.
-/
namespace Go.Proofs.Ytpdemelchhkfaaa
open Go.RowKit PK Tl
theorem ops_from {P : Program} {ops : Array Oper} {Q : Exit → Act → World → Prop} {a : Act} {w : World} (k n : Nat) (hn : n = ops.size - k) (h : wpList P ops Q (ops.toList.drop k) a w) : wpOps P ops Q (List.range' k n) a w := by
  have e := wpOps_eq_wpList (P := P) (ops := ops) (Q := Q) (ops.toList.drop k) k (fun j => by simp [List.getElem?_drop])
  rw [show (ops.toList.drop k).length = n by simp [hn]] at e
  rw [e]
  exact h
theorem tf_zero_hit : (Try.prog.info? 26).map (·.zero) = some (some (.agg #[.int .i64 0, .int .i64 0, .int .i64 0])) := by kernel_rfl
noncomputable def mxBody : Code := Try.f23.body.getD .skip
set_option maxRecDepth 100000 in
set_option maxHeartbeats 4000000 in
theorem max_rest (j : Nat → Value) (dF K : Nat) (F : Nat → Nat) (hK : 1 ≤ K ∧ K ≤ 2209) (hF : ∀ k, F k ≤ 65537) (w : World) (hc : ∀ k, k < K → w.cell? ⟨dF, k, none⟩ = some (.int .i64 (F k : Nat))) :
    (Cs.restAt 3 mxBody).wp Try.prog (bodyPost Try.prog Try.f23 (Cs.PostE fun v w' => v = .int .i64 (F (Tf.bk F K) : Nat) ∧ Below w.heap.size w w')) ⟨#[.slice (some ⟨dF, 0, none⟩) K K, j 1, j 2, .int .i64 (F 0 : Nat), j 4, j 5, j 6, j 7, j 8, j 9, j 10, j 11, j 12, j 13, j 14, j 15, j 16, j 17, j 18, j 19, j 20, j 21, j 22, j 23, j 24], []⟩ w := by
  have HC := (show Hid (∀ k, k < K → w.cell? ⟨dF, k, none⟩ = some (.int .i64 (F k : Nat))) from hc)
  have HF := (show Hid (∀ k, F k ≤ 65537) from hF)
  clear hc hF
  simp only [Cs.restAt, mxBody, Try.f23, Option.getD_some]
  go_wp2_with fail
  go_loopw [3, 4] (fun m x W => ∃ i : Nat, 1 ≤ i ∧ i ≤ K ∧ x = .int .i64 (i : Nat) ∧ m = .int .i64 (F (Tf.bk F i) : Nat) ∧ Below w.heap.size w W) (fun _ x _ => ((K : Int) - intOf x).toNat)
  case atStart => exact ⟨1, by omega, hK.1, rfl, by simp [Tf.bk], Below.refl _ _⟩
  case round =>
    obtain ⟨i, hi0, hi, rfl, rfl, hbe⟩ := hrel
    by_cases hlt : i < K
    case neg =>
      obtain rfl : i = K := by omega
      have hnn : ¬ ((i : Nat) : Int) < ((i : Nat) : Int) := by omega
      have HBE := (show Hid (Below w.heap.size w wr) from hbe)
      clear hbe hlt HC
      go_wp2
      refine ⟨rfl, .int .i64 (F (Tf.bk F i) : Nat), ?_, _, rfl, rfl, HBE.out⟩
      simp [results, Array.mapM_eq_mapM_toList, List.mapM_cons]
    have HLT : Hid (i < K) := hlt
    have hlt2 : (i : Int) < (K : Int) := by omega
    have c1 := HC.out i hlt
    have d1 := (hbe.cell (p := ⟨dF, i, none⟩) (cell_block c1)).trans c1
    have f1 := HF.out i
    have f2 := HF.out (Tf.bk F i)
    have HN : Hid (F (Tf.bk F (i + 1)) = if F (Tf.bk F i) < F i then F i else F (Tf.bk F i)) := by
      rw [Hid, Tf.bk]
      split <;> rfl
    have HBE := (show Hid (Below w.heap.size w wr) from hbe)
    generalize F (Tf.bk F i) = M at *
    generalize F i = V at *
    clear hbe hlt c1 HC HF
    by_cases hmv : M < V
    · have HE : Hid (F (Tf.bk F (i + 1)) = V) := HN.out.trans (if_pos hmv)
      have hmv2 : (M : Int) < (V : Int) := by omega
      clear HN
      go_wp2
      all_goals go_roundw
      case rel => exact ⟨i + 1, by omega, HLT.out, by go_num, by rw [HE.out], HBE.out⟩
      case measure => have := HLT.out; simp [intOf]; omega
    · have HE : Hid (F (Tf.bk F (i + 1)) = M) := HN.out.trans (if_neg hmv)
      have hmv2 : ¬ (M : Int) < (V : Int) := by omega
      clear HN
      go_wp2
      all_goals go_roundw
      case rel => exact ⟨i + 1, by omega, HLT.out, by go_num, by rw [HE.out], HBE.out⟩
      case measure => have := HLT.out; simp [intOf]; omega
set_option maxRecDepth 100000 in
set_option maxHeartbeats 4000000 in
theorem index_any (dF K jj M : Nat) (F : Nat → Nat) (hK : K ≤ 2209) (hj : jj < K) (hM : F jj = M) (hb : ∀ i, i < jj → F i ≠ M) (w : World) (hc : ∀ k, k < K → w.cell? ⟨dF, k, none⟩ = some (.int .i64 (F k : Nat))) :
    Calls Try.prog 24 #[.slice (some ⟨dF, 0, none⟩) K K, .int .i64 (M : Nat)] w fun e w' => e = .returned (.int .i64 (jj : Nat)) ∧ Below w.heap.size w w' := by
  have HC := (show Hid (∀ k, k < K → w.cell? ⟨dF, k, none⟩ = some (.int .i64 (F k : Nat))) from hc)
  have HB := (show Hid (∀ i, i < jj → F i ≠ M) from hb)
  have HJ := (show Hid (F jj = M) from hM)
  clear hc hb hM
  go_enter Try.func24, Try.ntmps24
  go_wp2_with fail
  go_loopw [8] (fun x W => ∃ i : Nat, i ≤ jj ∧ x = .int .i64 (i : Nat) ∧ Below w.heap.size w W) (fun x _ => ((K : Int) - intOf x).toNat)
  case atStart => exact ⟨0, by omega, rfl, Below.refl _ _⟩
  case round =>
    obtain ⟨i, hi, rfl, hbe⟩ := hrel
    have hlt : i < K := by omega
    have HLT : Hid (i < K) := hlt
    have hlt2 : (i : Int) < (K : Int) := by omega
    have c1 := HC.out i hlt
    have d1 := (hbe.cell (p := ⟨dF, i, none⟩) (cell_block c1)).trans c1
    have HBE := (show Hid (Below w.heap.size w wr) from hbe)
    by_cases he : i = jj
    · subst he
      have e1 := HJ.out
      rw [e1] at d1
      have hq : ((M : Int) == (M : Int)) = true := by simp
      clear hbe hlt c1 HC HB HJ e1
      go_wp2
      go_ret
      exact ⟨rfl, HBE.out⟩
    · have hne := HB.out i (by omega)
      have HI : Hid (i + 1 ≤ jj) := by rw [Hid]; omega
      generalize F i = V at *
      have hq : ((M : Int) == (V : Int)) = false := by simp; omega
      have hq2 : (M == V) = false := by simp; omega
      have hq3 : ¬ (M : Int) = (V : Int) := by omega
      have hq4 : ¬ M = V := by omega
      clear hbe hlt c1 HC HB HJ hne he
      go_wp2
      all_goals go_roundw
      case rel => exact ⟨i + 1, HI.out, by go_num, HBE.out⟩
      case measure => have := HLT.out; simp [intOf]; omega
noncomputable def bO10 : Array Oper := match Cs.restAt 7 Cs.bBody with | .seq (.region _ o _) _ => o | _ => #[]
set_option maxRecDepth 100000 in
set_option maxHeartbeats 8000000 in
theorem best_tail (j : Nat → Value) (dF dB bb b8 lb K : Nat) (a2 : Option Addr) (k2 : Nat) (F : Nat → Nat) (hK : 1 ≤ K ∧ K ≤ 2209) (hb : 1 ≤ lb ∧ lb ≤ 47) (hF : ∀ k, F k ≤ 65537) (w : World) (hc : ∀ k, k < K → w.cell? ⟨dF, k, none⟩ = some (.int .i64 (F k : Nat))) (hB : w.cell? ⟨dB, 0, none⟩ = some (.slice (some ⟨dF, 0, none⟩) K K)) (hbb : RowAt w bb 24 #[.slice a2 lb k2]) (h8 : RowAt w b8 26 #[.int .i64 0, .int .i64 0, .int .i64 0]) :
    wpOps Try.prog bO10 (Exit.then ((Cs.restAt 8 Cs.bBody).wp Try.prog (bodyPost Try.prog Try.f7 (Cs.PostE fun v _ => v = .tuple #[.agg #[.int .i64 (Tf.bk F K / lb : Nat), .int .i64 (Tf.bk F K % lb : Nat), .int .i64 (F (Tf.bk F K) : Nat)], .int .i64 0]))) (bodyPost Try.prog Try.f7 (Cs.PostE fun v _ => v = .tuple #[.agg #[.int .i64 (Tf.bk F K / lb : Nat), .int .i64 (Tf.bk F K % lb : Nat), .int .i64 (F (Tf.bk F K) : Nat)], .int .i64 0]))) (List.range' 2 1) ⟨#[j 0, j 1, j 2, j 3, j 4, j 5, .pointer (some ⟨bb, 0, none⟩), j 7, .pointer (some ⟨b8, 0, none⟩), j 9, j 10, j 11, j 12, j 13, .pointer (some ⟨dB, 0, none⟩), j 15, j 16, j 17, j 18, j 19, j 20, j 21, j 22, j 23, j 24, j 25, j 26, j 27, j 28, j 29, j 30, j 31, j 32, j 33, j 34, j 35, j 36, j 37, j 38, j 39, j 40, j 41, j 42, j 43, j 44, j 45, j 46, j 47, j 48, j 49, j 50, j 51, j 52, j 53, j 54, j 55, j 56, j 57, .int .i64 (F (Tf.bk F K) : Nat), j 59, j 60, j 61, j 62, j 63, j 64, j 65, j 66, j 67, j 68, j 69, j 70, j 71], []⟩ w := by
  refine ops_from 2 1 rfl ?_
  have hIX := index_any dF K (Tf.bk F K) (F (Tf.bk F K)) F hK.2 (Tf.bk_lt F hK.1) rfl (fun i hi e => by have := Tf.bk_first F hi; omega)
  have hlt := Tf.bk_lt F hK.1
  have hz := tf_zero (P := Try.prog) tf_zero_hit
  have HM := (show Hid (F (Tf.bk F K) ≤ 65537) from hF _)
  have HC := (show Hid (∀ k, k < K → w.cell? ⟨dF, k, none⟩ = some (.int .i64 (F k : Nat))) from hc)
  have HX := (show Hid (Calls Try.prog 24 #[.slice (some ⟨dF, 0, none⟩) K K, .int .i64 (F (Tf.bk F K) : Nat)] w fun e w' => e = .returned (.int .i64 (Tf.bk F K : Nat)) ∧ Below w.heap.size w w') from hIX w hc)
  have HBB := (show Hid (RowAt w bb 24 #[.slice a2 lb k2]) from hbb)
  have H8 := (show Hid (RowAt w b8 26 #[.int .i64 0, .int .i64 0, .int .i64 0]) from h8)
  clear hF hc hIX hbb h8
  simp only [bO10, Cs.restAt, Cs.bBody, Try.f7, Option.getD_some, List.drop]
  generalize F (Tf.bk F K) = M at *
  generalize Tf.bk F K = kk at *
  have hrem : (kk : Int).tmod (lb : Int) = ((kk % lb : Nat) : Int) := by rw [Int.tmod_eq_emod_of_nonneg (by omega)]; push_cast; rfl
  have hquo : (kk : Int).tdiv (lb : Int) = ((kk / lb : Nat) : Int) := by rw [Int.tdiv_eq_ediv_of_nonneg (by omega)]; push_cast; rfl
  have hd1 : kk / lb ≤ kk := Nat.div_le_self _ _
  have hd2 : kk % lb ≤ kk := Nat.mod_le _ _
  have hl0 : ¬ (lb : Int) = 0 := by omega
  generalize kk / lb = qd at *
  generalize kk % lb = qr at *
  go_wp2_with fail
  refine Calls.mono HX.out ?_
  rintro e Y ⟨rfl, hY⟩
  clear HX hB
  have hbb2 := HBB.out.below hY HBB.out.lt
  have h82 := H8.out.below hY H8.out.lt
  have HBB2 := (show Hid (RowAt Y bb 24 #[.slice a2 lb k2]) from hbb2)
  have H82 := (show Hid (RowAt Y b8 26 #[.int .i64 0, .int .i64 0, .int .i64 0]) from h82)
  clear hbb2 h82 HBB H8 HC hY
  go_upto_region 12 with fail
  refine wp_region_noPanic ?_
  refine wp_region_held_drew (S := fun W => RowAt W bb 24 #[.slice a2 lb k2]) (by kernel_rfl) HBB2.out.drew (fun hS => ?_)
  have h83 : RowAt Y.drew b8 26 #[.int .i64 0, .int .i64 0, .int .i64 0] := H82.out.drew
  generalize Y.drew = Z at *
  refine vtake 0 62 (.int .i64 (kk : Nat)) rfl rfl (by kernel_rfl) (by kernel_rfl) (by kernel_rfl) (fun _ _ _ _ h => h) (by rfl) (fun W hW => by clear hS hW; go_simp) hS ?_
  simp only [List.setIfInBounds_toArray, List.set_cons_succ, List.set_cons_zero]
  refine vtake 1 63 (.slice a2 lb k2) rfl rfl (by kernel_rfl) (by kernel_rfl) (by kernel_rfl) (fun _ _ _ _ h => h) (by rfl) (fun W hW => by have cbx := hW.cell (i := 0) rfl; clear hS hW; go_simp) hS ?_
  simp only [List.setIfInBounds_toArray, List.set_cons_succ, List.set_cons_zero]
  refine vtake 2 64 (.int .i64 (lb : Nat)) rfl rfl (by kernel_rfl) (by kernel_rfl) (by kernel_rfl) (fun _ _ _ _ h => h) (by rfl) (fun W hW => by clear hS hW; go_simp) hS ?_
  simp only [List.setIfInBounds_toArray, List.set_cons_succ, List.set_cons_zero]
  refine vtake 3 65 (.int .i64 (qd : Nat)) rfl rfl (by kernel_rfl) (by kernel_rfl) (by kernel_rfl) (fun _ _ _ _ h => h) (by rfl) (fun W hW => by have u1 : IntKind.i64.wrap ((qd : Nat) : Int) = (qd : Int) := (by rw [IntKind.wrap_i64]; omega); clear hS hW; go_simp; omega) hS ?_
  simp only [List.setIfInBounds_toArray, List.set_cons_succ, List.set_cons_zero]
  refine vtake 4 66 (.int .i64 (kk : Nat)) rfl rfl (by kernel_rfl) (by kernel_rfl) (by kernel_rfl) (fun _ _ _ _ h => h) (by rfl) (fun W hW => by clear hS hW; go_simp) hS ?_
  simp only [List.setIfInBounds_toArray, List.set_cons_succ, List.set_cons_zero]
  refine vtake 5 67 (.slice a2 lb k2) rfl rfl (by kernel_rfl) (by kernel_rfl) (by kernel_rfl) (fun _ _ _ _ h => h) (by rfl) (fun W hW => by have cbx := hW.cell (i := 0) rfl; clear hS hW; go_simp) hS ?_
  simp only [List.setIfInBounds_toArray, List.set_cons_succ, List.set_cons_zero]
  refine vtake 6 68 (.int .i64 (lb : Nat)) rfl rfl (by kernel_rfl) (by kernel_rfl) (by kernel_rfl) (fun _ _ _ _ h => h) (by rfl) (fun W hW => by clear hS hW; go_simp) hS ?_
  simp only [List.setIfInBounds_toArray, List.set_cons_succ, List.set_cons_zero]
  refine vtake 7 69 (.int .i64 (qr : Nat)) rfl rfl (by kernel_rfl) (by kernel_rfl) (by kernel_rfl) (fun _ _ _ _ h => h) (by rfl) (fun W hW => by have u1 : IntKind.i64.wrap ((qr : Nat) : Int) = (qr : Int) := (by rw [IntKind.wrap_i64]; omega); clear hS hW; go_simp; omega) hS ?_
  simp only [List.setIfInBounds_toArray, List.set_cons_succ, List.set_cons_zero]
  refine vtake 8 70 (.int .i64 (M : Nat)) rfl rfl (by kernel_rfl) (by kernel_rfl) (by kernel_rfl) (fun _ _ _ _ h => h) (by rfl) (fun W hW => by clear hS hW; go_simp) hS ?_
  simp only [List.setIfInBounds_toArray, List.set_cons_succ, List.set_cons_zero]
  refine vtake 9 71 (.agg #[.int .i64 (qd : Nat), .int .i64 (qr : Nat), .int .i64 (M : Nat)]) rfl rfl (by kernel_rfl) (by kernel_rfl) (by kernel_rfl) (fun _ _ _ _ h => h) (by rfl) (fun W hW => by clear hS hW; simp [execOp, Act.eval, go_sem, hz]) hS ?_
  simp only [List.setIfInBounds_toArray, List.set_cons_succ, List.set_cons_zero]
  refine storeH 10 _ (by kernel_rfl) rfl (by kernel_rfl) 26 (Operand.tmp 8) (Operand.tmp 71) rfl b8 #[.int .i64 (qd : Nat), .int .i64 (qr : Nat), .int .i64 (M : Nat)] rfl rfl 26 _ h83 tf_info_hit rfl (by simp [Value.oneCell']) rfl (hS.rowOther b8 _ (row_ne hS h83 (by decide))) (fun hS1 => ?_)
  have HR := (show Hid _ from h83.row #[.int .i64 (qd : Nat), .int .i64 (qr : Nat), .int .i64 (M : Nat)])
  clear h83 hS
  have hS := hS1
  clear hS1
  refine vtake 11 9 (.int .i64 0) rfl rfl (by kernel_rfl) (by kernel_rfl) (by kernel_rfl) (fun _ _ _ _ h => h) (by rfl) (fun W hW => by clear hS hW; go_simp) hS ?_
  simp only [List.setIfInBounds_toArray, List.set_cons_succ, List.set_cons_zero]
  refine wpAnyH_done (by kernel_rfl) ?_ _
  refine NoPanic.normal ?_
  clear hS
  go_wp2
  exact bodyPost_ret (v := .tuple #[.agg #[.int .i64 (qd : Nat), .int .i64 (qr : Nat), .int .i64 (M : Nat)], .int .i64 0]) (tf_cell_tmp2 rfl _ _ b8 26 _ (0, 0) _ _ rfl rfl HR.out Try.underlying26 rfl tf_info_hit) rfl ⟨_, rfl, rfl⟩
end Go.Proofs.Ytpdemelchhkfaaa

/-
  A whole call of tele.Best in company.
-/
namespace Go.Proofs.Ytpdemelchhkfaaa.Cs
open Go.Conc Go.RowKit PK Tl
open Go.ConcR (KK WgAt wgBlock)
set_option maxRecDepth 100000 in
set_option maxHeartbeats 8000000 in
/-- From behind Wait to the loop of slices.Max. -/
theorem to_max (T : Array Value) (g : Nat → Value) (ya yb : Option Addr) (ca cb bb b8 bs h la lb R hs F0 : Nat) (hR : 1 ≤ R ∧ R ≤ 2209) (cs : List Frame) (Sn : Nat → Prop) (H : Array Obj) (o : Os) (out : Array (Nat × ByteArray)) (hbx : H[hs + 1]? = some (.cells #[.slice (some ⟨hs, 0, none⟩) R R] 22 (0, 0))) (hrow : ∃ x, H[hs]? = some (.cells x 3 (0, 0)) ∧ x[0]? = some (.int .i64 (F0 : Nat))) (hn0 : ¬ Sn hs) (hn1 : ¬ Sn (hs + 1)) (w : World) (hI : HI H o out w) :
    ∃ mu, Goes Try.prog true AtRel (DG Sn H.size) (fun g' w' => g' = G (mkF 23 #[.slice (some ⟨hs, 0, none⟩) R R, undef, .int .i64 0, .int .i64 (F0 : Nat), undef, .slice (some ⟨hs, 0, none⟩) R R, .int .i64 (R : Int), .bool false, undef, .slice (some ⟨hs, 0, none⟩) R R, .pointer (some ⟨hs, 0, none⟩), .int .i64 (F0 : Nat), undef, undef, undef, undef, undef, undef, undef, undef, undef, undef, undef, undef, undef] [.code (restAt 3 mxBody)] .run) (mkF 7 #[g 0, .slice ya la ca, g 2, .int .i64 (h : Nat), g 4, g 5, .pointer (some ⟨bb, 0, none⟩), g 7, .pointer (some ⟨b8, 0, none⟩), g 9, g 10, g 11, g 12, .pointer (some ⟨bs, 0, none⟩), .pointer (some ⟨hs + 1, 0, none⟩), g 15, g 16, g 17, g 18, g 19, g 20, g 21, g 22, g 23, g 24, g 25, g 26, g 27, g 28, g 29, g 30, g 31, g 32, g 33, g 34, g 35, g 36, g 37, g 38, g 39, g 40, g 41, g 42, g 43, g 44, g 45, .slice ya la ca, .int .i64 (la : Nat), .slice yb lb cb, .int .i64 (lb : Nat), .int .i64 (R : Int), .slice (some ⟨hs, 0, none⟩) R R, .int .i64 (h : Nat), .slice (some ⟨hs, 0, none⟩) R R, .int .i64 (R : Int), .func (.func 21) #[] #[.pointer (some ⟨bs, 0, none⟩), .pointer (some ⟨bb, 0, none⟩), .pointer (some ⟨hs + 1, 0, none⟩)], .tuple #[], .slice (some ⟨hs, 0, none⟩) R R, g 58, g 59, g 60, g 61, g 62, g 63, g 64, g 65, g 66, g 67, g 68, g 69, g 70, g 71] [.inRegion bO10 [1, 2], .code (restAt 8 bBody)] .run :: cs) ∧ HI H o out w') mu (G ((base 20).at ⟨T, []⟩ [.inRegion gO8 []]) ((base 7).at ⟨#[g 0, .slice ya la ca, g 2, .int .i64 (h : Nat), g 4, g 5, .pointer (some ⟨bb, 0, none⟩), g 7, .pointer (some ⟨b8, 0, none⟩), g 9, g 10, g 11, g 12, .pointer (some ⟨bs, 0, none⟩), .pointer (some ⟨hs + 1, 0, none⟩), g 15, g 16, g 17, g 18, g 19, g 20, g 21, g 22, g 23, g 24, g 25, g 26, g 27, g 28, g 29, g 30, g 31, g 32, g 33, g 34, g 35, g 36, g 37, g 38, g 39, g 40, g 41, g 42, g 43, g 44, g 45, .slice ya la ca, .int .i64 (la : Nat), .slice yb lb cb, .int .i64 (lb : Nat), .int .i64 (R : Int), .slice (some ⟨hs, 0, none⟩) R R, .int .i64 (h : Nat), .slice (some ⟨hs, 0, none⟩) R R, .int .i64 (R : Int), .func (.func 21) #[] #[.pointer (some ⟨bs, 0, none⟩), .pointer (some ⟨bb, 0, none⟩), .pointer (some ⟨hs + 1, 0, none⟩)], g 56, g 57, g 58, g 59, g 60, g 61, g 62, g 63, g 64, g 65, g 66, g 67, g 68, g 69, g 70, g 71], []⟩ [.inRegion bO9 [4], .code (restAt 7 bBody)] :: cs)) w := by
  obtain ⟨xr, hxr, hx0⟩ := hrow
  have hl1 : hs + 1 < H.size := (Array.getElem?_eq_some_iff.1 hbx).1
  have hl0 : hs < H.size := by omega
  have q1 : decide ((R : Int) < 1) = false := decide_eq_false (by omega)
  have q2 : decide (R < 1) = false := decide_eq_false (by omega)
  have q3 : decide (R = 0) = false := decide_eq_false (by omega)
  have hR0 : (0 : Int) < (R : Int) := by omega
  have hR0' : 0 < R := by omega
  refine ⟨80, ?_⟩
  repeat (refine gstepG hI rfl (fun w₁ h₁ => ?_); walk_rw; refine ⟨dg_same _, ?_⟩; clear hI; have hI := h₁; clear h₁)
  refine gstepG hI rfl (fun w₁ h₁ => ?_)
  refine goes_leave0 rfl rfl Try.func20 rfl ⟨dg_same _, ?_⟩
  clear hI
  have hI := h₁
  clear h₁
  simp only [restAt, bBody, Try.f7, Option.getD_some, bO9, bO10]
  walk_nrm
  repeat (refine gstepG hI rfl (fun w₁ h₁ => ?_); walk_rw; refine ⟨dg_same _, ?_⟩; clear hI; have hI := h₁; clear h₁)
  refine gstepG hI rfl (fun w₁ h₁ => ?_)
  refine goes_oper_k rfl rfl (by decide) (fun K hK => ?_)
  have hC : w₁.cell? ⟨hs + 1, 0, none⟩ = some (.slice (some ⟨hs, 0, none⟩) R R) := by have := h₁.1; exact one_cellT (by rw [this]; exact hbx)
  have hbl : hs + 1 < w₁.heap.size := by rw [h₁.1]; omega
  go_simp
  refine hK _ _ ⟨dg_of (by simp) (fun e he => ?_), ?_⟩
  · have hm := mem_listed he
    simp [go_sem, hC] at hm
    subst hm
    exact dg_cell hbl hn1 (show hs + 1 ≠ H.size by omega)
  clear hK K hI
  clear hC hbl
  have hI := h₁
  clear h₁
  refine gstepG hI rfl (fun w₁ h₁ => ?_)
  refine goes_call rfl rfl (by decide) rfl Try.func23 (by kernel_rfl) rfl ?_
  refine ⟨dg_same _, ?_⟩
  clear hI
  have hI := h₁
  clear h₁
  have e1 : ∀ (a : Act), a.eval (.tmp 57) = .slice (some ⟨hs, 0, none⟩) R R → (#[Operand.tmp 57].map a.eval ++ Array.replicate (Try.f23.ntmps - (#[Operand.tmp 57].map a.eval).size) undef) = #[.slice (some ⟨hs, 0, none⟩) R R, undef, undef, undef, undef, undef, undef, undef, undef, undef, undef, undef, undef, undef, undef, undef, undef, undef, undef, undef, undef, undef, undef, undef, undef] := fun a k1 => by
    simp [k1, Array.replicate, List.replicate]
  rw [e1 _ rfl]
  clear e1
  simp only [mxBody, restAt, Try.f23, Option.getD_some]
  repeat (refine gstepG hI rfl (fun w₁ h₁ => ?_); walk_rw; refine ⟨dg_same _, ?_⟩; clear hI; have hI := h₁; clear h₁)
  refine gstepG hI rfl (fun w₁ h₁ => ?_)
  refine goes_oper_k rfl rfl (by decide) (fun K hK => ?_)
  go_simp
  refine hK _ _ ⟨dg_of (by simp) (fun e he => ?_), ?_⟩
  · have hm := mem_listed he
    simp [go_sem, *] at hm
  clear hK K hI
  have hI := h₁
  clear h₁
  repeat (refine gstepG hI rfl (fun w₁ h₁ => ?_); walk_rw; refine ⟨dg_same _, ?_⟩; clear hI; have hI := h₁; clear h₁)
  refine gstepG hI rfl (fun w₁ h₁ => ?_)
  refine goes_oper_k rfl rfl (by decide) (fun K hK => ?_)
  go_simp
  refine hK _ _ ⟨dg_of (by simp) (fun e he => ?_), ?_⟩
  · have hm := mem_listed he
    simp [go_sem, *] at hm
  clear hK K hI
  have hI := h₁
  clear h₁
  refine gstepG hI rfl (fun w₁ h₁ => ?_)
  refine goes_oper_k rfl rfl (by decide) (fun K hK => ?_)
  go_simp
  refine hK _ _ ⟨dg_of (by simp) (fun e he => ?_), ?_⟩
  · have hm := mem_listed he
    simp [go_sem, *] at hm
  clear hK K hI
  have hI := h₁
  clear h₁
  refine gstepG hI rfl (fun w₁ h₁ => ?_)
  refine goes_oper_k rfl rfl (by decide) (fun K hK => ?_)
  go_simp
  refine hK _ _ ⟨dg_of (by simp) (fun e he => ?_), ?_⟩
  · have hm := mem_listed he
    simp [go_sem, *] at hm
  clear hK K hI
  have hI := h₁
  clear h₁
  repeat (refine gstepG hI rfl (fun w₁ h₁ => ?_); walk_rw; refine ⟨dg_same _, ?_⟩; clear hI; have hI := h₁; clear h₁)
  refine gstepG hI rfl (fun w₁ h₁ => ?_)
  rw [stepG_cond (t := false) rfl]
  simp only [goes_go, Bool.false_eq_true, ↓reduceIte]
  refine ⟨dg_same _, ?_⟩
  clear hI
  have hI := h₁
  clear h₁
  repeat (refine gstepG hI rfl (fun w₁ h₁ => ?_); walk_rw; refine ⟨dg_same _, ?_⟩; clear hI; have hI := h₁; clear h₁)
  refine gstepG hI rfl (fun w₁ h₁ => ?_)
  refine goes_oper_k rfl rfl (by decide) (fun K hK => ?_)
  go_simp
  refine hK _ _ ⟨dg_of (by simp) (fun e he => ?_), ?_⟩
  · have hm := mem_listed he
    simp [go_sem, *] at hm
  clear hK K hI
  have hI := h₁
  clear h₁
  refine gstepG hI rfl (fun w₁ h₁ => ?_)
  refine goes_oper_k rfl rfl (by decide) (fun K hK => ?_)
  go_simp
  refine hK _ _ ⟨dg_of (by simp) (fun e he => ?_), ?_⟩
  · have hm := mem_listed he
    simp [go_sem, *] at hm
  clear hK K hI
  have hI := h₁
  clear h₁
  refine gstepG hI rfl (fun w₁ h₁ => ?_)
  refine goes_oper_k rfl rfl (by decide) (fun K hK => ?_)
  have hC : w₁.cell? ⟨hs, 0, none⟩ = some (.int .i64 (F0 : Nat)) := by have := h₁.1; rw [cell_of_row _ _ _ _ _ _ (show w₁.heap[hs]? = _ from by rw [this]; exact hxr)]; exact hx0
  have hbl : hs < w₁.heap.size := by rw [h₁.1]; omega
  go_simp
  refine hK _ _ ⟨dg_of (by simp) (fun e he => ?_), ?_⟩
  · have hm := mem_listed he
    simp [go_sem, hC] at hm
    subst hm
    exact dg_cell hbl hn0 (show hs ≠ H.size by omega)
  clear hK K hI
  clear hC hbl
  have hI := h₁
  clear h₁
  refine gstepG hI rfl (fun w₁ h₁ => ?_)
  refine goes_oper_k rfl rfl (by decide) (fun K hK => ?_)
  go_simp
  refine hK _ _ ⟨dg_of (by simp) (fun e he => ?_), ?_⟩
  · have hm := mem_listed he
    simp [go_sem, *] at hm
  clear hK K hI
  have hI := h₁
  clear h₁
  refine gstepG hI rfl (fun w₁ h₁ => ?_)
  rw [stepG_region_end]
  simp only [goes_go]
  refine ⟨dg_same _, ?_⟩
  clear hI
  have hI := h₁
  clear h₁
  exact Goes.stop fun w₂ h₂ => by
    obtain ⟨d, rfl⟩ := h₂
    exact ⟨rfl, hI⟩
end Go.Proofs.Ytpdemelchhkfaaa.Cs
