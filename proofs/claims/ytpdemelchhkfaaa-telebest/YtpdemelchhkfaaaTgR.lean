/-
  The law TeleBest behind its second call of Best, alone.
-/
import Derived.Test.YtpdemelchhkfaaaJn36
import Derived.Test.YtpdemelchhkfaaaTgQ
namespace Go.Proofs.Ytpdemelchhkfaaa
open Go.RowKit PK Tl
/-- No places fit better; of as good ones none is ahead. -/
theorem best_last (F : Nat → Nat) (la lb x y N : Nat) (hx : x < la) (hy : y < lb) (hF : F (x * lb + y) = N) : N < F (Tf.bk F (la * lb)) ∨ (N = F (Tf.bk F (la * lb)) ∧ (Tf.bk F (la * lb) / lb < x ∨ (Tf.bk F (la * lb) / lb = x ∧ Tf.bk F (la * lb) % lb ≤ y))) := by
  have hi : x * lb + y < la * lb := by
    have : (x + 1) * lb ≤ la * lb := Nat.mul_le_mul_right _ hx
    rw [Nat.add_mul, Nat.one_mul] at this
    omega
  have h1 := Tf.bk_best F hi
  have h2 := Tf.bk_first F (k := la * lb) (i := x * lb + y)
  generalize Tf.bk F (la * lb) = k at *
  rw [hF] at h1 h2
  rcases Nat.lt_or_eq_of_le h1 with h | h
  · exact .inl h
  · refine .inr ⟨h, ?_⟩
    have h3 : k ≤ x * lb + y := Nat.le_of_not_lt fun e => by have := h2 e; omega
    have e1 : (x * lb + y) / lb = x := by rw [Nat.mul_comm, Nat.mul_add_div (by omega), Nat.div_eq_of_lt hy, Nat.add_zero]
    have h4 : k / lb ≤ x := by rw [← e1]; exact Nat.div_le_div_right h3
    rcases Nat.lt_or_eq_of_le h4 with h5 | h5
    · exact .inl h5
    · refine .inr ⟨h5, ?_⟩
      have h6 := Nat.div_add_mod k lb
      rw [h5, Nat.mul_comm] at h6
      omega
namespace Cs
open Go.Conc
theorem reach_region2 {P : Program} {Post : Value → World → Prop} {fn : FuncId} {f : Func} {x : Array Value} {cs : List Frame} {w : World} (hf : P.funcs[fn]? = some f) {ops : Array Oper} {l : List Nat} {c c2 : Code} (h : wpOps P ops (Exit.then (c.wp P (Exit.then (c2.wp P (bodyPost P f (PostE Post))) (bodyPost P f (PostE Post)))) (bodyPost P f (PostE Post))) l ⟨x, []⟩ w) : Reach P cs Post (G (mkF fn x [.inRegion ops l, .code c, .code c2] .run) cs) w := by
  obtain ⟨e, a1, w1, hq, harr⟩ := wp_ops l ⟨x, []⟩ w h (mkF fn #[] [] .run) [.code c, .code c2] cs
  cases e with
  | normal =>
    obtain ⟨e2, a2, w2, hq2, harr2⟩ := hq (mkF fn #[] [] .run) [.code c2] cs
    cases e2 with
    | normal =>
      obtain ⟨e3, a3, w3, hq3, harr3⟩ := hq2 (mkF fn #[] [] .run) [] cs
      exact reach_of_arrives hf rfl hq3 (.of_steps harr (.of_steps harr2 harr3))
    | exit id => exact hq2.elim
    | goto l => exact hq2.elim
    | ret => exact reach_of_arrives (e := .ret) hf rfl hq2 (.pass (x := .code c2) rfl (fun _ _ => .inl (by simp)) (.of_steps harr harr2))
    | panic ch => exact reach_of_arrives (e := .panic ch) hf rfl hq2 (.pass (x := .code c2) rfl (fun _ _ => .inl (by simp)) (.of_steps harr harr2))
    | outgrown => exact reach_of_arrives (e := .outgrown) hf rfl hq2 (.pass (x := .code c2) rfl (fun _ _ => .inl (by simp)) (.of_steps harr harr2))
  | exit id => exact hq.elim
  | goto l => exact hq.elim
  | ret => exact reach_of_arrives (e := .ret) hf rfl hq (.pass (x := .code c2) rfl (fun _ _ => .inl (by simp)) (.pass (x := .code c) rfl (fun _ _ => .inl (by simp)) harr))
  | panic ch => exact reach_of_arrives (e := .panic ch) hf rfl hq (.pass (x := .code c2) rfl (fun _ _ => .inl (by simp)) (.pass (x := .code c) rfl (fun _ _ => .inl (by simp)) harr))
  | outgrown => exact reach_of_arrives (e := .outgrown) hf rfl hq (.pass (x := .code c2) rfl (fun _ _ => .inl (by simp)) (.pass (x := .code c) rfl (fun _ _ => .inl (by simp)) harr))
end Cs
noncomputable def lbB : Code := Try.f4.body.getD .skip
noncomputable def lbO6 : Array Oper := match Cs.restAt 4 lbB with | .seq (.seq (.region _ o _) _) _ => o | _ => #[]
noncomputable def lbC7 : Code := match Cs.restAt 4 lbB with | .seq (.seq _ c) _ => c | _ => .skip
theorem lb_item : [Item.inRegion lbO6 (List.range' 5 6), .code lbC7, .code (Cs.restAt 5 lbB)].all (Cs.itemOk Try.prog) = true := by kernel_rfl
set_option maxRecDepth 100000 in
set_option maxHeartbeats 4000000 in
/-- The law behind the comparison of both answers. -/
theorem tb_rest5 {v0 v1 v2 v3 v4 v10 v11 v12 v13 v16 v17 v18 v19 v20 v21 v22 v23 v24 v25 v26 v27 v28 v29 v30 v31 v32 v33 v34 v35 v36 v37 v38 v39 v40 v41 v42 v43 v44 v45 v46 v47 v48 v49 v50 v51 v52 v53 v54 v55 v56 v57 v58 v59 v60 v61 v62 v63 v64 v65 v66 v67 v68 v69 v70 v71 v72 v73 v74 v75 v76 v77 v78 v79 v80 v81 v82 v83 v84 v85 v86 v87 v88 v89 v90 v91 v92 v93 v94 v95 v96 v97 v98 v99 v100 v101 v102 v103 v104 v105 v106 v107 v108 v109 v110 v111 v112 v113 v114 v115 v116 v117 v118 v119 v120 v121 v122 v123 v124 v125 v126 v127 v128 v129 : Value} (dT dA dB d15 la lb b1 o1 k1 b2 o2 k2 qd qr M : Nat) (x y : Int) (cN : Nat → Nat → Nat) (ha : 1 ≤ la ∧ la ≤ 47) (hb : 1 ≤ lb ∧ lb ≤ 47) (hqd : qd < la) (hqr : qr < lb) (hM : M = cN qd qr) (hN : ∀ s t, cN s t ≤ 65537) (hB : ∀ s t, s < la → t < lb → cN s t < M ∨ (cN s t = M ∧ (qd < s ∨ (qd = s ∧ qr ≤ t)))) (w : World)
    (hF : ∀ (s t : Nat) W, s < 47 → t < 47 → Below w.heap.size w W → Calls Try.prog 10 #[.int .i64 (s : Nat), .int .i64 (t : Nat), .pointer (some ⟨dT, 0, none⟩), .pointer (some ⟨dA, 0, none⟩), .pointer (some ⟨dB, 0, none⟩)] W fun e w' => e = .returned (.int .i64 (cN s t : Nat)) ∧ Below W.heap.size W w')
    (cA : w.cell? ⟨dA, 0, none⟩ = some (.slice (some ⟨b1, o1, none⟩) la k1)) (cB : w.cell? ⟨dB, 0, none⟩ = some (.slice (some ⟨b2, o2, none⟩) lb k2)) (c0 : w.cell? ⟨d15, 0, none⟩ = some (.int .i64 (qd : Nat))) (c1 : w.cell? ⟨d15, 1, none⟩ = some (.int .i64 (qr : Nat))) (c2 : w.cell? ⟨d15, 2, none⟩ = some (.int .i64 (M : Nat))) :
    (Cs.restAt 5 lbB).wp Try.prog (bodyPost Try.prog Try.f4 (Cs.PostE fun u _ => u = .bool true)) ⟨#[v0, v1, v2, v3, v4, .int .i64 x, .int .i64 y, .pointer (some ⟨dT, 0, none⟩), .pointer (some ⟨dA, 0, none⟩), .pointer (some ⟨dB, 0, none⟩), v10, v11, v12, v13, .bool false, .pointer (some ⟨d15, 0, none⟩), v16, v17, v18, v19, v20, v21, v22, v23, v24, v25, v26, v27, v28, v29, v30, v31, v32, v33, v34, v35, v36, v37, v38, v39, v40, v41, v42, v43, v44, v45, v46, v47, v48, v49, v50, v51, v52, v53, v54, v55, v56, v57, v58, v59, v60, v61, v62, v63, v64, v65, v66, v67, v68, v69, v70, v71, v72, v73, v74, v75, v76, v77, v78, v79, v80, v81, v82, v83, v84, v85, v86, v87, v88, v89, v90, v91, v92, v93, v94, v95, v96, v97, v98, v99, v100, v101, v102, v103, v104, v105, v106, v107, v108, v109, v110, v111, v112, v113, v114, v115, v116, v117, v118, v119, v120, v121, v122, v123, v124, v125, v126, v127, v128, v129], []⟩ w := by
  have HF := (show Hid (∀ (s t : Nat) W, s < 47 → t < 47 → Below w.heap.size w W → Calls Try.prog 10 #[.int .i64 (s : Nat), .int .i64 (t : Nat), .pointer (some ⟨dT, 0, none⟩), .pointer (some ⟨dA, 0, none⟩), .pointer (some ⟨dB, 0, none⟩)] W fun e w' => e = .returned (.int .i64 (cN s t : Nat)) ∧ Below W.heap.size W w') from hF)
  have HM := (show Hid (M = cN qd qr) from hM)
  have HN := (show Hid (∀ s t, cN s t ≤ 65537) from hN)
  have HB := (show Hid (∀ s t, s < la → t < lb → cN s t < M ∨ (cN s t = M ∧ (qd < s ∨ (qd = s ∧ qr ≤ t)))) from hB)
  have HC : Hid (∀ W, Below w.heap.size w W → W.cell? ⟨dA, 0, none⟩ = some (.slice (some ⟨b1, o1, none⟩) la k1) ∧ W.cell? ⟨dB, 0, none⟩ = some (.slice (some ⟨b2, o2, none⟩) lb k2) ∧ W.cell? ⟨d15, 0, none⟩ = some (.int .i64 (qd : Nat)) ∧ W.cell? ⟨d15, 1, none⟩ = some (.int .i64 (qr : Nat)) ∧ W.cell? ⟨d15, 2, none⟩ = some (.int .i64 (M : Nat))) := fun W hW => ⟨(hW.cell (p := ⟨dA, 0, none⟩) (cell_block cA)).trans cA, (hW.cell (p := ⟨dB, 0, none⟩) (cell_block cB)).trans cB, (hW.cell (p := ⟨d15, 0, none⟩) (cell_block c0)).trans c0, (hW.cell (p := ⟨d15, 1, none⟩) (cell_block c1)).trans c1, (hW.cell (p := ⟨d15, 2, none⟩) (cell_block c2)).trans c2⟩
  have hq1 : ¬ la ≤ qd := by omega
  have hq2 : ¬ lb ≤ qr := by omega
  clear hF hM hN hB
  simp only [lbB, Cs.restAt, Try.f4, Option.getD_some]
  go_upto_region 12 with fail
  refine wp_region_noPanic ?_
  refine wp_region_held_drew (S := fun W => Below w.heap.size w W) (by kernel_rfl) (Below.refl _ w).drew (fun hS => ?_)
  obtain ⟨U, hU⟩ : ∃ x, x = w.drew := ⟨_, rfl⟩
  rw [← hU] at hS ⊢
  clear hU cA cB c0 c1 c2
  refine vtake 0 71 (.func (.func 10) #[] #[.pointer (some ⟨dT, 0, none⟩), .pointer (some ⟨dA, 0, none⟩), .pointer (some ⟨dB, 0, none⟩)]) rfl rfl (by kernel_rfl) (by kernel_rfl) (by kernel_rfl) (fun _ _ _ _ h => h) (by rfl) (fun W hW => by clear hS hW; go_simp) hS ?_
  simp only [List.setIfInBounds_toArray, List.set_cons_succ, List.set_cons_zero]
  refine vtake 1 72 (.pointer (some ⟨d15, 0, none⟩)) rfl rfl (by kernel_rfl) (by kernel_rfl) (by kernel_rfl) (fun _ _ _ _ h => h) (by rfl) (fun W hW => by clear hS hW; go_simp) hS ?_
  simp only [List.setIfInBounds_toArray, List.set_cons_succ, List.set_cons_zero]
  refine vtake 2 73 (.int .i64 (qd : Nat)) rfl rfl (by kernel_rfl) (by kernel_rfl) (by kernel_rfl) (fun _ _ _ _ h => h) (by rfl) (fun W hW => by obtain ⟨e1, e2, e3, e4, e5⟩ := HC.out W hW; clear hS hW; go_simp) hS ?_
  simp only [List.setIfInBounds_toArray, List.set_cons_succ, List.set_cons_zero]
  refine vtake 3 74 (.pointer (some ⟨d15, 1, none⟩)) rfl rfl (by kernel_rfl) (by kernel_rfl) (by kernel_rfl) (fun _ _ _ _ h => h) (by rfl) (fun W hW => by clear hS hW; go_simp) hS ?_
  simp only [List.setIfInBounds_toArray, List.set_cons_succ, List.set_cons_zero]
  refine vtake 4 75 (.int .i64 (qr : Nat)) rfl rfl (by kernel_rfl) (by kernel_rfl) (by kernel_rfl) (fun _ _ _ _ h => h) (by rfl) (fun W hW => by obtain ⟨e1, e2, e3, e4, e5⟩ := HC.out W hW; clear hS hW; go_simp) hS ?_
  simp only [List.setIfInBounds_toArray, List.set_cons_succ, List.set_cons_zero]
  refine vtake 6 77 (.pointer (some ⟨d15, 2, none⟩)) rfl rfl (by kernel_rfl) (by kernel_rfl) (by kernel_rfl) (fun _ _ _ _ h => h) (by rfl) (fun W hW => by clear hS hW; go_simp) hS ?_
  simp only [List.setIfInBounds_toArray, List.set_cons_succ, List.set_cons_zero]
  refine vtake 7 78 (.int .i64 (M : Nat)) rfl rfl (by kernel_rfl) (by kernel_rfl) (by kernel_rfl) (fun _ _ _ _ h => h) (by rfl) (fun W hW => by obtain ⟨e1, e2, e3, e4, e5⟩ := HC.out W hW; clear hS hW; go_simp) hS ?_
  simp only [List.setIfInBounds_toArray, List.set_cons_succ, List.set_cons_zero]
  refine wpAnyH_ready (rs := [5]) (by kernel_rfl) (by simp) ?_
  refine AllReadyH.cons (o := _) rfl (fun K hK => ?_) AllReadyH.nil
  rw [if_pos (by rfl)]
  go_simp
  refine Calls.mono (HF.out qd qr _ (by omega) (by omega) hS) ?_
  rintro e Y ⟨rfl, hb1⟩
  refine hK.out _ _ (hS.trans (hb1.mono hS.size)) (fun hS1 => ?_)
  clear hK hS K
  have hS := hS1
  clear hS1
  refine vtake 8 79 (.bool false) rfl rfl (by kernel_rfl) (by kernel_rfl) (by kernel_rfl) (fun _ _ _ _ h => h) (by rfl) (fun W hW => by clear hS hW; go_simp; simp [HM.out]) hS ?_
  simp only [List.setIfInBounds_toArray, List.set_cons_succ, List.set_cons_zero]
  refine wpAnyH_done (by kernel_rfl) ?_ _
  refine NoPanic.normal ?_
  obtain ⟨cA, cB, c0, c1, c2⟩ := HC.out Y hS
  have HS := (show Hid (Below w.heap.size w Y) from hS)
  clear hS hb1 HM
  by_cases hx0 : x < 0
  · clear HF HB HN HC HS
    go_wp2
    refine ⟨rfl, .bool true, ?_, _, rfl, rfl⟩
    simp [results, Array.mapM_eq_mapM_toList, List.mapM_cons]
  by_cases hx1 : (la : Int) ≤ x
  · have hx2 : ¬ x < 0 := hx0
    clear HF HB HN HC HS
    go_wp2
    refine ⟨rfl, .bool true, ?_, _, rfl, rfl⟩
    simp [results, Array.mapM_eq_mapM_toList, List.mapM_cons]
  by_cases hy0 : y < 0
  · clear HF HB HN HC HS
    go_wp2
    refine ⟨rfl, .bool true, ?_, _, rfl, rfl⟩
    simp [results, Array.mapM_eq_mapM_toList, List.mapM_cons]
  by_cases hy1 : (lb : Int) ≤ y
  · clear HF HB HN HC HS
    go_wp2
    refine ⟨rfl, .bool true, ?_, _, rfl, rfl⟩
    simp [results, Array.mapM_eq_mapM_toList, List.mapM_cons]
  obtain ⟨xn, rfl⟩ := Int.eq_ofNat_of_zero_le (by omega : 0 ≤ x)
  obtain ⟨yn, rfl⟩ := Int.eq_ofNat_of_zero_le (by omega : 0 ≤ y)
  have hx2 : xn < la := by omega
  have hy2 : yn < lb := by omega
  have hx3 : ¬ la ≤ xn := by omega
  have hy3 : ¬ lb ≤ yn := by omega
  have HB2 := (show Hid _ from HB.out xn yn hx2 hy2)
  have HN2 := HN.out xn yn
  have HF2 := (show Hid (Calls _ _ _ _ _) from HF.out xn yn Y (by omega) (by omega) HS.out)
  generalize cN xn yn = N at *
  clear HF HB HN
  go_wp2_with fail
  refine Calls.mono HF2.out ?_
  rintro e Y2 ⟨rfl, hb2⟩
  obtain ⟨cA, cB, c0, c1, c2⟩ := HC.out Y2 (HS.out.trans (hb2.mono HS.out.size))
  clear HF2 HC HS hb2
  rcases HB2.out with h | ⟨e, h | ⟨h, h'⟩⟩
  · clear HB2
    go_wp2
    refine ⟨rfl, .bool true, ?_, _, rfl, rfl⟩
    simp [results, Array.mapM_eq_mapM_toList, List.mapM_cons]
  · have h3 : ¬ N < M := by omega
    clear HB2
    subst e
    go_wp2
    refine ⟨rfl, .bool true, ?_, _, rfl, rfl⟩
    simp [results, Array.mapM_eq_mapM_toList, List.mapM_cons]
  · have h3 : ¬ N < M := by omega
    clear HB2
    subst e
    subst h
    have h4 : ¬ qd < qd := Nat.lt_irrefl _
    go_wp2
    refine ⟨rfl, .bool true, ?_, _, rfl, rfl⟩
    simp [results, Array.mapM_eq_mapM_toList, List.mapM_cons]
set_option maxRecDepth 100000 in
set_option maxHeartbeats 4000000 in
/-- The law behind its second call of Best. -/
theorem tb_rest (j : Nat → Value) (v va vb res : Value) (n la lb dT dA dB d15 : Nat) (x y : Int) (f : Nat → Nat) (p q : Nat → Bool) (hn : n ≤ 65536) (hf : ∀ i, i < n → f i < 32) (ha : 1 ≤ la ∧ la ≤ 47) (hb : 1 ≤ lb ∧ lb ≤ 47) (w : World) (hv : NumsAt w v n (fun i => (f i : Int))) (h1 : PinsAt w va la p) (h2 : PinsAt w vb lb q)
    (cT : w.cell? ⟨dT, 0, none⟩ = some v) (cA : w.cell? ⟨dA, 0, none⟩ = some va) (cB : w.cell? ⟨dB, 0, none⟩ = some vb) (c15 : ∀ i u, (hitV f n p la q lb (Tf.bk (plF f n p la q lb) (la * lb)))[i]? = some u → w.cell? ⟨d15, i, none⟩ = some u)
    (hres : res = .tuple #[.agg (hitV f n p la q lb (Tf.bk (plF f n p la q lb) (la * lb))), .int .i64 0] ∨ ∃ e : Int, e ≠ 0 ∧ res = .tuple #[.agg #[.int .i64 0, .int .i64 0, .int .i64 0], .int .i64 e]) :
    wpOps Try.prog lbO6 (Exit.then (lbC7.wp Try.prog (Exit.then ((Cs.restAt 5 lbB).wp Try.prog (bodyPost Try.prog Try.f4 (Cs.PostE fun u _ => u = .bool true))) (bodyPost Try.prog Try.f4 (Cs.PostE fun u _ => u = .bool true)))) (bodyPost Try.prog Try.f4 (Cs.PostE fun u _ => u = .bool true))) (List.range' 5 6) ⟨#[j 0, j 1, j 2, j 3, j 4, .int .i64 x, .int .i64 y, .pointer (some ⟨dT, 0, none⟩), .pointer (some ⟨dA, 0, none⟩), .pointer (some ⟨dB, 0, none⟩), j 10, j 11, j 12, j 13, .bool false, .pointer (some ⟨d15, 0, none⟩), j 16, j 17, j 18, j 19, j 20, j 21, j 22, j 23, j 24, j 25, j 26, j 27, j 28, j 29, j 30, j 31, j 32, j 33, j 34, j 35, j 36, j 37, res, j 39, j 40, j 41, j 42, j 43, j 44, j 45, j 46, j 47, j 48, j 49, j 50, j 51, j 52, j 53, j 54, j 55, j 56, j 57, j 58, j 59, j 60, j 61, j 62, j 63, j 64, j 65, j 66, j 67, j 68, j 69, j 70, j 71, j 72, j 73, j 74, j 75, j 76, j 77, j 78, j 79, j 80, j 81, j 82, j 83, j 84, j 85, j 86, j 87, j 88, j 89, j 90, j 91, j 92, j 93, j 94, j 95, j 96, j 97, j 98, j 99, j 100, j 101, j 102, j 103, j 104, j 105, j 106, j 107, j 108, j 109, j 110, j 111, j 112, j 113, j 114, j 115, j 116, j 117, j 118, j 119, j 120, j 121, j 122, j 123, j 124, j 125, j 126, j 127, j 128, j 129], []⟩ w := by
  refine ops_from 5 6 rfl ?_
  obtain ⟨⟨b1, o1, k1, rfl, _, hp1⟩, ⟨b2, o2, k2, rfl, _, hp2⟩⟩ := And.intro (h1.form ha.1) (h2.form hb.1)
  have HF : Hid (∀ (s t : Nat) W, s < 47 → t < 47 → Below w.heap.size w W → Calls Try.prog 10 #[.int .i64 (s : Nat), .int .i64 (t : Nat), .pointer (some ⟨dT, 0, none⟩), .pointer (some ⟨dA, 0, none⟩), .pointer (some ⟨dB, 0, none⟩)] W fun e w' => e = .returned (.int .i64 (cntN f n p la q lb s t : Nat)) ∧ Below W.heap.size W w') := fun s t W hs ht hW => pfc_any dT dA dB n la lb s t b1 o1 k1 b2 o2 k2 v f p q hn hf ha hb hs ht W (hv.below hW) (fun c hc => (hW.cell (p := ⟨b1, o1 + c, none⟩) (cell_block (hp1 c hc))).trans (hp1 c hc)) (fun c hc => (hW.cell (p := ⟨b2, o2 + c, none⟩) (cell_block (hp2 c hc))).trans (hp2 c hc)) ((hW.cell (p := ⟨dT, 0, none⟩) (cell_block cT)).trans cT) ((hW.cell (p := ⟨dA, 0, none⟩) (cell_block cA)).trans cA) ((hW.cell (p := ⟨dB, 0, none⟩) (cell_block cB)).trans cB)
  have HR : Hid (0 < la * lb) := Nat.mul_pos ha.1 hb.1
  obtain ⟨qd, qr, M, cN, hV, hqd, hqr, hM, hN, hB, HG⟩ : ∃ (qd qr M : Nat) (cN : Nat → Nat → Nat), hitV f n p la q lb (Tf.bk (plF f n p la q lb) (la * lb)) = #[.int .i64 (qd : Nat), .int .i64 (qr : Nat), .int .i64 (M : Nat)] ∧ qd < la ∧ qr < lb ∧ Hid (M = cN qd qr) ∧ Hid (∀ s t, cN s t ≤ 65537) ∧ Hid (∀ s t, s < la → t < lb → cN s t < M ∨ (cN s t = M ∧ (qd < s ∨ (qd = s ∧ qr ≤ t)))) ∧ Hid (∀ (s t : Nat) W, s < 47 → t < 47 → Below w.heap.size w W → Calls Try.prog 10 #[.int .i64 (s : Nat), .int .i64 (t : Nat), .pointer (some ⟨dT, 0, none⟩), .pointer (some ⟨dA, 0, none⟩), .pointer (some ⟨dB, 0, none⟩)] W fun e w' => e = .returned (.int .i64 (cN s t : Nat)) ∧ Below W.heap.size W w') := by
    refine ⟨_, _, _, cntN f n p la q lb, rfl, (Nat.div_lt_iff_lt_mul hb.1).2 (Tf.bk_lt _ HR.out), Nat.mod_lt _ hb.1, rfl, fun s t => ?_, fun s t hs ht => ?_, HF.out⟩
    · exact Nat.le_trans (Tf.cn_le _ _) (by omega)
    · refine best_last (plF f n p la q lb) la lb s t _ hs ht ?_
      unfold plF
      rw [show (s * lb + t) / lb = s by rw [Nat.mul_comm, Nat.mul_add_div hb.1, Nat.div_eq_of_lt ht, Nat.add_zero], show (s * lb + t) % lb = t by rw [Nat.mul_comm, Nat.mul_add_mod, Nat.mod_eq_of_lt ht]]
  rw [hV] at hres c15
  have c0 := c15 0 _ rfl
  have c1 := c15 1 _ rfl
  have c2 := c15 2 _ rfl
  clear hV c15 HF HR hf hv h1 h2 hp1 hp2 cT
  have HA := (show Hid (1 ≤ la ∧ la ≤ 47) from ha)
  have HBB := (show Hid (1 ≤ lb ∧ lb ≤ 47) from hb)
  have HQ := (show Hid (qd < la ∧ qr < lb) from ⟨hqd, hqr⟩)
  clear ha hb hqd hqr hn
  have he := run_eq_hit (qd : Int) (qr : Int) (M : Int)
  have hz := tf_zero (P := Try.prog) tf_zero_hit
  have HR5 : Hid (∀ {v0 v1 v2 v3 v4 v10 v11 v12 v13 v16 v17 v18 v19 v20 v21 v22 v23 v24 v25 v26 v27 v28 v29 v30 v31 v32 v33 v34 v35 v36 v37 v38 v39 v40 v41 v42 v43 v44 v45 v46 v47 v48 v49 v50 v51 v52 v53 v54 v55 v56 v57 v58 v59 v60 v61 v62 v63 v64 v65 v66 v67 v68 v69 v70 v71 v72 v73 v74 v75 v76 v77 v78 v79 v80 v81 v82 v83 v84 v85 v86 v87 v88 v89 v90 v91 v92 v93 v94 v95 v96 v97 v98 v99 v100 v101 v102 v103 v104 v105 v106 v107 v108 v109 v110 v111 v112 v113 v114 v115 v116 v117 v118 v119 v120 v121 v122 v123 v124 v125 v126 v127 v128 v129 : Value} W, Below w.heap.size w W → (Cs.restAt 5 lbB).wp Try.prog (bodyPost Try.prog Try.f4 (Cs.PostE fun u _ => u = .bool true)) ⟨#[v0, v1, v2, v3, v4, .int .i64 x, .int .i64 y, .pointer (some ⟨dT, 0, none⟩), .pointer (some ⟨dA, 0, none⟩), .pointer (some ⟨dB, 0, none⟩), v10, v11, v12, v13, .bool false, .pointer (some ⟨d15, 0, none⟩), v16, v17, v18, v19, v20, v21, v22, v23, v24, v25, v26, v27, v28, v29, v30, v31, v32, v33, v34, v35, v36, v37, v38, v39, v40, v41, v42, v43, v44, v45, v46, v47, v48, v49, v50, v51, v52, v53, v54, v55, v56, v57, v58, v59, v60, v61, v62, v63, v64, v65, v66, v67, v68, v69, v70, v71, v72, v73, v74, v75, v76, v77, v78, v79, v80, v81, v82, v83, v84, v85, v86, v87, v88, v89, v90, v91, v92, v93, v94, v95, v96, v97, v98, v99, v100, v101, v102, v103, v104, v105, v106, v107, v108, v109, v110, v111, v112, v113, v114, v115, v116, v117, v118, v119, v120, v121, v122, v123, v124, v125, v126, v127, v128, v129], []⟩ W) := by
    unfold Hid
    intros
    rename_i W hW
    exact tb_rest5 dT dA dB d15 la lb b1 o1 k1 b2 o2 k2 qd qr M x y cN HA.out HBB.out HQ.out.1 HQ.out.2 hM.out hN.out hB.out W (fun s t W' hs ht h' => HG.out s t W' hs ht (hW.trans (h'.mono hW.size))) ((hW.cell (p := ⟨dA, 0, none⟩) (cell_block cA)).trans cA) ((hW.cell (p := ⟨dB, 0, none⟩) (cell_block cB)).trans cB) ((hW.cell (p := ⟨d15, 0, none⟩) (cell_block c0)).trans c0) ((hW.cell (p := ⟨d15, 1, none⟩) (cell_block c1)).trans c1) ((hW.cell (p := ⟨d15, 2, none⟩) (cell_block c2)).trans c2)
  clear HA HBB HQ HG hM hN hB cA cB
  generalize Cs.restAt 5 lbB = R5 at *
  have hl0 := cell_block c0
  simp only [lbO6, lbC7, lbB, Cs.restAt, Try.f4, Option.getD_some, List.drop]
  rcases hres with rfl | ⟨e, he0, rfl⟩
  · go_upto_region 7 with fail
    have hx1 := RowAt.new w 26 #[.int .i64 (qd : Nat), .int .i64 (qr : Nat), .int .i64 (M : Nat)]
    have hbl := (Below.refl w.heap.size w).alloc (Nat.le_refl _) (.cells #[.int .i64 (qd : Nat), .int .i64 (qr : Nat), .int .i64 (M : Nat)] 26)
    generalize w.alloc (.cells #[.int .i64 (qd : Nat), .int .i64 (qr : Nat), .int .i64 (M : Nat)] 26) = W1 at *
    generalize hsz : w.heap.size = q1 at *
    have d0 := (hbl.cell (p := ⟨d15, 0, none⟩) hl0).trans c0
    have d1 := (hbl.cell (p := ⟨d15, 1, none⟩) hl0).trans c1
    have d2 := (hbl.cell (p := ⟨d15, 2, none⟩) hl0).trans c2
    have a0 := hx1.cell (i := 0) rfl
    have a1 := hx1.cell (i := 1) rfl
    have a2 := hx1.cell (i := 2) rfl
    have HBL := (show Hid (Below q1 w W1) from hbl)
    clear hsz hbl hx1 c0 c1 c2 hl0
    go_wp2
    exact HR5.out _ HBL.out
  · go_upto_region 7 with fail
    have hx1 := RowAt.new w 26 #[.int .i64 0, .int .i64 0, .int .i64 0]
    have hbl := (Below.refl w.heap.size w).alloc (Nat.le_refl _) (.cells #[.int .i64 0, .int .i64 0, .int .i64 0] 26)
    generalize w.alloc (.cells #[.int .i64 0, .int .i64 0, .int .i64 0] 26) = W1 at *
    generalize hsz : w.heap.size = q1 at *
    have d0 := (hbl.cell (p := ⟨d15, 0, none⟩) hl0).trans c0
    have d1 := (hbl.cell (p := ⟨d15, 1, none⟩) hl0).trans c1
    have d2 := (hbl.cell (p := ⟨d15, 2, none⟩) hl0).trans c2
    have a0 := hx1.cell (i := 0) rfl
    have a1 := hx1.cell (i := 1) rfl
    have a2 := hx1.cell (i := 2) rfl
    have HBL := (show Hid (Below q1 w W1) from hbl)
    clear hsz hbl hx1 c0 c1 c2 hl0
    have he1 : (e == 0) = false := beq_false_of_ne he0
    go_wp2
    exact HR5.out _ HBL.out
end Go.Proofs.Ytpdemelchhkfaaa
