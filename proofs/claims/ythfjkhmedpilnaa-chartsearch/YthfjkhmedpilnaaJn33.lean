/-
  Several texts, joined: FfD, FfE.
-/
import Derived.Test.YthfjkhmedpilnaaJn32
/-
  ChartSearch's walk behind its second call of Find, in company.
-/
namespace Go.Proofs.Ythfjkhmedpilnaa
open Go.RowKit PK Vg Go.Conc Cs
theorem vr_pair {E : Env} {u v : Value} (h : VR E u v) : VR E (.tuple #[u, .int .i64 0]) (.tuple #[v, .int .i64 0]) := by
  refine .tuple rfl fun i x y hx hy => ?_
  match i, hx, hy with
  | 0, hx, hy => simp at hx hy; subst hx hy; exact h
  | 1, hx, hy => simp at hx hy; subst hx hy; exact .int .i64 0
  | i + 2, hx, hy => simp at hx
theorem search_item : [Item.inRegion sO7 (List.range' 4 5), .code sT8].all (itemOk Try.prog) = true := by kernel_rfl
set_option maxRecDepth 100000 in
set_option maxHeartbeats 4000000 in
theorem search_ghost (v0 v1 v2 v4 v5 v10 v11 v12 v13 v14 v15 v16 v17 v18 v19 v20 v21 v22 v23 v24 v25 v26 v27 v28 v29 v30 v31 v32 v33 v34 v35 v36 v37 v38 v39 v40 v41 v42 v43 v44 v45 v46 v47 v48 v49 v50 v51 v52 v53 v54 v55 v56 v57 v58 v59 v61 v62 v63 v64 v65 v66 v67 v68 v69 v70 v71 v72 v73 v74 v75 v76 v77 v78 v79 v80 v81 v82 v83 v84 v85 v86 v87 v88 v89 v90 v91 v92 v93 v94 v95 v96 v97 v98 v99 v100 v101 v102 v103 v104 v105 : Value) (bM bT : Nat) (a b c u1 u2 : Value) (g : Gm) (N0 : Nat) (hN0 : gmN g N0 = g) (hN1 : N0 < 26 ^ g.n) (U : Nat → Value) (hgE : gE g = 0) (hn2 : g.n ≤ 2) (TM TT : TypeId) (fM fT : Nat × Nat) (w : World) (hM : w.heap[bM]? = some (.cells (mac a b c g.rf g.pl) TM fM)) (hT : w.heap[bT]? = some (.cells (tab 3 U) TT fT)) (ha : WhR w a g.n g.wi g.nl g.no) (hb : NumsAt w b g.rl g.ri) (hc : NumsAt w c g.sl g.st) (ra : Rt w a) (rb : Rt w b) (rc : Rt w c) (hU : ∀ i, i < 3 → NumsAt w (U i) (tyM g i) (tyF g i) ∧ Rt w (U i)) (hu1 : LsC w u1 (fndTo g (tyM g) (tyF g) (26 ^ g.n)) g.n) (hu2 : LsC w u2 (fndTo g (tyM g) (tyF g) (26 ^ g.n)) g.n) :
    ∃ E gl wl, InCall Try.prog (fun v _ => v = .bool true) [] E gl wl (G (mkF 4 #[v0, v1, v2, .pointer (some ⟨bM, 0, none⟩), v4, v5, .bool false, .pointer (some ⟨bT, 0, none⟩), .int .i64 0, u1, v10, v11, v12, v13, v14, v15, v16, v17, v18, v19, v20, v21, v22, v23, v24, v25, v26, v27, v28, v29, v30, v31, v32, v33, v34, v35, v36, v37, v38, v39, v40, v41, v42, v43, v44, v45, v46, v47, v48, v49, v50, v51, v52, v53, v54, v55, v56, v57, v58, v59, .tuple #[u2, .int .i64 0], v61, v62, v63, v64, v65, v66, v67, v68, v69, v70, v71, v72, v73, v74, v75, v76, v77, v78, v79, v80, v81, v82, v83, v84, v85, v86, v87, v88, v89, v90, v91, v92, v93, v94, v95, v96, v97, v98, v99, v100, v101, v102, v103, v104, v105] [.inRegion sO7 (List.range' 4 5), .code sT8] .run) []) w ∧ ∀ b q s o, E b = some (q, s, o) → o = false := by
  obtain ⟨E1, wl1, a', b', c', p1, q1, ra', rb', rc', hm1⟩ := cp_mac (Cp.nil (P := Try.prog) w) no_type ha hb hc ra rb rc
  obtain ⟨E2, wl2, U', p2, q2, hU2⟩ := cp_numss no_type U (tyM g) (tyF g) 3 p1 hU
  obtain ⟨E3, wl3, u1', p3, q3, r1, h1⟩ := cp_list p2 no_type hu1
  obtain ⟨E6, wl6, u2', p6, q6, r2, h2⟩ := cp_list p3 no_type hu2
  have hlm : LR E6 (mac a' b' c' g.rf g.pl) (mac a b c g.rf g.pl) := lr_mac (((ra'.mono q2.le).mono q3.le).mono q6.le) (((rb'.mono q2.le).mono q3.le).mono q6.le) (((rc'.mono q2.le).mono q3.le).mono q6.le)
  obtain ⟨E4, wl4, dM, p4, q4, rM, kM⟩ := cp_whole p6 no_type hM (mac a' b' c' g.rf g.pl) (fun i u hu => hlm.get hu)
  have htab : ∀ (n : Nat) (A B : Nat → Value) (E : Env), (∀ i, i < n → VR E (A i) (B i)) → ∀ (i : Nat) u, (tab n A)[i]? = some u → ∃ v, (tab n B)[i]? = some v ∧ VR E u v := fun n A B E hh i u hu => by
    have hi : i < n := by have := (Array.getElem?_eq_some_iff.1 hu).1; rwa [tab_size] at this
    rw [tab_get _ hi] at hu
    cases hu
    exact ⟨_, tab_get _ hi, hh i hi⟩
  obtain ⟨E9, wl9, dT, p9, q9, rT, kT⟩ := cp_whole p4 no_type hT (tab 3 U') (htab 3 U' U E4 fun i hi => ((((hU2 i hi).1.mono q3.le).mono q6.le).mono q4.le))
  have hm9 := mac_keep q9 (mac_keep q4 (mac_keep q6 (mac_keep q3 (mac_keep q2 hm1))))
  have hU9 : TsAt wl9 U' (tyM g) (tyF g) := fun i hi => cp_nums_keep q9 (cp_nums_keep q4 (cp_nums_keep q6 (cp_nums_keep q3 (hU2 i hi).2)))
  have h19 := lsa_keep q9 (lsa_keep q4 (lsa_keep q6 h1))
  have h29 := lsa_keep q9 (lsa_keep q4 h2)
  have kM9 := (q9.old dM (Array.getElem?_eq_some_iff.1 kM).1).trans kM
  have rM9 := rM.mono q9.le
  have rT9 := rT
  have r19 := ((r1.mono q6.le).mono q4.le).mono q9.le
  have r29 := (r2.mono q4.le).mono q9.le
  obtain ⟨jv0, hv0⟩ := junk E9 v0
  obtain ⟨jv1, hv1⟩ := junk E9 v1
  obtain ⟨jv2, hv2⟩ := junk E9 v2
  obtain ⟨jv4, hv4⟩ := junk E9 v4
  obtain ⟨jv5, hv5⟩ := junk E9 v5
  obtain ⟨jv10, hv10⟩ := junk E9 v10
  obtain ⟨jv11, hv11⟩ := junk E9 v11
  obtain ⟨jv12, hv12⟩ := junk E9 v12
  obtain ⟨jv13, hv13⟩ := junk E9 v13
  obtain ⟨jv14, hv14⟩ := junk E9 v14
  obtain ⟨jv15, hv15⟩ := junk E9 v15
  obtain ⟨jv16, hv16⟩ := junk E9 v16
  obtain ⟨jv17, hv17⟩ := junk E9 v17
  obtain ⟨jv18, hv18⟩ := junk E9 v18
  obtain ⟨jv19, hv19⟩ := junk E9 v19
  obtain ⟨jv20, hv20⟩ := junk E9 v20
  obtain ⟨jv21, hv21⟩ := junk E9 v21
  obtain ⟨jv22, hv22⟩ := junk E9 v22
  obtain ⟨jv23, hv23⟩ := junk E9 v23
  obtain ⟨jv24, hv24⟩ := junk E9 v24
  obtain ⟨jv25, hv25⟩ := junk E9 v25
  obtain ⟨jv26, hv26⟩ := junk E9 v26
  obtain ⟨jv27, hv27⟩ := junk E9 v27
  obtain ⟨jv28, hv28⟩ := junk E9 v28
  obtain ⟨jv29, hv29⟩ := junk E9 v29
  obtain ⟨jv30, hv30⟩ := junk E9 v30
  obtain ⟨jv31, hv31⟩ := junk E9 v31
  obtain ⟨jv32, hv32⟩ := junk E9 v32
  obtain ⟨jv33, hv33⟩ := junk E9 v33
  obtain ⟨jv34, hv34⟩ := junk E9 v34
  obtain ⟨jv35, hv35⟩ := junk E9 v35
  obtain ⟨jv36, hv36⟩ := junk E9 v36
  obtain ⟨jv37, hv37⟩ := junk E9 v37
  obtain ⟨jv38, hv38⟩ := junk E9 v38
  obtain ⟨jv39, hv39⟩ := junk E9 v39
  obtain ⟨jv40, hv40⟩ := junk E9 v40
  obtain ⟨jv41, hv41⟩ := junk E9 v41
  obtain ⟨jv42, hv42⟩ := junk E9 v42
  obtain ⟨jv43, hv43⟩ := junk E9 v43
  obtain ⟨jv44, hv44⟩ := junk E9 v44
  obtain ⟨jv45, hv45⟩ := junk E9 v45
  obtain ⟨jv46, hv46⟩ := junk E9 v46
  obtain ⟨jv47, hv47⟩ := junk E9 v47
  obtain ⟨jv48, hv48⟩ := junk E9 v48
  obtain ⟨jv49, hv49⟩ := junk E9 v49
  obtain ⟨jv50, hv50⟩ := junk E9 v50
  obtain ⟨jv51, hv51⟩ := junk E9 v51
  obtain ⟨jv52, hv52⟩ := junk E9 v52
  obtain ⟨jv53, hv53⟩ := junk E9 v53
  obtain ⟨jv54, hv54⟩ := junk E9 v54
  obtain ⟨jv55, hv55⟩ := junk E9 v55
  obtain ⟨jv56, hv56⟩ := junk E9 v56
  obtain ⟨jv57, hv57⟩ := junk E9 v57
  obtain ⟨jv58, hv58⟩ := junk E9 v58
  obtain ⟨jv59, hv59⟩ := junk E9 v59
  obtain ⟨jv61, hv61⟩ := junk E9 v61
  obtain ⟨jv62, hv62⟩ := junk E9 v62
  obtain ⟨jv63, hv63⟩ := junk E9 v63
  obtain ⟨jv64, hv64⟩ := junk E9 v64
  obtain ⟨jv65, hv65⟩ := junk E9 v65
  obtain ⟨jv66, hv66⟩ := junk E9 v66
  obtain ⟨jv67, hv67⟩ := junk E9 v67
  obtain ⟨jv68, hv68⟩ := junk E9 v68
  obtain ⟨jv69, hv69⟩ := junk E9 v69
  obtain ⟨jv70, hv70⟩ := junk E9 v70
  obtain ⟨jv71, hv71⟩ := junk E9 v71
  obtain ⟨jv72, hv72⟩ := junk E9 v72
  obtain ⟨jv73, hv73⟩ := junk E9 v73
  obtain ⟨jv74, hv74⟩ := junk E9 v74
  obtain ⟨jv75, hv75⟩ := junk E9 v75
  obtain ⟨jv76, hv76⟩ := junk E9 v76
  obtain ⟨jv77, hv77⟩ := junk E9 v77
  obtain ⟨jv78, hv78⟩ := junk E9 v78
  obtain ⟨jv79, hv79⟩ := junk E9 v79
  obtain ⟨jv80, hv80⟩ := junk E9 v80
  obtain ⟨jv81, hv81⟩ := junk E9 v81
  obtain ⟨jv82, hv82⟩ := junk E9 v82
  obtain ⟨jv83, hv83⟩ := junk E9 v83
  obtain ⟨jv84, hv84⟩ := junk E9 v84
  obtain ⟨jv85, hv85⟩ := junk E9 v85
  obtain ⟨jv86, hv86⟩ := junk E9 v86
  obtain ⟨jv87, hv87⟩ := junk E9 v87
  obtain ⟨jv88, hv88⟩ := junk E9 v88
  obtain ⟨jv89, hv89⟩ := junk E9 v89
  obtain ⟨jv90, hv90⟩ := junk E9 v90
  obtain ⟨jv91, hv91⟩ := junk E9 v91
  obtain ⟨jv92, hv92⟩ := junk E9 v92
  obtain ⟨jv93, hv93⟩ := junk E9 v93
  obtain ⟨jv94, hv94⟩ := junk E9 v94
  obtain ⟨jv95, hv95⟩ := junk E9 v95
  obtain ⟨jv96, hv96⟩ := junk E9 v96
  obtain ⟨jv97, hv97⟩ := junk E9 v97
  obtain ⟨jv98, hv98⟩ := junk E9 v98
  obtain ⟨jv99, hv99⟩ := junk E9 v99
  obtain ⟨jv100, hv100⟩ := junk E9 v100
  obtain ⟨jv101, hv101⟩ := junk E9 v101
  obtain ⟨jv102, hv102⟩ := junk E9 v102
  obtain ⟨jv103, hv103⟩ := junk E9 v103
  obtain ⟨jv104, hv104⟩ := junk E9 v104
  obtain ⟨jv105, hv105⟩ := junk E9 v105
  have lL := (lr_cons hv0 (lr_cons hv1 (lr_cons hv2 (lr_cons rM9 (lr_cons hv4 (lr_cons hv5 (lr_cons (.bool false) (lr_cons rT9 (lr_cons (.int .i64 0) (lr_cons r19 (lr_cons hv10 (lr_cons hv11 (lr_cons hv12 (lr_cons hv13 (lr_cons hv14 (lr_cons hv15 (lr_cons hv16 (lr_cons hv17 (lr_cons hv18 (lr_cons hv19 (lr_cons hv20 (lr_cons hv21 (lr_cons hv22 (lr_cons hv23 (lr_cons hv24 (lr_cons hv25 (lr_cons hv26 (lr_cons hv27 (lr_cons hv28 (lr_cons hv29 (lr_cons hv30 (lr_cons hv31 (lr_cons hv32 (lr_cons hv33 (lr_cons hv34 (lr_cons hv35 (lr_cons hv36 (lr_cons hv37 (lr_cons hv38 (lr_cons hv39 (lr_cons hv40 (lr_cons hv41 (lr_cons hv42 (lr_cons hv43 (lr_cons hv44 (lr_cons hv45 (lr_cons hv46 (lr_cons hv47 (lr_cons hv48 (lr_cons hv49 (lr_cons hv50 (lr_cons hv51 (lr_cons hv52 (lr_cons hv53 (lr_cons hv54 (lr_cons hv55 (lr_cons hv56 (lr_cons hv57 (lr_cons hv58 (lr_cons hv59 (lr_cons (vr_pair r29) (lr_cons hv61 (lr_cons hv62 (lr_cons hv63 (lr_cons hv64 (lr_cons hv65 (lr_cons hv66 (lr_cons hv67 (lr_cons hv68 (lr_cons hv69 (lr_cons hv70 (lr_cons hv71 (lr_cons hv72 (lr_cons hv73 (lr_cons hv74 (lr_cons hv75 (lr_cons hv76 (lr_cons hv77 (lr_cons hv78 (lr_cons hv79 (lr_cons hv80 (lr_cons hv81 (lr_cons hv82 (lr_cons hv83 (lr_cons hv84 (lr_cons hv85 (lr_cons hv86 (lr_cons hv87 (lr_cons hv88 (lr_cons hv89 (lr_cons hv90 (lr_cons hv91 (lr_cons hv92 (lr_cons hv93 (lr_cons hv94 (lr_cons hv95 (lr_cons hv96 (lr_cons hv97 (lr_cons hv98 (lr_cons hv99 (lr_cons hv100 (lr_cons hv101 (lr_cons hv102 (lr_cons hv103 (lr_cons hv104 (lr_cons hv105 lr_nil))))))))))))))))))))))))))))))))))))))))))))))))))))))))))))))))))))))))))))))))))))))))))))))))))))))))))
  exact ⟨E9, _, wl9, InCall.mid ⟨_, Try.func4⟩ lL p9.wr p9.big search_item (fun τ => reach_region Try.func4 (search_rest jv0 jv1 jv2 jv4 jv5 jv10 jv11 jv12 jv13 jv14 jv15 jv16 jv17 jv18 jv19 jv20 jv21 jv22 jv23 jv24 jv25 jv26 jv27 jv28 jv29 jv30 jv31 jv32 jv33 jv34 jv35 jv36 jv37 jv38 jv39 jv40 jv41 jv42 jv43 jv44 jv45 jv46 jv47 jv48 jv49 jv50 jv51 jv52 jv53 jv54 jv55 jv56 jv57 jv58 jv59 jv61 jv62 jv63 jv64 jv65 jv66 jv67 jv68 jv69 jv70 jv71 jv72 jv73 jv74 jv75 jv76 jv77 jv78 jv79 jv80 jv81 jv82 jv83 jv84 jv85 jv86 jv87 jv88 jv89 jv90 jv91 jv92 jv93 jv94 jv95 jv96 jv97 jv98 jv99 jv100 jv101 jv102 jv103 jv104 jv105 dM dT a' b' c' u1' u2' g N0 hN0 hN1 U' hgE hn2 _ _ _ _ (wl9.tp τ) kM9 kT hm9 hU9 h19 h29)), p9.sh⟩
set_option maxRecDepth 100000 in
set_option maxHeartbeats 4000000 in
theorem search_end (v0 v1 v2 v4 v5 v10 v11 v12 v13 v14 v15 v16 v17 v18 v19 v20 v21 v22 v23 v24 v25 v26 v27 v28 v29 v30 v31 v32 v33 v34 v35 v36 v37 v38 v39 v40 v41 v42 v43 v44 v45 v46 v47 v48 v49 v50 v51 v52 v53 v54 v55 v56 v57 v58 v59 v61 v62 v63 v64 v65 v66 v67 v68 v69 v70 v71 v72 v73 v74 v75 v76 v77 v78 v79 v80 v81 v82 v83 v84 v85 v86 v87 v88 v89 v90 v91 v92 v93 v94 v95 v96 v97 v98 v99 v100 v101 v102 v103 v104 v105 : Value) (bM bT : Nat) (a b c u1 u2 : Value) (g : Gm) (N0 : Nat) (hN0 : gmN g N0 = g) (hN1 : N0 < 26 ^ g.n) (U : Nat → Value) (hgE : gE g = 0) (hn2 : g.n ≤ 2) (TM TT : TypeId) (fM fT : Nat × Nat) (w : World) (hM : w.heap[bM]? = some (.cells (mac a b c g.rf g.pl) TM fM)) (hT : w.heap[bT]? = some (.cells (tab 3 U) TT fT)) (ha : WhR w a g.n g.wi g.nl g.no) (hb : NumsAt w b g.rl g.ri) (hc : NumsAt w c g.sl g.st) (ra : Rt w a) (rb : Rt w b) (rc : Rt w c) (hU : ∀ i, i < 3 → NumsAt w (U i) (tyM g i) (tyF g i) ∧ Rt w (U i)) (hu1 : LsC w u1 (fndTo g (tyM g) (tyF g) (26 ^ g.n)) g.n) (hu2 : LsC w u2 (fndTo g (tyM g) (tyF g) (26 ^ g.n)) g.n) {gs : Array Goroutine} {t : Trace} {q : Nat → Nat} (i1 : gs[0]? = some (G (mkF 4 #[v0, v1, v2, .pointer (some ⟨bM, 0, none⟩), v4, v5, .bool false, .pointer (some ⟨bT, 0, none⟩), .int .i64 0, u1, v10, v11, v12, v13, v14, v15, v16, v17, v18, v19, v20, v21, v22, v23, v24, v25, v26, v27, v28, v29, v30, v31, v32, v33, v34, v35, v36, v37, v38, v39, v40, v41, v42, v43, v44, v45, v46, v47, v48, v49, v50, v51, v52, v53, v54, v55, v56, v57, v58, v59, .tuple #[u2, .int .i64 0], v61, v62, v63, v64, v65, v66, v67, v68, v69, v70, v71, v72, v73, v74, v75, v76, v77, v78, v79, v80, v81, v82, v83, v84, v85, v86, v87, v88, v89, v90, v91, v92, v93, v94, v95, v96, v97, v98, v99, v100, v101, v102, v103, v104, v105] [.inRegion sO7 (List.range' 4 5), .code sT8] .run) [])) (Q1 : Qt Try.prog gs t q w.heap.size) (sl : Option (Nat × Nat)) :
    ∃ N gs' w' sl' t' q' g', runNT Try.prog N (crowd gs w sl) t = (.next (crowd gs' w' sl'), t') ∧ gs'[0]? = some g' ∧ g'.status = .running ∧ (∀ W, stepG Try.prog true g' W = .ended (.done (.bool true)) W #[]) ∧ Qt Try.prog gs' t' q' w'.heap.size ∧ Kept w w' := by
  have hG : Try.prog.globals.size ≤ Fns.G := Nat.le_refl _
  obtain ⟨E, gl, wl, hin, hsh⟩ := search_ghost v0 v1 v2 v4 v5 v10 v11 v12 v13 v14 v15 v16 v17 v18 v19 v20 v21 v22 v23 v24 v25 v26 v27 v28 v29 v30 v31 v32 v33 v34 v35 v36 v37 v38 v39 v40 v41 v42 v43 v44 v45 v46 v47 v48 v49 v50 v51 v52 v53 v54 v55 v56 v57 v58 v59 v61 v62 v63 v64 v65 v66 v67 v68 v69 v70 v71 v72 v73 v74 v75 v76 v77 v78 v79 v80 v81 v82 v83 v84 v85 v86 v87 v88 v89 v90 v91 v92 v93 v94 v95 v96 v97 v98 v99 v100 v101 v102 v103 v104 v105 bM bT a b c u1 u2 g N0 hN0 hN1 U hgE hn2 TM TT fM fT w hM hT ha hb hc ra rb rc hU hu1 hu2
  obtain ⟨N2, gs2, w2, sl2, t2, q2, E2, gl2, wl2, g2, r2, z2, i2, in2, st2, la2, fc2, Q2⟩ := beside_stop (sl := sl) hG fd_fnsCode i1 hin Q1
  obtain ⟨v, v', wl3, hp, vr, hs, hend⟩ := in2.atEnd st2 (fn0 := 4) (t := 6) (la2.trans rfl) Try.func4 rfl (by kernel_rfl)
  subst hp
  cases vr
  exact ⟨N2, gs2, w2, sl2, t2, q2, g2, r2, i2, hs, hend, Q2, fun b hb => fc2.keep b hb (fun b' s e => by have := hsh _ _ _ _ e; cases this), fc2.os, fc2.output⟩
end Go.Proofs.Ythfjkhmedpilnaa

/-
  ChartSearch's run from its calls of Find on.
-/
namespace Go.Proofs.Ythfjkhmedpilnaa
open Go.RowKit PK Vg Go.Conc Cs
theorem enter_search (A : Array Value) (n k : Nat) : Frame.enter Try.prog 4 #[.agg A, .int .i64 (n : Nat), .int .i64 (k : Nat)] .normal = (base 4).at ⟨#[.agg A, .int .i64 (n : Nat), .int .i64 (k : Nat), undef, undef, undef, undef, undef, undef, undef, undef, undef, undef, undef, undef, undef, undef, undef, undef, undef, undef, undef, undef, undef, undef, undef, undef, undef, undef, undef, undef, undef, undef, undef, undef, undef, undef, undef, undef, undef, undef, undef, undef, undef, undef, undef, undef, undef, undef, undef, undef, undef, undef, undef, undef, undef, undef, undef, undef, undef, undef, undef, undef, undef, undef, undef, undef, undef, undef, undef, undef, undef, undef, undef, undef, undef, undef, undef, undef, undef, undef, undef, undef, undef, undef, undef, undef, undef, undef, undef, undef, undef, undef, undef, undef, undef, undef, undef, undef, undef, undef, undef, undef, undef, undef, undef], []⟩ [.code sB] := by
  simp [Frame.enter, Try.func4, Try.f4, sB, base, Frame.at, Array.replicate, List.replicate]
theorem vr_types {E : Env} {V : Nat → Value} {v' : Value} (h : VR E (.tuple #[.agg (tab 3 V), .int .i64 0]) v') : ∃ U : Nat → Value, v' = .tuple #[.agg (tab 3 U), .int .i64 0] ∧ ∀ i, i < 3 → VR E (V i) (U i) := by
  cases h with
  | tuple hs hv =>
    rename_i y
    have h0 : 0 < y.size := by rw [← hs]; exact Nat.zero_lt_two
    have h1 : 1 < y.size := by rw [← hs]; exact Nat.one_lt_two
    have k0 := hv 0 (.agg (tab 3 V)) _ rfl (Array.getElem?_eq_getElem h0)
    have k1 := hv 1 (.int .i64 0) _ rfl (Array.getElem?_eq_getElem h1)
    have e1 : y[1] = .int .i64 0 := by
      revert k1
      generalize y[1] = z
      intro k1
      cases k1
      rfl
    obtain ⟨x, e0, hx1, hx2⟩ : ∃ x, y[0] = .agg x ∧ (tab 3 V).size = x.size ∧ ∀ (i : Nat) u v, (tab 3 V)[i]? = some u → x[i]? = some v → VR E u v := by
      revert k0
      generalize y[0] = z
      intro k0
      cases k0 with
      | agg a b => exact ⟨_, rfl, a, b⟩
    rw [tab_size] at hx1
    refine ⟨fun i => x.getD i undef, ?_, fun i hi => hx2 i _ _ (tab_get V hi) (by simp [Array.getD, ← hx1, hi])⟩
    congr 1
    refine Array.ext (by rw [← hs]; rfl) fun i hi1 hi2 => ?_
    rcases (by simp at hi2; omega : i = 0 ∨ i = 1) with rfl | rfl
    · rw [e0]
      show Value.agg x = .agg (tab 3 fun i => x.getD i undef)
      congr 1
      refine Array.ext (by rw [tab_size, hx1]) fun i h1 h2 => ?_
      have := tab_get (fun i => x.getD i undef) (n := 3) (i := i) (by omega)
      rw [Array.getElem?_eq_getElem h2] at this
      rw [Option.some.inj this]
      simp [Array.getD, h1]
    · exact e1
theorem lsc_ag {w w' : World} (hag : ∀ b, b < w.heap.size → w'.heap[b]? = w.heap[b]?) {v : Value} {L : List Nat} {m : Nat} (h : LsC w v L m) : LsC w' v L m := by
  obtain ⟨a, cap, h1, h2, h3, h4⟩ := h
  refine ⟨a, cap, h1, h2, rt_ag hag h3, fun j N hj => ?_⟩
  obtain ⟨b, o, u, k1, k2, k3, k4⟩ := h4 j N hj
  exact ⟨b, o, u, k1, cell_ag hag k2, nums_ag hag k3, rt_ag hag k4⟩
theorem swE_of {g : Gm} (h : gE g = 0) (hn2 : g.n ≤ 2) {n : Nat} (hn : 1 ≤ n ∧ n ≤ 16) : swE g (n : Int) = 0 := by
  unfold swE
  rw [if_neg (fun e => e h), if_neg (by omega), if_neg (by omega)]
theorem kept_trans {w1 w2 w3 : World} (h : Kept w1 w2) (k : Kept w2 w3) : Kept w1 w3 := ⟨fun b hb => (k.1 b (by
  have h1 := h.1 b hb
  have h2 : (w2.heap[b]?).isSome = true := by rw [h1]; simp [hb]
  simpa using h2)).trans (h.1 b hb), k.2.1.trans h.2.1, k.2.2.trans h.2.2⟩
set_option maxRecDepth 100000 in
set_option maxHeartbeats 8000000 in
theorem search_p3 (v : Nat → Value) (u1 : Value) (bM bT n k : Nat) (hk : 1 ≤ k ∧ k ≤ 16) (a b c : Value) (g : Gm) (N0 : Nat) (hN0 : gmN g N0 = g) (hN1 : N0 < 26 ^ g.n) (hgE : gE g = 0) (hn2 : g.n ≤ 2) (U : Nat → Value) (hfit : ∀ r, r < g.n → g.nl r * 8 ≤ 140737488355328) (hrl : g.rl * 8 ≤ 140737488355328) (A : Array Value) (hA0 : A = mac a b c g.rf g.pl) (w : World) (ha : WhR w a g.n g.wi g.nl g.no) (hb : NumsAt w b g.rl g.ri) (hc : NumsAt w c g.sl g.st) (ra : Rt w a) (rb : Rt w b) (rc : Rt w c) (hU : ∀ i, i < 3 → NumsAt w (U i) (tyM g i) (tyF g i) ∧ Rt w (U i)) (hM : w.heap[bM]? = some (.cells A 27 (0, 0))) (hT : w.heap[bT]? = some (.cells (tab 3 U) 28 (0, 0))) (l1 : LsC w u1 (fndTo g (tyM g) (tyF g) (26 ^ g.n)) g.n) {gs : Array Goroutine} {t : Trace} {q : Nat → Nat} (i1 : gs[0]? = some (G ((base 7).at ⟨#[.agg A, .agg #[U 0, U 1, U 2], .int .i64 (k : Nat), undef, undef, undef, undef, undef, undef, undef, undef, undef, undef, undef], []⟩ [.code fB]) ((base 4).at ⟨#[.agg A, .int .i64 (n : Nat), .int .i64 (k : Nat), .pointer (some ⟨bM, 0, none⟩), v 4, v 5, .bool false, .pointer (some ⟨bT, 0, none⟩), .int .i64 0, u1, v 10, v 11, v 12, v 13, v 14, v 15, v 16, v 17, v 18, v 19, v 20, v 21, v 22, v 23, v 24, v 25, v 26, v 27, v 28, v 29, v 30, v 31, v 32, v 33, v 34, v 35, v 36, v 37, v 38, v 39, v 40, v 41, v 42, v 43, v 44, v 45, v 46, v 47, v 48, v 49, v 50, v 51, v 52, v 53, v 54, v 55, v 56, .agg A, .agg #[U 0, U 1, U 2], .int .i64 (k : Nat), v 60, v 61, v 62, v 63, v 64, v 65, v 66, v 67, v 68, v 69, v 70, v 71, v 72, v 73, v 74, v 75, v 76, v 77, v 78, v 79, v 80, v 81, v 82, v 83, v 84, v 85, v 86, v 87, v 88, v 89, v 90, v 91, v 92, v 93, v 94, v 95, v 96, v 97, v 98, v 99, v 100, v 101, v 102, v 103, v 104, v 105], []⟩ [.inRegion sO7 (3 :: List.range' 4 5), .code sT8] :: []))) (Q1 : Qt Try.prog gs t q w.heap.size) (sl : Option (Nat × Nat)) :
    ∃ N gs' w' sl' t' q' g', runNT Try.prog N (crowd gs w sl) t = (.next (crowd gs' w' sl'), t') ∧ gs'[0]? = some g' ∧ g'.status = .running ∧ (∀ W, stepG Try.prog true g' W = .ended (.done (.bool true)) W #[]) ∧ Qt Try.prog gs' t' q' w'.heap.size ∧ Kept w w' := by
  obtain ⟨N9, gs9, w9, sl9, t9, q9, u2, r9, i9, l9, k9, Q9⟩ := find_call a b c g U (tyM g) (tyF g) k (swE_of hgE hn2 hk) hfit hrl A (tab 3 U) hA0 rfl w ha hb hc ra rb rc hU _ _ i1 Q1 sl
  have d9 : w9.heap[bM]? = some (.cells (mac a b c g.rf g.pl) 27 (0, 0)) := by rw [← hA0]; exact (k9.1 _ (heap_lt hM)).trans hM
  have e9 := (k9.1 _ (heap_lt hT)).trans hT
  obtain ⟨N10, gs10, w10, sl10, t10, q10, g10, r10, i10, hrun10, hend10, Q10, k10⟩ := search_end (.agg A) (.int .i64 (n : Nat)) (.int .i64 (k : Nat)) (v 4) (v 5) (v 10) (v 11) (v 12) (v 13) (v 14) (v 15) (v 16) (v 17) (v 18) (v 19) (v 20) (v 21) (v 22) (v 23) (v 24) (v 25) (v 26) (v 27) (v 28) (v 29) (v 30) (v 31) (v 32) (v 33) (v 34) (v 35) (v 36) (v 37) (v 38) (v 39) (v 40) (v 41) (v 42) (v 43) (v 44) (v 45) (v 46) (v 47) (v 48) (v 49) (v 50) (v 51) (v 52) (v 53) (v 54) (v 55) (v 56) (.agg A) (.agg #[U 0, U 1, U 2]) (.int .i64 (k : Nat)) (v 61) (v 62) (v 63) (v 64) (v 65) (v 66) (v 67) (v 68) (v 69) (v 70) (v 71) (v 72) (v 73) (v 74) (v 75) (v 76) (v 77) (v 78) (v 79) (v 80) (v 81) (v 82) (v 83) (v 84) (v 85) (v 86) (v 87) (v 88) (v 89) (v 90) (v 91) (v 92) (v 93) (v 94) (v 95) (v 96) (v 97) (v 98) (v 99) (v 100) (v 101) (v 102) (v 103) (v 104) (v 105) bM bT a b c u1 u2 g N0 hN0 hN1 U hgE hn2 _ _ _ _ w9 d9 e9 (whr_ag k9.1 ha) (nums_ag k9.1 hb) (nums_ag k9.1 hc) (rt_ag k9.1 ra) (rt_ag k9.1 rb) (rt_ag k9.1 rc) (fun i hi => ⟨nums_ag k9.1 (hU i hi).1, rt_ag k9.1 (hU i hi).2⟩) (lsc_ag k9.1 l1) l9 i9 Q9 sl9
  exact ⟨N9 + N10, gs10, w10, sl10, t10, q10, g10, by rw [runNT_add, r9]; exact r10, i10, hrun10, hend10, Q10, kept_trans k9 k10⟩
/-- Where the second call of Find begins. -/
def SrchD (A : Array Value) (x y z u1 : Value) (n k bM bT : Nat) (H : Array Obj) (o : Os) (out : Array (Nat × ByteArray)) (g : Goroutine) (w : World) : Prop := ∃ v : Nat → Value, g = G ((base 7).at ⟨#[.agg A, .agg #[x, y, z], .int .i64 (k : Nat), undef, undef, undef, undef, undef, undef, undef, undef, undef, undef, undef], []⟩ [.code fB]) ((base 4).at ⟨#[.agg A, .int .i64 (n : Nat), .int .i64 (k : Nat), .pointer (some ⟨bM, 0, none⟩), v 4, v 5, .bool false, .pointer (some ⟨bT, 0, none⟩), .int .i64 0, u1, v 10, v 11, v 12, v 13, v 14, v 15, v 16, v 17, v 18, v 19, v 20, v 21, v 22, v 23, v 24, v 25, v 26, v 27, v 28, v 29, v 30, v 31, v 32, v 33, v 34, v 35, v 36, v 37, v 38, v 39, v 40, v 41, v 42, v 43, v 44, v 45, v 46, v 47, v 48, v 49, v 50, v 51, v 52, v 53, v 54, v 55, v 56, .agg A, .agg #[x, y, z], .int .i64 (k : Nat), v 60, v 61, v 62, v 63, v 64, v 65, v 66, v 67, v 68, v 69, v 70, v 71, v 72, v 73, v 74, v 75, v 76, v 77, v 78, v 79, v 80, v 81, v 82, v 83, v 84, v 85, v 86, v 87, v 88, v 89, v 90, v 91, v 92, v 93, v 94, v 95, v 96, v 97, v 98, v 99, v 100, v 101, v 102, v 103, v 104, v 105], []⟩ [.inRegion sO7 (3 :: List.range' 4 5), .code sT8] :: []) ∧ HI H o out w
/-- Where the first one does. -/
def SrchC (A : Array Value) (x y z : Value) (n k bM bT : Nat) (H : Array Obj) (o : Os) (out : Array (Nat × ByteArray)) (g : Goroutine) (w : World) : Prop := ∃ v : Nat → Value, g = G ((base 7).at ⟨#[.agg A, .agg #[x, y, z], .int .i64 (n : Nat), undef, undef, undef, undef, undef, undef, undef, undef, undef, undef, undef], []⟩ [.code fB]) ((base 4).at ⟨#[.agg A, .int .i64 (n : Nat), .int .i64 (k : Nat), .pointer (some ⟨bM, 0, none⟩), v 4, v 5, .bool false, .pointer (some ⟨bT, 0, none⟩), .int .i64 0, v 9, v 10, v 11, v 12, v 13, v 14, v 15, v 16, v 17, v 18, v 19, v 20, v 21, v 22, v 23, v 24, v 25, v 26, v 27, v 28, v 29, v 30, v 31, v 32, v 33, v 34, v 35, v 36, v 37, v 38, v 39, v 40, v 41, v 42, v 43, v 44, v 45, v 46, v 47, v 48, v 49, .agg A, .agg #[x, y, z], .int .i64 (n : Nat), v 53, v 54, v 55, v 56, v 57, v 58, v 59, v 60, v 61, v 62, v 63, v 64, v 65, v 66, v 67, v 68, v 69, v 70, v 71, v 72, v 73, v 74, v 75, v 76, v 77, v 78, v 79, v 80, v 81, v 82, v 83, v 84, v 85, v 86, v 87, v 88, v 89, v 90, v 91, v 92, v 93, v 94, v 95, v 96, v 97, v 98, v 99, v 100, v 101, v 102, v 103, v 104, v 105], []⟩ [.inRegion sO6 (3 :: List.range' 4 5), .code sT7] :: []) ∧ HI H o out w
section
variable {A : Array Value} {x y z u1 : Value} {n k bM bT : Nat} {H : Array Obj} {o : Os} {out : Array (Nat × ByteArray)} {g : Goroutine} {w : World}
theorem SrchD.running (h : SrchD A x y z u1 n k bM bT H o out g w) : g.status = .running := by
  obtain ⟨v, rfl, _⟩ := h
  rfl
theorem SrchC.running (h : SrchC A x y z n k bM bT H o out g w) : g.status = .running := by
  obtain ⟨v, rfl, _⟩ := h
  rfl
end
set_option maxRecDepth 100000 in
set_option maxHeartbeats 8000000 in
theorem search_p2 (v : Nat → Value) (bM bT n k : Nat) (hn : 1 ≤ n ∧ n ≤ 16) (hk : 1 ≤ k ∧ k ≤ 16) (a b c : Value) (g : Gm) (N0 : Nat) (hN0 : gmN g N0 = g) (hN1 : N0 < 26 ^ g.n) (hgE : gE g = 0) (hn2 : g.n ≤ 2) (U : Nat → Value) (hfit : ∀ r, r < g.n → g.nl r * 8 ≤ 140737488355328) (hrl : g.rl * 8 ≤ 140737488355328) (A : Array Value) (hA0 : A = mac a b c g.rf g.pl) (w : World) (ha : WhR w a g.n g.wi g.nl g.no) (hb : NumsAt w b g.rl g.ri) (hc : NumsAt w c g.sl g.st) (ra : Rt w a) (rb : Rt w b) (rc : Rt w c) (hU : ∀ i, i < 3 → NumsAt w (U i) (tyM g i) (tyF g i) ∧ Rt w (U i)) (hM : w.heap[bM]? = some (.cells A 27 (0, 0))) (hT : w.heap[bT]? = some (.cells (tab 3 U) 28 (0, 0))) {gs : Array Goroutine} {t : Trace} {q : Nat → Nat} (i1 : gs[0]? = some (G ((base 7).at ⟨#[.agg A, .agg #[U 0, U 1, U 2], .int .i64 (n : Nat), undef, undef, undef, undef, undef, undef, undef, undef, undef, undef, undef], []⟩ [.code fB]) ((base 4).at ⟨#[.agg A, .int .i64 (n : Nat), .int .i64 (k : Nat), .pointer (some ⟨bM, 0, none⟩), v 4, v 5, .bool false, .pointer (some ⟨bT, 0, none⟩), .int .i64 0, v 9, v 10, v 11, v 12, v 13, v 14, v 15, v 16, v 17, v 18, v 19, v 20, v 21, v 22, v 23, v 24, v 25, v 26, v 27, v 28, v 29, v 30, v 31, v 32, v 33, v 34, v 35, v 36, v 37, v 38, v 39, v 40, v 41, v 42, v 43, v 44, v 45, v 46, v 47, v 48, v 49, .agg A, .agg #[U 0, U 1, U 2], .int .i64 (n : Nat), v 53, v 54, v 55, v 56, v 57, v 58, v 59, v 60, v 61, v 62, v 63, v 64, v 65, v 66, v 67, v 68, v 69, v 70, v 71, v 72, v 73, v 74, v 75, v 76, v 77, v 78, v 79, v 80, v 81, v 82, v 83, v 84, v 85, v 86, v 87, v 88, v 89, v 90, v 91, v 92, v 93, v 94, v 95, v 96, v 97, v 98, v 99, v 100, v 101, v 102, v 103, v 104, v 105], []⟩ [.inRegion sO6 (3 :: List.range' 4 5), .code sT7] :: []))) (Q1 : Qt Try.prog gs t q w.heap.size) (sl : Option (Nat × Nat)) :
    ∃ N gs' w' sl' t' q' g', runNT Try.prog N (crowd gs w sl) t = (.next (crowd gs' w' sl'), t') ∧ gs'[0]? = some g' ∧ g'.status = .running ∧ (∀ W, stepG Try.prog true g' W = .ended (.done (.bool true)) W #[]) ∧ Qt Try.prog gs' t' q' w'.heap.size ∧ Kept w w' := by
  have hA : A.size = 55 := by rw [hA0]; exact mac_size ..
  obtain ⟨N7, gs7, w7, sl7, t7, q7, u1, r7, i7, l7, k7, Q7⟩ := find_call a b c g U (tyM g) (tyF g) n (swE_of hgE hn2 hn) hfit hrl A (tab 3 U) hA0 rfl w ha hb hc ra rb rc hU _ _ i1 Q1 sl
  have d7 := (k7.1 _ (heap_lt hM)).trans hM
  have e7 := (k7.1 _ (heap_lt hT)).trans hT
  obtain ⟨mu8, G8⟩ := search_d A hA (U 0) (U 1) (U 2) u1 (v 4) (v 5) (v 9) (v 10) (v 11) (v 12) (v 13) (v 14) (v 15) (v 16) (v 17) (v 18) (v 19) (v 20) (v 21) (v 22) (v 23) (v 24) (v 25) (v 26) (v 27) (v 28) (v 29) (v 30) (v 31) (v 32) (v 33) (v 34) (v 35) (v 36) (v 37) (v 38) (v 39) (v 40) (v 41) (v 42) (v 43) (v 44) (v 45) (v 46) (v 47) (v 48) (v 49) (.agg A) (.agg #[U 0, U 1, U 2]) (.int .i64 (n : Nat)) (v 54) (v 55) (v 56) (v 57) (v 58) (v 59) (v 60) (v 61) (v 62) (v 63) (v 64) (v 65) (v 66) (v 67) (v 68) (v 69) (v 70) (v 71) (v 72) (v 73) (v 74) (v 75) (v 76) (v 77) (v 78) (v 79) (v 80) (v 81) (v 82) (v 83) (v 84) (v 85) (v 86) (v 87) (v 88) (v 89) (v 90) (v 91) (v 92) (v 93) (v 94) (v 95) (v 96) (v 97) (v 98) (v 99) (v 100) (v 101) (v 102) (v 103) (v 104) (v 105) n k bM bT [] w7.heap w7.os w7.output w7 ⟨rfl, rfl, rfl⟩ d7 e7
  have G9 : Goes Try.prog true AtRel DW (SrchD A (U 0) (U 1) (U 2) u1 n k bM bT w7.heap w7.os w7.output) mu8 _ w7 := G8
  obtain ⟨N8, gs8, w8, sl8, t8, q8, g8, r8, z8, i8, h8, Q8⟩ := beside_walk (sl := sl7) (fun _ _ _ h => h) (fun g w h => h.running) i7 G9 Q7
  have key : ∃ N gs' w' sl' t' q' g', runNT Try.prog N (crowd gs8 w8 sl8) t8 = (.next (crowd gs' w' sl'), t') ∧ gs'[0]? = some g' ∧ g'.status = .running ∧ (∀ W, stepG Try.prog true g' W = .ended (.done (.bool true)) W #[]) ∧ Qt Try.prog gs' t' q' w'.heap.size ∧ Kept w w' := by
    clear G8 G9 r8 r7 i7 Q7 i1 Q1
    obtain ⟨v, rfl, I8⟩ := h8
    have k8 : Kept w w8 := ⟨fun b hb => by rw [I8.1]; exact k7.1 b hb, I8.2.1.trans k7.2.1, I8.2.2.trans k7.2.2⟩
    have o87 : ∀ b, b < w7.heap.size → w8.heap[b]? = w7.heap[b]? := fun b _ => by rw [I8.1]
    obtain ⟨N, gs', w', sl', t', q', g', c1, c2, c3, c4, c5, c6⟩ := search_p3 v u1 bM bT n k hk a b c g N0 hN0 hN1 hgE hn2 U hfit hrl A hA0 w8 (whr_ag k8.1 ha) (nums_ag k8.1 hb) (nums_ag k8.1 hc) (rt_ag k8.1 ra) (rt_ag k8.1 rb) (rt_ag k8.1 rc) (fun i hi => ⟨nums_ag k8.1 (hU i hi).1, rt_ag k8.1 (hU i hi).2⟩) ((k8.1 _ (heap_lt hM)).trans hM) ((k8.1 _ (heap_lt hT)).trans hT) (lsc_ag o87 l7) i8 Q8 sl8
    exact ⟨N, gs', w', sl', t', q', g', c1, c2, c3, c4, c5, kept_trans k8 c6⟩
  obtain ⟨N, gs', w', sl', t', q', g', c1, c2, c3, c4, c5, c6⟩ := key
  exact ⟨N7 + (N8 + N), gs', w', sl', t', q', g', by rw [runNT_add, r7]; show runNT Try.prog (N8 + N) (crowd gs7 w7 sl7) t7 = _; rw [runNT_add, r8]; exact c1, c2, c3, c4, c5, c6⟩
end Go.Proofs.Ythfjkhmedpilnaa
