/-
  BombeStops behind its second call of Search, in company.
-/
import Derived.Test.YtbbpbcmpemmgjaaFhB
namespace Go.Proofs.Ytbbpbcmpemmgjaa
open Go.RowKit PK Vg Go.Conc Cs
theorem swE_ofB {g : Gm} (h : gE g = 0) (hn2 : g.n ≤ 2) {n : Nat} (hn : 1 ≤ n ∧ n ≤ 16) : swE g (n : Int) = 0 := by
  unfold swE
  rw [if_neg (fun e => e h), if_neg (by omega), if_neg (by omega)]
theorem stops_item : [Item.inRegion nO7 (List.range' 5 5), .code nT8].all (itemOk Try.prog) = true := by kernel_rfl
set_option maxRecDepth 100000 in
set_option maxHeartbeats 8000000 in
theorem stops_ghost (v0 v1 v2 v3 v5 v6 v7 v8 v9 v10 v13 v14 v15 v16 v17 v18 v19 v20 v21 v22 v23 v24 v25 v26 v27 v28 v29 v30 v31 v32 v33 v34 v35 v36 v37 v38 v39 v40 v41 v42 v43 v44 v45 v46 v47 v48 v49 v50 v51 v52 v53 v54 v55 v56 v57 v58 v59 v60 v61 v62 v63 v64 v66 v67 v68 v69 v70 v71 v72 v73 v74 v75 v76 v77 v78 v79 v80 v81 v82 v83 v84 v85 v86 v87 v88 v89 v90 v91 v92 v93 v94 v95 v96 v97 v98 v99 v100 v101 v102 v103 v104 v105 v106 v107 v108 v109 v110 v111 v112 : Value) (bM : Nat) (a b c u1 u2 : Value) (g : Gm) (cr te : ByteArray) (hl : Hl) (hBm : BmS g hl cr te) (N0 Aa PA : Nat) (pr : Nat → Nat → Int) (LG : List Nat) (hO : OwnG g hl N0 Aa PA pr LG) (hN0 : gmN g N0 = g) (hN1 : N0 < 26 ^ g.n) (hgE : gE g = 0) (hn2 : g.n ≤ 2) (TM : TypeId) (fM : Nat × Nat) (w : World) (hM : w.heap[bM]? = some (.cells (mac a b c g.rf g.pl) TM fM)) (ha : WhR w a g.n g.wi g.nl g.no) (hb : NumsAt w b g.rl g.ri) (hc : NumsAt w c g.sl g.st) (ra : Rt w a) (rb : Rt w b) (rc : Rt w c) (hu1 : HsC w u1 (hl.fnd (26 ^ g.n)) hl) (hu2 : HsC w u2 (hl.fnd (26 ^ g.n)) hl) :
    ∃ E gl wl, InCall Try.prog (fun v _ => v = .bool true) [] E gl wl (G (mkF 6 #[v0, v1, v2, v3, .pointer (some ⟨bM, 0, none⟩), v5, v6, v7, v8, v9, v10, u1, .int .i64 0, v13, v14, v15, v16, v17, v18, v19, v20, v21, v22, v23, v24, v25, v26, v27, v28, v29, v30, v31, v32, v33, v34, v35, v36, v37, v38, v39, v40, v41, v42, v43, v44, v45, v46, v47, v48, v49, v50, v51, v52, v53, v54, v55, v56, v57, v58, v59, v60, v61, v62, v63, v64, .tuple #[u2, .int .i64 0], v66, v67, v68, v69, v70, v71, v72, v73, v74, v75, v76, v77, v78, v79, v80, v81, v82, v83, v84, v85, v86, v87, v88, v89, v90, v91, v92, v93, v94, v95, v96, v97, v98, v99, v100, v101, v102, v103, v104, v105, v106, v107, v108, v109, v110, v111, v112] [.inRegion nO7 (List.range' 5 5), .code nT8] .run) []) w ∧ ∀ b q s o, E b = some (q, s, o) → o = false := by
  obtain ⟨E1, wl1, a', b', c', p1, q1, ra', rb', rc', hm1⟩ := cp_mac (Cp.nil (P := Try.prog) w) no_type ha hb hc ra rb rc
  obtain ⟨E3, wl3, u1', p3, q3, s1, h1⟩ := cp_halts p1 no_type hu1
  obtain ⟨E4, wl4, u2', p4, q4, s2, h2⟩ := cp_halts p3 no_type hu2
  have hlm : LR E4 (mac a' b' c' g.rf g.pl) (mac a b c g.rf g.pl) := lr_mac ((ra'.mono q3.le).mono q4.le) ((rb'.mono q3.le).mono q4.le) ((rc'.mono q3.le).mono q4.le)
  obtain ⟨E9, wl9, dM, p9, q9, rM, kM⟩ := cp_whole p4 no_type hM (mac a' b' c' g.rf g.pl) (fun i u hu => hlm.get hu)
  have hm9 := mac_keep q9 (mac_keep q4 (mac_keep q3 hm1))
  have h19 := hsa_keep q9 (hsa_keep q4 h1)
  have h29 := hsa_keep q9 h2
  have r1 := (s1.mono q4.le).mono q9.le
  have r2 := s2.mono q9.le
  obtain ⟨jv0, hv0⟩ := junk E9 v0
  obtain ⟨jv1, hv1⟩ := junk E9 v1
  obtain ⟨jv2, hv2⟩ := junk E9 v2
  obtain ⟨jv3, hv3⟩ := junk E9 v3
  obtain ⟨jv5, hv5⟩ := junk E9 v5
  obtain ⟨jv6, hv6⟩ := junk E9 v6
  obtain ⟨jv7, hv7⟩ := junk E9 v7
  obtain ⟨jv8, hv8⟩ := junk E9 v8
  obtain ⟨jv9, hv9⟩ := junk E9 v9
  obtain ⟨jv10, hv10⟩ := junk E9 v10
  obtain ⟨jv13, hv13⟩ := junk E9 v13
  obtain ⟨jv14, hv14⟩ := junk E9 v14
  obtain ⟨jv15, hv15⟩ := junk E9 v15
  obtain ⟨jv16, hv16⟩ := junk E9 v16
  obtain ⟨jv17, hv17⟩ := junk E9 v17
  obtain ⟨jv18, hv18⟩ := junk E9 v18
  obtain ⟨jv19, hv19⟩ := junk E9 v19
  obtain ⟨jv20, hv20⟩ := junk E9 v20
  obtain ⟨jv21, hv21⟩ := junk E9 v21
  obtain ⟨jv22, hv22⟩ := junk E9 v22
  obtain ⟨jv23, hv23⟩ := junk E9 v23
  obtain ⟨jv24, hv24⟩ := junk E9 v24
  obtain ⟨jv25, hv25⟩ := junk E9 v25
  obtain ⟨jv26, hv26⟩ := junk E9 v26
  obtain ⟨jv27, hv27⟩ := junk E9 v27
  obtain ⟨jv28, hv28⟩ := junk E9 v28
  obtain ⟨jv29, hv29⟩ := junk E9 v29
  obtain ⟨jv30, hv30⟩ := junk E9 v30
  obtain ⟨jv31, hv31⟩ := junk E9 v31
  obtain ⟨jv32, hv32⟩ := junk E9 v32
  obtain ⟨jv33, hv33⟩ := junk E9 v33
  obtain ⟨jv34, hv34⟩ := junk E9 v34
  obtain ⟨jv35, hv35⟩ := junk E9 v35
  obtain ⟨jv36, hv36⟩ := junk E9 v36
  obtain ⟨jv37, hv37⟩ := junk E9 v37
  obtain ⟨jv38, hv38⟩ := junk E9 v38
  obtain ⟨jv39, hv39⟩ := junk E9 v39
  obtain ⟨jv40, hv40⟩ := junk E9 v40
  obtain ⟨jv41, hv41⟩ := junk E9 v41
  obtain ⟨jv42, hv42⟩ := junk E9 v42
  obtain ⟨jv43, hv43⟩ := junk E9 v43
  obtain ⟨jv44, hv44⟩ := junk E9 v44
  obtain ⟨jv45, hv45⟩ := junk E9 v45
  obtain ⟨jv46, hv46⟩ := junk E9 v46
  obtain ⟨jv47, hv47⟩ := junk E9 v47
  obtain ⟨jv48, hv48⟩ := junk E9 v48
  obtain ⟨jv49, hv49⟩ := junk E9 v49
  obtain ⟨jv50, hv50⟩ := junk E9 v50
  obtain ⟨jv51, hv51⟩ := junk E9 v51
  obtain ⟨jv52, hv52⟩ := junk E9 v52
  obtain ⟨jv53, hv53⟩ := junk E9 v53
  obtain ⟨jv54, hv54⟩ := junk E9 v54
  obtain ⟨jv55, hv55⟩ := junk E9 v55
  obtain ⟨jv56, hv56⟩ := junk E9 v56
  obtain ⟨jv57, hv57⟩ := junk E9 v57
  obtain ⟨jv58, hv58⟩ := junk E9 v58
  obtain ⟨jv59, hv59⟩ := junk E9 v59
  obtain ⟨jv60, hv60⟩ := junk E9 v60
  obtain ⟨jv61, hv61⟩ := junk E9 v61
  obtain ⟨jv62, hv62⟩ := junk E9 v62
  obtain ⟨jv63, hv63⟩ := junk E9 v63
  obtain ⟨jv64, hv64⟩ := junk E9 v64
  obtain ⟨jv66, hv66⟩ := junk E9 v66
  obtain ⟨jv67, hv67⟩ := junk E9 v67
  obtain ⟨jv68, hv68⟩ := junk E9 v68
  obtain ⟨jv69, hv69⟩ := junk E9 v69
  obtain ⟨jv70, hv70⟩ := junk E9 v70
  obtain ⟨jv71, hv71⟩ := junk E9 v71
  obtain ⟨jv72, hv72⟩ := junk E9 v72
  obtain ⟨jv73, hv73⟩ := junk E9 v73
  obtain ⟨jv74, hv74⟩ := junk E9 v74
  obtain ⟨jv75, hv75⟩ := junk E9 v75
  obtain ⟨jv76, hv76⟩ := junk E9 v76
  obtain ⟨jv77, hv77⟩ := junk E9 v77
  obtain ⟨jv78, hv78⟩ := junk E9 v78
  obtain ⟨jv79, hv79⟩ := junk E9 v79
  obtain ⟨jv80, hv80⟩ := junk E9 v80
  obtain ⟨jv81, hv81⟩ := junk E9 v81
  obtain ⟨jv82, hv82⟩ := junk E9 v82
  obtain ⟨jv83, hv83⟩ := junk E9 v83
  obtain ⟨jv84, hv84⟩ := junk E9 v84
  obtain ⟨jv85, hv85⟩ := junk E9 v85
  obtain ⟨jv86, hv86⟩ := junk E9 v86
  obtain ⟨jv87, hv87⟩ := junk E9 v87
  obtain ⟨jv88, hv88⟩ := junk E9 v88
  obtain ⟨jv89, hv89⟩ := junk E9 v89
  obtain ⟨jv90, hv90⟩ := junk E9 v90
  obtain ⟨jv91, hv91⟩ := junk E9 v91
  obtain ⟨jv92, hv92⟩ := junk E9 v92
  obtain ⟨jv93, hv93⟩ := junk E9 v93
  obtain ⟨jv94, hv94⟩ := junk E9 v94
  obtain ⟨jv95, hv95⟩ := junk E9 v95
  obtain ⟨jv96, hv96⟩ := junk E9 v96
  obtain ⟨jv97, hv97⟩ := junk E9 v97
  obtain ⟨jv98, hv98⟩ := junk E9 v98
  obtain ⟨jv99, hv99⟩ := junk E9 v99
  obtain ⟨jv100, hv100⟩ := junk E9 v100
  obtain ⟨jv101, hv101⟩ := junk E9 v101
  obtain ⟨jv102, hv102⟩ := junk E9 v102
  obtain ⟨jv103, hv103⟩ := junk E9 v103
  obtain ⟨jv104, hv104⟩ := junk E9 v104
  obtain ⟨jv105, hv105⟩ := junk E9 v105
  obtain ⟨jv106, hv106⟩ := junk E9 v106
  obtain ⟨jv107, hv107⟩ := junk E9 v107
  obtain ⟨jv108, hv108⟩ := junk E9 v108
  obtain ⟨jv109, hv109⟩ := junk E9 v109
  obtain ⟨jv110, hv110⟩ := junk E9 v110
  obtain ⟨jv111, hv111⟩ := junk E9 v111
  obtain ⟨jv112, hv112⟩ := junk E9 v112
  have lL := (lr_cons hv0 (lr_cons hv1 (lr_cons hv2 (lr_cons hv3 (lr_cons rM (lr_cons hv5 (lr_cons hv6 (lr_cons hv7 (lr_cons hv8 (lr_cons hv9 (lr_cons hv10 (lr_cons r1 (lr_cons (.int .i64 0) (lr_cons hv13 (lr_cons hv14 (lr_cons hv15 (lr_cons hv16 (lr_cons hv17 (lr_cons hv18 (lr_cons hv19 (lr_cons hv20 (lr_cons hv21 (lr_cons hv22 (lr_cons hv23 (lr_cons hv24 (lr_cons hv25 (lr_cons hv26 (lr_cons hv27 (lr_cons hv28 (lr_cons hv29 (lr_cons hv30 (lr_cons hv31 (lr_cons hv32 (lr_cons hv33 (lr_cons hv34 (lr_cons hv35 (lr_cons hv36 (lr_cons hv37 (lr_cons hv38 (lr_cons hv39 (lr_cons hv40 (lr_cons hv41 (lr_cons hv42 (lr_cons hv43 (lr_cons hv44 (lr_cons hv45 (lr_cons hv46 (lr_cons hv47 (lr_cons hv48 (lr_cons hv49 (lr_cons hv50 (lr_cons hv51 (lr_cons hv52 (lr_cons hv53 (lr_cons hv54 (lr_cons hv55 (lr_cons hv56 (lr_cons hv57 (lr_cons hv58 (lr_cons hv59 (lr_cons hv60 (lr_cons hv61 (lr_cons hv62 (lr_cons hv63 (lr_cons hv64 (lr_cons (vr_pairB r2) (lr_cons hv66 (lr_cons hv67 (lr_cons hv68 (lr_cons hv69 (lr_cons hv70 (lr_cons hv71 (lr_cons hv72 (lr_cons hv73 (lr_cons hv74 (lr_cons hv75 (lr_cons hv76 (lr_cons hv77 (lr_cons hv78 (lr_cons hv79 (lr_cons hv80 (lr_cons hv81 (lr_cons hv82 (lr_cons hv83 (lr_cons hv84 (lr_cons hv85 (lr_cons hv86 (lr_cons hv87 (lr_cons hv88 (lr_cons hv89 (lr_cons hv90 (lr_cons hv91 (lr_cons hv92 (lr_cons hv93 (lr_cons hv94 (lr_cons hv95 (lr_cons hv96 (lr_cons hv97 (lr_cons hv98 (lr_cons hv99 (lr_cons hv100 (lr_cons hv101 (lr_cons hv102 (lr_cons hv103 (lr_cons hv104 (lr_cons hv105 (lr_cons hv106 (lr_cons hv107 (lr_cons hv108 (lr_cons hv109 (lr_cons hv110 (lr_cons hv111 (lr_cons hv112 lr_nil)))))))))))))))))))))))))))))))))))))))))))))))))))))))))))))))))))))))))))))))))))))))))))))))))))))))))))))))))
  exact ⟨E9, _, wl9, InCall.mid ⟨_, Try.func6⟩ lL p9.wr p9.big stops_item (fun τ => reach_region Try.func6 (stops_rest jv0 jv1 jv2 jv3 jv5 jv6 jv7 jv8 jv9 jv10 jv13 jv14 jv15 jv16 jv17 jv18 jv19 jv20 jv21 jv22 jv23 jv24 jv25 jv26 jv27 jv28 jv29 jv30 jv31 jv32 jv33 jv34 jv35 jv36 jv37 jv38 jv39 jv40 jv41 jv42 jv43 jv44 jv45 jv46 jv47 jv48 jv49 jv50 jv51 jv52 jv53 jv54 jv55 jv56 jv57 jv58 jv59 jv60 jv61 jv62 jv63 jv64 jv66 jv67 jv68 jv69 jv70 jv71 jv72 jv73 jv74 jv75 jv76 jv77 jv78 jv79 jv80 jv81 jv82 jv83 jv84 jv85 jv86 jv87 jv88 jv89 jv90 jv91 jv92 jv93 jv94 jv95 jv96 jv97 jv98 jv99 jv100 jv101 jv102 jv103 jv104 jv105 jv106 jv107 jv108 jv109 jv110 jv111 jv112 dM a' b' c' u1' u2' g cr te hl hBm N0 Aa PA pr LG hO hN0 hN1 hgE hn2 _ _ (wl9.tp τ) kM hm9 h19 h29)), p9.sh⟩
set_option maxRecDepth 100000 in
set_option maxHeartbeats 8000000 in
theorem stops_p2 (g : Gm) (cr te : ByteArray) (hl : Hl) (hBm : BmS g hl cr te) (N0 Aa PA : Nat) (pr : Nat → Nat → Int) (LG : List Nat) (hO : OwnG g hl N0 Aa PA pr LG) (hN0 : gmN g N0 = g) (hN1 : N0 < 26 ^ g.n) (hgE : gE g = 0) (hn2 : g.n ≤ 2) (v : Nat → Value) (bM k : Nat) (hk : 1 ≤ k ∧ k ≤ 16) (hfit : ∀ r, r < g.n → g.nl r * 8 ≤ 140737488355328) (hrl : g.rl * 8 ≤ 140737488355328) (n : Nat) (a b c u1 : Value) (A : Array Value) (hA0 : A = mac a b c g.rf g.pl) (hW0 : bwE g cr.data.toList te.data.toList = 0) (w : World) (hM : w.heap[bM]? = some (.cells A 27 (0, 0))) (ha : WhR w a g.n g.wi g.nl g.no) (hb : NumsAt w b g.rl g.ri) (hc : NumsAt w c g.sl g.st) (ra : Rt w a) (rb : Rt w b) (rc : Rt w c) (hu1 : HsC w u1 (hl.fnd (26 ^ g.n)) hl) {gs : Array Goroutine} {t : Trace} {q : Nat → Nat} (i1 : gs[0]? = some (G ((base 13).at ⟨#[.agg A, .string cr, .string te, .int .i64 (k : Nat), undef, undef, undef, undef, undef, undef, undef, undef, undef, undef, undef, undef, undef, undef, undef, undef, undef, undef, undef, undef, undef, undef, undef, undef], []⟩ [.code bB]) ((base 6).at ⟨#[.agg A, .string cr, .int .i64 (n : Nat), .int .i64 (k : Nat), .pointer (some ⟨bM, 0, none⟩), v 5, v 6, v 7, .bool false, .string te, v 10, u1, .int .i64 0, v 13, v 14, v 15, v 16, v 17, v 18, v 19, v 20, v 21, v 22, v 23, v 24, v 25, v 26, v 27, v 28, v 29, v 30, v 31, v 32, v 33, v 34, v 35, v 36, v 37, v 38, v 39, v 40, v 41, v 42, v 43, v 44, v 45, v 46, v 47, v 48, v 49, v 50, v 51, v 52, v 53, v 54, v 55, v 56, v 57, v 58, v 59, v 60, .agg A, .string cr, .string te, .int .i64 (k : Nat), v 65, v 66, v 67, v 68, v 69, v 70, v 71, v 72, v 73, v 74, v 75, v 76, v 77, v 78, v 79, v 80, v 81, v 82, v 83, v 84, v 85, v 86, v 87, v 88, v 89, v 90, v 91, v 92, v 93, v 94, v 95, v 96, v 97, v 98, v 99, v 100, v 101, v 102, v 103, v 104, v 105, v 106, v 107, v 108, v 109, v 110, v 111, v 112], []⟩ [.inRegion nO7 (4 :: List.range' 5 5), .code nT8] :: []))) (Q1 : Qt Try.prog gs t q w.heap.size) (sl : Option (Nat × Nat)) :
    ∃ N gs' w' sl' t' q' g', runNT Try.prog N (crowd gs w sl) t = (.next (crowd gs' w' sl'), t') ∧ gs'[0]? = some g' ∧ g'.status = .running ∧ (∀ W, stepG Try.prog true g' W = .ended (.done (.bool true)) W #[]) ∧ Qt Try.prog gs' t' q' w'.heap.size ∧ Kept w w' := by
  have hG : Try.prog.globals.size ≤ Fns.G := Nat.le_refl _
  have hE : swE g (k : Int) = 0 := swE_ofB hgE hn2 hk
  obtain ⟨N2, gs2, w2, sl2, t2, q2, u2, r2, i2, hu2, k2, Q2⟩ := bsearch_call a b c g cr te hl hBm hW0 k hE hfit hrl A hA0 w ha hb hc ra rb rc _ _ i1 Q1 sl
  have d2 : w2.heap[bM]? = some (.cells (mac a b c g.rf g.pl) 27 (0, 0)) := by rw [← hA0]; exact (k2.1 _ (heap_lt hM)).trans hM
  obtain ⟨E, gl, wl, hin, hsh⟩ := stops_ghost (.agg A) (.string cr) (.int .i64 (n : Nat)) (.int .i64 (k : Nat)) (v 5) (v 6) (v 7) (.bool false) (.string te) (v 10) (v 13) (v 14) (v 15) (v 16) (v 17) (v 18) (v 19) (v 20) (v 21) (v 22) (v 23) (v 24) (v 25) (v 26) (v 27) (v 28) (v 29) (v 30) (v 31) (v 32) (v 33) (v 34) (v 35) (v 36) (v 37) (v 38) (v 39) (v 40) (v 41) (v 42) (v 43) (v 44) (v 45) (v 46) (v 47) (v 48) (v 49) (v 50) (v 51) (v 52) (v 53) (v 54) (v 55) (v 56) (v 57) (v 58) (v 59) (v 60) (.agg A) (.string cr) (.string te) (.int .i64 (k : Nat)) (v 66) (v 67) (v 68) (v 69) (v 70) (v 71) (v 72) (v 73) (v 74) (v 75) (v 76) (v 77) (v 78) (v 79) (v 80) (v 81) (v 82) (v 83) (v 84) (v 85) (v 86) (v 87) (v 88) (v 89) (v 90) (v 91) (v 92) (v 93) (v 94) (v 95) (v 96) (v 97) (v 98) (v 99) (v 100) (v 101) (v 102) (v 103) (v 104) (v 105) (v 106) (v 107) (v 108) (v 109) (v 110) (v 111) (v 112) bM a b c u1 u2 g cr te hl hBm N0 Aa PA pr LG hO hN0 hN1 hgE hn2 _ _ w2 d2 (whr_ag k2.1 ha) (nums_ag k2.1 hb) (nums_ag k2.1 hc) (rt_ag k2.1 ra) (rt_ag k2.1 rb) (rt_ag k2.1 rc) (halts_ag k2.1 hu1) hu2
  obtain ⟨N3, gs3, w3, sl3, t3, q3, E3, gl3, wl3, g3, r3, z3, i3, in3, st3, la3, fc3, Q3⟩ := beside_stop (sl := sl2) hG fd_fnsCode i2 hin Q2
  obtain ⟨v', v'', wl4, hp, vr, hs, hend⟩ := in3.atEnd st3 (fn0 := 6) (t := 8) (la3.trans rfl) Try.func6 rfl (by kernel_rfl)
  subst hp
  cases vr
  have k3 : Kept w2 w3 := ⟨fun b hb => fc3.keep b hb (fun b' s e => by have := hsh _ _ _ _ e; cases this), fc3.os, fc3.output⟩
  exact ⟨N2 + N3, gs3, w3, sl3, t3, q3, g3, by rw [runNT_add, r2]; exact r3, i3, hs, hend, Q3, keptB_trans k2 k3⟩
set_option maxRecDepth 100000 in
set_option maxHeartbeats 8000000 in
theorem stops_p1 (g : Gm) (cr te : ByteArray) (hl : Hl) (hBm : BmS g hl cr te) (N0 Aa PA : Nat) (pr : Nat → Nat → Int) (LG : List Nat) (hO : OwnG g hl N0 Aa PA pr LG) (hN0 : gmN g N0 = g) (hN1 : N0 < 26 ^ g.n) (hgE : gE g = 0) (hn2 : g.n ≤ 2) (v : Nat → Value) (bM n k : Nat) (hn : 1 ≤ n ∧ n ≤ 16) (hk : 1 ≤ k ∧ k ≤ 16) (hfit : ∀ r, r < g.n → g.nl r * 8 ≤ 140737488355328) (hrl : g.rl * 8 ≤ 140737488355328) (a b c : Value) (A : Array Value) (hA0 : A = mac a b c g.rf g.pl) (hW0 : bwE g cr.data.toList te.data.toList = 0) (w : World) (hM : w.heap[bM]? = some (.cells A 27 (0, 0))) (ha : WhR w a g.n g.wi g.nl g.no) (hb : NumsAt w b g.rl g.ri) (hc : NumsAt w c g.sl g.st) (ra : Rt w a) (rb : Rt w b) (rc : Rt w c) {gs : Array Goroutine} {t : Trace} {q : Nat → Nat} (i1 : gs[0]? = some (G ((base 13).at ⟨#[.agg A, .string cr, .string te, .int .i64 (n : Nat), undef, undef, undef, undef, undef, undef, undef, undef, undef, undef, undef, undef, undef, undef, undef, undef, undef, undef, undef, undef, undef, undef, undef, undef], []⟩ [.code bB]) ((base 6).at ⟨#[.agg A, .string cr, .int .i64 (n : Nat), .int .i64 (k : Nat), .pointer (some ⟨bM, 0, none⟩), v 5, v 6, v 7, .bool false, .string te, v 10, v 11, v 12, v 13, v 14, v 15, v 16, v 17, v 18, v 19, v 20, v 21, v 22, v 23, v 24, v 25, v 26, v 27, v 28, v 29, v 30, v 31, v 32, v 33, v 34, v 35, v 36, v 37, v 38, v 39, v 40, v 41, v 42, v 43, v 44, v 45, v 46, v 47, v 48, v 49, v 50, v 51, v 52, .agg A, .string cr, .string te, .int .i64 (n : Nat), v 57, v 58, v 59, v 60, v 61, v 62, v 63, v 64, v 65, v 66, v 67, v 68, v 69, v 70, v 71, v 72, v 73, v 74, v 75, v 76, v 77, v 78, v 79, v 80, v 81, v 82, v 83, v 84, v 85, v 86, v 87, v 88, v 89, v 90, v 91, v 92, v 93, v 94, v 95, v 96, v 97, v 98, v 99, v 100, v 101, v 102, v 103, v 104, v 105, v 106, v 107, v 108, v 109, v 110, v 111, v 112], []⟩ [.inRegion nO6 (4 :: List.range' 5 5), .code nT7] :: []))) (Q1 : Qt Try.prog gs t q w.heap.size) (sl : Option (Nat × Nat)) :
    ∃ N gs' w' sl' t' q' g', runNT Try.prog N (crowd gs w sl) t = (.next (crowd gs' w' sl'), t') ∧ gs'[0]? = some g' ∧ g'.status = .running ∧ (∀ W, stepG Try.prog true g' W = .ended (.done (.bool true)) W #[]) ∧ Qt Try.prog gs' t' q' w'.heap.size ∧ Kept w w' := by
  have hE : swE g (n : Int) = 0 := swE_ofB hgE hn2 hn
  have hA : A.size = 55 := by rw [hA0]; exact mac_size ..
  obtain ⟨N2, gs2, w2, sl2, t2, q2, u1, r2, i2, hu1, k2, Q2⟩ := bsearch_call a b c g cr te hl hBm hW0 n hE hfit hrl A hA0 w ha hb hc ra rb rc _ _ i1 Q1 sl
  have d2 : w2.heap[bM]? = some (.cells A 27 (0, 0)) := (k2.1 _ (heap_lt hM)).trans hM
  obtain ⟨mu3, G3⟩ := st_d A hA cr te n k bM u1 (fun i => match i with | 53 => .agg A | 54 => .string cr | 55 => .string te | 56 => .int .i64 (n : Nat) | i => v i) [] w2.heap w2.os w2.output w2 ⟨rfl, rfl, rfl⟩ d2
  have i2' : gs2[0]? = some (G ((base 6).at ⟨#[.agg A, .string cr, .int .i64 (n : Nat), .int .i64 (k : Nat), .pointer (some ⟨bM, 0, none⟩), v 5, v 6, v 7, .bool false, .string te, v 10, v 11, v 12, v 13, v 14, v 15, v 16, v 17, v 18, v 19, v 20, v 21, v 22, v 23, v 24, v 25, v 26, v 27, v 28, v 29, v 30, v 31, v 32, v 33, v 34, v 35, v 36, v 37, v 38, v 39, v 40, v 41, v 42, v 43, v 44, v 45, v 46, v 47, v 48, v 49, v 50, v 51, v 52, .agg A, .string cr, .string te, .int .i64 (n : Nat), .tuple #[u1, .int .i64 0], v 58, v 59, v 60, v 61, v 62, v 63, v 64, v 65, v 66, v 67, v 68, v 69, v 70, v 71, v 72, v 73, v 74, v 75, v 76, v 77, v 78, v 79, v 80, v 81, v 82, v 83, v 84, v 85, v 86, v 87, v 88, v 89, v 90, v 91, v 92, v 93, v 94, v 95, v 96, v 97, v 98, v 99, v 100, v 101, v 102, v 103, v 104, v 105, v 106, v 107, v 108, v 109, v 110, v 111, v 112], []⟩ [.inRegion nO6 [5, 6, 7, 8, 9], .code nT7]) []) := i2
  obtain ⟨N3, gs3, w3, sl3, t3, q3, g3, r3, z3, i3, h3, Q3⟩ := beside_walk (sl := sl2) (fun _ _ _ h => h) (fun g w h => by obtain ⟨_, e, _⟩ := h; rw [e]; rfl) i2' G3 Q2
  obtain ⟨v3, rfl, I3⟩ := h3
  have k3 : Kept w w3 := ⟨fun b hb => by rw [I3.1]; exact k2.1 b hb, by rw [I3.2.1]; exact k2.2.1, by rw [I3.2.2]; exact k2.2.2⟩
  have o3 : ∀ b, b < w2.heap.size → w3.heap[b]? = w2.heap[b]? := fun b hb => by rw [I3.1]
  obtain ⟨N4, gs4, w4, sl4, t4, q4, g4, r4, c2, c3, c4, c5, c6⟩ := stops_p2 g cr te hl hBm N0 Aa PA pr LG hO hN0 hN1 hgE hn2 v3 bM k hk hfit hrl n a b c u1 A hA0 hW0 w3 (by rw [I3.1]; exact d2) (whr_ag k3.1 ha) (nums_ag k3.1 hb) (nums_ag k3.1 hc) (rt_ag k3.1 ra) (rt_ag k3.1 rb) (rt_ag k3.1 rc) (halts_ag o3 hu1) i3 Q3 sl3
  refine ⟨N2 + (N3 + N4), gs4, w4, sl4, t4, q4, g4, ?_, c2, c3, c4, c5, keptB_trans k3 c6⟩
  rw [runNT_add, r2]
  show runNT Try.prog (N3 + N4) (crowd gs2 w2 sl2) t2 = _
  rw [runNT_add, r3]
  exact r4
end Go.Proofs.Ytbbpbcmpemmgjaa
