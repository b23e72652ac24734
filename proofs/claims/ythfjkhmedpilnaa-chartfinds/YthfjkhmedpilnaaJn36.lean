/-
  Several texts, joined: FdH, FdI, FdJ.
-/
import Derived.Test.YthfjkhmedpilnaaJn35
import Derived.Test.YthfjkhmedpilnaaJn15
import Derived.DuoClaim
/-
  From the join on to the law's end, in company.
-/
namespace Go.Proofs.Ythfjkhmedpilnaa
open Go.RowKit PK Vg Go.Conc Cs
theorem lsa_keep {E E' : Env} {wl wl' : World} (h : CpLe E E' wl wl') {v : Value} {L : List Nat} {m : Nat} (hv : LsA wl v L m) : LsA wl' v L m := by
  rcases hv with hv | ⟨b, o, c, vs, h1, h2, h3, h4, h5⟩
  · exact .inl hv
  · exact .inr ⟨b, o, c, vs, h1, h2, fun j u hj => h.cell (h3 j u hj), h4, fun j u N a b => cp_nums_keep h (h5 j u N a b)⟩
theorem mac_keep {E E' : Env} {wl wl' : World} (h : CpLe E E' wl wl') {v : Value} {g : Gm} (hv : MacAt wl v g) : MacAt wl' v g := by
  obtain ⟨a, b, c, e, h1, h2, h3⟩ := hv
  exact ⟨a, b, c, e, cp_wheels_keep h h1, cp_nums_keep h h2, cp_nums_keep h h3⟩
section
variable [Fns]
variable {P : Program} {E : Env} {wl w : World}
theorem lr_nil : LR E ([] : List Value).toArray ([] : List Value).toArray := ⟨rfl, fun i u v hu => by simp at hu⟩
theorem lr_cons {u v : Value} {l l' : List Value} (h : VR E u v) (t : LR E l.toArray l'.toArray) : LR E (u :: l).toArray (v :: l').toArray := by
  refine ⟨by have := t.size; simp at this ⊢; exact this, fun i a b ha hb => ?_⟩
  cases i with
  | zero => simp at ha hb; subst ha hb; exact h
  | succ i => exact t.at_ i a b (by simpa using ha) (by simpa using hb)
theorem cp_lists {TJ : TypeId} (hJ : P.info? TJ = none) (V : Nat → Value) (L : Nat → List Nat) (m : Nat) : ∀ (n : Nat) {E : Env} {wl : World}, Cp P E wl w → (∀ r, r < n → LsC w (V r) (L r) m) → ∃ (E' : Env) (wl' : World) (Ul : Nat → Value), Cp P E' wl' w ∧ CpLe E E' wl wl' ∧ ∀ r, r < n → VR E' (Ul r) (V r) ∧ LsA wl' (Ul r) (L r) m
  | 0, E, wl, h, _ => ⟨E, wl, V, h, CpLe.refl _ _, fun r hr => absurd hr (Nat.not_lt_zero _)⟩
  | n + 1, E, wl, h, hR => by
    obtain ⟨E1, wl1, Ul, h1, h2, h3⟩ := cp_lists hJ V L m n h fun r hr => hR r (Nat.lt_succ_of_lt hr)
    obtain ⟨E2, wl2, u, g1, g2, g3, g4⟩ := cp_list h1 hJ (hR n (Nat.lt_succ_self n))
    refine ⟨E2, wl2, fun r => if r = n then u else Ul r, g1, h2.trans g2, fun r hr => ?_⟩
    by_cases e : r = n
    · subst e
      simp only [if_true]
      exact ⟨g3, g4⟩
    · simp only [if_neg e]
      obtain ⟨a, b⟩ := h3 r (by omega)
      exact ⟨a.mono g2.le, lsa_keep g2 b⟩
theorem cp_whole (h : Cp P E wl w) {TJ : TypeId} (hJ : P.info? TJ = none) {q : Nat} {y : Array Value} {T' : TypeId} {fr : Nat × Nat} (hq : w.heap[q]? = some (.cells y T' fr)) (x : Array Value) (hx : ∀ (i : Nat) u, x[i]? = some u → ∃ v, y[i]? = some v ∧ VR E u v) :
    ∃ E' wl' b, Cp P E' wl' w ∧ CpLe E E' wl wl' ∧ VR E' (.pointer (some ⟨b, 0, none⟩)) (.pointer (some ⟨q, 0, none⟩)) ∧ wl'.heap[b]? = some (.cells x TJ (0, x.size)) := by
  obtain ⟨E', c1, c2, c3, _⟩ := h.row hJ (s := 0) hq x hx
  exact ⟨E', _, wl.heap.size, c1, c2, .ptr (c3 0), heap_alloc_new wl _⟩
end
theorem rest_item1 : [Item.code Cs.eT5].all (itemOk Try.prog) = true := by kernel_rfl
theorem rest_item2 : (pend [Item.inRegion fO1 (3 :: List.range' 4 4), .code .ret]).all (itemOk Try.prog) = true := by kernel_rfl
theorem rest_item3 : (pend [Item.inRegion lO1 (3 :: List.range' 4 5), .code lT2]).all (itemOk Try.prog) = true := by kernel_rfl
set_option maxRecDepth 100000 in
set_option maxHeartbeats 4000000 in
theorem rest_ghost (v0 v1 v2 v3 v4 v5 v6 v7 v8 v10 v11 v12 v13 v14 v15 v16 v17 v18 v19 v20 v21 v22 v23 v24 v25 v26 v27 v28 v29 v30 v31 v32 v33 v34 v35 v36 v37 v38 v39 v40 v41 v42 v43 v44 v45 v46 v47 v48 v49 v50 v51 v52 x0 x1 x2 x3 x4 x5 x6 x7 x8 x9 x10 x11 x12 x13 y0 y1 y5 y6 y7 y8 y9 y10 y11 y12 y13 y14 y15 y16 y17 y18 y19 y20 y21 y22 y23 y24 y25 y26 y27 y28 y29 y30 y31 y32 : Value) (bF bM bT : Nat) (V : Nat → Value) (a b c : Value) (g : Gm) (U : Nat → Value) (m : Nat → Nat) (fb : Nat → Nat → Int) (h : Int) (hE : swE g h = 0) (TJ TF TM TT : TypeId) (fF fM fT : Nat × Nat) (w : World) (hJ : Try.prog.info? TJ = none) (hF : w.heap[bF]? = some (.cells (tab 26 V) TF fF)) (hM : w.heap[bM]? = some (.cells (mac a b c g.rf g.pl) TM fM)) (hT : w.heap[bT]? = some (.cells (tab 3 U) TT fT)) (ha : WhR w a g.n g.wi g.nl g.no) (hb : NumsAt w b g.rl g.ri) (hc : NumsAt w c g.sl g.st) (ra : Rt w a) (rb : Rt w b) (rc : Rt w c) (hU : ∀ i, i < 3 → NumsAt w (U i) (m i) (fb i) ∧ Rt w (U i)) (hV : ∀ k, k < 26 → LsC w (V k) (hitsTo g m fb k (26 ^ (g.n - 1))) g.n) (cs : List Frame) :
    ∃ E gl wl, InCall Try.prog (fun v _ => v = .bool true) cs E gl wl (G (mkF 19 #[v0, v1, v2, v3, v4, v5, v6, v7, v8, .pointer (some ⟨bF, 0, none⟩), v10, v11, v12, v13, v14, v15, v16, v17, v18, v19, v20, v21, v22, v23, v24, v25, v26, v27, v28, v29, v30, v31, v32, v33, v34, v35, v36, v37, v38, v39, v40, v41, v42, v43, v44, v45, v46, v47, v48, v49, v50, v51, v52] [.code eT5] .run) (mkF 7 #[x0, x1, x2, x3, x4, x5, x6, x7, x8, x9, x10, x11, x12, x13] [.inRegion fO1 (3 :: List.range' 4 4), .code .ret] .run :: mkF 3 #[y0, y1, .int .i64 h, .pointer (some ⟨bM, 0, none⟩), .pointer (some ⟨bT, 0, none⟩), y5, y6, y7, y8, y9, y10, y11, y12, y13, y14, y15, y16, y17, y18, y19, y20, y21, y22, y23, y24, y25, y26, y27, y28, y29, y30, y31, y32] [.inRegion lO1 (3 :: List.range' 4 5), .code lT2] .run :: cs)) w ∧ ∀ b q s o, E b = some (q, s, o) → o = false := by
  obtain ⟨E1, wl1, a', b', c', p1, q1, ra', rb', rc', hm1⟩ := cp_mac (Cp.nil (P := Try.prog) w) hJ ha hb hc ra rb rc
  obtain ⟨E2, wl2, U', p2, q2, hU2⟩ := cp_numss hJ U m fb 3 p1 hU
  obtain ⟨E3, wl3, V', p3, q3, hV3⟩ := cp_lists hJ V (fun k => hitsTo g m fb k (26 ^ (g.n - 1))) g.n 26 p2 hV
  have hlm : LR E3 (mac a' b' c' g.rf g.pl) (mac a b c g.rf g.pl) := lr_mac ((ra'.mono q2.le).mono q3.le) ((rb'.mono q2.le).mono q3.le) ((rc'.mono q2.le).mono q3.le)
  obtain ⟨E4, wl4, dM, p4, q4, rM, kM⟩ := cp_whole p3 hJ hM (mac a' b' c' g.rf g.pl) (fun i u hu => hlm.get hu)
  have htab : ∀ (n : Nat) (A B : Nat → Value) (E : Env), (∀ i, i < n → VR E (A i) (B i)) → ∀ (i : Nat) u, (tab n A)[i]? = some u → ∃ v, (tab n B)[i]? = some v ∧ VR E u v := fun n A B E hh i u hu => by
    have hi : i < n := by have := (Array.getElem?_eq_some_iff.1 hu).1; rwa [tab_size] at this
    rw [tab_get _ hi] at hu
    cases hu
    exact ⟨_, tab_get _ hi, hh i hi⟩
  obtain ⟨E5, wl5, dT, p5, q5, rT, kT⟩ := cp_whole p4 hJ hT (tab 3 U') (htab 3 U' U E4 fun i hi => (((hU2 i hi).1.mono q3.le).mono q4.le))
  obtain ⟨E9, wl9, dF, p9, q9, rF, kF⟩ := cp_whole p5 hJ hF (tab 26 V') (htab 26 V' V E5 fun i hi => (((hV3 i hi).1.mono q4.le).mono q5.le))
  have hm9 := mac_keep q9 (mac_keep q5 (mac_keep q4 (mac_keep q3 (mac_keep q2 hm1))))
  have hU9 : TsAt wl9 U' m fb := fun i hi => cp_nums_keep q9 (cp_nums_keep q5 (cp_nums_keep q4 (cp_nums_keep q3 (hU2 i hi).2)))
  have hV9 := fun k (hk : k < 26) => lsa_keep q9 (lsa_keep q5 (lsa_keep q4 (hV3 k hk).2))
  have kM9 := (q9.old dM (by have := (Array.getElem?_eq_some_iff.1 kM).1; have := q5.size; omega)).trans ((q5.old dM (Array.getElem?_eq_some_iff.1 kM).1).trans kM)
  have kT9 := (q9.old dT (Array.getElem?_eq_some_iff.1 kT).1).trans kT
  have rM9 := (rM.mono q5.le).mono q9.le
  have rT9 := rT.mono q9.le
  obtain ⟨jv0, hv0⟩ := junk E9 v0
  obtain ⟨jv1, hv1⟩ := junk E9 v1
  obtain ⟨jv2, hv2⟩ := junk E9 v2
  obtain ⟨jv3, hv3⟩ := junk E9 v3
  obtain ⟨jv4, hv4⟩ := junk E9 v4
  obtain ⟨jv5, hv5⟩ := junk E9 v5
  obtain ⟨jv6, hv6⟩ := junk E9 v6
  obtain ⟨jv7, hv7⟩ := junk E9 v7
  obtain ⟨jv8, hv8⟩ := junk E9 v8
  obtain ⟨jv10, hv10⟩ := junk E9 v10
  obtain ⟨jv11, hv11⟩ := junk E9 v11
  obtain ⟨jv12, hv12⟩ := junk E9 v12
  obtain ⟨jv13, hv13⟩ := junk E9 v13
  obtain ⟨jv14, hv14⟩ := junk E9 v14
  obtain ⟨jv15, hv15⟩ := junk E9 v15
  obtain ⟨jv16, hv16⟩ := junk E9 v16
  obtain ⟨jv17, hv17⟩ := junk E9 v17
  obtain ⟨jv18, hv18⟩ := junk E9 v18
  obtain ⟨jv19, hv19⟩ := junk E9 v19
  obtain ⟨jv20, hv20⟩ := junk E9 v20
  obtain ⟨jv21, hv21⟩ := junk E9 v21
  obtain ⟨jv22, hv22⟩ := junk E9 v22
  obtain ⟨jv23, hv23⟩ := junk E9 v23
  obtain ⟨jv24, hv24⟩ := junk E9 v24
  obtain ⟨jv25, hv25⟩ := junk E9 v25
  obtain ⟨jv26, hv26⟩ := junk E9 v26
  obtain ⟨jv27, hv27⟩ := junk E9 v27
  obtain ⟨jv28, hv28⟩ := junk E9 v28
  obtain ⟨jv29, hv29⟩ := junk E9 v29
  obtain ⟨jv30, hv30⟩ := junk E9 v30
  obtain ⟨jv31, hv31⟩ := junk E9 v31
  obtain ⟨jv32, hv32⟩ := junk E9 v32
  obtain ⟨jv33, hv33⟩ := junk E9 v33
  obtain ⟨jv34, hv34⟩ := junk E9 v34
  obtain ⟨jv35, hv35⟩ := junk E9 v35
  obtain ⟨jv36, hv36⟩ := junk E9 v36
  obtain ⟨jv37, hv37⟩ := junk E9 v37
  obtain ⟨jv38, hv38⟩ := junk E9 v38
  obtain ⟨jv39, hv39⟩ := junk E9 v39
  obtain ⟨jv40, hv40⟩ := junk E9 v40
  obtain ⟨jv41, hv41⟩ := junk E9 v41
  obtain ⟨jv42, hv42⟩ := junk E9 v42
  obtain ⟨jv43, hv43⟩ := junk E9 v43
  obtain ⟨jv44, hv44⟩ := junk E9 v44
  obtain ⟨jv45, hv45⟩ := junk E9 v45
  obtain ⟨jv46, hv46⟩ := junk E9 v46
  obtain ⟨jv47, hv47⟩ := junk E9 v47
  obtain ⟨jv48, hv48⟩ := junk E9 v48
  obtain ⟨jv49, hv49⟩ := junk E9 v49
  obtain ⟨jv50, hv50⟩ := junk E9 v50
  obtain ⟨jv51, hv51⟩ := junk E9 v51
  obtain ⟨jv52, hv52⟩ := junk E9 v52
  obtain ⟨jx0, hx0⟩ := junk E9 x0
  obtain ⟨jx1, hx1⟩ := junk E9 x1
  obtain ⟨jx2, hx2⟩ := junk E9 x2
  obtain ⟨jx3, hx3⟩ := junk E9 x3
  obtain ⟨jx4, hx4⟩ := junk E9 x4
  obtain ⟨jx5, hx5⟩ := junk E9 x5
  obtain ⟨jx6, hx6⟩ := junk E9 x6
  obtain ⟨jx7, hx7⟩ := junk E9 x7
  obtain ⟨jx8, hx8⟩ := junk E9 x8
  obtain ⟨jx9, hx9⟩ := junk E9 x9
  obtain ⟨jx10, hx10⟩ := junk E9 x10
  obtain ⟨jx11, hx11⟩ := junk E9 x11
  obtain ⟨jx12, hx12⟩ := junk E9 x12
  obtain ⟨jx13, hx13⟩ := junk E9 x13
  obtain ⟨jy0, hy0⟩ := junk E9 y0
  obtain ⟨jy1, hy1⟩ := junk E9 y1
  obtain ⟨jy5, hy5⟩ := junk E9 y5
  obtain ⟨jy6, hy6⟩ := junk E9 y6
  obtain ⟨jy7, hy7⟩ := junk E9 y7
  obtain ⟨jy8, hy8⟩ := junk E9 y8
  obtain ⟨jy9, hy9⟩ := junk E9 y9
  obtain ⟨jy10, hy10⟩ := junk E9 y10
  obtain ⟨jy11, hy11⟩ := junk E9 y11
  obtain ⟨jy12, hy12⟩ := junk E9 y12
  obtain ⟨jy13, hy13⟩ := junk E9 y13
  obtain ⟨jy14, hy14⟩ := junk E9 y14
  obtain ⟨jy15, hy15⟩ := junk E9 y15
  obtain ⟨jy16, hy16⟩ := junk E9 y16
  obtain ⟨jy17, hy17⟩ := junk E9 y17
  obtain ⟨jy18, hy18⟩ := junk E9 y18
  obtain ⟨jy19, hy19⟩ := junk E9 y19
  obtain ⟨jy20, hy20⟩ := junk E9 y20
  obtain ⟨jy21, hy21⟩ := junk E9 y21
  obtain ⟨jy22, hy22⟩ := junk E9 y22
  obtain ⟨jy23, hy23⟩ := junk E9 y23
  obtain ⟨jy24, hy24⟩ := junk E9 y24
  obtain ⟨jy25, hy25⟩ := junk E9 y25
  obtain ⟨jy26, hy26⟩ := junk E9 y26
  obtain ⟨jy27, hy27⟩ := junk E9 y27
  obtain ⟨jy28, hy28⟩ := junk E9 y28
  obtain ⟨jy29, hy29⟩ := junk E9 y29
  obtain ⟨jy30, hy30⟩ := junk E9 y30
  obtain ⟨jy31, hy31⟩ := junk E9 y31
  obtain ⟨jy32, hy32⟩ := junk E9 y32
  have lE := (lr_cons hv0 (lr_cons hv1 (lr_cons hv2 (lr_cons hv3 (lr_cons hv4 (lr_cons hv5 (lr_cons hv6 (lr_cons hv7 (lr_cons hv8 (lr_cons rF (lr_cons hv10 (lr_cons hv11 (lr_cons hv12 (lr_cons hv13 (lr_cons hv14 (lr_cons hv15 (lr_cons hv16 (lr_cons hv17 (lr_cons hv18 (lr_cons hv19 (lr_cons hv20 (lr_cons hv21 (lr_cons hv22 (lr_cons hv23 (lr_cons hv24 (lr_cons hv25 (lr_cons hv26 (lr_cons hv27 (lr_cons hv28 (lr_cons hv29 (lr_cons hv30 (lr_cons hv31 (lr_cons hv32 (lr_cons hv33 (lr_cons hv34 (lr_cons hv35 (lr_cons hv36 (lr_cons hv37 (lr_cons hv38 (lr_cons hv39 (lr_cons hv40 (lr_cons hv41 (lr_cons hv42 (lr_cons hv43 (lr_cons hv44 (lr_cons hv45 (lr_cons hv46 (lr_cons hv47 (lr_cons hv48 (lr_cons hv49 (lr_cons hv50 (lr_cons hv51 (lr_cons hv52 lr_nil)))))))))))))))))))))))))))))))))))))))))))))))))))))
  have lF := (lr_cons hx0 (lr_cons hx1 (lr_cons hx2 (lr_cons hx3 (lr_cons hx4 (lr_cons hx5 (lr_cons hx6 (lr_cons hx7 (lr_cons hx8 (lr_cons hx9 (lr_cons hx10 (lr_cons hx11 (lr_cons hx12 (lr_cons hx13 lr_nil))))))))))))))
  have lL := (lr_cons hy0 (lr_cons hy1 (lr_cons (.int .i64 h) (lr_cons rM9 (lr_cons rT9 (lr_cons hy5 (lr_cons hy6 (lr_cons hy7 (lr_cons hy8 (lr_cons hy9 (lr_cons hy10 (lr_cons hy11 (lr_cons hy12 (lr_cons hy13 (lr_cons hy14 (lr_cons hy15 (lr_cons hy16 (lr_cons hy17 (lr_cons hy18 (lr_cons hy19 (lr_cons hy20 (lr_cons hy21 (lr_cons hy22 (lr_cons hy23 (lr_cons hy24 (lr_cons hy25 (lr_cons hy26 (lr_cons hy27 (lr_cons hy28 (lr_cons hy29 (lr_cons hy30 (lr_cons hy31 (lr_cons hy32 lr_nil)))))))))))))))))))))))))))))))))
  exact ⟨E9, _, wl9, InCall.mids ⟨_, Try.func19⟩ lE p9.wr p9.big rest_item1 (.cons ⟨_, Try.func7⟩ lF rest_item2 (.cons ⟨_, Try.func3⟩ lL rest_item3 .base)) (fun τ => finds_rest jv0 jv1 jv2 jv3 jv4 jv5 jv6 jv7 jv8 jv10 jv11 jv12 jv13 jv14 jv15 jv16 jv17 jv18 jv19 jv20 jv21 jv22 jv23 jv24 jv25 jv26 jv27 jv28 jv29 jv30 jv31 jv32 jv33 jv34 jv35 jv36 jv37 jv38 jv39 jv40 jv41 jv42 jv43 jv44 jv45 jv46 jv47 jv48 jv49 jv50 jv51 jv52 jx0 jx1 jx2 jx3 jx4 jx5 jx6 jx7 jx8 jx9 jx10 jx11 jx12 jx13 jy0 jy1 jy5 jy6 jy7 jy8 jy9 jy10 jy11 jy12 jy13 jy14 jy15 jy16 jy17 jy18 jy19 jy20 jy21 jy22 jy23 jy24 jy25 jy26 jy27 jy28 jy29 jy30 jy31 jy32 dF dM dT V' a' b' c' g U' m fb h hE TJ TJ TJ _ _ _ (wl9.tp τ) kF kM9 kT9 hm9 hU9 hV9 _), p9.sh⟩
end Go.Proofs.Ythfjkhmedpilnaa

/-
  A job of chart.Find, in company.
-/
namespace Go.Proofs.Ythfjkhmedpilnaa
open Go.RowKit PK Vg Go.Conc Cs
theorem no_type : Try.prog.info? 1000000000 = none := by kernel_rfl
theorem wr_move {P : Program} [Fns] {E : Env} {wl w w2 : World} (h : WR P E wl w) (hw : ∀ b x, E b = some x → w2.heap[x.1]? = w.heap[x.1]?) : WR P E wl w2 := by
  refine ⟨fun b q s e => ?_, fun b q s e => ?_, h.inj, h.low⟩
  · obtain ⟨h1, ol, o, h2, h3, h4⟩ := h.own b q s e
    exact ⟨h1, ol, o, h2, (hw b _ e).trans h3, h4⟩
  · obtain ⟨x, T, y, T', fr, h1, h2, h3, h4⟩ := h.shared b q s e
    exact ⟨x, T, y, T', fr, h1, h2, (hw b _ e).trans h3, h4⟩
theorem job_ghost (k : Nat) (hk : k < 26) (bT : Nat) (a b c : Value) (g : Gm) (U : Nat → Value) (m : Nat → Nat) (fb : Nat → Nat → Int) (h : Int) (hE : swE g h = 0) (hfit : ∀ r, r < g.n → g.nl r * 8 ≤ 140737488355328) (hrl : g.rl * 8 ≤ 140737488355328) (TT : TypeId) (fT : Nat × Nat) (w : World) (hT : w.heap[bT]? = some (.cells (tab 3 U) TT fT)) (ha : WhR w a g.n g.wi g.nl g.no) (hb : NumsAt w b g.rl g.ri) (hc : NumsAt w c g.sl g.st) (ra : Rt w a) (rb : Rt w b) (rc : Rt w c) (hU : ∀ i, i < 3 → NumsAt w (U i) (m i) (fb i) ∧ Rt w (U i)) :
    ∃ (E : Env) (wl : World) (x : Array Value), (∀ b q s o, E b = some (q, s, o) → o = false ∧ q < w.heap.size) ∧ LR E x #[.agg (mac a b c g.rf g.pl), .int .i64 (k : Nat), .func (.func 20) #[] #[.pointer (some ⟨bT, 0, none⟩)]] ∧ WR Try.prog E wl w ∧ Fns.G ≤ wl.heap.size ∧ ∀ τ, Calls Try.prog 50 x (wl.tp τ) fun e w' => ∃ v, e = .returned v ∧ LsOwn w' wl.heap.size v (hitsTo g m fb k (26 ^ (g.n - 1))) g.n := by
  obtain ⟨hgE, hn3, _, _⟩ := swE_zero hE
  have hn1 : 1 ≤ g.n := by
    refine Nat.lt_of_not_le fun hc => ?_
    unfold gE at hgE
    rw [if_pos (.inl (by omega))] at hgE
    cases hgE
  obtain ⟨E1, wl1, a', b', c', p1, q1, ra', rb', rc', hm1⟩ := cp_mac (Cp.nil (P := Try.prog) w) no_type ha hb hc ra rb rc
  obtain ⟨E2, wl2, U', p2, q2, hU2⟩ := cp_numss no_type U m fb 3 p1 hU
  obtain ⟨E3, wl3, dT, p3, q3, rT, kT⟩ := cp_whole p2 no_type hT (tab 3 U') (fun i u hu => by
    have hi : i < 3 := by have := (Array.getElem?_eq_some_iff.1 hu).1; rwa [tab_size] at this
    rw [tab_get _ hi] at hu
    cases hu
    exact ⟨_, tab_get _ hi, (hU2 i hi).1⟩)
  have hm3 := mac_keep q3 (mac_keep q2 hm1)
  have hU3 : TsAt wl3 U' m fb := fun i hi => cp_nums_keep q3 (hU2 i hi).2
  have hlm : LR E3 (mac a' b' c' g.rf g.pl) (mac a b c g.rf g.pl) := lr_mac ((ra'.mono q2.le).mono q3.le) ((rb'.mono q2.le).mono q3.le) ((rc'.mono q2.le).mono q3.le)
  have hra : wl3.rangeAt dT 0 (tab 3 U').toList := fun j v hj => by
    rw [cell_of_row _ _ _ _ _ _ kT, Nat.zero_add, ← Array.getElem?_toList]
    exact hj
  have hfn : VR E3 (.func (.func 20) #[] #[.pointer (some ⟨dT, 0, none⟩)]) (.func (.func 20) #[] #[.pointer (some ⟨bT, 0, none⟩)]) := by
    have l1 : LR E3 #[.pointer (some ⟨dT, 0, none⟩)] #[.pointer (some ⟨bT, 0, none⟩)] := lr_cons rT lr_nil
    exact .func _ (by kernel_rfl) rfl (fun i u v hu => by simp at hu) l1.size l1.at_
  refine ⟨E3, wl3, #[.agg (mac a' b' c' g.rf g.pl), .int .i64 (k : Nat), .func (.func 20) #[] #[.pointer (some ⟨dT, 0, none⟩)]], fun b q s o e => ⟨p3.sh _ _ _ _ e, (p3.wr.lt e).2⟩, lr_cons (.mkAgg hlm) (lr_cons (.int _ _) (lr_cons hfn lr_nil)), p3.wr, p3.big, fun τ => ?_⟩
  refine (pbeh_any _ g hgE hn1 (by omega) hfit hrl k hk dT U' m fb (wl3.tp τ) hm3 hra hU3).mono ?_
  rintro e w' ⟨v, rfl, h1, _⟩
  exact ⟨v, rfl, h1⟩
end Go.Proofs.Ythfjkhmedpilnaa

/-
  From the first 'go' of chart.Find to the law's end.
-/
namespace Go.Proofs.Ythfjkhmedpilnaa
open Go.RowKit PK Vg Go.Conc Cs
section
variable {w w' : World} (hag : ∀ b, b < w.heap.size → w'.heap[b]? = w.heap[b]?)
include hag
theorem cell_ag {a : Addr} {v : Value} (h : w.cell? a = some v) : w'.cell? a = some v := by
  have := hag a.block (cell_block h)
  unfold World.cell? at h ⊢
  rw [this]
  exact h
theorem nums_ag {v : Value} {n : Nat} {f : Nat → Int} (h : NumsAt w v n f) : NumsAt w' v n f := by
  obtain ⟨a, cap, h1, h2, h3⟩ := h
  refine ⟨a, cap, h1, h2, fun c hc => ?_⟩
  obtain ⟨b, o, e, k⟩ := h3 c hc
  exact ⟨b, o, e, cell_ag hag k⟩
theorem row_ag {b : Nat} {o : Obj} (h : w.heap[b]? = some o) : w'.heap[b]? = some o := (hag b (Array.getElem?_eq_some_iff.1 h).1).trans h
theorem rt_ag {v : Value} (h : Rt w v) : Rt w' v := fun a l c e hp => by
  obtain ⟨h1, y, T, fr, h2⟩ := h a l c e hp
  exact ⟨h1, y, T, fr, row_ag hag h2⟩
theorem whr_ag {v : Value} {n : Nat} {wi : Nat → Nat → Int} {nl : Nat → Nat} {no : Nat → Nat → Int} (h : WhR w v n wi nl no) : WhR w' v n wi nl no := by
  obtain ⟨a, cap, R, h1, h2, h3, h4⟩ := h
  refine ⟨a, cap, R, h1, h2, fun r hr => ?_, fun r hr => ⟨nums_ag hag (h4 r hr).1, rt_ag hag (h4 r hr).2⟩⟩
  obtain ⟨b, o, e, k⟩ := h3 r hr
  exact ⟨b, o, e, fun j v hj => cell_ag hag (k j v hj)⟩
end
set_option maxRecDepth 100000 in
set_option maxHeartbeats 4000000 in
theorem pool_to_end (x0 x1 x2 x3 x4 x5 x6 x7 x8 x9 x10 x11 x12 x13 y0 y1 y5 y6 y7 y8 y9 y10 y11 y12 y13 y14 y15 y16 y17 y18 y19 y20 y21 y22 y23 y24 y25 y26 y27 y28 y29 y30 y31 y32 : Value) (cst : Cst) (bF bM bL bD bT dM dT : Nat) (a b c : Value) (g : Gm) (U : Nat → Value) (m : Nat → Nat) (fb : Nat → Nat → Int) (h : Int) (hE : swE g h = 0) (hfit : ∀ r, r < g.n → g.nl r * 8 ≤ 140737488355328) (hrl : g.rl * 8 ≤ 140737488355328) (TT TM TT' : TypeId) (fT fM fT' : Nat × Nat) (wp : World)
    (hpre : ∀ w, cst.Ok w → ∀ b, b < wp.heap.size → w.heap[b]? = wp.heap[b]?) (hfix : ∀ q, q < wp.heap.size → cst.Fix q)
    (hT : wp.heap[bT]? = some (.cells (tab 3 U) TT fT)) (hdM : wp.heap[dM]? = some (.cells (mac a b c g.rf g.pl) TM fM)) (hdT : wp.heap[dT]? = some (.cells (tab 3 U) TT' fT')) (ha : WhR wp a g.n g.wi g.nl g.no) (hb : NumsAt wp b g.rl g.ri) (hc : NumsAt wp c g.sl g.st) (ra : Rt wp a) (rb : Rt wp b) (rc : Rt wp c) (hU : ∀ i, i < 3 → NumsAt wp (U i) (m i) (fb i) ∧ Rt wp (U i))
    (wk : WkP cst bF bM bL bD (.agg (mac a b c g.rf g.pl)) (.func (.func 20) #[] #[.pointer (some ⟨bT, 0, none⟩)])) (hn : 1 ≤ cst.n ∧ cst.n ≤ 1000) (hK : cst.K = 26) (hz : cst.z1 = .int .i64 0 ∧ cst.z2 = .bool false ∧ cst.zs1 = .tuple #[] ∧ cst.zs2 = .tuple #[]) (hB : cst.fB = 50) (har : cst.ar = fun k => #[.agg (mac a b c g.rf g.pl), .int .i64 (k : Nat), .func (.func 20) #[] #[.pointer (some ⟨bT, 0, none⟩)]]) (s1 : 1 ≤ cst.S0) (d1 : cst.C1 < cst.N1 ∧ cst.C2 < cst.N1 ∧ cst.Fd < cst.N1 ∧ cst.C1 ≠ cst.C2 ∧ cst.C1 ≠ cst.Fd ∧ cst.C2 ≠ cst.Fd)
    {gs : Array Goroutine} {t : Trace} {q : Nat → Nat} {g0 : Goroutine} {w : World} (hS : cst.S0 = gs.size) (h0 : gs[0]? = some g0) (hq : Qt Try.prog gs t q w.heap.size) {μ : Nat} (hw : Walk Try.prog cst true (eGoP cst bF bM bL bD cst.n (mkF 7 #[x0, x1, x2, x3, x4, x5, x6, x7, x8, x9, x10, x11, x12, x13] [.inRegion fO1 (3 :: List.range' 4 4), .code .ret] .run :: mkF 3 #[y0, y1, .int .i64 h, .pointer (some ⟨dM, 0, none⟩), .pointer (some ⟨dT, 0, none⟩), y5, y6, y7, y8, y9, y10, y11, y12, y13, y14, y15, y16, y17, y18, y19, y20, y21, y22, y23, y24, y25, y26, y27, y28, y29, y30, y31, y32] [.inRegion lO1 (3 :: List.range' 4 5), .code lT2] .run :: []) 0) μ g0 w) (ok : cst.Ok w) (c1 : w.heap[cst.C1]? = some (.chan 0 #[] false 0 0 false)) (c2 : w.heap[cst.C2]? = some (.chan 0 #[] false 0 0 false)) (fd : ∀ j a ad, touchAt t j = some a → a.loc = .cell ad → ad.block ≠ cst.Fd) (sl : Option (Nat × Nat)) :
    ∃ N gs' w' sl' t' q' g', runNT Try.prog N (crowd gs w sl) t = (.next (crowd gs' w' sl'), t') ∧ gs'[0]? = some g' ∧ g'.status = .running ∧ (∀ W, stepG Try.prog true g' W = .ended (.done (.bool true)) W #[]) ∧ Qt Try.prog gs' t' q' w'.heap.size ∧ (∀ b, b < wp.heap.size → w'.heap[b]? = wp.heap[b]?) ∧ w'.os = cst.os0 ∧ w'.output = cst.out0 := by
  have hG : Try.prog.globals.size ≤ Fns.G := Nat.le_refl _
  obtain ⟨hgE, hn3, _, _⟩ := swE_zero hE
  let S := everyScr (Post := fun k v wl => ∃ B, LsOwn wl B v (hitsTo g m fb k (26 ^ (g.n - 1))) g.n) cst bF bM bL bD _ _ (mkF 7 #[x0, x1, x2, x3, x4, x5, x6, x7, x8, x9, x10, x11, x12, x13] [.inRegion fO1 (3 :: List.range' 4 4), .code .ret] .run :: mkF 3 #[y0, y1, .int .i64 h, .pointer (some ⟨dM, 0, none⟩), .pointer (some ⟨dT, 0, none⟩), y5, y6, y7, y8, y9, y10, y11, y12, y13, y14, y15, y16, y17, y18, y19, y20, y21, y22, y23, y24, y25, y26, y27, y28, y29, y30, y31, y32] [.inRegion lO1 (3 :: List.range' 4 5), .code lT2] .run :: []) wk hn hK hz hB har s1 d1 (by rw [hB]; kernel_rfl) (fun k hk w hw => by
      obtain ⟨E, wl, x, k1, k2, k3, k4, k5⟩ := job_ghost k (by omega) bT a b c g U m fb h hE hfit hrl TT fT wp hT ha hb hc ra rb rc hU
      refine ⟨E, wl, x, fun b q s o e => ⟨(k1 b q s o e).1, hfix q (k1 b q s o e).2⟩, by rw [har]; exact k2, wr_move k3 fun b x e => ?_, k4, fun τ => ?_⟩
      · obtain ⟨q, s, o⟩ := x
        exact hpre w hw q (k1 b q s o e).2
      · rw [hB]
        refine (k5 τ).mono ?_
        rintro e w' ⟨v, rfl, hv⟩
        exact ⟨v, rfl, _, hv⟩) (fun k v wl E v' hp hr => by
      obtain ⟨B, hp⟩ := hp
      obtain ⟨vs, ⟨_, h2⟩, _⟩ := hp
      generalize (hitsTo g m fb k (26 ^ (g.n - 1))).length = nn at h2
      rcases h2 with ⟨rfl, _⟩ | ⟨_, _, _, rfl, _⟩ <;> cases hr <;> exact ⟨_, _, _, rfl⟩)
  obtain ⟨N1, gs1, w1, sl1, t1, q1, g1, r1, i1, jn, run1, Q1, ok1, RS, hRS, hres⟩ := pool_runs (S := S) hG fd_fnsCode hS h0 hq hw ok c1 c2 fd sl
  obtain ⟨v0, v2, v4, v6, v7, v8, v12, v13, v14, v15, v16, v17, v18, v19, v20, v21, v22, v23, v24, v25, v26, v27, v28, v29, v30, v31, v32, v33, v34, v35, v36, v37, v38, v39, v40, v41, v42, v43, v44, v45, v46, v47, v48, v49, v50, v51, v52, rfl⟩ := jn
  obtain ⟨cs, hcs, hcsz⟩ := ok1.fd
  rw [hK] at hcsz hres
  have hag := hpre w1 ok1
  have hVk : ∀ k, ∃ v, k < 26 → cs[k]? = some v ∧ LsC w1 v (hitsTo g m fb k (26 ^ (g.n - 1))) g.n := fun k => by
    by_cases hk : k < 26
    · obtain ⟨v, e1, E, vl, wl, ⟨B, p1⟩, p2, p3, _⟩ := hres k hk
      rw [cell_of_row _ _ _ _ _ _ hcs] at e1
      exact ⟨v, fun _ => ⟨e1, list_back p3 (by unfold maxLen; omega) p1 p2⟩⟩
    · exact ⟨.bool false, fun e => absurd e hk⟩
  have htab : cs = tab 26 fun k => (hVk k).choose := by
    apply Array.ext_getElem?
    intro i
    by_cases hi : i < 26
    · rw [tab_get _ hi]
      exact ((hVk i).choose_spec hi).1
    · rw [Array.getElem?_eq_none (by omega), Array.getElem?_eq_none (by rw [tab_size]; omega)]
  rw [htab] at hcs
  obtain ⟨E, gl, wl, hin, hsh⟩ := rest_ghost v0 (.int .i64 (cst.n : Nat)) v2 (.pointer (some ⟨bM, 0, none⟩)) v4 (.pointer (some ⟨bL, 0, none⟩)) v6 v7 v8 (.pointer (some ⟨bF, 0, none⟩)) (.pointer (some ⟨bD, 0, none⟩)) v12 v13 v14 v15 v16 v17 v18 v19 v20 v21 v22 v23 v24 v25 v26 v27 v28 v29 v30 v31 v32 v33 v34 v35 v36 v37 v38 v39 v40 v41 v42 v43 v44 v45 v46 v47 v48 v49 v50 v51 v52 x0 x1 x2 x3 x4 x5 x6 x7 x8 x9 x10 x11 x12 x13 y0 y1 y5 y6 y7 y8 y9 y10 y11 y12 y13 y14 y15 y16 y17 y18 y19 y20 y21 y22 y23 y24 y25 y26 y27 y28 y29 y30 y31 y32 cst.Fd dM dT (fun k => (hVk k).choose) a b c g U m fb h hE 1000000000 _ _ _ _ _ _ w1 no_type hcs (row_ag hag hdM) (row_ag hag hdT) (whr_ag hag ha) (nums_ag hag hb) (nums_ag hag hc) (rt_ag hag ra) (rt_ag hag rb) (rt_ag hag rc) (fun i hi => ⟨nums_ag hag (hU i hi).1, rt_ag hag (hU i hi).2⟩) (fun k hk => ((hVk k).choose_spec hk).2) []
  obtain ⟨N2, gs2, w2, sl2, t2, q2, E2, gl2, wl2, g2, r2, z2, i2, in2, st2, la2, fc2, Q2⟩ := beside_stop (sl := sl1) hG fd_fnsCode i1 hin Q1
  obtain ⟨v, v', wl3, hp, vr, hs, hend⟩ := in2.atEnd st2 (fn0 := 3) (t := 6) (la2.trans rfl) Try.func3 rfl (by kernel_rfl)
  subst hp
  cases vr
  refine ⟨N1 + N2, gs2, w2, sl2, t2, q2, g2, by rw [runNT_add, r1]; exact r2, i2, hs, hend, Q2, fun b hb => ?_, fc2.os.trans ok1.env.1, fc2.output.trans ok1.env.2⟩
  have h1 := hag b hb
  have h2 : b < w1.heap.size := by
    have h3 : (w1.heap[b]?).isSome = true := by rw [h1]; simp [hb]
    simpa using h3
  exact (fc2.keep b h2 (fun b' s e => by have := hsh _ _ _ _ e; cases this)).trans h1
end Go.Proofs.Ythfjkhmedpilnaa
