/-
  A call of chart.Find beside goroutines that only leave: behind the last receive; the whole call.
-/
import Derived.Test.YthfjkhmedpilnaaJn31
namespace Go.Proofs.Ythfjkhmedpilnaa
open Go.RowKit PK Vg Go.Conc Cs
theorem nums_back2 {E : Env} {wl w : World} (h : WR Try.prog E wl w) {m : Nat} {u u' : Value} {f : Nat → Int} (hm : 0 < m) (hr : NumsAt wl u m f) (hu : VR E u u') : NumsAt w u' m f ∧ Rt w u' := by
  obtain ⟨a, cap, rfl, hmx, hc⟩ := hr
  obtain ⟨g, o, rfl, h0⟩ := hc 0 hm
  cases hu with
  | sliceNo => exact absurd hm (Nat.lt_irrefl _)
  | slice l c ha =>
    obtain ⟨b, s, rfl, hj⟩ := ar_lit ha
    have hcell : ∀ c, c < m → w.cell? ⟨b, o + s + c, none⟩ = some (.int .i64 (f c)) := fun c hc' => by
      obtain ⟨g', o', e, h1⟩ := hc c hc'
      cases e
      obtain ⟨v, k1, k2⟩ := h.cell (hj c) h1
      cases k2
      exact k1
    exact ⟨⟨_, _, rfl, hmx, fun c hc' => ⟨b, o + s, rfl, hcell c hc'⟩⟩, rt_cell (hcell 0 hm) _⟩
theorem list_back2 {E : Env} {wl w : World} (h : WR Try.prog E wl w) {B m : Nat} {v v' : Value} {L : List Nat} (hm : 0 < m) (hv : LsN wl B v L m) (hr : VR E v v') : LsC w v' L m := by
  obtain ⟨vs, ⟨h1, h2⟩, h3⟩ := hv
  have hvl : vs.length = L.length := by omega
  rcases h2 with ⟨rfl, h4⟩ | ⟨g, cap, cur, rfl, _, h4, h5, h6, h7, h8⟩
  · obtain rfl := List.eq_nil_of_length_eq_zero h4
    cases hr with
    | sliceNil l c => exact ⟨none, 0, rfl, fun _ => rfl, rt_no, fun j N hj => by simp at hj⟩
  · generalize hn : L.length = n at hr
    cases hr with
    | sliceNo a b =>
      obtain rfl := List.eq_nil_of_length_eq_zero hn
      exact ⟨some b, 0, rfl, fun e => (by cases e), rt_no, fun j N hj => by simp at hj⟩
    | slice l c ha =>
      obtain ⟨b, s, rfl, hj⟩ := ar_lit ha
      subst hn
      have hcell : ∀ (j : Nat) u, cur[j]? = some u → ∃ u', w.cell? ⟨b, 0 + s + j, none⟩ = some u' ∧ VR E u u' := fun j u hu => h.cell (hj j) (by rw [Nat.zero_add, cell_of_row _ _ _ _ _ _ h4]; exact hu)
      refine ⟨_, cap, rfl, fun e => (by cases e), fun a l c e hp => ?_, fun j N hN => ?_⟩
      · cases e
        obtain ⟨u', k1, _⟩ := hcell 0 _ (Array.getElem?_eq_getElem (by omega))
        obtain ⟨y, T, fr, k, _⟩ := cell_some k1
        exact ⟨rfl, y, T, fr, k⟩
      · have hjl := (List.getElem?_eq_some_iff.1 hN).1
        obtain ⟨x, hvj⟩ : ∃ x, vs[j]? = some x := ⟨vs[j], List.getElem?_eq_getElem (by omega)⟩
        have hcj : cur[j]? = some x := by
          have e := hvj
          rw [← h8, List.getElem?_take_of_lt (by omega), Array.getElem?_toList] at e
          exact e
        obtain ⟨u', k1, k2⟩ := hcell j _ hcj
        obtain ⟨n1, n2⟩ := nums_back2 h hm (h3 j _ N hvj hN) k2
        exact ⟨b, 0 + s, u', rfl, k1, n1, n2⟩
set_option maxRecDepth 100000 in
set_option maxHeartbeats 4000000 in
theorem find_ghost (v0 v1 v2 v3 v4 v5 v6 v7 v8 v10 v11 v12 v13 v14 v15 v16 v17 v18 v19 v20 v21 v22 v23 v24 v25 v26 v27 v28 v29 v30 v31 v32 v33 v34 v35 v36 v37 v38 v39 v40 v41 v42 v43 v44 v45 v46 v47 v48 v49 v50 v51 v52 x0 x1 x2 x3 x4 x5 x6 x7 x8 x9 x10 x11 x12 x13 : Value) (bF : Nat) (V : Nat → Value) (g : Gm) (m : Nat → Nat) (fb : Nat → Nat → Int) (h : Int) (hE : swE g h = 0) (TJ TF : TypeId) (fF : Nat × Nat) (w : World) (hJ : Try.prog.info? TJ = none) (hF : w.heap[bF]? = some (.cells (tab 26 V) TF fF)) (hV : ∀ k, k < 26 → LsC w (V k) (hitsTo g m fb k (26 ^ (g.n - 1))) g.n) (cs : List Frame) :
    ∃ E gl wl, InCall Try.prog (fun v w' => ∃ u B, v = .tuple #[u, .int .i64 0] ∧ LsN w' B u (fndTo g m fb (26 ^ g.n)) g.n) cs E gl wl (G (mkF 19 #[v0, v1, v2, v3, v4, v5, v6, v7, v8, .pointer (some ⟨bF, 0, none⟩), v10, v11, v12, v13, v14, v15, v16, v17, v18, v19, v20, v21, v22, v23, v24, v25, v26, v27, v28, v29, v30, v31, v32, v33, v34, v35, v36, v37, v38, v39, v40, v41, v42, v43, v44, v45, v46, v47, v48, v49, v50, v51, v52] [.code eT5] .run) (mkF 7 #[x0, x1, x2, x3, x4, x5, x6, x7, x8, x9, x10, x11, x12, x13] [.inRegion fO1 (3 :: List.range' 4 4), .code .ret] .run :: cs)) w ∧ ∀ b q s o, E b = some (q, s, o) → o = false := by
  obtain ⟨hgE, hn3, _, _⟩ := swE_zero hE
  have hn1 : 1 ≤ g.n := by
    refine Nat.lt_of_not_le fun hc => ?_
    unfold gE at hgE
    rw [if_pos (.inl (by omega))] at hgE
    cases hgE
  have hL : ∀ k, (hitsTo g m fb k (26 ^ (g.n - 1))).length ≤ 676 := fun k => by
    refine Nat.le_trans (hitsTo_len _ _ _ _ _) ?_
    rcases (by omega : g.n = 1 ∨ g.n = 2 ∨ g.n = 3) with h | h | h <;> rw [h] <;> decide
  obtain ⟨E3, wl3, V', p3, q3, hV3⟩ := cp_lists hJ V (fun k => hitsTo g m fb k (26 ^ (g.n - 1))) g.n 26 (Cp.nil (P := Try.prog) w) hV
  have htab : ∀ (n : Nat) (A B : Nat → Value) (E : Env), (∀ i, i < n → VR E (A i) (B i)) → ∀ (i : Nat) u, (tab n A)[i]? = some u → ∃ v, (tab n B)[i]? = some v ∧ VR E u v := fun n A B E hh i u hu => by
    have hi : i < n := by have := (Array.getElem?_eq_some_iff.1 hu).1; rwa [tab_size] at this
    rw [tab_get _ hi] at hu
    cases hu
    exact ⟨_, tab_get _ hi, hh i hi⟩
  obtain ⟨E9, wl9, dF, p9, q9, rF, kF⟩ := cp_whole p3 hJ hF (tab 26 V') (htab 26 V' V E3 fun i hi => (hV3 i hi).1)
  have hV9 := fun k (hk : k < 26) => lsa_keep q9 (hV3 k hk).2
  obtain ⟨jv0, hv0⟩ := junk E9 v0
  obtain ⟨jv1, hv1⟩ := junk E9 v1
  obtain ⟨jv2, hv2⟩ := junk E9 v2
  obtain ⟨jv3, hv3⟩ := junk E9 v3
  obtain ⟨jv4, hv4⟩ := junk E9 v4
  obtain ⟨jv5, hv5⟩ := junk E9 v5
  obtain ⟨jv6, hv6⟩ := junk E9 v6
  obtain ⟨jv7, hv7⟩ := junk E9 v7
  obtain ⟨jv8, hv8⟩ := junk E9 v8
  obtain ⟨jv10, hv10⟩ := junk E9 v10
  obtain ⟨jv11, hv11⟩ := junk E9 v11
  obtain ⟨jv12, hv12⟩ := junk E9 v12
  obtain ⟨jv13, hv13⟩ := junk E9 v13
  obtain ⟨jv14, hv14⟩ := junk E9 v14
  obtain ⟨jv15, hv15⟩ := junk E9 v15
  obtain ⟨jv16, hv16⟩ := junk E9 v16
  obtain ⟨jv17, hv17⟩ := junk E9 v17
  obtain ⟨jv18, hv18⟩ := junk E9 v18
  obtain ⟨jv19, hv19⟩ := junk E9 v19
  obtain ⟨jv20, hv20⟩ := junk E9 v20
  obtain ⟨jv21, hv21⟩ := junk E9 v21
  obtain ⟨jv22, hv22⟩ := junk E9 v22
  obtain ⟨jv23, hv23⟩ := junk E9 v23
  obtain ⟨jv24, hv24⟩ := junk E9 v24
  obtain ⟨jv25, hv25⟩ := junk E9 v25
  obtain ⟨jv26, hv26⟩ := junk E9 v26
  obtain ⟨jv27, hv27⟩ := junk E9 v27
  obtain ⟨jv28, hv28⟩ := junk E9 v28
  obtain ⟨jv29, hv29⟩ := junk E9 v29
  obtain ⟨jv30, hv30⟩ := junk E9 v30
  obtain ⟨jv31, hv31⟩ := junk E9 v31
  obtain ⟨jv32, hv32⟩ := junk E9 v32
  obtain ⟨jv33, hv33⟩ := junk E9 v33
  obtain ⟨jv34, hv34⟩ := junk E9 v34
  obtain ⟨jv35, hv35⟩ := junk E9 v35
  obtain ⟨jv36, hv36⟩ := junk E9 v36
  obtain ⟨jv37, hv37⟩ := junk E9 v37
  obtain ⟨jv38, hv38⟩ := junk E9 v38
  obtain ⟨jv39, hv39⟩ := junk E9 v39
  obtain ⟨jv40, hv40⟩ := junk E9 v40
  obtain ⟨jv41, hv41⟩ := junk E9 v41
  obtain ⟨jv42, hv42⟩ := junk E9 v42
  obtain ⟨jv43, hv43⟩ := junk E9 v43
  obtain ⟨jv44, hv44⟩ := junk E9 v44
  obtain ⟨jv45, hv45⟩ := junk E9 v45
  obtain ⟨jv46, hv46⟩ := junk E9 v46
  obtain ⟨jv47, hv47⟩ := junk E9 v47
  obtain ⟨jv48, hv48⟩ := junk E9 v48
  obtain ⟨jv49, hv49⟩ := junk E9 v49
  obtain ⟨jv50, hv50⟩ := junk E9 v50
  obtain ⟨jv51, hv51⟩ := junk E9 v51
  obtain ⟨jv52, hv52⟩ := junk E9 v52
  obtain ⟨jx0, hx0⟩ := junk E9 x0
  obtain ⟨jx1, hx1⟩ := junk E9 x1
  obtain ⟨jx2, hx2⟩ := junk E9 x2
  obtain ⟨jx3, hx3⟩ := junk E9 x3
  obtain ⟨jx4, hx4⟩ := junk E9 x4
  obtain ⟨jx5, hx5⟩ := junk E9 x5
  obtain ⟨jx6, hx6⟩ := junk E9 x6
  obtain ⟨jx7, hx7⟩ := junk E9 x7
  obtain ⟨jx8, hx8⟩ := junk E9 x8
  obtain ⟨jx9, hx9⟩ := junk E9 x9
  obtain ⟨jx10, hx10⟩ := junk E9 x10
  obtain ⟨jx11, hx11⟩ := junk E9 x11
  obtain ⟨jx12, hx12⟩ := junk E9 x12
  obtain ⟨jx13, hx13⟩ := junk E9 x13
  have lE := (lr_cons hv0 (lr_cons hv1 (lr_cons hv2 (lr_cons hv3 (lr_cons hv4 (lr_cons hv5 (lr_cons hv6 (lr_cons hv7 (lr_cons hv8 (lr_cons rF (lr_cons hv10 (lr_cons hv11 (lr_cons hv12 (lr_cons hv13 (lr_cons hv14 (lr_cons hv15 (lr_cons hv16 (lr_cons hv17 (lr_cons hv18 (lr_cons hv19 (lr_cons hv20 (lr_cons hv21 (lr_cons hv22 (lr_cons hv23 (lr_cons hv24 (lr_cons hv25 (lr_cons hv26 (lr_cons hv27 (lr_cons hv28 (lr_cons hv29 (lr_cons hv30 (lr_cons hv31 (lr_cons hv32 (lr_cons hv33 (lr_cons hv34 (lr_cons hv35 (lr_cons hv36 (lr_cons hv37 (lr_cons hv38 (lr_cons hv39 (lr_cons hv40 (lr_cons hv41 (lr_cons hv42 (lr_cons hv43 (lr_cons hv44 (lr_cons hv45 (lr_cons hv46 (lr_cons hv47 (lr_cons hv48 (lr_cons hv49 (lr_cons hv50 (lr_cons hv51 (lr_cons hv52 lr_nil)))))))))))))))))))))))))))))))))))))))))))))))))))))
  have lF := (lr_cons hx0 (lr_cons hx1 (lr_cons hx2 (lr_cons hx3 (lr_cons hx4 (lr_cons hx5 (lr_cons hx6 (lr_cons hx7 (lr_cons hx8 (lr_cons hx9 (lr_cons hx10 (lr_cons hx11 (lr_cons hx12 (lr_cons hx13 lr_nil))))))))))))))
  refine ⟨E9, _, wl9, InCall.mids ⟨_, Try.func19⟩ lE p9.wr p9.big rest_item1 (.cons ⟨_, Try.func7⟩ lF rest_item2 .base) (fun τ => ?_), p9.sh⟩
  refine Cs.reach_then (Cs.reach_code Try.func19 (ev_rest jv0 jv1 jv2 jv3 jv4 jv5 jv6 jv7 jv8 jv10 jv11 jv12 jv13 jv14 jv15 jv16 jv17 jv18 jv19 jv20 jv21 jv22 jv23 jv24 jv25 jv26 jv27 jv28 jv29 jv30 jv31 jv32 jv33 jv34 jv35 jv36 jv37 jv38 jv39 jv40 jv41 jv42 jv43 jv44 jv45 jv46 jv47 jv48 jv49 jv50 jv51 jv52 dF V' TJ _ _ g.n hL (wl9.tp τ) kF hV9)) ?_
  rintro v w1 ⟨u, rfl, hN, hb⟩
  rw [Cs.finish_mk]
  rw [cats_all g m fb hn1] at hN
  obtain ⟨n', fr', w', v', k1, k2, k3⟩ := Cs.reach_region (cs := [trap Try.prog]) Try.func7 (find_rest jx0 jx1 jx2 jx3 jx4 jx5 jx6 jx7 jx8 jx9 jx10 jx12 jx13 u w1)
  refine ⟨n', fr', w', v', k1, k2, ?_⟩
  obtain ⟨rfl, rfl⟩ := k3
  exact ⟨u, _, rfl, hN⟩
/-- The pool of such a call. -/
noncomputable def cstF (A : Array Value) (n S0 : Nat) (W w8 : World) (Fd C1 C2 : Nat) : Cst := { n := n, K := 26, S0 := S0, N1 := w8.heap.size, H0 := fun q => w8.heap[q]?, C1 := C1, C2 := C2, Fd := Fd, TF := 94, z1 := .int .i64 0, z2 := .bool false, zs1 := .tuple #[], zs2 := .tuple #[], fB := 50, ar := fun k => #[.agg A, .int .i64 (k : Nat), .func (.func 20) #[] #[.pointer (some ⟨W.heap.size + 1, 0, none⟩)]], os0 := W.os, out0 := W.output }
section
variable {A B : Array Value} {n S0 : Nat} {W w4 w8 : World} {h2 Fd C1 C2 bF bD : Nat}
theorem AtG.ok (k : AtG A B W w4 w8 h2 Fd C1 C2 bF bD) : (cstF A n S0 W w8 Fd C1 C2).Ok w8 := ⟨fun _ _ => rfl, ⟨_, k.row, tab_size _ _⟩, Nat.le_refl _, k.env⟩
theorem AtG.low (k : AtG A B W w4 w8 h2 Fd C1 C2 bF bD) (q : Nat) (hq : q < w4.heap.size) : (cstF A n S0 W w8 Fd C1 C2).Fix q := by
  have h0 := k.fd
  have h3 := heap_lt k.row
  have h4 := k.c1.1
  have h5 := k.c2.1
  exact ⟨by show q < w8.heap.size; omega, by show q ≠ Fd; omega, by show q ≠ C1; omega, by show q ≠ C2; omega⟩
theorem AtG.cells (k : AtG A B W w4 w8 h2 Fd C1 C2 bF bD) {q : Nat} {x : Array Value} {T : TypeId} (hq : w8.heap[q]? = some (.cells x T (0, 0))) (hlt : Fd < q) : (cstF A n S0 W w8 Fd C1 C2).Fix q := by
  refine ⟨heap_lt hq, by show q ≠ Fd; omega, fun e => ?_, fun e => ?_⟩
  · have e' : q = C1 := e
    rw [e', k.c1.2] at hq
    cases hq
  · have e' : q = C2 := e
    rw [e', k.c2.2] at hq
    cases hq
theorem AtG.wk (k : AtG A B W w4 w8 h2 Fd C1 C2 bF bD) (hA : A.size = 55) : WkP (cstF A n S0 W w8 Fd C1 C2) bF h2 (h2 + 1) bD (.agg A) (.func (.func 20) #[] #[.pointer (some ⟨W.heap.size + 1, 0, none⟩)]) := by
  have hiA : (Try.prog.info? 27).map (·.size) = some A.size := by rw [hA]; exact v_info_mac
  have fixF := k.cells (n := n) (S0 := S0) k.bf.2 k.bf.1
  have fixD := k.cells (n := n) (S0 := S0) k.bd.2 k.bd.1
  have fixM := k.low (n := n) (S0 := S0) h2 (heap_lt k.lM)
  have fixL := k.low (n := n) (S0 := S0) (h2 + 1) (heap_lt k.lL)
  have lM : w8.heap[h2]? = some (.cells A 27 (0, 0)) := (k.h84 _ (heap_lt k.lM)).trans k.lM
  have lL := (k.h84 _ (heap_lt k.lL)).trans k.lL
  refine ⟨⟨fixF, fixM, fixL, fixD⟩, fun w hw => one_cell ((hw.fix _ fixF).trans k.bf.2), fun w hw => one_cell ((hw.fix _ fixD).trans k.bd.2), fun w hw => one_cell ((hw.fix _ fixL).trans lL), fun w hw => ld_row ((hw.fix _ fixM).trans lM) Try.underlying27 rfl hiA, fun w hw e he => ?_⟩
  obtain ⟨ad, e1, e2⟩ := ev_rowX ((hw.fix _ fixM).trans lM) Try.underlying27 rfl hiA e he
  exact ⟨ad, e1, by rw [e2]; exact fixM⟩
end
set_option maxRecDepth 100000 in
set_option maxHeartbeats 8000000 in
theorem find_call (a b c : Value) (g : Gm) (U : Nat → Value) (m : Nat → Nat) (fb : Nat → Nat → Int) (n : Nat) (hE : swE g (n : Int) = 0) (hfit : ∀ r, r < g.n → g.nl r * 8 ≤ 140737488355328) (hrl : g.rl * 8 ≤ 140737488355328) (A B : Array Value) (hA0 : A = mac a b c g.rf g.pl) (hB0 : B = tab 3 U) (W : World) (ha : WhR W a g.n g.wi g.nl g.no) (hb : NumsAt W b g.rl g.ri) (hc : NumsAt W c g.sl g.st) (ra : Rt W a) (rb : Rt W b) (rc : Rt W c) (hU : ∀ i, i < 3 → NumsAt W (U i) (m i) (fb i) ∧ Rt W (U i)) (cal : Frame) (rest : List Frame) {gs : Array Goroutine} {t : Trace} {q : Nat → Nat} (i1 : gs[0]? = some (G ((base 7).at ⟨#[.agg A, .agg B, .int .i64 (n : Nat), undef, undef, undef, undef, undef, undef, undef, undef, undef, undef, undef], []⟩ [.code fB]) (cal :: rest))) (Q1 : Qt Try.prog gs t q W.heap.size) (sl : Option (Nat × Nat)) :
    ∃ N gs' w' sl' t' q' u, runNT Try.prog N (crowd gs W sl) t = (.next (crowd gs' w' sl'), t') ∧ gs'[0]? = some (G (cal.finish (.tuple #[u, .int .i64 0])) rest) ∧ LsC w' u (fndTo g m fb (26 ^ g.n)) g.n ∧ Kept W w' ∧ Qt Try.prog gs' t' q' w'.heap.size := by
  have hG : Try.prog.globals.size ≤ Fns.G := Nat.le_refl _
  obtain ⟨hgE, hn3, hh1, hh2⟩ := swE_zero hE
  have hn1 : 1 ≤ g.n := by
    refine Nat.lt_of_not_le fun hc => ?_
    unfold gE at hgE
    rw [if_pos (.inl (by omega))] at hgE
    cases hgE
  obtain ⟨N1, gs1, w4, w8, sl1, t1, q1, g8, h2, Fd, C1, C2, bF, bD, r1, hgs, i8, hrun, hgo, F8, k⟩ := find_to_go a b c g B n hE W ha hb hc ra rb rc A hA0 (cal :: rest) i1 Q1 sl
  have hA : A.size = 55 := by rw [hA0]; exact mac_size ..
  have wk := k.wk (n := n) (S0 := gs1.size) hA
  have hag := k.old4
  have ok := k.ok (n := n) (S0 := gs1.size)
  have low := k.low (n := n) (S0 := gs1.size)
  have h84 := k.h84
  have hWp := heap_lt k.bT
  have hpre : ∀ w, (cstF A n gs1.size W w8 Fd C1 C2).Ok w → ∀ b, b < w4.heap.size → w.heap[b]? = w4.heap[b]? := fun w hw b hb => (hw.fix b (low b hb)).trans (h84 b hb)
  have hT := k.bT
  have d1 : C1 < w8.heap.size ∧ C2 < w8.heap.size ∧ Fd < w8.heap.size ∧ C1 ≠ C2 ∧ C1 ≠ Fd ∧ C2 ≠ Fd := ⟨heap_lt k.c1.2, heap_lt k.c2.2, heap_lt k.row, k.ne, by have := k.c1.1; omega, by have := k.c2.1; omega⟩
  have hW : Walk Try.prog (cstF A n gs1.size W w8 Fd C1 C2) true (eGoP (cstF A n gs1.size W w8 Fd C1 C2) bF h2 (h2 + 1) bD n (mkF 7 #[.agg A, .agg B, .int .i64 (n : Nat), .pointer (some ⟨W.heap.size, 0, none⟩), .pointer (some ⟨W.heap.size + 1, 0, none⟩), undef, .slice none 0 0, .int .i64 0, .agg A, .int .i64 (n : Nat), .func (.func 20) #[] #[.pointer (some ⟨W.heap.size + 1, 0, none⟩)], undef, undef, undef] [.inRegion fO1 (3 :: List.range' 4 4), .code .ret] .run :: (cal :: rest)) 0) 0 g8 w8 := Goes.stop fun _ _ => ⟨hrun, hgo _ rfl⟩
  have hc1 := k.c1.2
  have hc2 := k.c2.2
  have hfd : ∀ j x ad, touchAt t1 j = some x → x.loc = .cell ad → ad.block ≠ Fd := fun j x ad e1 e2 => F8.pl j x e1 ad e2
  have hq := F8.qt
  rw [hB0] at hT
  have wk' : WkP (cstF A n gs1.size W w8 Fd C1 C2) bF h2 (h2 + 1) bD (.agg (mac a b c g.rf g.pl)) (.func (.func 20) #[] #[.pointer (some ⟨W.heap.size + 1, 0, none⟩)]) := by rw [← hA0]; exact wk
  have har : (cstF A n gs1.size W w8 Fd C1 C2).ar = fun k => #[.agg (mac a b c g.rf g.pl), .int .i64 (k : Nat), .func (.func 20) #[] #[.pointer (some ⟨W.heap.size + 1, 0, none⟩)]] := by rw [← hA0]; rfl
  have h0s : 1 ≤ gs1.size := by have := idx_lt i8; omega
  clear k wk F8 hgo
  generalize hcst : cstF A n gs1.size W w8 Fd C1 C2 = cst at *
  have e1 : cst.n = n := by rw [← hcst]; rfl
  have e2 : cst.K = 26 := by rw [← hcst]; rfl
  have e3 : cst.z1 = .int .i64 0 ∧ cst.z2 = .bool false ∧ cst.zs1 = .tuple #[] ∧ cst.zs2 = .tuple #[] := by rw [← hcst]; exact ⟨rfl, rfl, rfl, rfl⟩
  have e4 : cst.fB = 50 := by rw [← hcst]; rfl
  have e5 : cst.S0 = gs1.size := by rw [← hcst]; rfl
  have e6 : cst.C1 = C1 := by rw [← hcst]; rfl
  have e7 : cst.C2 = C2 := by rw [← hcst]; rfl
  have e8 : cst.Fd = Fd := by rw [← hcst]; rfl
  have e9 : cst.N1 = w8.heap.size := by rw [← hcst]; rfl
  have e10 : cst.os0 = W.os := by rw [← hcst]; rfl
  have e11 : cst.out0 = W.output := by rw [← hcst]; rfl
  clear hcst
  rw [← e1] at hW
  obtain ⟨N2, gs2, w2, sl2, t2, q2, V, v0, v2, v4, v6, v7, v8, v12, v13, v14, v15, v16, v17, v18, v19, v20, v21, v22, v23, v24, v25, v26, v27, v28, v29, v30, v31, v32, v33, v34, v35, v36, v37, v38, v39, v40, v41, v42, v43, v44, v45, v46, v47, v48, v49, v50, v51, v52, r2, i2, hF, hV, ok2, Q2⟩ := pool_join (.agg A) (.agg B) (.int .i64 (cst.n : Nat)) (.pointer (some ⟨W.heap.size, 0, none⟩)) (.pointer (some ⟨W.heap.size + 1, 0, none⟩)) (undef) (.slice none 0 0) (.int .i64 0) (.agg A) (.int .i64 (cst.n : Nat)) (.func (.func 20) #[] #[.pointer (some ⟨W.heap.size + 1, 0, none⟩)]) (undef) (undef) (undef) cst bF h2 (h2 + 1) bD (W.heap.size + 1) a b c g U m fb (cst.n : Int) (by rw [e1]; exact hE) hfit hrl _ _ w4 hpre low hT (whr_ag hag ha) (nums_ag hag hb) (nums_ag hag hc) (rt_ag hag ra) (rt_ag hag rb) (rt_ag hag rc) (fun i hi => ⟨nums_ag hag (hU i hi).1, rt_ag hag (hU i hi).2⟩) wk' ⟨by omega, by omega⟩ e2 e3 e4 har (by omega) (by rw [e6, e7, e8, e9]; exact d1) (cal :: rest) (by rw [e5]) i8 hq hW ok (by rw [e6]; exact hc1) (by rw [e7]; exact hc2) (by rw [e8]; exact hfd) sl1
  obtain ⟨E, gl, wl, hin, hsh⟩ := find_ghost v0 (.int .i64 (cst.n : Nat)) v2 (.pointer (some ⟨h2, 0, none⟩)) v4 (.pointer (some ⟨h2 + 1, 0, none⟩)) v6 v7 v8 (.pointer (some ⟨bF, 0, none⟩)) (.pointer (some ⟨bD, 0, none⟩)) v12 v13 v14 v15 v16 v17 v18 v19 v20 v21 v22 v23 v24 v25 v26 v27 v28 v29 v30 v31 v32 v33 v34 v35 v36 v37 v38 v39 v40 v41 v42 v43 v44 v45 v46 v47 v48 v49 v50 v51 v52 (.agg A) (.agg B) (.int .i64 (cst.n : Nat)) (.pointer (some ⟨W.heap.size, 0, none⟩)) (.pointer (some ⟨W.heap.size + 1, 0, none⟩)) (undef) (.slice none 0 0) (.int .i64 0) (.agg A) (.int .i64 (cst.n : Nat)) (.func (.func 20) #[] #[.pointer (some ⟨W.heap.size + 1, 0, none⟩)]) (undef) (undef) (undef) cst.Fd V g m fb (n : Int) hE 1000000000 _ _ w2 no_type hF hV (cal :: rest)
  obtain ⟨N3, gs3, w3, sl3, t3, q3, E3, v, v', wl3, r3, z3, i3, ⟨u, B3, rfl, hN⟩, vr, wr3, fc3, Q3⟩ := beside_call (sl := sl2) hG fd_fnsCode i2 hin Q2
  obtain ⟨u', rfl, hu'⟩ : ∃ u', v' = .tuple #[u', .int .i64 0] ∧ VR E3 u u' := by
    cases vr with
    | tuple hs hv =>
      rename_i y
      have h0 : 0 < y.size := by rw [← hs]; exact Nat.zero_lt_two
      have h1 : 1 < y.size := by rw [← hs]; exact Nat.one_lt_two
      have k0 := hv 0 u _ rfl (Array.getElem?_eq_getElem h0)
      have k1 := hv 1 (.int .i64 0) _ rfl (Array.getElem?_eq_getElem h1)
      have e1 : y[1] = .int .i64 0 := by
        revert k1
        generalize y[1] = z
        intro k1
        cases k1
        rfl
      refine ⟨y[0], ?_, k0⟩
      congr 1
      refine Array.ext (by rw [← hs]; rfl) fun i hi1 hi2 => ?_
      rcases (by simp at hi2; omega : i = 0 ∨ i = 1) with rfl | rfl
      · rfl
      · exact e1
  refine ⟨N1 + (N2 + N3), gs3, w3, sl3, t3, q3, u', ?_, i3, list_back2 wr3 hn1 hN hu', ?_, Q3⟩
  · rw [runNT_add, r1]
    show runNT Try.prog (N2 + N3) (crowd gs1 w8 sl1) t1 = _
    rw [runNT_add, r2]
    exact r3
  · refine ⟨fun b hb => ?_, fc3.os.trans (ok2.env.1.trans e10), fc3.output.trans (ok2.env.2.trans e11)⟩
    have h1 := (hpre w2 ok2 b (by omega)).trans (hag b hb)
    have h2 : b < w2.heap.size := by
      have h3 : (w2.heap[b]?).isSome = true := by rw [h1]; simp [hb]
      simpa using h3
    exact (fc3.keep b h2 (fun b' s e => by have := hsh _ _ _ _ e; cases this)).trans h1
end Go.Proofs.Ythfjkhmedpilnaa
