/-
  A call of bombe.Search beside goroutines that only leave.
-/
import Derived.Test.YtbbpbcmpemmgjaaJn35
namespace Go.Proofs.Ytbbpbcmpemmgjaa
open Go.RowKit PK Vg Go.Conc Cs
set_option maxRecDepth 100000 in
set_option maxHeartbeats 4000000 in
theorem bsearch_rest (x0 x1 x2 x3 x4 x5 x6 x7 x8 x9 x10 x11 x12 x13 x14 x15 x16 x17 x18 x19 x20 x21 x22 x23 x24 x26 x27 u : Value) (w : World) :
    wpOps Try.prog bO5 (Exit.then (Code.ret.wp Try.prog (bodyPost Try.prog Try.f13 (Cs.PostE fun v w' => v = .tuple #[u, .int .i64 0] ∧ w' = w))) (bodyPost Try.prog Try.f13 (Cs.PostE fun v w' => v = .tuple #[u, .int .i64 0] ∧ w' = w))) (List.range' 4 4) ⟨#[x0, x1, x2, x3, x4, x5, x6, x7, x8, x9, x10, x11, x12, x13, x14, x15, x16, x17, x18, x19, x20, x21, x22, x23, x24, .tuple #[u, .int .i64 0], x26, x27], []⟩ w := by
  refine ops_from 4 4 rfl ?_
  simp only [bO5, bT5, bT4, bT1, bB, Try.f13, Option.getD_some, List.drop]
  go_wp2_with fail
  refine ⟨rfl, .tuple #[u, .int .i64 0], ?_, _, rfl, rfl, rfl⟩
  simp [results, Array.mapM_eq_mapM_toList, List.mapM_cons]
theorem brest_item1 : [Item.code Hb.eT5].all (itemOk Try.prog) = true := by kernel_rfl
theorem brest_item2 : (pend [Item.inRegion bO5 (3 :: List.range' 4 4), .code .ret]).all (itemOk Try.prog) = true := by kernel_rfl
theorem cp_haltss {TJ : TypeId} {w : World} (hJ : Try.prog.info? TJ = none) (V : Nat → Value) (L : Nat → List Nat) (hl : Hl) (hV : ∀ r, r < 26 → HsC w (V r) (L r) hl) : ∃ (E' : Env) (wl' : World) (Ul : Nat → Value), Cp Try.prog E' wl' w ∧ ∀ r, r < 26 → VR E' (Ul r) (V r) ∧ HsA wl' (Ul r) (L r) hl := by
  obtain ⟨E', wl', Ul, h1, _, h3⟩ := cp_each (P := Try.prog) (w := w) (R := V) (F := fun i wl v => HsA wl v (L i) hl) (m := 26) (fun i E E' wl wl' v hle hf => hsa_keep hle hf) (fun i hi E wl hcp => cp_halts hcp hJ (hV i hi)) 26 (Nat.le_refl _) (Cp.nil (P := Try.prog) w)
  exact ⟨E', wl', Ul, h1, h3⟩
set_option maxRecDepth 100000 in
set_option maxHeartbeats 4000000 in
theorem bsearch_ghost (v0 v1 v2 v3 v4 v5 v6 v7 v8 v10 v11 v12 v13 v14 v15 v16 v17 v18 v19 v20 v21 v22 v23 v24 v25 v26 v27 v28 v29 v30 v31 v32 v33 v34 v35 v36 v37 v38 v39 v40 v41 v42 v43 v44 v45 v46 v47 v48 v49 v50 v51 v52 x0 x1 x2 x3 x4 x5 x6 x7 x8 x9 x10 x11 x12 x13 x14 x15 x16 x17 x18 x19 x20 x21 x22 x23 x24 x25 x26 x27 : Value) (bF : Nat) (V : Nat → Value) (g : Gm) (hl : Hl) (hln : hl.n = g.n) (h : Int) (hE : swE g h = 0) (TJ TF : TypeId) (fF : Nat × Nat) (w : World) (hJ : Try.prog.info? TJ = none) (hF : w.heap[bF]? = some (.cells (tab 26 V) TF fF)) (hV : ∀ k, k < 26 → HsC w (V k) (hl.hits k (26 ^ (g.n - 1))) hl) (cs : List Frame) :
    ∃ E gl wl, InCall Try.prog (fun v w' => ∃ u B, v = .tuple #[u, .int .i64 0] ∧ HsN w' B u (hl.fnd (26 ^ g.n)) hl) cs E gl wl (G (mkF 32 #[v0, v1, v2, v3, v4, v5, v6, v7, v8, .pointer (some ⟨bF, 0, none⟩), v10, v11, v12, v13, v14, v15, v16, v17, v18, v19, v20, v21, v22, v23, v24, v25, v26, v27, v28, v29, v30, v31, v32, v33, v34, v35, v36, v37, v38, v39, v40, v41, v42, v43, v44, v45, v46, v47, v48, v49, v50, v51, v52] [.code Hb.eT5] .run) (mkF 13 #[x0, x1, x2, x3, x4, x5, x6, x7, x8, x9, x10, x11, x12, x13, x14, x15, x16, x17, x18, x19, x20, x21, x22, x23, x24, x25, x26, x27] [.inRegion bO5 (3 :: List.range' 4 4), .code .ret] .run :: cs)) w ∧ ∀ b q s o, E b = some (q, s, o) → o = false := by
  obtain ⟨hn1, hn3, _⟩ := swE_n hE
  have hL : ∀ k, (hl.hits k (26 ^ (g.n - 1))).length ≤ 676 := fun k => by
    refine Nat.le_trans (hl.hits_len _ _) ?_
    rcases (by omega : g.n = 1 ∨ g.n = 2 ∨ g.n = 3) with h | h | h <;> rw [h] <;> decide
  obtain ⟨E3, wl3, V', p3, hV3⟩ := cp_haltss hJ V (fun k => hl.hits k (26 ^ (g.n - 1))) hl hV
  have htab : ∀ (n : Nat) (A B : Nat → Value) (E : Env), (∀ i, i < n → VR E (A i) (B i)) → ∀ (i : Nat) u, (tab n A)[i]? = some u → ∃ v, (tab n B)[i]? = some v ∧ VR E u v := fun n A B E hh i u hu => by
    have hi : i < n := by have := (Array.getElem?_eq_some_iff.1 hu).1; rwa [tab_size] at this
    rw [tab_get _ hi] at hu
    cases hu
    exact ⟨_, tab_get _ hi, hh i hi⟩
  obtain ⟨E9, wl9, dF, p9, q9, rF, kF⟩ := cp_whole p3 hJ hF (tab 26 V') (htab 26 V' V E3 fun i hi => (hV3 i hi).1)
  have hV9 := fun k (hk : k < 26) => hsa_keep q9 (hV3 k hk).2
  obtain ⟨jv0, hv0⟩ := junk E9 v0
  obtain ⟨jv1, hv1⟩ := junk E9 v1
  obtain ⟨jv2, hv2⟩ := junk E9 v2
  obtain ⟨jv3, hv3⟩ := junk E9 v3
  obtain ⟨jv4, hv4⟩ := junk E9 v4
  obtain ⟨jv5, hv5⟩ := junk E9 v5
  obtain ⟨jv6, hv6⟩ := junk E9 v6
  obtain ⟨jv7, hv7⟩ := junk E9 v7
  obtain ⟨jv8, hv8⟩ := junk E9 v8
  obtain ⟨jv10, hv10⟩ := junk E9 v10
  obtain ⟨jv11, hv11⟩ := junk E9 v11
  obtain ⟨jv12, hv12⟩ := junk E9 v12
  obtain ⟨jv13, hv13⟩ := junk E9 v13
  obtain ⟨jv14, hv14⟩ := junk E9 v14
  obtain ⟨jv15, hv15⟩ := junk E9 v15
  obtain ⟨jv16, hv16⟩ := junk E9 v16
  obtain ⟨jv17, hv17⟩ := junk E9 v17
  obtain ⟨jv18, hv18⟩ := junk E9 v18
  obtain ⟨jv19, hv19⟩ := junk E9 v19
  obtain ⟨jv20, hv20⟩ := junk E9 v20
  obtain ⟨jv21, hv21⟩ := junk E9 v21
  obtain ⟨jv22, hv22⟩ := junk E9 v22
  obtain ⟨jv23, hv23⟩ := junk E9 v23
  obtain ⟨jv24, hv24⟩ := junk E9 v24
  obtain ⟨jv25, hv25⟩ := junk E9 v25
  obtain ⟨jv26, hv26⟩ := junk E9 v26
  obtain ⟨jv27, hv27⟩ := junk E9 v27
  obtain ⟨jv28, hv28⟩ := junk E9 v28
  obtain ⟨jv29, hv29⟩ := junk E9 v29
  obtain ⟨jv30, hv30⟩ := junk E9 v30
  obtain ⟨jv31, hv31⟩ := junk E9 v31
  obtain ⟨jv32, hv32⟩ := junk E9 v32
  obtain ⟨jv33, hv33⟩ := junk E9 v33
  obtain ⟨jv34, hv34⟩ := junk E9 v34
  obtain ⟨jv35, hv35⟩ := junk E9 v35
  obtain ⟨jv36, hv36⟩ := junk E9 v36
  obtain ⟨jv37, hv37⟩ := junk E9 v37
  obtain ⟨jv38, hv38⟩ := junk E9 v38
  obtain ⟨jv39, hv39⟩ := junk E9 v39
  obtain ⟨jv40, hv40⟩ := junk E9 v40
  obtain ⟨jv41, hv41⟩ := junk E9 v41
  obtain ⟨jv42, hv42⟩ := junk E9 v42
  obtain ⟨jv43, hv43⟩ := junk E9 v43
  obtain ⟨jv44, hv44⟩ := junk E9 v44
  obtain ⟨jv45, hv45⟩ := junk E9 v45
  obtain ⟨jv46, hv46⟩ := junk E9 v46
  obtain ⟨jv47, hv47⟩ := junk E9 v47
  obtain ⟨jv48, hv48⟩ := junk E9 v48
  obtain ⟨jv49, hv49⟩ := junk E9 v49
  obtain ⟨jv50, hv50⟩ := junk E9 v50
  obtain ⟨jv51, hv51⟩ := junk E9 v51
  obtain ⟨jv52, hv52⟩ := junk E9 v52
  obtain ⟨jx0, hx0⟩ := junk E9 x0
  obtain ⟨jx1, hx1⟩ := junk E9 x1
  obtain ⟨jx2, hx2⟩ := junk E9 x2
  obtain ⟨jx3, hx3⟩ := junk E9 x3
  obtain ⟨jx4, hx4⟩ := junk E9 x4
  obtain ⟨jx5, hx5⟩ := junk E9 x5
  obtain ⟨jx6, hx6⟩ := junk E9 x6
  obtain ⟨jx7, hx7⟩ := junk E9 x7
  obtain ⟨jx8, hx8⟩ := junk E9 x8
  obtain ⟨jx9, hx9⟩ := junk E9 x9
  obtain ⟨jx10, hx10⟩ := junk E9 x10
  obtain ⟨jx11, hx11⟩ := junk E9 x11
  obtain ⟨jx12, hx12⟩ := junk E9 x12
  obtain ⟨jx13, hx13⟩ := junk E9 x13
  obtain ⟨jx14, hx14⟩ := junk E9 x14
  obtain ⟨jx15, hx15⟩ := junk E9 x15
  obtain ⟨jx16, hx16⟩ := junk E9 x16
  obtain ⟨jx17, hx17⟩ := junk E9 x17
  obtain ⟨jx18, hx18⟩ := junk E9 x18
  obtain ⟨jx19, hx19⟩ := junk E9 x19
  obtain ⟨jx20, hx20⟩ := junk E9 x20
  obtain ⟨jx21, hx21⟩ := junk E9 x21
  obtain ⟨jx22, hx22⟩ := junk E9 x22
  obtain ⟨jx23, hx23⟩ := junk E9 x23
  obtain ⟨jx24, hx24⟩ := junk E9 x24
  obtain ⟨jx25, hx25⟩ := junk E9 x25
  obtain ⟨jx26, hx26⟩ := junk E9 x26
  obtain ⟨jx27, hx27⟩ := junk E9 x27
  have lE := (lr_cons hv0 (lr_cons hv1 (lr_cons hv2 (lr_cons hv3 (lr_cons hv4 (lr_cons hv5 (lr_cons hv6 (lr_cons hv7 (lr_cons hv8 (lr_cons rF (lr_cons hv10 (lr_cons hv11 (lr_cons hv12 (lr_cons hv13 (lr_cons hv14 (lr_cons hv15 (lr_cons hv16 (lr_cons hv17 (lr_cons hv18 (lr_cons hv19 (lr_cons hv20 (lr_cons hv21 (lr_cons hv22 (lr_cons hv23 (lr_cons hv24 (lr_cons hv25 (lr_cons hv26 (lr_cons hv27 (lr_cons hv28 (lr_cons hv29 (lr_cons hv30 (lr_cons hv31 (lr_cons hv32 (lr_cons hv33 (lr_cons hv34 (lr_cons hv35 (lr_cons hv36 (lr_cons hv37 (lr_cons hv38 (lr_cons hv39 (lr_cons hv40 (lr_cons hv41 (lr_cons hv42 (lr_cons hv43 (lr_cons hv44 (lr_cons hv45 (lr_cons hv46 (lr_cons hv47 (lr_cons hv48 (lr_cons hv49 (lr_cons hv50 (lr_cons hv51 (lr_cons hv52 lr_nil)))))))))))))))))))))))))))))))))))))))))))))))))))))
  have lF := (lr_cons hx0 (lr_cons hx1 (lr_cons hx2 (lr_cons hx3 (lr_cons hx4 (lr_cons hx5 (lr_cons hx6 (lr_cons hx7 (lr_cons hx8 (lr_cons hx9 (lr_cons hx10 (lr_cons hx11 (lr_cons hx12 (lr_cons hx13 (lr_cons hx14 (lr_cons hx15 (lr_cons hx16 (lr_cons hx17 (lr_cons hx18 (lr_cons hx19 (lr_cons hx20 (lr_cons hx21 (lr_cons hx22 (lr_cons hx23 (lr_cons hx24 (lr_cons hx25 (lr_cons hx26 (lr_cons hx27 lr_nil))))))))))))))))))))))))))))
  refine ⟨E9, _, wl9, InCall.mids ⟨_, Try.func32⟩ lE p9.wr p9.big brest_item1 (.cons ⟨_, Try.func13⟩ lF brest_item2 .base) (fun τ => ?_), p9.sh⟩
  refine Cs.reach_then (Cs.reach_code Try.func32 (ev_restH jv0 jv1 jv2 jv3 jv4 jv5 jv6 jv7 jv8 jv10 jv11 jv12 jv13 jv14 jv15 jv16 jv17 jv18 jv19 jv20 jv21 jv22 jv23 jv24 jv25 jv26 jv27 jv28 jv29 jv30 jv31 jv32 jv33 jv34 jv35 jv36 jv37 jv38 jv39 jv40 jv41 jv42 jv43 jv44 jv45 jv46 jv47 jv48 jv49 jv50 jv51 jv52 dF V' TJ _ hl _ hL (wl9.tp τ) kF hV9)) ?_
  rintro v w1 ⟨u, rfl, hN, hb⟩
  rw [Cs.finish_mk]
  have hcat : hl.cats (fun k => hl.hits k (26 ^ (g.n - 1))) 26 = hl.fnd (26 ^ g.n) := by
    have := hl.cats_all (by rw [hln]; exact hn1)
    rw [hln] at this
    exact this
  rw [hcat] at hN
  obtain ⟨n', fr', w', v', k1, k2, k3⟩ := Cs.reach_region (cs := [trap Try.prog]) Try.func13 (bsearch_rest jx0 jx1 jx2 jx3 jx4 jx5 jx6 jx7 jx8 jx9 jx10 jx11 jx12 jx13 jx14 jx15 jx16 jx17 jx18 jx19 jx20 jx21 jx22 jx23 jx24 jx26 jx27 u w1)
  refine ⟨n', fr', w', v', k1, k2, ?_⟩
  obtain ⟨rfl, rfl⟩ := k3
  exact ⟨u, _, rfl, hN⟩
/-- The pool of such a call. -/
noncomputable def cstH (A : Array Value) (vl : Value) (n S0 : Nat) (W w8 : World) (Fd C1 C2 : Nat) : Cst := { n := n, K := 26, S0 := S0, N1 := w8.heap.size, H0 := fun q => w8.heap[q]?, C1 := C1, C2 := C2, Fd := Fd, TF := 116, z1 := .int .i64 0, z2 := .bool false, zs1 := .tuple #[], zs2 := .tuple #[], fB := 66, ar := fun k => #[.agg A, .int .i64 (k : Nat), vl], os0 := W.os, out0 := W.output }
section
variable {A : Array Value} {vl : Value} {n S0 : Nat} {W w4 w8 : World} {Fd C1 C2 bF bD : Nat}
theorem AtH.ok (k : AtH A vl W w4 w8 Fd C1 C2 bF bD) : (cstH A vl n S0 W w8 Fd C1 C2).Ok w8 := ⟨fun _ _ => rfl, ⟨_, k.row, tab_size _ _⟩, Nat.le_refl _, k.env⟩
theorem AtH.low (k : AtH A vl W w4 w8 Fd C1 C2 bF bD) (q : Nat) (hq : q < w4.heap.size) : (cstH A vl n S0 W w8 Fd C1 C2).Fix q := by
  have h0 := k.fd
  have h3 := heap_lt k.row
  have h4 := k.c1.1
  have h5 := k.c2.1
  exact ⟨by show q < w8.heap.size; omega, by show q ≠ Fd; omega, by show q ≠ C1; omega, by show q ≠ C2; omega⟩
theorem AtH.cells (k : AtH A vl W w4 w8 Fd C1 C2 bF bD) {q : Nat} {x : Array Value} {T : TypeId} (hq : w8.heap[q]? = some (.cells x T (0, 0))) (hlt : Fd < q) : (cstH A vl n S0 W w8 Fd C1 C2).Fix q := by
  refine ⟨heap_lt hq, by show q ≠ Fd; omega, fun e => ?_, fun e => ?_⟩
  · have e' : q = C1 := e
    rw [e', k.c1.2] at hq
    cases hq
  · have e' : q = C2 := e
    rw [e', k.c2.2] at hq
    cases hq
theorem AtH.wk (k : AtH A vl W w4 w8 Fd C1 C2 bF bD) (hA : A.size = 55) : Hb.WkP (cstH A vl n S0 W w8 Fd C1 C2) bF W.heap.size (W.heap.size + 1) bD (.agg A) vl := by
  have hiA : (Try.prog.info? 27).map (·.size) = some A.size := by rw [hA]; exact v_info_mac
  have fixF := k.cells (n := n) (S0 := S0) k.bf.2 k.bf.1
  have fixD := k.cells (n := n) (S0 := S0) k.bd.2 k.bd.1
  have fixM := k.low (n := n) (S0 := S0) _ (heap_lt k.lM)
  have fixL := k.low (n := n) (S0 := S0) _ (heap_lt k.lL)
  have lM := (k.h84 _ (heap_lt k.lM)).trans k.lM
  have lL := (k.h84 _ (heap_lt k.lL)).trans k.lL
  refine ⟨⟨fixF, fixM, fixL, fixD⟩, fun w hw => one_cell ((hw.fix _ fixF).trans k.bf.2), fun w hw => one_cell ((hw.fix _ fixD).trans k.bd.2), fun w hw => one_cell ((hw.fix _ fixL).trans lL), fun w hw => ld_row ((hw.fix _ fixM).trans lM) Try.underlying27 rfl hiA, fun w hw e he => ?_⟩
  obtain ⟨ad, e1, e2⟩ := ev_rowX ((hw.fix _ fixM).trans lM) Try.underlying27 rfl hiA e he
  exact ⟨ad, e1, by rw [e2]; exact fixM⟩
end
set_option maxRecDepth 100000 in
set_option maxHeartbeats 8000000 in
theorem bsearch_call (a b c : Value) (g : Gm) (cr te : ByteArray) (hl : Hl) (hBm : BmS g hl cr te) (hW0 : bwE g cr.data.toList te.data.toList = 0) (n : Nat) (hE : swE g (n : Int) = 0) (hfit : ∀ r, r < g.n → g.nl r * 8 ≤ 140737488355328) (hrl : g.rl * 8 ≤ 140737488355328) (A : Array Value) (hA0 : A = mac a b c g.rf g.pl) (W : World) (ha : WhR W a g.n g.wi g.nl g.no) (hb : NumsAt W b g.rl g.ri) (hc : NumsAt W c g.sl g.st) (ra : Rt W a) (rb : Rt W b) (rc : Rt W c) (cal : Frame) (rest : List Frame) {gs : Array Goroutine} {t : Trace} {q : Nat → Nat} (i1 : gs[0]? = some (G ((base 13).at ⟨#[.agg A, .string cr, .string te, .int .i64 (n : Nat), undef, undef, undef, undef, undef, undef, undef, undef, undef, undef, undef, undef, undef, undef, undef, undef, undef, undef, undef, undef, undef, undef, undef, undef], []⟩ [.code bB]) (cal :: rest))) (Q1 : Qt Try.prog gs t q W.heap.size) (sl : Option (Nat × Nat)) :
    ∃ N gs' w' sl' t' q' u, runNT Try.prog N (crowd gs W sl) t = (.next (crowd gs' w' sl'), t') ∧ gs'[0]? = some (G (cal.finish (.tuple #[u, .int .i64 0])) rest) ∧ HsC w' u (hl.fnd (26 ^ g.n)) hl ∧ Kept W w' ∧ Qt Try.prog gs' t' q' w'.heap.size := by
  have hG : Try.prog.globals.size ≤ Fns.G := Nat.le_refl _
  obtain ⟨hn1, hn3, hgE⟩ := swE_n hE
  obtain ⟨_, _, hh1, hh2⟩ := swE_zero hE
  have hA : A.size = 55 := by rw [hA0]; exact mac_size ..
  have I0 : HI W.heap W.os W.output W := ⟨rfl, rfl, rfl⟩
  -- to the call of wrong
  obtain ⟨mu1, G1⟩ := bs_a A hA cr te (n : Int) (cal :: rest) W.heap W.os W.output W I0
  obtain ⟨N1, gs1, w1, sl1, t1, q1, g1, r1, z1, i2, ⟨rfl, I1⟩, Q2⟩ := beside_walk (sl := sl) (fun _ _ _ h => h) (fun g w h => by rw [h.1]; rfl) i1 G1 Q1
  obtain ⟨H1, hH1⟩ : ∃ H1, H1 = (W.heap.push (.cells A 27)).push (.cells #[.string cr] 9) := ⟨_, rfl⟩
  rw [← hH1] at I1
  have o1 : ∀ b, b < W.heap.size → H1[b]? = W.heap[b]? := fun b hb => by rw [hH1]; exact hpush2_old hb
  have d1 : H1[W.heap.size]? = some (.cells A 27) := by rw [hH1]; exact hpush2_one
  have e1 : H1[W.heap.size + 1]? = some (.cells #[.string cr] 9) := by rw [hH1]; exact hpush2_two
  have s1 : H1.size = W.heap.size + 2 := by rw [hH1]; exact hpush2_size
  clear hH1 G1
  have hag1 : ∀ b, b < W.heap.size → w1.heap[b]? = W.heap[b]? := fun b hb => by rw [I1.1, o1 b hb]
  -- wrong
  obtain ⟨E1, wl1, a', b', c', p1, cc1, ra', rb', rc', hm1⟩ := cp_mac (Cp.nil (P := Try.prog) w1) no_type (whr_ag hag1 ha) (nums_ag hag1 hb) (nums_ag hag1 hc) (rt_ag hag1 ra) (rt_ag hag1 rb) (rt_ag hag1 rc)
  have hin : ∀ cs, InCall Try.prog (fun v _ => v = .int .i64 0) cs E1 (G (Frame.enter Try.prog 30 #[.agg (mac a' b' c' g.rf g.pl), .string cr, .string te] .normal) [trap Try.prog]) wl1 (G (Frame.enter Try.prog 30 #[.agg A, .string cr, .string te] .normal) cs) w1 := fun cs => InCall.start (c := cs) fd_fnsCode (f := 30) (by kernel_rfl) (x := #[.agg (mac a' b' c' g.rf g.pl), .string cr, .string te]) (y := #[.agg A, .string cr, .string te]) (lr_cons (.mkAgg (by rw [hA0]; exact lr_mac ra' rb' rc')) (lr_cons (.string _) (lr_cons (.string _) lr_nil))) p1.wr p1.big (fun τ => by
    refine (bwrong_any _ g cr te (wl1.tp τ) hm1).mono ?_
    rintro e w' ⟨rfl, _⟩
    exact ⟨_, rfl, by rw [hW0]⟩)
  obtain ⟨N2, gs2, w2, sl2, t2, q2, E2, v, v', wl2, r2, z2, i3, p2, vr, _, fc2, Q3⟩ := beside_call (sl := sl1) hG fd_fnsCode i2 (hin _) Q2
  subst p2
  cases vr
  have k2 : ∀ b, b < H1.size → w2.heap[b]? = H1[b]? := fun b hb => by
    rw [← I1.1]
    exact fc2.keep b (by rw [I1.1]; exact hb) (fun b' s e => by have := p1.sh _ _ _ _ e; cases this)
  have s2 : H1.size ≤ w2.heap.size := by have := fc2.size; rw [I1.1] at this; exact this
  have I2 : HI w2.heap W.os W.output w2 := ⟨rfl, fc2.os.trans I1.2.1, fc2.output.trans I1.2.2⟩
  clear hin
  -- to the call of menuOf
  obtain ⟨mu3, G3⟩ := bs_b A cr te (n : Int) W.heap.size (W.heap.size + 1) (cal :: rest) w2.heap W.os W.output w2 I2 (by rw [k2 _ (by omega)]; exact e1)
  obtain ⟨N3, gs3, w3, sl3, t3, q3, g3, r3, z3, i4, ⟨rfl, I3⟩, Q4⟩ := beside_walk (sl := sl2) (fun _ _ _ h => h) (fun g w h => by rw [h.1]; rfl) i3 G3 Q3
  clear G3
  -- menuOf
  have p3 := Cp.nil (P := Try.prog) w3
  have hin : ∀ cs, InCall Try.prog (fun v wl => ∃ G vals, v = .pointer (some ⟨G, 0, none⟩) ∧ OnM wl G vals (fun c => Bo.ml (mnu g cr te) c (mnu g cr te).k)) cs _ (G (Frame.enter Try.prog 31 #[.string cr, .string te] .normal) [trap Try.prog]) _ (G (Frame.enter Try.prog 31 #[.string cr, .string te] .normal) cs) w3 := fun cs => InCall.start (c := cs) fd_fnsCode (f := 31) (by kernel_rfl) (x := #[.string cr, .string te]) (y := #[.string cr, .string te]) (lr_cons (.string _) (lr_cons (.string _) lr_nil)) p3.wr p3.big (fun τ => by
    refine (menuOf_any (mnu g cr te) cr te (menu_of hW0) _).mono ?_
    rintro e w' ⟨vals, rfl, h1, _⟩
    exact ⟨_, rfl, _, vals, rfl, h1⟩)
  obtain ⟨N4, gs4, w4, sl4, t4, q4, E4, v, v', wl4, r4, z4, i5, ⟨G4, vals, rfl, hom⟩, vr, wr4, fc4, Q5⟩ := beside_call (sl := sl3) hG fd_fnsCode i4 (hin _) Q4
  obtain ⟨qm, sm, rfl, hmn⟩ := menu_back wr4 hom vr
  have k4 : ∀ b, b < w2.heap.size → w4.heap[b]? = w2.heap[b]? := fun b hb => by
    rw [← I3.1]
    exact fc4.keep b (by rw [I3.1]; exact hb) (fun b' s e => by cases e)
  have s4 : w2.heap.size ≤ w4.heap.size := by have := fc4.size; rw [I3.1] at this; exact this
  have I4 : HI w4.heap W.os W.output w4 := ⟨rfl, fc4.os.trans I3.2.1, fc4.output.trans I3.2.2⟩
  clear hin
  -- to the call of Every
  have hM4 : w4.heap[W.heap.size]? = some (.cells A 27 (0, 0)) := by rw [k4 _ (by omega), k2 _ (by omega)]; exact d1
  have hC4 : w4.heap[W.heap.size + 1]? = some (.cells #[.string cr] 9 (0, 0)) := by rw [k4 _ (by omega), k2 _ (by omega)]; exact e1
  obtain ⟨mu5, G5⟩ := bs_c A hA cr te (n : Int) W.heap.size (W.heap.size + 1) ⟨qm, sm, none⟩ (cal :: rest) w4.heap W.os W.output w4 I4 hM4
  obtain ⟨N5, gs5, w5, sl5, t5, q5, g5, r5, z5, i6, ⟨rfl, I5⟩, Q6⟩ := beside_walk (sl := sl4) (fun _ _ _ h => h) (fun g w h => by rw [h.1]; rfl) i5 G5 Q5
  clear G5
  have s5 : w5.heap.size = w4.heap.size + 1 := by rw [I5.1, Array.size_push]
  have k5 : ∀ b, b < w4.heap.size → w5.heap[b]? = w4.heap[b]? := fun b hb => by rw [I5.1, Array.getElem?_push, if_neg (by omega)]
  have hN5 : w5.heap[w4.heap.size]? = some (.cells #[.pointer (some ⟨qm, sm, none⟩)] 74 (0, 0)) := by rw [I5.1, Array.getElem?_push, if_pos rfl]
  have hC5 := (k5 _ (heap_lt hC4)).trans hC4
  have hag5 : ∀ b, b < W.heap.size → w5.heap[b]? = W.heap[b]? := fun b hb => by
    rw [k5 b (by omega), k4 b (by omega), k2 b (by omega), o1 b hb]
  -- to the first 'go'
  obtain ⟨N6, gs6, w6, w8, sl6, t6, q6, g8, Fd, C1, C2, bF, bD, r6, hgs, i8, hrun, hgo, F8, k⟩ := every_to_goH a b c g n hE 33 #[] #[.pointer (some ⟨w4.heap.size, 0, none⟩), .pointer (some ⟨W.heap.size + 1, 0, none⟩)] w5 (whr_ag hag5 ha) (nums_ag hag5 hb) (nums_ag hag5 hc) (rt_ag hag5 ra) (rt_ag hag5 rb) (rt_ag hag5 rc) A hA0 _ i6 Q6 sl5
  obtain ⟨vl, hvl⟩ : ∃ vl, vl = Value.func (.func 33) #[] #[.pointer (some ⟨w4.heap.size, 0, none⟩), .pointer (some ⟨W.heap.size + 1, 0, none⟩)] := ⟨_, rfl⟩
  rw [← hvl] at k
  have wk := k.wk (n := n) (S0 := gs6.size) hA
  have hag := k.old4
  have ok := k.ok (n := n) (S0 := gs6.size)
  have low := k.low (n := n) (S0 := gs6.size)
  have h84 := k.h84
  have hpre : ∀ w, (cstH A vl n gs6.size w5 w8 Fd C1 C2).Ok w → ∀ b, b < w6.heap.size → w.heap[b]? = w6.heap[b]? := fun w hw b hb => (hw.fix b (low b hb)).trans (h84 b hb)
  have hs6 : w5.heap.size ≤ w6.heap.size := by
    have := heap_lt k.lM
    omega
  have dd1 : C1 < w8.heap.size ∧ C2 < w8.heap.size ∧ Fd < w8.heap.size ∧ C1 ≠ C2 ∧ C1 ≠ Fd ∧ C2 ≠ Fd := ⟨heap_lt k.c1.2, heap_lt k.c2.2, heap_lt k.row, k.ne, by have := k.c1.1; omega, by have := k.c2.1; omega⟩
  have hWk : Walk Try.prog (cstH A vl n gs6.size w5 w8 Fd C1 C2) true (Hb.eGoP (cstH A vl n gs6.size w5 w8 Fd C1 C2) bF w5.heap.size (w5.heap.size + 1) bD n _ 0) 0 g8 w8 := Goes.stop fun _ _ => ⟨hrun, hgo _ rfl⟩
  have hc1 := k.c1.2
  have hc2 := k.c2.2
  have hfd : ∀ j x ad, touchAt t6 j = some x → x.loc = .cell ad → ad.block ≠ Fd := fun j x ad e1 e2 => F8.pl j x e1 ad e2
  have hq := F8.qt
  have wk' : Hb.WkP (cstH A vl n gs6.size w5 w8 Fd C1 C2) bF w5.heap.size (w5.heap.size + 1) bD (.agg (mac a b c g.rf g.pl)) (.func (.func 33) #[] #[.pointer (some ⟨w4.heap.size, 0, none⟩), .pointer (some ⟨W.heap.size + 1, 0, none⟩)]) := by rw [← hA0, ← hvl]; exact wk
  have har : (cstH A vl n gs6.size w5 w8 Fd C1 C2).ar = fun k => #[.agg (mac a b c g.rf g.pl), .int .i64 (k : Nat), .func (.func 33) #[] #[.pointer (some ⟨w4.heap.size, 0, none⟩), .pointer (some ⟨W.heap.size + 1, 0, none⟩)]] := by rw [← hA0, ← hvl]; rfl
  have h0s : 1 ≤ gs6.size := by have := idx_lt i8; omega
  have hagm : ∀ b, b < w4.heap.size → w6.heap[b]? = w4.heap[b]? := fun b hb => (hag b (by omega)).trans (k5 b hb)
  have hagW : ∀ b, b < W.heap.size → w6.heap[b]? = W.heap[b]? := fun b hb => (hag b (by omega)).trans (hag5 b hb)
  have hN6 := (hag _ (heap_lt hN5)).trans hN5
  have hC6 := (hag _ (heap_lt hC5)).trans hC5
  clear k wk F8 hgo
  generalize hcst : cstH A vl n gs6.size w5 w8 Fd C1 C2 = cst at *
  have e1 : cst.n = n := by rw [← hcst]; rfl
  have e2 : cst.K = 26 := by rw [← hcst]; rfl
  have e3 : cst.z1 = .int .i64 0 ∧ cst.z2 = .bool false ∧ cst.zs1 = .tuple #[] ∧ cst.zs2 = .tuple #[] := by rw [← hcst]; exact ⟨rfl, rfl, rfl, rfl⟩
  have e4 : cst.fB = 66 := by rw [← hcst]; rfl
  have e5 : cst.S0 = gs6.size := by rw [← hcst]; rfl
  have e6 : cst.C1 = C1 := by rw [← hcst]; rfl
  have e7 : cst.C2 = C2 := by rw [← hcst]; rfl
  have e8 : cst.Fd = Fd := by rw [← hcst]; rfl
  have e9 : cst.N1 = w8.heap.size := by rw [← hcst]; rfl
  have e10 : cst.os0 = w5.os := by rw [← hcst]; rfl
  have e11 : cst.out0 = w5.output := by rw [← hcst]; rfl
  clear hcst
  rw [← e1] at hWk
  obtain ⟨N7, gs7, w7, sl7, t7, q7, V, v0, v2, v4, v6, v7, v8, v12, v13, v14, v15, v16, v17, v18, v19, v20, v21, v22, v23, v24, v25, v26, v27, v28, v29, v30, v31, v32, v33, v34, v35, v36, v37, v38, v39, v40, v41, v42, v43, v44, v45, v46, v47, v48, v49, v50, v51, v52, r7, i7, hF, hV, ok7, Q7⟩ := pool_joinH cst bF w5.heap.size (w5.heap.size + 1) bD w4.heap.size (W.heap.size + 1) qm sm a b c g cr te hl hBm (cst.n : Int) (by rw [e1]; exact hE) hfit hrl _ _ _ _ w6 hpre low hN6 hC6 (menu_ag hagm hmn) (whr_ag hagW ha) (nums_ag hagW hb) (nums_ag hagW hc) (rt_ag hagW ra) (rt_ag hagW rb) (rt_ag hagW rc) wk' ⟨by omega, by omega⟩ e2 e3 e4 har (by omega) (by rw [e6, e7, e8, e9]; exact dd1) _ (by rw [e5]) i8 hq hWk ok (by rw [e6]; exact hc1) (by rw [e7]; exact hc2) (by rw [e8]; exact hfd) sl6
  obtain ⟨E, gl, wl, hin, hsh⟩ := bsearch_ghost v0 (.int .i64 (cst.n : Nat)) v2 (.pointer (some ⟨w5.heap.size, 0, none⟩)) v4 (.pointer (some ⟨w5.heap.size + 1, 0, none⟩)) v6 v7 v8 (.pointer (some ⟨bF, 0, none⟩)) (.pointer (some ⟨bD, 0, none⟩)) v12 v13 v14 v15 v16 v17 v18 v19 v20 v21 v22 v23 v24 v25 v26 v27 v28 v29 v30 v31 v32 v33 v34 v35 v36 v37 v38 v39 v40 v41 v42 v43 v44 v45 v46 v47 v48 v49 v50 v51 v52 _ _ _ _ _ _ _ _ _ _ _ _ _ _ _ _ _ _ _ _ _ _ _ _ _ _ _ _ cst.Fd V g hl hBm.n (n : Int) hE 1000000000 _ _ w7 no_type hF hV (cal :: rest)
  obtain ⟨N9, gs9, w9, sl9, t9, q9, E9, v, v', wl9, r9, z9, i9, ⟨u, B9, rfl, hNN⟩, vr, wr9, fc9, Q9⟩ := beside_call (sl := sl7) hG fd_fnsCode i7 hin Q7
  obtain ⟨u', rfl, hu'⟩ : ∃ u', v' = .tuple #[u', .int .i64 0] ∧ VR E9 u u' := by
    cases vr with
    | tuple hs hv =>
      rename_i y
      have h0 : 0 < y.size := by rw [← hs]; exact Nat.zero_lt_two
      have h1 : 1 < y.size := by rw [← hs]; exact Nat.one_lt_two
      have k0 := hv 0 u _ rfl (Array.getElem?_eq_getElem h0)
      have k1 := hv 1 (.int .i64 0) _ rfl (Array.getElem?_eq_getElem h1)
      have e1 : y[1] = .int .i64 0 := by
        revert k1
        generalize y[1] = z
        intro k1
        cases k1
        rfl
      refine ⟨y[0], ?_, k0⟩
      congr 1
      refine Array.ext (by rw [← hs]; rfl) fun i hi1 hi2 => ?_
      rcases (by simp at hi2; omega : i = 0 ∨ i = 1) with rfl | rfl
      · rfl
      · exact e1
  have hln := hBm.n
  refine ⟨N1 + (N2 + (N3 + (N4 + (N5 + (N6 + (N7 + N9)))))), gs9, w9, sl9, t9, q9, u', ?_, i9, halts_back2 wr9 (by rw [hln]; unfold maxLen; omega) (by omega) (fun N hN => ?_) hNN hu', ?_, Q9⟩
  · rw [runNT_add, r1]
    show runNT Try.prog (N2 + (N3 + (N4 + (N5 + (N6 + (N7 + N9)))))) (crowd gs1 w1 sl1) t1 = _
    rw [runNT_add, r2]
    show runNT Try.prog (N3 + (N4 + (N5 + (N6 + (N7 + N9))))) (crowd gs2 w2 sl2) t2 = _
    rw [runNT_add, r3]
    show runNT Try.prog (N4 + (N5 + (N6 + (N7 + N9)))) (crowd gs3 w3 sl3) t3 = _
    rw [runNT_add, r4]
    show runNT Try.prog (N5 + (N6 + (N7 + N9))) (crowd gs4 w4 sl4) t4 = _
    rw [runNT_add, r5]
    show runNT Try.prog (N6 + (N7 + N9)) (crowd gs5 w5 sl5) t5 = _
    rw [runNT_add, r6]
    show runNT Try.prog (N7 + N9) (crowd gs6 w8 sl6) t6 = _
    rw [runNT_add, r7]
    exact r9
  · obtain ⟨k, hk⟩ := List.mem_iff_getElem?.1 hN
    exact (hl.p_of_fnd hk).1
  · refine ⟨fun b hb => ?_, fc9.os.trans (ok7.env.1.trans (e10.trans I5.2.1)), fc9.output.trans (ok7.env.2.trans (e11.trans I5.2.2))⟩
    have h1 := (hpre w7 ok7 b (by omega)).trans (hagW b hb)
    have h2 : b < w7.heap.size := by
      have h3 : (w7.heap[b]?).isSome = true := by rw [h1]; simp [hb]
      simpa using h3
    exact (fc9.keep b h2 (fun b' s e => by have := hsh _ _ _ _ e; cases this)).trans h1
end Go.Proofs.Ytbbpbcmpemmgjaa
