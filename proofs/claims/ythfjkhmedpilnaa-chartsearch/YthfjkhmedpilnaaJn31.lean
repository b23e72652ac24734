/-
  Several texts, joined: FdV, FeA, FeB.
-/
import Derived.Test.YthfjkhmedpilnaaJn30
import Derived.Conc.LeavingOf
import Derived.LoneHanded
/-
  A lone call's run is as good as one in company.
-/
namespace Go.Proofs.Ythfjkhmedpilnaa
open Go.Conc

theorem lone_good {P : Program} {f : FuncId} {args : Array Value} {w : World} {R : Value → World → Prop} (h : Calls P f args w fun e w' => ∃ v, e = .returned v ∧ R v w') (hi : P.inits.idxOf? f = none) :
    ∃ N last o w' t', runNT P (N + 1) (solo (G (Frame.enter P f args .normal) []) w) #[] = (.ended o w', t') ∧ runN P N (solo (G (Frame.enter P f args .normal) []) w) = .next last ∧ step P last = .ended o w' ∧ Conc.Good P R last o w' t' := by
  have h' : Calls P f args w fun | .returned v, w' => R v w' | _, _ => False := h.mono fun e w' ⟨v, e1, e2⟩ => by
    subst e1
    exact e2
  obtain ⟨n, v, w', fr, hn, hend, hp⟩ := h'.done_lone hi
  have hall := allBy_of_lone P n _ _ hn (by simp [lone]) rfl
  have hT : runNT P (n + 1) (lone (Frame.enter P f args .normal) [] w) #[] = (.ended (.done v) w', (runNT P (n + 1) (lone (Frame.enter P f args .normal) [] w) #[]).2) := by
    refine Prod.ext ?_ rfl
    rw [runNT_fst]
    exact hend
  obtain ⟨_, a2, a3⟩ := alone_of_lone (w' := w') hn
  refine ⟨n, _, _, _, _, hT, hn, step_of_runs hn hend, v, rfl, hp, fun said => ?_, a2, ⟨fun g hg => by simp [lone] at hg, rfl⟩, a3⟩
  exact not_race_of_allBy hall
end Go.Proofs.Ythfjkhmedpilnaa

/-
  A call of chart.Find beside goroutines that only leave: to its first 'go'.
-/
namespace Go.Proofs.Ythfjkhmedpilnaa
open Go.RowKit PK Vg Go.Conc Cs
/-- What stands there at the first 'go'. -/
structure AtG (A B : Array Value) (W w4 w8 : World) (h2 Fd C1 C2 bF bD : Nat) : Prop where
  old4 : ∀ b, b < W.heap.size → w4.heap[b]? = W.heap[b]?
  bT : w4.heap[W.heap.size + 1]? = some (.cells B 28 (0, 0))
  lM : w4.heap[h2]? = some (.cells A 27 (0, 0))
  lL : w4.heap[h2 + 1]? = some (.cells #[.func (.func 20) #[] #[.pointer (some ⟨W.heap.size + 1, 0, none⟩)]] 58 (0, 0))
  fd : Fd = w4.heap.size
  h84 : ∀ b, b < w4.heap.size → w8.heap[b]? = w4.heap[b]?
  row : w8.heap[Fd]? = some (.cells (tab 26 fun _ => .slice none 0 0) 94 (0, 0))
  c1 : Fd < C1 ∧ w8.heap[C1]? = some (.chan 0 #[] false 0 0 false)
  c2 : Fd < C2 ∧ w8.heap[C2]? = some (.chan 0 #[] false 0 0 false)
  ne : C1 ≠ C2
  bf : Fd < bF ∧ w8.heap[bF]? = some (.cells #[.chan (some C1)] 95 (0, 0))
  bd : Fd < bD ∧ w8.heap[bD]? = some (.cells #[.chan (some C2)] 96 (0, 0))
  env : w8.os = W.os ∧ w8.output = W.output
set_option maxRecDepth 100000 in
set_option maxHeartbeats 8000000 in
theorem find_to_go (a b c : Value) (g : Gm) (B : Array Value) (n : Nat) (hE : swE g (n : Int) = 0) (W : World) (ha : WhR W a g.n g.wi g.nl g.no) (hb : NumsAt W b g.rl g.ri) (hc : NumsAt W c g.sl g.st) (ra : Rt W a) (rb : Rt W b) (rc : Rt W c) (A : Array Value) (hA0 : A = mac a b c g.rf g.pl) (cs : List Frame) {gs : Array Goroutine} {t : Trace} {q : Nat → Nat} (i1 : gs[0]? = some (G ((base 7).at ⟨#[.agg A, .agg B, .int .i64 (n : Nat), undef, undef, undef, undef, undef, undef, undef, undef, undef, undef, undef], []⟩ [.code fB]) cs)) (Q1 : Qt Try.prog gs t q W.heap.size) (sl1 : Option (Nat × Nat)) :
    ∃ N gs' w4 w8 sl' t' q' g8 h2 Fd C1 C2 bF bD, runNT Try.prog N (crowd gs W sl1) t = (.next (crowd gs' w8 sl'), t') ∧ gs'.size = gs.size ∧ gs'[0]? = some g8 ∧ g8.status = .running ∧ (∀ c : Cst, c.Fd = Fd → eGoP c bF h2 (h2 + 1) bD n ((base 7).at ⟨#[.agg A, .agg B, .int .i64 (n : Nat), .pointer (some ⟨W.heap.size, 0, none⟩), .pointer (some ⟨W.heap.size + 1, 0, none⟩), undef, .slice none 0 0, .int .i64 0, .agg A, .int .i64 (n : Nat), .func (.func 20) #[] #[.pointer (some ⟨W.heap.size + 1, 0, none⟩)], undef, undef, undef], []⟩ [.inRegion fO1 (3 :: List.range' 4 4), .code .ret] :: cs) 0 g8) ∧ QtF (fun x => ∀ ad, x.loc = .cell ad → ad.block ≠ Fd) Try.prog gs' t' q' w8.heap.size ∧ AtG A B W w4 w8 h2 Fd C1 C2 bF bD := by
  obtain ⟨_, _, hh1, hh2⟩ := swE_zero hE
  have hG : Try.prog.globals.size ≤ Fns.G := Nat.le_refl _
  have hA : A.size = 55 := by rw [hA0]; exact mac_size ..
  have I1 : HI W.heap W.os W.output W := ⟨rfl, rfl, rfl⟩
  -- Find, to the call of Every
  obtain ⟨mu2, G2⟩ := find_head A B hA (n : Int) cs W.heap W.os W.output W I1
  obtain ⟨N2, gs2, w2, sl2, t2, q2, g2, r2, z2, i2, ⟨rfl, I2⟩, Q2⟩ := beside_walk (sl := sl1) (fun _ _ _ h => h) (fun g w h => by rw [h.1]; rfl) i1 G2 Q1
  obtain ⟨H2, hH2⟩ : ∃ H2, H2 = (W.heap.push (.cells A 27)).push (.cells B 28) := ⟨_, rfl⟩
  rw [← hH2] at I2
  have o2 : ∀ b, b < W.heap.size → H2[b]? = W.heap[b]? := fun b hb => by rw [hH2]; exact push2_old hb
  have e2 : H2[W.heap.size + 1]? = some (.cells B 28) := by rw [hH2]; exact push2_two
  have s2 : H2.size = W.heap.size + 2 := by rw [hH2]; exact push2_size
  clear hH2 G2
  -- Every, to the call of searchWrong
  obtain ⟨mu3, G3⟩ := every_head A hA (n : Int) 20 #[] #[.pointer (some ⟨W.heap.size + 1, 0, none⟩)] _ H2 W.os W.output w2 I2
  obtain ⟨N3, gs3, w3, sl3, t3, q3, g3, r3, z3, i3, ⟨rfl, I3⟩, Q3⟩ := beside_walk (sl := sl2) (fun _ _ _ h => h) (fun g w h => by rw [h.1]; rfl) i2 G3 Q2
  obtain ⟨H3, hH3⟩ : ∃ H3, H3 = (H2.push (.cells A 27)).push (.cells #[.func (.func 20) #[] #[.pointer (some ⟨W.heap.size + 1, 0, none⟩)]] 58) := ⟨_, rfl⟩
  rw [← hH3] at I3
  have o3 : ∀ b, b < H2.size → H3[b]? = H2[b]? := fun b hb => by rw [hH3]; exact push2_old hb
  have d3 : H3[H2.size]? = some (.cells A 27) := by rw [hH3]; exact push2_one
  have e3 : H3[H2.size + 1]? = some (.cells #[.func (.func 20) #[] #[.pointer (some ⟨W.heap.size + 1, 0, none⟩)]] 58) := by rw [hH3]; exact push2_two
  have s3 : H3.size = H2.size + 2 := by rw [hH3]; exact push2_size
  clear hH3 G3
  have hag3 : ∀ b, b < W.heap.size → w3.heap[b]? = W.heap[b]? := fun b hb => by
    rw [I3.1, o3 b (by omega), o2 b hb]
  -- searchWrong
  obtain ⟨E1, wl1, a', b', c', p1, c1, ra', rb', rc', hm1⟩ := cp_mac (Cp.nil (P := Try.prog) w3) no_type (whr_ag hag3 ha) (nums_ag hag3 hb) (nums_ag hag3 hc) (rt_ag hag3 ra) (rt_ag hag3 rb) (rt_ag hag3 rc)
  have hin : ∀ cs, InCall Try.prog (fun v _ => v = .int .i64 0) cs E1 (G (Frame.enter Try.prog 48 #[.agg (mac a' b' c' g.rf g.pl), .int .i64 (n : Nat)] .normal) [trap Try.prog]) wl1 (G (Frame.enter Try.prog 48 #[.agg A, .int .i64 (n : Nat)] .normal) cs) w3 := fun cs => InCall.start (c := cs) fd_fnsCode (f := 48) (by kernel_rfl) (x := #[.agg (mac a' b' c' g.rf g.pl), .int .i64 (n : Nat)]) (y := #[.agg A, .int .i64 (n : Nat)]) (lr_cons (.mkAgg (by rw [hA0]; exact lr_mac ra' rb' rc')) (lr_cons (.int _ _) lr_nil)) p1.wr p1.big (fun τ => by
    refine (psw_any _ g (n : Int) (wl1.tp τ) hm1).mono ?_
    rintro e w' ⟨rfl, _⟩
    exact ⟨_, rfl, by rw [hE]⟩)
  obtain ⟨N4, gs4, w4, sl4, t4, q4, E4, v, v', wl4, r4, z4, i4, p4, vr, _, fc4, Q4⟩ := beside_call (sl := sl3) hG fd_fnsCode i3 (hin _) Q3
  subst p4
  cases vr
  have k4 : ∀ b, b < H3.size → w4.heap[b]? = H3[b]? := fun b hb => by
    rw [← I3.1]
    exact fc4.keep b (by rw [I3.1]; exact hb) (fun b' s e => by have := p1.sh _ _ _ _ e; cases this)
  have s4 : H3.size ≤ w4.heap.size := by have := fc4.size; rw [I3.1] at this; exact this
  have I4 : HI w4.heap W.os W.output w4 := ⟨rfl, fc4.os.trans I3.2.1, fc4.output.trans I3.2.2⟩
  have e4 : w4.heap[H2.size + 1]? = some (.cells #[.func (.func 20) #[] #[.pointer (some ⟨W.heap.size + 1, 0, none⟩)]] 58 (0, 0)) := by rw [k4 _ (by omega)]; exact e3
  have hag4 : ∀ b, b < W.heap.size → w4.heap[b]? = W.heap[b]? := fun b hb => by
    rw [k4 b (by omega), o3 b (by omega), o2 b hb]
  -- Every, on to its first 'go'
  obtain ⟨mu5, G5⟩ := every_a A n 20 #[] #[.pointer (some ⟨W.heap.size + 1, 0, none⟩)] H2.size (H2.size + 1) _ w4.heap W.os W.output w4 I4 e4
  obtain ⟨N5, gs5, w5, sl5, t5, q5, g5, r5, z5, i5, ⟨rfl, I5⟩, Q5⟩ := beside_walk (sl := sl4) (fun _ _ _ h => h) (fun g w h => by rw [h.1]; rfl) i4 G5 Q4
  obtain ⟨Fd, hFd⟩ : ∃ Fd, Fd = w4.heap.size := ⟨_, rfl⟩
  have F5 : QtF (fun x => ∀ ad, x.loc = .cell ad → ad.block ≠ Fd) Try.prog gs5 t5 q5 w5.heap.size := ⟨Q5, fun j x hx ad e => by
    have h1 := Q5.low j x hx
    rw [e] at h1
    have h2 : ad.block < w5.heap.size := h1
    rw [I5.1] at h2
    omega⟩
  obtain ⟨mu6, G6⟩ := every_a2 Fd A n 20 #[] #[.pointer (some ⟨W.heap.size + 1, 0, none⟩)] H2.size (H2.size + 1) _ w4.heap W.os W.output w5 I5
  obtain ⟨N6, gs6, w6, sl6, t6, q6, g6, r6, z6, i6, ⟨rfl, I6⟩, F6⟩ := beside_walk_f (sl := sl5) (fun _ _ _ h => h) (fun g w h => by rw [h.1]; rfl) i5 G6 F5
  rw [← hFd] at i6
  obtain ⟨H6, hH6⟩ : ∃ H6, H6 = w4.heap.push (.cells (tab 26 fun _ => .slice none 0 0) 94) := ⟨_, rfl⟩
  rw [← hH6] at I6
  have o6 : ∀ b, b < Fd → H6[b]? = w4.heap[b]? := fun b hb => by rw [hH6, Array.getElem?_push, if_neg (by omega)]
  have d6 : H6[Fd]? = some (.cells (tab 26 fun _ => .slice none 0 0) 94) := by rw [hH6, Array.getElem?_push, if_pos hFd]
  have s6 : H6.size = Fd + 1 := by rw [hH6, Array.size_push]; omega
  clear hH6
  have Z6 : Z7 H6 W.os W.output w6 := ⟨fun b _ => by rw [I6.1], by rw [I6.1]; exact Nat.le_refl _, I6.2.1, I6.2.2⟩
  obtain ⟨mu7, G7⟩ := every_b (n := n) (bM := H2.size) (bL := H2.size + 1) (Fd := Fd) (by omega) Z6 _
  obtain ⟨N7, gs7, w7, sl7, t7, q7, g7, r7, z7, i7, hst7, F7⟩ := beside_walk_f (sl := sl6) (fun _ _ _ h => h) (fun g w h => by obtain ⟨_, _, _, _, _, _, _, _, _, _, _, _, _, _, _, _, _, _, _, _, _, _, _, _, _, _, _, _, _, _, _, _, _, _, _, _, _, _, _, _, _, _, _, _, _, _, _, _, _, e, _⟩ := h; rw [e]; rfl) i6 G7 F6
  obtain ⟨C1, C2, bF, bD, u0, u2, u4, u6, u7, u8, u12, u13, u14, u15, u16, u17, u18, u19, u20, u21, u22, u23, u26, u27, u28, u29, u30, u31, u32, u33, u34, u35, u36, u37, u38, u39, u40, u41, u42, u43, u44, u45, u46, u47, u48, u49, u50, u51, u52, rfl, Z7', zc1, zc2, hcc, zb1, zb2⟩ := hst7
  obtain ⟨mu8, G8⟩ := every_c (n := n) (bM := H2.size) (bL := H2.size + 1) (Fd := Fd) (C1 := C1) (C2 := C2) (bF := bF) (bD := bD) (H := w7.heap) (w := w7) ⟨rfl, Z7'.os, Z7'.output⟩ (by omega) _
  obtain ⟨N8, gs8, w8, sl8, t8, q8, g8, r8, z8, i8, ⟨hrun8, hgo8, I8⟩, F8⟩ := beside_walk_f (sl := sl7) (fun _ _ _ h => h) (fun g w h => h.1) i7 G8 F7
  have h84 : ∀ b, b < w4.heap.size → w8.heap[b]? = w4.heap[b]? := fun b hb => by
    rw [I8.1, Z7'.old b (by omega), o6 b (by omega)]
  refine ⟨N2 + (N3 + (N4 + (N5 + (N6 + (N7 + N8))))), gs8, w4, w8, sl8, t8, q8, g8, H2.size, Fd, C1, C2, bF, bD, ?_, by rw [z8, z7, z6, z5, z4, z3, z2], i8, hrun8, hgo8, F8, ?_⟩
  · rw [runNT_add, r2]
    show runNT Try.prog (N3 + (N4 + (N5 + (N6 + (N7 + N8))))) (crowd gs2 w2 sl2) t2 = _
    rw [runNT_add, r3]
    show runNT Try.prog (N4 + (N5 + (N6 + (N7 + N8)))) (crowd gs3 w3 sl3) t3 = _
    rw [runNT_add, r4]
    show runNT Try.prog (N5 + (N6 + (N7 + N8))) (crowd gs4 w4 sl4) t4 = _
    rw [runNT_add, r5]
    show runNT Try.prog (N6 + (N7 + N8)) (crowd gs5 w5 sl5) t5 = _
    rw [runNT_add, r6]
    show runNT Try.prog (N7 + N8) (crowd gs6 w6 sl6) t6 = _
    rw [runNT_add, r7]
    exact r8
  · exact ⟨hag4, by rw [k4 _ (by omega), o3 _ (by omega)]; exact e2, by rw [k4 _ (by omega)]; exact d3, e4, hFd, h84, by rw [I8.1, Z7'.old Fd (by omega)]; exact d6, ⟨by have := zc1.1; omega, by rw [I8.1]; exact zc1.2⟩, ⟨by have := zc2.1; omega, by rw [I8.1]; exact zc2.2⟩, hcc, ⟨by have := zb1.1; omega, by rw [I8.1]; exact zb1.2⟩, ⟨by have := zb2.1; omega, by rw [I8.1]; exact zb2.2⟩, I8.2.1, I8.2.2⟩
end Go.Proofs.Ythfjkhmedpilnaa

/-
  A call of chart.Find beside goroutines that only leave: from its first 'go' to behind the last receive.
-/
namespace Go.Proofs.Ythfjkhmedpilnaa
open Go.RowKit PK Vg Go.Conc Cs
set_option maxRecDepth 100000 in
set_option maxHeartbeats 4000000 in
theorem pool_join (x0 x1 x2 x3 x4 x5 x6 x7 x8 x9 x10 x11 x12 x13 : Value) (cst : Cst) (bF bM bL bD bT : Nat) (a b c : Value) (g : Gm) (U : Nat → Value) (m : Nat → Nat) (fb : Nat → Nat → Int) (h : Int) (hE : swE g h = 0) (hfit : ∀ r, r < g.n → g.nl r * 8 ≤ 140737488355328) (hrl : g.rl * 8 ≤ 140737488355328) (TT : TypeId) (fT : Nat × Nat) (wp : World)
    (hpre : ∀ w, cst.Ok w → ∀ b, b < wp.heap.size → w.heap[b]? = wp.heap[b]?) (hfix : ∀ q, q < wp.heap.size → cst.Fix q)
    (hT : wp.heap[bT]? = some (.cells (tab 3 U) TT fT)) (ha : WhR wp a g.n g.wi g.nl g.no) (hb : NumsAt wp b g.rl g.ri) (hc : NumsAt wp c g.sl g.st) (ra : Rt wp a) (rb : Rt wp b) (rc : Rt wp c) (hU : ∀ i, i < 3 → NumsAt wp (U i) (m i) (fb i) ∧ Rt wp (U i))
    (wk : WkP cst bF bM bL bD (.agg (mac a b c g.rf g.pl)) (.func (.func 20) #[] #[.pointer (some ⟨bT, 0, none⟩)])) (hn : 1 ≤ cst.n ∧ cst.n ≤ 1000) (hK : cst.K = 26) (hz : cst.z1 = .int .i64 0 ∧ cst.z2 = .bool false ∧ cst.zs1 = .tuple #[] ∧ cst.zs2 = .tuple #[]) (hB : cst.fB = 50) (har : cst.ar = fun k => #[.agg (mac a b c g.rf g.pl), .int .i64 (k : Nat), .func (.func 20) #[] #[.pointer (some ⟨bT, 0, none⟩)]]) (s1 : 1 ≤ cst.S0) (d1 : cst.C1 < cst.N1 ∧ cst.C2 < cst.N1 ∧ cst.Fd < cst.N1 ∧ cst.C1 ≠ cst.C2 ∧ cst.C1 ≠ cst.Fd ∧ cst.C2 ≠ cst.Fd)
(cs : List Frame) {gs : Array Goroutine} {t : Trace} {q : Nat → Nat} {g0 : Goroutine} {w : World} (hS : cst.S0 = gs.size) (h0 : gs[0]? = some g0) (hq : Qt Try.prog gs t q w.heap.size) {μ : Nat} (hw : Walk Try.prog cst true (eGoP cst bF bM bL bD cst.n (mkF 7 #[x0, x1, x2, x3, x4, x5, x6, x7, x8, x9, x10, x11, x12, x13] [.inRegion fO1 (3 :: List.range' 4 4), .code .ret] .run :: cs) 0) μ g0 w) (ok : cst.Ok w) (c1 : w.heap[cst.C1]? = some (.chan 0 #[] false 0 0 false)) (c2 : w.heap[cst.C2]? = some (.chan 0 #[] false 0 0 false)) (fd : ∀ j a ad, touchAt t j = some a → a.loc = .cell ad → ad.block ≠ cst.Fd) (sl : Option (Nat × Nat)) :
    ∃ N gs' w' sl' t' q' V, ∃ v0 v2 v4 v6 v7 v8 v12 v13 v14 v15 v16 v17 v18 v19 v20 v21 v22 v23 v24 v25 v26 v27 v28 v29 v30 v31 v32 v33 v34 v35 v36 v37 v38 v39 v40 v41 v42 v43 v44 v45 v46 v47 v48 v49 v50 v51 v52 : Value, runNT Try.prog N (crowd gs w sl) t = (.next (crowd gs' w' sl'), t') ∧ gs'[0]? = some (G (mkF 19 #[v0, .int .i64 (cst.n : Nat), v2, .pointer (some ⟨bM, 0, none⟩), v4, .pointer (some ⟨bL, 0, none⟩), v6, v7, v8, .pointer (some ⟨cst.Fd, 0, none⟩), .pointer (some ⟨bF, 0, none⟩), .pointer (some ⟨bD, 0, none⟩), v12, v13, v14, v15, v16, v17, v18, v19, v20, v21, v22, v23, v24, v25, v26, v27, v28, v29, v30, v31, v32, v33, v34, v35, v36, v37, v38, v39, v40, v41, v42, v43, v44, v45, v46, v47, v48, v49, v50, v51, v52] [.code eT5] .run) (mkF 7 #[x0, x1, x2, x3, x4, x5, x6, x7, x8, x9, x10, x11, x12, x13] [.inRegion fO1 (3 :: List.range' 4 4), .code .ret] .run :: cs)) ∧ w'.heap[cst.Fd]? = some (.cells (tab 26 V) cst.TF (0, 0)) ∧ (∀ k, k < 26 → LsC w' (V k) (hitsTo g m fb k (26 ^ (g.n - 1))) g.n) ∧ cst.Ok w' ∧ Qt Try.prog gs' t' q' w'.heap.size := by
  have hG : Try.prog.globals.size ≤ Fns.G := Nat.le_refl _
  obtain ⟨hgE, hn3, _, _⟩ := swE_zero hE
  let S := everyScr (Post := fun k v wl => ∃ B, LsOwn wl B v (hitsTo g m fb k (26 ^ (g.n - 1))) g.n) cst bF bM bL bD _ _ (mkF 7 #[x0, x1, x2, x3, x4, x5, x6, x7, x8, x9, x10, x11, x12, x13] [.inRegion fO1 (3 :: List.range' 4 4), .code .ret] .run :: cs) wk hn hK hz hB har s1 d1 (by rw [hB]; kernel_rfl) (fun k hk w hw => by
      obtain ⟨E, wl, x, k1, k2, k3, k4, k5⟩ := job_ghost k (by omega) bT a b c g U m fb h hE hfit hrl TT fT wp hT ha hb hc ra rb rc hU
      refine ⟨E, wl, x, fun b q s o e => ⟨(k1 b q s o e).1, hfix q (k1 b q s o e).2⟩, by rw [har]; exact k2, wr_move k3 fun b x e => ?_, k4, fun τ => ?_⟩
      · obtain ⟨q, s, o⟩ := x
        exact hpre w hw q (k1 b q s o e).2
      · rw [hB]
        refine (k5 τ).mono ?_
        rintro e w' ⟨v, rfl, hv⟩
        exact ⟨v, rfl, _, hv⟩) (fun k v wl E v' hp hr => by
      obtain ⟨B, hp⟩ := hp
      obtain ⟨vs, ⟨_, h2⟩, _⟩ := hp
      generalize (hitsTo g m fb k (26 ^ (g.n - 1))).length = nn at h2
      rcases h2 with ⟨rfl, _⟩ | ⟨_, _, _, rfl, _⟩ <;> cases hr <;> exact ⟨_, _, _, rfl⟩)
  obtain ⟨N1, gs1, w1, sl1, t1, q1, g1, r1, i1, jn, run1, Q1, ok1, RS, hRS, hres⟩ := pool_runs (S := S) hG fd_fnsCode hS h0 hq hw ok c1 c2 fd sl
  obtain ⟨v0, v2, v4, v6, v7, v8, v12, v13, v14, v15, v16, v17, v18, v19, v20, v21, v22, v23, v24, v25, v26, v27, v28, v29, v30, v31, v32, v33, v34, v35, v36, v37, v38, v39, v40, v41, v42, v43, v44, v45, v46, v47, v48, v49, v50, v51, v52, rfl⟩ := jn
  obtain ⟨cs, hcs, hcsz⟩ := ok1.fd
  rw [hK] at hcsz hres
  have hVk : ∀ k, ∃ v, k < 26 → cs[k]? = some v ∧ LsC w1 v (hitsTo g m fb k (26 ^ (g.n - 1))) g.n := fun k => by
    by_cases hk : k < 26
    · obtain ⟨v, e1, E, vl, wl, ⟨B, p1⟩, p2, p3, _⟩ := hres k hk
      rw [cell_of_row _ _ _ _ _ _ hcs] at e1
      exact ⟨v, fun _ => ⟨e1, list_back p3 (by unfold maxLen; omega) p1 p2⟩⟩
    · exact ⟨.bool false, fun e => absurd e hk⟩
  have htab : cs = tab 26 fun k => (hVk k).choose := by
    apply Array.ext_getElem?
    intro i
    by_cases hi : i < 26
    · rw [tab_get _ hi]
      exact ((hVk i).choose_spec hi).1
    · rw [Array.getElem?_eq_none (by omega), Array.getElem?_eq_none (by rw [tab_size]; omega)]
  rw [htab] at hcs
  exact ⟨N1, gs1, w1, sl1, t1, q1, fun k => (hVk k).choose, v0, v2, v4, v6, v7, v8, v12, v13, v14, v15, v16, v17, v18, v19, v20, v21, v22, v23, v24, v25, v26, v27, v28, v29, v30, v31, v32, v33, v34, v35, v36, v37, v38, v39, v40, v41, v42, v43, v44, v45, v46, v47, v48, v49, v50, v51, v52, r1, i1, hcs, fun k hk => ((hVk k).choose_spec hk).2, ok1, Q1⟩
end Go.Proofs.Ythfjkhmedpilnaa
