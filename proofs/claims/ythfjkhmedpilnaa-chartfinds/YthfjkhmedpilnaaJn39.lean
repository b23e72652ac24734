/-
  Several texts, joined: FdS, FdT.
-/
import Derived.Test.YthfjkhmedpilnaaJn38
/-
  The run of ChartFinds, where nothing is wrong with what is searched: from its first 'go' to its end.
-/
namespace Go.Proofs.Ythfjkhmedpilnaa
open Go.RowKit PK Vg Go.Conc Cs
/-- The pool of that run. -/
noncomputable def cstOf (A : Array Value) (n : Nat) (W w8 : World) (h1 Fd C1 C2 : Nat) : Cst := { n := n, K := 26, S0 := 1, N1 := w8.heap.size, H0 := fun q => w8.heap[q]?, C1 := C1, C2 := C2, Fd := Fd, TF := 94, z1 := .int .i64 0, z2 := .bool false, zs1 := .tuple #[], zs2 := .tuple #[], fB := 50, ar := fun k => #[.agg A, .int .i64 (k : Nat), .func (.func 20) #[] #[.pointer (some ⟨h1 + 1, 0, none⟩)]], os0 := W.os, out0 := W.output }
section
variable {A B : Array Value} {n : Nat} {W w4 w8 : World} {h1 h2 Fd C1 C2 bF bD : Nat}
theorem AtGo.ok (k : AtGo A B n W w4 w8 h1 h2 Fd C1 C2 bF bD) : (cstOf A n W w8 h1 Fd C1 C2).Ok w8 := ⟨fun _ _ => rfl, ⟨_, k.row, tab_size _ _⟩, Nat.le_refl _, k.env⟩
theorem AtGo.low (k : AtGo A B n W w4 w8 h1 h2 Fd C1 C2 bF bD) (q : Nat) (hq : q < w4.heap.size) : (cstOf A n W w8 h1 Fd C1 C2).Fix q := by
  have h0 := k.fd
  have h3 := heap_lt k.row
  have h4 := k.c1.1
  have h5 := k.c2.1
  exact ⟨by show q < w8.heap.size; omega, by show q ≠ Fd; omega, by show q ≠ C1; omega, by show q ≠ C2; omega⟩
theorem AtGo.cells (k : AtGo A B n W w4 w8 h1 h2 Fd C1 C2 bF bD) {q : Nat} {x : Array Value} {T : TypeId} (hq : w8.heap[q]? = some (.cells x T (0, 0))) (hlt : Fd < q) : (cstOf A n W w8 h1 Fd C1 C2).Fix q := by
  refine ⟨heap_lt hq, by show q ≠ Fd; omega, fun e => ?_, fun e => ?_⟩
  · have e' : q = C1 := e
    rw [e', k.c1.2] at hq
    cases hq
  · have e' : q = C2 := e
    rw [e', k.c2.2] at hq
    cases hq
theorem one_cell {w : World} {q : Nat} {x : Value} {T : TypeId} (hq : w.heap[q]? = some (.cells #[x] T (0, 0))) : w.cell? ⟨q, 0, none⟩ = some x := by rw [cell_of_row _ _ _ _ _ _ hq]; rfl
theorem AtGo.wk (k : AtGo A B n W w4 w8 h1 h2 Fd C1 C2 bF bD) (hA : A.size = 55) : WkP (cstOf A n W w8 h1 Fd C1 C2) bF h2 (h2 + 1) bD (.agg A) (.func (.func 20) #[] #[.pointer (some ⟨h1 + 1, 0, none⟩)]) := by
  have hiA : (Try.prog.info? 27).map (·.size) = some A.size := by rw [hA]; exact v_info_mac
  have fixF := k.cells k.bf.2 k.bf.1
  have fixD := k.cells k.bd.2 k.bd.1
  have fixM := k.low h2 (heap_lt k.lM)
  have fixL := k.low (h2 + 1) (heap_lt k.lL)
  have lM : w8.heap[h2]? = some (.cells A 27 (0, 0)) := (k.h84 _ (heap_lt k.lM)).trans k.lM
  have lL : w8.heap[h2 + 1]? = some (.cells #[.func (.func 20) #[] #[.pointer (some ⟨h1 + 1, 0, none⟩)]] 58 (0, 0)) := (k.h84 _ (heap_lt k.lL)).trans k.lL
  refine ⟨⟨fixF, fixM, fixL, fixD⟩, fun w hw => one_cell ((hw.fix _ fixF).trans k.bf.2), fun w hw => one_cell ((hw.fix _ fixD).trans k.bd.2), fun w hw => one_cell ((hw.fix _ fixL).trans lL), fun w hw => ld_row ((hw.fix _ fixM).trans lM) Try.underlying27 rfl hiA, fun w hw e he => ?_⟩
  obtain ⟨ad, e1, e2⟩ := ev_rowX ((hw.fix _ fixM).trans lM) Try.underlying27 rfl hiA e he
  exact ⟨ad, e1, by rw [e2]; exact fixM⟩
end
set_option maxRecDepth 100000 in
set_option maxHeartbeats 8000000 in
theorem go_to_end (a b c : Value) (g : Gm) (U : Nat → Value) (m : Nat → Nat) (fb : Nat → Nat → Int) (n : Nat) (hE : swE g (n : Int) = 0) (hfit : ∀ r, r < g.n → g.nl r * 8 ≤ 140737488355328) (hrl : g.rl * 8 ≤ 140737488355328) (A B : Array Value) (hA0 : A = mac a b c g.rf g.pl) (hB0 : B = tab 3 U) (W w4 w8 : World) (ha : WhR W a g.n g.wi g.nl g.no) (hb : NumsAt W b g.rl g.ri) (hc : NumsAt W c g.sl g.st) (ra : Rt W a) (rb : Rt W b) (rc : Rt W c) (hU : ∀ i, i < 3 → NumsAt W (U i) (m i) (fb i) ∧ Rt W (U i)) {h1 h2 Fd C1 C2 bF bD : Nat} (k : AtGo A B n W w4 w8 h1 h2 Fd C1 C2 bF bD) {gs : Array Goroutine} {t : Trace} {q : Nat → Nat} {g8 : Goroutine} (hgs : gs.size = 1) (i8 : gs[0]? = some g8) (hrun : g8.status = .running) (hgo : eGoP (cstOf A n W w8 h1 Fd C1 C2) bF h2 (h2 + 1) bD n (mkF 7 #[.agg A, .agg B, .int .i64 (n : Nat), .pointer (some ⟨h1, 0, none⟩), .pointer (some ⟨h1 + 1, 0, none⟩), undef, .slice none 0 0, .int .i64 0, .agg A, .int .i64 (n : Nat), .func (.func 20) #[] #[.pointer (some ⟨h1 + 1, 0, none⟩)], undef, undef, undef] [.inRegion fO1 (3 :: List.range' 4 4), .code .ret] .run :: mkF 3 #[.agg A, .agg B, .int .i64 (n : Nat), .pointer (some ⟨W.heap.size, 0, none⟩), .pointer (some ⟨W.heap.size + 1, 0, none⟩), undef, .bool false, undef, undef, undef, undef, undef, .agg A, .agg B, .int .i64 (n : Nat), undef, undef, undef, undef, undef, undef, undef, undef, undef, undef, undef, undef, undef, undef, undef, undef, undef, undef] [.inRegion lO1 (3 :: List.range' 4 5), .code lT2] .run :: []) 0 g8) (F8 : QtF (fun x => ∀ ad, x.loc = .cell ad → ad.block ≠ Fd) Try.prog gs t q w8.heap.size) (sl : Option (Nat × Nat)) :
    ∃ N gs' w' sl' t' q' g', runNT Try.prog N (crowd gs w8 sl) t = (.next (crowd gs' w' sl'), t') ∧ gs'[0]? = some g' ∧ g'.status = .running ∧ (∀ W, stepG Try.prog true g' W = .ended (.done (.bool true)) W #[]) ∧ Qt Try.prog gs' t' q' w'.heap.size ∧ (∀ b, b < w4.heap.size → w'.heap[b]? = w4.heap[b]?) ∧ w'.os = W.os ∧ w'.output = W.output := by
  obtain ⟨_, _, hh1, hh2⟩ := swE_zero hE
  have hA : A.size = 55 := by rw [hA0]; exact mac_size ..
  have wk := k.wk hA
  have hag := k.old4
  have ok := k.ok
  have low := k.low
  have hpre : ∀ w, (cstOf A n W w8 h1 Fd C1 C2).Ok w → ∀ b, b < w4.heap.size → w.heap[b]? = w4.heap[b]? := fun w hw b hb => (hw.fix b (low b hb)).trans (k.h84 b hb)
  have hT := k.bT
  have hdM := k.dM
  have hdT := k.dT
  have d1 : C1 < w8.heap.size ∧ C2 < w8.heap.size ∧ Fd < w8.heap.size ∧ C1 ≠ C2 ∧ C1 ≠ Fd ∧ C2 ≠ Fd := ⟨heap_lt k.c1.2, heap_lt k.c2.2, heap_lt k.row, k.ne, by have := k.c1.1; omega, by have := k.c2.1; omega⟩
  have hW : Walk Try.prog (cstOf A n W w8 h1 Fd C1 C2) true (eGoP (cstOf A n W w8 h1 Fd C1 C2) bF h2 (h2 + 1) bD n (mkF 7 #[.agg A, .agg B, .int .i64 (n : Nat), .pointer (some ⟨h1, 0, none⟩), .pointer (some ⟨h1 + 1, 0, none⟩), undef, .slice none 0 0, .int .i64 0, .agg A, .int .i64 (n : Nat), .func (.func 20) #[] #[.pointer (some ⟨h1 + 1, 0, none⟩)], undef, undef, undef] [.inRegion fO1 (3 :: List.range' 4 4), .code .ret] .run :: mkF 3 #[.agg A, .agg B, .int .i64 (n : Nat), .pointer (some ⟨W.heap.size, 0, none⟩), .pointer (some ⟨W.heap.size + 1, 0, none⟩), undef, .bool false, undef, undef, undef, undef, undef, .agg A, .agg B, .int .i64 (n : Nat), undef, undef, undef, undef, undef, undef, undef, undef, undef, undef, undef, undef, undef, undef, undef, undef, undef, undef] [.inRegion lO1 (3 :: List.range' 4 5), .code lT2] .run :: []) 0) 0 g8 w8 := Goes.stop fun _ _ => ⟨hrun, hgo⟩
  have hc1 := k.c1.2
  have hc2 := k.c2.2
  have hfd : ∀ j x ad, touchAt t j = some x → x.loc = .cell ad → ad.block ≠ Fd := fun j x ad e1 e2 => F8.pl j x e1 ad e2
  have hq := F8.qt
  rw [hB0] at hT hdT
  rw [hA0] at hdM
  have wk' : WkP (cstOf A n W w8 h1 Fd C1 C2) bF h2 (h2 + 1) bD (.agg (mac a b c g.rf g.pl)) (.func (.func 20) #[] #[.pointer (some ⟨h1 + 1, 0, none⟩)]) := by rw [← hA0]; exact wk
  have har : (cstOf A n W w8 h1 Fd C1 C2).ar = fun k => #[.agg (mac a b c g.rf g.pl), .int .i64 (k : Nat), .func (.func 20) #[] #[.pointer (some ⟨h1 + 1, 0, none⟩)]] := by rw [← hA0]; rfl
  clear k wk F8 hgo
  generalize hcst : cstOf A n W w8 h1 Fd C1 C2 = cst at *
  have e1 : cst.n = n := by rw [← hcst]; rfl
  have e2 : cst.K = 26 := by rw [← hcst]; rfl
  have e3 : cst.z1 = .int .i64 0 ∧ cst.z2 = .bool false ∧ cst.zs1 = .tuple #[] ∧ cst.zs2 = .tuple #[] := by rw [← hcst]; exact ⟨rfl, rfl, rfl, rfl⟩
  have e4 : cst.fB = 50 := by rw [← hcst]; rfl
  have e5 : cst.S0 = 1 := by rw [← hcst]; rfl
  have e6 : cst.C1 = C1 := by rw [← hcst]; rfl
  have e7 : cst.C2 = C2 := by rw [← hcst]; rfl
  have e8 : cst.Fd = Fd := by rw [← hcst]; rfl
  have e9 : cst.N1 = w8.heap.size := by rw [← hcst]; rfl
  have e10 : cst.os0 = W.os := by rw [← hcst]; rfl
  have e11 : cst.out0 = W.output := by rw [← hcst]; rfl
  clear hcst
  rw [← e1] at hW
  obtain ⟨N9, gs9, w9, sl9, t9, q9, g9, r9, i9, hrun9, hend9, Q9, k9, os9, out9⟩ := pool_to_end (.agg A) (.agg B) (.int .i64 (cst.n : Nat)) (.pointer (some ⟨h1, 0, none⟩)) (.pointer (some ⟨h1 + 1, 0, none⟩)) (undef) (.slice none 0 0) (.int .i64 0) (.agg A) (.int .i64 (cst.n : Nat)) (.func (.func 20) #[] #[.pointer (some ⟨h1 + 1, 0, none⟩)]) (undef) (undef) (undef) (.agg A) (.agg B) (undef) (.bool false) (undef) (undef) (undef) (undef) (undef) (.agg A) (.agg B) (.int .i64 (cst.n : Nat)) (undef) (undef) (undef) (undef) (undef) (undef) (undef) (undef) (undef) (undef) (undef) (undef) (undef) (undef) (undef) (undef) (undef) (undef) cst bF h2 (h2 + 1) bD (h1 + 1) W.heap.size (W.heap.size + 1) a b c g U m fb (cst.n : Int) (by rw [e1]; exact hE) hfit hrl _ _ _ _ _ _ w4 hpre low hT hdM hdT (whr_ag hag ha) (nums_ag hag hb) (nums_ag hag hc) (rt_ag hag ra) (rt_ag hag rb) (rt_ag hag rc) (fun i hi => ⟨nums_ag hag (hU i hi).1, rt_ag hag (hU i hi).2⟩) wk' ⟨by omega, by omega⟩ e2 e3 e4 har (by omega) (by rw [e6, e7, e8, e9]; exact d1) (by rw [e5, hgs]) i8 hq hW ok (by rw [e6]; exact hc1) (by rw [e7]; exact hc2) (by rw [e8]; exact hfd) sl
  exact ⟨N9, gs9, w9, sl9, t9, q9, g9, r9, i9, hrun9, hend9, Q9, k9, os9.trans e10, out9.trans e11⟩
set_option maxRecDepth 100000 in
set_option maxHeartbeats 8000000 in
theorem finds_run (a b c : Value) (g : Gm) (U : Nat → Value) (m : Nat → Nat) (fb : Nat → Nat → Int) (h : Int) (hE : swE g h = 0) (hfit : ∀ r, r < g.n → g.nl r * 8 ≤ 140737488355328) (hrl : g.rl * 8 ≤ 140737488355328) (W : World) (ha : WhR W a g.n g.wi g.nl g.no) (hb : NumsAt W b g.rl g.ri) (hc : NumsAt W c g.sl g.st) (ra : Rt W a) (rb : Rt W b) (rc : Rt W c) (hU : ∀ i, i < 3 → NumsAt W (U i) (m i) (fb i) ∧ Rt W (U i)) :
    ∃ N last o w' t', runNT Try.prog (N + 1) (solo (G (Frame.enter Try.prog 3 #[.agg (mac a b c g.rf g.pl), .agg (tab 3 U), .int .i64 h] .normal) []) W) #[] = (.ended o w', t') ∧ runN Try.prog N (solo (G (Frame.enter Try.prog 3 #[.agg (mac a b c g.rf g.pl), .agg (tab 3 U), .int .i64 h] .normal) []) W) = .next last ∧ step Try.prog last = .ended o w' ∧ Conc.Good Try.prog (fun v W' => v = .bool true ∧ Kept W W') last o w' t' := by
  obtain ⟨_, _, hh1, hh2⟩ := swE_zero hE
  obtain ⟨n, rfl⟩ : ∃ n : Nat, h = (n : Int) := ⟨h.toNat, by omega⟩
  obtain ⟨N1, gs1, w4, w8, sl1, t1, q1, g8, h1, h2, Fd, C1, C2, bF, bD, r1, hgs, i8, hrun, hgo, F8, k⟩ := finds_to_go a b c g (tab 3 U) (tab_size _ _) n hE W ha hb hc ra rb rc _ rfl
  obtain ⟨N2, gs2, w9, sl2, t2, q2, g9, r2, i9, hrun9, hend9, Q9, k9, os9, out9⟩ := go_to_end a b c g U m fb n hE hfit hrl _ _ rfl rfl W w4 w8 ha hb hc ra rb rc hU k hgs i8 hrun (hgo _ rfl) F8 sl1
  obtain ⟨B0, hP⟩ := Q9.past
  have hkept : Kept W w9 := ⟨fun b hb => (k9 b (Nat.lt_trans hb (heap_lt k.dM))).trans (k.old4 b hb), os9, out9⟩
  obtain ⟨N3, last, o, w', t', e1, e2, e3, e4⟩ := beside_ends (P := Try.prog) (Shun := fun _ => False) (B := B0) (D := fun _ _ _ => False) (Post := fun v W' => v = .bool true ∧ Kept W W') (sl := sl2) (n := 0) (fun _ _ _ h => h.elim) i9 Q9.leavers (hP B0 (Nat.le_refl _)) (Goes.stop fun w₂ h₂ => by
    obtain ⟨d, rfl⟩ := h₂
    exact ⟨hrun9, .bool true, #[], hend9 _, fun e he => by simp at he, rfl, hkept⟩)
  have hr : runNT Try.prog (N1 + N2) (crowd #[G (Frame.enter Try.prog 3 #[.agg (mac a b c g.rf g.pl), .agg (tab 3 U), .int .i64 (n : Int)] .normal) []] W none) #[] = (.next (crowd gs2 w9 sl2), t2) := by
    rw [runNT_add, r1]
    exact r2
  rw [solo_eq_crowd]
  refine ⟨N1 + N2 + N3, last, o, w', t', ?_, ?_, e3, e4⟩
  · rw [Nat.add_assoc (N1 + N2) N3 1, runNT_add, hr]
    exact e1
  · rw [← runNT_fst _ _ _ #[], runNT_add, hr]
    show (runNT Try.prog N3 (crowd gs2 w9 sl2) t2).1 = _
    rw [runNT_fst]
    exact e2
end Go.Proofs.Ythfjkhmedpilnaa

/-
  ChartFinds where something is wrong with what is searched: no goroutine is begun (a lone walk).
-/
namespace Go.Proofs.Ythfjkhmedpilnaa
open Go.RowKit PK Vg

set_option maxRecDepth 100000 in
set_option maxHeartbeats 4000000 in
theorem pev_bad (vm : Value) (g : Gm) (f : FuncId) (c1 c2 : Array Value) (h : Int) (hE : swE g h ≠ 0) (w : World) (hm : MacAt w vm g) : Calls Try.prog 19 #[vm, .int .i64 h, .func (.func f) c1 c2] w fun e w' => e = .returned (.tuple #[.slice none 0 0, .int .i64 (swE g h)]) ∧ Below w.heap.size w w' := by
  have HC := (show Hid (∀ W, Below w.heap.size w W → Calls Try.prog 48 #[vm, .int .i64 h] W fun e w' => e = .returned (.int .i64 (swE g h)) ∧ Below W.heap.size W w') from fun W hb => psw_any vm g h W (hm.below hb))
  obtain ⟨a, b, c, rfl, _⟩ := hm
  have hrow : RowAt ((w.alloc (.cells (mac a b c g.rf g.pl) 27)).alloc (.cells #[.func (.func f) c1 c2] 58)) w.heap.size 27 (mac a b c g.rf g.pl) := (RowAt.new w _ _).alloc _
  have hbel := ((Below.refl w.heap.size w).alloc (Nat.le_refl _) (.cells (mac a b c g.rf g.pl) 27)).alloc (by simp) (.cells #[.func (.func f) c1 c2] 58)
  have hA0s : (mac a b c g.rf g.pl).size = 55 := mac_size _ _ _ _ _
  generalize mac a b c g.rf g.pl = A0 at *
  have hz2 : (swE g h != 0) = true := by simpa using hE
  obtain ⟨E, hEE⟩ : ∃ E, E = swE g h := ⟨_, rfl⟩
  have HEE := (show Hid (E = swE g h) from hEE)
  rw [← hEE] at HC hz2
  clear hE hEE
  go_enter Try.func19, Try.ntmps19
  go_upto_region 1 with fail
  generalize (w.alloc (.cells A0 27)).alloc (.cells #[.func (.func f) c1 c2] 58) = W0 at *
  go_wp2_with (first | refine wpList_load_row rfl 27 _ rfl w.heap.size rfl 27 A0 (0, 0) _ hrow Try.underlying27 rfl (by rw [hA0s]; exact v_info_mac) ?_)
  refine (HC.out _ hbel).mono ?_
  rintro e W1 ⟨rfl, hb⟩
  have HB := (show Hid _ from hbel.trans (hb.mono hbel.size))
  clear hb hbel hrow HC
  go_wp2
  go_ret2
  exact ⟨by rw [← HEE.out]; rfl, HB.out⟩
set_option maxRecDepth 100000 in
set_option maxHeartbeats 4000000 in
theorem pfd_bad (vm : Value) (g : Gm) (U : Nat → Value) (h : Int) (hE : swE g h ≠ 0) (w : World) (hm : MacAt w vm g) : Calls Try.prog 7 #[vm, .agg (tab 3 U), .int .i64 h] w fun e w' => e = .returned (.tuple #[.slice none 0 0, .int .i64 (swE g h)]) ∧ Below w.heap.size w w' := by
  have HC := (show Hid (∀ W f c1 c2, Below w.heap.size w W → Calls Try.prog 19 #[vm, .int .i64 h, .func (.func f) c1 c2] W fun e w' => e = .returned (.tuple #[.slice none 0 0, .int .i64 (swE g h)]) ∧ Below W.heap.size W w') from fun W f c1 c2 hb => pev_bad vm g f c1 c2 h hE W (hm.below hb))
  obtain ⟨a, b, c, rfl, _⟩ := hm
  have h0 := FnS.new w (mac a b c g.rf g.pl) U
  have hA0s : (mac a b c g.rf g.pl).size = 55 := mac_size _ _ _ _ _
  generalize mac a b c g.rf g.pl = A0 at *
  clear hE
  obtain ⟨E, hEE⟩ : ∃ E, E = swE g h := ⟨_, rfl⟩
  have HEE := (show Hid (E = swE g h) from hEE)
  rw [← hEE] at HC
  clear hEE
  go_enter Try.func7, Try.ntmps7
  go_upto_region 1 with fail
  generalize (w.alloc (.cells A0 27)).alloc (.cells (tab 3 U) 28) = W0 at *
  go_wp2_with (first | refine wpList_load_row rfl 27 _ rfl w.heap.size rfl 27 A0 (0, 0) _ h0.m Try.underlying27 rfl (by rw [hA0s]; exact v_info_mac) ?_)
  refine (HC.out _ _ _ _ h0.below).mono ?_
  rintro e W1 ⟨rfl, hb⟩
  have HB := (show Hid _ from (h0.step hb).below)
  clear hb h0 HC
  go_wp2
  go_ret2
  exact ⟨by rw [← HEE.out]; rfl, HB.out⟩
set_option maxRecDepth 100000 in
set_option maxHeartbeats 2000000 in
theorem sl_none (w : World) : Calls Try.prog 9 #[.slice none 0 0, .slice none 0 0] w fun e w' => e = .returned (.bool true) ∧ Below w.heap.size w w' := by
  go_enter Try.func9, Try.ntmps9
  go_wp2_with fail
  go_loopw [13] (fun i W => i = .int .i64 0 ∧ w = W) (fun _ _ => 0)
  case atStart => exact ⟨rfl, rfl⟩
  case round =>
    obtain ⟨rfl, rfl⟩ := hrel
    go_wp2
    go_ret
    exact ⟨rfl, Below.refl _ _⟩
set_option maxRecDepth 100000 in
set_option maxHeartbeats 4000000 in
theorem finds_bad (vm : Value) (g : Gm) (U : Nat → Value) (h : Int) (hE : swE g h ≠ 0) (w : World) (hm : MacAt w vm g) : Calls Try.prog 3 #[vm, .agg (tab 3 U), .int .i64 h] w fun e w' => e = .returned (.bool true) ∧ Below w.heap.size w w' := by
  have HF := (show Hid (∀ W, Below w.heap.size w W → Calls Try.prog 7 #[vm, .agg (tab 3 U), .int .i64 h] W fun e w' => e = .returned (.tuple #[.slice none 0 0, .int .i64 (swE g h)]) ∧ Below W.heap.size W w') from fun W hb => pfd_bad vm g U h hE W (hm.below hb))
  have HR := (show Hid (∀ W, Below w.heap.size w W → Calls Try.prog 8 #[vm, .agg (tab 3 U), .int .i64 h] W fun e w' => e = .returned (.tuple #[.slice none 0 0, .int .i64 (swE g h)]) ∧ Below W.heap.size W w') from fun W hb => rfd_bad vm g U h hE W (hm.below hb))
  obtain ⟨a, b, c, rfl, _⟩ := hm
  have h0 := FnS.new w (mac a b c g.rf g.pl) U
  have hA0s : (mac a b c g.rf g.pl).size = 55 := mac_size _ _ _ _ _
  generalize mac a b c g.rf g.pl = A0 at *
  clear hE
  generalize swE g h = E at *
  go_enter Try.func3, Try.ntmps3
  go_upto_region 1 with fail
  generalize (w.alloc (.cells A0 27)).alloc (.cells (tab 3 U) 28) = W0 at *
  go_wp2_with (first | refine wpList_load_row rfl 27 _ rfl w.heap.size rfl 27 A0 (0, 0) _ h0.m Try.underlying27 rfl (by rw [hA0s]; exact v_info_mac) ?_ | refine wpList_load_row rfl 28 _ rfl (w.heap.size + 1) rfl 28 (tab 3 U) (0, 0) _ h0.t Try.underlying28 rfl (by rw [tab_size]; exact f_size_sl3) ?_)
  refine (HF.out _ h0.below).mono ?_
  rintro e W1 ⟨rfl, hb⟩
  have h1 := h0.step hb
  clear hb h0 HF
  go_wp2_with (first | refine wpList_load_row rfl 27 _ rfl w.heap.size rfl 27 A0 (0, 0) _ h1.m Try.underlying27 rfl (by rw [hA0s]; exact v_info_mac) ?_ | refine wpList_load_row rfl 28 _ rfl (w.heap.size + 1) rfl 28 (tab 3 U) (0, 0) _ h1.t Try.underlying28 rfl (by rw [tab_size]; exact f_size_sl3) ?_)
  refine (HR.out _ h1.below).mono ?_
  rintro e W2 ⟨rfl, hb⟩
  have h2 := h1.step hb
  clear hb h1 HR
  go_wp2_with fail
  refine (sl_none W2).mono ?_
  rintro e W3 ⟨rfl, hb⟩
  have HB := (show Hid _ from (h2.step hb).below)
  clear hb h2
  go_wp2
  go_ret
  exact ⟨by simp, HB.out⟩
end Go.Proofs.Ythfjkhmedpilnaa
