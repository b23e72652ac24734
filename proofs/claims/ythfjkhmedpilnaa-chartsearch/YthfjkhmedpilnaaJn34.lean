/-
  Several texts, joined: FfF, FfG, ORKn, OAl.
-/
import Derived.Test.YthfjkhmedpilnaaJn33
import Derived.Test.YthfjkhmedpilnaaJn21
import Derived.Test.YthfjkhmedpilnaaJn20
/-
  ChartSearch's whole run, where the document lets it search.
-/
namespace Go.Proofs.Ythfjkhmedpilnaa
open Go.RowKit PK Vg Go.Conc Cs
set_option maxRecDepth 100000 in
set_option maxHeartbeats 8000000 in
theorem search_run (hal : ∀ w, Calls Try.prog 10 #[] w fun e w' => e = .returned (.bool true) ∧ Below w.heap.size w w') (a b c : Value) (g : Gm) (N0 : Nat) (hN0 : gmN g N0 = g) (hN1 : N0 < 26 ^ g.n) (hgE : gE g = 0) (hpos : ∀ i, 0 < tyM g i) (hn2 : g.n ≤ 2) (n k : Nat) (hn : 1 ≤ n ∧ n ≤ 16) (hk : 1 ≤ k ∧ k ≤ 16) (hfit : ∀ r, r < g.n → g.nl r * 8 ≤ 140737488355328) (hrl : g.rl * 8 ≤ 140737488355328) (W : World) (ha : WhR W a g.n g.wi g.nl g.no) (hb : NumsAt W b g.rl g.ri) (hc : NumsAt W c g.sl g.st) (ra : Rt W a) (rb : Rt W b) (rc : Rt W c) :
    ∃ N last o w' t', runNT Try.prog (N + 1) (solo (G (Frame.enter Try.prog 4 #[.agg (mac a b c g.rf g.pl), .int .i64 (n : Nat), .int .i64 (k : Nat)] .normal) []) W) #[] = (.ended o w', t') ∧ runN Try.prog N (solo (G (Frame.enter Try.prog 4 #[.agg (mac a b c g.rf g.pl), .int .i64 (n : Nat), .int .i64 (k : Nat)] .normal) []) W) = .next last ∧ step Try.prog last = .ended o w' ∧ Conc.Good Try.prog (fun v W' => v = .bool true ∧ Kept W W') last o w' t' := by
  have hG : Try.prog.globals.size ≤ Fns.G := Nat.le_refl _
  obtain ⟨A, hA0⟩ : ∃ A, A = mac a b c g.rf g.pl := ⟨_, rfl⟩
  have hA : A.size = 55 := by rw [hA0]; exact mac_size ..
  rw [← hA0, enter_search]
  -- to alive
  obtain ⟨mu1, G1⟩ := search_a A n k [] W.heap W.os W.output W ⟨rfl, rfl, rfl⟩
  obtain ⟨N1, gs1, w1, sl1, t1, q1, g1, r1, z1, i1, ⟨rfl, I1⟩, Q1⟩ := beside_walk (sl := none) (gs := #[_]) (fun _ _ _ h => h) (fun g w h => by rw [h.1]; rfl) rfl G1 (qt_one Try.prog _ (fun _ => 0) W.heap.size)
  have d1 : w1.heap[W.heap.size]? = some (.cells A 27 (0, 0)) := by rw [I1.1, Array.getElem?_push, if_pos rfl]
  have o1 : ∀ b, b < W.heap.size → w1.heap[b]? = W.heap[b]? := fun b hb => by rw [I1.1, Array.getElem?_push, if_neg (by omega)]
  have s1 : W.heap.size < w1.heap.size := heap_lt d1
  -- alive
  have p0 := Cp.nil (P := Try.prog) w1
  have hin1 : ∀ cs, InCall Try.prog (fun v _ => v = .bool true) cs _ (G (Frame.enter Try.prog 10 #[] .normal) [trap Try.prog]) _ (G (Frame.enter Try.prog 10 #[] .normal) cs) w1 := fun cs => InCall.start (c := cs) fd_fnsCode (f := 10) (by kernel_rfl) (x := #[]) (y := #[]) lr_nil p0.wr p0.big (fun τ => (hal _).mono fun e w' h => ⟨_, h.1, rfl⟩)
  obtain ⟨N2, gs2, w2, sl2, t2, q2, E2, u2, u2', wl2, r2, z2, i2, p2, vr2, _, fc2, Q2⟩ := beside_call (sl := sl1) hG fd_fnsCode i1 (hin1 _) Q1
  subst p2
  cases vr2
  have k2 : ∀ b, b < w1.heap.size → w2.heap[b]? = w1.heap[b]? := fun b hb => fc2.keep b hb (fun b' s e => by cases e)
  have o2 : ∀ b, b < W.heap.size → w2.heap[b]? = W.heap[b]? := fun b hb => (k2 b (by omega)).trans (o1 b hb)
  have d2 : w2.heap[W.heap.size]? = some (.cells A 27 (0, 0)) := (k2 _ s1).trans d1
  -- to Types
  obtain ⟨mu3, G3⟩ := search_b A hA n k W.heap.size [] w2.heap W.os W.output w2 ⟨rfl, fc2.os.trans I1.2.1, fc2.output.trans I1.2.2⟩ d2
  obtain ⟨N3, gs3, w3, sl3, t3, q3, g3, r3, z3, i3, ⟨rfl, I3⟩, Q3⟩ := beside_walk (sl := sl2) (fun _ _ _ h => h) (fun g w h => by rw [h.1]; rfl) i2 G3 Q2
  have o3 : ∀ b, b < W.heap.size → w3.heap[b]? = W.heap[b]? := fun b hb => by rw [I3.1]; exact o2 b hb
  have d3 : w3.heap[W.heap.size]? = some (.cells A 27 (0, 0)) := by rw [I3.1]; exact d2
  -- Types
  obtain ⟨E4, wl4, a', b', c', p4, _, ra', rb', rc', hm4⟩ := cp_mac (Cp.nil (P := Try.prog) w3) no_type (whr_ag o3 ha) (nums_ag o3 hb) (nums_ag o3 hc) (rt_ag o3 ra) (rt_ag o3 rb) (rt_ag o3 rc)
  have hin4 : ∀ cs, InCall Try.prog (fun v wl => ∃ V, v = .tuple #[.agg (tab 3 V), .int .i64 0] ∧ TysAt wl V 3 (chC (maOf g))) cs E4 (G (Frame.enter Try.prog 11 #[.agg (mac a' b' c' g.rf g.pl)] .normal) [trap Try.prog]) wl4 (G (Frame.enter Try.prog 11 #[.agg A] .normal) cs) w3 := fun cs => InCall.start (c := cs) fd_fnsCode (f := 11) (by kernel_rfl) (x := #[.agg (mac a' b' c' g.rf g.pl)]) (y := #[.agg A]) (lr_cons (.mkAgg (by rw [hA0]; exact lr_mac ra' rb' rc')) lr_nil) p4.wr p4.big (fun τ => by
    refine (types_any _ g (wl4.tp τ) hm4).mono ?_
    rintro e w' (⟨h, _⟩ | ⟨_, V, h1, h2, _⟩)
    · exact absurd hgE h
    · exact ⟨_, h1, V, by rw [sl3_all], h2⟩)
  obtain ⟨N5, gs5, w5, sl5, t5, q5, E5, u5, u5', wl5, r5, z5, i5, p5, vr5, wr5, fc5, Q5⟩ := beside_call (sl := sl3) hG fd_fnsCode i3 (hin4 _) Q3
  obtain ⟨V, rfl, hV⟩ := p5
  obtain ⟨U, rfl, hVU⟩ := vr_types vr5
  have hU5 : ∀ i, i < 3 → NumsAt w5 (U i) (tyM g i) (tyF g i) ∧ Rt w5 (U i) := fun i hi => nums_back2 wr5 (hpos i) (hV i hi) (hVU i hi)
  have hone : (tab 3 U).all (·.oneCell') = true := tab3_one fun i hi => by
    obtain ⟨⟨x, y, e, _⟩, _⟩ := hU5 i hi
    rw [e]; rfl
  have k5 : ∀ b, b < w3.heap.size → w5.heap[b]? = w3.heap[b]? := fun b hb => fc5.keep b hb (fun b' s e => by have := p4.sh _ _ _ _ e; cases this)
  have s3 : W.heap.size < w3.heap.size := heap_lt d3
  have o5 : ∀ b, b < W.heap.size → w5.heap[b]? = W.heap[b]? := fun b hb => (k5 b (by omega)).trans (o3 b hb)
  have d5 : w5.heap[W.heap.size]? = some (.cells A 27 (0, 0)) := (k5 _ s3).trans d3
  clear hV hVU vr5 wr5 hin4 hin1 hm4 p4 p0 V
  -- to Find
  obtain ⟨aw, cw, R, haw, _⟩ := id ha
  have hA00 : A[0]? = some (.slice aw g.n cw) := by rw [hA0, mac_0, haw]
  obtain ⟨mu6, G6⟩ := search_c A hA (U 0) (U 1) (U 2) hone n k W.heap.size aw g.n cw hA00 hn2 hn hk [] w5.heap W.os W.output w5 ⟨rfl, fc5.os.trans I3.2.1, fc5.output.trans I3.2.2⟩ d5
  have G7 : Goes Try.prog true AtRel DW (SrchC A (U 0) (U 1) (U 2) n k W.heap.size w5.heap.size (w5.heap.push (.cells (tab 3 U) 28)) W.os W.output) mu6 _ w5 := G6
  obtain ⟨N6, gs6, w6, sl6, t6, q6, g6, r6, z6, i6, h6, Q6⟩ := beside_walk (sl := sl5) (fun _ _ _ h => h) (fun g w h => h.running) i5 G7 Q5
  have s5 : W.heap.size < w5.heap.size := heap_lt d5
  have key : ∃ N gs' w' sl' t' q' g', runNT Try.prog N (crowd gs6 w6 sl6) t6 = (.next (crowd gs' w' sl'), t') ∧ gs'[0]? = some g' ∧ g'.status = .running ∧ (∀ W, stepG Try.prog true g' W = .ended (.done (.bool true)) W #[]) ∧ Qt Try.prog gs' t' q' w'.heap.size ∧ Kept W w' := by
    clear G1 G3 G6 G7 r1 r2 r3 r5 r6 i1 i2 i3 i5 Q1 Q2 Q3 Q5 fc2 fc5 o1 o2 o3 k2 k5 d1 d2 d3
    obtain ⟨v, rfl, I6⟩ := h6
    have o65 : ∀ b, b < w5.heap.size → w6.heap[b]? = w5.heap[b]? := fun b hb => by rw [I6.1, Array.getElem?_push, if_neg (by omega)]
    have k6 : Kept W w6 := ⟨fun b hb => (o65 b (by omega)).trans (o5 b hb), I6.2.1, I6.2.2⟩
    have d6 : w6.heap[W.heap.size]? = some (.cells A 27 (0, 0)) := (o65 _ s5).trans d5
    have e6 : w6.heap[w5.heap.size]? = some (.cells (tab 3 U) 28 (0, 0)) := by rw [I6.1, Array.getElem?_push, if_pos rfl]
    obtain ⟨N, gs', w', sl', t', q', g', c1, c2, c3, c4, c5, c6⟩ := search_p2 v W.heap.size w5.heap.size n k hn hk a b c g N0 hN0 hN1 hgE hn2 U hfit hrl A hA0 w6 (whr_ag k6.1 ha) (nums_ag k6.1 hb) (nums_ag k6.1 hc) (rt_ag k6.1 ra) (rt_ag k6.1 rb) (rt_ag k6.1 rc) (fun i hi => ⟨nums_ag o65 (hU5 i hi).1, rt_ag o65 (hU5 i hi).2⟩) d6 e6 i6 Q6 sl6
    exact ⟨N, gs', w', sl', t', q', g', c1, c2, c3, c4, c5, kept_trans k6 c6⟩
  obtain ⟨N10, gs10, w10, sl10, t10, q10, g10, r10, i10, hrun10, hend10, Q10, hkept⟩ := key
  obtain ⟨B0, hP⟩ := Q10.past
  obtain ⟨N11, last, o, w', t', e1, e2, e3, e4⟩ := beside_ends (P := Try.prog) (Shun := fun _ => False) (B := B0) (D := fun _ _ _ => False) (Post := fun v W' => v = .bool true ∧ Kept W W') (sl := sl10) (n := 0) (fun _ _ _ h => h.elim) i10 Q10.leavers (hP B0 (Nat.le_refl _)) (Goes.stop fun w₂ h₂ => by
    obtain ⟨d, rfl⟩ := h₂
    exact ⟨hrun10, .bool true, #[], hend10 _, fun e he => by simp at he, rfl, hkept⟩)
  have hr : runNT Try.prog (N1 + (N2 + (N3 + (N5 + (N6 + N10))))) (crowd #[G ((base 4).at ⟨#[.agg A, .int .i64 (n : Nat), .int .i64 (k : Nat), undef, undef, undef, undef, undef, undef, undef, undef, undef, undef, undef, undef, undef, undef, undef, undef, undef, undef, undef, undef, undef, undef, undef, undef, undef, undef, undef, undef, undef, undef, undef, undef, undef, undef, undef, undef, undef, undef, undef, undef, undef, undef, undef, undef, undef, undef, undef, undef, undef, undef, undef, undef, undef, undef, undef, undef, undef, undef, undef, undef, undef, undef, undef, undef, undef, undef, undef, undef, undef, undef, undef, undef, undef, undef, undef, undef, undef, undef, undef, undef, undef, undef, undef, undef, undef, undef, undef, undef, undef, undef, undef, undef, undef, undef, undef, undef, undef, undef, undef, undef, undef, undef, undef], []⟩ [.code sB]) []] W none) #[] = (.next (crowd gs10 w10 sl10), t10) := by
    have r1' : runNT Try.prog N1 (crowd #[G ((base 4).at ⟨#[.agg A, .int .i64 (n : Nat), .int .i64 (k : Nat), undef, undef, undef, undef, undef, undef, undef, undef, undef, undef, undef, undef, undef, undef, undef, undef, undef, undef, undef, undef, undef, undef, undef, undef, undef, undef, undef, undef, undef, undef, undef, undef, undef, undef, undef, undef, undef, undef, undef, undef, undef, undef, undef, undef, undef, undef, undef, undef, undef, undef, undef, undef, undef, undef, undef, undef, undef, undef, undef, undef, undef, undef, undef, undef, undef, undef, undef, undef, undef, undef, undef, undef, undef, undef, undef, undef, undef, undef, undef, undef, undef, undef, undef, undef, undef, undef, undef, undef, undef, undef, undef, undef, undef, undef, undef, undef, undef, undef, undef, undef, undef, undef, undef], []⟩ [.code sB]) []] W none) #[] = (.next (crowd gs1 w1 sl1), t1) := r1
    rw [runNT_add, r1']
    show runNT Try.prog (N2 + (N3 + (N5 + (N6 + N10)))) (crowd gs1 w1 sl1) t1 = _
    rw [runNT_add, r2]
    show runNT Try.prog (N3 + (N5 + (N6 + N10))) (crowd gs2 w2 sl2) t2 = _
    rw [runNT_add, r3]
    show runNT Try.prog (N5 + (N6 + N10)) (crowd gs3 w3 sl3) t3 = _
    rw [runNT_add, r5]
    show runNT Try.prog (N6 + N10) (crowd gs5 w5 sl5) t5 = _
    rw [runNT_add, r6]
    exact r10
  rw [solo_eq_crowd]
  generalize N1 + (N2 + (N3 + (N5 + (N6 + N10)))) = NN at hr
  refine ⟨NN + N11, last, o, w', t', ?_, ?_, e3, e4⟩
  · rw [Nat.add_assoc NN N11 1, runNT_add, hr]
    exact e1
  · rw [← runNT_fst _ _ _ #[], runNT_add, hr]
    show (runNT Try.prog N11 (crowd gs10 w10 sl10) t10).1 = _
    rw [runNT_fst]
    exact e2
end Go.Proofs.Ythfjkhmedpilnaa

/-
  ChartSearch where the document does not let it search: no goroutine is begun.
-/
namespace Go.Proofs.Ythfjkhmedpilnaa
open Go.RowKit PK Vg
set_option maxRecDepth 100000 in
set_option maxHeartbeats 8000000 in
theorem search_bad (hal : ∀ w, Calls Try.prog 10 #[] w fun e w' => e = .returned (.bool true) ∧ Below w.heap.size w w') (vm : Value) (g : Gm) (n k : Int) (w : World) (hm : MacAt w vm g) (hbad : gE g ≠ 0 ∨ 2 < g.n ∨ n < 1 ∨ 16 < n ∨ k < 1 ∨ 16 < k) : Calls Try.prog 4 #[vm, .int .i64 n, .int .i64 k] w fun e w' => e = .returned (.bool true) ∧ Below w.heap.size w w' := by
  have HT := (show Hid (∀ W, Below w.heap.size w W → Calls Try.prog 11 #[vm] W fun e w' => ∃ X : Array Value, e = .returned (.tuple #[.agg X, .int .i64 (gE g)]) ∧ X.size = 3 ∧ X.all (·.oneCell') = true ∧ Below W.heap.size W w') from fun W hb => by
    refine (types_any _ g W (hm.below hb)).mono ?_
    rintro e w' (⟨h, h1, h2⟩ | ⟨h, V, h1, h2, h3⟩)
    · exact ⟨_, h1, sl3_size _ _, sl3_one fun i hi => by omega, h2⟩
    · exact ⟨_, by rw [h]; exact h1, sl3_size _ _, sl3_one fun i hi => one_nums (h2 i hi), h3⟩)
  have HAL := (show Hid _ from hal)
  obtain ⟨a, b, c, rfl, ⟨aw, cw, R, rfl, hmx, _⟩, _, _⟩ := hm
  have HM0 := (show Hid ((mac (.slice aw g.n cw) b c g.rf g.pl)[0]? = some (.slice aw g.n cw)) from mac_0 _ _ _ _ _)
  have hA0s : (mac (.slice aw g.n cw) b c g.rf g.pl).size = 55 := mac_size _ _ _ _ _
  generalize mac (.slice aw g.n cw) b c g.rf g.pl = A0 at *
  generalize gE g = E at *
  generalize g.n = gn at *
  have h0 := RowAt.new w 27 A0
  have hb0 := (Below.refl w.heap.size w).alloc (Nat.le_refl _) (.cells A0 27)
  clear hal
  go_enter Try.func4, Try.ntmps4
  go_upto_region 1 with fail
  generalize w.alloc (.cells A0 27) = W0 at *
  go_wp2_with fail
  refine (HAL.out _).mono ?_
  rintro e W1 ⟨rfl, hb⟩
  have h1 := h0.below hb h0.lt
  have hb1 := hb0.trans (hb.mono hb0.size)
  clear hb h0 hb0 HAL
  go_wp2_with (first | refine wpList_load_row rfl 27 _ rfl w.heap.size rfl 27 A0 (0, 0) _ h1 Try.underlying27 rfl (by rw [hA0s]; exact v_info_mac) ?_)
  refine (HT.out _ hb1).mono ?_
  rintro e W2 ⟨X, rfl, hX, hXo, hb⟩
  have h2 := h1.below hb h1.lt
  have hb2 := hb1.trans (hb.mono hb1.size)
  clear hb h1 hb1 HT
  have hz3 := o_zero f_zero_sl3
  go_upto_region 4 with (first | refine wpList_store_row rfl 28 _ _ rfl W2.heap.size X rfl rfl 28 _ (RowAt.new W2 _ _) (by rw [hX]; exact f_size_sl3) (by rw [hX, tab_size]) hXo ?_)
  clear hz3
  have hb4 := Below.setRow ((Below.refl W2.heap.size W2).alloc (Nat.le_refl _) (.cells (tab 3 fun _ => .slice none 0 0) 28)) W2.heap.size (Nat.le_refl _) X
  have h4 := h2.below hb4 h2.lt
  have HB4 : Hid (Below w.heap.size w ((W2.alloc (.cells (tab 3 fun _ => .slice none 0 0) 28)).setRow W2.heap.size X)) := hb2.trans (hb4.mono hb2.size)
  generalize (W2.alloc (.cells (tab 3 fun _ => .slice none 0 0) 28)).setRow W2.heap.size X = W4 at *
  have c0 := h4.cell HM0.out
  clear hb4 h2 hb2 h4 HM0 hX hXo hmx hA0s
  by_cases hE : E = 0
  case neg =>
    have hEb : (E != 0) = true := by simp [hE]
    clear hE hbad
    go_wp2
    go_ret
    exact ⟨rfl, HB4.out⟩
  subst hE
  by_cases h5 : 2 < gn
  case pos =>
    have h5' : (2 : Int) < (gn : Int) := by omega
    clear h5 hbad
    go_wp2
    go_ret
    exact ⟨rfl, HB4.out⟩
  have h5' : ¬ (2 : Int) < (gn : Int) := by omega
  by_cases h6 : n < 1
  case pos =>
    clear h5 hbad
    go_wp2
    go_ret
    exact ⟨rfl, HB4.out⟩
  by_cases h7 : 16 < n
  case pos =>
    clear h5 hbad
    go_wp2
    go_ret
    exact ⟨rfl, HB4.out⟩
  by_cases h8 : k < 1
  case pos =>
    clear h5 hbad
    go_wp2
    go_ret
    exact ⟨rfl, HB4.out⟩
  have h9 : 16 < k := by omega
  clear h5 hbad
  go_wp2
  go_ret
  exact ⟨rfl, HB4.out⟩
end Go.Proofs.Ythfjkhmedpilnaa

/-
  Contracts of the document's Spelt, Known and Mirror (chapter 8).
-/
namespace Go.Proofs.Ythfjkhmedpilnaa
open Go.RowKit PK Vg

theorem o_decode (s : ByteArray) (pos : Nat) (hp : pos < s.size) (hl : Ls s.data.toList) : Utf8.decode s pos = ((s.data.toList.getD pos 0).toNat, 1) := by
  have hp' : pos < s.data.toList.length := by rw [← Pl.size_len]; exact hp
  rw [Pl.decode_eq, List.drop_eq_getElem_cons hp']
  have hm : s.data.toList[pos] ∈ s.data.toList := List.getElem_mem _
  have := hl _ hm
  rw [Pl.decL_low _ _ (by omega)]
  simp [List.getD, List.getElem?_eq_getElem hp']
/-- What a text of letters spells. -/
def spl (l : List UInt8) (i : Nat) : Int := if i < l.length then ((num (l.getD i 0) : Nat) : Int) else 0
structure SpAt (w W : World) (s : ByteArray) (pos : Nat) (f : Nat → Int) : Prop where
  r : RowAt W w.heap.size 25 (ints 26 fun _ => 0)
  o : RowAt W (w.heap.size + 1) 25 (ints 26 f)
  it : W.heap[w.heap.size + 1 + 1]? = some (.stringIter s pos)
  below : Below w.heap.size w W
set_option maxRecDepth 100000 in
set_option maxHeartbeats 1000000 in
theorem rspelt_any (s : ByteArray) (hl : Ls s.data.toList) (hs : s.size ≤ 26) (w : World) : Calls Try.prog 54 #[.string s] w fun e w' => e = .returned (.agg (ints 26 (spl s.data.toList))) ∧ Below w.heap.size w w' := by
  have hz26 := o_zero v_zero_perm
  have h0 := TuAt.new w
  have HL := (show Hid (Ls s.data.toList) from hl)
  have hslen := Pl.size_len s
  go_enter Try.func54, Try.ntmps54
  go_wp2_with fail
  clear hz26
  go_loopw [4] (fun _ W => ∃ pos : Nat, pos ≤ s.size ∧ SpAt w W s pos fun c => if c < pos then ((num (s.data.toList.getD c 0) : Nat) : Int) else 0) (fun _ W => s.size - W.iterPos (w.heap.size + 1 + 1))
  case atStart =>
    refine ⟨0, by omega, h0.r.alloc _, ?_, ?_, h0.below.alloc h0.below.size _⟩
    · have e : (ints 26 fun c => if c < 0 then ((num (s.data.toList.getD c 0) : Nat) : Int) else 0) = ints 26 fun _ => 0 := ints_ext fun c _ => by rw [if_neg (by omega)]
      rw [e]
      exact h0.o.alloc _
    · have := World.iter_heap ((w.alloc (.cells (ints 26 fun _ => 0) 25)).alloc (.cells (ints 26 fun _ => 0) 25)) s 0
      simp only [World.size_alloc] at this
      exact this
  case round =>
    clear h0
    obtain ⟨pos, hps, hg⟩ := hrel
    have hk := hg.it
    have hmu : Hid (wr.iterPos (w.heap.size + 1 + 1) = pos) := iterPos_of hk
    by_cases hp : pos < s.size
    · have hnext0 : ∀ ty, (Instr.next (.pointer (some ⟨w.heap.size + 1 + 1, 0, none⟩)) true ty).run Try.prog wr = _ := fun ty => Lib.run_next_any_at wr (w.heap.size + 1 + 1) s pos ty hk hp
      rw [o_decode s pos hp HL.out] at hnext0
      have hxl := HL.out.at (getD_size hp)
      have hnum := num_lt hxl
      have hbi : Below w.heap.size w (wr.iterAt (w.heap.size + 1 + 1) s (pos + 1)) := Lib.below_iterAt hg.below (by omega) s _
      have hk1 := Lib.iterAt_heap wr (w.heap.size + 1 + 1) s pos (pos + 1) hk
      have hr1 : RowAt (wr.iterAt (w.heap.size + 1 + 1) s (pos + 1)) w.heap.size 25 (ints 26 fun _ => 0) := (Lib.iterAt_other wr (w.heap.size + 1 + 1) w.heap.size s (pos + 1) (by omega)).trans hg.r
      have ho1 : RowAt (wr.iterAt (w.heap.size + 1 + 1) s (pos + 1)) (w.heap.size + 1) 25 (ints 26 fun c => if c < pos then ((num (s.data.toList.getD c 0) : Nat) : Int) else 0) := (Lib.iterAt_other wr (w.heap.size + 1 + 1) (w.heap.size + 1) s (pos + 1) (by omega)).trans hg.o
      have HNX : Hid (∀ i, i < 26 → upd (fun c => if c < pos then ((num (s.data.toList.getD c 0) : Nat) : Int) else 0) pos ((num (s.data.toList.getD pos 0) : Nat) : Int) i = if i < pos + 1 then ((num (s.data.toList.getD i 0) : Nat) : Int) else 0) := fun i _ => by
        unfold upd
        by_cases e : i = pos
        · rw [if_pos e, if_pos (by omega), e]
        · rw [if_neg e]
          show (if i < pos then ((num (s.data.toList.getD i 0) : Nat) : Int) else 0) = _
          by_cases e2 : i < pos
          · rw [if_pos e2, if_pos (by omega)]
          · rw [if_neg e2, if_neg (by omega)]
      have hp26 : pos < 26 := by omega
      have hck := ho1.cell (ints_get (fun c => if c < pos then ((num (s.data.toList.getD c 0) : Nat) : Int) else 0) hp26)
      have hfk := ho1.frozen pos
      generalize wr.iterAt (w.heap.size + 1 + 1) s (pos + 1) = Y at *
      clear hg hk
      have hx3 : (((s.data.toList.getD pos 0).toNat : Nat) : Int) - 65 = ((num (s.data.toList.getD pos 0) : Nat) : Int) := by unfold num; omega
      have HX3 := (show Hid _ from hx3)
      have hx1 : (65 : Int) ≤ ((s.data.toList.getD pos 0).toNat : Int) := by omega
      have hx2 : ((s.data.toList.getD pos 0).toNat : Int) ≤ 90 := by omega
      have hs2 := ho1.set pos (.int .i64 ((num (s.data.toList.getD pos 0) : Nat) : Int))
      rw [ints_set, ints_ext HNX.out] at hs2
      have HG : Hid (SpAt w (Y.setCell ⟨w.heap.size + 1, pos, none⟩ (.int .i64 ((num (s.data.toList.getD pos 0) : Nat) : Int))) s (pos + 1) fun c => if c < pos + 1 then ((num (s.data.toList.getD c 0) : Nat) : Int) else 0) := ⟨hr1.setOther _ _ (by simp), hs2, (heap_setCell_other Y ⟨w.heap.size + 1, pos, none⟩ (w.heap.size + 1 + 1) _ (by simp)).trans hk1, hbi.setCell (p := ⟨w.heap.size + 1, pos, none⟩) (by simp) _⟩
      clear hs2 hr1 ho1 hbi hk1
      generalize (s.data.toList.getD pos 0).toNat = x at *
      generalize num (s.data.toList.getD pos 0) = nx at *
      have hnext := hnext0
      clear hnext0
      go_wp2
      go_roundw
      case rel => exact ⟨pos + 1, by omega, HG.out⟩
      case measure => rw [hmu.out, iterPos_of HG.out.it]; omega
    · have hnext : ∀ ty, (Instr.next (.pointer (some ⟨w.heap.size + 1 + 1, 0, none⟩)) true ty).run Try.prog wr = _ := fun ty => Lib.run_next_end_at wr (w.heap.size + 1 + 1) s pos ty hk hp
      obtain rfl : pos = s.size := by omega
      have hr := hg.r
      have ho : RowAt wr (w.heap.size + 1) 25 (ints 26 (spl s.data.toList)) := by
        have := hg.o
        rw [hslen] at this
        exact this
      have hbe := hg.below
      clear hg hk
      go_wp2_with (first | refine wpList_load_row rfl 25 _ rfl (w.heap.size + 1) rfl 25 (ints 26 (spl s.data.toList)) (0, 0) _ ho Try.underlying25 rfl (by rw [ints_size]; exact info_perm) ?_ | refine wpList_store_row rfl 25 _ _ rfl w.heap.size (ints 26 (spl s.data.toList)) rfl rfl 25 _ hr (by rw [ints_size]; exact info_perm) (by simp only [ints_size]) (ints_one _ _) ?_)
      exact bodyPost_ret (v := .agg (ints 26 (spl s.data.toList))) (o_results1 Try.results54 _ _ _ _ _ _ _ rfl (hr.row _) Try.underlying25 rfl (by rw [ints_size]; exact info_perm)) rfl ⟨rfl, Below.setRow hbe _ (Nat.le_refl _) _⟩
def miB : List UInt8 := [89, 82, 85, 72, 81, 83, 76, 68, 80, 88, 78, 71, 79, 75, 77, 73, 69, 66, 70, 90, 67, 87, 86, 74, 65, 84]
def miC : List UInt8 := [70, 86, 80, 74, 73, 65, 79, 89, 69, 68, 82, 90, 88, 87, 71, 67, 84, 75, 85, 81, 83, 66, 78, 77, 72, 76]
/-- What Mirror says. -/
def miP (name : List UInt8) : Nat → Int := if name = [66] then spl miB else if name = [67] then spl miC else fun _ => 0
def miE (name : List UInt8) : Int := if name = [66] ∨ name = [67] then 0 else 7
theorem ls_dec {l : List UInt8} (h : (l.all fun c => decide (65 ≤ c.toNat ∧ c.toNat ≤ 90)) = true) : Ls l := fun c hc => by
  have := List.all_eq_true.1 h c hc
  simpa using this
theorem name_eq (A : List UInt8) (t : ByteArray) : (t.toList == A) = decide (t.data.toList = A) := by
  rw [ba_toList]
  by_cases h : t.data.toList = A
  · rw [decide_eq_true h, h]; simp
  · rw [decide_eq_false h]; exact beq_false_of_ne h
set_option maxRecDepth 100000 in
set_option maxHeartbeats 1000000 in
theorem rmirror_any (name : ByteArray) (w : World) : Calls Try.prog 26 #[.string name] w fun e w' => e = .returned (.tuple #[.agg (ints 26 (miP name.data.toList)), .int .i64 (miE name.data.toList)]) ∧ Below w.heap.size w w' := by
  have hz26 := o_zero v_zero_perm
  have hr0 := RowAt.new w 25 (ints 26 fun _ => 0)
  have hb0 : Below w.heap.size w (w.alloc (.cells (ints 26 fun _ => 0) 25)) := (Below.refl _ w).alloc (Nat.le_refl _) _
  have hB := (show Hid (∀ W, Calls Try.prog 54 #[.string ⟨#[89, 82, 85, 72, 81, 83, 76, 68, 80, 88, 78, 71, 79, 75, 77, 73, 69, 66, 70, 90, 67, 87, 86, 74, 65, 84]⟩] W fun e w' => e = .returned (.agg (ints 26 (spl miB))) ∧ Below W.heap.size W w') from fun W => rspelt_any ⟨miB.toArray⟩ (ls_dec (by decide)) (by decide) W)
  have hC := (show Hid (∀ W, Calls Try.prog 54 #[.string ⟨#[70, 86, 80, 74, 73, 65, 79, 89, 69, 68, 82, 90, 88, 87, 71, 67, 84, 75, 85, 81, 83, 66, 78, 77, 72, 76]⟩] W fun e w' => e = .returned (.agg (ints 26 (spl miC))) ∧ Below W.heap.size W w') from fun W => rspelt_any ⟨miC.toArray⟩ (ls_dec (by decide)) (by decide) W)
  have q1 := name_eq [66] name
  have q2 := name_eq [67] name
  by_cases h1 : name.data.toList = [66]
  · have HP : Hid (miP name.data.toList = spl miB) := by unfold miP; rw [Hid, if_pos h1]
    have HE : Hid (miE name.data.toList = 0) := by unfold miE; rw [Hid, if_pos (.inl h1)]
    rw [decide_eq_true h1] at q1
    clear h1 q2 hC
    go_enter Try.func26, Try.ntmps26
    go_wp2_with fail
    refine (hB.out _).mono ?_
    rintro e W1 ⟨rfl, hb⟩
    have hr1 := hr0.below hb hr0.lt
    have hb1 := hb0.trans (hb.mono hb0.size)
    clear hb hB hr0 hb0
    go_wp2_with (first | refine wpList_store_row rfl 25 _ _ rfl w.heap.size (ints 26 (spl miB)) rfl rfl 25 _ hr1 (by rw [ints_size]; exact info_perm) (by simp only [ints_size]) (ints_one _ _) ?_)
    exact bodyPost_ret (v := .tuple #[.agg (ints 26 (spl miB)), .int .i64 0]) (results_cell_tmp2 rfl _ _ w.heap.size 25 _ (0, 0) _ _ rfl rfl (hr1.row _) Try.underlying25 rfl (by rw [ints_size]; exact info_perm)) rfl ⟨by rw [HP.out, HE.out], Below.setRow hb1 _ (Nat.le_refl _) _⟩
  · rw [decide_eq_false h1] at q1
    by_cases h2 : name.data.toList = [67]
    · have HP : Hid (miP name.data.toList = spl miC) := by unfold miP; rw [Hid, if_neg h1, if_pos h2]
      have HE : Hid (miE name.data.toList = 0) := by unfold miE; rw [Hid, if_pos (.inr h2)]
      rw [decide_eq_true h2] at q2
      clear h1 h2 hB
      go_enter Try.func26, Try.ntmps26
      go_wp2_with fail
      refine (hC.out _).mono ?_
      rintro e W1 ⟨rfl, hb⟩
      have hr1 := hr0.below hb hr0.lt
      have hb1 := hb0.trans (hb.mono hb0.size)
      clear hb hC hr0 hb0
      go_wp2_with (first | refine wpList_store_row rfl 25 _ _ rfl w.heap.size (ints 26 (spl miC)) rfl rfl 25 _ hr1 (by rw [ints_size]; exact info_perm) (by simp only [ints_size]) (ints_one _ _) ?_)
      exact bodyPost_ret (v := .tuple #[.agg (ints 26 (spl miC)), .int .i64 0]) (results_cell_tmp2 rfl _ _ w.heap.size 25 _ (0, 0) _ _ rfl rfl (hr1.row _) Try.underlying25 rfl (by rw [ints_size]; exact info_perm)) rfl ⟨by rw [HP.out, HE.out], Below.setRow hb1 _ (Nat.le_refl _) _⟩
    · have HP : Hid (miP name.data.toList = fun _ => 0) := by unfold miP; rw [Hid, if_neg h1, if_neg h2]
      have HE : Hid (miE name.data.toList = 7) := by unfold miE; rw [Hid, if_neg (fun h => h.elim h1 h2)]
      rw [decide_eq_false h2] at q2
      clear h1 h2 hB hC
      have hr1 := hr0
      go_enter Try.func26, Try.ntmps26
      go_wp2_with (first | refine wpList_build0 rfl 25 rfl _ built_perm ?_ | refine wpList_store_row rfl 25 _ _ rfl w.heap.size (ints 26 fun _ => 0) rfl rfl 25 _ hr1 (by rw [ints_size]; exact info_perm) (by simp only [ints_size]) (ints_one _ _) ?_)
      exact bodyPost_ret (v := .tuple #[.agg (ints 26 fun _ => 0), .int .i64 7]) (results_cell_tmp2 rfl _ _ w.heap.size 25 _ (0, 0) _ _ rfl rfl (hr1.row _) Try.underlying25 rfl (by rw [ints_size]; exact info_perm)) rfl ⟨by rw [HP.out, HE.out], Below.setRow hb0 _ (Nat.le_refl _) _⟩
end Go.Proofs.Ythfjkhmedpilnaa

/-
  The machine that alive asks: I, II, III, mirror B.
-/
namespace Go.Proofs.Ythfjkhmedpilnaa
open Go.RowKit PK Vg

def kw1 : List UInt8 := [69, 75, 77, 70, 76, 71, 68, 81, 86, 90, 78, 84, 79, 87, 89, 72, 88, 85, 83, 80, 65, 73, 66, 82, 67, 74]
def kw2 : List UInt8 := [65, 74, 68, 75, 83, 73, 82, 85, 88, 66, 76, 72, 87, 84, 77, 67, 81, 71, 90, 78, 80, 89, 70, 86, 79, 69]
def kw3 : List UInt8 := [66, 68, 70, 72, 74, 76, 67, 80, 82, 84, 88, 86, 90, 78, 89, 69, 73, 87, 71, 65, 75, 77, 85, 83, 81, 79]
def kw4 : List UInt8 := [69, 83, 79, 86, 80, 90, 74, 65, 89, 81, 85, 73, 82, 72, 88, 76, 78, 70, 84, 71, 75, 68, 67, 77, 87, 66]
def kw5 : List UInt8 := [86, 90, 66, 82, 71, 73, 84, 89, 85, 80, 83, 68, 78, 72, 76, 88, 65, 87, 77, 74, 81, 79, 70, 69, 67, 75]
/-- What Known says of a name: what the letters go to, and the notch. -/
def knT : List (List UInt8 × List UInt8 × Nat) := [([73], kw1, 16), ([73, 73], kw2, 4), ([73, 73, 73], kw3, 21), ([73, 86], kw4, 9), ([86], kw5, 25)]
def knI (name : List UInt8) : Option (List UInt8 × List UInt8 × Nat) := knT.find? fun x => x.1 == name
def knW (name : List UInt8) : Nat → Int := match knI name with
  | some x => spl x.2.1
  | none => fun _ => 0
def knN (name : List UInt8) : List Nat := match knI name with
  | some x => [x.2.2]
  | none => []
def knE (name : List UInt8) : Int := match knI name with
  | some _ => 0
  | none => 7
def gAl : Gm := ⟨3, fun r => if r = 0 then spl kw1 else if r = 1 then spl kw2 else spl kw3, fun _ => 1, fun r _ => if r = 0 then 16 else if r = 1 then 4 else 21, 3, fun _ => 0, 3, fun _ => 0, spl miB, Pm.up fun i => i⟩
end Go.Proofs.Ythfjkhmedpilnaa
