/-
  Several texts, joined: FhD, FhE.
-/
import Derived.Test.YtbbpbcmpemmgjaaFhC
/-
  BombeStops' whole run, where the document lets it search.
-/
namespace Go.Proofs.Ytbbpbcmpemmgjaa
open Go.RowKit PK Vg Go.Conc Cs
theorem enter_stops (A : Array Value) (cr : ByteArray) (n k : Nat) : Frame.enter Try.prog 6 #[.agg A, .string cr, .int .i64 (n : Nat), .int .i64 (k : Nat)] .normal = (base 6).at ⟨#[.agg A, .string cr, .int .i64 (n : Nat), .int .i64 (k : Nat), undef, undef, undef, undef, undef, undef, undef, undef, undef, undef, undef, undef, undef, undef, undef, undef, undef, undef, undef, undef, undef, undef, undef, undef, undef, undef, undef, undef, undef, undef, undef, undef, undef, undef, undef, undef, undef, undef, undef, undef, undef, undef, undef, undef, undef, undef, undef, undef, undef, undef, undef, undef, undef, undef, undef, undef, undef, undef, undef, undef, undef, undef, undef, undef, undef, undef, undef, undef, undef, undef, undef, undef, undef, undef, undef, undef, undef, undef, undef, undef, undef, undef, undef, undef, undef, undef, undef, undef, undef, undef, undef, undef, undef, undef, undef, undef, undef, undef, undef, undef, undef, undef, undef, undef, undef, undef, undef, undef, undef], []⟩ [.code nB] := by
  simp [Frame.enter, Try.func6, Try.f6, nB, base, Frame.at, Array.replicate, List.replicate]
theorem vr_told {E : Env} {te : ByteArray} {v' : Value} (h : VR E (.tuple #[.string te, .agg #[.int .i64 0, .int .i64 0]]) v') : v' = .tuple #[.string te, .agg #[.int .i64 0, .int .i64 0]] := by
  cases h with
  | tuple hs hv =>
    rename_i y
    have h0 : 0 < y.size := by rw [← hs]; exact Nat.zero_lt_two
    have h1 : 1 < y.size := by rw [← hs]; exact Nat.one_lt_two
    have k0 := hv 0 (.string te) _ rfl (Array.getElem?_eq_getElem h0)
    have k1 := hv 1 (.agg #[.int .i64 0, .int .i64 0]) _ rfl (Array.getElem?_eq_getElem h1)
    have e0 : y[0] = .string te := by
      revert k0
      generalize y[0] = z
      intro k0
      cases k0
      rfl
    have e1 : y[1] = .agg #[.int .i64 0, .int .i64 0] := by
      revert k1
      generalize y[1] = z
      intro k1
      cases k1 with
      | agg a b =>
        rename_i x
        have g0 : 0 < x.size := by rw [← a]; exact Nat.zero_lt_two
        have g1 : 1 < x.size := by rw [← a]; exact Nat.one_lt_two
        have m0 := b 0 (.int .i64 0) _ rfl (Array.getElem?_eq_getElem g0)
        have m1 := b 1 (.int .i64 0) _ rfl (Array.getElem?_eq_getElem g1)
        have f0 : x[0] = .int .i64 0 := by
          revert m0
          generalize x[0] = z
          intro m0
          cases m0
          rfl
        have f1 : x[1] = .int .i64 0 := by
          revert m1
          generalize x[1] = z
          intro m1
          cases m1
          rfl
        congr 1
        refine Array.ext (by rw [← a]) fun i hi1 hi2 => ?_
        rcases (by simp at hi2; omega : i = 0 ∨ i = 1) with rfl | rfl
        · exact f0
        · exact f1
    congr 1
    refine Array.ext (by rw [← hs]) fun i hi1 hi2 => ?_
    rcases (by simp at hi2; omega : i = 0 ∨ i = 1) with rfl | rfl
    · exact e0
    · exact e1
set_option maxRecDepth 100000 in
set_option maxHeartbeats 8000000 in
theorem stops_run (a b c : Value) (g : Gm) (cr te : ByteArray) (hl : Hl) (hE : rwE g cr.data.toList = 0) (hte : te = ⟨(rwS g cr.data.toList).toArray⟩) (hBm : BmS g hl cr te) (N0 Aa PA : Nat) (pr : Nat → Nat → Int) (LG : List Nat) (hO : OwnG g hl N0 Aa PA pr LG) (hN0 : gmN g N0 = g) (hN1 : N0 < 26 ^ g.n) (hgE : gE g = 0) (hn2 : g.n ≤ 2) (hW0 : bwE g cr.data.toList te.data.toList = 0) (n k : Nat) (hn : 1 ≤ n ∧ n ≤ 16) (hk : 1 ≤ k ∧ k ≤ 16) (hfit : ∀ r, r < g.n → g.nl r * 8 ≤ 140737488355328) (hrl : g.rl * 8 ≤ 140737488355328) (W : World) (ha : WhR W a g.n g.wi g.nl g.no) (hb : NumsAt W b g.rl g.ri) (hc : NumsAt W c g.sl g.st) (ra : Rt W a) (rb : Rt W b) (rc : Rt W c) :
    ∃ N last o w' t', runNT Try.prog (N + 1) (solo (G (Frame.enter Try.prog 6 #[.agg (mac a b c g.rf g.pl), .string cr, .int .i64 (n : Nat), .int .i64 (k : Nat)] .normal) []) W) #[] = (.ended o w', t') ∧ runN Try.prog N (solo (G (Frame.enter Try.prog 6 #[.agg (mac a b c g.rf g.pl), .string cr, .int .i64 (n : Nat), .int .i64 (k : Nat)] .normal) []) W) = .next last ∧ step Try.prog last = .ended o w' ∧ Conc.Good Try.prog (fun v W' => v = .bool true ∧ Kept W W') last o w' t' := by
  have hG : Try.prog.globals.size ≤ Fns.G := Nat.le_refl _
  obtain ⟨A, hA0⟩ : ∃ A, A = mac a b c g.rf g.pl := ⟨_, rfl⟩
  have hA : A.size = 55 := by rw [hA0]; exact mac_size ..
  rw [← hA0, enter_stops]
  obtain ⟨mu1, G1⟩ := st_a A cr n k [] W.heap W.os W.output W ⟨rfl, rfl, rfl⟩
  obtain ⟨N1, gs1, w1, sl1, t1, q1, g1, r1, z1, i1, ⟨rfl, I1⟩, Q1⟩ := beside_walk (sl := none) (gs := #[_]) (fun _ _ _ h => h) (fun g w h => by rw [h.1]; rfl) rfl G1 (qt_one Try.prog _ (fun _ => 0) W.heap.size)
  have d1 : w1.heap[W.heap.size]? = some (.cells A 27 (0, 0)) := by rw [I1.1, Array.getElem?_push, if_pos rfl]
  have o1 : ∀ b, b < W.heap.size → w1.heap[b]? = W.heap[b]? := fun b hb => by rw [I1.1, Array.getElem?_push, if_neg (by omega)]
  have s1 : W.heap.size < w1.heap.size := heap_lt d1
  -- alive
  have p0 := Cp.nil (P := Try.prog) w1
  have hin1 : ∀ cs, InCall Try.prog (fun v _ => v = .bool true) cs _ (G (Frame.enter Try.prog 16 #[] .normal) [trap Try.prog]) _ (G (Frame.enter Try.prog 16 #[] .normal) cs) w1 := fun cs => InCall.start (c := cs) fd_fnsCode (f := 16) (by kernel_rfl) (x := #[]) (y := #[]) lr_nil p0.wr p0.big (fun τ => (alive10_any _).mono fun e w' h => ⟨_, h.1, rfl⟩)
  obtain ⟨N2, gs2, w2, sl2, t2, q2, E2, u2, u2', wl2, r2, z2, i2, p2, vr2, _, fc2, Q2⟩ := beside_call (sl := sl1) hG fd_fnsCode i1 (hin1 _) Q1
  subst p2
  cases vr2
  have k2 : ∀ b, b < w1.heap.size → w2.heap[b]? = w1.heap[b]? := fun b hb => fc2.keep b hb (fun b' s e => by cases e)
  have o2 : ∀ b, b < W.heap.size → w2.heap[b]? = W.heap[b]? := fun b hb => (k2 b (by omega)).trans (o1 b hb)
  have d2 : w2.heap[W.heap.size]? = some (.cells A 27 (0, 0)) := (k2 _ s1).trans d1
  -- to Write
  obtain ⟨mu3, G3⟩ := st_b A hA cr n k W.heap.size [] w2.heap W.os W.output w2 ⟨rfl, fc2.os.trans I1.2.1, fc2.output.trans I1.2.2⟩ d2
  obtain ⟨N3, gs3, w3, sl3, t3, q3, g3, r3, z3, i3, ⟨rfl, I3⟩, Q3⟩ := beside_walk (sl := sl2) (fun _ _ _ h => h) (fun g w h => by rw [h.1]; rfl) i2 G3 Q2
  have o3 : ∀ b, b < W.heap.size → w3.heap[b]? = W.heap[b]? := fun b hb => by rw [I3.1]; exact o2 b hb
  have d3 : w3.heap[W.heap.size]? = some (.cells A 27 (0, 0)) := by rw [I3.1]; exact d2
  -- Write
  have hAt : rwAt g cr.data.toList = 0 := by
    obtain ⟨h1, h2⟩ := rwE_zero hE
    unfold rwAt
    rcases ck_cases cr.data.toList with ⟨_, h4, _⟩ | h3
    · simp [h1, h4]
    · rw [h2] at h3; cases h3
  obtain ⟨E4, wl4, a', b', c', p4, _, ra', rb', rc', hm4⟩ := cp_mac (Cp.nil (P := Try.prog) w3) no_type (whr_ag o3 ha) (nums_ag o3 hb) (nums_ag o3 hc) (rt_ag o3 ra) (rt_ag o3 rb) (rt_ag o3 rc)
  have hin4 : ∀ cs, InCall Try.prog (fun v _ => v = .tuple #[.string te, .agg #[.int .i64 0, .int .i64 0]]) cs E4 (G (Frame.enter Try.prog 17 #[.agg (mac a' b' c' g.rf g.pl), .string cr] .normal) [trap Try.prog]) wl4 (G (Frame.enter Try.prog 17 #[.agg A, .string cr] .normal) cs) w3 := fun cs => InCall.start (c := cs) fd_fnsCode (f := 17) (by kernel_rfl) (x := #[.agg (mac a' b' c' g.rf g.pl), .string cr]) (y := #[.agg A, .string cr]) (lr_cons (.mkAgg (by rw [hA0]; exact lr_mac ra' rb' rc')) (lr_cons (.string _) lr_nil)) p4.wr p4.big (fun τ => by
    have h1 := write8_any _ g cr (wl4.tp τ) hm4
    rw [← hte, hE, hAt] at h1
    refine h1.mono ?_
    rintro e w' ⟨rfl, _⟩
    exact ⟨_, rfl, rfl⟩)
  obtain ⟨N5, gs5, w5, sl5, t5, q5, E5, u5, u5', wl5, r5, z5, i5, p5, vr5, wr5, fc5, Q5⟩ := beside_call (sl := sl3) hG fd_fnsCode i3 (hin4 _) Q3
  subst p5
  obtain rfl := vr_told vr5
  have k5 : ∀ b, b < w3.heap.size → w5.heap[b]? = w3.heap[b]? := fun b hb => fc5.keep b hb (fun b' s e => by have := p4.sh _ _ _ _ e; cases this)
  have s3 : W.heap.size < w3.heap.size := heap_lt d3
  have o5 : ∀ b, b < W.heap.size → w5.heap[b]? = W.heap[b]? := fun b hb => (k5 b (by omega)).trans (o3 b hb)
  have d5 : w5.heap[W.heap.size]? = some (.cells A 27 (0, 0)) := (k5 _ s3).trans d3
  have s5 : W.heap.size < w5.heap.size := heap_lt d5
  clear hin4 hin1 hm4 p4 p0
  -- to Search
  obtain ⟨aw, cw, R, haw, _⟩ := id ha
  have hA00 : A[0]? = some (.slice aw g.n cw) := by rw [hA0, mac_0, haw]
  obtain ⟨mu6, G6⟩ := st_c A hA cr te n k W.heap.size aw g.n cw hA00 hn2 hn hk [] w5.heap W.os W.output w5 ⟨rfl, fc5.os.trans I3.2.1, fc5.output.trans I3.2.2⟩ d5
  obtain ⟨N6, gs6, w6, sl6, t6, q6, g6, r6, z6, i6, h6, Q6⟩ := beside_walk (sl := sl5) (fun _ _ _ h => h) (fun g w h => by obtain ⟨_, e, _⟩ := h; rw [e]; rfl) i5 G6 Q5
  obtain ⟨v, rfl, I6⟩ := h6
  have o65 : ∀ b, b < w5.heap.size → w6.heap[b]? = w5.heap[b]? := fun b hb => by rw [I6.1, Array.getElem?_push, if_neg (by omega)]
  have k6 : Kept W w6 := ⟨fun b hb => (o65 b (by omega)).trans (o5 b hb), I6.2.1, I6.2.2⟩
  have d6 : w6.heap[W.heap.size]? = some (.cells A 27 (0, 0)) := (o65 _ s5).trans d5
  obtain ⟨N7, gs7, w7, sl7, t7, q7, g7, r7, i7, hs, hend, Q7, k7⟩ := stops_p1 g cr te hl hBm N0 Aa PA pr LG hO hN0 hN1 hgE hn2 v W.heap.size n k hn hk hfit hrl a b c A hA0 hW0 w6 d6 (whr_ag k6.1 ha) (nums_ag k6.1 hb) (nums_ag k6.1 hc) (rt_ag k6.1 ra) (rt_ag k6.1 rb) (rt_ag k6.1 rc) i6 Q6 sl6
  refine good_end (NN := N1 + (N2 + (N3 + (N5 + (N6 + N7))))) (sl10 := sl7) ?_ i7 hs hend Q7 (keptB_trans k6 k7)
  have r1' : runNT Try.prog N1 (crowd #[G ((base 6).at ⟨#[.agg A, .string cr, .int .i64 (n : Nat), .int .i64 (k : Nat), undef, undef, undef, undef, undef, undef, undef, undef, undef, undef, undef, undef, undef, undef, undef, undef, undef, undef, undef, undef, undef, undef, undef, undef, undef, undef, undef, undef, undef, undef, undef, undef, undef, undef, undef, undef, undef, undef, undef, undef, undef, undef, undef, undef, undef, undef, undef, undef, undef, undef, undef, undef, undef, undef, undef, undef, undef, undef, undef, undef, undef, undef, undef, undef, undef, undef, undef, undef, undef, undef, undef, undef, undef, undef, undef, undef, undef, undef, undef, undef, undef, undef, undef, undef, undef, undef, undef, undef, undef, undef, undef, undef, undef, undef, undef, undef, undef, undef, undef, undef, undef, undef, undef, undef, undef, undef, undef, undef, undef], []⟩ [.code nB]) []] W none) #[] = (.next (crowd gs1 w1 sl1), t1) := r1
  rw [runNT_add, r1']
  show runNT Try.prog (N2 + (N3 + (N5 + (N6 + N7)))) (crowd gs1 w1 sl1) t1 = _
  rw [runNT_add, r2]
  show runNT Try.prog (N3 + (N5 + (N6 + N7))) (crowd gs2 w2 sl2) t2 = _
  rw [runNT_add, r3]
  show runNT Try.prog (N5 + (N6 + N7)) (crowd gs3 w3 sl3) t3 = _
  rw [runNT_add, r5]
  show runNT Try.prog (N6 + N7) (crowd gs5 w5 sl5) t5 = _
  rw [runNT_add, r6]
  exact r7
end Go.Proofs.Ytbbpbcmpemmgjaa

/-
  BombeStops where nothing is searched: no goroutine is begun (a lone walk).
-/
namespace Go.Proofs.Ytbbpbcmpemmgjaa
open Go.RowKit PK Vg

/-- BombeStops lets nothing be searched. -/
def stB (E : Int) (gn : Nat) (n k : Int) : Prop := E ≠ 0 ∨ 2 < gn ∨ n < 1 ∨ 16 < n ∨ k < 1 ∨ 16 < k
set_option maxRecDepth 100000 in
set_option maxHeartbeats 4000000 in
theorem stops_bad1 (vm : Value) (g : Gm) (cr : ByteArray) (n k : Int) (hbad : stB (rwE g cr.data.toList) g.n n k) (w : World) (hm : MacAt w vm g) : Calls Try.prog 6 #[vm, .string cr, .int .i64 n, .int .i64 k] w fun e w' => e = .returned (.bool true) ∧ Below w.heap.size w w' := by
  have HA := (show Hid (∀ W, Calls Try.prog 16 #[] W fun e w' => e = .returned (.bool true) ∧ Below W.heap.size W w') from alive10_any)
  have HW := (show Hid (∀ W, Below w.heap.size w W → Calls Try.prog 17 #[vm, .string cr] W fun e w' => e = .returned (.tuple #[.string ⟨(rwS g cr.data.toList).toArray⟩, .agg #[.int .i64 (rwE g cr.data.toList), .int .i64 (rwAt g cr.data.toList)]]) ∧ Below W.heap.size W w') from fun W hb => write8_any vm g cr W (hm.below hb))
  obtain ⟨a, b, c, rfl, hwh, _, _⟩ := hm
  obtain ⟨aw, cw, R, rfl, _, _, _⟩ := hwh
  have h0 := MgAt.new w (.slice aw g.n cw) b c g.rf g.pl
  have hr0 := h0.row
  have hb0 := h0.below
  have HM0 := (show Hid ((mac (.slice aw g.n cw) b c g.rf g.pl)[0]? = some (.slice aw g.n cw)) from mac_0 _ _ _ _ _)
  have hA0s : (mac (.slice aw g.n cw) b c g.rf g.pl).size = 55 := mac_size _ _ _ _ _
  clear h0
  generalize mac (.slice aw g.n cw) b c g.rf g.pl = A0 at *
  obtain ⟨te, hte⟩ : ∃ te : ByteArray, te = ⟨(rwS g cr.data.toList).toArray⟩ := ⟨_, rfl⟩
  rw [← hte] at HW
  clear hte
  generalize rwE g cr.data.toList = E at *
  generalize rwAt g cr.data.toList = At at *
  have hzF : (Try.prog.info? 46).map (·.zero) = some (some (.agg #[.int .i64 0, .int .i64 0])) := by kernel_rfl
  have hzq := o_zero hzF
  go_enter Try.func6, Try.ntmps6
  go_upto_region 1 with fail
  generalize w.alloc (.cells A0 27) = W0 at *
  go_wp2_with fail
  refine (HA.out _).mono ?_
  rintro e W1 ⟨rfl, hb⟩
  have hr1 := hr0.below hb hr0.lt
  have hb1 := hb0.trans (hb.mono hb0.size)
  clear hb hr0 hb0 HA
  go_wp2_with (first | refine wpList_load_row rfl 27 _ rfl w.heap.size rfl 27 A0 (0, 0) _ hr1 Try.underlying27 rfl (by rw [hA0s]; exact v_info_mac) ?_)
  refine (HW.out _ hb1).mono ?_
  rintro e W2 ⟨rfl, hb⟩
  have hr2 := hr1.below hb hr1.lt
  have hb2 := hb1.trans (hb.mono hb1.size)
  clear hb hr1 hb1 HW
  obtain ⟨X, hX⟩ : ∃ X : Array Value, X = #[.int .i64 E, .int .i64 At] := ⟨_, rfl⟩
  have hXs : X.size = 2 := by rw [hX]; rfl
  have hXo : X.all (·.oneCell') = true := by rw [hX]; simp [Value.oneCell']
  have HX0 : Hid (X[0]? = some (.int .i64 E)) := by rw [Hid, hX]; rfl
  rw [← hX]
  clear hX
  go_upto_region 4 with (first | refine wpList_store_row rfl 46 _ _ rfl W2.heap.size X rfl rfl 46 _ (RowAt.new W2 _ _) (by rw [hXs]; exact f_size_fault) (by rw [hXs]; rfl) hXo ?_)
  have hq := (RowAt.new W2 46 #[.int .i64 0, .int .i64 0]).row X
  have hb8 := Below.setRow ((Below.refl W2.heap.size W2).alloc (Nat.le_refl _) (.cells #[.int .i64 0, .int .i64 0] 46)) W2.heap.size (Nat.le_refl _) X
  obtain ⟨W3, hW3⟩ : ∃ W3, W3 = (W2.alloc (.cells #[.int .i64 0, .int .i64 0] 46)).setRow W2.heap.size X := ⟨_, rfl⟩
  rw [← hW3] at hq hb8 ⊢
  clear hW3
  have hr3 := hr2.below hb8 hr2.lt
  have hb3 := hb2.trans (hb8.mono hb2.size)
  have c0 := hq.cell HX0.out
  have c1 := hr3.cell HM0.out
  have HB3 := (show Hid _ from hb3)
  clear hb8 hr2 hb2 hzF hzq hq hr3 hb3
  generalize W2.heap.size = qf at *
  by_cases b1 : E = 0
  case neg =>
    have b1' : (E != 0) = true := by simpa using b1
    clear b1 hbad
    go_wp2
    go_ret
    exact ⟨rfl, HB3.out⟩
  subst b1
  have e0 : ((0 : Int) != 0) = false := rfl
  by_cases b2 : 2 < g.n
  · have b2' : (2 : Int) < (g.n : Int) := by omega
    clear b2 hbad
    go_wp2
    go_ret
    exact ⟨rfl, HB3.out⟩
  have b2' : ¬ (2 : Int) < (g.n : Int) := by omega
  by_cases b3 : n < 1
  · clear hbad
    go_wp2
    go_ret
    exact ⟨rfl, HB3.out⟩
  by_cases b4 : 16 < n
  · clear hbad
    go_wp2
    go_ret
    exact ⟨rfl, HB3.out⟩
  by_cases b5 : k < 1
  · clear hbad
    go_wp2
    go_ret
    exact ⟨rfl, HB3.out⟩
  by_cases b6 : 16 < k
  · clear hbad
    go_wp2
    go_ret
    exact ⟨rfl, HB3.out⟩
  unfold stB at hbad
  omega
set_option maxRecDepth 100000 in
set_option maxHeartbeats 4000000 in
theorem stops_bad2 (vm : Value) (g : Gm) (cr te : ByteArray) (n k : Int) (hE : rwE g cr.data.toList = 0) (hte : te = ⟨(rwS g cr.data.toList).toArray⟩) (hn2 : g.n ≤ 2) (hn : 1 ≤ n ∧ n ≤ 16) (hk : 1 ≤ k ∧ k ≤ 16) (hW0 : bwE g cr.data.toList te.data.toList = 5) (w : World) (hm : MacAt w vm g) : Calls Try.prog 6 #[vm, .string cr, .int .i64 n, .int .i64 k] w fun e w' => e = .returned (.bool true) ∧ Below w.heap.size w w' := by
  have hAt : rwAt g cr.data.toList = 0 := by
    obtain ⟨h1, h2⟩ := rwE_zero hE
    unfold rwAt
    rcases ck_cases cr.data.toList with ⟨_, h4, _⟩ | h3
    · simp [h1, h4]
    · rw [h2] at h3; cases h3
  have HA := (show Hid (∀ W, Calls Try.prog 16 #[] W fun e w' => e = .returned (.bool true) ∧ Below W.heap.size W w') from alive10_any)
  have HW := (show Hid (∀ W, Below w.heap.size w W → Calls Try.prog 17 #[vm, .string cr] W fun e w' => e = .returned (.tuple #[.string te, .agg #[.int .i64 0, .int .i64 0]]) ∧ Below W.heap.size W w') from fun W hb => by have := write8_any vm g cr W (hm.below hb); rw [← hte, hE, hAt] at this; exact this)
  have HS := (show Hid (∀ h W, Below w.heap.size w W → Calls Try.prog 13 #[vm, .string cr, .string te, .int .i64 h] W fun e w' => e = .returned (.tuple #[.slice none 0 0, .int .i64 5]) ∧ Below W.heap.size W w') from fun h W hb => by have := psearch_bad1 vm g cr te h (by rw [hW0]; decide) W (hm.below hb); rw [hW0] at this; exact this)
  obtain ⟨a, b, c, rfl, hwh, _, _⟩ := hm
  obtain ⟨aw, cw, R, rfl, _, _, _⟩ := hwh
  have h0 := MgAt.new w (.slice aw g.n cw) b c g.rf g.pl
  have hr0 := h0.row
  have hb0 := h0.below
  have HM0 := (show Hid ((mac (.slice aw g.n cw) b c g.rf g.pl)[0]? = some (.slice aw g.n cw)) from mac_0 _ _ _ _ _)
  have hA0s : (mac (.slice aw g.n cw) b c g.rf g.pl).size = 55 := mac_size _ _ _ _ _
  clear h0 hAt hW0 hE hte
  generalize mac (.slice aw g.n cw) b c g.rf g.pl = A0 at *
  have b2' : ¬ (2 : Int) < (g.n : Int) := by omega
  have b3 : ¬ n < 1 := by omega
  have b4 : ¬ 16 < n := by omega
  have b5 : ¬ k < 1 := by omega
  have b6 : ¬ 16 < k := by omega
  clear hn2 hn hk
  have hzF : (Try.prog.info? 46).map (·.zero) = some (some (.agg #[.int .i64 0, .int .i64 0])) := by kernel_rfl
  have hzq := o_zero hzF
  go_enter Try.func6, Try.ntmps6
  go_upto_region 1 with fail
  generalize w.alloc (.cells A0 27) = W0 at *
  go_wp2_with fail
  refine (HA.out _).mono ?_
  rintro e W1 ⟨rfl, hb⟩
  have hr1 := hr0.below hb hr0.lt
  have hb1 := hb0.trans (hb.mono hb0.size)
  clear hb hr0 hb0 HA
  go_wp2_with (first | refine wpList_load_row rfl 27 _ rfl w.heap.size rfl 27 A0 (0, 0) _ hr1 Try.underlying27 rfl (by rw [hA0s]; exact v_info_mac) ?_)
  refine (HW.out _ hb1).mono ?_
  rintro e W2 ⟨rfl, hb⟩
  have hr2 := hr1.below hb hr1.lt
  have hb2 := hb1.trans (hb.mono hb1.size)
  clear hb hr1 hb1 HW
  obtain ⟨X, hX⟩ : ∃ X : Array Value, X = #[.int .i64 0, .int .i64 0] := ⟨_, rfl⟩
  have hXs : X.size = 2 := by rw [hX]; rfl
  have hXo : X.all (·.oneCell') = true := by rw [hX]; simp [Value.oneCell']
  have HX0 : Hid (X[0]? = some (.int .i64 0)) := by rw [Hid, hX]; rfl
  rw [← hX]
  clear hX
  go_upto_region 4 with (first | refine wpList_store_row rfl 46 _ _ rfl W2.heap.size X rfl rfl 46 _ (RowAt.new W2 _ _) (by rw [hXs]; exact f_size_fault) (by rw [hXs]; rfl) hXo ?_)
  have hq := (RowAt.new W2 46 #[.int .i64 0, .int .i64 0]).row X
  have hb8 := Below.setRow ((Below.refl W2.heap.size W2).alloc (Nat.le_refl _) (.cells #[.int .i64 0, .int .i64 0] 46)) W2.heap.size (Nat.le_refl _) X
  obtain ⟨W3, hW3⟩ : ∃ W3, W3 = (W2.alloc (.cells #[.int .i64 0, .int .i64 0] 46)).setRow W2.heap.size X := ⟨_, rfl⟩
  rw [← hW3] at hq hb8 ⊢
  clear hW3
  have hr3 := hr2.below hb8 hr2.lt
  have hb3 := hb2.trans (hb8.mono hb2.size)
  have c0 := hq.cell HX0.out
  have c1 := hr3.cell HM0.out
  clear hb8 hr2 hb2 hzF hzq hq
  generalize W2.heap.size = qf at *
  go_wp2_with (first | refine wpList_load_row rfl 27 _ rfl w.heap.size rfl 27 A0 (0, 0) _ hr3 Try.underlying27 rfl (by rw [hA0s]; exact v_info_mac) ?_)
  refine (HS.out n _ hb3).mono ?_
  rintro e W4 ⟨rfl, hb⟩
  have hr4 := hr3.below hb hr3.lt
  have hb4 := hb3.trans (hb.mono hb3.size)
  clear hb hr3 hb3 c0 c1
  go_wp2_with (first | refine wpList_load_row rfl 27 _ rfl w.heap.size rfl 27 A0 (0, 0) _ hr4 Try.underlying27 rfl (by rw [hA0s]; exact v_info_mac) ?_)
  refine (HS.out k _ hb4).mono ?_
  rintro e W5 ⟨rfl, hb⟩
  have hb5 := hb4.trans (hb.mono hb4.size)
  clear hb hr4 hb4 HS
  go_wp2_with fail
  refine (samehalts_none _ _ _ _ W5).mono ?_
  rintro e W6 ⟨rfl, hb⟩
  have HB := (show Hid _ from hb5.trans (hb.mono hb5.size))
  clear hb hb5
  go_wp2
  go_ret
  exact ⟨rfl, HB.out⟩
end Go.Proofs.Ytbbpbcmpemmgjaa
