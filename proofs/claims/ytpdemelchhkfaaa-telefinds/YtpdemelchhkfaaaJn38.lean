/-
  Several texts, joined: TgO, YOpen, TeO.
-/
import Derived.Test.YtpdemelchhkfaaaJn37
import Derived.Test.YtpdemelchhkfaaaJn24
import Derived.Test.YtpdemelchhkfaaaChecked
import Derived.Deep.Matrix
import Derived.ProofKit
import Derived.OpenShut
import Derived.ShutString
import Derived.ChangeOld
import Derived.Carry
import Derived.ChangeSlices
import Derived.Test.YtpdemelchhkfaaaJn26
/-
  TeleFinds in company.
-/
namespace Go.Proofs.Ytpdemelchhkfaaa
open Go.Conc Go.RowKit PK Tl Cs
open Go.ConcR (KK WgAt wgBlock)
theorem enter_law (v va vb : Value) (h : Int) : Frame.enter Try.prog 3 #[v, va, vb, .int .i64 h] .normal = (base 3).at ⟨#[v, va, vb, .int .i64 h, undef, undef, undef, undef, undef, undef, undef, undef, undef, undef, undef, undef, undef, undef, undef, undef, undef, undef, undef, undef, undef, undef, undef, undef, undef, undef, undef, undef, undef, undef, undef, undef, undef], []⟩ [.code fB3] := by
  simp [Frame.enter, Try.func3, Try.f3, fB3, base, Frame.at, Array.replicate, List.replicate]
set_option maxRecDepth 100000 in
set_option maxHeartbeats 4000000 in
theorem law_head (v va vb : Value) (h : Nat) (H : Array Obj) (o : Os) (out : Array (Nat × ByteArray)) (w : World) (hI : HI H o out w) :
    ∃ mu, Goes Try.prog true AtRel (DG (fun _ => False) H.size) (fun g' w' => g' = G (mkF 7 #[v, va, vb, .int .i64 (h : Nat), undef, undef, undef, undef, undef, undef, undef, undef, undef, undef, undef, undef, undef, undef, undef, undef, undef, undef, undef, undef, undef, undef, undef, undef, undef, undef, undef, undef, undef, undef, undef, undef, undef, undef, undef, undef, undef, undef, undef, undef, undef, undef, undef, undef, undef, undef, undef, undef, undef, undef, undef, undef, undef, undef, undef, undef, undef, undef, undef, undef, undef, undef, undef, undef, undef, undef, undef, undef] [.code bBody] .run) [mkF 3 #[v, va, vb, .int .i64 (h : Nat), undef, undef, undef, undef, .bool false, undef, undef, undef, undef, undef, v, va, vb, .int .i64 (h : Nat), undef, undef, undef, undef, undef, undef, undef, undef, undef, undef, undef, undef, undef, undef, undef, undef, undef, undef, undef] [.inRegion fO1 (4 :: List.range' 5 6), .code (restAt 2 fB3)] .run] ∧ HI H o out w') mu (G ((base 3).at ⟨#[v, va, vb, .int .i64 (h : Nat), undef, undef, undef, undef, undef, undef, undef, undef, undef, undef, undef, undef, undef, undef, undef, undef, undef, undef, undef, undef, undef, undef, undef, undef, undef, undef, undef, undef, undef, undef, undef, undef, undef], []⟩ [.code fB3]) []) w := by
  refine ⟨40, ?_⟩
  simp only [fB3, fO1, restAt, Try.f3, Option.getD_some]
  repeat (refine gstepG hI rfl (fun w₁ h₁ => ?_); walk_rw; refine ⟨dg_same _, ?_⟩; clear hI; have hI := h₁; clear h₁)
  refine gstepG hI rfl (fun w₁ h₁ => ?_)
  refine goes_oper_k rfl rfl (by decide) (fun K hK => ?_)
  go_simp
  refine hK _ _ ⟨dg_of (by simp) (fun e he => ?_), ?_⟩
  · have hm := mem_listed he
    simp [go_sem, *] at hm
  clear hK K hI
  have hI := h₁
  clear h₁
  repeat (refine gstepG hI rfl (fun w₁ h₁ => ?_); walk_rw; refine ⟨dg_same _, ?_⟩; clear hI; have hI := h₁; clear h₁)
  refine gstepG hI rfl (fun w₁ h₁ => ?_)
  refine goes_oper_k rfl rfl (by decide) (fun K hK => ?_)
  go_simp
  refine hK _ _ ⟨dg_of (by simp) (fun e he => ?_), ?_⟩
  · have hm := mem_listed he
    simp [go_sem, *] at hm
  clear hK K hI
  have hI := h₁
  clear h₁
  refine gstepG hI rfl (fun w₁ h₁ => ?_)
  refine goes_oper_k rfl rfl (by decide) (fun K hK => ?_)
  go_simp
  refine hK _ _ ⟨dg_of (by simp) (fun e he => ?_), ?_⟩
  · have hm := mem_listed he
    simp [go_sem, *] at hm
  clear hK K hI
  have hI := h₁
  clear h₁
  refine gstepG hI rfl (fun w₁ h₁ => ?_)
  refine goes_oper_k rfl rfl (by decide) (fun K hK => ?_)
  go_simp
  refine hK _ _ ⟨dg_of (by simp) (fun e he => ?_), ?_⟩
  · have hm := mem_listed he
    simp [go_sem, *] at hm
  clear hK K hI
  have hI := h₁
  clear h₁
  refine gstepG hI rfl (fun w₁ h₁ => ?_)
  refine goes_oper_k rfl rfl (by decide) (fun K hK => ?_)
  go_simp
  refine hK _ _ ⟨dg_of (by simp) (fun e he => ?_), ?_⟩
  · have hm := mem_listed he
    simp [go_sem, *] at hm
  clear hK K hI
  have hI := h₁
  clear h₁
  refine gstepG hI rfl (fun w₁ h₁ => ?_)
  refine goes_call rfl rfl (by decide) rfl Try.func7 (by kernel_rfl) rfl ?_
  refine ⟨dg_same _, ?_⟩
  exact Goes.stop fun w₂ h₂ => by
    obtain ⟨d, rfl⟩ := h₂
    refine ⟨?_, h₁⟩
    have e1 : ∀ (a : Act), a.eval (.tmp 14) = v → a.eval (.tmp 15) = va → a.eval (.tmp 16) = vb → a.eval (.tmp 17) = .int .i64 (h : Nat) → (#[Operand.tmp 14, .tmp 15, .tmp 16, .tmp 17].map a.eval ++ Array.replicate (Try.f7.ntmps - (#[Operand.tmp 14, .tmp 15, .tmp 16, .tmp 17].map a.eval).size) undef) = #[v, va, vb, .int .i64 (h : Nat), undef, undef, undef, undef, undef, undef, undef, undef, undef, undef, undef, undef, undef, undef, undef, undef, undef, undef, undef, undef, undef, undef, undef, undef, undef, undef, undef, undef, undef, undef, undef, undef, undef, undef, undef, undef, undef, undef, undef, undef, undef, undef, undef, undef, undef, undef, undef, undef, undef, undef, undef, undef, undef, undef, undef, undef, undef, undef, undef, undef, undef, undef, undef, undef, undef, undef, undef, undef] := fun a k1 k2 k3 k4 => by
      simp [k1, k2, k3, k4, Array.replicate, List.replicate]
    rw [e1 _ rfl rfl rfl rfl]
    rfl
theorem law_item : [Item.inRegion fO1 (List.range' 5 6), .code (restAt 2 fB3)].all (itemOk Try.prog) = true := by kernel_rfl
def Kept (W W' : World) : Prop := (∀ b, b < W.heap.size → W'.heap[b]? = W.heap[b]?) ∧ W'.os = W.os ∧ W'.output = W.output
theorem nums_heap {W W' : World} (e : W'.heap = W.heap) {v : Value} {n : Nat} {f : Nat → Int} (h : NumsAt W v n f) : NumsAt W' v n f := by
  obtain ⟨a, cap, h1, h2, h3⟩ := h
  refine ⟨a, cap, h1, h2, fun c hc => ?_⟩
  obtain ⟨b, o, e1, k⟩ := h3 c hc
  exact ⟨b, o, e1, by unfold World.cell? at k ⊢; rw [e]; exact k⟩
theorem pins_heap {W W' : World} (e : W'.heap = W.heap) {v : Value} {n : Nat} {f : Nat → Bool} (h : PinsAt W v n f) : PinsAt W' v n f := by
  obtain ⟨a, cap, h1, h2, h3⟩ := h
  refine ⟨a, cap, h1, h2, fun c hc => ?_⟩
  obtain ⟨b, o, e1, k⟩ := h3 c hc
  exact ⟨b, o, e1, by unfold World.cell? at k ⊢; rw [e]; exact k⟩
theorem rt_heap {W W' : World} (e : W'.heap = W.heap) {v : Value} (h : Rt W v) : Rt W' v := fun a l c e1 hp => by rw [e]; exact h a l c e1 hp
theorem rt_pins {W : World} {v : Value} {n : Nat} {f : Nat → Bool} (h : PinsAt W v n f) (hn : 1 ≤ n) : Rt W v := by
  obtain ⟨a, cap, rfl, h2, h3⟩ := h
  obtain ⟨b, o, rfl, k⟩ := h3 0 hn
  intro a' l c e hp
  cases e
  exact ⟨rfl, cell_someT k⟩
set_option maxRecDepth 100000 in
set_option maxHeartbeats 8000000 in
theorem finds_run (v va vb : Value) (n la lb h : Nat) (f : Nat → Nat) (p q : Nat → Bool) (hn : n ≤ 65536) (hf : ∀ i, i < n → f i < 32) (ha : 1 ≤ la ∧ la ≤ 47) (hb : 1 ≤ lb ∧ lb ≤ 47) (hh : 1 ≤ h ∧ h ≤ 16) (W : World) (hv : NumsAt W v n (fun i => (f i : Int))) (h1 : PinsAt W va la p) (h2 : PinsAt W vb lb q) (rv : Rt W v) :
    ∃ N last o w' t', runNT Try.prog (N + 1) (solo (G (Frame.enter Try.prog 3 #[v, va, vb, .int .i64 (h : Nat)] .normal) []) W) #[] = (.ended o w', t') ∧ runN Try.prog N (solo (G (Frame.enter Try.prog 3 #[v, va, vb, .int .i64 (h : Nat)] .normal) []) W) = .next last ∧ step Try.prog last = .ended o w' ∧ Conc.Good Try.prog (fun u W' => u = .bool true ∧ Kept W W') last o w' t' := by
  have hG : Try.prog.globals.size ≤ Fns.G := Nat.le_refl _
  have ra := rt_pins h1 ha.1
  have rb := rt_pins h2 hb.1
  rw [enter_law]
  have I0 : HI W.heap W.os W.output W := ⟨rfl, rfl, rfl⟩
  obtain ⟨mu, G1⟩ := law_head v va vb h W.heap W.os W.output W I0
  have Q0 : Qs Try.prog (fun _ => False) #[G ((base 3).at ⟨#[v, va, vb, .int .i64 (h : Nat), undef, undef, undef, undef, undef, undef, undef, undef, undef, undef, undef, undef, undef, undef, undef, undef, undef, undef, undef, undef, undef, undef, undef, undef, undef, undef, undef, undef, undef, undef, undef, undef, undef], []⟩ [.code fB3]) []] #[] (fun _ => 0) 0 W.heap.size := qs_one _ _ _ _
  obtain ⟨N1, gs1, w1, sl1, t1, q1, g1, r1, z1, i1, ⟨rfl, I1⟩, Q1⟩ := beside_walk2 (sl := none) (fun w w' es h => h.1) (fun g w h => by rw [h.1]; rfl) rfl G1 Q0
  obtain ⟨N2, gs2, w2, sl2, t2, q2, hs, r2, i2, kp2, os2, ou2, hs1, hs2, Q2⟩ := best_call v va vb n la lb h f p q hn hf ha hb hh w1 w1 (nums_heap I1.1 hv) (pins_heap I1.1 h1) (pins_heap I1.1 h2) (rt_heap I1.1 rv) (rt_heap I1.1 ra) (rt_heap I1.1 rb) (fun _ _ => rfl) _ [] i1 Q1 sl1
  -- the ghost of what is left
  obtain ⟨av, cv, rfl, nv, kv⟩ := hv
  obtain ⟨aa, ca, rfl, na, ka⟩ := h1
  obtain ⟨ab, cb, rfl, nb, kb⟩ := h2
  have hn0 : ∀ b q s, (fun _ => none : Env) b ≠ some (q, s, true) := fun b q s e => by cases e
  obtain ⟨E1, wl1, av', c1, s1, b1, e1, r1', k1⟩ := cq_slice (P := Try.prog) (w := W) (Cp.nil W).cq hn0 no_type (f := fun i => .int .i64 (f i : Int)) (fun i E => .int _ _) kv rv
  obtain ⟨E2, wl2, aa', c2, s2, b2, e2, r2', k2⟩ := cq_slice c1 s1 no_type (f := fun i => .bool (p i)) (fun i E => .bool _) ka ra
  obtain ⟨E3, wl3, ab', c3, s3, b3, e3, r3', k3⟩ := cq_slice c2 s2 no_type (f := fun i => .bool (q i)) (fun i E => .bool _) kb rb
  have low : ∀ b q s o, E3 b = some (q, s, o) → o = false ∧ q < W.heap.size := fun b q s o e => by
    refine ⟨?_, ?_⟩
    · cases o with
      | false => rfl
      | true => exact absurd e (s3 b q s)
    · rcases b3 b q s o e with e | e
      · rcases b2 b q s o e with e | e
        · rcases b1 b q s o e with e | e
          · cases e
          · exact e
        · exact e
      · exact e
  have hw1 : w1.heap.size = W.heap.size := by rw [I1.1]
  have keep : ∀ b, b < W.heap.size → w2.heap[b]? = W.heap[b]? := fun b hb => by rw [kp2 b (by omega), I1.1]
  have hwr : WR Try.prog E3 wl3 w2 := wr_move c3.wr fun b x e => by
    obtain ⟨q, s, o⟩ := x
    exact keep q (low b q s o e).2
  have vres : VR E3 (.tuple #[.agg (hitV f n p la q lb (Tf.bk (plF f n p la q lb) (la * lb))), .int .i64 0]) (.tuple #[.agg (hitV f n p la q lb (Tf.bk (plF f n p la q lb) (la * lb))), .int .i64 0]) := .mkTuple (lr_cons (.mkAgg (lr_cons (.int _ _) (lr_cons (.int _ _) (lr_cons (.int _ _) lr_nil)))) (lr_cons (.int _ _) lr_nil))
  obtain ⟨j, hj⟩ := junks E3 (fun i => (#[.slice av n cv, .slice aa la ca, .slice ab lb cb, .int .i64 (h : Nat), undef, undef, undef, undef, .bool false, undef, undef, undef, undef, undef, .slice av n cv, .slice aa la ca, .slice ab lb cb, .int .i64 (h : Nat), .tuple #[.agg (hitV f n p la q lb (Tf.bk (plF f n p la q lb) (la * lb))), .int .i64 0], undef, undef, undef, undef, undef, undef, undef, undef, undef, undef, undef, undef, undef, undef, undef, undef, undef, undef] : Array Value).getD i undef)
  have lL : LR E3 #[.slice av' n cv, .slice aa' la ca, .slice ab' lb cb, .int .i64 (h : Nat), j 4, j 5, j 6, j 7, j 8, j 9, j 10, j 11, j 12, j 13, j 14, j 15, j 16, j 17, .tuple #[.agg (hitV f n p la q lb (Tf.bk (plF f n p la q lb) (la * lb))), .int .i64 0], j 19, j 20, j 21, j 22, j 23, j 24, j 25, j 26, j 27, j 28, j 29, j 30, j 31, j 32, j 33, j 34, j 35, j 36] #[.slice av n cv, .slice aa la ca, .slice ab lb cb, .int .i64 (h : Nat), undef, undef, undef, undef, .bool false, undef, undef, undef, undef, undef, .slice av n cv, .slice aa la ca, .slice ab lb cb, .int .i64 (h : Nat), .tuple #[.agg (hitV f n p la q lb (Tf.bk (plF f n p la q lb) (la * lb))), .int .i64 0], undef, undef, undef, undef, undef, undef, undef, undef, undef, undef, undef, undef, undef, undef, undef, undef, undef, undef] := (lr_cons ((r1'.mono e2.le).mono e3.le) (lr_cons (r2'.mono e3.le) (lr_cons r3' (lr_cons (.int _ _) (lr_cons (hj 4) (lr_cons (hj 5) (lr_cons (hj 6) (lr_cons (hj 7) (lr_cons (hj 8) (lr_cons (hj 9) (lr_cons (hj 10) (lr_cons (hj 11) (lr_cons (hj 12) (lr_cons (hj 13) (lr_cons (hj 14) (lr_cons (hj 15) (lr_cons (hj 16) (lr_cons (hj 17) (lr_cons vres (lr_cons (hj 19) (lr_cons (hj 20) (lr_cons (hj 21) (lr_cons (hj 22) (lr_cons (hj 23) (lr_cons (hj 24) (lr_cons (hj 25) (lr_cons (hj 26) (lr_cons (hj 27) (lr_cons (hj 28) (lr_cons (hj 29) (lr_cons (hj 30) (lr_cons (hj 31) (lr_cons (hj 32) (lr_cons (hj 33) (lr_cons (hj 34) (lr_cons (hj 35) (lr_cons (hj 36) (lr_nil))))))))))))))))))))))))))))))))))))))
  have hin : InCall Try.prog (fun u _ => u = .bool true) [] E3 _ wl3 (G (mkF 3 #[.slice av n cv, .slice aa la ca, .slice ab lb cb, .int .i64 (h : Nat), undef, undef, undef, undef, .bool false, undef, undef, undef, undef, undef, .slice av n cv, .slice aa la ca, .slice ab lb cb, .int .i64 (h : Nat), .tuple #[.agg (hitV f n p la q lb (Tf.bk (plF f n p la q lb) (la * lb))), .int .i64 0], undef, undef, undef, undef, undef, undef, undef, undef, undef, undef, undef, undef, undef, undef, undef, undef, undef, undef] [.inRegion fO1 (List.range' 5 6), .code (restAt 2 fB3)] .run) []) w2 := InCall.mid ⟨_, Try.func3⟩ lL hwr c3.big law_item (fun τ => reach_region Try.func3 (finds_rest j _ _ _ n la lb h f p q hn hf ha hb hh (wl3.tp τ) ⟨_, _, rfl, nv, fun c hc => by obtain ⟨b, o, e, k⟩ := k1 c hc; exact ⟨b, o, e, (e2.trans e3).cell k⟩⟩ ⟨_, _, rfl, na, fun c hc => by obtain ⟨b, o, e, k⟩ := k2 c hc; exact ⟨b, o, e, e3.cell k⟩⟩ ⟨_, _, rfl, nb, k3⟩))
  obtain ⟨N3, gs3, w3, sl3, t3, q3, E4, gl4, wl4, g3, r3, z3, i3, in3, st3, la3, fc3, Q3⟩ := beside_stop2 (sl := sl2) hG tf_fnsCode (fun b y e hs' => by
    obtain ⟨q', s', o'⟩ := y
    have := (low b q' s' o' e).2
    rcases (show q' = hs + 4 ∨ q' = hs + 5 from hs') with e1 | e1 <;> omega) (fun b hb => by
    rcases hb with e1 | e1 <;> omega) i2 hin Q2
  obtain ⟨u, u', wlu, hu, vu, run3, end3⟩ := in3.atEnd st3 (fn0 := 3) (f := Try.f3) (t := 8) la3 Try.func3 rfl (by kernel_rfl)
  obtain rfl : u' = .bool true := by rw [hu] at vu; cases vu; rfl
  have hkept : Kept W w3 := ⟨fun b hb => by
    rw [fc3.keep b (by omega) (fun b' s' e => by have := (low _ _ _ _ e).1; cases this), keep b hb], fc3.os.trans (os2.trans I1.2.1), fc3.output.trans (ou2.trans I1.2.2)⟩
  obtain ⟨B0, hP⟩ := Q3.past
  obtain ⟨N4, last, o, w', t', x1, x2, x3, x4⟩ := beside_ends (P := Try.prog) (Shun := snL fun b => b = hs + 4 ∨ b = hs + 5) (B := B0) (D := fun _ _ _ => False) (Post := fun u W' => u = .bool true ∧ Kept W W') (sl := sl3) (n := 0) (fun _ _ _ h => h.elim) i3 Q3.lv (hP B0 (Nat.le_refl _)) (Goes.stop fun w₂ h₂ => by
    obtain ⟨d, rfl⟩ := h₂
    exact ⟨run3, .bool true, #[], end3 _, fun e he => by simp at he, rfl, hkept⟩)
  have hr : runNT Try.prog (N1 + (N2 + N3)) (crowd #[G ((base 3).at ⟨#[.slice av n cv, .slice aa la ca, .slice ab lb cb, .int .i64 (h : Nat), undef, undef, undef, undef, undef, undef, undef, undef, undef, undef, undef, undef, undef, undef, undef, undef, undef, undef, undef, undef, undef, undef, undef, undef, undef, undef, undef, undef, undef, undef, undef, undef, undef], []⟩ [.code fB3]) []] W none) #[] = (.next (crowd gs3 w3 sl3), t3) := by
    rw [runNT_add, r1]
    show runNT Try.prog (N2 + N3) (crowd gs1 w1 sl1) t1 = _
    rw [runNT_add, r2]
    exact r3
  rw [solo_eq_crowd]
  refine ⟨N1 + (N2 + N3) + N4, last, o, w', t', ?_, ?_, x3, x4⟩
  · rw [Nat.add_assoc (N1 + (N2 + N3)) N4 1, runNT_add, hr]
    exact x1
  · rw [← runNT_fst _ _ _ #[], runNT_add, hr]
    show (runNT Try.prog N4 (crowd gs3 w3 sl3) t3).1 = _
    rw [runNT_fst]
    exact x2
end Go.Proofs.Ytpdemelchhkfaaa

/-
  A slice of numbers as an argument.
-/
namespace Go.Proofs.Ytpdemelchhkfaaa
open Go.RowKit PK Go.ChangeShapes Go.WideShapes Go.ChangeAt

theorem y_own : ownKnob Try.prog.godebug = none := by kernel_rfl
theorem y_laidOut : laidOutB Try.prog = true := by kernel_rfl
theorem y_cells_int : Try.prog.cellsOf 3 = 1 := by kernel_rfl
set_option maxRecDepth 100000 in
theorem open_nums {H : Type} {enc : TypeId × Value → H} {W : World} {base : Nat} {v : Value} {d : DataW H} {p : List MemPlace} (hval : Value.okWide Try.prog W .any base 22 v) (h : DataW.Trod enc Try.prog W 0 (fun _ => true) true 22 v d p) :
    ∃ n f, NumsAt W v n f := by
  obtain ⟨a0, len, cap, rfl⟩ := okWide_slice Try.underlying22 hval
  obtain ⟨fuel, hf⟩ := h
  rcases open_ints Try.underlying22 Try.underlying3 y_cells_int hf with ⟨hcs0, hx⟩ | ⟨a, len', cap', zs, hcs0, _, hl, hm, hzl, hx, hcell, _⟩
  · simp [Value.cells] at hcs0
    obtain ⟨rfl, rfl, rfl⟩ := hcs0
    exact ⟨0, fun _ => 0, none, 0, rfl, by decide, fun c hc => by omega⟩
  · simp [Value.cells] at hcs0
    obtain ⟨rfl, rfl, rfl⟩ := hcs0
    simp at hzl
    refine ⟨len, fun c => zs.getD c 0, some a, cap, rfl, by omega, fun c hc => ?_⟩
    have h0 := hcell c (by omega)
    have hsp := World.cell?_spot (hcell 0 (by omega))
    obtain ⟨bm, om, spot⟩ := a
    have hspot : spot = none := by simpa [Addr.add] using hsp
    subst hspot
    exact ⟨bm, om, rfl, by rw [← add_plain]; exact h0⟩
set_option maxRecDepth 100000 in
theorem open_nums2 {H : Type} {enc : TypeId × Value → H} {W : World} {base : Nat} {v : Value} {d : DataW H} {p : List MemPlace} (hval : Value.okWide Try.prog W .any base 22 v) (h : DataW.Trod enc Try.prog W 0 (fun _ => true) true 22 v d p) :
    ∃ n f, NumsAt W v n f ∧ (n = 0 ∨ ∃ el sp, d = .slice el sp ∧ n ≤ el.length + sp.length) := by
  obtain ⟨a0, len, cap, rfl⟩ := okWide_slice Try.underlying22 hval
  obtain ⟨fuel, hf⟩ := h
  rcases open_ints Try.underlying22 Try.underlying3 y_cells_int hf with ⟨hcs0, hx⟩ | ⟨a, len', cap', zs, hcs0, _, hl, hm, hzl, hx, hcell, _⟩
  · simp [Value.cells] at hcs0
    obtain ⟨rfl, rfl, rfl⟩ := hcs0
    exact ⟨0, fun _ => 0, ⟨none, 0, rfl, by decide, fun c hc => by omega⟩, .inl rfl⟩
  · simp [Value.cells] at hcs0
    obtain ⟨rfl, rfl, rfl⟩ := hcs0
    simp at hzl
    refine ⟨len, fun c => zs.getD c 0, ⟨some a, cap, rfl, by omega, fun c hc => ?_⟩, .inr ⟨_, _, (Prod.ext_iff.1 hx).1, ?_⟩⟩
    · have h0 := hcell c (by omega)
      have hsp := World.cell?_spot (hcell 0 (by omega))
      obtain ⟨bm, om, spot⟩ := a
      have hspot : spot = none := by simpa [Addr.add] using hsp
      subst hspot
      exact ⟨bm, om, rfl, by rw [← add_plain]; exact h0⟩
    · simp [lits]
      omega
set_option maxRecDepth 100000 in
theorem open_nums3 {H : Type} {enc : TypeId × Value → H} {W : World} {base : Nat} {v : Value} {d : DataW H} {p : List MemPlace} (hval : Value.okWide Try.prog W .any base 22 v) (h : DataW.Trod enc Try.prog W 0 (fun _ => true) true 22 v d p) :
    ∃ n f, NumsAt W v n f ∧ (n = 0 ∨ ∃ el sp, d = .slice el sp ∧ n ≤ el.length + sp.length) ∧ ∀ m c, v = .slice none m c → c = 0 := by
  obtain ⟨n, f, h1, h2⟩ := open_nums2 hval h
  refine ⟨n, f, h1, h2, fun m c e => ?_⟩
  subst e
  obtain ⟨fuel, hf⟩ := h
  rcases open_ints Try.underlying22 Try.underlying3 y_cells_int hf with ⟨hcs0, hx⟩ | ⟨a, len', cap', zs, hcs0, _⟩
  · simp [Value.cells] at hcs0
    exact hcs0.2
  · simp [Value.cells] at hcs0
theorem y_bytes_int : Try.prog.bytesOf 3 = 8 := by kernel_rfl
end Go.Proofs.Ytpdemelchhkfaaa

/-
  A machine of chapter 13 as an argument: opened.
-/
namespace Go.Proofs.Ytpdemelchhkfaaa
open Go.RowKit PK Tl Go.ChangeShapes Go.WideShapes Go.ChangeAt

theorem d_cells_int : Try.prog.cellsOf 3 = 1 := by kernel_rfl
theorem d_cells_bool : Try.prog.cellsOf 4 = 1 := by kernel_rfl
theorem d_cells_pins : Try.prog.cellsOf 24 = 1 := by kernel_rfl
section
variable {H : Type} {enc : TypeId × Value → H} {W : World}
set_option maxRecDepth 100000 in
theorem trod_pins {fuel : Nat} {l : List Value} {x : DataW H × List MemPlace} (h : DataW.trod enc Try.prog W 0 (fun _ => true) true fuel 24 l = some x) : ∃ v n p, l = [v] ∧ PinsAt W v n p := by
  rcases DataW.trod_slice Try.underlying24 h with ⟨e, _⟩ | ⟨a, len, cap, elems, rest, m, _, rfl, _, hb, hl, hm, hlen, hel, _⟩
  · exact ⟨_, 0, fun _ => false, e, none, 0, rfl, by decide, fun c hc => by omega⟩
  · rw [d_cells_bool] at hel
    have key : ∀ r, ∃ q : Bool, r < len → W.cells? 0 (a.add (r * 1)) 1 = some [.bool q] := fun r => by
      by_cases hr : r < len
      · have h1 := hel r hr
        rw [List.getElem?_eq_getElem (by omega)] at h1
        obtain ⟨cs, h2, h3⟩ := Option.bind_eq_some_iff.1 h1
        obtain ⟨b, e, _⟩ := DataW.trod_bool Try.underlying4 h3
        exact ⟨b, fun _ => by rw [h2, e]⟩
      · exact ⟨false, fun h => absurd h hr⟩
    obtain ⟨q, hq⟩ := Classical.axiomOfChoice key
    refine ⟨_, len, q, rfl, some a, cap, rfl, by omega, fun r hr => ?_⟩
    have h1 := (World.cells?_some (hq r hr)).2.2 0 (by omega)
    have h00 := (World.cells?_some (hq 0 (by omega))).2.2 0 (by omega)
    rw [Nat.zero_mul] at h00
    have hsp := World.cell?_spot h00
    obtain ⟨bm, om, spot⟩ := a
    have hspot : spot = none := by simpa [Addr.add] using hsp
    subst hspot
    refine ⟨bm, om, rfl, ?_⟩
    rw [Addr.add_mid, Addr.add_mid, Nat.mul_one] at h1
    exact h1
theorem piece {l : List Value} {o n : Nat} {c : Array Value} (h : (l.drop o).take n = c.toList) {j : Nat} (hj : j < n) : l[o + j]? = c[j]? := by
  have : ((l.drop o).take n)[j]? = c[j]? := by rw [h, Array.getElem?_toList]
  rw [← this, List.getElem?_take_of_lt hj, List.getElem?_drop]
/-- Eleven out of five, five and one. -/
def el {α : Type} (a b : Nat → α) (c : α) (k : Nat) : α := if k < 5 then a k else if k < 10 then b (k - 5) else c
end
end Go.Proofs.Ytpdemelchhkfaaa
