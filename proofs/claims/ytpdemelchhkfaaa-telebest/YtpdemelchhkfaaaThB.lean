/-
  TeleBest in company.
-/
import Derived.Test.YtpdemelchhkfaaaThA
namespace Go.Proofs.Ytpdemelchhkfaaa
open Go.Conc Go.RowKit PK Tl Cs
open Go.ConcR (KK WgAt wgBlock)
theorem run_seq {P : Program} {a b : Nat} {m m1 : Machine} {t t1 : Trace} (h : runNT P a m t = (.next m1, t1)) : runNT P (a + b) m t = runNT P b m1 t1 := by rw [runNT_add, h]
theorem enter_al : Frame.enter Try.prog 9 #[] .normal = (base 9).at ⟨Array.replicate Try.f9.ntmps undef, []⟩ [.code alB] := by
  simp [Frame.enter, Try.func9, Try.f9, alB, base, Frame.at]
set_option maxRecDepth 100000 in
set_option maxHeartbeats 4000000 in
/-- A call of Best beside leavers, whatever the number of hands. -/
theorem best_any (v va vb : Value) (n la lb : Nat) (h : Int) (f : Nat → Nat) (p q : Nat → Bool) (hn : n ≤ 65536) (hf : ∀ i, i < n → f i < 32) (ha : 1 ≤ la ∧ la ≤ 47) (hb : 1 ≤ lb ∧ lb ≤ 47) (W0 W : World) (hv : NumsAt W0 v n (fun i => (f i : Int))) (h1 : PinsAt W0 va la p) (h2 : PinsAt W0 vb lb q) (rv : Rt W0 v) (ra : Rt W0 va) (rb : Rt W0 vb) (hag : ∀ b, b < W0.heap.size → W.heap[b]? = W0.heap[b]?) {Sn0 : Nat → Prop} (hS : ∀ b, Sn0 b → W0.heap.size ≤ b ∧ b < W.heap.size) (cal : Frame) (rest : List Frame) {gs : Array Goroutine} {t : Trace} {qq : Nat → Nat} (i0 : gs[0]? = some (G (mkF 7 #[v, va, vb, .int .i64 h, undef, undef, undef, undef, undef, undef, undef, undef, undef, undef, undef, undef, undef, undef, undef, undef, undef, undef, undef, undef, undef, undef, undef, undef, undef, undef, undef, undef, undef, undef, undef, undef, undef, undef, undef, undef, undef, undef, undef, undef, undef, undef, undef, undef, undef, undef, undef, undef, undef, undef, undef, undef, undef, undef, undef, undef, undef, undef, undef, undef, undef, undef, undef, undef, undef, undef, undef, undef] [.code bBody] .run) (cal :: rest))) (hq : Qs Try.prog Sn0 gs t qq 0 W.heap.size) (sl : Option (Nat × Nat)) :
    ∃ N gs' w' sl' t' q' res Sn', runNT Try.prog N (crowd gs W sl) t = (.next (crowd gs' w' sl'), t') ∧ gs'[0]? = some (G (cal.finish res) rest) ∧ (res = .tuple #[.agg (hitV f n p la q lb (Tf.bk (plF f n p la q lb) (la * lb))), .int .i64 0] ∨ ∃ e : Int, e ≠ 0 ∧ res = .tuple #[.agg #[.int .i64 0, .int .i64 0, .int .i64 0], .int .i64 e]) ∧ (∀ b, b < W.heap.size → ¬ Sn0 b → w'.heap[b]? = W.heap[b]?) ∧ w'.os = W.os ∧ w'.output = W.output ∧ W.heap.size ≤ w'.heap.size ∧ Qs Try.prog Sn' gs' t' q' 0 w'.heap.size ∧ (∀ b, Sn' b → (Sn0 b ∨ W.heap.size ≤ b) ∧ b < w'.heap.size) := by
  by_cases hE : beE n (fun i => (f i : Int)) la lb h = 0
  · have hsr : srE la lb h = 0 := by
      unfold beE at hE
      by_cases hc : faE n (fun i => (f i : Int)) = 0
      · rwa [if_neg (by rw [hc]; simp)] at hE
      · rw [if_pos hc] at hE
        exact absurd hE hc
    obtain ⟨_, _, g1, g2⟩ := srE_zero hsr
    obtain ⟨k, rfl⟩ : ∃ k : Nat, h = (k : Int) := ⟨h.toNat, by omega⟩
    obtain ⟨N, gs', w', sl', t', q', hs, r, i, kp, os, ou, s1, s2, Q⟩ := best_call v va vb n la lb k f p q hn hf ha hb ⟨by omega, by omega⟩ W0 W hv h1 h2 rv ra rb hag hS cal rest i0 hq sl
    exact ⟨N, gs', w', sl', t', q', _, _, r, i, .inl rfl, kp, os, ou, by omega, Q, fun b hb' => by
      rcases hb' with e | e | e
      · exact ⟨.inl e, by have := (hS b e).2; omega⟩
      · exact ⟨.inr (by omega), by omega⟩
      · exact ⟨.inr (by omega), by omega⟩⟩
  · obtain ⟨N, gs', w', sl', t', q', r, i, kp, os, ou, s1, Q⟩ := best_early v va vb n la lb h (fun i => (f i : Int)) p q hE W0 W hv h1 h2 rv ra rb hag hS cal rest i0 hq sl
    exact ⟨N, gs', w', sl', t', q', _, _, r, i, .inr ⟨_, hE, rfl⟩, fun b hb' _ => kp b hb', os, ou, s1, Q, fun b hb' => ⟨.inl hb', by have := (hS b hb').2; omega⟩⟩
set_option maxRecDepth 100000 in
set_option maxHeartbeats 8000000 in
theorem tbest_run (v va vb : Value) (n la lb h : Nat) (o x y : Int) (f : Nat → Nat) (p q : Nat → Bool) (hn : n ≤ 65536) (hf : ∀ i, i < n → f i < 32) (ha : 1 ≤ la ∧ la ≤ 47) (hb : 1 ≤ lb ∧ lb ≤ 47) (hh : 1 ≤ h ∧ h ≤ 16) (W : World) (hv : NumsAt W v n (fun i => (f i : Int))) (h1 : PinsAt W va la p) (h2 : PinsAt W vb lb q) (rv : Rt W v) :
    ∃ N last o' w' t', runNT Try.prog (N + 1) (solo (G (Frame.enter Try.prog 4 #[v, va, vb, .int .i64 (h : Nat), .int .i64 o, .int .i64 x, .int .i64 y] .normal) []) W) #[] = (.ended o' w', t') ∧ runN Try.prog N (solo (G (Frame.enter Try.prog 4 #[v, va, vb, .int .i64 (h : Nat), .int .i64 o, .int .i64 x, .int .i64 y] .normal) []) W) = .next last ∧ step Try.prog last = .ended o' w' ∧ Conc.Good Try.prog (fun u W' => u = .bool true ∧ Kept W W') last o' w' t' := by
  have hG : Try.prog.globals.size ≤ Fns.G := Nat.le_refl _
  have ra := rt_pins h1 ha.1
  have rb := rt_pins h2 hb.1
  obtain ⟨av, cv, rfl, nv, kv⟩ := hv
  obtain ⟨aa, ca, rfl, na, ka⟩ := h1
  obtain ⟨ab, cb, rfl, nb, kb⟩ := h2
  have hv' : NumsAt W (.slice av n cv) n (fun i => (f i : Int)) := ⟨_, _, rfl, nv, kv⟩
  have h1' : PinsAt W (.slice aa la ca) la p := ⟨_, _, rfl, na, ka⟩
  have h2' : PinsAt W (.slice ab lb cb) lb q := ⟨_, _, rfl, nb, kb⟩
  rw [enter_lb]
  have I0 : HI W.heap W.os W.output W := ⟨rfl, rfl, rfl⟩
  obtain ⟨mu1, G1⟩ := lb_a av aa ab n la lb cv ca cb h o x y W.heap W.os W.output W I0
  rw [← enter_al] at G1
  have Q0 : Qs Try.prog (fun _ => False) #[G ((base 4).at ⟨#[.slice av n cv, .slice aa la ca, .slice ab lb cb, .int .i64 (h : Nat), .int .i64 o, .int .i64 x, .int .i64 y, undef, undef, undef, undef, undef, undef, undef, undef, undef, undef, undef, undef, undef, undef, undef, undef, undef, undef, undef, undef, undef, undef, undef, undef, undef, undef, undef, undef, undef, undef, undef, undef, undef, undef, undef, undef, undef, undef, undef, undef, undef, undef, undef, undef, undef, undef, undef, undef, undef, undef, undef, undef, undef, undef, undef, undef, undef, undef, undef, undef, undef, undef, undef, undef, undef, undef, undef, undef, undef, undef, undef, undef, undef, undef, undef, undef, undef, undef, undef, undef, undef, undef, undef, undef, undef, undef, undef, undef, undef, undef, undef, undef, undef, undef, undef, undef, undef, undef, undef, undef, undef, undef, undef, undef, undef, undef, undef, undef, undef, undef, undef, undef, undef, undef, undef, undef, undef, undef, undef, undef, undef, undef, undef], []⟩ [.code lbB]) []] #[] (fun _ => 0) 0 W.heap.size := qs_one _ _ _ _
  obtain ⟨N1, gs1, w1, sl1, t1, q1, g1, r1, z1, i1, ⟨rfl, I1⟩, Q1⟩ := beside_walk2 (sl := none) (fun w w' es h => h.1) (fun g w h => by rw [h.1]; rfl) rfl G1 Q0
  -- alive
  have p0 := (Cp.nil (P := Try.prog) w1).cq
  have hin1 : ∀ cs, InCall Try.prog (fun v _ => v = .bool true) cs _ (G (Frame.enter Try.prog 9 #[] .normal) [trap Try.prog]) _ (G (Frame.enter Try.prog 9 #[] .normal) cs) w1 := fun cs => InCall.start (c := cs) tf_fnsCode (f := 9) (by kernel_rfl) (x := #[]) (y := #[]) lr_nil p0.wr p0.big (fun τ => (alive13 _).mono fun e w' h => ⟨_, h.1, rfl⟩)
  obtain ⟨N2, gs2, w2, sl2, t2, q2, E2, u2, u2', wl2, r2, z2, i2, rfl, vr2, _, fc2, Q2⟩ := beside_call2 (sl := sl1) hG tf_fnsCode (fun b x e => by cases e) (fun b e => e.elim) i1 (hin1 _) Q1
  obtain rfl : u2' = .bool true := by cases vr2; rfl
  have s1 : w1.heap.size = W.heap.size + 3 := by rw [I1.1]; simp
  have k2 : ∀ b, b < w1.heap.size → w2.heap[b]? = w1.heap[b]? := fun b hb => fc2.keep b hb (fun b' s e => by cases e)
  have k12 : ∀ b, b < W.heap.size → w2.heap[b]? = W.heap[b]? := fun b hb => by
    rw [k2 b (by omega), I1.1, Array.getElem?_push, if_neg (by simp; omega), Array.getElem?_push, if_neg (by simp; omega), Array.getElem?_push, if_neg (by omega)]
  have bT : w2.heap[W.heap.size]? = some (.cells #[.slice av n cv] 22 (0, 0)) := by
    rw [k2 _ (by omega), I1.1, Array.getElem?_push, if_neg (by simp; omega), Array.getElem?_push, if_neg (by simp), Array.getElem?_push, if_pos rfl]
  have bA : w2.heap[W.heap.size + 1]? = some (.cells #[.slice aa la ca] 24 (0, 0)) := by
    rw [k2 _ (by omega), I1.1, Array.getElem?_push, if_neg (by simp), Array.getElem?_push, if_pos (by simp)]
  have bB : w2.heap[W.heap.size + 2]? = some (.cells #[.slice ab lb cb] 24 (0, 0)) := by
    rw [k2 _ (by omega), I1.1, Array.getElem?_push, if_pos (by simp)]
  -- to the first call
  obtain ⟨mu3, G3⟩ := lb_b av aa ab n la lb cv ca cb h o x y W.heap.size (W.heap.size + 1) (W.heap.size + 2) w2.heap bT bA bB w2.os w2.output w2 ⟨rfl, rfl, rfl⟩
  obtain ⟨N3, gs3, w3, sl3, t3, q3, g3, r3, z3, i3, ⟨rfl, I3⟩, Q3⟩ := beside_walk2 (sl := sl2) (fun w w' es h => h.1) (fun g w h => by rw [h.1]; rfl) i2 G3 Q2
  obtain ⟨N4, gs4, w4, sl4, t4, q4, hs, r4, i4, kp4, os4, ou4, hs1, hs2, Q4⟩ := best_call _ _ _ n la lb h f p q hn hf ha hb hh W w3 hv' h1' h2' rv ra rb (fun b hb => by rw [I3.1]; exact k12 b hb) (Sn0 := fun _ => False) (fun _ e => e.elim) _ [] i3 Q3 sl3
  obtain ⟨qd, qr, M, hV⟩ : ∃ qd qr M : Nat, hitV f n p la q lb (Tf.bk (plF f n p la q lb) (la * lb)) = #[.int .i64 (qd : Nat), .int .i64 (qr : Nat), .int .i64 (M : Nat)] := ⟨_, _, _, rfl⟩
  rw [hV] at i4
  have s2 : w1.heap.size ≤ w2.heap.size := fc2.size
  have s3 : w3.heap.size = w2.heap.size := by rw [I3.1]
  have k4 : ∀ b, b < w3.heap.size → w4.heap[b]? = w2.heap[b]? := fun b hb => by rw [kp4 b hb (fun e => e), I3.1]
  have k14 : ∀ b, b < W.heap.size → w4.heap[b]? = W.heap[b]? := fun b hb => by rw [k4 b (by omega), k12 b hb]
  have bT4 := (k4 W.heap.size (by omega)).trans bT
  have bA4 := (k4 (W.heap.size + 1) (by omega)).trans bA
  have bB4 := (k4 (W.heap.size + 2) (by omega)).trans bB
  -- to the second call
  obtain ⟨mu5, G5⟩ := lb_c av aa ab n la lb cv ca cb h o x y W.heap.size (W.heap.size + 1) (W.heap.size + 2) qd qr M (fun b => False ∨ b = hs + 4 ∨ b = hs + 5) w4.heap bT4 bA4 bB4 (fun e => by rcases e with e | e | e <;> omega) (fun e => by rcases e with e | e | e <;> omega) (fun e => by rcases e with e | e | e <;> omega) (fun e => by rcases e with e | e | e <;> omega) w4.os w4.output w4 ⟨rfl, rfl, rfl⟩
  obtain ⟨N5, gs5, w5, sl5, t5, q5, g5, r5, z5, i5, ⟨rfl, I5⟩, Q5⟩ := beside_walk2 (sl := sl4) (fun w w' es h => h.1) (fun g w h => by rw [h.1]; rfl) i4 G5 Q4
  have s5 : w5.heap.size = w4.heap.size + 1 := by rw [I5.1]; simp
  have k5 : ∀ b, b < w4.heap.size → w5.heap[b]? = w4.heap[b]? := fun b hb => by rw [I5.1, Array.getElem?_push, if_neg (by omega)]
  have b15 : w5.heap[w4.heap.size]? = some (.cells #[.int .i64 (qd : Nat), .int .i64 (qr : Nat), .int .i64 (M : Nat)] 26 (0, 0)) := by rw [I5.1, Array.getElem?_push, if_pos rfl]
  obtain ⟨N6, gs6, w6, sl6, t6, q6, res, Sn, r6, i6, hres, kp6, os6, ou6, s6, Q6, hSn⟩ := best_any _ _ _ n la lb o f p q hn hf ha hb W w5 hv' h1' h2' rv ra rb (fun b hb => by rw [k5 b (by omega), k14 b hb]) (Sn0 := fun b => False ∨ b = hs + 4 ∨ b = hs + 5) (fun b hb => by
    rcases hb with e | e | e
    · exact e.elim
    · exact ⟨by omega, by omega⟩
    · exact ⟨by omega, by omega⟩) _ [] i5 Q5 sl5
  have hSn2 : ∀ b, Sn b → w3.heap.size ≤ b ∧ b ≠ w4.heap.size := fun b hb => by
    rcases (hSn b hb).1 with (e | e | e) | e
    · exact e.elim
    · exact ⟨by omega, by omega⟩
    · exact ⟨by omega, by omega⟩
    · exact ⟨by omega, by omega⟩
  have nS5 : ∀ b, (b < w3.heap.size ∨ b = w4.heap.size) → ¬ (False ∨ b = hs + 4 ∨ b = hs + 5) := fun b hb e => by rcases e with e | e | e <;> omega
  have k16 : ∀ b, b < w3.heap.size → w6.heap[b]? = w2.heap[b]? := fun b hb => by rw [kp6 b (by omega) (nS5 b (.inl hb)), k5 b (by omega), k4 b hb]
  have k06 : ∀ b, b < W.heap.size → w6.heap[b]? = W.heap[b]? := fun b hb => by rw [k16 b (by omega), k12 b hb]
  have bT6 := (k16 W.heap.size (by omega)).trans bT
  have bA6 := (k16 (W.heap.size + 1) (by omega)).trans bA
  have bB6 := (k16 (W.heap.size + 2) (by omega)).trans bB
  have b156 := (kp6 w4.heap.size (by omega) (nS5 _ (.inr rfl))).trans b15
  -- the ghost of what is left
  have hn0 : ∀ b q s, (fun _ => none : Env) b ≠ some (q, s, true) := fun b q s e => by cases e
  obtain ⟨E1, wl1, av', c1, sh1, b1, e1, v1, kk1⟩ := cq_slice (P := Try.prog) (w := W) (Cp.nil W).cq hn0 no_type (f := fun i => .int .i64 (f i : Int)) (fun i E => .int _ _) kv rv
  obtain ⟨E2, wl2, aa', c2, sh2, b2, e2, v2, kk2⟩ := cq_slice c1 sh1 no_type (f := fun i => .bool (p i)) (fun i E => .bool _) ka ra
  obtain ⟨E3, wl3, ab', c3, sh3, b3, e3, v3, kk3⟩ := cq_slice c2 sh2 no_type (f := fun i => .bool (q i)) (fun i E => .bool _) kb rb
  have low : ∀ b q s o, E3 b = some (q, s, o) → o = false ∧ q < W.heap.size := fun b q s o e => by
    refine ⟨?_, ?_⟩
    · cases o with
      | false => rfl
      | true => exact absurd e (sh3 b q s)
    · rcases b3 b q s o e with e | e
      · rcases b2 b q s o e with e | e
        · rcases b1 b q s o e with e | e
          · cases e
          · exact e
        · exact e
      · exact e
  have hwr : WR Try.prog E3 wl3 w6 := wr_move c3.wr fun b x e => by
    obtain ⟨q, s, o⟩ := x
    exact k06 q (low b q s o e).2
  have vv1 := (v1.mono e2.le).mono e3.le
  have vv2 := v2.mono e3.le
  have one : ∀ {E : Env} {u z : Value}, VR E u z → ∀ (i : Nat) (a : Value), (#[u] : Array Value)[i]? = some a → ∃ c, (#[z] : Array Value)[i + 0]? = some c ∧ VR E a c := fun {E u z} hz i a hi => by
    rcases i with _ | i
    · cases hi
      exact ⟨z, rfl, hz⟩
    · simp at hi
  obtain ⟨E4, c4, e4, a4, kk4, b4⟩ := (Cq.of hwr c3.big).row no_type bT6 (fun b s e => sh3 b _ s e) #[.slice av' n cv] (s := 0) (one vv1)
  have sh4 : ∀ b q s, E4 b ≠ some (q, s, true) := fun b q s e => by
    rcases b4 b q s true e with ⟨_, _, _, k⟩ | k
    · cases k
    · exact sh3 b q s k
  obtain ⟨E5, c5, e5, a5, kk5, b5⟩ := c4.row no_type bA6 (fun b s e => sh4 b _ s e) #[.slice aa' la ca] (s := 0) (one (vv2.mono e4.le))
  have sh5 : ∀ b q s, E5 b ≠ some (q, s, true) := fun b q s e => by
    rcases b5 b q s true e with ⟨_, _, _, k⟩ | k
    · cases k
    · exact sh4 b q s k
  obtain ⟨E6, c6, e6, a6, kk6, b6⟩ := c5.row no_type bB6 (fun b s e => sh5 b _ s e) #[.slice ab' lb cb] (s := 0) (one ((v3.mono e4.le).mono e5.le))
  have sh6 : ∀ b q s, E6 b ≠ some (q, s, true) := fun b q s e => by
    rcases b6 b q s true e with ⟨_, _, _, k⟩ | k
    · cases k
    · exact sh5 b q s k
  obtain ⟨E7, c7, e7, a7, kk7, b7⟩ := c6.row no_type b156 (fun b s e => sh6 b _ s e) #[.int .i64 (qd : Nat), .int .i64 (qr : Nat), .int .i64 (M : Nat)] (s := 0) (fun i u hu => ⟨u, hu, by
    rcases i with _ | _ | _ | i
    · cases hu; exact .int _ _
    · cases hu; exact .int _ _
    · cases hu; exact .int _ _
    · simp at hu⟩)
  have low7 : ∀ b q s o, E7 b = some (q, s, o) → o = false ∧ ¬ Sn q := fun b q s o e => by
    have hlow : ∀ q, (q < w3.heap.size ∨ q = w4.heap.size) → ¬ Sn q := fun q hq hs' => by have := hSn2 q hs'; omega
    rcases b7 b q s o e with ⟨_, rfl, _, rfl⟩ | e
    · exact ⟨rfl, hlow _ (.inr rfl)⟩
    rcases b6 b q s o e with ⟨_, rfl, _, rfl⟩ | e
    · exact ⟨rfl, hlow _ (.inl (by omega))⟩
    rcases b5 b q s o e with ⟨_, rfl, _, rfl⟩ | e
    · exact ⟨rfl, hlow _ (.inl (by omega))⟩
    rcases b4 b q s o e with ⟨_, rfl, _, rfl⟩ | e
    · exact ⟨rfl, hlow _ (.inl (by omega))⟩
    have := low b q s o e
    exact ⟨this.1, hlow _ (.inl (by omega))⟩
  have vres : VR E7 res res := by
    rcases hres with rfl | ⟨e, _, rfl⟩
    · rw [hV]
      exact .mkTuple (lr_cons (.mkAgg (lr_cons (.int _ _) (lr_cons (.int _ _) (lr_cons (.int _ _) lr_nil)))) (lr_cons (.int _ _) lr_nil))
    · exact .mkTuple (lr_cons (.mkAgg (lr_cons (.int _ _) (lr_cons (.int _ _) (lr_cons (.int _ _) lr_nil)))) (lr_cons (.int _ _) lr_nil))
  obtain ⟨wl7, dT, dA, dB, d5, c7, vT, vA, vB, v5, cT, cA, cB, c5, hv7, h17, h27⟩ : ∃ (wl7 : World) (dT dA dB d5 : Nat), Cq Try.prog E7 wl7 w6 ∧ VR E7 (.pointer (some ⟨dT, 0, none⟩)) (.pointer (some ⟨W.heap.size, 0, none⟩)) ∧ VR E7 (.pointer (some ⟨dA, 0, none⟩)) (.pointer (some ⟨W.heap.size + 1, 0, none⟩)) ∧ VR E7 (.pointer (some ⟨dB, 0, none⟩)) (.pointer (some ⟨W.heap.size + 2, 0, none⟩)) ∧ VR E7 (.pointer (some ⟨d5, 0, none⟩)) (.pointer (some ⟨w4.heap.size, 0, none⟩)) ∧ wl7.cell? ⟨dT, 0, none⟩ = some (.slice av' n cv) ∧ wl7.cell? ⟨dA, 0, none⟩ = some (.slice aa' la ca) ∧ wl7.cell? ⟨dB, 0, none⟩ = some (.slice ab' lb cb) ∧ (∀ i u, (#[.int .i64 (qd : Nat), .int .i64 (qr : Nat), .int .i64 (M : Nat)] : Array Value)[i]? = some u → wl7.cell? ⟨d5, i, none⟩ = some u) ∧ NumsAt wl7 (.slice av' n cv) n (fun i => (f i : Int)) ∧ PinsAt wl7 (.slice aa' la ca) la p ∧ PinsAt wl7 (.slice ab' lb cb) lb q :=
    ⟨_, _, _, _, _, c7, (((VR.ptr (a4 0)).mono e5.le).mono e6.le).mono e7.le, ((VR.ptr (a5 0)).mono e6.le).mono e7.le, (VR.ptr (a6 0)).mono e7.le, VR.ptr (a7 0), e7.cell (e6.cell (e5.cell (kk4 0 _ rfl))), e7.cell (e6.cell (kk5 0 _ rfl)), e7.cell (kk6 0 _ rfl), kk7, ⟨_, _, rfl, nv, fun c hc => by obtain ⟨b, o, e, k⟩ := kk1 c hc; exact ⟨b, o, e, e7.cell (e6.cell (e5.cell (e4.cell ((e2.trans e3).cell k))))⟩⟩, ⟨_, _, rfl, na, fun c hc => by obtain ⟨b, o, e, k⟩ := kk2 c hc; exact ⟨b, o, e, e7.cell (e6.cell (e5.cell (e4.cell (e3.cell k))))⟩⟩, ⟨_, _, rfl, nb, fun c hc => by obtain ⟨b, o, e, k⟩ := kk3 c hc; exact ⟨b, o, e, e7.cell (e6.cell (e5.cell (e4.cell k)))⟩⟩⟩
  obtain ⟨j, hj⟩ := junks E7 (fun i => ([.slice av n cv, .slice aa la ca, .slice ab lb cb, .int .i64 (h : Nat), .int .i64 o, .int .i64 x, .int .i64 y, .pointer (some ⟨W.heap.size, 0, none⟩), .pointer (some ⟨W.heap.size + 1, 0, none⟩), .pointer (some ⟨W.heap.size + 2, 0, none⟩), undef, undef, undef, undef, .bool false, .pointer (some ⟨w4.heap.size, 0, none⟩), .int .i64 0, undef, undef, undef, undef, .bool true, .bool false, .tuple #[.agg #[.int .i64 (qd : Nat), .int .i64 (qr : Nat), .int .i64 (M : Nat)], .int .i64 0], .slice av n cv, .slice aa la ca, .slice ab lb cb, .int .i64 (h : Nat), .tuple #[.agg #[.int .i64 (qd : Nat), .int .i64 (qr : Nat), .int .i64 (M : Nat)], .int .i64 0], .agg #[.int .i64 (qd : Nat), .int .i64 (qr : Nat), .int .i64 (M : Nat)], .int .i64 0, .int .i64 0, .bool false, undef, .slice av n cv, .slice aa la ca, .slice ab lb cb, .int .i64 o, res, undef, undef, undef, undef, undef, undef, undef, undef, undef, undef, undef, undef, undef, undef, undef, undef, undef, undef, undef, undef, undef, undef, undef, undef, undef, undef, undef, undef, undef, undef, undef, undef, undef, undef, undef, undef, undef, undef, undef, undef, undef, undef, undef, undef, undef, undef, undef, undef, undef, undef, undef, undef, undef, undef, undef, undef, undef, undef, undef, undef, undef, undef, undef, undef, undef, undef, undef, undef, undef, undef, undef, undef, undef, undef, undef, undef, undef, undef, undef, undef, undef, undef, undef, undef, undef, undef, undef, undef, undef, undef, undef] : List Value).getD i undef)
  have lL := (lr_cons (hj 0) (lr_cons (hj 1) (lr_cons (hj 2) (lr_cons (hj 3) (lr_cons (hj 4) (lr_cons (.int .i64 x) (lr_cons (.int .i64 y) (lr_cons vT (lr_cons vA (lr_cons vB (lr_cons (hj 10) (lr_cons (hj 11) (lr_cons (hj 12) (lr_cons (hj 13) (lr_cons (.bool false) (lr_cons v5 (lr_cons (hj 16) (lr_cons (hj 17) (lr_cons (hj 18) (lr_cons (hj 19) (lr_cons (hj 20) (lr_cons (hj 21) (lr_cons (hj 22) (lr_cons (hj 23) (lr_cons (hj 24) (lr_cons (hj 25) (lr_cons (hj 26) (lr_cons (hj 27) (lr_cons (hj 28) (lr_cons (hj 29) (lr_cons (hj 30) (lr_cons (hj 31) (lr_cons (hj 32) (lr_cons (hj 33) (lr_cons (hj 34) (lr_cons (hj 35) (lr_cons (hj 36) (lr_cons (hj 37) (lr_cons vres (lr_cons (hj 39) (lr_cons (hj 40) (lr_cons (hj 41) (lr_cons (hj 42) (lr_cons (hj 43) (lr_cons (hj 44) (lr_cons (hj 45) (lr_cons (hj 46) (lr_cons (hj 47) (lr_cons (hj 48) (lr_cons (hj 49) (lr_cons (hj 50) (lr_cons (hj 51) (lr_cons (hj 52) (lr_cons (hj 53) (lr_cons (hj 54) (lr_cons (hj 55) (lr_cons (hj 56) (lr_cons (hj 57) (lr_cons (hj 58) (lr_cons (hj 59) (lr_cons (hj 60) (lr_cons (hj 61) (lr_cons (hj 62) (lr_cons (hj 63) (lr_cons (hj 64) (lr_cons (hj 65) (lr_cons (hj 66) (lr_cons (hj 67) (lr_cons (hj 68) (lr_cons (hj 69) (lr_cons (hj 70) (lr_cons (hj 71) (lr_cons (hj 72) (lr_cons (hj 73) (lr_cons (hj 74) (lr_cons (hj 75) (lr_cons (hj 76) (lr_cons (hj 77) (lr_cons (hj 78) (lr_cons (hj 79) (lr_cons (hj 80) (lr_cons (hj 81) (lr_cons (hj 82) (lr_cons (hj 83) (lr_cons (hj 84) (lr_cons (hj 85) (lr_cons (hj 86) (lr_cons (hj 87) (lr_cons (hj 88) (lr_cons (hj 89) (lr_cons (hj 90) (lr_cons (hj 91) (lr_cons (hj 92) (lr_cons (hj 93) (lr_cons (hj 94) (lr_cons (hj 95) (lr_cons (hj 96) (lr_cons (hj 97) (lr_cons (hj 98) (lr_cons (hj 99) (lr_cons (hj 100) (lr_cons (hj 101) (lr_cons (hj 102) (lr_cons (hj 103) (lr_cons (hj 104) (lr_cons (hj 105) (lr_cons (hj 106) (lr_cons (hj 107) (lr_cons (hj 108) (lr_cons (hj 109) (lr_cons (hj 110) (lr_cons (hj 111) (lr_cons (hj 112) (lr_cons (hj 113) (lr_cons (hj 114) (lr_cons (hj 115) (lr_cons (hj 116) (lr_cons (hj 117) (lr_cons (hj 118) (lr_cons (hj 119) (lr_cons (hj 120) (lr_cons (hj 121) (lr_cons (hj 122) (lr_cons (hj 123) (lr_cons (hj 124) (lr_cons (hj 125) (lr_cons (hj 126) (lr_cons (hj 127) (lr_cons (hj 128) (lr_cons (hj 129) (lr_nil)))))))))))))))))))))))))))))))))))))))))))))))))))))))))))))))))))))))))))))))))))))))))))))))))))))))))))))))))))))))))))))))))))
  have hin : InCall Try.prog (fun u _ => u = .bool true) [] E7 _ wl7 (G (mkF 4 #[.slice av n cv, .slice aa la ca, .slice ab lb cb, .int .i64 (h : Nat), .int .i64 o, .int .i64 x, .int .i64 y, .pointer (some ⟨W.heap.size, 0, none⟩), .pointer (some ⟨W.heap.size + 1, 0, none⟩), .pointer (some ⟨W.heap.size + 2, 0, none⟩), undef, undef, undef, undef, .bool false, .pointer (some ⟨w4.heap.size, 0, none⟩), .int .i64 0, undef, undef, undef, undef, .bool true, .bool false, .tuple #[.agg #[.int .i64 (qd : Nat), .int .i64 (qr : Nat), .int .i64 (M : Nat)], .int .i64 0], .slice av n cv, .slice aa la ca, .slice ab lb cb, .int .i64 (h : Nat), .tuple #[.agg #[.int .i64 (qd : Nat), .int .i64 (qr : Nat), .int .i64 (M : Nat)], .int .i64 0], .agg #[.int .i64 (qd : Nat), .int .i64 (qr : Nat), .int .i64 (M : Nat)], .int .i64 0, .int .i64 0, .bool false, undef, .slice av n cv, .slice aa la ca, .slice ab lb cb, .int .i64 o, res, undef, undef, undef, undef, undef, undef, undef, undef, undef, undef, undef, undef, undef, undef, undef, undef, undef, undef, undef, undef, undef, undef, undef, undef, undef, undef, undef, undef, undef, undef, undef, undef, undef, undef, undef, undef, undef, undef, undef, undef, undef, undef, undef, undef, undef, undef, undef, undef, undef, undef, undef, undef, undef, undef, undef, undef, undef, undef, undef, undef, undef, undef, undef, undef, undef, undef, undef, undef, undef, undef, undef, undef, undef, undef, undef, undef, undef, undef, undef, undef, undef, undef, undef, undef, undef, undef, undef, undef, undef, undef, undef] [.inRegion lbO6 (List.range' 5 6), .code lbC7, .code (restAt 5 lbB)] .run) []) w6 := InCall.mid ⟨_, Try.func4⟩ lL c7.wr c7.big lb_item (fun τ => reach_region2 Try.func4 (tb_rest j _ _ _ res n la lb dT dA dB d5 x y f p q hn hf ha hb (wl7.tp τ) hv7 h17 h27 cT cA cB (fun i u hu => c5 i u (by rw [hV] at hu; exact hu)) hres))
  obtain ⟨N7, gs7, w7, sl7, t7, q7, E8, gl8, wl8, g8, r7, z7, i7, in7, st7, la7, fc7, Q7⟩ := beside_stop2 (sl := sl6) hG tf_fnsCode (fun b y e => by
    obtain ⟨q', s', o'⟩ := y
    exact (low7 b q' s' o' e).2) (fun b hb => (hSn b hb).2) i6 hin Q6
  obtain ⟨u, u', wlu, hu, vu, run7, end7⟩ := in7.atEnd st7 (fn0 := 4) (f := Try.f4) (t := 14) la7 Try.func4 rfl (by kernel_rfl)
  obtain rfl : u' = .bool true := by rw [hu] at vu; cases vu; rfl
  have hkept : Kept W w7 := ⟨fun b hb => by
    rw [fc7.keep b (by omega) (fun b' s' e => by have := (low7 _ _ _ _ e).1; cases this), k06 b hb], fc7.os.trans (os6.trans (I5.2.1.trans (os4.trans (I3.2.1.trans (fc2.os.trans I1.2.1))))), fc7.output.trans (ou6.trans (I5.2.2.trans (ou4.trans (I3.2.2.trans (fc2.output.trans I1.2.2)))))⟩
  obtain ⟨B0, hP⟩ := Q7.past
  obtain ⟨N8, last, o', w', t', x1, x2, x3, x4⟩ := beside_ends (P := Try.prog) (Shun := snL Sn) (B := B0) (D := fun _ _ _ => False) (Post := fun u W' => u = .bool true ∧ Kept W W') (sl := sl7) (n := 0) (fun _ _ _ h => h.elim) i7 Q7.lv (hP B0 (Nat.le_refl _)) (Goes.stop fun w₂ h₂ => by
    obtain ⟨d, rfl⟩ := h₂
    exact ⟨run7, .bool true, #[], end7 _, fun e he => by simp at he, rfl, hkept⟩)
  have hr := (run_seq (b := N2 + (N3 + (N4 + (N5 + (N6 + N7))))) r1).trans ((run_seq r2).trans ((run_seq r3).trans ((run_seq r4).trans ((run_seq r5).trans ((run_seq r6).trans r7)))))
  rw [solo_eq_crowd]
  refine ⟨N1 + (N2 + (N3 + (N4 + (N5 + (N6 + N7))))) + N8, last, o', w', t', ?_, ?_, x3, x4⟩
  · exact (congrArg (fun k => runNT Try.prog k _ _) (Nat.add_assoc _ N8 1)).trans ((run_seq hr).trans x1)
  · rw [← runNT_fst _ _ _ #[]]
    refine (congrArg Prod.fst (run_seq (b := N8) hr)).trans ?_
    rw [runNT_fst]
    exact x2
end Go.Proofs.Ytpdemelchhkfaaa
