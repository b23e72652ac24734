/-
  tele.Best in company: the pool, to behind Wait.
-/
import Derived.Test.YtpdemelchhkfaaaTgG
namespace Go.Proofs.Ytpdemelchhkfaaa.Cs
open Go.Conc Go.RowKit PK Tl
open Go.ConcR (KK WgAt wgBlock)
theorem push6 (H : Array Obj) (a b c d e f : Obj) : ((((((H.push a).push b).push c).push d).push e).push f).size = H.size + 6 ∧ ((((((H.push a).push b).push c).push d).push e).push f)[H.size]? = some a ∧ ((((((H.push a).push b).push c).push d).push e).push f)[H.size + 1]? = some b ∧ ((((((H.push a).push b).push c).push d).push e).push f)[H.size + 2]? = some c ∧ ((((((H.push a).push b).push c).push d).push e).push f)[H.size + 3]? = some d ∧ ((((((H.push a).push b).push c).push d).push e).push f)[H.size + 4]? = some e ∧ ((((((H.push a).push b).push c).push d).push e).push f)[H.size + 5]? = some f ∧ ∀ i, i < H.size → ((((((H.push a).push b).push c).push d).push e).push f)[i]? = H[i]? := by
  refine ⟨by simp, ?_, ?_, ?_, ?_, ?_, ?_, fun i hi => ?_⟩
  · simp only [Array.getElem?_push, Array.size_push]
    rw [if_neg (by omega), if_neg (by omega), if_neg (by omega), if_neg (by omega), if_neg (by omega), if_pos trivial]
  · simp only [Array.getElem?_push, Array.size_push]
    rw [if_neg (by omega), if_neg (by omega), if_neg (by omega), if_neg (by omega), if_pos trivial]
  · simp only [Array.getElem?_push, Array.size_push]
    rw [if_neg (by omega), if_neg (by omega), if_neg (by omega), if_pos trivial]
  · simp only [Array.getElem?_push, Array.size_push]
    rw [if_neg (by omega), if_neg (by omega), if_pos trivial]
  · simp only [Array.getElem?_push, Array.size_push]
    rw [if_neg (by omega), if_pos trivial]
  · simp only [Array.getElem?_push, Array.size_push]
    rw [if_pos trivial]
  · simp only [Array.getElem?_push, Array.size_push]
    rw [if_neg (by omega), if_neg (by omega), if_neg (by omega), if_neg (by omega), if_neg (by omega), if_neg (by omega)]
/-- The pool of Best. -/
def cstB (h R S0 hs lb : Nat) (vs : Value) (w : World) : Cst := { n := h, K := R, S0 := S0, N1 := w.heap.size, H0 := fun q => w.heap[q]?, C1 := hs + 4, C2 := hs + 5, Fd := hs, TF := 3, z1 := undef, z2 := undef, zs1 := undef, zs2 := undef, fB := 22, ar := fun k => #[vs, .int .i64 (k / lb : Nat), .int .i64 (k % lb : Nat)], os0 := w.os, out0 := w.output }
/-- What is held behind Wait. -/
structure AtJ (W0 W w8 w : World) (E : Env) (wl : World) (x : Array Value) (n la lb h : Nat) (f : Nat → Nat) (p q : Nat → Bool) (g : Nat → Value) (ya yb : Option Addr) (ca cb bb b8 bs hs : Nat) : Prop where
  at8 : At8 W0 W w8 E wl x #[g 0, .slice ya la ca, g 2, .int .i64 (h : Nat), g 4, g 5, .pointer (some ⟨bb, 0, none⟩), g 7, .pointer (some ⟨b8, 0, none⟩), g 9, g 10, g 11, g 12, .pointer (some ⟨bs, 0, none⟩), g 14, g 15, g 16, g 17, g 18, g 19, g 20, g 21, g 22, g 23, g 24, g 25, g 26, g 27, g 28, g 29, g 30, g 31, g 32, g 33, g 34, g 35, g 36, g 37, g 38, g 39, g 40, g 41, g 42, g 43, g 44, g 45, g 46, g 47, g 48, g 49, g 50, g 51, g 52, g 53, g 54, g 55, g 56, g 57, g 58, g 59, g 60, g 61, g 62, g 63, g 64, g 65, g 66, g 67, g 68, g 69, g 70, g 71] h (min (n - 1) (la * lb)) la lb (gaF (fun i => unN (f i ^^^ f (i + 1))) (la * lb) (n - 1)) (fun k => (chN p la k : Int)) (fun k => (chN q lb k : Int))
  hsz : hs = w8.heap.size
  old : ∀ b, b < hs → w.heap[b]? = w8.heap[b]?
  bbx : w8.heap[bb]? = some (.cells #[.slice yb lb cb] 24 (0, 0))
  row : ∃ cs, w.heap[hs]? = some (.cells cs 3 (0, 0)) ∧ cs.size = la * lb
  cnt : ∀ k, k < la * lb → w.cell? ⟨hs, k, none⟩ = some (.int .i64 (plF f n p la q lb k : Nat))
  box : w.heap[hs + 1]? = some (.cells #[.slice (some ⟨hs, 0, none⟩) (la * lb) (la * lb)] 22 (0, 0))
  size : hs + 6 ≤ w.heap.size
  env : w.os = W.os ∧ w.output = W.output
set_option maxRecDepth 100000 in
set_option maxHeartbeats 8000000 in
theorem best_join (v va vb : Value) (n la lb h : Nat) (f : Nat → Nat) (p q : Nat → Bool) (hn : n ≤ 65536) (hf : ∀ i, i < n → f i < 32) (ha : 1 ≤ la ∧ la ≤ 47) (hb : 1 ≤ lb ∧ lb ≤ 47) (hh : 1 ≤ h ∧ h ≤ 16) (W0 W : World) (hv : NumsAt W0 v n (fun i => (f i : Int))) (h1 : PinsAt W0 va la p) (h2 : PinsAt W0 vb lb q) (rv : Rt W0 v) (ra : Rt W0 va) (rb : Rt W0 vb) (hag : ∀ b, b < W0.heap.size → W.heap[b]? = W0.heap[b]?) (c0 : List Frame) {gs : Array Goroutine} {t : Trace} {qq : Nat → Nat} (i0 : gs[0]? = some (G (mkF 7 #[v, va, vb, .int .i64 (h : Nat), undef, undef, undef, undef, undef, undef, undef, undef, undef, undef, undef, undef, undef, undef, undef, undef, undef, undef, undef, undef, undef, undef, undef, undef, undef, undef, undef, undef, undef, undef, undef, undef, undef, undef, undef, undef, undef, undef, undef, undef, undef, undef, undef, undef, undef, undef, undef, undef, undef, undef, undef, undef, undef, undef, undef, undef, undef, undef, undef, undef, undef, undef, undef, undef, undef, undef, undef, undef] [.code bBody] .run) c0)) (hq : Qs Try.prog (fun _ => False) gs t qq 0 W.heap.size) (sl : Option (Nat × Nat)) :
    ∃ N gs' w8 w' sl' t' q' E wl x, ∃ (g : Nat → Value) (ya yb : Option Addr) (ca cb bb b8 bs hs : Nat) (T : Array Value), runNT Try.prog N (crowd gs W sl) t = (.next (crowd gs' w' sl'), t') ∧ T.size = 16 ∧ gs'[0]? = some (G ((base 20).at ⟨T, []⟩ [.inRegion gO8 []]) (mkF 7 #[g 0, .slice ya la ca, g 2, .int .i64 (h : Nat), g 4, g 5, .pointer (some ⟨bb, 0, none⟩), g 7, .pointer (some ⟨b8, 0, none⟩), g 9, g 10, g 11, g 12, .pointer (some ⟨bs, 0, none⟩), .pointer (some ⟨hs + 1, 0, none⟩), g 15, g 16, g 17, g 18, g 19, g 20, g 21, g 22, g 23, g 24, g 25, g 26, g 27, g 28, g 29, g 30, g 31, g 32, g 33, g 34, g 35, g 36, g 37, g 38, g 39, g 40, g 41, g 42, g 43, g 44, g 45, .slice ya la ca, .int .i64 (la : Nat), .slice yb lb cb, .int .i64 (lb : Nat), .int .i64 ((la * lb : Nat) : Int), .slice (some ⟨hs, 0, none⟩) (la * lb) (la * lb), .int .i64 (h : Nat), .slice (some ⟨hs, 0, none⟩) (la * lb) (la * lb), .int .i64 ((la * lb : Nat) : Int), .func (.func 21) #[] #[.pointer (some ⟨bs, 0, none⟩), .pointer (some ⟨bb, 0, none⟩), .pointer (some ⟨hs + 1, 0, none⟩)], g 56, g 57, g 58, g 59, g 60, g 61, g 62, g 63, g 64, g 65, g 66, g 67, g 68, g 69, g 70, g 71] [.inRegion bO9 [4], .code (restAt 7 bBody)] .run :: c0)) ∧ AtJ W0 W w8 w' E wl x n la lb h f p q g ya yb ca cb bb b8 bs hs ∧ Qs Try.prog (fun b => b = hs + 4 ∨ b = hs + 5) gs' t' q' 0 w'.heap.size := by
  have hG : Try.prog.globals.size ≤ Fns.G := Nat.le_refl _
  obtain ⟨N1, gs1, w1, sl1, t1, q1, E, x, y, wl, r1, z1, i1, k8, Q1⟩ := best_to8 v va vb n la lb h f p q hn hf ha hb hh W0 W hv h1 h2 rv ra rb hag (Sn := fun _ => False) (fun _ e => e.elim) c0 i0 hq sl
  have gpos : ∀ j, 0 ≤ (gaF (fun i => unN (f i ^^^ f (i + 1))) (la * lb) (n - 1)) j := fun j => (gaF_le _ _ _ _).1
  have cpos : ∀ (p : Nat → Bool) (l j : Nat), 0 ≤ (chN p l j : Int) := fun _ _ _ => Int.natCast_nonneg _
  obtain ⟨g, ya, yb, ca, cb, bb, b8, bs, ap, aa, ab, rfl, cbb, cbs, hpr, hnA, hnB, rp, rA, rB⟩ := k8.facts ha.1 hb.1 gpos (cpos p la) (cpos q lb)
  obtain ⟨hs, hhs⟩ : ∃ hs, hs = w1.heap.size := ⟨_, rfl⟩
  have lbb : bb < hs := by rw [hhs]; exact (Array.getElem?_eq_some_iff.1 cbb).1
  have lbs : bs < hs := by rw [hhs]; exact (Array.getElem?_eq_some_iff.1 cbs).1
  have hR : la * lb ≤ 2209 := Nat.mul_le_mul ha.2 hb.2
  have hR1 : 1 ≤ la * lb := Nat.mul_pos ha.1 hb.1
  -- the two blocks that will be touched by atomic means
  have Q1' : Qs Try.prog (fun b => b = hs + 4 ∨ b = hs + 5) gs1 t1 q1 0 w1.heap.size := Q1.shun (fun _ e => e.elim) (fun j y a hy hya hl => by
    have hlow := Q1.low j a (by simp [touchAt, Trace.act?, hy, hya])
    cases hl2 : a.loc with
    | cell b =>
      rw [hl2] at hlow hl
      have h3 : b.block < w1.heap.size := hlow
      rcases (show b.block = hs + 4 ∨ b.block = hs + 5 from hl) with e | e <;> omega
    | obj b =>
      rw [hl2] at hlow hl
      have h3 : b < w1.heap.size := hlow
      rcases (show b = hs + 4 ∨ b = hs + 5 from hl) with e | e <;> omega
    | output => rw [hl2] at hl; exact hl.elim
    | goroutines => rw [hl2] at hl; exact hl.elim
    | mark m => rw [hl2] at hl; exact hl.elim)
  have P1 : ∀ j a, touchAt t1 j = some a → PlF hs a := fun j a hy ad e => by
    have hlow := Q1.low j a hy
    rw [e] at hlow
    have h3 : ad.block < w1.heap.size := hlow
    omega
  have I1 : HI w1.heap w1.os w1.output w1 := ⟨rfl, rfl, rfl⟩
  obtain ⟨mu, G2⟩ := to_add g ya yb ca cb bb b8 bs h la lb (la * lb) rfl ha hb c0 (fun b => b = hs + 4 ∨ b = hs + 5) w1.heap w1.os w1.output cbb (by omega) (by omega) w1 I1
  rw [← hhs] at G2
  obtain ⟨N2, gs2, w2, sl2, t2, q2, g2, r2, z2, i2, ⟨rfl, I2⟩, Q2, P2⟩ := beside_walkF (Pl := PlF hs) (sl := sl1) (fun w w' es h => h) (fun g w h => by rw [h.1]; rfl) i1 G2 Q1' P1
  obtain ⟨X, hX⟩ : ∃ X, X = ((((((w1.heap.push (.cells (ints (la * lb) fun _ => 0) 3)).push (.cells #[.slice (some ⟨hs, 0, none⟩) (la * lb) (la * lb)] 22)).push (.cells #[.int .i64 ((la * lb : Nat) : Int)] 3)).push (.cells #[.func (.func 21) #[] #[.pointer (some ⟨bs, 0, none⟩), .pointer (some ⟨bb, 0, none⟩), .pointer (some ⟨hs + 1, 0, none⟩)]] 57)).push (.cells #[.int .i64 0] 85)).push (.cells #[.int .u64 0, .int .u32 0] 91)) := ⟨_, rfl⟩
  have I2' : HI X w1.os w1.output w2 := by rw [hX]; exact I2
  have p6 := push6 w1.heap (.cells (ints (la * lb) fun _ => 0) 3) (.cells #[.slice (some ⟨hs, 0, none⟩) (la * lb) (la * lb)] 22) (.cells #[.int .i64 ((la * lb : Nat) : Int)] 3) (.cells #[.func (.func 21) #[] #[.pointer (some ⟨bs, 0, none⟩), .pointer (some ⟨bb, 0, none⟩), .pointer (some ⟨hs + 1, 0, none⟩)]] 57) (.cells #[.int .i64 0] 85) (.cells #[.int .u64 0, .int .u32 0] 91)
  rw [← hX, ← hhs] at p6
  obtain ⟨s6, x0, x1, x2, x3, x4, x5, xo⟩ := p6
  clear hX I2 G2
  obtain ⟨N3, gs3, w3, sl3, t3, q3, g3, r3, z3, i3, s3, go3, hp3, sz3, os3, ou3, wg3, Q3, P3⟩ := add_run h (la * lb) hs bs bb hh (mkF 7 #[g 0, .slice ya la ca, g 2, .int .i64 (h : Nat), g 4, g 5, .pointer (some ⟨bb, 0, none⟩), g 7, .pointer (some ⟨b8, 0, none⟩), g 9, g 10, g 11, g 12, .pointer (some ⟨bs, 0, none⟩), .pointer (some ⟨hs + 1, 0, none⟩), g 15, g 16, g 17, g 18, g 19, g 20, g 21, g 22, g 23, g 24, g 25, g 26, g 27, g 28, g 29, g 30, g 31, g 32, g 33, g 34, g 35, g 36, g 37, g 38, g 39, g 40, g 41, g 42, g 43, g 44, g 45, .slice ya la ca, .int .i64 (la : Nat), .slice yb lb cb, .int .i64 (lb : Nat), .int .i64 ((la * lb : Nat) : Int), .slice (some ⟨hs, 0, none⟩) (la * lb) (la * lb), .int .i64 (h : Nat), .slice (some ⟨hs, 0, none⟩) (la * lb) (la * lb), .int .i64 ((la * lb : Nat) : Int), .func (.func 21) #[] #[.pointer (some ⟨bs, 0, none⟩), .pointer (some ⟨bb, 0, none⟩), .pointer (some ⟨hs + 1, 0, none⟩)], g 56, g 57, g 58, g 59, g 60, g 61, g 62, g 63, g 64, g 65, g 66, g 67, g 68, g 69, g 70, g 71] [.inRegion bO9 [4], .code (restAt 7 bBody)] .run :: c0) (Fd := hs) (by omega) i2 I2' x5 Q2 P2 sl2
  have hold : ∀ b, b < hs → w3.heap[b]? = w1.heap[b]? := fun b hb => (hp3 b (by omega)).trans (xo b hb)
  have size3 : w3.heap.size = hs + 6 := sz3.trans s6
  obtain ⟨cst, hcst⟩ : ∃ cst, cst = cstB h (la * lb) gs3.size hs lb (.agg #[.slice ap (min (n - 1) (la * lb)) (min (n - 1) (la * lb)), .slice aa la la, .slice ab lb lb]) w3 := ⟨_, rfl⟩
  have fixOld : ∀ b, b < hs → cst.Fix b := fun b hb => by
    rw [hcst]
    exact ⟨by show b < w3.heap.size; omega, by show b ≠ hs; omega, by show b ≠ hs + 4; omega, by show b ≠ hs + 5; omega⟩
  have fix3 : ∀ b, b = hs + 1 ∨ b = hs + 2 ∨ b = hs + 3 → cst.Fix b := fun b hb => by
    rw [hcst]
    exact ⟨by show b < w3.heap.size; omega, by show b ≠ hs; omega, by show b ≠ hs + 4; omega, by show b ≠ hs + 5; omega⟩
  have h0 : ∀ w, cst.Ok w → ∀ b, cst.Fix b → w.heap[b]? = w3.heap[b]? := fun w hw b hb => by
    have := hw.fix b hb
    rw [hcst] at this
    exact this
  have okw : cst.Ok w3 := by
    rw [hcst]
    exact ⟨fun _ _ => rfl, ⟨_, (hp3 hs (by omega)).trans x0, by simp [ints_size]; rfl⟩, Nat.le_refl _, rfl, rfl⟩
  have c1 : w3.heap[hs + 1]? = _ := (hp3 (hs + 1) (by omega)).trans x1
  have c2 : w3.heap[hs + 2]? = _ := (hp3 (hs + 2) (by omega)).trans x2
  have c3 : w3.heap[hs + 3]? = _ := (hp3 (hs + 3) (by omega)).trans x3
  have c4 : w3.heap[hs + 4]? = _ := (hp3 (hs + 4) (by omega)).trans x4
  have cb3 := (hold bb lbb).trans cbb
  have cs3 := (hold bs lbs).trans cbs
  have e1 : cst.n = h := by rw [hcst]; rfl
  have e2 : cst.K = la * lb := by rw [hcst]; rfl
  have e3 : cst.C1 = hs + 4 := by rw [hcst]; rfl
  have e4 : cst.C2 = hs + 5 := by rw [hcst]; rfl
  have e5 : cst.Fd = hs := by rw [hcst]; rfl
  have e6 : cst.S0 = gs3.size := by rw [hcst]; rfl
  have e7 : cst.N1 = w3.heap.size := by rw [hcst]; rfl
  have e8 : cst.TF = 3 := by rw [hcst]; rfl
  have e9 : cst.os0 = w3.os ∧ cst.out0 = w3.output := by rw [hcst]; exact ⟨rfl, rfl⟩
  have eB : cst.fB = 22 := by rw [hcst]; rfl
  have eA : ∀ k, cst.ar k = #[.agg #[.slice ap (min (n - 1) (la * lb)) (min (n - 1) (la * lb)), .slice aa la la, .slice ab lb lb], .int .i64 (k / lb : Nat), .int .i64 (k % lb : Nat)] := fun k => by rw [hcst]; rfl
  clear hcst
  have tep : TeP cst (fun k => .int .i64 (plF f n p la q lb k : Nat)) (hs + 2) (hs + 3) bs bb (hs + 1) (.agg #[.slice ap (min (n - 1) (la * lb)) (min (n - 1) (la * lb)), .slice aa la la, .slice ab lb lb]) yb lb cb := by
    refine ⟨⟨fix3 _ (.inr (.inl rfl)), fix3 _ (.inr (.inr rfl)), fixOld _ lbs, fixOld _ lbb, fix3 _ (.inl rfl)⟩, fun w hw => ?_, fun w hw => ?_, fun w hw => ?_, fun w hw e he => ?_, fun w hw => ?_, fun w hw => ?_, ⟨by omega, by omega⟩, by rw [e2]; omega, eB, eA, fun k => ⟨_, rfl⟩⟩
    · rw [e2]
      exact one_cellT ((h0 w hw _ (fix3 _ (.inr (.inl rfl)))).trans c2)
    · exact one_cellT ((h0 w hw _ (fix3 _ (.inr (.inr rfl)))).trans c3)
    · exact ld_row ((h0 w hw _ (fixOld _ lbs)).trans cs3) Try.underlying55 rfl tf_info_search
    · obtain ⟨ad, k1, k2⟩ := ev_rowT ((h0 w hw _ (fixOld _ lbs)).trans cs3) Try.underlying55 rfl tf_info_search e he
      exact ⟨ad, k1, by rw [k2]; exact fixOld _ lbs⟩
    · exact one_cellT ((h0 w hw _ (fixOld _ lbb)).trans cb3)
    · rw [e2, e5]
      exact one_cellT ((h0 w hw _ (fix3 _ (.inl rfl))).trans c1)
  have d1 : cst.C1 < cst.N1 ∧ cst.C2 < cst.N1 ∧ cst.Fd < cst.N1 ∧ cst.C1 ≠ cst.C2 ∧ cst.C1 ≠ cst.Fd ∧ cst.C2 ≠ cst.Fd := by
    rw [e3, e4, e5, e7]
    omega
  have s0 : 1 ≤ cst.S0 := by
    rw [e6]
    have := idx_lt i3
    omega
  let SC := teleScr (tT := 85) tep (mkF 7 #[g 0, .slice ya la ca, g 2, .int .i64 (h : Nat), g 4, g 5, .pointer (some ⟨bb, 0, none⟩), g 7, .pointer (some ⟨b8, 0, none⟩), g 9, g 10, g 11, g 12, .pointer (some ⟨bs, 0, none⟩), .pointer (some ⟨hs + 1, 0, none⟩), g 15, g 16, g 17, g 18, g 19, g 20, g 21, g 22, g 23, g 24, g 25, g 26, g 27, g 28, g 29, g 30, g 31, g 32, g 33, g 34, g 35, g 36, g 37, g 38, g 39, g 40, g 41, g 42, g 43, g 44, g 45, .slice ya la ca, .int .i64 (la : Nat), .slice yb lb cb, .int .i64 (lb : Nat), .int .i64 ((la * lb : Nat) : Int), .slice (some ⟨hs, 0, none⟩) (la * lb) (la * lb), .int .i64 (h : Nat), .slice (some ⟨hs, 0, none⟩) (la * lb) (la * lb), .int .i64 ((la * lb : Nat) : Int), .func (.func 21) #[] #[.pointer (some ⟨bs, 0, none⟩), .pointer (some ⟨bb, 0, none⟩), .pointer (some ⟨hs + 1, 0, none⟩)], g 56, g 57, g 58, g 59, g 60, g 61, g 62, g 63, g 64, g 65, g 66, g 67, g 68, g 69, g 70, g 71] [.inRegion bO9 [4], .code (restAt 7 bBody)] .run :: c0) (by rw [e1]; omega) s0 d1 (by rw [eB]; kernel_rfl) (fun k hk w hw => by
    rw [e2] at hk
    have hx : k / lb < 47 := by
      have : k / lb < la := Nat.div_lt_of_lt_mul (by rw [Nat.mul_comm]; exact hk)
      omega
    have hy : k % lb < 47 := by
      have := Nat.mod_lt k (show 0 < lb by omega)
      omega
    obtain ⟨E', wl', u, k1, k2, k3, k4, k5⟩ := fits_ghost (k / lb) (k % lb) (min (n - 1) (la * lb)) la lb ap aa ab _ _ _ (by omega) ha hb hx hy (fun r j => by
      have := (gaF_le (fun i => unN (f i ^^^ f (i + 1))) (la * lb) (n - 1) (r * 2 + j)).2
      omega) (fun j => by have := chN_lt p la j; simpa using this) (fun j => by have := chN_lt q lb j; simpa using this) w1 hpr hnA hnB rp rA rB
    refine ⟨E', wl', u, fun b q s o e => ⟨(k1 b q s o e).1, fixOld q (by rw [hhs]; exact (k1 b q s o e).2)⟩, by rw [eA]; exact k2, wr_move k3 fun b y e => ?_, k4, fun τ => ?_⟩
    · obtain ⟨q', s', o'⟩ := y
      have hq' := (k1 b q' s' o' e).2
      rw [← hhs] at hq'
      exact (h0 w hw q' (fixOld q' hq')).trans (hold q' hq')
    · rw [eB]
      refine (k5 τ).mono ?_
      rintro e w' ⟨v', rfl, hv'⟩
      refine ⟨v', rfl, ?_⟩
      rw [hv']
      have hfc := fit_cnt f n p la q lb (k / lb) (k % lb) hf ha.1 hb.1
      unfold plF
      rw [← hfc]
      congr 2
      unfold fitS
      refine Tf.sm_congr fun r _ => ?_
      simp only [gaF, Int.toNat_natCast]
      have hx2 : ∀ u : Nat, u < 2 → (r * 2 + u) / 2 = r ∧ (r * 2 + u) % 2 = u := fun u hu => by omega
      have hu := xor_lt2 (chN_lt p la ((k / lb + r) % la)) (chN_lt q lb ((k % lb + r) % lb))
      rw [(hx2 _ hu).1, (hx2 _ hu).2])
  have hsn : SnOk cst (fun b => b = hs + 4 ∨ b = hs + 5) := ⟨fun b hb => by rw [e7, e5]; omega, fun b hb hf => by
    have h3 := hf.2.2
    rw [e3, e4] at h3
    omega, by rw [e3]; exact .inl rfl, by rw [e4]; exact .inr rfl⟩
  have hW : Walk2 Try.prog cst Go.Proofs.Ytpdemelchhkfaaa.Cs.wgL.tWg 85 true (SC.GoP 0) 0 g3 w3 := Goes.stop fun _ _ => ⟨s3, go3 cst e1 e3 e4⟩
  obtain ⟨N4, gs4, w4, sl4, t4, q4, g4, r4, z4, i4, on4, Q4, ok4, wg4, res4⟩ := pool2_runs hG tf_fnsCode SC hsn (by rw [e6]) i3 Q3 hW okw (by show w3.heap[cst.C1]? = _; rw [e3]; exact c4) (by rw [e4, e1]; exact wg3) (by rw [e5]; exact fun j a ad k1 k2 => P3 j a k1 ad k2) sl3
  obtain ⟨N5, gs5, w5, sl5, t5, q5, g5, r5, z5, i5, s5, jn5, hp5, os5, ou5, Q5⟩ := beside_on (fun b hb => hsn.fix b hb) i4 on4 ok4 Q4 sl4
  obtain ⟨T, hT, rfl⟩ := jn5
  refine ⟨N1 + (N2 + (N3 + (N4 + N5))), gs5, w1, w5, sl5, t5, q5, E, wl, x, g, ya, yb, ca, cb, bb, b8, bs, hs, T, ?_, hT, i5, ⟨k8, hhs, fun b hb => ?_, cbb, ?_, fun k hk => ?_, ?_, ?_, ?_⟩, Q5⟩
  · rw [runNT_add, r1]
    show runNT Try.prog (N2 + (N3 + (N4 + N5))) (crowd gs1 w1 sl1) t1 = _
    rw [runNT_add, r2]
    show runNT Try.prog (N3 + (N4 + N5)) (crowd gs2 w2 sl2) t2 = _
    rw [runNT_add, r3]
    show runNT Try.prog (N4 + N5) (crowd gs3 w3 sl3) t3 = _
    rw [runNT_add, r4]
    exact r5
  · rw [hp5]
    exact (h0 w4 ok4.ok b (fixOld b hb)).trans (hold b hb)
  · obtain ⟨cs, k1, k2⟩ := ok4.ok.fd
    rw [e5, e8] at k1
    rw [e2] at k2
    exact ⟨cs, by rw [hp5]; exact k1, k2⟩
  · have := res4 k (by rw [e2]; exact hk)
    rw [e5] at this
    have hcell : ∀ a, w5.cell? a = w4.cell? a := fun a => by unfold World.cell?; rw [hp5]
    rw [hcell]
    exact this
  · rw [hp5]
    exact (h0 w4 ok4.ok _ (fix3 _ (.inl rfl))).trans c1
  · have := ok4.ok.big
    rw [e7, size3] at this
    rw [hp5]
    exact this
  · have := ok4.ok.env
    rw [e9.1, e9.2] at this
    exact ⟨os5.trans (this.1.trans (os3.trans k8.env.1)), ou5.trans (this.2.trans (ou3.trans k8.env.2))⟩
end Go.Proofs.Ytpdemelchhkfaaa.Cs
