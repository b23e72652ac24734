/-
  Several texts, joined: TgK, TgL.
-/
import Derived.Test.YtpdemelchhkfaaaJn34
/-
  A whole call of tele.Best in company.
-/
namespace Go.Proofs.Ytpdemelchhkfaaa.Cs
open Go.Conc Go.RowKit PK Tl
theorem mx_item : [Item.code (restAt 3 mxBody)].all (itemOk Try.prog) = true := by kernel_rfl
theorem bt_item : (pend [Item.inRegion bO10 [1, 2], .code (restAt 8 bBody)]).all (itemOk Try.prog) = true := by kernel_rfl
theorem size_ag {W0 W : World} (hag : ∀ b, b < W0.heap.size → W.heap[b]? = W0.heap[b]?) : W0.heap.size ≤ W.heap.size := by
  refine Nat.le_of_not_lt fun h => ?_
  have := hag W.heap.size h
  rw [Array.getElem?_eq_none (Nat.le_refl _), Array.getElem?_eq_getElem h] at this
  cases this
theorem junks (E : Env) (g : Nat → Value) : ∃ j : Nat → Value, ∀ i, VR E (j i) (g i) := ⟨fun i => (junk E (g i)).choose, fun i => (junk E (g i)).choose_spec⟩
theorem vr_hit {E : Env} {a b c d : Int} {u : Value} (h : VR E (.tuple #[.agg #[.int .i64 a, .int .i64 b, .int .i64 c], .int .i64 d]) u) : u = .tuple #[.agg #[.int .i64 a, .int .i64 b, .int .i64 c], .int .i64 d] := by
  have int : ∀ {k : Int} {z : Value}, VR E (.int .i64 k) z → z = .int .i64 k := fun h => by cases h; rfl
  cases h with
  | tuple hs hv =>
    rename_i y
    have h0 : 0 < y.size := by rw [← hs]; exact Nat.zero_lt_two
    have h1 : 1 < y.size := by rw [← hs]; exact Nat.one_lt_two
    have k0 := hv 0 _ _ rfl (Array.getElem?_eq_getElem h0)
    have k1 := int (hv 1 _ _ rfl (Array.getElem?_eq_getElem h1))
    have e0 : y[0] = .agg #[.int .i64 a, .int .i64 b, .int .i64 c] := by
      revert k0
      generalize y[0] = z
      intro k0
      cases k0 with
      | agg hs2 hv2 =>
        rename_i y2
        have g0 : 0 < y2.size := by rw [← hs2]; exact Nat.zero_lt_succ _
        have g1 : 1 < y2.size := by rw [← hs2]; exact Nat.succ_lt_succ (Nat.zero_lt_succ _)
        have g2 : 2 < y2.size := by rw [← hs2]; exact Nat.lt_succ_self _
        have m0 := int (hv2 0 _ _ rfl (Array.getElem?_eq_getElem g0))
        have m1 := int (hv2 1 _ _ rfl (Array.getElem?_eq_getElem g1))
        have m2 := int (hv2 2 _ _ rfl (Array.getElem?_eq_getElem g2))
        congr 1
        refine Array.ext (by rw [← hs2]) fun i hi1 hi2 => ?_
        rcases (by simp at hi2; omega : i = 0 ∨ i = 1 ∨ i = 2) with rfl | rfl | rfl
        · exact m0
        · exact m1
        · exact m2
    congr 1
    refine Array.ext (by rw [← hs]) fun i hi1 hi2 => ?_
    rcases (by simp at hi2; omega : i = 0 ∨ i = 1) with rfl | rfl
    · exact e0
    · exact k1
set_option maxRecDepth 100000 in
set_option maxHeartbeats 8000000 in
/-- A call of Best beside goroutines that only leave: it tells what is to be told. -/
theorem best_call (v va vb : Value) (n la lb h : Nat) (f : Nat → Nat) (p q : Nat → Bool) (hn : n ≤ 65536) (hf : ∀ i, i < n → f i < 32) (ha : 1 ≤ la ∧ la ≤ 47) (hb : 1 ≤ lb ∧ lb ≤ 47) (hh : 1 ≤ h ∧ h ≤ 16) (W0 W : World) (hv : NumsAt W0 v n (fun i => (f i : Int))) (h1 : PinsAt W0 va la p) (h2 : PinsAt W0 vb lb q) (rv : Rt W0 v) (ra : Rt W0 va) (rb : Rt W0 vb) (hag : ∀ b, b < W0.heap.size → W.heap[b]? = W0.heap[b]?) {Sn0 : Nat → Prop} (hS : ∀ b, Sn0 b → W0.heap.size ≤ b ∧ b < W.heap.size) (cal : Frame) (rest : List Frame) {gs : Array Goroutine} {t : Trace} {qq : Nat → Nat} (i0 : gs[0]? = some (G (mkF 7 #[v, va, vb, .int .i64 (h : Nat), undef, undef, undef, undef, undef, undef, undef, undef, undef, undef, undef, undef, undef, undef, undef, undef, undef, undef, undef, undef, undef, undef, undef, undef, undef, undef, undef, undef, undef, undef, undef, undef, undef, undef, undef, undef, undef, undef, undef, undef, undef, undef, undef, undef, undef, undef, undef, undef, undef, undef, undef, undef, undef, undef, undef, undef, undef, undef, undef, undef, undef, undef, undef, undef, undef, undef, undef, undef] [.code bBody] .run) (cal :: rest))) (hq : Qs Try.prog Sn0 gs t qq 0 W.heap.size) (sl : Option (Nat × Nat)) :
    ∃ N gs' w' sl' t' q' hs, runNT Try.prog N (crowd gs W sl) t = (.next (crowd gs' w' sl'), t') ∧ gs'[0]? = some (G (cal.finish (.tuple #[.agg (hitV f n p la q lb (Tf.bk (plF f n p la q lb) (la * lb))), .int .i64 0])) rest) ∧ (∀ b, b < W.heap.size → ¬ Sn0 b → w'.heap[b]? = W.heap[b]?) ∧ w'.os = W.os ∧ w'.output = W.output ∧ W.heap.size ≤ hs ∧ hs + 6 ≤ w'.heap.size ∧ Qs Try.prog (fun b => Sn0 b ∨ b = hs + 4 ∨ b = hs + 5) gs' t' q' 0 w'.heap.size := by
  have hG : Try.prog.globals.size ≤ Fns.G := Nat.le_refl _
  obtain ⟨N1, gs1, w8, w1, sl1, t1, q1, E, wl, x, g, ya, yb, ca, cb, bb, b8, bs, hs, T, r1, hT, i1, k, Q1⟩ := best_join v va vb n la lb h f p q hn hf ha hb hh W0 W hv h1 h2 rv ra rb hag hS (cal :: rest) i0 hq sl
  have hsz := size_ag hag
  have hW8 := k.at8.size
  have hhs := k.hsz
  have hR : 1 ≤ la * lb ∧ la * lb ≤ 2209 := ⟨Nat.mul_pos ha.1 hb.1, Nat.mul_le_mul ha.2 hb.2⟩
  obtain ⟨xr, kr1, kr2⟩ := k.row
  have hcell : ∀ i, i < la * lb → xr[i]? = some (.int .i64 (plF f n p la q lb i : Nat)) := fun i hi => by
    have := k.cnt i hi
    rw [cell_of_row _ _ _ _ _ _ kr1] at this
    exact this
  have I1 : HI w1.heap w1.os w1.output w1 := ⟨rfl, rfl, rfl⟩
  -- to the loop of Max
  obtain ⟨mu, G2⟩ := to_max T g ya yb ca cb bb b8 bs h la lb (la * lb) hs (plF f n p la q lb 0) hR (cal :: rest) (fun b => Sn0 b ∨ b = hs + 4 ∨ b = hs + 5) w1.heap w1.os w1.output k.box ⟨xr, kr1, hcell 0 (by omega)⟩ (by rintro (e | e | e); have := (hS _ e).2; omega; omega; omega) (by rintro (e | e | e); have := (hS _ e).2; omega; omega; omega) w1 I1
  obtain ⟨N2, gs2, w2, sl2, t2, q2, g2, r2, z2, i2, ⟨rfl, I2⟩, Q2⟩ := beside_walk2 (sl := sl1) (fun w w' es h => h.1) (fun g w h => by rw [h.1]; rfl) i1 G2 Q1
  -- the ghost of what is left
  have low : ∀ b q s o, E b = some (q, s, o) → q < hs := fun b q s o e => by
    rcases k.at8.bl b q s o e with ⟨_, h3⟩ | ⟨_, h3, _⟩ <;> omega
  have notS : ∀ b q s o, E b = some (q, s, o) → ¬ Sn0 q := fun b q s o e hc => by
    have h5 := hS q hc
    rcases k.at8.bl b q s o e with ⟨_, h3⟩ | ⟨h3, _, _⟩ <;> omega
  have hwr : WR Try.prog E wl w2 := wr_move k.at8.wr fun b y e => by
    obtain ⟨q', s', o'⟩ := y
    rw [I2.1]
    exact k.old q' (low b q' s' o' e) (notS b q' s' o' e)
  have kr1' : w2.heap[hs]? = some (.cells xr 3 (0, 0)) := by rw [I2.1]; exact kr1
  have kbx' : w2.heap[hs + 1]? = some (.cells #[.slice (some ⟨hs, 0, none⟩) (la * lb) (la * lb)] 22 (0, 0)) := by rw [I2.1]; exact k.box
  obtain ⟨E1, c1, le1, ar1, cl1, in1⟩ := (Cq.of hwr k.at8.big).row no_type (s := 0) kr1' (fun b s' e => by have := low _ _ _ _ e; omega) (Array.ofFn fun i : Fin (la * lb) => .int .i64 (plF f n p la q lb i : Nat)) (fun i u hu => by
    obtain ⟨hi, rfl⟩ := Array.getElem?_eq_some_iff.1 hu
    simp only [Array.size_ofFn] at hi
    exact ⟨_, hcell i hi, by rw [Array.getElem_ofFn]; exact .int _ _⟩)
  obtain ⟨dF, hdF⟩ : ∃ dF, dF = wl.heap.size := ⟨_, rfl⟩
  rw [← hdF] at ar1 cl1 in1
  generalize wl.alloc (.cells (Array.ofFn fun i : Fin (la * lb) => .int .i64 (plF f n p la q lb i : Nat)) 1000000000 (0, (Array.ofFn fun i : Fin (la * lb) => Value.int .i64 (plF f n p la q lb i : Nat)).size)) = wl1 at c1 le1 cl1
  have sl0 : VR E1 (.slice (some ⟨dF, 0, none⟩) (la * lb) (la * lb)) (.slice (some ⟨hs, 0, none⟩) (la * lb) (la * lb)) := .slice _ _ (ar1 0)
  obtain ⟨E2, c2, le2, ar2, cl2, in2⟩ := c1.row no_type (s := 0) kbx' (fun b s' e => by
    rcases in1 _ _ _ _ e with ⟨_, h3, _⟩ | e'
    · omega
    · have := low _ _ _ _ e'
      omega) #[.slice (some ⟨dF, 0, none⟩) (la * lb) (la * lb)] (fun i u hu => by
    have hi : i = 0 := by have := (Array.getElem?_eq_some_iff.1 hu).1; simp at this; omega
    subst hi
    cases hu
    exact ⟨_, rfl, sl0⟩)
  obtain ⟨dB, hdB⟩ : ∃ dB, dB = wl1.heap.size := ⟨_, rfl⟩
  rw [← hdB] at ar2 cl2 in2
  have hB2 := cl2 0 _ rfl
  generalize wl1.alloc (.cells #[.slice (some ⟨dF, 0, none⟩) (la * lb) (la * lb)] 1000000000 (0, (#[Value.slice (some ⟨dF, 0, none⟩) (la * lb) (la * lb)] : Array Value).size)) = wl2 at c2 le2 hB2
  have hF2 : ∀ i, i < la * lb → wl2.cell? ⟨dF, i, none⟩ = some (.int .i64 (plF f n p la q lb i : Nat)) := fun i hi => le2.cell (cl1 i _ (by rw [Array.getElem?_eq_getElem (by simpa using hi), Array.getElem_ofFn]))
  obtain ⟨v', a1, k1, a2, k2, fx, bbl, b8l, ql, gp, ga, gb, ex, rb6, rb8, _⟩ := k.at8.fr
  have row2 : ∀ {b : Nat} {T : TypeId} {y : Array Value}, RowAt wl b T y → RowAt wl2 b T y := fun {b T y} hb => by
    have hlt : b < wl.heap.size := hb.lt
    show wl2.heap[b]? = _
    rw [le2.old b (Nat.lt_of_lt_of_le hlt le1.size), le1.old b hlt]
    exact hb
  have lr8 := k.at8.lr
  rw [ex] at lr8
  have v6 := ((lr8.at_ 6 _ _ rfl rfl).mono le1.le).mono le2.le
  have v8 := ((lr8.at_ 8 _ _ rfl rfl).mono le1.le).mono le2.le
  have c14 : VR E2 (.pointer (some ⟨dB, 0, none⟩)) (.pointer (some ⟨hs + 1, 0, none⟩)) := .ptr (ar2 0)
  have c0 := sl0.mono le2.le
  obtain ⟨jm, hm⟩ := junks E2 (fun i => (#[.slice (some ⟨hs, 0, none⟩) (la * lb) (la * lb), undef, .int .i64 0, .int .i64 (plF f n p la q lb 0 : Nat), undef, .slice (some ⟨hs, 0, none⟩) (la * lb) (la * lb), .int .i64 ((la * lb : Nat) : Int), .bool false, undef, .slice (some ⟨hs, 0, none⟩) (la * lb) (la * lb), .pointer (some ⟨hs, 0, none⟩), .int .i64 (plF f n p la q lb 0 : Nat), undef, undef, undef, undef, undef, undef, undef, undef, undef, undef, undef, undef, undef] : Array Value).getD i undef)
  obtain ⟨j, hj⟩ := junks E2 (fun i => (#[g 0, .slice ya la ca, g 2, .int .i64 (h : Nat), g 4, g 5, .pointer (some ⟨bb, 0, none⟩), g 7, .pointer (some ⟨b8, 0, none⟩), g 9, g 10, g 11, g 12, .pointer (some ⟨bs, 0, none⟩), .pointer (some ⟨hs + 1, 0, none⟩), g 15, g 16, g 17, g 18, g 19, g 20, g 21, g 22, g 23, g 24, g 25, g 26, g 27, g 28, g 29, g 30, g 31, g 32, g 33, g 34, g 35, g 36, g 37, g 38, g 39, g 40, g 41, g 42, g 43, g 44, g 45, .slice ya la ca, .int .i64 (la : Nat), .slice yb lb cb, .int .i64 (lb : Nat), .int .i64 ((la * lb : Nat) : Int), .slice (some ⟨hs, 0, none⟩) (la * lb) (la * lb), .int .i64 (h : Nat), .slice (some ⟨hs, 0, none⟩) (la * lb) (la * lb), .int .i64 ((la * lb : Nat) : Int), .func (.func 21) #[] #[.pointer (some ⟨bs, 0, none⟩), .pointer (some ⟨bb, 0, none⟩), .pointer (some ⟨hs + 1, 0, none⟩)], .tuple #[], .slice (some ⟨hs, 0, none⟩) (la * lb) (la * lb), g 58, g 59, g 60, g 61, g 62, g 63, g 64, g 65, g 66, g 67, g 68, g 69, g 70, g 71] : Array Value).getD i undef)
  have lM : LR E2 #[.slice (some ⟨dF, 0, none⟩) (la * lb) (la * lb), jm 1, jm 2, .int .i64 (plF f n p la q lb 0 : Nat), jm 4, jm 5, jm 6, jm 7, jm 8, jm 9, jm 10, jm 11, jm 12, jm 13, jm 14, jm 15, jm 16, jm 17, jm 18, jm 19, jm 20, jm 21, jm 22, jm 23, jm 24] #[.slice (some ⟨hs, 0, none⟩) (la * lb) (la * lb), undef, .int .i64 0, .int .i64 (plF f n p la q lb 0 : Nat), undef, .slice (some ⟨hs, 0, none⟩) (la * lb) (la * lb), .int .i64 ((la * lb : Nat) : Int), .bool false, undef, .slice (some ⟨hs, 0, none⟩) (la * lb) (la * lb), .pointer (some ⟨hs, 0, none⟩), .int .i64 (plF f n p la q lb 0 : Nat), undef, undef, undef, undef, undef, undef, undef, undef, undef, undef, undef, undef, undef] := (lr_cons c0 (lr_cons (hm 1) (lr_cons (hm 2) (lr_cons (.int _ _) (lr_cons (hm 4) (lr_cons (hm 5) (lr_cons (hm 6) (lr_cons (hm 7) (lr_cons (hm 8) (lr_cons (hm 9) (lr_cons (hm 10) (lr_cons (hm 11) (lr_cons (hm 12) (lr_cons (hm 13) (lr_cons (hm 14) (lr_cons (hm 15) (lr_cons (hm 16) (lr_cons (hm 17) (lr_cons (hm 18) (lr_cons (hm 19) (lr_cons (hm 20) (lr_cons (hm 21) (lr_cons (hm 22) (lr_cons (hm 23) (lr_cons (hm 24) (lr_nil))))))))))))))))))))))))))
  have lB : LR E2 #[j 0, j 1, j 2, j 3, j 4, j 5, .pointer (some ⟨bbl, 0, none⟩), j 7, .pointer (some ⟨b8l, 0, none⟩), j 9, j 10, j 11, j 12, j 13, .pointer (some ⟨dB, 0, none⟩), j 15, j 16, j 17, j 18, j 19, j 20, j 21, j 22, j 23, j 24, j 25, j 26, j 27, j 28, j 29, j 30, j 31, j 32, j 33, j 34, j 35, j 36, j 37, j 38, j 39, j 40, j 41, j 42, j 43, j 44, j 45, j 46, j 47, j 48, j 49, j 50, j 51, j 52, j 53, j 54, j 55, j 56, j 57, j 58, j 59, j 60, j 61, j 62, j 63, j 64, j 65, j 66, j 67, j 68, j 69, j 70, j 71] #[g 0, .slice ya la ca, g 2, .int .i64 (h : Nat), g 4, g 5, .pointer (some ⟨bb, 0, none⟩), g 7, .pointer (some ⟨b8, 0, none⟩), g 9, g 10, g 11, g 12, .pointer (some ⟨bs, 0, none⟩), .pointer (some ⟨hs + 1, 0, none⟩), g 15, g 16, g 17, g 18, g 19, g 20, g 21, g 22, g 23, g 24, g 25, g 26, g 27, g 28, g 29, g 30, g 31, g 32, g 33, g 34, g 35, g 36, g 37, g 38, g 39, g 40, g 41, g 42, g 43, g 44, g 45, .slice ya la ca, .int .i64 (la : Nat), .slice yb lb cb, .int .i64 (lb : Nat), .int .i64 ((la * lb : Nat) : Int), .slice (some ⟨hs, 0, none⟩) (la * lb) (la * lb), .int .i64 (h : Nat), .slice (some ⟨hs, 0, none⟩) (la * lb) (la * lb), .int .i64 ((la * lb : Nat) : Int), .func (.func 21) #[] #[.pointer (some ⟨bs, 0, none⟩), .pointer (some ⟨bb, 0, none⟩), .pointer (some ⟨hs + 1, 0, none⟩)], .tuple #[], .slice (some ⟨hs, 0, none⟩) (la * lb) (la * lb), g 58, g 59, g 60, g 61, g 62, g 63, g 64, g 65, g 66, g 67, g 68, g 69, g 70, g 71] := (lr_cons (hj 0) (lr_cons (hj 1) (lr_cons (hj 2) (lr_cons (hj 3) (lr_cons (hj 4) (lr_cons (hj 5) (lr_cons v6 (lr_cons (hj 7) (lr_cons v8 (lr_cons (hj 9) (lr_cons (hj 10) (lr_cons (hj 11) (lr_cons (hj 12) (lr_cons (hj 13) (lr_cons c14 (lr_cons (hj 15) (lr_cons (hj 16) (lr_cons (hj 17) (lr_cons (hj 18) (lr_cons (hj 19) (lr_cons (hj 20) (lr_cons (hj 21) (lr_cons (hj 22) (lr_cons (hj 23) (lr_cons (hj 24) (lr_cons (hj 25) (lr_cons (hj 26) (lr_cons (hj 27) (lr_cons (hj 28) (lr_cons (hj 29) (lr_cons (hj 30) (lr_cons (hj 31) (lr_cons (hj 32) (lr_cons (hj 33) (lr_cons (hj 34) (lr_cons (hj 35) (lr_cons (hj 36) (lr_cons (hj 37) (lr_cons (hj 38) (lr_cons (hj 39) (lr_cons (hj 40) (lr_cons (hj 41) (lr_cons (hj 42) (lr_cons (hj 43) (lr_cons (hj 44) (lr_cons (hj 45) (lr_cons (hj 46) (lr_cons (hj 47) (lr_cons (hj 48) (lr_cons (hj 49) (lr_cons (hj 50) (lr_cons (hj 51) (lr_cons (hj 52) (lr_cons (hj 53) (lr_cons (hj 54) (lr_cons (hj 55) (lr_cons (hj 56) (lr_cons (hj 57) (lr_cons (hj 58) (lr_cons (hj 59) (lr_cons (hj 60) (lr_cons (hj 61) (lr_cons (hj 62) (lr_cons (hj 63) (lr_cons (hj 64) (lr_cons (hj 65) (lr_cons (hj 66) (lr_cons (hj 67) (lr_cons (hj 68) (lr_cons (hj 69) (lr_cons (hj 70) (lr_cons (hj 71) (lr_nil)))))))))))))))))))))))))))))))))))))))))))))))))))))))))))))))))))))))))
  have hplF : ∀ k, plF f n p la q lb k ≤ 65537 := fun k => Nat.le_trans (Tf.cn_le _ _) (by omega)
  have hin : InCall Try.prog (fun u _ => u = .tuple #[.agg (hitV f n p la q lb (Tf.bk (plF f n p la q lb) (la * lb))), .int .i64 0]) (cal :: rest) E2 _ wl2 (G (mkF 23 #[.slice (some ⟨hs, 0, none⟩) (la * lb) (la * lb), undef, .int .i64 0, .int .i64 (plF f n p la q lb 0 : Nat), undef, .slice (some ⟨hs, 0, none⟩) (la * lb) (la * lb), .int .i64 ((la * lb : Nat) : Int), .bool false, undef, .slice (some ⟨hs, 0, none⟩) (la * lb) (la * lb), .pointer (some ⟨hs, 0, none⟩), .int .i64 (plF f n p la q lb 0 : Nat), undef, undef, undef, undef, undef, undef, undef, undef, undef, undef, undef, undef, undef] [.code (restAt 3 mxBody)] .run) (mkF 7 #[g 0, .slice ya la ca, g 2, .int .i64 (h : Nat), g 4, g 5, .pointer (some ⟨bb, 0, none⟩), g 7, .pointer (some ⟨b8, 0, none⟩), g 9, g 10, g 11, g 12, .pointer (some ⟨bs, 0, none⟩), .pointer (some ⟨hs + 1, 0, none⟩), g 15, g 16, g 17, g 18, g 19, g 20, g 21, g 22, g 23, g 24, g 25, g 26, g 27, g 28, g 29, g 30, g 31, g 32, g 33, g 34, g 35, g 36, g 37, g 38, g 39, g 40, g 41, g 42, g 43, g 44, g 45, .slice ya la ca, .int .i64 (la : Nat), .slice yb lb cb, .int .i64 (lb : Nat), .int .i64 ((la * lb : Nat) : Int), .slice (some ⟨hs, 0, none⟩) (la * lb) (la * lb), .int .i64 (h : Nat), .slice (some ⟨hs, 0, none⟩) (la * lb) (la * lb), .int .i64 ((la * lb : Nat) : Int), .func (.func 21) #[] #[.pointer (some ⟨bs, 0, none⟩), .pointer (some ⟨bb, 0, none⟩), .pointer (some ⟨hs + 1, 0, none⟩)], .tuple #[], .slice (some ⟨hs, 0, none⟩) (la * lb) (la * lb), g 58, g 59, g 60, g 61, g 62, g 63, g 64, g 65, g 66, g 67, g 68, g 69, g 70, g 71] [.inRegion bO10 [1, 2], .code (restAt 8 bBody)] .run :: cal :: rest)) w2 := InCall.mids ⟨_, Try.func23⟩ lM c2.wr c2.big mx_item (.cons ⟨_, Try.func7⟩ lB bt_item .base) (fun τ => by
    refine reach_then (reach_code Try.func23 (max_rest jm dF (la * lb) (plF f n p la q lb) hR hplF (wl2.tp τ) hF2)) ?_
    rintro u w3 ⟨rfl, hbe⟩
    rw [finish_mk]
    have hlow : ∀ {b : Nat} {T : TypeId} {y : Array Value}, RowAt wl b T y → RowAt w3 b T y := fun {b T y} hb => RowAt.below (show RowAt (wl2.tp τ) b T y from row2 hb) hbe (show b < (wl2.tp τ).heap.size from (row2 hb).lt)
    obtain ⟨n', fr', w', u', s1, s2, s3⟩ := reach_region (cs := [trap Try.prog]) Try.func7 (best_tail j dF dB bbl b8l lb (la * lb) (some a2) k2 (plF f n p la q lb) hR hb hplF w3 (fun i hi => (hbe.cell (p := ⟨dF, i, none⟩) (cell_block (hF2 i hi))).trans (hF2 i hi)) ((hbe.cell (p := ⟨dB, 0, none⟩) (cell_block hB2)).trans hB2) (hlow rb6) (hlow rb8))
    exact ⟨n', fr', w', u', s1, s2, s3⟩)
  have in3 : ∀ b q s o, E2 b = some (q, s, o) → (q ≤ hs + 1 ∧ ¬ Sn0 q) ∧ (o = true → E b = some (q, s, true)) := fun b q s o e => by
    rcases in2 _ _ _ _ e with ⟨_, h3, _, h4⟩ | e'
    · exact ⟨⟨by omega, fun hc => by have := (hS _ hc).2; omega⟩, fun h5 => by rw [h4] at h5; cases h5⟩
    · rcases in1 _ _ _ _ e' with ⟨_, h3, _, h4⟩ | e''
      · exact ⟨⟨by omega, fun hc => by have := (hS _ hc).2; omega⟩, fun h5 => by rw [h4] at h5; cases h5⟩
      · exact ⟨⟨by have := low _ _ _ _ e''; omega, notS _ _ _ _ e''⟩, fun h5 => by rw [h5] at e''; exact e''⟩
  obtain ⟨N3, gs3, w3, sl3, t3, q3, E3, u, u', wl3, r3, z3, i3, rfl, vr, wr3, fc3, Q3⟩ := beside_call2 (sl := sl2) hG tf_fnsCode (fun b y e hs' => by
    obtain ⟨q', s', o'⟩ := y
    have h5 := (in3 b q' s' o' e).1
    rcases (show Sn0 q' ∨ q' = hs + 4 ∨ q' = hs + 5 from hs') with e1 | e1 | e1
    · exact h5.2 e1
    · omega
    · omega) (fun b hb => by
    have := k.size
    rw [I2.1]
    rcases hb with e1 | e1 | e1
    · have := (hS _ e1).2
      omega
    · omega
    · omega) i2 hin Q2
  obtain rfl := vr_hit vr
  refine ⟨N1 + (N2 + N3), gs3, w3, sl3, t3, q3, hs, ?_, i3, fun b hb hne => ?_, ?_, ?_, by omega, ?_, Q3⟩
  · rw [runNT_add, r1]
    show runNT Try.prog (N2 + N3) (crowd gs1 w1 sl1) t1 = _
    rw [runNT_add, r2]
    exact r3
  · have hlt : b < w2.heap.size := by
      have := k.size
      rw [I2.1]
      omega
    rw [fc3.keep b hlt (fun b' s' e => by
      have e' := (in3 b' b s' true e).2 rfl
      rcases k.at8.bl b' b s' true e' with ⟨h3, _⟩ | ⟨h3, _⟩
      · cases h3
      · omega), I2.1, k.old b (by omega) hne, k.at8.kept b hb]
  · exact fc3.os.trans (I2.2.1.trans k.env.1)
  · exact fc3.output.trans (I2.2.2.trans k.env.2)
  · have h3 := fc3.size
    have h4 := k.size
    rw [I2.1] at h3
    omega
end Go.Proofs.Ytpdemelchhkfaaa.Cs

/-
  tele.Best and the document's Best where something is wrong: alone; the end of a run beside goroutines that only leave.
-/
namespace Go.Proofs.Ytpdemelchhkfaaa
open Go.RowKit PK Tl
theorem whE_cs (l : Nat) : whE l = 0 ∨ whE l = 3 := by unfold whE; split <;> simp
theorem srE_cs (la lb : Nat) (h : Int) : srE la lb h = 0 ∨ srE la lb h = 3 := by
  unfold srE
  split
  · exact .inr rfl
  · split
    · exact .inr rfl
    · split
      · exact .inr rfl
      · exact .inl rfl
set_option maxRecDepth 100000 in
set_option maxHeartbeats 4000000 in
theorem pbest_bad (v va vb : Value) (n la lb : Nat) (h : Int) (f : Nat → Int) (p q : Nat → Bool) (hE : beE n f la lb h ≠ 0) (w : World) (hv : NumsAt w v n f) (h1 : PinsAt w va la p) (h2 : PinsAt w vb lb q) :
    Calls Try.prog 7 #[v, va, vb, .int .i64 h] w fun e w' => e = .returned (.tuple #[.agg #[.int .i64 0, .int .i64 0, .int .i64 0], .int .i64 (beE n f la lb h)]) ∧ Below w.heap.size w w' := by
  obtain ⟨a2, k2, rfl, l2, _⟩ := h2
  obtain ⟨a1, k1, rfl, l1, _⟩ := h1
  have hz := tf_zero (P := Try.prog) tf_zero_hit
  have HS : Hid (∀ W, Calls Try.prog 17 #[.slice a1 la k1, .slice a2 lb k2, .int .i64 h] W fun e w' => e = .returned (.int .i64 (srE la lb h)) ∧ W = w') := fun W => psrw_any a1 a2 la lb k1 k2 h W l1 l2
  have HB : Hid (faE n f ≠ 0 → ∀ W, Below w.heap.size w W → Calls Try.prog 16 #[v] W fun e w' => e = .returned (.tuple #[.slice none 0 0, .int .i64 (faE n f)]) ∧ Below W.heap.size W w') := fun h0 W hW => pdl_bad v n f h0 W (hv.below hW)
  have HO : Hid (faE n f = 0 → ∀ W, Below w.heap.size w W → Calls Try.prog 16 #[v] W fun e w' => ∃ g, e = .returned (.tuple #[.slice (some ⟨g, 0, none⟩) (n - 1) (n - 1), .int .i64 0]) ∧ RowAt w' g 3 (ints (n - 1) (dlN f)) ∧ Below W.heap.size W w') := fun h0 W hW => pdl_ok v n f h0 W (hv.below hW)
  obtain ⟨a0, c0, rfl, _⟩ := hv
  have hx1 := RowAt.new w 24 #[.slice a2 lb k2]
  have hx2 := hx1.alloc (.cells #[.int .i64 0, .int .i64 0, .int .i64 0] 26)
  have hx3 := RowAt.new (w.alloc (.cells #[.slice a2 lb k2] 24)) 26 #[.int .i64 0, .int .i64 0, .int .i64 0]
  have hbl := ((Below.refl w.heap.size w).alloc (Nat.le_refl _) (.cells #[.slice a2 lb k2] 24)).alloc (by simp) (.cells #[.int .i64 0, .int .i64 0, .int .i64 0] 26)
  rw [show (w.alloc (.cells #[.slice a2 lb k2] 24)).heap.size = w.heap.size + 1 by simp] at hx3
  have HEE : Hid (beE n f la lb h = if faE n f ≠ 0 then faE n f else srE la lb h) := rfl
  obtain ⟨BE, hBE⟩ : ∃ x, x = beE n f la lb h := ⟨_, rfl⟩
  rw [← hBE] at HEE hE ⊢
  clear hBE
  generalize faE n f = FE at *
  have hcs := srE_cs la lb h
  generalize srE la lb h = SE at *
  clear hx1
  go_enter Try.func7, Try.ntmps7
  go_upto_region 1 with fail
  generalize (w.alloc (.cells #[.slice a2 lb k2] 24)).alloc (.cells #[.int .i64 0, .int .i64 0, .int .i64 0] 26) = W1 at *
  by_cases h0 : FE = 0
  · subst h0
    have HX : Hid (BE = SE) := HEE.out.trans (if_neg (by simp))
    have hse : SE = 3 := by
      rcases hcs with e | e
      · exact absurd (HX.out.trans e) hE
      · exact e
    have HO2 := (show Hid (∀ W, Below w.heap.size w W → Calls Try.prog 16 #[.slice a0 n c0] W fun e w' => ∃ g, e = .returned (.tuple #[.slice (some ⟨g, 0, none⟩) (n - 1) (n - 1), .int .i64 0]) ∧ RowAt w' g 3 (ints (n - 1) (dlN f)) ∧ Below W.heap.size W w') from HO.out rfl)
    clear HB HO HEE hE hcs
    go_wp2_with fail
    refine Calls.mono (HO2.out _ hbl) ?_
    rintro e Y ⟨g, rfl, _, hY⟩
    have hx4 := hx2.below hY hx2.lt
    have hx5 := hx3.below hY hx3.lt
    have HY : Hid (Below w.heap.size w Y) := hbl.trans (hY.mono hbl.size)
    have cbx := hx4.cell (i := 0) rfl
    clear HO2 hx2 hx3 hbl hY
    go_wp2_with fail
    refine Calls.mono (HS.out _) ?_
    rintro e Y' ⟨rfl, rfl⟩
    subst hse
    have d0 := hx5.cell (i := 0) rfl
    have d1 := hx5.cell (i := 1) rfl
    have d2 := hx5.cell (i := 2) rfl
    have f0 := hx5.frozen 0
    have f1 := hx5.frozen 1
    have f2 := hx5.frozen 2
    have HX5 := (show Hid (RowAt Y (w.heap.size + 1) 26 #[.int .i64 0, .int .i64 0, .int .i64 0]) from hx5)
    clear HS hx4 hx5
    go_wp2
    exact bodyPost_ret (v := .tuple #[.agg #[.int .i64 0, .int .i64 0, .int .i64 0], .int .i64 3]) (tf_cell_tmp2 rfl _ _ (w.heap.size + 1) 26 _ (0, 0) _ _ rfl rfl (((HX5.out.set 0 (.int .i64 0)).set 1 (.int .i64 0)).set 2 (.int .i64 0)) Try.underlying26 rfl tf_info_hit) rfl ⟨by rw [HX.out], ((HY.out.setCell (p := ⟨w.heap.size + 1, 0, none⟩) (Nat.le_succ _) _).setCell (p := ⟨w.heap.size + 1, 1, none⟩) (Nat.le_succ _) _).setCell (p := ⟨w.heap.size + 1, 2, none⟩) (Nat.le_succ _) _⟩
  · have HX : Hid (BE = FE) := HEE.out.trans (if_pos h0)
    have HB2 := (show Hid (∀ W, Below w.heap.size w W → Calls Try.prog 16 #[.slice a0 n c0] W fun e w' => e = .returned (.tuple #[.slice none 0 0, .int .i64 FE]) ∧ Below W.heap.size W w') from HB.out h0)
    have hb0 : (FE != 0) = true := by simpa using h0
    clear HB HO HEE hE hcs HS
    go_wp2_with fail
    refine Calls.mono (HB2.out _ hbl) ?_
    rintro e Y ⟨rfl, hY⟩
    have hx5 := hx3.below hY hx3.lt
    have HY : Hid (Below w.heap.size w Y) := hbl.trans (hY.mono hbl.size)
    have d0 := hx5.cell (i := 0) rfl
    have d1 := hx5.cell (i := 1) rfl
    have d2 := hx5.cell (i := 2) rfl
    have f0 := hx5.frozen 0
    have f1 := hx5.frozen 1
    have f2 := hx5.frozen 2
    have HX5 := (show Hid (RowAt Y (w.heap.size + 1) 26 #[.int .i64 0, .int .i64 0, .int .i64 0]) from hx5)
    clear HB2 hx2 hx3 hbl hY hx5
    go_wp2
    exact bodyPost_ret (v := .tuple #[.agg #[.int .i64 0, .int .i64 0, .int .i64 0], .int .i64 FE]) (tf_cell_tmp2 rfl _ _ (w.heap.size + 1) 26 _ (0, 0) _ _ rfl rfl (((HX5.out.set 0 (.int .i64 0)).set 1 (.int .i64 0)).set 2 (.int .i64 0)) Try.underlying26 rfl tf_info_hit) rfl ⟨by rw [HX.out], ((HY.out.setCell (p := ⟨w.heap.size + 1, 0, none⟩) (Nat.le_succ _) _).setCell (p := ⟨w.heap.size + 1, 1, none⟩) (Nat.le_succ _) _).setCell (p := ⟨w.heap.size + 1, 2, none⟩) (Nat.le_succ _) _⟩
end Go.Proofs.Ytpdemelchhkfaaa
