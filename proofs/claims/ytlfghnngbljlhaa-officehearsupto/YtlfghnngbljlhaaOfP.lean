/-
  Contract of plain.Office (chapter 16).
-/
import Derived.Test.YtlfghnngbljlhaaOfQ
import Derived.Test.YtlfghnngbljlhaaClK
import Derived.Deep.DeepCutAuto
namespace Go.Proofs.Ytlfghnngbljlhaa
open Go.RowKit PK Pd

/-- An office at work, and what was seen of it. -/
structure PoS (w W : World) (q g o : Nat) (n : Int) (vs v : Value) (P : Nat) (p : Nat → Int) (D : Nat) (d : Nat → Int) (s : Oc.St) (Z : Nat → Oc.Sn) (k : Nat) (R : Nat → Value) : Prop where
  below : Below w.heap.size w W
  of : OfSt W q g o n vs P p D d s
  q1 : w.heap.size ≤ q
  g1 : w.heap.size ≤ g
  o1 : w.heap.size ≤ o
  vo : Old W vs
  out : OutS W w.heap.size ([q, g, o] ++ ob vs) v Z k R
section
variable {w W W' : World} {q g o P D k : Nat} {n : Int} {vs v : Value} {p d : Nat → Int} {s s' : Oc.St} {Z : Nat → Oc.Sn} {R : Nat → Value}
theorem PoS.lt (h : PoS w W q g o n vs v P p D d s Z k R) : ∀ x, x ∈ [q, g, o] ++ ob vs → x < W.heap.size := fun x hx => by
  have h1 := h.of.dk.lt
  have h2 := h.of.row.lt
  rcases List.mem_append.1 hx with h3 | h3
  · simp at h3
    omega
  · exact h.vo x (mem_ob.1 h3)
theorem PoS.step (h : PoS w W q g o n vs v P p D d s Z k R) (hb : Below W.heap.size W W') : PoS w W' q g o n vs v P p D d s Z k R :=
  ⟨h.below.trans (hb.mono h.below.size), h.of.below hb, h.q1, h.g1, h.o1, fun b e => Nat.lt_of_lt_of_le (h.vo b e) hb.size, h.out.below hb⟩
theorem PoS.alloc (h : PoS w W q g o n vs v P p D d s Z k R) (ob : Obj) : PoS w (W.alloc ob) q g o n vs v P p D d s Z k R := h.step ((Below.refl _ _).alloc (Nat.le_refl _) ob)
/-- The office did something. -/
theorem PoS.turned (h : PoS w W q g o n vs v P p D d s Z k R) (ho : OfSt W' q g o n vs P p D d s') (hf : Fr [q, g, o] W W') : PoS w W' q g o n vs v P p D d s' Z k R := by
  have h1 := h.q1
  have h2 := h.g1
  have h3 := h.o1
  exact ⟨hf.below h.below h.below.size (fun k hk => by simp at hk; omega), ho, h.q1, h.g1, h.o1, fun b e => Nat.lt_of_lt_of_le (h.vo b e) hf.size, h.out.fr hf (fun x hx => .inl (List.mem_append_left _ hx))⟩
/-- Something else changed, that is new. -/
theorem PoS.other {b : Nat} (h : PoS w W q g o n vs v P p D d s Z k R) (hf : Fr [b] W W') (hb : w.heap.size ≤ b) (hx : b ∉ [q, g, o] ++ ob vs) (hv : v.ownBlock ≠ some b) (hR : ∀ i, i < k → 0 < (Z i).tn → (R i).ownBlock ≠ some b) : PoS w W' q g o n vs v P p D d s Z k R := by
  rw [List.mem_append, not_or] at hx
  refine ⟨hf.below h.below h.below.size (fun k hk => by simp at hk; omega), h.of.fr hf (fun k hk e => ?_) (fun h0 c hc e => ?_), h.q1, h.g1, h.o1, fun b e => Nat.lt_of_lt_of_le (h.vo b e) hf.size, ⟨hf.own h.out.own (fun c e hc => ?_), fun i hi => hf.nums (h.out.rows i hi) (fun h0 c e hc => ?_), h.out.ne, h.out.nr⟩⟩
  · simp only [List.mem_singleton] at e
    subst e
    exact hx.1 hk
  · simp only [List.mem_singleton] at e
    subst e
    exact hx.2 (mem_ob.2 hc)
  · simp only [List.mem_singleton] at hc
    subst hc
    exact hv e
  · simp only [List.mem_singleton] at hc
    subst hc
    exact hR i hi h0 e
/-- It is opened anew. -/
theorem PoS.opened {o' : Nat} {vs' : Value} (h : PoS w W q g o n vs v P p D d s Z k R) (ho : OfSt W' q g o' n vs' P p D d s') (hb : Below W.heap.size W W') (h1 : W.heap.size ≤ o') (h2 : New W vs') (h3 : Old W' vs') : PoS w W' q g o' n vs' v P p D d s' Z k R := by
  have hs := h.below.size
  refine ⟨h.below.trans (hb.mono h.below.size), ho, h.q1, h.g1, by omega, h3, (h.out.relist (fun x hx => ?_)).below hb⟩
  rcases List.mem_append.1 hx with h4 | h4
  · simp at h4
    rcases h4 with rfl | rfl | rfl
    · exact .inl (by simp)
    · exact .inl (by simp)
    · exact .inr h1
  · exact .inr (h2 x (mem_ob.1 h4))
/-- The power. -/
theorem PoS.power (h : PoS w W q g o n vs v P p D d s Z k R) (l : Int) : PoS w (W.setCell ⟨q, 1, none⟩ (.int .i64 l)) q g o n vs v P p D d ⟨s.a, s.b, l, s.dd⟩ Z k R := by
  have hf : Fr [q, g] W (W.setCell ⟨q, 1, none⟩ (.int .i64 l)) := Fr.set _ _ 1 _ (by simp)
  exact h.turned (s' := ⟨s.a, s.b, l, s.dd⟩) (OfAt.disk (d' := Oc.dk d s) h.of (h.of.dk.left l) hf) (hf.mono (fun k hk => by simp at hk ⊢; omega))
theorem PoS.v_ne (h : PoS w W q g o n vs v P p D d s Z k R) {b : Nat} (hb : W.heap.size ≤ b) : v.ownBlock ≠ some b := fun e => by
  have := (World.ownsRow.lt h.out.own b e).2
  omega
theorem PoS.r_ne (h : PoS w W q g o n vs v P p D d s Z k R) {b : Nat} (hb : W.heap.size ≤ b) : ∀ i, i < k → 0 < (Z i).tn → (R i).ownBlock ≠ some b := fun i hi h0 e => by
  have := nums_lt (h.out.rows i hi) h0 e
  omega
theorem PoS.l_ne (h : PoS w W q g o n vs v P p D d s Z k R) {b : Nat} (hb : W.heap.size ≤ b) : b ∉ [q, g, o] ++ ob vs := fun e => by
  have := h.lt b e
  omega
/-- One more is seen. -/
theorem PoS.push (h : PoS w W q g o n vs v P p D d s Z k R) {r : Value} (hr : NumsAt W r (Z k).tn (Z k).tf) (hrl : 0 < (Z k).tn → ∀ b, r.ownBlock = some b → b ∉ [q, g, o] ++ ob vs ∧ v.ownBlock ≠ some b) {oj : Obj} {v5 : Value} {w5 : World}
    (hown : w5.ownsRow w.heap.size 32 5 v5 (k + 1) (sel Z R k ++ (sec (Z k) r).toList)) (hg : (W.alloc oj).grownBy w5 v.ownBlock) (hat : v5.ownBlock = v.ownBlock ∨ v5.ownBlock = some (W.alloc oj).heap.size) : PoS w w5 q g o n vs v5 P p D d s Z (k + 1) (fun i => if i = k then r else R i) := by
  have ha := h.alloc oj
  have hf := Fr.of_own hg
  have hne := h.out.ne
  refine ⟨hf.below ha.below ha.below.size (fun x hx => (World.ownsRow.lt h.out.own x (mem_ob.1 hx)).1), ha.of.fr hf (fun x hx e => hne x (mem_ob.1 e) (List.mem_append_left _ hx)) (fun h0 b hb e => hne b (mem_ob.1 e) (List.mem_append_right _ (mem_ob.2 hb))), h.q1, h.g1, h.o1, fun b e => Nat.lt_of_lt_of_le (ha.vo b e) hf.size, h.out.push h.lt hr hrl hown hg hat⟩
end
set_option maxRecDepth 100000 in
set_option maxHeartbeats 8000000 in
theorem office_ok (n : Int) (vp vw vc : Value) (P : Nat) (p : Nat → Int) (D : Nat) (d : Nat → Int) (K : Nat) (X : Nat → Oc.Sp) (w : World) (hp : NumsAt w vp P p) (hw : NumsAt w vw D d) (hc : StpAt w vc K X) (hD : D * 8 ≤ 140737488355328) (hK : (K + K / 4 + 192) * 56 ≤ 281474976710656) (hE : Oc.opE n P p D = 0) : Calls Try.prog 6 #[.int .i64 n, vp, vw, vc] w fun e w' => ∃ v u, e = .returned (.tuple #[v, u, .bool true]) ∧ SenAt w' v K (Oc.seen n P p D X (Oc.s0 d)) ∧ NumsAt w' u D (Oc.last n P p D d X K) ∧ Below w.heap.size w w' := by
  obtain ⟨hn1, hn2, hpi, hP, hD2⟩ := Oc.opE_zero hE
  obtain ⟨i0, hi0, hz0, hz1, hz2⟩ := x_info_parts g_info_64
  obtain ⟨j0, hj0, hy0, hy1, hy2⟩ := x_info_parts s_all_sen
  have HSN : Hid (Oc.seen n P p D X (Oc.s0 d) = fun k => Oc.sn n P p (Oc.at' n P p X (Oc.s0 d) k) (X k)) := by funext k; unfold Oc.seen; rw [if_pos hE]
  have HLT : Hid (Oc.last n P p D d X K = Oc.dk d (Oc.at' n P p X (Oc.s0 d) K)) := by unfold Oc.last; rw [Hid, if_pos hE]
  rw [HSN.out, HLT.out]
  obtain ⟨A, hA⟩ : ∃ A, A = Oc.at' n P p X (Oc.s0 d) := ⟨_, rfl⟩
  have HA1 : Hid (∀ k, A (k + 1) = Oc.nx n P p (Oc.pre (A k) (X k)) (X k)) := fun k => by rw [hA]; rfl
  obtain ⟨Z, hZ⟩ : ∃ Z : Nat → Oc.Sn, Z = fun k => Oc.sn n P p (Oc.at' n P p X (Oc.s0 d) k) (X k) := ⟨_, rfl⟩
  have HZA : Hid (∀ k, Z k = Oc.sn n P p (A k) (X k)) := fun k => by rw [hZ, hA]
  have HA0 : Hid (A 0 = Oc.s0 d) := by rw [hA]; rfl
  rw [← hZ, ← hA]
  clear hZ hA HSN HLT
  obtain ⟨ad, cw, rfl, hmw⟩ : ∃ ad cap, vw = .slice (some ad) D cap ∧ D ≤ maxLen := by
    obtain ⟨b, o, cap, e, hm, _⟩ := hw.form (by omega)
    exact ⟨_, cap, e, hm⟩
  have HNW := (show Hid (∀ W, Below w.heap.size w W → ∀ j u, (ints D d).toList[j]? = some u → W.cell? (ad.add j) = some u) from nums_list hw)
  have HON := (show Hid (∀ u ∈ (ints D d).toList, u.oneCell' = true) from ints_ones D d)
  have how : (w.alloc (.cells #[] 2)).ownsRow w.heap.size 2 1 (.slice (some ⟨w.heap.size, 0, none⟩) 0 0) 0 [] := f_own_full (RowAt.new w 2 #[]) (Nat.le_refl _) rfl (by decide)
  have hb1 := (Below.refl w.heap.size w).alloc (Nat.le_refl _) (.cells #[] 2)
  have HPP : Hid (NumsAt w vp P p) := hp
  have HCC : Hid (StpAt w vc K X) := hc
  have HOP : Hid (∀ W q g lf (d : Nat → Int), Below w.heap.size w W → DkAt W q g D d lf → Calls Try.prog 10 #[.int .i64 n, vp, .iface 42 (.pointer (some ⟨q, 0, none⟩))] W fun e w' => (∃ o vs, e = .returned (.tuple #[.pointer (some ⟨o, 0, none⟩), .int .i64 0]) ∧ OfAt w' q g o n vs P p D d lf false ∧ W.heap.size ≤ o ∧ New W vs ∧ Old w' vs) ∧ Below W.heap.size W w') := fun W q g lf d hb hd => (oopen_any hd (hp.below hb)).mono fun e w' h => by
    refine ⟨?_, h.2⟩
    rcases h.1 with ⟨_, h2⟩ | ⟨h2, _⟩
    · exact h2
    · exact absurd hE h2
  obtain ⟨ap, cp, rfl, hmp⟩ := hp.len
  obtain ⟨ac, cc, R0, rfl, hmc, hrc, hnc⟩ := hc
  unfold maxLen at hmw hmp hmc
  have HRC := (show Hid (∀ i, i < K → ∃ b o, ac = some ⟨b, o, none⟩ ∧ w.rangeAt b (o + i * 6) (stc (X i) (R0 i)).toList) from hrc)
  have HNC := (show Hid (∀ i, i < K → NumsAt w (R0 i) (X i).tn (X i).tf) from hnc)
  clear hw hp hrc hnc hE hpi
  go_enter Try.func6, Try.ntmps6
  go_wp2_with (first | (at_builtin; refine wpList_append_own _ rfl _ _ 23 rfl w.heap.size 2 i0 (.int .i64 0) 1 8 Try.underlying23 hi0 hz0 hz1 hz2 rfl (by decide) _ _ _ rfl how ad D cw (ints D d).toList rfl (by rw [Array.length_toList, ints_size, Nat.mul_one]) (HNW.out _ hb1) HON.out (by unfold maxLen; omega) (by omega) (by simp) ?_; intro v' w1 hown' hgrow hnil; rw [Nat.zero_add, List.nil_append] at hown'; have hbw := hb1.grown hgrow (by simp) (fun p hp => (World.ownsRow.lt how p hp).1); obtain ⟨g, cap', cur, rfl, hBg, hrg, hcg, _⟩ := own_words hown' (fun e => absurd (hnil.1 e).2 (by omega)); clear how hown' hgrow hnil))
  have hdk : DkAt (w1.alloc (.cells #[.slice (some ⟨g, 0, none⟩) D cap', .int .i64 (-1), .bool false] 44)) w1.heap.size g D d (-1) := ⟨⟨cap', cur, RowAt.new w1 _ _, hrg.alloc _, hcg, by unfold maxLen; omega⟩, by have := hrg.lt; omega⟩
  have hq1 := hbw.size
  have hbq := hbw.alloc hq1 (.cells #[.slice (some ⟨g, 0, none⟩) D cap', .int .i64 (-1), .bool false] 44)
  have hzq : (w1.alloc (.cells #[.slice (some ⟨g, 0, none⟩) D cap', .int .i64 (-1), .bool false] 44)).heap.size = w1.heap.size + 1 := by simp
  generalize w1.alloc (.cells #[.slice (some ⟨g, 0, none⟩) D cap', .int .i64 (-1), .bool false] 44) = W1 at *
  obtain ⟨q, hq⟩ : ∃ q, q = w1.heap.size := ⟨_, rfl⟩
  rw [← hq] at hdk hq1 ⊢
  clear hq hzq hbw hb1 hrg hcg
  refine (HOP.out W1 q g (-1) d hbq hdk).mono ?_
  rintro e W2 ⟨⟨o, vs, rfl, hof, ho1, hvn, hvo⟩, hb2⟩
  have hsz := hbq.size
  have hg0 : PoS w W2 q g o n vs (.slice none 0 0) P p D d (A 0) Z 0 (fun _ => .slice none 0 0) := by
    refine ⟨hbq.trans (hb2.mono hbq.size), ?_, hq1, hBg, by omega, hvo, OutS.nil _ _ _ _ _⟩
    have e : Oc.dk d (Oc.s0 d) = d := by
      funext i
      unfold Oc.dk Oc.s0
      by_cases h0 : i = 0
      · rw [if_pos h0, h0]
      · rw [if_neg h0]
        by_cases h1 : i = 1
        · rw [if_pos h1, h1]
        · rw [if_neg h1]
    rw [HA0.out]
    show OfAt W2 q g o n vs P p D (Oc.dk d (Oc.s0 d)) (-1) false
    rw [e]
    exact hof
  clear hdk hof hbq hb2 hvn hvo ho1 hsz
  clear HNW HON hi0 hz0 hz1 hz2
  go_wp2_with fail
  go_loopw [33, 14, 12, 13] (fun i y z t W => ∃ (k : Nat) (v : Value) (o : Nat) (vs : Value) (R : Nat → Value), k ≤ K ∧ i = .int .i64 (k : Nat) ∧ v = y ∧ .pointer (some ⟨o, 0, none⟩) = z ∧ .int .i64 0 = t ∧ PoS w W q g o n vs v P p D d (A k) Z k R) (fun i _ _ _ _ => ((K : Int) - intOf i).toNat)
  case atStart => exact ⟨0, _, _, _, _, by omega, rfl, rfl, rfl, rfl, hg0⟩
  case round =>
    clear hg0
    obtain ⟨k, v, o, vs, R, hk, rfl, rfl, rfl, rfl, hg⟩ := hrel
    by_cases hlt : k < K
    case neg =>
      obtain rfl : k = K := by omega
      have hnl : ¬ ((k : Nat) : Int) < ((k : Nat) : Int) := by omega
      obtain ⟨cap2, c0, c2, hnum⟩ := hg.of.dk.nums
      have HNU := (show Hid (NumsAt wr (.slice (some ⟨g, 0, none⟩) D cap2) D (Oc.dk d (A k))) from hnum)
      have HSE : Hid (SenAt wr v k Z) := own_sen hg.out.own hg.out.rows
      have hbe := hg.below
      clear hg hnum HRC HNC HOP HA1 HZA hlt
      go_upto_region 20 with fail
      go_region
      all_goals
        go_wp2
        go_ret3
        exact ⟨_, _, rfl, by first | exact HSE.out | exact HSE.out.below (Below.refl _ _).drew, by first | exact HNU.out | exact HNU.out.below (Below.refl _ _).drew, by first | exact hbe | exact hbe.drew⟩
    obtain ⟨bc, oc, rfl, hr6⟩ := HRC.out k hlt
    obtain ⟨ar, cr, er, hmr⟩ := (HNC.out k hlt).len
    have hnr := HNC.out k hlt
    rw [er] at hr6 hnr
    have hr7 : wr.rangeAt bc (oc + k * 6) [.int .i64 (X k).pw, .bool (X k).op, .bool (X k).sd, .bool (X k).tk, .int .i64 (X k).pl, .slice ar (X k).tn cr] := rangeAt_belowO hr6 hg.below
    have HLT : Hid (k < K) := hlt
    have HS1 := HA1.out k
    have HZ1 := HZA.out k
    unfold maxLen at hmr
    clear er hr6
    generalize X k = x at *
    have hlt2 : (k : Int) < (K : Int) := by omega
    generalize A k = s at *
    have hra := RowAt.new wr 38 #[.int .i64 x.pw, .bool x.op, .bool x.sd, .bool x.tk, .int .i64 x.pl, .slice ar x.tn cr]
    have hga := hg.alloc (.cells #[.int .i64 x.pw, .bool x.op, .bool x.sd, .bool x.tk, .int .i64 x.pl, .slice ar x.tn cr] 38)
    have hpl := hg.l_ne (Nat.le_refl _)
    have hpw := hg.below.size
    go_upto_region 7 with (refine wpList_load_mid rfl 38 _ rfl bc (oc + k * 6) rfl [.int .i64 x.pw, .bool x.op, .bool x.sd, .bool x.tk, .int .i64 x.pl, .slice ar x.tn cr] _ hr7 Try.underlying38 rfl s_info_stp ?_)
    generalize wr.alloc (.cells #[.int .i64 x.pw, .bool x.op, .bool x.sd, .bool x.tk, .int .i64 x.pl, .slice ar x.tn cr] 38) = V at *
    obtain ⟨ps, hps⟩ : ∃ p, p = wr.heap.size := ⟨_, rfl⟩
    rw [← hps] at hra hpl hpw ⊢
    clear hps hr7 hg HRC HNC HA1 HZA
    have hpq : ps ≠ q ∧ ps ≠ g ∧ ps ≠ o := by simp at hpl; exact ⟨hpl.1, hpl.2.1, hpl.2.2.1⟩
    clear hpl
    have HNR := (show Hid (NumsAt w (.slice ar x.tn cr) x.tn x.tf) from hnr)
    have HS1' := (show Hid _ from HS1)
    have HZ1' := (show Hid _ from HZ1)
    clear hnr HS1 HZ1
    have HPRE : Hid (Oc.pre s x = ⟨s.a, s.b, if x.pw = 0 then s.lf else wrap64 (x.pw - 1), if x.op then false else s.dd⟩) := rfl
    obtain ⟨L, hL⟩ : ∃ L, L = (if x.pw = 0 then s.lf else wrap64 (x.pw - 1)) := ⟨_, rfl⟩
    have HL := (show Hid (L = (if x.pw = 0 then s.lf else wrap64 (x.pw - 1))) from hL)
    rw [← hL] at HPRE
    clear hL
    have cs0 : V.cell? ⟨ps, 0, none⟩ = some (.int .i64 x.pw) := hra.cell rfl
    go_upto_if 39 with fail
    go_cut [12] (fun z W => .pointer (some ⟨o, 0, none⟩) = z ∧ RowAt W ps 38 #[.int .i64 x.pw, .bool x.op, .bool x.sd, .bool x.tk, .int .i64 x.pl, .slice ar x.tn cr] ∧ PoS w W q g o n vs v P p D d ⟨s.a, s.b, L, s.dd⟩ Z k R)
    case first =>
      by_cases hpw0 : x.pw = 0
      · have hp0 : (x.pw != 0) = false := by simp [hpw0]
        have HX : Hid (PoS w V q g o n vs v P p D d ⟨s.a, s.b, L, s.dd⟩ Z k R) := by rw [HL.out, if_pos hpw0]; exact hga
        clear hpw0 hga HPRE HS1' HZ1' HL HOP
        go_wp2_with fail
        go_meet
        exact ⟨rfl, hra, HX.out⟩
      · have hp0 : (x.pw != 0) = true := by simp [hpw0]
        have HX : Hid (PoS w (V.setCell ⟨q, 1, none⟩ (.int .i64 (wrap64 (x.pw - 1)))) q g o n vs v P p D d ⟨s.a, s.b, L, s.dd⟩ Z k R) := by rw [HL.out, if_neg hpw0]; exact hga.power _
        have HR1 : Hid (RowAt (V.setCell ⟨q, 1, none⟩ (.int .i64 (wrap64 (x.pw - 1)))) ps 38 #[.int .i64 x.pw, .bool x.op, .bool x.sd, .bool x.tk, .int .i64 x.pl, .slice ar x.tn cr]) := hra.setOther ⟨q, 1, none⟩ (.int .i64 (wrap64 (x.pw - 1))) hpq.1
        obtain ⟨cq1, fq1⟩ : V.cell? ⟨q, 1, none⟩ = some (.int .i64 s.lf) ∧ V.frozen? ⟨q, 1, none⟩ = false := by
          obtain ⟨⟨_, _, a, _⟩, _⟩ := hga.of.dk
          exact ⟨a.cell rfl, a.frozen 1⟩
        clear hpw0 hga hra HPRE HS1' HZ1' HL HOP
        go_wp2_with fail
        go_meet
        exact ⟨rfl, HR1.out, HX.out⟩
    case rest =>
    obtain ⟨rfl, hr1, hg1⟩ := hcut
    obtain ⟨V1, hV1⟩ : ∃ V1, V1 = wc := ⟨_, rfl⟩
    rw [← hV1] at hr1 hg1 ⊢
    clear hV1 hra hga cs0 HL
    have cs1 : V1.cell? ⟨ps, 1, none⟩ = some (.bool x.op) := hr1.cell rfl
    go_upto_if 47 with fail
    go_cut [12, 13, 36, 47] (fun z t _ _ W => .int .i64 0 = t ∧ ∃ (o2 : Nat) (vs2 : Value), .pointer (some ⟨o2, 0, none⟩) = z ∧ RowAt W ps 38 #[.int .i64 x.pw, .bool x.op, .bool x.sd, .bool x.tk, .int .i64 x.pl, .slice ar x.tn cr] ∧ ps ≠ o2 ∧ PoS w W q g o2 n vs2 v P p D d (Oc.pre s x) Z k R)
    case first =>
      cases hop : x.op with
      | true =>
        rw [hop] at HPRE cs1
        go_wp2_with fail
        refine (HOP.out V1 q g _ _ hg1.below hg1.of.dk).mono ?_
        rintro e V2 ⟨⟨o2, vs2, rfl, hof, ho1, hvn, hvo⟩, hb2⟩
        have HX : Hid (PoS w V2 q g o2 n vs2 v P p D d (Oc.pre s x) Z k R) := by
          rw [HPRE.out]
          exact hg1.opened (s' := ⟨s.a, s.b, L, false⟩) hof hb2 ho1 hvn hvo
        have HR1 := (show Hid (RowAt V2 ps 38 #[.int .i64 x.pw, .bool x.op, .bool x.sd, .bool x.tk, .int .i64 x.pl, .slice ar x.tn cr]) from hr1.below hb2 hr1.lt)
        have HN : Hid (ps ≠ o2) := by have := hr1.lt; rw [Hid]; omega
        clear hg1 hof ho1 hvn hvo hb2 hr1 cs1 HS1' HZ1' HPRE
        go_wp2_with fail
        go_meet
        exact ⟨rfl, _, _, rfl, HR1.out, HN.out, HX.out⟩
      | false =>
        have HX : Hid (PoS w V1 q g o n vs v P p D d (Oc.pre s x) Z k R) := by
          rw [HPRE.out, hop]
          exact hg1
        have HN : Hid (ps ≠ o) := hpq.2.2
        rw [hop] at cs1
        have HR1 := (show Hid (RowAt V1 ps 38 #[.int .i64 x.pw, .bool x.op, .bool x.sd, .bool x.tk, .int .i64 x.pl, .slice ar x.tn cr]) from hr1)
        clear hg1 hr1 HS1' HZ1' HPRE
        go_wp2_with fail
        go_meet
        exact ⟨rfl, _, _, rfl, HR1.out, HN.out, HX.out⟩
    case rest =>
    obtain ⟨rfl, o2, vs2, rfl, hrs, hpo, hg2⟩ := hcut
    obtain ⟨V2, hV2⟩ : ∃ V2, V2 = wc := ⟨_, rfl⟩
    rw [← hV2] at hrs hg2 ⊢
    clear hV2 hr1 hg1 cs1 HPRE HOP
    go_upto_region 11 with fail
    obtain ⟨s1, hs1⟩ : ∃ s1, s1 = Oc.pre s x := ⟨_, rfl⟩
    have HZ2 : Hid (Z k = ⟨Oc.sAt n P p s1 x, Oc.sTn n P p s1 x, Oc.sTf n P p s1 x, 0, Oc.er n P p s1 x, Oc.sLf P (Oc.nx n P p s1 x)⟩) := by rw [hs1]; exact HZ1'.out
    rw [← hs1] at HS1' hg2
    clear HZ1' hs1
    have hxa := RowAt.new V2 32 #[.int .i64 0, .slice none 0 0, .int .i64 0, .int .i64 0, .int .i64 0]
    have hg3 := hg2.alloc (.cells #[.int .i64 0, .slice none 0 0, .int .i64 0, .int .i64 0, .int .i64 0] 32)
    have hrs3 := hrs.alloc (.cells #[.int .i64 0, .slice none 0 0, .int .i64 0, .int .i64 0, .int .i64 0] 32)
    have hxl := hg2.l_ne (Nat.le_refl _)
    have hxv := hg2.v_ne (Nat.le_refl _)
    have hxr := hg2.r_ne (Nat.le_refl _)
    have hxs : V2.heap.size ≠ ps := by have := hrs.lt; omega
    have hxw := hg2.below.size
    have hxz : (V2.alloc (.cells #[.int .i64 0, .slice none 0 0, .int .i64 0, .int .i64 0, .int .i64 0] 32)).heap.size = V2.heap.size + 1 := by simp
    have HZL := (show Hid (∀ y, y ∈ [q, g, o2] ++ ob vs2 → y < V2.heap.size) from hg2.lt)
    go_upto_region 12 with fail
    generalize V2.alloc (.cells #[.int .i64 0, .slice none 0 0, .int .i64 0, .int .i64 0, .int .i64 0] 32) = V3 at *
    obtain ⟨px, hpx⟩ : ∃ p, p = V2.heap.size := ⟨_, rfl⟩
    rw [← hpx] at hxa hxl hxv hxr hxs hxw hxz HZL ⊢
    clear hpx hg2 hrs
    have hxo : px ∉ [q, g, o2] := fun e => hxl (List.mem_append_left _ e)
    go_upto_if 59 with fail
    go_cut [12] (fun z W => .pointer (some ⟨o2, 0, none⟩) = z ∧ ∃ r, RowAt W px 32 (sec (Z k) r) ∧ PoS w W q g o2 n vs2 v P p D d (A (k + 1)) Z k R ∧ NumsAt W r (Z k).tn (Z k).tf ∧ (0 < (Z k).tn → ∀ b, r.ownBlock = some b → b ∉ [q, g, o2] ++ ob vs2 ∧ v.ownBlock ≠ some b))
    case first =>
     cases hsd : x.sd with
     | true =>
      have hs2 : V3.cell? ⟨ps, 2, none⟩ = some (.bool true) := by rw [← hsd]; exact hrs3.cell rfl
      have hs5 : V3.cell? ⟨ps, 5, none⟩ = some (.slice ar x.tn cr) := hrs3.cell rfl
      have HNX : Hid (Oc.nx n P p s1 x = Oc.snS n P p s1 x) := by unfold Oc.nx; rw [hsd]; rfl
      have HZ3 : Hid (Z k = ⟨if Oc.snE n P p s1 x = 0 then (Oc.us P s1.a : Nat) else 0, if Oc.snE n P p s1 x = 0 then x.tn else 0, wrF n x.tf (Oc.on p (Oc.us P s1.a)), 0, Oc.snE n P p s1 x, Oc.sLf P (Oc.snS n P p s1 x)⟩) := by
        rw [Hid, HZ2.out, HNX.out]
        unfold Oc.sAt Oc.sTn Oc.sTf Oc.er
        rw [hsd]
        rfl
      clear hsd HZ2
      go_wp2_with fail
      refine (osend_any hg3.of hD2 hP x (HNR.out.below hg3.below)).mono ?_
      rintro e V4 ⟨vr, rfl, hvn, hvw, hof, hf⟩
      have hg4 := hg3.turned hof hf
      have hx4 := hf.row hxa hxo
      clear hof hs2 hs5 hrs3 hxa
      obtain ⟨av, cv, rfl, hmv⟩ := hvn.len
      obtain ⟨TN, hTN⟩ : ∃ t, t = (if Oc.snE n P p s1 x = 0 then x.tn else 0) := ⟨_, rfl⟩
      rw [← hTN] at HZ3 hvn hvw hmv ⊢
      obtain ⟨AT, hAT⟩ : ∃ t, t = (if Oc.snE n P p s1 x = 0 then ((Oc.us P s1.a : Nat) : Int) else 0) := ⟨_, rfl⟩
      rw [← hAT] at HZ3 ⊢
      clear hAT
      obtain ⟨EE, hEE⟩ : ∃ t, t = Oc.snE n P p s1 x := ⟨_, rfl⟩
      rw [← hEE] at HZ3 ⊢
      clear hEE hTN
      have HVN := (show Hid (NumsAt V4 (.slice av TN cv) TN _) from hvn)
      have HVW := (show Hid (New V3 (.slice av TN cv)) from hvw)
      unfold maxLen at hmv
      clear hvn hvw
      have HVV : Hid (∀ b, V3.heap.size ≤ b → v.ownBlock ≠ some b) := fun b hb => hg3.v_ne hb
      have c0 := hx4.cell (i := 0) rfl
      have f0 := hx4.frozen 0
      have hy1 : RowAt (V4.setCell ⟨px, 0, none⟩ (.int .i64 AT)) px 32 #[(.int .i64 AT), (.slice none 0 0), (.int .i64 0), (.int .i64 0), (.int .i64 0)] := hx4.set 0 (.int .i64 AT)
      have c1 := hy1.cell (i := 1) rfl
      have f1 := hy1.frozen 1
      have hy2 : RowAt ((V4.setCell ⟨px, 0, none⟩ (.int .i64 AT)).setCell ⟨px, 1, none⟩ (.slice av TN cv)) px 32 #[(.int .i64 AT), (.slice av TN cv), (.int .i64 0), (.int .i64 0), (.int .i64 0)] := hy1.set 1 (.slice av TN cv)
      have c3 := hy2.cell (i := 3) rfl
      have f3 := hy2.frozen 3
      have hy3 : RowAt (((V4.setCell ⟨px, 0, none⟩ (.int .i64 AT)).setCell ⟨px, 1, none⟩ (.slice av TN cv)).setCell ⟨px, 3, none⟩ (.int .i64 EE)) px 32 #[(.int .i64 AT), (.slice av TN cv), (.int .i64 0), (.int .i64 EE), (.int .i64 0)] := hy2.set 3 (.int .i64 EE)
      have hf5 : Fr [px] V4 (((V4.setCell ⟨px, 0, none⟩ (.int .i64 AT)).setCell ⟨px, 1, none⟩ (.slice av TN cv)).setCell ⟨px, 3, none⟩ (.int .i64 EE)) := ((Fr.set [px] V4 0 (.int .i64 AT) (by simp)).trans (Fr.set [px] _ 1 (.slice av TN cv) (by simp))).trans (Fr.set [px] _ 3 (.int .i64 EE) (by simp))
      have hg5 := hg4.other hf5 hxw hxl hxv hxr
      have HN5 : Hid (NumsAt (((V4.setCell ⟨px, 0, none⟩ (.int .i64 AT)).setCell ⟨px, 1, none⟩ (.slice av TN cv)).setCell ⟨px, 3, none⟩ (.int .i64 EE)) (.slice av TN cv) TN _) := hf5.nums HVN.out (fun h0 b hb e => by
        have h1 := HVW.out b hb
        simp only [List.mem_singleton] at e
        omega)
      go_upto_region 17 with fail
      generalize (((V4.setCell ⟨px, 0, none⟩ (.int .i64 AT)).setCell ⟨px, 1, none⟩ (.slice av TN cv)).setCell ⟨px, 3, none⟩ (.int .i64 EE)) = V5 at *
      clear hg4 hx4 hf5 hy1 hy2 c0 f0 c1 f1 c3 f3
      have hx5 := hy3
      clear hy3
      go_wp2_with fail
      refine (oleft_any hg5.of hD2 hP).mono ?_
      rintro e V6 ⟨rfl, hb6⟩
      have hg6 := hg5.step hb6
      have hx6 := hx5.below hb6 hx5.lt
      have HN6 := (show Hid (NumsAt V6 (.slice av TN cv) _ _) from HN5.out.below hb6)
      clear hg5 hx5 HN5 hb6
      obtain ⟨LL, hLL⟩ : ∃ t, t = Oc.sLf P (Oc.snS n P p s1 x) := ⟨_, rfl⟩
      have HZK : Hid (Z k = ⟨AT, TN, wrF n x.tf (Oc.on p (Oc.us P s1.a)), 0, EE, LL⟩) := by rw [hLL]; exact HZ3.out
      rw [← hLL]
      clear hLL HZ3
      have c4 := hx6.cell (i := 4) rfl
      have f4 := hx6.frozen 4
      have hx7 : RowAt (V6.setCell ⟨px, 4, none⟩ (.int .i64 LL)) px 32 #[.int .i64 AT, (.slice av TN cv), .int .i64 0, .int .i64 EE, .int .i64 LL] := hx6.set 4 _
      have hf7 : Fr [px] V6 (V6.setCell ⟨px, 4, none⟩ (.int .i64 LL)) := Fr.set [px] V6 4 _ (by simp)
      have hg7 := hg6.other hf7 hxw hxl hxv hxr
      have HN7 := (show Hid (NumsAt (V6.setCell ⟨px, 4, none⟩ (.int .i64 LL)) (.slice av TN cv) _ _) from hf7.nums HN6.out (fun h0 b hb e => by
        have h1 := HVW.out b hb
        simp only [List.mem_singleton] at e
        omega))
      have HRW : Hid (RowAt (V6.setCell ⟨px, 4, none⟩ (.int .i64 LL)) px 32 (sec (Z k) (.slice av TN cv))) := by rw [HZK.out]; exact hx7
      have HGG : Hid (PoS w (V6.setCell ⟨px, 4, none⟩ (.int .i64 LL)) q g o2 n vs2 v P p D d (A (k + 1)) Z k R) := by rw [HS1'.out, HNX.out]; exact hg7
      clear hg6 hx6 hf7 HN6 hx7 hg7 HS1' HNX
      go_wp2_with fail
      go_meet
      exact ⟨rfl, (.slice av TN cv), HRW.out, HGG.out, (by rw [HZK.out]; exact HN7.out), (by rw [HZK.out]; exact (fun h0 b hb => ⟨fun e => by have h1 := HVW.out b hb; have h2 := HZL.out b e; omega, fun e => by have h1 := HVW.out b hb; exact HVV.out b h1 e⟩))⟩
     | false =>
      cases htk : x.tk with
      | true =>
        have hs2 : V3.cell? ⟨ps, 2, none⟩ = some (.bool false) := by rw [← hsd]; exact hrs3.cell rfl
        have hs3 : V3.cell? ⟨ps, 3, none⟩ = some (.bool true) := by rw [← htk]; exact hrs3.cell rfl
        have hs4 : V3.cell? ⟨ps, 4, none⟩ = some (.int .i64 x.pl) := hrs3.cell rfl
        have hs5 : V3.cell? ⟨ps, 5, none⟩ = some (.slice ar x.tn cr) := hrs3.cell rfl
        have HNX : Hid (Oc.nx n P p s1 x = Oc.tkS n P p s1 x) := by unfold Oc.nx; rw [hsd, htk]; rfl
        have HZ3 : Hid (Z k = ⟨0, if Oc.tkE n P p s1 x = 0 then x.tn else 0, rdF n x.tf (Oc.on p x.pl.toNat), 0, Oc.tkE n P p s1 x, Oc.sLf P (Oc.tkS n P p s1 x)⟩) := by
          rw [Hid, HZ2.out, HNX.out]
          unfold Oc.sAt Oc.sTn Oc.sTf Oc.er
          rw [hsd, htk]
          rfl
        clear hsd htk HZ2
        go_wp2_with fail
        refine (otake_any hg3.of hD2 hP x (HNR.out.below hg3.below)).mono ?_
        rintro e V4 ⟨vr, rfl, hvn, hvw, hof, hf⟩
        have hg4 := hg3.turned hof hf
        have hx4 := hf.row hxa hxo
        clear hof hs2 hs3 hs4 hs5 hrs3 hxa
        obtain ⟨av, cv, rfl, hmv⟩ := hvn.len
        obtain ⟨TN, hTN⟩ : ∃ t, t = (if Oc.tkE n P p s1 x = 0 then x.tn else 0) := ⟨_, rfl⟩
        rw [← hTN] at HZ3 hvn hvw hmv ⊢
        obtain ⟨EE, hEE⟩ : ∃ t, t = Oc.tkE n P p s1 x := ⟨_, rfl⟩
        rw [← hEE] at HZ3 ⊢
        clear hEE hTN
        have HVN := (show Hid (NumsAt V4 (.slice av TN cv) TN _) from hvn)
        have HVW := (show Hid (New V3 (.slice av TN cv)) from hvw)
        unfold maxLen at hmv
        clear hvn hvw
        have HVV : Hid (∀ b, V3.heap.size ≤ b → v.ownBlock ≠ some b) := fun b hb => hg3.v_ne hb
        have c1 := hx4.cell (i := 1) rfl
        have f1 := hx4.frozen 1
        have hy1 : RowAt (V4.setCell ⟨px, 1, none⟩ (.slice av TN cv)) px 32 #[(.int .i64 0), (.slice av TN cv), (.int .i64 0), (.int .i64 0), (.int .i64 0)] := hx4.set 1 (.slice av TN cv)
        have c3 := hy1.cell (i := 3) rfl
        have f3 := hy1.frozen 3
        have hy2 : RowAt ((V4.setCell ⟨px, 1, none⟩ (.slice av TN cv)).setCell ⟨px, 3, none⟩ (.int .i64 EE)) px 32 #[(.int .i64 0), (.slice av TN cv), (.int .i64 0), (.int .i64 EE), (.int .i64 0)] := hy1.set 3 (.int .i64 EE)
        have hf5 : Fr [px] V4 ((V4.setCell ⟨px, 1, none⟩ (.slice av TN cv)).setCell ⟨px, 3, none⟩ (.int .i64 EE)) := (Fr.set [px] V4 1 (.slice av TN cv) (by simp)).trans (Fr.set [px] _ 3 (.int .i64 EE) (by simp))
        have hg5 := hg4.other hf5 hxw hxl hxv hxr
        have HN5 : Hid (NumsAt ((V4.setCell ⟨px, 1, none⟩ (.slice av TN cv)).setCell ⟨px, 3, none⟩ (.int .i64 EE)) (.slice av TN cv) TN _) := hf5.nums HVN.out (fun h0 b hb e => by
          have h1 := HVW.out b hb
          simp only [List.mem_singleton] at e
          omega)
        go_upto_region 17 with fail
        generalize ((V4.setCell ⟨px, 1, none⟩ (.slice av TN cv)).setCell ⟨px, 3, none⟩ (.int .i64 EE)) = V5 at *
        clear hg4 hx4 hf5 hy1 c1 f1 c3 f3
        have hx5 := hy2
        clear hy2
        go_wp2_with fail
        refine (oleft_any hg5.of hD2 hP).mono ?_
        rintro e V6 ⟨rfl, hb6⟩
        have hg6 := hg5.step hb6
        have hx6 := hx5.below hb6 hx5.lt
        have HN6 := (show Hid (NumsAt V6 (.slice av TN cv) _ _) from HN5.out.below hb6)
        clear hg5 hx5 HN5 hb6
        obtain ⟨LL, hLL⟩ : ∃ t, t = Oc.sLf P (Oc.tkS n P p s1 x) := ⟨_, rfl⟩
        have HZK : Hid (Z k = ⟨0, TN, rdF n x.tf (Oc.on p x.pl.toNat), 0, EE, LL⟩) := by rw [hLL]; exact HZ3.out
        rw [← hLL]
        clear hLL HZ3
        have c4 := hx6.cell (i := 4) rfl
        have f4 := hx6.frozen 4
        have hx7 : RowAt (V6.setCell ⟨px, 4, none⟩ (.int .i64 LL)) px 32 #[.int .i64 0, (.slice av TN cv), .int .i64 0, .int .i64 EE, .int .i64 LL] := hx6.set 4 _
        have hf7 : Fr [px] V6 (V6.setCell ⟨px, 4, none⟩ (.int .i64 LL)) := Fr.set [px] V6 4 _ (by simp)
        have hg7 := hg6.other hf7 hxw hxl hxv hxr
        have HN7 := (show Hid (NumsAt (V6.setCell ⟨px, 4, none⟩ (.int .i64 LL)) (.slice av TN cv) _ _) from hf7.nums HN6.out (fun h0 b hb e => by
          have h1 := HVW.out b hb
          simp only [List.mem_singleton] at e
          omega))
        have HRW : Hid (RowAt (V6.setCell ⟨px, 4, none⟩ (.int .i64 LL)) px 32 (sec (Z k) (.slice av TN cv))) := by rw [HZK.out]; exact hx7
        have HGG : Hid (PoS w (V6.setCell ⟨px, 4, none⟩ (.int .i64 LL)) q g o2 n vs2 v P p D d (A (k + 1)) Z k R) := by rw [HS1'.out, HNX.out]; exact hg7
        clear hg6 hx6 hf7 HN6 hx7 hg7 HS1' HNX
        go_wp2_with fail
        go_meet
        exact ⟨rfl, (.slice av TN cv), HRW.out, HGG.out, (by rw [HZK.out]; exact HN7.out), (by rw [HZK.out]; exact (fun h0 b hb => ⟨fun e => by have h1 := HVW.out b hb; have h2 := HZL.out b e; omega, fun e => by have h1 := HVW.out b hb; exact HVV.out b h1 e⟩))⟩
      | false =>
        have hs2 : V3.cell? ⟨ps, 2, none⟩ = some (.bool false) := by rw [← hsd]; exact hrs3.cell rfl
        have hs3 : V3.cell? ⟨ps, 3, none⟩ = some (.bool false) := by rw [← htk]; exact hrs3.cell rfl
        have HNX : Hid (Oc.nx n P p s1 x = s1) := by unfold Oc.nx; rw [hsd, htk]; rfl
        have HZ3 : Hid (Z k = ⟨0, 0, rdF n x.tf (Oc.on p x.pl.toNat), 0, 0, Oc.sLf P s1⟩) := by
          rw [Hid, HZ2.out, HNX.out]
          unfold Oc.sAt Oc.sTn Oc.sTf Oc.er
          rw [hsd, htk]
          rfl
        clear hsd htk HZ2
        have hg4 := hg3
        have hx4 := hxa
        obtain ⟨V4, hV4⟩ : ∃ V4, V4 = V3 := ⟨_, rfl⟩
        clear hrs3
        rw [← hV4] at hg4 hx4
        have hg5 := hg4
        have hx5 := hx4
        go_upto_region 17 with fail
        rw [← hV4]
        clear hg4 hx4 hs2 hs3 hV4
        obtain ⟨V5, hV5⟩ : ∃ V5, V5 = V4 := ⟨_, rfl⟩
        rw [← hV5] at hg5 hx5 ⊢
        clear hV5
        have HN5 : Hid (NumsAt V5 (.slice none 0 0) 0 (rdF n x.tf (Oc.on p x.pl.toNat))) := nums_nil _ _
        go_wp2_with fail
        refine (oleft_any hg5.of hD2 hP).mono ?_
        rintro e V6 ⟨rfl, hb6⟩
        have hg6 := hg5.step hb6
        have hx6 := hx5.below hb6 hx5.lt
        have HN6 := (show Hid (NumsAt V6 (.slice none 0 0) _ _) from HN5.out.below hb6)
        clear hg5 hx5 HN5 hb6
        obtain ⟨LL, hLL⟩ : ∃ t, t = Oc.sLf P (s1) := ⟨_, rfl⟩
        have HZK : Hid (Z k = ⟨0, 0, rdF n x.tf (Oc.on p x.pl.toNat), 0, 0, LL⟩) := by rw [hLL]; exact HZ3.out
        rw [← hLL]
        clear hLL HZ3
        have c4 := hx6.cell (i := 4) rfl
        have f4 := hx6.frozen 4
        have hx7 : RowAt (V6.setCell ⟨px, 4, none⟩ (.int .i64 LL)) px 32 #[.int .i64 0, (.slice none 0 0), .int .i64 0, .int .i64 0, .int .i64 LL] := hx6.set 4 _
        have hf7 : Fr [px] V6 (V6.setCell ⟨px, 4, none⟩ (.int .i64 LL)) := Fr.set [px] V6 4 _ (by simp)
        have hg7 := hg6.other hf7 hxw hxl hxv hxr
        have HN7 := (show Hid (NumsAt (V6.setCell ⟨px, 4, none⟩ (.int .i64 LL)) (.slice none 0 0) _ _) from hf7.nums HN6.out (fun h0 b hb e => by
          cases hb))
        have HRW : Hid (RowAt (V6.setCell ⟨px, 4, none⟩ (.int .i64 LL)) px 32 (sec (Z k) (.slice none 0 0))) := by rw [HZK.out]; exact hx7
        have HGG : Hid (PoS w (V6.setCell ⟨px, 4, none⟩ (.int .i64 LL)) q g o2 n vs2 v P p D d (A (k + 1)) Z k R) := by rw [HS1'.out, HNX.out]; exact hg7
        clear hg6 hx6 hf7 HN6 hx7 hg7 HS1' HNX
        go_wp2_with fail
        go_meet
        exact ⟨rfl, (.slice none 0 0), HRW.out, HGG.out, (by rw [HZK.out]; exact HN7.out), (by rw [HZK.out]; exact (fun h0 b hb => by cases hb))⟩
    case rest =>
    obtain ⟨rfl, r, hrw, hgg, hnn, hrl⟩ := hcut
    obtain ⟨V7, hV7⟩ : ∃ V7, V7 = wc := ⟨_, rfl⟩
    rw [← hV7] at hrw hgg hnn ⊢
    obtain ⟨ar2, cr2, rfl, hmr2⟩ := hnn.len
    obtain ⟨z, hz⟩ : ∃ z, z = Z k := ⟨_, rfl⟩
    have HZZ := (show Hid (z = Z k) from hz)
    rw [← hz] at hrw hnn hrl
    have HNN := (show Hid (NumsAt V7 (.slice ar2 z.tn cr2) z.tn z.tf) from hnn)
    have HRL := (show Hid (0 < z.tn → ∀ b, (Value.slice ar2 z.tn cr2).ownBlock = some b → b ∉ [q, g, o2] ++ ob vs2 ∧ v.ownBlock ≠ some b) from hrl)
    have hrow : RowAt V7 px 32 #[.int .i64 z.pl, .slice ar2 z.tn cr2, .int .i64 z.e1, .int .i64 z.e2, .int .i64 z.lf] := hrw
    have HB1 : Hid (k + 1 ≤ maxLen) := sen_len HLT.out hmc
    have HB2 : Hid (((k + 1) + (k + 1) / 4 + 192) * 56 ≤ 281474976710656) := sen_bytes HLT.out hK
    have HB3 : Hid (w.heap.size ≤ (V7.alloc (.cells #[.int .i64 z.pl, .slice ar2 z.tn cr2, .int .i64 z.e1, .int .i64 z.e2, .int .i64 z.lf] 32)).heap.size) := by have := hgg.below.size; rw [Hid, World.size_alloc]; exact Nat.le_succ_of_le this
    clear hV7 hnn hrl hg3 hrs3 hxa hxl hxv hxr hxs hxw hxz HZL hxo HZ2 HS1' hmr2 hz hrw HNR hpq hpo
    go_wp2_with (first | refine wpList_load_row rfl 32 _ rfl px rfl 32 #[.int .i64 z.pl, .slice ar2 z.tn cr2, .int .i64 z.e1, .int .i64 z.e2, .int .i64 z.lf] (0, 0) _ hrow Try.underlying32 rfl s_info_sen ?_ | refine wpList_build1c rfl 25 32 _ rfl 5 #[.int .i64 0, .slice none 0 0, .int .i64 0, .int .i64 0, .int .i64 0] #[.int .i64 z.pl, .slice ar2 z.tn cr2, .int .i64 z.e1, .int .i64 z.e2, .int .i64 z.lf] rfl (by decide) (by decide) Try.underlying25 rfl rfl s_zs_sen ?_ | (at_builtin; refine wpList_append_wide_at rfl _ _ 25 rfl w.heap.size 32 j0 (.agg #[.int .i64 0, .slice none 0 0, .int .i64 0, .int .i64 0, .int .i64 0]) 5 56 Try.underlying25 hj0 hy0 hy1 hy2 rfl (by decide) _ _ _ rfl (World.ownsRow.alloc hgg.out.own _) ⟨V7.heap.size, 0, none⟩ 1 1 (#[.int .i64 z.pl, .slice ar2 z.tn cr2, .int .i64 z.e1, .int .i64 z.e2, .int .i64 z.lf] : Array Value).toList rfl rfl (sen_new V7 _) (sen_ones _ _ _ _ _ _ _) (by decide) HB1.out HB2.out HB3.out ?_; intro v5 w5 hown5 hgrow5 hat5))
    have hgn : PoS w w5 q g o2 n vs2 v5 P p D d (A (k + 1)) Z (k + 1) (fun i => if i = k then .slice ar2 z.tn cr2 else R i) := by
      refine hgg.push (r := .slice ar2 z.tn cr2) (by rw [← HZZ.out]; exact HNN.out) (by rw [← HZZ.out]; exact HRL.out) ?_ hgrow5 hat5
      rw [← HZZ.out]
      exact hown5
    clear hown5 hgrow5 hat5 hgg hrow
    go_roundw
    case rel => exact ⟨k + 1, v5, _, _, _, HLT.out, by go_num, rfl, rfl, rfl, hgn⟩
    case measure => have := HLT.out; simp [intOf]; omega
end Go.Proofs.Ytlfghnngbljlhaa
