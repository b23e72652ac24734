/-
  The document's Play (chapter 16), where nothing is wrong.
-/
import Derived.Test.YtlfghnngbljlhaaOfRb
import Derived.Test.YtlfghnngbljlhaaOfOn
import Derived.Test.YtlfghnngbljlhaaClK
import Derived.Deep.DeepCutAuto
namespace Go.Proofs.Ytlfghnngbljlhaa
open Go.RowKit PK Pd

/-- The document's office at work, and what was seen of it. -/
structure PrS (w W : World) (b : Bk) (vp v : Value) (P D : Nat) (d : Nat → Int) (s : Oc.St) (Z : Nat → Oc.Sn) (k : Nat) (R : Nat → Value) : Prop where
  below : Below w.heap.size w W
  ro : RoS W b vp D (Oc.dk d s) 0 (Oc.us P s.a : Nat) (Oc.us P s.b : Nat) s.dd s.lf
  b1 : w.heap.size ≤ b.bp
  out : OutS W w.heap.size b.l v Z k R
section
variable {w W W' : World} {b : Bk} {vp v : Value} {P D k : Nat} {d : Nat → Int} {s s' : Oc.St} {Z : Nat → Oc.Sn} {R : Nat → Value}
theorem RoS.lt {E se re lf : Int} {dd : Bool} (h : RoS W b vp D d E se re dd lf) : ∀ x, x ∈ b.l → x < W.heap.size := fun x hx => by
  have o := h.ok
  have h1 := h.rl'.lt
  simp [Bk.l] at hx
  omega
theorem RoS.ge {E se re lf : Int} {dd : Bool} (h : RoS W b vp D d E se re dd lf) : ∀ x, x ∈ b.l → b.bp ≤ x := fun x hx => by
  have o := h.ok
  simp [Bk.l] at hx
  omega
theorem PrS.step (h : PrS w W b vp v P D d s Z k R) (hb : Below W.heap.size W W') : PrS w W' b vp v P D d s Z k R := ⟨h.below.trans (hb.mono h.below.size), h.ro.below hb, h.b1, h.out.below hb⟩
theorem PrS.alloc (h : PrS w W b vp v P D d s Z k R) (ob : Obj) : PrS w (W.alloc ob) b vp v P D d s Z k R := h.step ((Below.refl _ _).alloc (Nat.le_refl _) ob)
theorem PrS.turned (h : PrS w W b vp v P D d s Z k R) (ho : RoS W' b vp D (Oc.dk d s') 0 (Oc.us P s'.a : Nat) (Oc.us P s'.b : Nat) s'.dd s'.lf) (hf : Fr b.l W W') : PrS w W' b vp v P D d s' Z k R :=
  ⟨hf.below h.below h.below.size (fun x hx => Nat.le_trans h.b1 (h.ro.ge x hx)), ho, h.b1, h.out.fr hf (fun _ hx => .inl hx)⟩
theorem PrS.other {c : Nat} (h : PrS w W b vp v P D d s Z k R) (hf : Fr [c] W W') (hc : w.heap.size ≤ c) (hx : c ∉ b.l) (hv : v.ownBlock ≠ some c) (hR : ∀ i, i < k → 0 < (Z i).tn → (R i).ownBlock ≠ some c) : PrS w W' b vp v P D d s Z k R := by
  refine ⟨hf.below h.below h.below.size (fun x hx => by simp at hx; omega), h.ro.fr hf (fun x hx' e => ?_), h.b1, ⟨hf.own h.out.own (fun y e hy => ?_), fun i hi => hf.nums (h.out.rows i hi) (fun h0 y e hy => ?_), h.out.ne, h.out.nr⟩⟩
  · simp only [List.mem_singleton] at e
    subst e
    exact hx hx'
  · simp only [List.mem_singleton] at hy
    subst hy
    exact hv e
  · simp only [List.mem_singleton] at hy
    subst hy
    exact hR i hi h0 e
theorem PrS.both {c : Nat} (h : PrS w W b vp v P D d s Z k R) (ho : RoS W' b vp D (Oc.dk d s') 0 (Oc.us P s'.a : Nat) (Oc.us P s'.b : Nat) s'.dd s'.lf) (hf : Fr (c :: b.l) W W') (hc : w.heap.size ≤ c) (hv : v.ownBlock ≠ some c) (hR : ∀ i, i < k → 0 < (Z i).tn → (R i).ownBlock ≠ some c) : PrS w W' b vp v P D d s' Z k R := by
  refine ⟨hf.below h.below h.below.size (fun x hx => ?_), ho, h.b1, ⟨hf.own h.out.own (fun y e hy => ?_), fun i hi => hf.nums (h.out.rows i hi) (fun h0 y e hy => ?_), h.out.ne, h.out.nr⟩⟩
  · rcases List.mem_cons.1 hx with rfl | hx
    · exact hc
    · exact Nat.le_trans h.b1 (h.ro.ge x hx)
  · rcases List.mem_cons.1 hy with rfl | hy
    · exact hv e
    · exact h.out.ne y e hy
  · rcases List.mem_cons.1 hy with rfl | hy
    · exact hR i hi h0 e
    · exact (h.out.nr i hi h0 y e).1 hy
theorem PrS.v_ne (h : PrS w W b vp v P D d s Z k R) {c : Nat} (hb : W.heap.size ≤ c) : v.ownBlock ≠ some c := fun e => by
  have := (World.ownsRow.lt h.out.own c e).2
  omega
theorem PrS.r_ne (h : PrS w W b vp v P D d s Z k R) {c : Nat} (hb : W.heap.size ≤ c) : ∀ i, i < k → 0 < (Z i).tn → (R i).ownBlock ≠ some c := fun i hi h0 e => by
  have := nums_lt (h.out.rows i hi) h0 e
  omega
theorem PrS.l_ne (h : PrS w W b vp v P D d s Z k R) {c : Nat} (hb : W.heap.size ≤ c) : c ∉ b.l := fun e => by
  have := h.ro.lt c e
  omega
theorem PrS.push (h : PrS w W b vp v P D d s Z k R) {r : Value} (hr : NumsAt W r (Z k).tn (Z k).tf) (hrl : 0 < (Z k).tn → ∀ c, r.ownBlock = some c → c ∉ b.l ∧ v.ownBlock ≠ some c) {oj : Obj} {v5 : Value} {w5 : World}
    (hown : w5.ownsRow w.heap.size 32 5 v5 (k + 1) (sel Z R k ++ (sec (Z k) r).toList)) (hg : (W.alloc oj).grownBy w5 v.ownBlock) (hat : v5.ownBlock = v.ownBlock ∨ v5.ownBlock = some (W.alloc oj).heap.size) : PrS w w5 b vp v5 P D d s Z (k + 1) (fun i => if i = k then r else R i) := by
  have ha := h.alloc oj
  have hf := Fr.of_own hg
  have hne := h.out.ne
  exact ⟨hf.below ha.below ha.below.size (fun x hx => (World.ownsRow.lt h.out.own x (mem_ob.1 hx)).1), ha.ro.fr hf (fun x hx e => hne x (mem_ob.1 e) hx), h.b1, h.out.push h.ro.lt hr hrl hown hg hat⟩
theorem PrS.power (h : PrS w W b vp v P D d s Z k R) (l : Int) : PrS w (W.setCell ⟨b.bl, 0, none⟩ (.int .i64 l)) b vp v P D d ⟨s.a, s.b, l, s.dd⟩ Z k R :=
  h.turned (s' := ⟨s.a, s.b, l, s.dd⟩) (h.ro.setL l) (Fr.set _ _ 0 _ (by simp [Bk.l]))
end
set_option maxRecDepth 100000 in
set_option maxHeartbeats 8000000 in
theorem rplay_ok (n : Int) (ap : Option Addr) (cp : Nat) (vw vc : Value) (P : Nat) (p : Nat → Int) (D : Nat) (d : Nat → Int) (K : Nat) (X : Nat → Oc.Sp) (w : World) (hp : NumsAt w (.slice ap P cp) P p) (hpc : P ≤ cp) (hw : NumsAt w vw D d) (hc : StpAt w vc K X) (hD : D * 8 ≤ 140737488355328) (hK : (K + K / 4 + 192) * 56 ≤ 281474976710656) (hE : Oc.opE n P p D = 0) : Calls Try.prog 7 #[.int .i64 n, .slice ap P cp, vw, vc] w fun e w' => ∃ v u, e = .returned (.tuple #[v, u]) ∧ SenAt w' v K (Oc.seen n P p D X (Oc.s0 d)) ∧ NumsAt w' u D (Oc.last n P p D d X K) ∧ Below w.heap.size w w' := by
  obtain ⟨hn1, hn2, hpi, hP, hD2⟩ := Oc.opE_zero hE
  obtain ⟨i0, hi0, hz0, hz1, hz2⟩ := x_info_parts g_info_64
  obtain ⟨j0, hj0, hy0, hy1, hy2⟩ := x_info_parts s_all_sen
  have HSN : Hid (Oc.seen n P p D X (Oc.s0 d) = fun k => Oc.sn n P p (Oc.at' n P p X (Oc.s0 d) k) (X k)) := by funext k; unfold Oc.seen; rw [if_pos hE]
  have HLT : Hid (Oc.last n P p D d X K = Oc.dk d (Oc.at' n P p X (Oc.s0 d) K)) := by unfold Oc.last; rw [Hid, if_pos hE]
  rw [HSN.out, HLT.out]
  obtain ⟨A, hA⟩ : ∃ A, A = Oc.at' n P p X (Oc.s0 d) := ⟨_, rfl⟩
  have HA1 : Hid (∀ k, A (k + 1) = Oc.nx n P p (Oc.pre (A k) (X k)) (X k)) := fun k => by rw [hA]; rfl
  obtain ⟨Z, hZ⟩ : ∃ Z : Nat → Oc.Sn, Z = fun k => Oc.sn n P p (Oc.at' n P p X (Oc.s0 d) k) (X k) := ⟨_, rfl⟩
  have HZA : Hid (∀ k, Z k = Oc.sn n P p (A k) (X k)) := fun k => by rw [hZ, hA]
  have HA0 : Hid (A 0 = Oc.s0 d) := by rw [hA]; rfl
  rw [← hZ, ← hA]
  clear hZ hA HSN HLT
  obtain ⟨ad, cw, rfl, hmw⟩ : ∃ ad cap, vw = .slice (some ad) D cap ∧ D ≤ maxLen := by
    obtain ⟨b, o, cap, e, hm, _⟩ := hw.form (by omega)
    exact ⟨_, cap, e, hm⟩
  have HNW := (show Hid (∀ W, Below w.heap.size w W → ∀ j u, (ints D d).toList[j]? = some u → W.cell? (ad.add j) = some u) from nums_list hw)
  have HON := (show Hid (∀ u ∈ (ints D d).toList, u.oneCell' = true) from ints_ones D d)
  have hzA : (w.alloc (.cells #[.slice ap P cp] 22)).heap.size = w.heap.size + 1 := by simp
  have how : ((w.alloc (.cells #[.slice ap P cp] 22)).alloc (.cells #[] 2)).ownsRow (w.heap.size + 1) 2 1 (.slice (some ⟨w.heap.size + 1, 0, none⟩) 0 0) 0 [] := by
    have := f_own_full (RowAt.new (w.alloc (.cells #[.slice ap P cp] 22)) 2 #[]) (Nat.le_refl _) rfl (by decide)
    rw [hzA] at this
    exact this
  have hb0 := (Below.refl w.heap.size w).alloc (Nat.le_refl _) (.cells #[.slice ap P cp] 22)
  have hb1 := hb0.alloc (by rw [hzA]; omega) (.cells #[] 2)
  have hrp := (RowAt.new w 22 #[.slice ap P cp]).alloc (.cells #[] 2)
  have HZ1 : Hid (w.heap.size + 1 ≤ ((w.alloc (.cells #[.slice ap P cp] 22)).alloc (.cells #[] 2)).heap.size) := by rw [Hid, World.size_alloc, hzA]; omega
  have HZ2 : Hid (w.heap.size ≤ ((w.alloc (.cells #[.slice ap P cp] 22)).alloc (.cells #[] 2)).heap.size) := Nat.le_of_succ_le HZ1.out
  have HWR : Hid (∀ W, Below w.heap.size w W → Calls Try.prog 14 #[.int .i64 n, .slice ap P cp, .int .i64 (D : Nat)] W fun e w' => W = w' ∧ e = .returned (.int .i64 0)) := fun W hb => by
    have := rwrg_any n _ P p D W (hp.below hb)
    rw [hE] at this
    exact this
  obtain ⟨_, _, e1, hmp⟩ := hp.len
  cases e1
  have HPP : Hid (NumsAt w (.slice ap P cp) P p) := hp
  have hmp0 := hmp
  obtain ⟨ac, cc, R0, rfl, hmc, hrc, hnc⟩ := hc
  have HRC := (show Hid (∀ i, i < K → ∃ b o, ac = some ⟨b, o, none⟩ ∧ w.rangeAt b (o + i * 6) (stc (X i) (R0 i)).toList) from hrc)
  have HNC := (show Hid (∀ i, i < K → NumsAt w (R0 i) (X i).tn (X i).tf) from hnc)
  unfold maxLen at hmw hmp hmc
  clear hw hp hrc hnc hE hpi hzA
  go_enter Try.func7, Try.ntmps7
  go_upto_region 2 with (first | (at_builtin; refine wpList_append_own _ rfl _ _ 23 rfl (w.heap.size + 1) 2 i0 (.int .i64 0) 1 8 Try.underlying23 hi0 hz0 hz1 hz2 rfl (by decide) _ _ _ rfl how ad D cw (ints D d).toList rfl (by rw [Array.length_toList, ints_size, Nat.mul_one]) (HNW.out _ hb1) HON.out (by unfold maxLen; omega) (by omega) HZ1.out ?_; intro v' w1 hown' hgrow hnil; rw [Nat.zero_add, List.nil_append] at hown'; have hbw := hb1.grown hgrow HZ2.out (fun p hp => Nat.le_of_succ_le (World.ownsRow.lt how p hp).1); have hrp1 := (Fr.of_own hgrow).row hrp (fun e => by have := (World.ownsRow.lt how _ (mem_ob.1 e)).1; omega); obtain ⟨g, cap', cur, rfl, hBg, hrg, hcg, _⟩ := own_words hown' (fun e => absurd (hnil.1 e).2 (by omega)); clear how hown' hgrow hnil hrp))
  have hgl := hrg.lt
  have hrd1 := RowAt.new w1 23 #[.slice (some ⟨g, 0, none⟩) D cap']
  have hrp2 := hrp1.alloc (.cells #[.slice (some ⟨g, 0, none⟩) D cap'] 23)
  have hrg2 := hrg.alloc (.cells #[.slice (some ⟨g, 0, none⟩) D cap'] 23)
  have hb2 := hbw.alloc hbw.size (.cells #[.slice (some ⟨g, 0, none⟩) D cap'] 23)
  have hz2' : (w1.alloc (.cells #[.slice (some ⟨g, 0, none⟩) D cap'] 23)).heap.size = w1.heap.size + 1 := by simp
  generalize w1.alloc (.cells #[.slice (some ⟨g, 0, none⟩) D cap'] 23) = W1 at *
  obtain ⟨bd, hbd⟩ : ∃ q, q = w1.heap.size := ⟨_, rfl⟩
  rw [← hbd] at hrd1 hgl hz2' ⊢
  clear hbd hrp1 hrg hbw hb0 hb1 HNW HON hi0 hz0 hz1 hz2
  have c1 : W1.cell? ⟨w.heap.size, 0, none⟩ = some (.slice ap P cp) := hrp2.cell rfl
  have c2 : W1.cell? ⟨bd, 0, none⟩ = some (.slice (some ⟨g, 0, none⟩) D cap') := hrd1.cell rfl
  go_wp2_with fail
  refine (HWR.out W1 hb2).mono ?_
  rintro e W2 ⟨rfl, rfl⟩
  clear HWR c1 c2
  have q1 := (((hrp2.alloc (.cells #[.int .i64 0] 30)).alloc (.cells #[.int .i64 0] 3)).alloc (.cells #[.int .i64 0] 3)).alloc (.cells #[.bool false] 4)
  have q2 := (((hrg2.alloc (.cells #[.int .i64 0] 30)).alloc (.cells #[.int .i64 0] 3)).alloc (.cells #[.int .i64 0] 3)).alloc (.cells #[.bool false] 4)
  have q3 := (((hrd1.alloc (.cells #[.int .i64 0] 30)).alloc (.cells #[.int .i64 0] 3)).alloc (.cells #[.int .i64 0] 3)).alloc (.cells #[.bool false] 4)
  have q4 := (((RowAt.new W1 30 #[.int .i64 0]).alloc (.cells #[.int .i64 0] 3)).alloc (.cells #[.int .i64 0] 3)).alloc (.cells #[.bool false] 4)
  have q5 := ((RowAt.new (W1.alloc (.cells #[.int .i64 0] 30)) 3 #[.int .i64 0]).alloc (.cells #[.int .i64 0] 3)).alloc (.cells #[.bool false] 4)
  have q6 := (RowAt.new ((W1.alloc (.cells #[.int .i64 0] 30)).alloc (.cells #[.int .i64 0] 3)) 3 #[.int .i64 0]).alloc (.cells #[.bool false] 4)
  have q7 := RowAt.new (((W1.alloc (.cells #[.int .i64 0] 30)).alloc (.cells #[.int .i64 0] 3)).alloc (.cells #[.int .i64 0] 3)) 4 #[.bool false]
  have hbq := (((hb2.alloc hb2.size (.cells #[.int .i64 0] 30)).alloc (by have := hb2.size; simp; omega) (.cells #[.int .i64 0] 3)).alloc (by have := hb2.size; simp; omega) (.cells #[.int .i64 0] 3)).alloc (by have := hb2.size; simp; omega) (.cells #[.bool false] 4)
  have e5 : (W1.alloc (.cells #[.int .i64 0] 30)).heap.size = W1.heap.size + 1 := by simp
  have e6 : ((W1.alloc (.cells #[.int .i64 0] 30)).alloc (.cells #[.int .i64 0] 3)).heap.size = W1.heap.size + 1 + 1 := by simp
  have e7 : (((W1.alloc (.cells #[.int .i64 0] 30)).alloc (.cells #[.int .i64 0] 3)).alloc (.cells #[.int .i64 0] 3)).heap.size = W1.heap.size + 1 + 1 + 1 := by simp
  rw [e5] at q5
  rw [e6] at q6
  rw [e7] at q7
  rw [hz2'] at q4 q5 q6 q7
  clear e5 e6 e7 hrp2 hrg2 hrd1 hb2
  go_wp2_with fail
  obtain ⟨be, hbe⟩ : ∃ q, q = bd + 1 := ⟨_, rfl⟩
  rw [← hbe] at q4 q5 q6 q7 ⊢
  obtain ⟨bs, hbs⟩ : ∃ q, q = be + 1 := ⟨_, rfl⟩
  rw [← hbs] at q5 q6 q7 ⊢
  obtain ⟨br, hbr⟩ : ∃ q, q = bs + 1 := ⟨_, rfl⟩
  rw [← hbr] at q6 q7 ⊢
  obtain ⟨bx, hbx⟩ : ∃ q, q = br + 1 := ⟨_, rfl⟩
  rw [← hbx] at q7 ⊢
  generalize (((W1.alloc (.cells #[.int .i64 0] 30)).alloc (.cells #[.int .i64 0] 3)).alloc (.cells #[.int .i64 0] 3)).alloc (.cells #[.bool false] 4) = W3 at *
  have h7 : Ro7 W3 ⟨g, w.heap.size, bd, be, bs, br, bx, 0⟩ (.slice ap P cp) D d 0 0 0 false := ⟨by simp; omega, q1, ⟨cap', cur, q3, q2, hcg, by unfold maxLen; omega⟩, q4, q5, q6, q7⟩
  have hbp1 : w.heap.size < g := hBg
  have hord : g < bd ∧ bd < be ∧ be < bs ∧ bs < br ∧ br < bx := by omega
  clear q1 q2 q3 q4 q5 q6 q7 hbe hbs hbr hbx hcg hz2' hgl hBg
  refine (rbegin_ok h7 hmp0 hD2).mono ?_
  rintro e W4 ⟨hf4, rfl, h74⟩
  have hx4 := h7.rx.lt
  have hbw4 : Below w.heap.size w W4 := hf4.below hbq hbq.size (fun k hk => by simp at hk; omega)
  have hs4 := hf4.size
  have hrl4 := RowAt.new W4 3 #[.int .i64 (-1)]
  have h75 := h74.below ((Below.refl _ _).alloc (Nat.le_refl _) (.cells #[.int .i64 (-1)] 3))
  have hb5 := hbw4.alloc hbw4.size (.cells #[.int .i64 (-1)] 3)
  have hx4' : bx < W4.heap.size := by have : bx < W3.heap.size := hx4; omega
  clear h7 h74 hf4 hbq hx4 hs4 hbw4
  go_upto_region 9 with fail
  generalize W4.alloc (.cells #[.int .i64 (-1)] 3) = W5 at *
  obtain ⟨bl, hbl⟩ : ∃ q, q = W4.heap.size := ⟨_, rfl⟩
  rw [← hbl] at hrl4 hx4' ⊢
  clear hbl
  obtain ⟨b, hb⟩ : ∃ b : Bk, b = ⟨g, w.heap.size, bd, be, bs, br, bx, bl⟩ := ⟨_, rfl⟩
  have eg : g = b.g := by rw [hb]
  have ep : w.heap.size = b.bp := by rw [hb]
  have ed : bd = b.bd := by rw [hb]
  have ee : be = b.be := by rw [hb]
  have es : bs = b.bs := by rw [hb]
  have er' : br = b.br := by rw [hb]
  have ex : bx = b.bx := by rw [hb]
  have el : bl = b.bl := by rw [hb]
  have hg0 : PrS w W5 b (.slice ap P cp) (.slice none 0 0) P D d (A 0) Z 0 (fun _ => .slice none 0 0) := by
    have e : Oc.dk d (Oc.s0 d) = d := by
      funext i
      unfold Oc.dk Oc.s0
      by_cases h0 : i = 0
      · rw [if_pos h0, h0]
      · rw [if_neg h0]
        by_cases h1 : i = 1
        · rw [if_pos h1, h1]
        · rw [if_neg h1]
    refine ⟨hb5, ?_, by rw [← ep]; exact Nat.le_refl _, OutS.nil _ _ _ _ _⟩
    rw [HA0.out]
    show RoS W5 b (.slice ap P cp) D (Oc.dk d (Oc.s0 d)) 0 (Oc.us P (d 0) : Nat) (Oc.us P (d 1) : Nat) false (-1)
    rw [e, hb]
    exact Ro7.all ⟨h75.ok, h75.rp, h75.rd, h75.re', h75.rs, h75.rr, h75.rx⟩ hx4' hrl4
  rw [ed, ee, es, er', ex, el, ep]
  have HEP : Hid (w.heap.size = b.bp) := ep
  clear h75 hb5 hrl4 hx4' hord hbp1 eg ep ed ee es er' ex el hb HA0
  go_wp2_with fail
  go_loopw [40, 18] (fun i y W => ∃ (k : Nat) (v : Value) (R : Nat → Value), k ≤ K ∧ i = .int .i64 (k : Nat) ∧ v = y ∧ PrS w W b (.slice ap P cp) v P D d (A k) Z k R) (fun i _ _ => ((K : Int) - intOf i).toNat)
  case atStart => exact ⟨0, _, _, by omega, rfl, rfl, hg0⟩
  case round =>
    clear hg0
    obtain ⟨k, v, R, hk, rfl, rfl, hg⟩ := hrel
    by_cases hlt : k < K
    case neg =>
      obtain rfl : k = K := by omega
      have hnl : ¬ ((k : Nat) : Int) < ((k : Nat) : Int) := by omega
      obtain ⟨cap2, cur2, r1, r2, r3, r4⟩ := hg.ro.rd
      have c0 : wr.cell? ⟨b.bd, 0, none⟩ = some (.slice (some ⟨b.g, 0, none⟩) D cap2) := r1.cell rfl
      have HNU : Hid (NumsAt wr (.slice (some ⟨b.g, 0, none⟩) D cap2) D (Oc.dk d (A k))) := ⟨_, _, rfl, r4, fun i hi => ⟨b.g, 0, rfl, by rw [Nat.zero_add]; exact r2.cell (r3 i hi)⟩⟩
      have HSE : Hid (SenAt wr v k Z) := own_sen hg.out.own hg.out.rows
      have hbe := hg.below
      clear hg HRC HNC HA1 HZA hlt r1 r2 r3 r4
      go_upto_region 46 with fail
      go_region
      all_goals
        go_wp2
        go_ret2
        exact ⟨_, _, rfl, by first | exact HSE.out | exact HSE.out.below (Below.refl _ _).drew, by first | exact HNU.out | exact HNU.out.below (Below.refl _ _).drew, by first | exact hbe | exact hbe.drew⟩
    obtain ⟨bc, oc, rfl, hr6⟩ := HRC.out k hlt
    obtain ⟨ar, cr, er, hmr⟩ := (HNC.out k hlt).len
    have hnr := HNC.out k hlt
    rw [er] at hr6 hnr
    have hr7 : wr.rangeAt bc (oc + k * 6) [.int .i64 (X k).pw, .bool (X k).op, .bool (X k).sd, .bool (X k).tk, .int .i64 (X k).pl, .slice ar (X k).tn cr] := rangeAt_belowO hr6 hg.below
    have HLT : Hid (k < K) := hlt
    have HS1 := HA1.out k
    have HZ1 := HZA.out k
    unfold maxLen at hmr
    clear er hr6
    generalize X k = x at *
    have hlt2 : (k : Int) < (K : Int) := by omega
    generalize A k = s at *
    have hra := RowAt.new wr 38 #[.int .i64 x.pw, .bool x.op, .bool x.sd, .bool x.tk, .int .i64 x.pl, .slice ar x.tn cr]
    have hga := hg.alloc (.cells #[.int .i64 x.pw, .bool x.op, .bool x.sd, .bool x.tk, .int .i64 x.pl, .slice ar x.tn cr] 38)
    have hpl := hg.l_ne (Nat.le_refl _)
    have hpw := hg.below.size
    go_upto_region 12 with (refine wpList_load_mid rfl 38 _ rfl bc (oc + k * 6) rfl [.int .i64 x.pw, .bool x.op, .bool x.sd, .bool x.tk, .int .i64 x.pl, .slice ar x.tn cr] _ hr7 Try.underlying38 rfl s_info_stp ?_)
    generalize wr.alloc (.cells #[.int .i64 x.pw, .bool x.op, .bool x.sd, .bool x.tk, .int .i64 x.pl, .slice ar x.tn cr] 38) = V at *
    obtain ⟨ps, hps⟩ : ∃ p, p = wr.heap.size := ⟨_, rfl⟩
    rw [← hps] at hra hpl hpw ⊢
    clear hps hr7 hg HRC HNC HA1 HZA
    have HNR := (show Hid (NumsAt w (.slice ar x.tn cr) x.tn x.tf) from hnr)
    have HS1' := (show Hid (A (k + 1) = Oc.nx n P p (Oc.pre s x) x) from HS1)
    have HZ1' := (show Hid (Z k = Oc.sn n P p s x) from HZ1)
    clear hnr HS1 HZ1
    have HPRE : Hid (Oc.pre s x = ⟨s.a, s.b, if x.pw = 0 then s.lf else wrap64 (x.pw - 1), if x.op then false else s.dd⟩) := rfl
    obtain ⟨L, hL⟩ : ∃ L, L = (if x.pw = 0 then s.lf else wrap64 (x.pw - 1)) := ⟨_, rfl⟩
    have HL := (show Hid (L = (if x.pw = 0 then s.lf else wrap64 (x.pw - 1))) from hL)
    rw [← hL] at HPRE
    clear hL
    have cs0 : V.cell? ⟨ps, 0, none⟩ = some (.int .i64 x.pw) := hra.cell rfl
    have hpbl : ps ≠ b.bl := fun e => hpl (by rw [e]; simp [Bk.l])
    go_upto_if 46 with fail
    go_cut [18] (fun z W => v = z ∧ RowAt W ps 38 #[.int .i64 x.pw, .bool x.op, .bool x.sd, .bool x.tk, .int .i64 x.pl, .slice ar x.tn cr] ∧ PrS w W b (.slice ap P cp) v P D d ⟨s.a, s.b, L, s.dd⟩ Z k R)
    case first =>
      by_cases hpw0 : x.pw = 0
      · have hp0 : (x.pw != 0) = false := by simp [hpw0]
        have HX : Hid (PrS w V b (.slice ap P cp) v P D d ⟨s.a, s.b, L, s.dd⟩ Z k R) := by rw [HL.out, if_pos hpw0]; exact hga
        clear hpw0 hga HPRE HS1' HZ1' HL
        go_wp2_with fail
        go_meet
        exact ⟨rfl, hra, HX.out⟩
      · have hp0 : (x.pw != 0) = true := by simp [hpw0]
        have HX : Hid (PrS w (V.setCell ⟨b.bl, 0, none⟩ (.int .i64 (wrap64 (x.pw - 1)))) b (.slice ap P cp) v P D d ⟨s.a, s.b, L, s.dd⟩ Z k R) := by rw [HL.out, if_neg hpw0]; exact hga.power _
        have HR1 : Hid (RowAt (V.setCell ⟨b.bl, 0, none⟩ (.int .i64 (wrap64 (x.pw - 1)))) ps 38 #[.int .i64 x.pw, .bool x.op, .bool x.sd, .bool x.tk, .int .i64 x.pl, .slice ar x.tn cr]) := hra.setOther ⟨b.bl, 0, none⟩ (.int .i64 (wrap64 (x.pw - 1))) hpbl
        have cq1 : V.cell? ⟨b.bl, 0, none⟩ = some (.int .i64 s.lf) := hga.ro.rl'.cell rfl
        have fq1 := hga.ro.rl'.frozen 0
        clear hpw0 hga hra HPRE HS1' HZ1' HL
        go_wp2_with fail
        go_meet
        exact ⟨rfl, HR1.out, HX.out⟩
    case rest =>
    obtain ⟨rfl, hr1, hg1⟩ := hcut
    obtain ⟨V1, hV1⟩ : ∃ V1, V1 = wc := ⟨_, rfl⟩
    rw [← hV1] at hr1 hg1 ⊢
    clear hV1 hra hga cs0 HL hpbl
    have cs1 : V1.cell? ⟨ps, 1, none⟩ = some (.bool x.op) := hr1.cell rfl
    go_upto_if 51 with fail
    go_cut [18, 43, 51] (fun z _ _ W => v = z ∧ RowAt W ps 38 #[.int .i64 x.pw, .bool x.op, .bool x.sd, .bool x.tk, .int .i64 x.pl, .slice ar x.tn cr] ∧ PrS w W b (.slice ap P cp) v P D d (Oc.pre s x) Z k R)
    case first =>
      cases hop : x.op with
      | true =>
        rw [hop] at HPRE cs1
        have HBG : Hid (Calls Try.prog 15 #[.pointer (some ⟨b.be, 0, none⟩), .pointer (some ⟨b.bp, 0, none⟩), .pointer (some ⟨b.bd, 0, none⟩), .pointer (some ⟨b.bs, 0, none⟩), .pointer (some ⟨b.br, 0, none⟩), .pointer (some ⟨b.bx, 0, none⟩)] V1 fun e w' => Fr [b.bs, b.br, b.bx] V1 w' ∧ e = .returned (.tuple #[]) ∧ Ro7 w' b (.slice ap P cp) D (Oc.dk d ⟨s.a, s.b, L, s.dd⟩) 0 (Oc.us P s.a : Nat) (Oc.us P s.b : Nat) false) := rbegin_ok hg1.ro.seven hmp0 hD2
        go_wp2_with fail
        refine HBG.out.mono ?_
        rintro e V2 ⟨hf2, rfl, h72⟩
        have hm : ∀ y, y ∈ [b.bs, b.br, b.bx] → y ∈ b.l := fun y hy => by simp at hy; simp [Bk.l]; omega
        have o := hg1.ro.ok
        have HX : Hid (PrS w V2 b (.slice ap P cp) v P D d (Oc.pre s x) Z k R) := by
          rw [HPRE.out]
          exact hg1.turned (s' := ⟨s.a, s.b, L, false⟩) (Ro7.all h72 o.2.2.2.2.2.2 (hf2.row hg1.ro.rl' (by simp; omega))) (hf2.mono hm)
        have HR1 := (show Hid (RowAt V2 ps 38 #[.int .i64 x.pw, .bool x.op, .bool x.sd, .bool x.tk, .int .i64 x.pl, .slice ar x.tn cr]) from hf2.row hr1 (fun e => hpl (hm _ e)))
        clear hg1 hf2 h72 hr1 cs1 HS1' HZ1' HPRE HBG hm o
        go_wp2_with fail
        go_meet
        exact ⟨rfl, HR1.out, HX.out⟩
      | false =>
        have HX : Hid (PrS w V1 b (.slice ap P cp) v P D d (Oc.pre s x) Z k R) := by
          rw [HPRE.out, hop]
          exact hg1
        rw [hop] at cs1
        have HR1 := (show Hid (RowAt V1 ps 38 #[.int .i64 x.pw, .bool x.op, .bool x.sd, .bool x.tk, .int .i64 x.pl, .slice ar x.tn cr]) from hr1)
        clear hg1 hr1 HS1' HZ1' HPRE
        go_wp2_with fail
        go_meet
        exact ⟨rfl, HR1.out, HX.out⟩
    case rest =>
    obtain ⟨rfl, hrs, hg2⟩ := hcut
    obtain ⟨V2, hV2⟩ : ∃ V2, V2 = wc := ⟨_, rfl⟩
    rw [← hV2] at hrs hg2 ⊢
    clear hV2 hr1 hg1 cs1 HPRE
    go_upto_region 16 with fail
    obtain ⟨s1, hs1⟩ : ∃ s1, s1 = Oc.pre s x := ⟨_, rfl⟩
    have HZ2 : Hid (Z k = ⟨Oc.sAt n P p s1 x, Oc.sTn n P p s1 x, Oc.sTf n P p s1 x, 0, Oc.er n P p s1 x, Oc.sLf P (Oc.nx n P p s1 x)⟩) := by rw [hs1]; exact HZ1'.out
    rw [← hs1] at HS1' hg2
    clear HZ1' hs1
    have ce : V2.cell? ⟨b.be, 0, none⟩ = some (.int .i64 0) := hg2.ro.re'.cell rfl
    have hxa := RowAt.new V2 32 #[.int .i64 0, .slice none 0 0, .int .i64 0, .int .i64 0, .int .i64 0]
    have hg3 := hg2.alloc (.cells #[.int .i64 0, .slice none 0 0, .int .i64 0, .int .i64 0, .int .i64 0] 32)
    have hrs3 := hrs.alloc (.cells #[.int .i64 0, .slice none 0 0, .int .i64 0, .int .i64 0, .int .i64 0] 32)
    have hxl := hg2.l_ne (Nat.le_refl _)
    have hxv := hg2.v_ne (Nat.le_refl _)
    have hxr := hg2.r_ne (Nat.le_refl _)
    have hxw := hg2.below.size
    have HPS := (show Hid (ps < V2.heap.size) from hrs.lt)
    have ce3 : (V2.alloc (.cells #[.int .i64 0, .slice none 0 0, .int .i64 0, .int .i64 0, .int .i64 0] 32)).cell? ⟨b.be, 0, none⟩ = some (.int .i64 0) := hg3.ro.re'.cell rfl
    have hxz : (V2.alloc (.cells #[.int .i64 0, .slice none 0 0, .int .i64 0, .int .i64 0, .int .i64 0] 32)).heap.size = V2.heap.size + 1 := by simp
    have HZL := (show Hid (∀ y, y ∈ b.l → y < V2.heap.size) from hg2.ro.lt)
    have HXZ := (show Hid _ from hxz)
    clear hxz
    go_upto_region 19 with fail
    generalize V2.alloc (.cells #[.int .i64 0, .slice none 0 0, .int .i64 0, .int .i64 0, .int .i64 0] 32) = V3 at *
    obtain ⟨px, hpx⟩ : ∃ p, p = V2.heap.size := ⟨_, rfl⟩
    rw [← hpx] at hxa hxl hxv hxr hxw HXZ HZL HPS ⊢
    clear hpx hg2 hrs ce ce3
    have HPX : Hid (ps ≠ px) := by have := hrs3.lt; have h2 := HXZ.out; have h3 := HPS.out; rw [Hid]; omega
    have HVV : Hid (∀ c, V3.heap.size ≤ c → v.ownBlock ≠ some c) := fun c hc => hg3.v_ne hc
    have s2 : V3.cell? ⟨ps, 2, none⟩ = some (.bool x.sd) := hrs3.cell rfl
    go_upto_if 63 with fail
    go_cut [18, 43, 63] (fun z _ _ W => v = z ∧ ∃ r, RowAt W px 32 #[.int .i64 (Z k).pl, r, .int .i64 0, .int .i64 (Z k).e2, .int .i64 0] ∧ PrS w W b (.slice ap P cp) v P D d (A (k + 1)) Z k R ∧ NumsAt W r (Z k).tn (Z k).tf ∧ (0 < (Z k).tn → ∀ c, r.ownBlock = some c → c ∉ b.l ∧ v.ownBlock ≠ some c ∧ c ≠ px))
    case first =>
      have cp3 : V3.cell? ⟨b.bp, 0, none⟩ = some (.slice ap P cp) := hg3.ro.rp.cell rfl
      have s5 : V3.cell? ⟨ps, 5, none⟩ = some (.slice ar x.tn cr) := hrs3.cell rfl
      have s4 : V3.cell? ⟨ps, 4, none⟩ = some (.int .i64 x.pl) := hrs3.cell rfl
      have s3 : V3.cell? ⟨ps, 3, none⟩ = some (.bool x.tk) := hrs3.cell rfl
      have HG3 := (show Hid (PrS w V3 b (.slice ap P cp) v P D d s1 Z k R) from hg3)
      have HXA := (show Hid (RowAt V3 px 32 #[.int .i64 0, .slice none 0 0, .int .i64 0, .int .i64 0, .int .i64 0]) from hxa)
      have HRS := (show Hid (RowAt V3 ps 38 #[.int .i64 x.pw, .bool x.op, .bool x.sd, .bool x.tk, .int .i64 x.pl, .slice ar x.tn cr]) from hrs3)
      have cs3 : V3.cell? ⟨b.bs, 0, none⟩ = some (.int .i64 (Oc.us P s1.a : Nat)) := hg3.ro.rs.cell rfl
      have cr3 : V3.cell? ⟨b.br, 0, none⟩ = some (.int .i64 (Oc.us P s1.b : Nat)) := hg3.ro.rr.cell rfl
      have cx3 : V3.cell? ⟨b.bx, 0, none⟩ = some (.bool s1.dd) := hg3.ro.rx.cell rfl
      clear hg3 hxa hrs3
      cases hsd : x.sd with
      | true =>
        rw [hsd] at s2
        have HNX : Hid (Oc.nx n P p s1 x = Oc.snS n P p s1 x) := by unfold Oc.nx; rw [hsd]; rfl
        have HZ3 : Hid (Z k = ⟨(if Oc.snE n P p s1 x = 0 then ((Oc.us P s1.a : Nat) : Int) else 0), if Oc.snE n P p s1 x = 0 then x.tn else 0, wrF n x.tf (Oc.on p (Oc.us P s1.a)), 0, Oc.snE n P p s1 x, Oc.sLf P (Oc.snS n P p s1 x)⟩) := by
          rw [Hid, HZ2.out, HNX.out]
          unfold Oc.sAt Oc.sTn Oc.sTf Oc.er
          rw [hsd]
          rfl
        have HZB : Hid (∀ E : Int, Oc.snE n P p s1 x = E → E ≠ 0 → Z k = ⟨0, 0, wrF n x.tf (Oc.on p (Oc.us P s1.a)), 0, E, Oc.sLf P (Oc.snS n P p s1 x)⟩) := fun E e e0 => by
          have e1 : ¬ Oc.snE n P p s1 x = 0 := by rw [e]; exact e0
          rw [HZ3.out, if_neg e1, if_neg e1, e]
        have HSB : Hid (∀ E : Int, Oc.snE n P p s1 x = E → E ≠ 0 → E ≠ 11 → Oc.snS n P p s1 x = s1) := fun E e e0 e11 => by
          unfold Oc.snS
          rw [e, if_neg e0, if_neg e11]
        clear hsd  HZ2
        have hul := Oc.us_le P s1.a
        obtain ⟨v', hsl, hsn⟩ := slice_from_nums HPP.out hul ⟨_, _, rfl, hpc⟩
        have HW : Hid (∀ W, Below V3.heap.size V3 W → Calls Try.prog 18 #[.int .i64 n, .slice ar x.tn cr, v'] W fun e w' => ∃ v, e = .returned (.tuple #[v, .int .i64 (txE n x.tn (P - (Oc.us P s1.a)) x.tf (Oc.on p (Oc.us P s1.a)))]) ∧ Ans w' v (rl (txE n x.tn (P - (Oc.us P s1.a)) x.tf (Oc.on p (Oc.us P s1.a))) x.tn) (wrF n x.tf (Oc.on p (Oc.us P s1.a))) ∧ New W v ∧ Below W.heap.size W w') := fun W hb => by
          have hbw := HG3.out.below.trans (hb.mono HG3.out.below.size)
          exact rwr_new n _ v' _ _ _ _ W (HNR.out.below hbw) (hsn W (HPP.out.below hbw))
        have HEE : Hid (Oc.snE n P p s1 x = if s1.dd = true then 9 else if txE n x.tn (P - (Oc.us P s1.a)) x.tf (Oc.on p (Oc.us P s1.a)) ≠ 0 then txE n x.tn (P - (Oc.us P s1.a)) x.tf (Oc.on p (Oc.us P s1.a)) else if s1.lf = 0 then 11 else 0) := rfl
        have HTX : Hid (txE n x.tn (P - (Oc.us P s1.a)) x.tf (Oc.on p (Oc.us P s1.a)) = 0 → (Oc.us P s1.a) + x.tn ≤ P) := fun e => by have := (txE_zero e).2.2.2.2.2; omega
        have HNE : Hid (txE n x.tn (P - (Oc.us P s1.a)) x.tf (Oc.on p (Oc.us P s1.a)) ≠ 11) := by
          rcases Oc.txE_ne (n := n) (nt := x.tn) (np := P - (Oc.us P s1.a)) (ft := x.tf) (fp := Oc.on p (Oc.us P s1.a)) with e | e | e | e | e <;> rw [Hid, e] <;> decide
        obtain ⟨E, hEE⟩ : ∃ E, E = txE n x.tn (P - (Oc.us P s1.a)) x.tf (Oc.on p (Oc.us P s1.a)) := ⟨_, rfl⟩
        rw [← hEE] at HEE HW HTX HNE
        clear hEE hsn
        obtain ⟨u, hu⟩ : ∃ u, u = Oc.us P s1.a := ⟨_, rfl⟩
        have HQU := (show Hid (u = Oc.us P s1.a) from hu)
        rw [← hu] at hsl hul cs3 HTX
        clear hu
        go_upto_region 20 with fail
        go_cut [22, 23] (fun l e W => ∃ av cv, l = .slice av (rl E x.tn) cv ∧ .int .i64 E = e ∧ NumsAt W (.slice av (rl E x.tn) cv) (rl E x.tn) (wrF n x.tf (Oc.on p (Oc.us P s1.a))) ∧ New V3 (.slice av (rl E x.tn) cv) ∧ Below V3.heap.size V3 W)
        case first =>
          have HW2 := (show Hid (∀ W, Below V3.heap.size V3 W → Calls Try.prog 18 #[.int .i64 n, .slice ar x.tn cr, v'] W fun e w' => ∃ v, e = .returned (.tuple #[v, .int .i64 E]) ∧ Ans w' v (rl E x.tn) (wrF n x.tf (Oc.on p (Oc.us P s1.a))) ∧ New W v ∧ Below W.heap.size W w') from HW.out)
          have s5L : Hid (ps < V3.heap.size) := cell_block s5
          have s4L : Hid (ps < V3.heap.size) := cell_block s4
          have cp3L : Hid (b.bp < V3.heap.size) := cell_block cp3
          have cs3L : Hid (b.bs < V3.heap.size) := cell_block cs3
          have hrw0 : Below V3.heap.size V3 V3.drew := (Below.refl _ _).drew
          obtain ⟨U, hU⟩ : ∃ U, U = V3.drew := ⟨_, rfl⟩
          refine wp_region_noPanic ?_
          refine wp_region_held_drew (S := fun W => Below V3.heap.size V3 W) (by kernel_rfl) hrw0 (fun hS => ?_)
          clear hrw0
          rw [← hU] at hS ⊢
          clear hU HW
          refine vtake 0 65 (.int .i64 n) rfl rfl (by kernel_rfl) (by kernel_rfl) (by kernel_rfl) (fun _ _ _ _ h => h) (by rfl) (fun W hW => by clear hS hW; go_simp) hS ?_
          simp only [List.setIfInBounds_toArray, List.set_cons_succ, List.set_cons_zero]
          refine vtake 1 66 (.pointer (some ⟨ps, 5, none⟩)) rfl rfl (by kernel_rfl) (by kernel_rfl) (by kernel_rfl) (fun _ _ _ _ h => h) (by rfl) (fun W hW => by clear hS hW; go_simp) hS ?_
          simp only [List.setIfInBounds_toArray, List.set_cons_succ, List.set_cons_zero]
          refine vtake 2 67 (.slice ar x.tn cr) rfl rfl (by kernel_rfl) (by kernel_rfl) (by kernel_rfl) (fun _ _ _ _ h => h) (by rfl) (fun W hW => by have uu := (hW.cell (p := ⟨ps, 5, none⟩) s5L.out).trans s5; clear hS hW; go_simp) hS ?_
          simp only [List.setIfInBounds_toArray, List.set_cons_succ, List.set_cons_zero]
          refine vtake 3 68 (.slice ap P cp) rfl rfl (by kernel_rfl) (by kernel_rfl) (by kernel_rfl) (fun _ _ _ _ h => h) (by rfl) (fun W hW => by have uu := (hW.cell (p := ⟨b.bp, 0, none⟩) cp3L.out).trans cp3; clear hS hW; go_simp) hS ?_
          simp only [List.setIfInBounds_toArray, List.set_cons_succ, List.set_cons_zero]
          refine vtake 4 69 (.int .i64 (u : Nat)) rfl rfl (by kernel_rfl) (by kernel_rfl) (by kernel_rfl) (fun _ _ _ _ h => h) (by rfl) (fun W hW => by have uu := (hW.cell (p := ⟨b.bs, 0, none⟩) cs3L.out).trans cs3; clear hS hW; go_simp) hS ?_
          simp only [List.setIfInBounds_toArray, List.set_cons_succ, List.set_cons_zero]
          refine vtake 5 70 (v') rfl rfl (by kernel_rfl) (by kernel_rfl) (by kernel_rfl) (fun _ _ _ _ h => h) (by rfl) (fun W hW => by have uu := hsl; clear hS hW; go_simp) hS ?_
          simp only [List.setIfInBounds_toArray, List.set_cons_succ, List.set_cons_zero]
          refine wpAnyH_ready (rs := [6]) (by kernel_rfl) (by simp) ?_
          refine AllReadyH.cons (o := _) rfl (fun K hK => ?_) AllReadyH.nil
          rw [if_pos (by rfl)]
          go_simp
          refine Calls.mono (HW2.out U hS) ?_
          rintro e Y ⟨vv, rfl, hvv, hnew, hbx⟩
          have hbY := hS.trans (hbx.mono hS.size)
          have hvn := hvv.2
          obtain ⟨⟨av, cv, rfl, _⟩, _⟩ := hvv
          refine hK.out _ _ hbY (fun hS1 => ?_)
          have HB1 := (show Hid (Below V3.heap.size V3 Y) from hbY)
          have HN1 : Hid (New V3 (.slice av (rl E x.tn) cv)) := hnew.below hS.size
          have HVN := (show Hid _ from hvn)
          clear hK hS K hnew hbx hvn hbY
          have hS := hS1
          clear hS1
          refine vtake 7 64 (.tuple #[.slice av (rl E x.tn) cv, .int .i64 E]) rfl rfl (by kernel_rfl) (by kernel_rfl) (by kernel_rfl) (fun _ _ _ _ h => h) (by rfl) (fun W hW => by clear hS hW; go_simp) hS ?_
          simp only [List.setIfInBounds_toArray, List.set_cons_succ, List.set_cons_zero]
          refine vtake 8 72 (.slice av (rl E x.tn) cv) rfl rfl (by kernel_rfl) (by kernel_rfl) (by kernel_rfl) (fun _ _ _ _ h => h) (by rfl) (fun W hW => by clear hS hW; go_simp) hS ?_
          simp only [List.setIfInBounds_toArray, List.set_cons_succ, List.set_cons_zero]
          refine vtake 9 73 (.int .i64 E) rfl rfl (by kernel_rfl) (by kernel_rfl) (by kernel_rfl) (fun _ _ _ _ h => h) (by rfl) (fun W hW => by clear hS hW; go_simp) hS ?_
          simp only [List.setIfInBounds_toArray, List.set_cons_succ, List.set_cons_zero]
          refine vtake 10 22 (.slice av (rl E x.tn) cv) rfl rfl (by kernel_rfl) (by kernel_rfl) (by kernel_rfl) (fun _ _ _ _ h => h) (by rfl) (fun W hW => by clear hS hW; go_simp) hS ?_
          simp only [List.setIfInBounds_toArray, List.set_cons_succ, List.set_cons_zero]
          refine vtake 11 23 (.int .i64 E) rfl rfl (by kernel_rfl) (by kernel_rfl) (by kernel_rfl) (fun _ _ _ _ h => h) (by rfl) (fun W hW => by clear hS hW; go_simp) hS ?_
          simp only [List.setIfInBounds_toArray, List.set_cons_succ, List.set_cons_zero]
          refine wpAnyH_done (by kernel_rfl) ?_ _
          refine NoPanic.normal ?_
          go_wp2_with fail
          go_meet
          exact ⟨av, cv, rfl, rfl, HVN.out, HN1.out, HB1.out⟩
        case rest =>
        obtain ⟨av, cv, rfl, rfl, hvn, hvw, hby⟩ := hcut
        obtain ⟨Y, hY⟩ : ∃ Y, Y = wc := ⟨_, rfl⟩
        rw [← hY] at hvn hby ⊢
        have HGY := (show Hid (PrS w Y b (.slice ap P cp) v P D d s1 Z k R) from HG3.out.step hby)
        have HX1 := (show Hid (RowAt Y px 32 #[.int .i64 0, .slice none 0 0, .int .i64 0, .int .i64 0, .int .i64 0]) from HXA.out.below hby HXA.out.lt)
        have HRY := (show Hid (RowAt Y ps 38 #[.int .i64 x.pw, .bool x.op, .bool x.sd, .bool x.tk, .int .i64 x.pl, .slice ar x.tn cr]) from HRS.out.below hby HRS.out.lt)
        have cxY : Y.cell? ⟨b.bx, 0, none⟩ = some (.bool s1.dd) := HGY.out.ro.rx.cell rfl
        have csY : Y.cell? ⟨b.bs, 0, none⟩ = some (.int .i64 (Oc.us P s1.a : Nat)) := HGY.out.ro.rs.cell rfl
        have s5Y : Y.cell? ⟨ps, 5, none⟩ = some (.slice ar x.tn cr) := HRY.out.cell rfl
        have s4Y : Y.cell? ⟨ps, 4, none⟩ = some (.int .i64 x.pl) := HRY.out.cell rfl
        have HVN := (show Hid (NumsAt Y (.slice av (rl E x.tn) cv) (rl E x.tn) (wrF n x.tf (Oc.on p (Oc.us P s1.a)))) from hvn)
        have HVW := (show Hid (New V3 (.slice av (rl E x.tn) cv)) from hvw)
        clear hY hvn hvw hby cp3 cs3 cr3 cx3 s2 s3 s4 s5 hsl HW
        cases hdd : s1.dd with
        | true =>
          have HB : Hid (Oc.snE n P p s1 x = 9) := by rw [Hid, HEE.out, if_pos hdd]
          have HZ4 := (show Hid (Z k = ⟨0, 0, wrF n x.tf (Oc.on p (Oc.us P s1.a)), 0, 9, Oc.sLf P (Oc.snS n P p s1 x)⟩) from HZB.out 9 HB.out (by decide))
          have HSS := (show Hid (Oc.snS n P p s1 x = s1) from HSB.out 9 HB.out (by decide) (by decide))
          rw [hdd] at cxY
          clear hdd HEE
          have hx := HX1.out
          have c3 := hx.cell (i := 3) rfl
          have f3 := hx.frozen 3
          have HY : Hid (RowAt (Y.setCell ⟨px, 3, none⟩ (.int .i64 9)) px 32 #[.int .i64 0, .slice none 0 0, .int .i64 0, .int .i64 9, .int .i64 0]) := hx.set 3 _
          have HG : Hid (PrS w (Y.setCell ⟨px, 3, none⟩ (.int .i64 9)) b (.slice ap P cp) v P D d (A (k + 1)) Z k R) := by
            rw [HS1'.out, HNX.out, HSS.out]
            exact HGY.out.other (Fr.set [px] Y 3 _ (by simp)) hxw hxl hxv hxr
          clear hx
          go_wp2_with fail
          go_meet
          exact ⟨rfl, .slice none 0 0, by rw [HZ4.out]; exact HY.out, HG.out, by rw [HZ4.out]; exact nums_nil _ _, fun h0 c hc => by cases hc⟩
        | false =>
          have HEE2 : Hid (Oc.snE n P p s1 x = if E ≠ 0 then E else if s1.lf = 0 then 11 else 0) := by rw [Hid, HEE.out, if_neg (by rw [hdd]; decide)]
          rw [hdd] at cxY
          clear hdd HEE
          have HEE := HEE2
          clear HEE2
          by_cases hE0 : E = 0
          · subst hE0
            have HZD : Hid ((if (0 : Int) ≠ 0 then (0 : Int) else if s1.lf = 0 then 11 else 0) = if s1.lf = 0 then 11 else 0) := rfl
            have HE2 : Hid (Oc.snE n P p s1 x = if s1.lf = 0 then 11 else 0) := by rw [Hid, HEE.out, HZD.out]
            have hut := HTX.out rfl
            have HRLN : Hid (rl 0 x.tn = x.tn) := rfl
            rw [HRLN.out] at HVN HVW ⊢
            have HPU : Hid (∀ z : Int, Calls Try.prog 17 #[.int .i64 0, .int .i64 z, .pointer (some ⟨b.bl, 0, none⟩), .pointer (some ⟨b.bx, 0, none⟩), .pointer (some ⟨b.bd, 0, none⟩)] Y fun e w' => RPutP Y w' b (.slice ap P cp) D (Oc.dk d s1) 0 (Oc.us P s1.a : Nat) (Oc.us P s1.b : Nat) s1.dd s1.lf 0 z e) := fun z => rput_any HGY.out.ro 0 (by omega) z
            rw [← HQU.out] at csY
            go_wp2_with fail
            refine (HPU.out _).mono ?_
            rintro e Y1 ⟨hf1, (⟨hl, rfl, ho⟩ | ⟨hl, rfl, ho⟩)⟩
            · have HB : Hid (Oc.snE n P p s1 x = 11) := by rw [Hid, HE2.out, if_pos hl]
              have HS11 : Hid (Oc.snS n P p s1 x = ⟨s1.a, s1.b, s1.lf, true⟩) := by unfold Oc.snS; rw [Hid, HB.out, if_neg (by decide), if_pos rfl]
              have HZ4 := (show Hid (Z k = ⟨0, 0, wrF n x.tf (Oc.on p (Oc.us P s1.a)), 0, 11, Oc.sLf P (Oc.snS n P p s1 x)⟩) from HZB.out 11 HB.out (by decide))
              have HG1 := (show Hid (PrS w Y1 b (.slice ap P cp) v P D d ⟨s1.a, s1.b, s1.lf, true⟩ Z k R) from HGY.out.turned (s' := ⟨s1.a, s1.b, s1.lf, true⟩) ho hf1)
              have hx := hf1.row HX1.out hxl
              have c3 := hx.cell (i := 3) rfl
              have f3 := hx.frozen 3
              have HY : Hid (RowAt (Y1.setCell ⟨px, 3, none⟩ (.int .i64 11)) px 32 #[.int .i64 0, .slice none 0 0, .int .i64 0, .int .i64 11, .int .i64 0]) := hx.set 3 _
              have HG : Hid (PrS w (Y1.setCell ⟨px, 3, none⟩ (.int .i64 11)) b (.slice ap P cp) v P D d (A (k + 1)) Z k R) := by
                rw [HS1'.out, HNX.out, HS11.out]
                exact HG1.out.other (Fr.set [px] Y1 3 _ (by simp)) hxw hxl hxv hxr
              clear hx hl ho hf1 HPU HEE HE2 csY cxY s5Y s4Y
              go_wp2_with fail
              go_meet
              exact ⟨rfl, .slice none 0 0, by rw [HZ4.out]; exact HY.out, HG.out, by rw [HZ4.out]; exact nums_nil _ _, fun h0 c hc => by cases hc⟩
            · have HB : Hid (Oc.snE n P p s1 x = 0) := by rw [Hid, HE2.out, if_neg hl]
              have HS0 : Hid (Oc.snS n P p s1 x = ⟨((Oc.us P s1.a + x.tn : Nat) : Int), s1.b, Oc.low s1.lf, s1.dd⟩) := by unfold Oc.snS; rw [Hid, if_pos HB.out]
              have HZ4 : Hid (Z k = ⟨((Oc.us P s1.a : Nat) : Int), x.tn, wrF n x.tf (Oc.on p (Oc.us P s1.a)), 0, 0, Oc.sLf P (Oc.snS n P p s1 x)⟩) := by rw [Hid, HZ3.out, if_pos HB.out, if_pos HB.out, HB.out]
              have hx1 := hf1.row HX1.out hxl
              have c0 := hx1.cell (i := 0) rfl
              have f0 := hx1.frozen 0
              have hx2 : RowAt (Y1.setCell ⟨px, 0, none⟩ (.int .i64 (u : Nat))) px 32 #[.int .i64 (u : Nat), .slice none 0 0, .int .i64 0, .int .i64 0, .int .i64 0] := hx1.set 0 _
              have c1 := hx2.cell (i := 1) rfl
              have f1 := hx2.frozen 1
              have hx3 : RowAt ((Y1.setCell ⟨px, 0, none⟩ (.int .i64 (u : Nat))).setCell ⟨px, 1, none⟩ (.slice av x.tn cv)) px 32 #[.int .i64 (u : Nat), .slice av x.tn cv, .int .i64 0, .int .i64 0, .int .i64 0] := hx2.set 1 _
              have hfx : Fr [px] Y1 ((Y1.setCell ⟨px, 0, none⟩ (.int .i64 (u : Nat))).setCell ⟨px, 1, none⟩ (.slice av x.tn cv)) := (Fr.set [px] Y1 0 _ (by simp)).trans (Fr.set [px] _ 1 _ (by simp))
              have hro := ho.fr hfx (fun y hy e => by simp only [List.mem_singleton] at e; subst e; exact hxl hy)
              have hro2 := hro.setS ((u + x.tn : Nat) : Int)
              have cq := hro.rs.cell (i := 0) rfl
              have fq := hro.rs.frozen 0
              have hps1 := hfx.row (hf1.row HRY.out hpl) (by simp only [List.mem_singleton]; exact HPX.out)
              have s5Z : ((Y1.setCell ⟨px, 0, none⟩ (.int .i64 (u : Nat))).setCell ⟨px, 1, none⟩ (.slice av x.tn cv)).cell? ⟨ps, 5, none⟩ = some (.slice ar x.tn cr) := hps1.cell rfl
              have s4Z : ((Y1.setCell ⟨px, 0, none⟩ (.int .i64 (u : Nat))).setCell ⟨px, 1, none⟩ (.slice av x.tn cv)).cell? ⟨ps, 4, none⟩ = some (.int .i64 x.pl) := hps1.cell rfl
              rw [← HQU.out] at cq
              have csZ : Y1.cell? ⟨b.bs, 0, none⟩ = some (.int .i64 (u : Nat)) := by rw [HQU.out]; exact ho.rs.cell rfl
              have hff : Fr (px :: b.l) Y (((Y1.setCell ⟨px, 0, none⟩ (.int .i64 (u : Nat))).setCell ⟨px, 1, none⟩ (.slice av x.tn cv)).setCell ⟨b.bs, 0, none⟩ (.int .i64 ((u + x.tn : Nat) : Int))) := ((hf1.mono (fun y hy => List.mem_cons_of_mem _ hy)).trans (hfx.mono (fun y hy => by simp only [List.mem_singleton] at hy; rw [hy]; exact List.mem_cons_self))).trans (Fr.set _ _ 0 _ (by simp [Bk.l]))
              have HRO : Hid (RoS (((Y1.setCell ⟨px, 0, none⟩ (.int .i64 (u : Nat))).setCell ⟨px, 1, none⟩ (.slice av x.tn cv)).setCell ⟨b.bs, 0, none⟩ (.int .i64 ((u + x.tn : Nat) : Int))) b (.slice ap P cp) D (Oc.dk d ⟨((Oc.us P s1.a + x.tn : Nat) : Int), s1.b, Oc.low s1.lf, s1.dd⟩) 0 (Oc.us P (⟨((Oc.us P s1.a + x.tn : Nat) : Int), s1.b, Oc.low s1.lf, s1.dd⟩ : Oc.St).a : Nat) (Oc.us P (⟨((Oc.us P s1.a + x.tn : Nat) : Int), s1.b, Oc.low s1.lf, s1.dd⟩ : Oc.St).b : Nat) s1.dd (Oc.low s1.lf)) := by
                have e2 : Oc.us P ((Oc.us P s1.a + x.tn : Nat) : Int) = Oc.us P s1.a + x.tn := Oc.us_in (by rw [← HQU.out]; exact hut)
                show RoS _ b _ D _ 0 (Oc.us P ((Oc.us P s1.a + x.tn : Nat) : Int) : Nat) (Oc.us P s1.b : Nat) s1.dd (Oc.low s1.lf)
                rw [e2, ← dk_set0 d s1 _ (Oc.low s1.lf) s1.dd, ← HQU.out, Int.natCast_add]
                exact hro2
              have HG : Hid (PrS w (((Y1.setCell ⟨px, 0, none⟩ (.int .i64 (u : Nat))).setCell ⟨px, 1, none⟩ (.slice av x.tn cv)).setCell ⟨b.bs, 0, none⟩ (.int .i64 ((u + x.tn : Nat) : Int))) b (.slice ap P cp) v P D d (A (k + 1)) Z k R) := by
                rw [HS1'.out, HNX.out, HS0.out]
                exact HGY.out.both (s' := ⟨((Oc.us P s1.a + x.tn : Nat) : Int), s1.b, Oc.low s1.lf, s1.dd⟩) HRO.out hff hxw hxv hxr
              have HY : Hid (RowAt (((Y1.setCell ⟨px, 0, none⟩ (.int .i64 (u : Nat))).setCell ⟨px, 1, none⟩ (.slice av x.tn cv)).setCell ⟨b.bs, 0, none⟩ (.int .i64 ((u + x.tn : Nat) : Int))) px 32 #[.int .i64 (u : Nat), .slice av x.tn cv, .int .i64 0, .int .i64 0, .int .i64 0]) := hx3.setOther _ _ (fun e => hxl (by rw [e]; simp [Bk.l]))
              have HNV : Hid (NumsAt (((Y1.setCell ⟨px, 0, none⟩ (.int .i64 (u : Nat))).setCell ⟨px, 1, none⟩ (.slice av x.tn cv)).setCell ⟨b.bs, 0, none⟩ (.int .i64 ((u + x.tn : Nat) : Int))) (.slice av x.tn cv) x.tn (wrF n x.tf (Oc.on p (Oc.us P s1.a)))) := hff.nums HVN.out (fun h0 c hc e => by
                have h1 := HVW.out c hc
                rcases List.mem_cons.1 e with rfl | e
                · have := HXZ.out; omega
                · have := HZL.out c e; have := HXZ.out; omega)
              have HAP : Hid (0 < x.tn → ∀ c, (Value.slice av x.tn cv).ownBlock = some c → c ∉ b.l ∧ v.ownBlock ≠ some c ∧ c ≠ px) := fun h0 c hc => ⟨fun e => by have h1 := HVW.out c hc; have := HZL.out c e; have := HXZ.out; omega, HVV.out c (HVW.out c hc), by have h1 := HVW.out c hc; have := HXZ.out; omega⟩
              have huw : ((u : Nat) : Int) + ((x.tn : Nat) : Int) = ((u + x.tn : Nat) : Int) := by omega
              have HUW := (show Hid _ from huw)
              clear hx1 hx2 hx3 hro hro2 hps1 hff hfx hl ho hf1 HPU HEE HE2 csY cxY s5Y s4Y huw
              go_wp2_with fail
              go_meet
              rw [← HUW.out] at HY HG HNV
              exact ⟨rfl, .slice av x.tn cv, by rw [HZ4.out]; show RowAt _ px _ #[.int .i64 (Oc.us P s1.a : Nat), _, _, _, _]; rw [← HQU.out]; exact HY.out, HG.out, by rw [HZ4.out]; exact HNV.out, by rw [HZ4.out]; exact HAP.out⟩
          · have hE1 : (E != 0) = true := by simpa using hE0
            have HB : Hid (Oc.snE n P p s1 x = E) := by rw [Hid, HEE.out, if_pos hE0]
            have HZ4 := (show Hid (Z k = ⟨0, 0, wrF n x.tf (Oc.on p (Oc.us P s1.a)), 0, E, Oc.sLf P (Oc.snS n P p s1 x)⟩) from HZB.out E HB.out hE0)
            have HSS := (show Hid (Oc.snS n P p s1 x = s1) from HSB.out E HB.out hE0 HNE.out)
            clear hE0 HEE
            have hx := HX1.out
            have c3 := hx.cell (i := 3) rfl
            have f3 := hx.frozen 3
            have HY : Hid (RowAt (Y.setCell ⟨px, 3, none⟩ (.int .i64 E)) px 32 #[.int .i64 0, .slice none 0 0, .int .i64 0, .int .i64 E, .int .i64 0]) := hx.set 3 _
            have HG : Hid (PrS w (Y.setCell ⟨px, 3, none⟩ (.int .i64 E)) b (.slice ap P cp) v P D d (A (k + 1)) Z k R) := by
              rw [HS1'.out, HNX.out, HSS.out]
              exact HGY.out.other (Fr.set [px] Y 3 _ (by simp)) hxw hxl hxv hxr
            clear hx
            go_wp2_with fail
            go_meet
            exact ⟨rfl, .slice none 0 0, by rw [HZ4.out]; exact HY.out, HG.out, by rw [HZ4.out]; exact nums_nil _ _, fun h0 c hc => by cases hc⟩
      | false =>
        rw [hsd] at s2
        cases htk : x.tk with
        | true =>
          rw [htk] at s3
          have HNX : Hid (Oc.nx n P p s1 x = Oc.tkS n P p s1 x) := by unfold Oc.nx; rw [hsd, htk]; rfl
          have HZ3 : Hid (Z k = ⟨0, if Oc.tkE n P p s1 x = 0 then x.tn else 0, rdF n x.tf (Oc.on p x.pl.toNat), 0, Oc.tkE n P p s1 x, Oc.sLf P (Oc.tkS n P p s1 x)⟩) := by
            rw [Hid, HZ2.out, HNX.out]
            unfold Oc.sAt Oc.sTn Oc.sTf Oc.er
            rw [hsd, htk]
            rfl
          have HZB : Hid (∀ E : Int, Oc.tkE n P p s1 x = E → E ≠ 0 → Z k = ⟨0, 0, rdF n x.tf (Oc.on p x.pl.toNat), 0, E, Oc.sLf P (Oc.tkS n P p s1 x)⟩) := fun E e e0 => by
            have e1 : ¬ Oc.tkE n P p s1 x = 0 := by rw [e]; exact e0
            rw [HZ3.out, if_neg e1, e]
          have HSB : Hid (∀ E : Int, Oc.tkE n P p s1 x = E → E ≠ 0 → E ≠ 11 → Oc.tkS n P p s1 x = s1) := fun E e e0 e11 => by
            unfold Oc.tkS
            rw [e, if_neg e0, if_neg e11]
          clear hsd htk HZ2
          have hul := Oc.us_le P s1.b
          have HEE : Hid (Oc.tkE n P p s1 x = if s1.dd = true then 9 else if x.pl < 0 ∨ (P : Int) < x.pl then 3 else if x.pl < (Oc.us P s1.b : Nat) then 10 else if txE n x.tn (P - x.pl.toNat) x.tf (Oc.on p x.pl.toNat) ≠ 0 then txE n x.tn (P - x.pl.toNat) x.tf (Oc.on p x.pl.toNat) else if s1.lf = 0 then 11 else 0) := rfl
          cases hdd : s1.dd with
          | true =>
            have HB : Hid (Oc.tkE n P p s1 x = 9) := by rw [Hid, HEE.out, if_pos hdd]
            have HZ4 := (show Hid (Z k = ⟨0, 0, rdF n x.tf (Oc.on p x.pl.toNat), 0, 9, Oc.sLf P (Oc.tkS n P p s1 x)⟩) from HZB.out 9 HB.out (by decide))
            have HSS := (show Hid (Oc.tkS n P p s1 x = s1) from HSB.out 9 HB.out (by decide) (by decide))
            rw [hdd] at cx3
            clear hdd HEE
            obtain ⟨Y, hY⟩ : ∃ Y, Y = V3 := ⟨_, rfl⟩
            have HGY := (show Hid (PrS w Y b (.slice ap P cp) v P D d s1 Z k R) from by rw [hY]; exact HG3.out)
            have HX1 := (show Hid (RowAt Y px 32 #[.int .i64 0, .slice none 0 0, .int .i64 0, .int .i64 0, .int .i64 0]) from by rw [hY]; exact HXA.out)
            rw [← hY] at s2 s3 s4 s5 cp3 cs3 cr3 cx3 ⊢
            clear hY
            have hx := HX1.out
            have c3 := hx.cell (i := 3) rfl
            have f3 := hx.frozen 3
            have HY : Hid (RowAt (Y.setCell ⟨px, 3, none⟩ (.int .i64 9)) px 32 #[.int .i64 0, .slice none 0 0, .int .i64 0, .int .i64 9, .int .i64 0]) := hx.set 3 _
            have HG : Hid (PrS w (Y.setCell ⟨px, 3, none⟩ (.int .i64 9)) b (.slice ap P cp) v P D d (A (k + 1)) Z k R) := by
              rw [HS1'.out, HNX.out, HSS.out]
              exact HGY.out.other (Fr.set [px] Y 3 _ (by simp)) hxw hxl hxv hxr
            clear hx
            go_wp2_with fail
            go_meet
            exact ⟨rfl, .slice none 0 0, by rw [HZ4.out]; exact HY.out, HG.out, by rw [HZ4.out]; exact nums_nil _ _, fun h0 c hc => by cases hc⟩
          | false =>
            rw [if_neg (by rw [hdd]; decide)] at HEE
            rw [hdd] at cx3
            clear hdd
            by_cases hr : x.pl < 0 ∨ (P : Int) < x.pl
            · have HB : Hid (Oc.tkE n P p s1 x = 3) := by rw [Hid, HEE.out, if_pos hr]
              have HZ4 := (show Hid (Z k = ⟨0, 0, rdF n x.tf (Oc.on p x.pl.toNat), 0, 3, Oc.sLf P (Oc.tkS n P p s1 x)⟩) from HZB.out 3 HB.out (by decide))
              have HSS := (show Hid (Oc.tkS n P p s1 x = s1) from HSB.out 3 HB.out (by decide) (by decide))
              clear HEE
              obtain ⟨Y, hY⟩ : ∃ Y, Y = V3 := ⟨_, rfl⟩
              have HGY := (show Hid (PrS w Y b (.slice ap P cp) v P D d s1 Z k R) from by rw [hY]; exact HG3.out)
              have HX1 := (show Hid (RowAt Y px 32 #[.int .i64 0, .slice none 0 0, .int .i64 0, .int .i64 0, .int .i64 0]) from by rw [hY]; exact HXA.out)
              rw [← hY] at s2 s3 s4 s5 cp3 cs3 cr3 cx3 ⊢
              clear hY
              rcases Int.lt_or_le x.pl 0 with h1 | h1
              · clear hr
                have hx := HX1.out
                have c3 := hx.cell (i := 3) rfl
                have f3 := hx.frozen 3
                have HY : Hid (RowAt (Y.setCell ⟨px, 3, none⟩ (.int .i64 3)) px 32 #[.int .i64 0, .slice none 0 0, .int .i64 0, .int .i64 3, .int .i64 0]) := hx.set 3 _
                have HG : Hid (PrS w (Y.setCell ⟨px, 3, none⟩ (.int .i64 3)) b (.slice ap P cp) v P D d (A (k + 1)) Z k R) := by
                  rw [HS1'.out, HNX.out, HSS.out]
                  exact HGY.out.other (Fr.set [px] Y 3 _ (by simp)) hxw hxl hxv hxr
                clear hx
                go_wp2_with fail
                go_meet
                exact ⟨rfl, .slice none 0 0, by rw [HZ4.out]; exact HY.out, HG.out, by rw [HZ4.out]; exact nums_nil _ _, fun h0 c hc => by cases hc⟩
              · have h2 : (P : Int) < x.pl := by omega
                have h3 : ¬ x.pl < 0 := by omega
                clear hr h1
                have hx := HX1.out
                have c3 := hx.cell (i := 3) rfl
                have f3 := hx.frozen 3
                have HY : Hid (RowAt (Y.setCell ⟨px, 3, none⟩ (.int .i64 3)) px 32 #[.int .i64 0, .slice none 0 0, .int .i64 0, .int .i64 3, .int .i64 0]) := hx.set 3 _
                have HG : Hid (PrS w (Y.setCell ⟨px, 3, none⟩ (.int .i64 3)) b (.slice ap P cp) v P D d (A (k + 1)) Z k R) := by
                  rw [HS1'.out, HNX.out, HSS.out]
                  exact HGY.out.other (Fr.set [px] Y 3 _ (by simp)) hxw hxl hxv hxr
                clear hx
                go_wp2_with fail
                go_meet
                exact ⟨rfl, .slice none 0 0, by rw [HZ4.out]; exact HY.out, HG.out, by rw [HZ4.out]; exact nums_nil _ _, fun h0 c hc => by cases hc⟩
            rw [if_neg hr] at HEE
            obtain ⟨k2, hk2⟩ : ∃ k2 : Nat, x.pl = (k2 : Int) := ⟨x.pl.toNat, by omega⟩
            have hkp : k2 ≤ P := by omega
            have hkt : x.pl.toNat = k2 := by omega
            have HK2 := (show Hid (x.pl = (k2 : Int)) from hk2)
            have HKT := (show Hid (x.pl.toNat = k2) from hkt)
            rw [hkt] at HEE HZ3 HZB
            rw [hk2] at HEE s4
            clear hr hk2 hkt
            have hk0 : ¬ ((k2 : Nat) : Int) < 0 := by omega
            have hkP : ¬ ((P : Nat) : Int) < ((k2 : Nat) : Int) := by omega
            obtain ⟨u, hu⟩ : ∃ u, u = Oc.us P s1.b := ⟨_, rfl⟩
            have HQU := (show Hid (u = Oc.us P s1.b) from hu)
            rw [← hu] at hul cr3 HEE
            clear hu
            by_cases hku : k2 < u
            · have HB : Hid (Oc.tkE n P p s1 x = 10) := by rw [Hid, HEE.out, if_pos (by omega)]
              have hku2 : ((k2 : Nat) : Int) < ((u : Nat) : Int) := by omega
              have HZ4 := (show Hid (Z k = ⟨0, 0, rdF n x.tf (Oc.on p k2), 0, 10, Oc.sLf P (Oc.tkS n P p s1 x)⟩) from HZB.out 10 HB.out (by decide))
              have HSS := (show Hid (Oc.tkS n P p s1 x = s1) from HSB.out 10 HB.out (by decide) (by decide))
              clear HEE
              obtain ⟨Y, hY⟩ : ∃ Y, Y = V3 := ⟨_, rfl⟩
              have HGY := (show Hid (PrS w Y b (.slice ap P cp) v P D d s1 Z k R) from by rw [hY]; exact HG3.out)
              have HX1 := (show Hid (RowAt Y px 32 #[.int .i64 0, .slice none 0 0, .int .i64 0, .int .i64 0, .int .i64 0]) from by rw [hY]; exact HXA.out)
              rw [← hY] at s2 s3 s4 s5 cp3 cs3 cr3 cx3 ⊢
              clear hY
              have hx := HX1.out
              have c3 := hx.cell (i := 3) rfl
              have f3 := hx.frozen 3
              have HY : Hid (RowAt (Y.setCell ⟨px, 3, none⟩ (.int .i64 10)) px 32 #[.int .i64 0, .slice none 0 0, .int .i64 0, .int .i64 10, .int .i64 0]) := hx.set 3 _
              have HG : Hid (PrS w (Y.setCell ⟨px, 3, none⟩ (.int .i64 10)) b (.slice ap P cp) v P D d (A (k + 1)) Z k R) := by
                rw [HS1'.out, HNX.out, HSS.out]
                exact HGY.out.other (Fr.set [px] Y 3 _ (by simp)) hxw hxl hxv hxr
              clear hx
              go_wp2_with fail
              go_meet
              exact ⟨rfl, .slice none 0 0, by rw [HZ4.out]; exact HY.out, HG.out, by rw [HZ4.out]; exact nums_nil _ _, fun h0 c hc => by cases hc⟩
            rw [if_neg (by omega)] at HEE
            have hku2 : ¬ ((k2 : Nat) : Int) < ((u : Nat) : Int) := by omega
            clear hku
            obtain ⟨v', hsl, hsn⟩ := slice_from_nums HPP.out hkp ⟨_, _, rfl, hpc⟩
            have HW : Hid (∀ W, Below V3.heap.size V3 W → Calls Try.prog 19 #[.int .i64 n, .slice ar x.tn cr, v'] W fun e w' => ∃ v, e = .returned (.tuple #[v, .int .i64 (txE n x.tn (P - k2) x.tf (Oc.on p k2))]) ∧ Ans w' v (rl (txE n x.tn (P - k2) x.tf (Oc.on p k2)) x.tn) (rdF n x.tf (Oc.on p k2)) ∧ New W v ∧ Below W.heap.size W w') := fun W hb => by
              have hbw := HG3.out.below.trans (hb.mono HG3.out.below.size)
              exact rrd_new n _ v' _ _ _ _ W (HNR.out.below hbw) (hsn W (HPP.out.below hbw))
            have HTX : Hid (txE n x.tn (P - k2) x.tf (Oc.on p k2) = 0 → k2 + x.tn ≤ P) := fun e => by have := (txE_zero e).2.2.2.2.2; omega
            have HNE : Hid (txE n x.tn (P - k2) x.tf (Oc.on p k2) ≠ 11) := by
              rcases Oc.txE_ne (n := n) (nt := x.tn) (np := P - k2) (ft := x.tf) (fp := Oc.on p k2) with e | e | e | e | e <;> rw [Hid, e] <;> decide
            obtain ⟨E, hEE⟩ : ∃ E, E = txE n x.tn (P - k2) x.tf (Oc.on p k2) := ⟨_, rfl⟩
            rw [← hEE] at HEE HW HTX HNE
            clear hEE hsn
            go_upto_region 36 with fail
            go_cut [24, 25] (fun l e W => ∃ av cv, l = .slice av (rl E x.tn) cv ∧ .int .i64 E = e ∧ NumsAt W (.slice av (rl E x.tn) cv) (rl E x.tn) (rdF n x.tf (Oc.on p k2)) ∧ New V3 (.slice av (rl E x.tn) cv) ∧ Below V3.heap.size V3 W)
            case first =>
              have HW2 := (show Hid (∀ W, Below V3.heap.size V3 W → Calls Try.prog 19 #[.int .i64 n, .slice ar x.tn cr, v'] W fun e w' => ∃ v, e = .returned (.tuple #[v, .int .i64 E]) ∧ Ans w' v (rl E x.tn) (rdF n x.tf (Oc.on p k2)) ∧ New W v ∧ Below W.heap.size W w') from HW.out)
              have s5L : Hid (ps < V3.heap.size) := cell_block s5
              have s4L : Hid (ps < V3.heap.size) := cell_block s4
              have cp3L : Hid (b.bp < V3.heap.size) := cell_block cp3
              have cs3L : Hid (b.bs < V3.heap.size) := cell_block cs3
              have hrw0 : Below V3.heap.size V3 V3.drew := (Below.refl _ _).drew
              obtain ⟨U, hU⟩ : ∃ U, U = V3.drew := ⟨_, rfl⟩
              refine wp_region_noPanic ?_
              refine wp_region_held_drew (S := fun W => Below V3.heap.size V3 W) (by kernel_rfl) hrw0 (fun hS => ?_)
              clear hrw0
              rw [← hU] at hS ⊢
              clear hU HW
              refine vtake 0 119 (.int .i64 n) rfl rfl (by kernel_rfl) (by kernel_rfl) (by kernel_rfl) (fun _ _ _ _ h => h) (by rfl) (fun W hW => by clear hS hW; go_simp) hS ?_
              simp only [List.setIfInBounds_toArray, List.set_cons_succ, List.set_cons_zero]
              refine vtake 1 120 (.pointer (some ⟨ps, 5, none⟩)) rfl rfl (by kernel_rfl) (by kernel_rfl) (by kernel_rfl) (fun _ _ _ _ h => h) (by rfl) (fun W hW => by clear hS hW; go_simp) hS ?_
              simp only [List.setIfInBounds_toArray, List.set_cons_succ, List.set_cons_zero]
              refine vtake 2 121 (.slice ar x.tn cr) rfl rfl (by kernel_rfl) (by kernel_rfl) (by kernel_rfl) (fun _ _ _ _ h => h) (by rfl) (fun W hW => by have uu := (hW.cell (p := ⟨ps, 5, none⟩) s5L.out).trans s5; clear hS hW; go_simp) hS ?_
              simp only [List.setIfInBounds_toArray, List.set_cons_succ, List.set_cons_zero]
              refine vtake 3 122 (.slice ap P cp) rfl rfl (by kernel_rfl) (by kernel_rfl) (by kernel_rfl) (fun _ _ _ _ h => h) (by rfl) (fun W hW => by have uu := (hW.cell (p := ⟨b.bp, 0, none⟩) cp3L.out).trans cp3; clear hS hW; go_simp) hS ?_
              simp only [List.setIfInBounds_toArray, List.set_cons_succ, List.set_cons_zero]
              refine vtake 4 123 (.pointer (some ⟨ps, 4, none⟩)) rfl rfl (by kernel_rfl) (by kernel_rfl) (by kernel_rfl) (fun _ _ _ _ h => h) (by rfl) (fun W hW => by clear hS hW; go_simp) hS ?_
              simp only [List.setIfInBounds_toArray, List.set_cons_succ, List.set_cons_zero]
              refine vtake 5 124 (.int .i64 (k2 : Nat)) rfl rfl (by kernel_rfl) (by kernel_rfl) (by kernel_rfl) (fun _ _ _ _ h => h) (by rfl) (fun W hW => by have uu := (hW.cell (p := ⟨ps, 4, none⟩) s4L.out).trans s4; clear hS hW; go_simp) hS ?_
              simp only [List.setIfInBounds_toArray, List.set_cons_succ, List.set_cons_zero]
              refine vtake 6 125 (v') rfl rfl (by kernel_rfl) (by kernel_rfl) (by kernel_rfl) (fun _ _ _ _ h => h) (by rfl) (fun W hW => by have uu := hsl; clear hS hW; go_simp) hS ?_
              simp only [List.setIfInBounds_toArray, List.set_cons_succ, List.set_cons_zero]
              refine wpAnyH_ready (rs := [7]) (by kernel_rfl) (by simp) ?_
              refine AllReadyH.cons (o := _) rfl (fun K hK => ?_) AllReadyH.nil
              rw [if_pos (by rfl)]
              go_simp
              refine Calls.mono (HW2.out U hS) ?_
              rintro e Y ⟨vv, rfl, hvv, hnew, hbx⟩
              have hbY := hS.trans (hbx.mono hS.size)
              have hvn := hvv.2
              obtain ⟨⟨av, cv, rfl, _⟩, _⟩ := hvv
              refine hK.out _ _ hbY (fun hS1 => ?_)
              have HB1 := (show Hid (Below V3.heap.size V3 Y) from hbY)
              have HN1 : Hid (New V3 (.slice av (rl E x.tn) cv)) := hnew.below hS.size
              have HVN := (show Hid _ from hvn)
              clear hK hS K hnew hbx hvn hbY
              have hS := hS1
              clear hS1
              refine vtake 8 118 (.tuple #[.slice av (rl E x.tn) cv, .int .i64 E]) rfl rfl (by kernel_rfl) (by kernel_rfl) (by kernel_rfl) (fun _ _ _ _ h => h) (by rfl) (fun W hW => by clear hS hW; go_simp) hS ?_
              simp only [List.setIfInBounds_toArray, List.set_cons_succ, List.set_cons_zero]
              refine vtake 9 127 (.slice av (rl E x.tn) cv) rfl rfl (by kernel_rfl) (by kernel_rfl) (by kernel_rfl) (fun _ _ _ _ h => h) (by rfl) (fun W hW => by clear hS hW; go_simp) hS ?_
              simp only [List.setIfInBounds_toArray, List.set_cons_succ, List.set_cons_zero]
              refine vtake 10 128 (.int .i64 E) rfl rfl (by kernel_rfl) (by kernel_rfl) (by kernel_rfl) (fun _ _ _ _ h => h) (by rfl) (fun W hW => by clear hS hW; go_simp) hS ?_
              simp only [List.setIfInBounds_toArray, List.set_cons_succ, List.set_cons_zero]
              refine vtake 11 24 (.slice av (rl E x.tn) cv) rfl rfl (by kernel_rfl) (by kernel_rfl) (by kernel_rfl) (fun _ _ _ _ h => h) (by rfl) (fun W hW => by clear hS hW; go_simp) hS ?_
              simp only [List.setIfInBounds_toArray, List.set_cons_succ, List.set_cons_zero]
              refine vtake 12 25 (.int .i64 E) rfl rfl (by kernel_rfl) (by kernel_rfl) (by kernel_rfl) (fun _ _ _ _ h => h) (by rfl) (fun W hW => by clear hS hW; go_simp) hS ?_
              simp only [List.setIfInBounds_toArray, List.set_cons_succ, List.set_cons_zero]
              refine wpAnyH_done (by kernel_rfl) ?_ _
              refine NoPanic.normal ?_
              go_wp2_with fail
              go_meet
              exact ⟨av, cv, rfl, rfl, HVN.out, HN1.out, HB1.out⟩
            case rest =>
            obtain ⟨av, cv, rfl, rfl, hvn, hvw, hby⟩ := hcut
            obtain ⟨Y, hY⟩ : ∃ Y, Y = wc := ⟨_, rfl⟩
            rw [← hY] at hvn hby ⊢
            have HGY := (show Hid (PrS w Y b (.slice ap P cp) v P D d s1 Z k R) from HG3.out.step hby)
            have HX1 := (show Hid (RowAt Y px 32 #[.int .i64 0, .slice none 0 0, .int .i64 0, .int .i64 0, .int .i64 0]) from HXA.out.below hby HXA.out.lt)
            have HRY := (show Hid (RowAt Y ps 38 #[.int .i64 x.pw, .bool x.op, .bool x.sd, .bool x.tk, .int .i64 x.pl, .slice ar x.tn cr]) from HRS.out.below hby HRS.out.lt)
            have cxY : Y.cell? ⟨b.bx, 0, none⟩ = some (.bool s1.dd) := HGY.out.ro.rx.cell rfl
            have csY : Y.cell? ⟨b.bs, 0, none⟩ = some (.int .i64 (Oc.us P s1.a : Nat)) := HGY.out.ro.rs.cell rfl
            have s5Y : Y.cell? ⟨ps, 5, none⟩ = some (.slice ar x.tn cr) := HRY.out.cell rfl
            have s4Y : Y.cell? ⟨ps, 4, none⟩ = some (.int .i64 (k2 : Nat)) := by rw [← HK2.out]; exact HRY.out.cell rfl
            have HVN := (show Hid (NumsAt Y (.slice av (rl E x.tn) cv) (rl E x.tn) (rdF n x.tf (Oc.on p k2))) from hvn)
            have HVW := (show Hid (New V3 (.slice av (rl E x.tn) cv)) from hvw)
            clear hY hvn hvw hby cp3 cs3 cr3 cx3 s2 s3 s4 s5 hsl HW
            by_cases hE0 : E = 0
            · subst hE0
              have HZD : Hid ((if (0 : Int) ≠ 0 then (0 : Int) else if s1.lf = 0 then 11 else 0) = if s1.lf = 0 then 11 else 0) := rfl
              have HE2 : Hid (Oc.tkE n P p s1 x = if s1.lf = 0 then 11 else 0) := by rw [Hid, HEE.out, HZD.out]
              have hut := HTX.out rfl
              have HRLN : Hid (rl 0 x.tn = x.tn) := rfl
              rw [HRLN.out] at HVN HVW ⊢
              have HPU : Hid (∀ z : Int, Calls Try.prog 17 #[.int .i64 1, .int .i64 z, .pointer (some ⟨b.bl, 0, none⟩), .pointer (some ⟨b.bx, 0, none⟩), .pointer (some ⟨b.bd, 0, none⟩)] Y fun e w' => RPutP Y w' b (.slice ap P cp) D (Oc.dk d s1) 0 (Oc.us P s1.a : Nat) (Oc.us P s1.b : Nat) s1.dd s1.lf 1 z e) := fun z => rput_any HGY.out.ro 1 (by omega) z

              go_wp2_with fail
              refine (HPU.out _).mono ?_
              rintro e Y1 ⟨hf1, (⟨hl, rfl, ho⟩ | ⟨hl, rfl, ho⟩)⟩
              · have HB : Hid (Oc.tkE n P p s1 x = 11) := by rw [Hid, HE2.out, if_pos hl]
                have HS11 : Hid (Oc.tkS n P p s1 x = ⟨s1.a, s1.b, s1.lf, true⟩) := by unfold Oc.tkS; rw [Hid, HB.out, if_neg (by decide), if_pos rfl]
                have HZ4 := (show Hid (Z k = ⟨0, 0, rdF n x.tf (Oc.on p k2), 0, 11, Oc.sLf P (Oc.tkS n P p s1 x)⟩) from HZB.out 11 HB.out (by decide))
                have HG1 := (show Hid (PrS w Y1 b (.slice ap P cp) v P D d ⟨s1.a, s1.b, s1.lf, true⟩ Z k R) from HGY.out.turned (s' := ⟨s1.a, s1.b, s1.lf, true⟩) ho hf1)
                have hx := hf1.row HX1.out hxl
                have c3 := hx.cell (i := 3) rfl
                have f3 := hx.frozen 3
                have HY : Hid (RowAt (Y1.setCell ⟨px, 3, none⟩ (.int .i64 11)) px 32 #[.int .i64 0, .slice none 0 0, .int .i64 0, .int .i64 11, .int .i64 0]) := hx.set 3 _
                have HG : Hid (PrS w (Y1.setCell ⟨px, 3, none⟩ (.int .i64 11)) b (.slice ap P cp) v P D d (A (k + 1)) Z k R) := by
                  rw [HS1'.out, HNX.out, HS11.out]
                  exact HG1.out.other (Fr.set [px] Y1 3 _ (by simp)) hxw hxl hxv hxr
                clear hx hl ho hf1 HPU HEE HE2 csY cxY s5Y s4Y
                go_wp2_with fail
                go_meet
                exact ⟨rfl, .slice none 0 0, by rw [HZ4.out]; exact HY.out, HG.out, by rw [HZ4.out]; exact nums_nil _ _, fun h0 c hc => by cases hc⟩
              · have HB : Hid (Oc.tkE n P p s1 x = 0) := by rw [Hid, HE2.out, if_neg hl]
                have HS0 : Hid (Oc.tkS n P p s1 x = ⟨s1.a, x.pl + (x.tn : Nat), Oc.low s1.lf, s1.dd⟩) := by unfold Oc.tkS; rw [Hid, if_pos HB.out]
                have HZ4 : Hid (Z k = ⟨0, x.tn, rdF n x.tf (Oc.on p k2), 0, 0, Oc.sLf P (Oc.tkS n P p s1 x)⟩) := by rw [Hid, HZ3.out, if_pos HB.out, HB.out]
                have hx1 := hf1.row HX1.out hxl
                have c1 := hx1.cell (i := 1) rfl
                have f1 := hx1.frozen 1
                have hx2 : RowAt (Y1.setCell ⟨px, 1, none⟩ (.slice av x.tn cv)) px 32 #[.int .i64 0, .slice av x.tn cv, .int .i64 0, .int .i64 0, .int .i64 0] := hx1.set 1 _
                have hfx : Fr [px] Y1 (Y1.setCell ⟨px, 1, none⟩ (.slice av x.tn cv)) := Fr.set [px] Y1 1 _ (by simp)
                have hro := ho.fr hfx (fun y hy e => by simp only [List.mem_singleton] at e; subst e; exact hxl hy)
                have hro2 := hro.setR ((k2 + x.tn : Nat) : Int)
                have cq := hro.rr.cell (i := 0) rfl
                have fq := hro.rr.frozen 0
                have hps1 := hfx.row (hf1.row HRY.out hpl) (by simp only [List.mem_singleton]; exact HPX.out)
                have s5Z : (Y1.setCell ⟨px, 1, none⟩ (.slice av x.tn cv)).cell? ⟨ps, 5, none⟩ = some (.slice ar x.tn cr) := hps1.cell rfl
                have s4Z : (Y1.setCell ⟨px, 1, none⟩ (.slice av x.tn cv)).cell? ⟨ps, 4, none⟩ = some (.int .i64 x.pl) := hps1.cell rfl
                rw [HK2.out] at s4Z
  
                have hff : Fr (px :: b.l) Y ((Y1.setCell ⟨px, 1, none⟩ (.slice av x.tn cv)).setCell ⟨b.br, 0, none⟩ (.int .i64 ((k2 + x.tn : Nat) : Int))) := ((hf1.mono (fun y hy => List.mem_cons_of_mem _ hy)).trans (hfx.mono (fun y hy => by simp only [List.mem_singleton] at hy; rw [hy]; exact List.mem_cons_self))).trans (Fr.set _ _ 0 _ (by simp [Bk.l]))
                have HRO : Hid (RoS ((Y1.setCell ⟨px, 1, none⟩ (.slice av x.tn cv)).setCell ⟨b.br, 0, none⟩ (.int .i64 ((k2 + x.tn : Nat) : Int))) b (.slice ap P cp) D (Oc.dk d ⟨s1.a, x.pl + (x.tn : Nat), Oc.low s1.lf, s1.dd⟩) 0 (Oc.us P (⟨s1.a, x.pl + (x.tn : Nat), Oc.low s1.lf, s1.dd⟩ : Oc.St).a : Nat) (Oc.us P (⟨s1.a, x.pl + (x.tn : Nat), Oc.low s1.lf, s1.dd⟩ : Oc.St).b : Nat) s1.dd (Oc.low s1.lf)) := by
                  have e2 : Oc.us P (x.pl + (x.tn : Nat)) = k2 + x.tn := by rw [HK2.out, ← Int.natCast_add]; exact Oc.us_in hut
                  show RoS _ b _ D _ 0 (Oc.us P s1.a : Nat) (Oc.us P (x.pl + (x.tn : Nat)) : Nat) s1.dd (Oc.low s1.lf)
                  rw [e2, ← dk_set1 d s1 _ (Oc.low s1.lf) s1.dd, HK2.out]
                  exact hro2
                have HG : Hid (PrS w ((Y1.setCell ⟨px, 1, none⟩ (.slice av x.tn cv)).setCell ⟨b.br, 0, none⟩ (.int .i64 ((k2 + x.tn : Nat) : Int))) b (.slice ap P cp) v P D d (A (k + 1)) Z k R) := by
                  rw [HS1'.out, HNX.out, HS0.out]
                  exact HGY.out.both (s' := ⟨s1.a, x.pl + (x.tn : Nat), Oc.low s1.lf, s1.dd⟩) HRO.out hff hxw hxv hxr
                have HY : Hid (RowAt ((Y1.setCell ⟨px, 1, none⟩ (.slice av x.tn cv)).setCell ⟨b.br, 0, none⟩ (.int .i64 ((k2 + x.tn : Nat) : Int))) px 32 #[.int .i64 0, .slice av x.tn cv, .int .i64 0, .int .i64 0, .int .i64 0]) := hx2.setOther _ _ (fun e => hxl (by rw [e]; simp [Bk.l]))
                have HNV : Hid (NumsAt ((Y1.setCell ⟨px, 1, none⟩ (.slice av x.tn cv)).setCell ⟨b.br, 0, none⟩ (.int .i64 ((k2 + x.tn : Nat) : Int))) (.slice av x.tn cv) x.tn (rdF n x.tf (Oc.on p k2))) := hff.nums HVN.out (fun h0 c hc e => by
                  have h1 := HVW.out c hc
                  rcases List.mem_cons.1 e with rfl | e
                  · have := HXZ.out; omega
                  · have := HZL.out c e; have := HXZ.out; omega)
                have HAP : Hid (0 < x.tn → ∀ c, (Value.slice av x.tn cv).ownBlock = some c → c ∉ b.l ∧ v.ownBlock ≠ some c ∧ c ≠ px) := fun h0 c hc => ⟨fun e => by have h1 := HVW.out c hc; have := HZL.out c e; have := HXZ.out; omega, HVV.out c (HVW.out c hc), by have h1 := HVW.out c hc; have := HXZ.out; omega⟩
                have huw : ((k2 : Nat) : Int) + ((x.tn : Nat) : Int) = ((k2 + x.tn : Nat) : Int) := by omega
                have HUW := (show Hid _ from huw)
                clear hx1 hx2 hro hro2 hps1 hff hfx hl ho hf1 HPU HEE HE2 csY cxY s5Y s4Y huw
                go_wp2_with fail
                go_meet
                rw [← HUW.out] at HY HG HNV
                exact ⟨rfl, .slice av x.tn cv, by rw [HZ4.out]; exact HY.out, HG.out, by rw [HZ4.out]; exact HNV.out, by rw [HZ4.out]; exact HAP.out⟩
            · have hE1 : (E != 0) = true := by simpa using hE0
              have HB : Hid (Oc.tkE n P p s1 x = E) := by rw [Hid, HEE.out, if_pos hE0]
              have HZ4 := (show Hid (Z k = ⟨0, 0, rdF n x.tf (Oc.on p k2), 0, E, Oc.sLf P (Oc.tkS n P p s1 x)⟩) from HZB.out E HB.out hE0)
              have HSS := (show Hid (Oc.tkS n P p s1 x = s1) from HSB.out E HB.out hE0 HNE.out)
              clear hE0 HEE
              have hx := HX1.out
              have c3 := hx.cell (i := 3) rfl
              have f3 := hx.frozen 3
              have HY : Hid (RowAt (Y.setCell ⟨px, 3, none⟩ (.int .i64 E)) px 32 #[.int .i64 0, .slice none 0 0, .int .i64 0, .int .i64 E, .int .i64 0]) := hx.set 3 _
              have HG : Hid (PrS w (Y.setCell ⟨px, 3, none⟩ (.int .i64 E)) b (.slice ap P cp) v P D d (A (k + 1)) Z k R) := by
                rw [HS1'.out, HNX.out, HSS.out]
                exact HGY.out.other (Fr.set [px] Y 3 _ (by simp)) hxw hxl hxv hxr
              clear hx
              go_wp2_with fail
              go_meet
              exact ⟨rfl, .slice none 0 0, by rw [HZ4.out]; exact HY.out, HG.out, by rw [HZ4.out]; exact nums_nil _ _, fun h0 c hc => by cases hc⟩
        | false =>
          rw [htk] at s3
          have HNX : Hid (Oc.nx n P p s1 x = s1) := by unfold Oc.nx; rw [hsd, htk]; rfl
          have HZ3 : Hid (Z k = ⟨0, 0, rdF n x.tf (Oc.on p x.pl.toNat), 0, 0, Oc.sLf P s1⟩) := by
            rw [Hid, HZ2.out, HNX.out]
            unfold Oc.sAt Oc.sTn Oc.sTf Oc.er
            rw [hsd, htk]
            rfl
          clear hsd htk HZ2 s4 s5 cp3 cs3 cr3 cx3
          go_wp2_with fail
          go_meet
          exact ⟨rfl, .slice none 0 0, by rw [HZ3.out]; exact HXA.out, by rw [HS1'.out, HNX.out]; exact HG3.out, by rw [HZ3.out]; exact nums_nil _ _, fun h0 c hc => by cases hc⟩
    case rest =>
    obtain ⟨rfl, r, hrw, hgg, hnn, hrl⟩ := hcut
    obtain ⟨V7, hV7⟩ : ∃ V7, V7 = wc := ⟨_, rfl⟩
    rw [← hV7] at hrw hgg hnn ⊢
    obtain ⟨ar2, cr2, rfl, hmr2⟩ := hnn.len
    have HLL : Hid ((Z k).lf = ((P - Oc.us P (A (k + 1)).a : Nat) : Int)) := by rw [Hid, HZ2.out, HS1'.out]; rfl
    have HE1 : Hid ((Z k).e1 = 0) := by rw [Hid, HZ2.out]
    have hule := Oc.us_le P (A (k + 1)).a
    have cb1 : V7.cell? ⟨b.bp, 0, none⟩ = some (.slice ap P cp) := hgg.ro.rp.cell rfl
    have cb2 : V7.cell? ⟨b.bs, 0, none⟩ = some (.int .i64 (Oc.us P (A (k + 1)).a : Nat)) := hgg.ro.rs.cell rfl
    generalize Oc.us P (A (k + 1)).a = ue at *
    obtain ⟨z, hz⟩ : ∃ z, z = Z k := ⟨_, rfl⟩
    have HZZ := (show Hid (z = Z k) from hz)
    rw [← hz] at hrw hnn hrl HLL HE1
    have HNN := (show Hid (NumsAt V7 (.slice ar2 z.tn cr2) z.tn z.tf) from hnn)
    have HRL := (show Hid (0 < z.tn → ∀ c, (Value.slice ar2 z.tn cr2).ownBlock = some c → c ∉ b.l ∧ v.ownBlock ≠ some c ∧ c ≠ px) from hrl)
    obtain ⟨LL, hLL⟩ : ∃ t : Int, t = ((P - ue : Nat) : Int) := ⟨_, rfl⟩
    have hLL2 : ((P : Nat) : Int) - ((ue : Nat) : Int) = LL := by omega
    rw [← hLL] at HLL
    clear hLL
    have c4 := hrw.cell (i := 4) rfl
    have f4 := hrw.frozen 4
    have hx7 : RowAt (V7.setCell ⟨px, 4, none⟩ (.int .i64 LL)) px 32 #[.int .i64 z.pl, .slice ar2 z.tn cr2, .int .i64 z.e1, .int .i64 z.e2, .int .i64 z.lf] := by rw [HE1.out, HLL.out]; exact hrw.set 4 _
    have hf7 : Fr [px] V7 (V7.setCell ⟨px, 4, none⟩ (.int .i64 LL)) := Fr.set [px] V7 4 _ (by simp)
    have hg7 := hgg.other hf7 hxw hxl hxv hxr
    have HN7 : Hid (NumsAt (V7.setCell ⟨px, 4, none⟩ (.int .i64 LL)) (.slice ar2 z.tn cr2) z.tn z.tf) := hf7.nums HNN.out (fun h0 c hc e => by
      simp only [List.mem_singleton] at e
      exact (HRL.out h0 c hc).2.2 e)
    clear hV7 hnn hrl hxl hxv hxr hxw HZL HZ2 HS1' hmr2 hz hrw HNR hgg HNN hpl
    go_upto_region 44 with fail
    generalize V7.setCell ⟨px, 4, none⟩ (.int .i64 LL) = V8 at *
    clear c4 f4 hf7 cb1 cb2 hLL2
    have hrow : RowAt V8 px 32 #[.int .i64 z.pl, .slice ar2 z.tn cr2, .int .i64 z.e1, .int .i64 z.e2, .int .i64 z.lf] := hx7
    have HB1 : Hid (k + 1 ≤ maxLen) := sen_len HLT.out hmc
    have HB2 : Hid (((k + 1) + (k + 1) / 4 + 192) * 56 ≤ 281474976710656) := sen_bytes HLT.out hK
    have HB3 : Hid (w.heap.size ≤ (V8.alloc (.cells #[.int .i64 z.pl, .slice ar2 z.tn cr2, .int .i64 z.e1, .int .i64 z.e2, .int .i64 z.lf] 32)).heap.size) := by have := hg7.below.size; rw [Hid, World.size_alloc]; exact Nat.le_succ_of_le this
    clear hx7
    go_wp2_with (first | refine wpList_load_row rfl 32 _ rfl px rfl 32 #[.int .i64 z.pl, .slice ar2 z.tn cr2, .int .i64 z.e1, .int .i64 z.e2, .int .i64 z.lf] (0, 0) _ hrow Try.underlying32 rfl s_info_sen ?_ | refine wpList_build1c rfl 25 32 _ rfl 5 #[.int .i64 0, .slice none 0 0, .int .i64 0, .int .i64 0, .int .i64 0] #[.int .i64 z.pl, .slice ar2 z.tn cr2, .int .i64 z.e1, .int .i64 z.e2, .int .i64 z.lf] rfl (by decide) (by decide) Try.underlying25 rfl rfl s_zs_sen ?_ | (at_builtin; refine wpList_append_wide_at rfl _ _ 25 rfl w.heap.size 32 j0 (.agg #[.int .i64 0, .slice none 0 0, .int .i64 0, .int .i64 0, .int .i64 0]) 5 56 Try.underlying25 hj0 hy0 hy1 hy2 rfl (by decide) _ _ _ rfl (World.ownsRow.alloc hg7.out.own _) ⟨V8.heap.size, 0, none⟩ 1 1 (#[.int .i64 z.pl, .slice ar2 z.tn cr2, .int .i64 z.e1, .int .i64 z.e2, .int .i64 z.lf] : Array Value).toList rfl rfl (sen_new V8 _) (sen_ones _ _ _ _ _ _ _) (by decide) HB1.out HB2.out HB3.out ?_; intro v5 w5 hown5 hgrow5 hat5))
    have hgn : PrS w w5 b (.slice ap P cp) v5 P D d (A (k + 1)) Z (k + 1) (fun i => if i = k then .slice ar2 z.tn cr2 else R i) := by
      refine hg7.push (r := .slice ar2 z.tn cr2) (by rw [← HZZ.out]; exact HN7.out) (by rw [← HZZ.out]; exact fun h0 c hc => ⟨(HRL.out h0 c hc).1, (HRL.out h0 c hc).2.1⟩) ?_ hgrow5 hat5
      rw [← HZZ.out]
      exact hown5
    clear hown5 hgrow5 hat5 hg7 hrow
    go_roundw
    case rel => exact ⟨k + 1, v5, _, HLT.out, by go_num, rfl, hgn⟩
    case measure => have := HLT.out; simp [intOf]; omega
end Go.Proofs.Ytlfghnngbljlhaa
