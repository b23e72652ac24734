/-
  The document's Play (chapter 16), where something is wrong.
-/
import Derived.Test.YtlfghnngbljlhaaOfRb
import Derived.Test.YtlfghnngbljlhaaClK
import Derived.Deep.DeepCutAuto
namespace Go.Proofs.Ytlfghnngbljlhaa
open Go.RowKit PK Pd

/-- No office of the document's, and what was seen of it. -/
structure PqS (w W : World) (b : Bk) (vp v : Value) (D : Nat) (d : Nat → Int) (E : Int) (Z : Nat → Oc.Sn) (k : Nat) (R : Nat → Value) : Prop where
  below : Below w.heap.size w W
  ro : ∃ lf, RoS W b vp D d E 0 0 false lf
  b1 : w.heap.size ≤ b.bp
  out : OutS W w.heap.size b.l v Z k R
section
variable {w W W' : World} {b : Bk} {vp v : Value} {D k : Nat} {d : Nat → Int} {E : Int} {Z : Nat → Oc.Sn} {R : Nat → Value}
theorem RoS.ltB {se re lf : Int} {dd : Bool} (h : RoS W b vp D d E se re dd lf) : ∀ x, x ∈ b.l → x < W.heap.size ∧ b.bp ≤ x := fun x hx => by
  have o := h.ok
  have h1 := h.rl'.lt
  simp [Bk.l] at hx
  omega
theorem PqS.step (h : PqS w W b vp v D d E Z k R) (hb : Below W.heap.size W W') : PqS w W' b vp v D d E Z k R := by
  obtain ⟨lf, hd⟩ := h.ro
  exact ⟨h.below.trans (hb.mono h.below.size), ⟨lf, hd.below hb⟩, h.b1, h.out.below hb⟩
theorem PqS.alloc (h : PqS w W b vp v D d E Z k R) (ob : Obj) : PqS w (W.alloc ob) b vp v D d E Z k R := h.step ((Below.refl _ _).alloc (Nat.le_refl _) ob)
theorem PqS.power (h : PqS w W b vp v D d E Z k R) (l : Int) : PqS w (W.setCell ⟨b.bl, 0, none⟩ (.int .i64 l)) b vp v D d E Z k R := by
  obtain ⟨lf, hd⟩ := h.ro
  have hf : Fr b.l W (W.setCell ⟨b.bl, 0, none⟩ (.int .i64 l)) := Fr.set _ _ 0 _ (by simp [Bk.l])
  exact ⟨hf.below h.below h.below.size (fun x hx => Nat.le_trans h.b1 (hd.ltB x hx).2), ⟨l, hd.setL l⟩, h.b1, h.out.fr hf (fun _ hx => .inl hx)⟩
theorem PqS.push (h : PqS w W b vp v D d E Z k R) {r : Value} (hr : NumsAt W r (Z k).tn (Z k).tf) (hrl : 0 < (Z k).tn → ∀ c, r.ownBlock = some c → c ∉ b.l ∧ v.ownBlock ≠ some c) {oj : Obj} {v5 : Value} {w5 : World}
    (hown : w5.ownsRow w.heap.size 32 5 v5 (k + 1) (sel Z R k ++ (sec (Z k) r).toList)) (hg : (W.alloc oj).grownBy w5 v.ownBlock) (hat : v5.ownBlock = v.ownBlock ∨ v5.ownBlock = some (W.alloc oj).heap.size) : PqS w w5 b vp v5 D d E Z (k + 1) (fun i => if i = k then r else R i) := by
  have ha := h.alloc oj
  have hf := Fr.of_own hg
  have hne := h.out.ne
  obtain ⟨lf, hd⟩ := ha.ro
  obtain ⟨lf0, hd0⟩ := h.ro
  exact ⟨hf.below ha.below ha.below.size (fun x hx => (World.ownsRow.lt h.out.own x (mem_ob.1 hx)).1), ⟨lf, hd.fr hf (fun x hx e => hne x (mem_ob.1 e) hx)⟩, h.b1, h.out.push (fun x hx => (hd0.ltB x hx).1) hr hrl hown hg hat⟩
end
set_option maxRecDepth 100000 in
set_option maxHeartbeats 8000000 in
theorem rplay_bad (n : Int) (ap : Option Addr) (cp : Nat) (vw vc : Value) (P : Nat) (p : Nat → Int) (D : Nat) (d : Nat → Int) (K : Nat) (X : Nat → Oc.Sp) (w : World) (hp : NumsAt w (.slice ap P cp) P p) (hwc : ∀ c, vw = .slice none 0 c → c = 0) (hw : NumsAt w vw D d) (hc : StpAt w vc K X) (hD : D * 8 ≤ 140737488355328) (hK : (K + K / 4 + 192) * 56 ≤ 281474976710656) (hE : Oc.opE n P p D ≠ 0) : Calls Try.prog 7 #[.int .i64 n, .slice ap P cp, vw, vc] w fun e w' => ∃ v u, e = .returned (.tuple #[v, u]) ∧ SenAt w' v K (Oc.seen n P p D X (Oc.s0 d)) ∧ NumsAt w' u D (Oc.last n P p D d X K) ∧ Below w.heap.size w w' := by
  obtain ⟨i0, hi0, hz0, hz1, hz2⟩ := x_info_parts g_info_64
  obtain ⟨j0, hj0, hy0, hy1, hy2⟩ := x_info_parts s_all_sen
  obtain ⟨E, hE0⟩ : ∃ E, E = Oc.opE n P p D := ⟨_, rfl⟩
  obtain ⟨Z, hZ⟩ : ∃ Z : Nat → Oc.Sn, Z = fun _ => Oc.snB E := ⟨_, rfl⟩
  have HSN : Hid (Oc.seen n P p D X (Oc.s0 d) = Z) := by
    rw [Hid, hZ]
    funext k
    unfold Oc.seen
    rw [if_neg hE, hE0]
  have HLT : Hid (Oc.last n P p D d X K = d) := by unfold Oc.last; rw [Hid, if_neg hE]
  have HZA : Hid (∀ k, Z k = Oc.snB E) := fun k => by rw [hZ]
  rw [HSN.out, HLT.out]
  have hEE : E ≠ 0 := by rw [hE0]; exact hE
  obtain ⟨aw, cw, rfl, hmw⟩ := hw.len
  have hzA : (w.alloc (.cells #[.slice ap P cp] 22)).heap.size = w.heap.size + 1 := by simp
  have how : ((w.alloc (.cells #[.slice ap P cp] 22)).alloc (.cells #[] 2)).ownsRow (w.heap.size + 1) 2 1 (.slice (some ⟨w.heap.size + 1, 0, none⟩) 0 0) 0 [] := by
    have := f_own_full (RowAt.new (w.alloc (.cells #[.slice ap P cp] 22)) 2 #[]) (Nat.le_refl _) rfl (by decide)
    rw [hzA] at this
    exact this
  have hb0 := (Below.refl w.heap.size w).alloc (Nat.le_refl _) (.cells #[.slice ap P cp] 22)
  have hb1 := hb0.alloc (by rw [hzA]; omega) (.cells #[] 2)
  have hrp := (RowAt.new w 22 #[.slice ap P cp]).alloc (.cells #[] 2)
  have HZ1 : Hid (w.heap.size + 1 ≤ ((w.alloc (.cells #[.slice ap P cp] 22)).alloc (.cells #[] 2)).heap.size) := by rw [Hid, World.size_alloc, hzA]; omega
  have HZ2 : Hid (w.heap.size ≤ ((w.alloc (.cells #[.slice ap P cp] 22)).alloc (.cells #[] 2)).heap.size) := Nat.le_of_succ_le HZ1.out
  have HZ3 : Hid (((w.alloc (.cells #[.slice ap P cp] 22)).alloc (.cells #[] 2)).heap.size = w.heap.size + 1 + 1) := by rw [Hid, World.size_alloc, hzA]
  have hr00 : RowAt ((w.alloc (.cells #[.slice ap P cp] 22)).alloc (.cells #[] 2)) (w.heap.size + 1) 2 #[] := by
    have := RowAt.new (w.alloc (.cells #[.slice ap P cp] 22)) 2 #[]
    rw [hzA] at this
    exact this
  have HWR : Hid (∀ W, Below w.heap.size w W → Calls Try.prog 14 #[.int .i64 n, .slice ap P cp, .int .i64 (D : Nat)] W fun e w' => W = w' ∧ e = .returned (.int .i64 E)) := fun W hb => by
    have := rwrg_any n _ P p D W (hp.below hb)
    rw [← hE0] at this
    exact this
  obtain ⟨_, _, e1, hmp⟩ := hp.len
  cases e1
  obtain ⟨ac, cc, R0, rfl, hmc, hrc, hnc⟩ := hc
  have HRC := (show Hid (∀ i, i < K → ∃ b o, ac = some ⟨b, o, none⟩ ∧ w.rangeAt b (o + i * 6) (stc (X i) (R0 i)).toList) from hrc)
  have HNC := (show Hid (∀ i, i < K → NumsAt w (R0 i) (X i).tn (X i).tf) from hnc)
  unfold maxLen at hmw hmp hmc
  clear hp hrc hnc hE hzA hE0 hZ HSN HLT
  cases aw with
  | none =>
    obtain rfl := nums_none hw
    have hcw : cw = 0 := hwc cw rfl
    subst hcw
    clear hw hwc
    go_enter Try.func7, Try.ntmps7
    go_upto_region 2 with (first | (at_builtin; refine wpList_append_own_none rfl _ _ 23 rfl (w.heap.size + 1) 2 i0 1 Try.underlying23 hi0 _ _ _ rfl how rfl ?_))
    obtain ⟨g, hg⟩ : ∃ g, g = w.heap.size + 1 := ⟨_, rfl⟩
    obtain ⟨w1, hw1⟩ : ∃ W, W = (w.alloc (.cells #[.slice ap P cp] 22)).alloc (.cells #[] 2) := ⟨_, rfl⟩
    have hrg : RowAt w1 g 2 #[] := by rw [hw1, hg]; exact hr00
    have hbw : Below w.heap.size w w1 := by rw [hw1]; exact hb1
    have hrp1 : RowAt w1 w.heap.size 22 #[.slice ap P cp] := by rw [hw1]; exact hrp
    have hBg : w.heap.size + 1 ≤ g := by omega
    have HW1 : Hid (w1.heap.size = g + 1) := by rw [Hid, hw1, hg]; exact HZ3.out
    obtain ⟨cur, hcur⟩ : ∃ c : Array Value, c = #[] := ⟨_, rfl⟩
    have hcg : ∀ i, i < 0 → cur[i]? = some (.int .i64 (d i)) := fun i hi => by omega
    rw [← hw1]
    rw [← hg]
    rw [← hcur] at hrg
    clear hw1 hg hcur how hi0 hz0 hz1 hz2 hrp hr00
    have hgl := hrg.lt
    have hrd1 := RowAt.new w1 23 #[.slice (some ⟨g, 0, none⟩) 0 0]
    have hrp2 := hrp1.alloc (.cells #[.slice (some ⟨g, 0, none⟩) 0 0] 23)
    have hrg2 := hrg.alloc (.cells #[.slice (some ⟨g, 0, none⟩) 0 0] 23)
    have hb2 := hbw.alloc hbw.size (.cells #[.slice (some ⟨g, 0, none⟩) 0 0] 23)
    have hz2' : (w1.alloc (.cells #[.slice (some ⟨g, 0, none⟩) 0 0] 23)).heap.size = w1.heap.size + 1 := by simp
    generalize w1.alloc (.cells #[.slice (some ⟨g, 0, none⟩) 0 0] 23) = W1 at *
    rw [HW1.out] at hrd1 hgl hz2'
    obtain ⟨bd, hbd⟩ : ∃ q, q = g + 1 := ⟨_, rfl⟩
    rw [← hbd] at hrd1 hgl hz2' ⊢
    clear hbd hrp1 hrg hbw hb0 hb1
    have c1 : W1.cell? ⟨w.heap.size, 0, none⟩ = some (.slice ap P cp) := hrp2.cell rfl
    have c2 : W1.cell? ⟨bd, 0, none⟩ = some (.slice (some ⟨g, 0, none⟩) 0 0) := hrd1.cell rfl
    go_wp2_with fail
    refine (HWR.out W1 hb2).mono ?_
    rintro e W2 ⟨rfl, rfl⟩
    clear HWR c1 c2
    have q1 := (((hrp2.alloc (.cells #[.int .i64 E] 30)).alloc (.cells #[.int .i64 0] 3)).alloc (.cells #[.int .i64 0] 3)).alloc (.cells #[.bool false] 4)
    have q2 := (((hrg2.alloc (.cells #[.int .i64 E] 30)).alloc (.cells #[.int .i64 0] 3)).alloc (.cells #[.int .i64 0] 3)).alloc (.cells #[.bool false] 4)
    have q3 := (((hrd1.alloc (.cells #[.int .i64 E] 30)).alloc (.cells #[.int .i64 0] 3)).alloc (.cells #[.int .i64 0] 3)).alloc (.cells #[.bool false] 4)
    have q4 := (((RowAt.new W1 30 #[.int .i64 E]).alloc (.cells #[.int .i64 0] 3)).alloc (.cells #[.int .i64 0] 3)).alloc (.cells #[.bool false] 4)
    have q5 := ((RowAt.new (W1.alloc (.cells #[.int .i64 E] 30)) 3 #[.int .i64 0]).alloc (.cells #[.int .i64 0] 3)).alloc (.cells #[.bool false] 4)
    have q6 := (RowAt.new ((W1.alloc (.cells #[.int .i64 E] 30)).alloc (.cells #[.int .i64 0] 3)) 3 #[.int .i64 0]).alloc (.cells #[.bool false] 4)
    have q7 := RowAt.new (((W1.alloc (.cells #[.int .i64 E] 30)).alloc (.cells #[.int .i64 0] 3)).alloc (.cells #[.int .i64 0] 3)) 4 #[.bool false]
    have hbq := (((hb2.alloc hb2.size (.cells #[.int .i64 E] 30)).alloc (by have := hb2.size; simp; omega) (.cells #[.int .i64 0] 3)).alloc (by have := hb2.size; simp; omega) (.cells #[.int .i64 0] 3)).alloc (by have := hb2.size; simp; omega) (.cells #[.bool false] 4)
    have e5 : (W1.alloc (.cells #[.int .i64 E] 30)).heap.size = W1.heap.size + 1 := by simp
    have e6 : ((W1.alloc (.cells #[.int .i64 E] 30)).alloc (.cells #[.int .i64 0] 3)).heap.size = W1.heap.size + 1 + 1 := by simp
    have e7 : (((W1.alloc (.cells #[.int .i64 E] 30)).alloc (.cells #[.int .i64 0] 3)).alloc (.cells #[.int .i64 0] 3)).heap.size = W1.heap.size + 1 + 1 + 1 := by simp
    rw [e5] at q5
    rw [e6] at q6
    rw [e7] at q7
    rw [hz2'] at q4 q5 q6 q7
    clear e5 e6 e7 hrp2 hrg2 hrd1 hb2
    go_wp2_with fail
    obtain ⟨be, hbe⟩ : ∃ q, q = bd + 1 := ⟨_, rfl⟩
    rw [← hbe] at q4 q5 q6 q7 ⊢
    obtain ⟨bs, hbs⟩ : ∃ q, q = be + 1 := ⟨_, rfl⟩
    rw [← hbs] at q5 q6 q7 ⊢
    obtain ⟨br, hbr⟩ : ∃ q, q = bs + 1 := ⟨_, rfl⟩
    rw [← hbr] at q6 q7 ⊢
    obtain ⟨bx, hbx⟩ : ∃ q, q = br + 1 := ⟨_, rfl⟩
    rw [← hbx] at q7 ⊢
    generalize (((W1.alloc (.cells #[.int .i64 E] 30)).alloc (.cells #[.int .i64 0] 3)).alloc (.cells #[.int .i64 0] 3)).alloc (.cells #[.bool false] 4) = W3 at *
    have h7 : Ro7 W3 ⟨g, w.heap.size, bd, be, bs, br, bx, 0⟩ (.slice ap P cp) 0 d E 0 0 false := ⟨by simp; omega, q1, ⟨0, cur, q3, q2, hcg, by decide⟩, q4, q5, q6, q7⟩
    have hbp1 : w.heap.size < g := hBg
    have hord : g < bd ∧ bd < be ∧ be < bs ∧ bs < br ∧ br < bx := by omega
    clear q1 q2 q3 q4 q5 q6 q7 hbe hbs hbr hbx hcg hz2' hgl hBg
    refine (rbegin_bad h7 hEE).mono ?_
    rintro e W4 ⟨rfl, rfl⟩
    have hx4 := h7.rx.lt
    have hbw4 := hbq
    have h74 := h7
    obtain ⟨W4, hW4⟩ : ∃ W4, W4 = W3 := ⟨_, rfl⟩
    rw [← hW4] at hx4 hbw4 h74 ⊢
    have hrl4 := RowAt.new W4 3 #[.int .i64 (-1)]
    have h75 := h74.below ((Below.refl _ _).alloc (Nat.le_refl _) (.cells #[.int .i64 (-1)] 3))
    have hb5 := hbw4.alloc hbw4.size (.cells #[.int .i64 (-1)] 3)
    have hx4' : bx < W4.heap.size := hx4
    clear h7 h74 hbq hx4 hbw4 hW4
    go_upto_region 9 with fail
    generalize W4.alloc (.cells #[.int .i64 (-1)] 3) = W5 at *
    obtain ⟨bl, hbl⟩ : ∃ q, q = W4.heap.size := ⟨_, rfl⟩
    rw [← hbl] at hrl4 hx4' ⊢
    clear hbl
    obtain ⟨b, hb⟩ : ∃ b : Bk, b = ⟨g, w.heap.size, bd, be, bs, br, bx, bl⟩ := ⟨_, rfl⟩
    have eg : g = b.g := by rw [hb]
    have ep : w.heap.size = b.bp := by rw [hb]
    have ed : bd = b.bd := by rw [hb]
    have ee : be = b.be := by rw [hb]
    have es : bs = b.bs := by rw [hb]
    have er' : br = b.br := by rw [hb]
    have ex : bx = b.bx := by rw [hb]
    have el : bl = b.bl := by rw [hb]
    have hg0 : PqS w W5 b (.slice ap P cp) (.slice none 0 0) 0 d E Z 0 (fun _ => .slice none 0 0) := by
      refine ⟨hb5, ⟨-1, ?_⟩, by rw [← ep]; exact Nat.le_refl _, OutS.nil _ _ _ _ _⟩
      rw [hb]
      exact Ro7.all ⟨h75.ok, h75.rp, h75.rd, h75.re', h75.rs, h75.rr, h75.rx⟩ hx4' hrl4
    rw [ed, ee, es, er', ex, el, ep]
    clear h75 hb5 hrl4 hx4' hord hbp1 eg ep ed ee es er' ex el hb
    go_wp2_with fail
    go_loopw [40, 18] (fun i y W => ∃ (k : Nat) (v : Value) (R : Nat → Value), k ≤ K ∧ i = .int .i64 (k : Nat) ∧ v = y ∧ PqS w W b (.slice ap P cp) v 0 d E Z k R) (fun i _ _ => ((K : Int) - intOf i).toNat)
    case atStart => exact ⟨0, _, _, by omega, rfl, rfl, hg0⟩
    case round =>
      clear hg0
      obtain ⟨k, v, R, hk, rfl, rfl, hg⟩ := hrel
      by_cases hlt : k < K
      case neg =>
        obtain rfl : k = K := by omega
        have hnl : ¬ ((k : Nat) : Int) < ((k : Nat) : Int) := by omega
        obtain ⟨lf, hro⟩ := hg.ro
        obtain ⟨cap2, cur2, r1, r2, r3, r4⟩ := hro.rd
        have c0 : wr.cell? ⟨b.bd, 0, none⟩ = some (.slice (some ⟨b.g, 0, none⟩) 0 cap2) := r1.cell rfl
        have HNU : Hid (NumsAt wr (.slice (some ⟨b.g, 0, none⟩) 0 cap2) 0 d) := ⟨_, _, rfl, r4, fun i hi => ⟨b.g, 0, rfl, by rw [Nat.zero_add]; exact r2.cell (r3 i hi)⟩⟩
        have HSE : Hid (SenAt wr v k Z) := own_sen hg.out.own hg.out.rows
        have hbe := hg.below
        clear hg HRC HNC HZA hlt r1 r2 r3 r4 hro
        go_upto_region 46 with fail
        go_region
        all_goals
          go_wp2
          go_ret2
          exact ⟨_, _, rfl, by first | exact HSE.out | exact HSE.out.below (Below.refl _ _).drew, by first | exact HNU.out | exact HNU.out.below (Below.refl _ _).drew, by first | exact hbe | exact hbe.drew⟩
      obtain ⟨bc, oc, rfl, hr6⟩ := HRC.out k hlt
      obtain ⟨ar, cr, er, hmr⟩ := (HNC.out k hlt).len
      rw [er] at hr6
      have hr7 : wr.rangeAt bc (oc + k * 6) [.int .i64 (X k).pw, .bool (X k).op, .bool (X k).sd, .bool (X k).tk, .int .i64 (X k).pl, .slice ar (X k).tn cr] := rangeAt_belowO hr6 hg.below
      have HLT : Hid (k < K) := hlt
      have HZ1 := (show Hid (Z k = Oc.snB E) from HZA.out k)
      unfold maxLen at hmr
      clear er hr6
      generalize X k = x at *
      have hlt2 : (k : Int) < (K : Int) := by omega
      have hra := RowAt.new wr 38 #[.int .i64 x.pw, .bool x.op, .bool x.sd, .bool x.tk, .int .i64 x.pl, .slice ar x.tn cr]
      have hga := hg.alloc (.cells #[.int .i64 x.pw, .bool x.op, .bool x.sd, .bool x.tk, .int .i64 x.pl, .slice ar x.tn cr] 38)
      have hpbl : wr.heap.size ≠ b.bl := by
        obtain ⟨lf, hro⟩ := hg.ro
        have := hro.rl'.lt
        omega
      go_upto_region 12 with (refine wpList_load_mid rfl 38 _ rfl bc (oc + k * 6) rfl [.int .i64 x.pw, .bool x.op, .bool x.sd, .bool x.tk, .int .i64 x.pl, .slice ar x.tn cr] _ hr7 Try.underlying38 rfl s_info_stp ?_)
      generalize wr.alloc (.cells #[.int .i64 x.pw, .bool x.op, .bool x.sd, .bool x.tk, .int .i64 x.pl, .slice ar x.tn cr] 38) = V at *
      obtain ⟨ps, hps⟩ : ∃ p, p = wr.heap.size := ⟨_, rfl⟩
      rw [← hps] at hra hpbl ⊢
      clear hps hr7 hg HRC HNC HZA
      have cs0 : V.cell? ⟨ps, 0, none⟩ = some (.int .i64 x.pw) := hra.cell rfl
      go_upto_if 46 with fail
      go_cut [18] (fun z W => v = z ∧ RowAt W ps 38 #[.int .i64 x.pw, .bool x.op, .bool x.sd, .bool x.tk, .int .i64 x.pl, .slice ar x.tn cr] ∧ PqS w W b (.slice ap P cp) v 0 d E Z k R)
      case first =>
        by_cases hpw0 : x.pw = 0
        · have hp0 : (x.pw != 0) = false := by simp [hpw0]
          have HX := (show Hid (PqS w V b (.slice ap P cp) v 0 d E Z k R) from hga)
          clear hpw0 hga
          go_wp2_with fail
          go_meet
          exact ⟨rfl, hra, HX.out⟩
        · have hp0 : (x.pw != 0) = true := by simp [hpw0]
          have HX := (show Hid (PqS w (V.setCell ⟨b.bl, 0, none⟩ (.int .i64 (wrap64 (x.pw - 1)))) b (.slice ap P cp) v 0 d E Z k R) from hga.power _)
          have HR1 : Hid (RowAt (V.setCell ⟨b.bl, 0, none⟩ (.int .i64 (wrap64 (x.pw - 1)))) ps 38 #[.int .i64 x.pw, .bool x.op, .bool x.sd, .bool x.tk, .int .i64 x.pl, .slice ar x.tn cr]) := hra.setOther ⟨b.bl, 0, none⟩ (.int .i64 (wrap64 (x.pw - 1))) hpbl
          obtain ⟨lf0, hro⟩ := hga.ro
          have cq1 : V.cell? ⟨b.bl, 0, none⟩ = some (.int .i64 lf0) := hro.rl'.cell rfl
          have fq1 := hro.rl'.frozen 0
          clear hpw0 hga hra hro
          go_wp2_with fail
          go_meet
          exact ⟨rfl, HR1.out, HX.out⟩
      case rest =>
      obtain ⟨rfl, hr1, hg1⟩ := hcut
      obtain ⟨V1, hV1⟩ : ∃ V1, V1 = wc := ⟨_, rfl⟩
      rw [← hV1] at hr1 hg1 ⊢
      clear hV1 hra hga cs0 hpbl
      have cs1 : V1.cell? ⟨ps, 1, none⟩ = some (.bool x.op) := hr1.cell rfl
      go_upto_if 51 with fail
      go_cut [18, 43, 51] (fun z _ _ W => v = z ∧ PqS w W b (.slice ap P cp) v 0 d E Z k R)
      case first =>
        have HX := (show Hid (PqS w V1 b (.slice ap P cp) v 0 d E Z k R) from hg1)
        cases hop : x.op with
        | true =>
          rw [hop] at cs1
          have HBG : Hid (Calls Try.prog 15 #[.pointer (some ⟨b.be, 0, none⟩), .pointer (some ⟨b.bp, 0, none⟩), .pointer (some ⟨b.bd, 0, none⟩), .pointer (some ⟨b.bs, 0, none⟩), .pointer (some ⟨b.br, 0, none⟩), .pointer (some ⟨b.bx, 0, none⟩)] V1 fun e w' => V1 = w' ∧ e = .returned (.tuple #[])) := by
            obtain ⟨lf, hro⟩ := hg1.ro
            exact rbegin_bad hro.seven hEE
          clear hg1
          go_wp2_with fail
          refine HBG.out.mono ?_
          rintro e V2 ⟨rfl, rfl⟩
          clear HBG hr1 cs1
          go_wp2_with fail
          go_meet
          exact ⟨rfl, HX.out⟩
        | false =>
          rw [hop] at cs1
          clear hg1 hr1
          go_wp2_with fail
          go_meet
          exact ⟨rfl, HX.out⟩
      case rest =>
      obtain ⟨rfl, hg2⟩ := hcut
      obtain ⟨V2, hV2⟩ : ∃ V2, V2 = wc := ⟨_, rfl⟩
      rw [← hV2] at hg2 ⊢
      clear hV2 hr1 hg1 cs1
      have ce : V2.cell? ⟨b.be, 0, none⟩ = some (.int .i64 E) := by
        obtain ⟨lf, hro⟩ := hg2.ro
        exact hro.re'.cell rfl
      have hxa := RowAt.new V2 32 #[.int .i64 0, .slice none 0 0, .int .i64 E, .int .i64 0, .int .i64 0]
      have hg3 := hg2.alloc (.cells #[.int .i64 0, .slice none 0 0, .int .i64 E, .int .i64 0, .int .i64 0] 32)
      have ce3 : (V2.alloc (.cells #[.int .i64 0, .slice none 0 0, .int .i64 E, .int .i64 0, .int .i64 0] 32)).cell? ⟨b.be, 0, none⟩ = some (.int .i64 E) := by
        obtain ⟨lf, hro⟩ := hg3.ro
        exact hro.re'.cell rfl
      have hE2 : (E != 0) = true := by simpa using hEE
      go_upto_region 18 with fail
      generalize V2.alloc (.cells #[.int .i64 0, .slice none 0 0, .int .i64 E, .int .i64 0, .int .i64 0] 32) = V3 at *
      obtain ⟨px, hpx⟩ : ∃ p, p = V2.heap.size := ⟨_, rfl⟩
      rw [← hpx] at hxa ⊢
      clear hpx hg2 ce ce3 hE2
      have HB1 : Hid (k + 1 ≤ maxLen) := sen_len HLT.out hmc
      have HB2 : Hid (((k + 1) + (k + 1) / 4 + 192) * 56 ≤ 281474976710656) := sen_bytes HLT.out hK
      have HB3 : Hid (w.heap.size ≤ (V3.alloc (.cells #[.int .i64 0, .slice none 0 0, .int .i64 E, .int .i64 0, .int .i64 0] 32)).heap.size) := by have := hg3.below.size; rw [Hid, World.size_alloc]; exact Nat.le_succ_of_le this
      go_wp2_with (first | refine wpList_load_row rfl 32 _ rfl px rfl 32 #[.int .i64 0, .slice none 0 0, .int .i64 E, .int .i64 0, .int .i64 0] (0, 0) _ hxa Try.underlying32 rfl s_info_sen ?_ | refine wpList_build1c rfl 25 32 _ rfl 5 #[.int .i64 0, .slice none 0 0, .int .i64 0, .int .i64 0, .int .i64 0] #[.int .i64 0, .slice none 0 0, .int .i64 E, .int .i64 0, .int .i64 0] rfl (by decide) (by decide) Try.underlying25 rfl rfl s_zs_sen ?_ | (at_builtin; refine wpList_append_wide_at rfl _ _ 25 rfl w.heap.size 32 j0 (.agg #[.int .i64 0, .slice none 0 0, .int .i64 0, .int .i64 0, .int .i64 0]) 5 56 Try.underlying25 hj0 hy0 hy1 hy2 rfl (by decide) _ _ _ rfl (World.ownsRow.alloc hg3.out.own _) ⟨V3.heap.size, 0, none⟩ 1 1 (#[.int .i64 0, .slice none 0 0, .int .i64 E, .int .i64 0, .int .i64 0] : Array Value).toList rfl rfl (sen_new V3 _) (sen_ones _ _ _ _ _ _ _) (by decide) HB1.out HB2.out HB3.out ?_; intro v5 w5 hown5 hgrow5 hat5))
      have hgn : PqS w w5 b (.slice ap P cp) v5 0 d E Z (k + 1) (fun i => if i = k then .slice none 0 0 else R i) := by
        refine hg3.push (r := .slice none 0 0) (by rw [HZ1.out]; exact nums_nil _ _) (by rw [HZ1.out]; exact fun h0 => absurd h0 (Nat.lt_irrefl 0)) ?_ hgrow5 hat5
        rw [HZ1.out]
        exact hown5
      clear hown5 hgrow5 hat5 hg3 hxa
      go_roundw
      case rel => exact ⟨k + 1, v5, _, HLT.out, by go_num, rfl, hgn⟩
      case measure => have := HLT.out; simp [intOf]; omega
  | some ad =>
    have HNW := (show Hid (∀ W, Below w.heap.size w W → ∀ j u, (ints D d).toList[j]? = some u → W.cell? (ad.add j) = some u) from nums_list hw)
    have HON := (show Hid (∀ u ∈ (ints D d).toList, u.oneCell' = true) from ints_ones D d)
    clear hw hwc
    go_enter Try.func7, Try.ntmps7
    go_upto_region 2 with (first | (at_builtin; refine wpList_append_own _ rfl _ _ 23 rfl (w.heap.size + 1) 2 i0 (.int .i64 0) 1 8 Try.underlying23 hi0 hz0 hz1 hz2 rfl (by decide) _ _ _ rfl how ad D cw (ints D d).toList rfl (by rw [Array.length_toList, ints_size, Nat.mul_one]) (HNW.out _ hb1) HON.out (by unfold maxLen; omega) (by omega) HZ1.out ?_; intro v' w1 hown' hgrow hnil; rw [Nat.zero_add, List.nil_append] at hown'; have hbw := hb1.grown hgrow HZ2.out (fun p hp => Nat.le_of_succ_le (World.ownsRow.lt how p hp).1); have hrp1 := (Fr.of_own hgrow).row hrp (fun e => by have := (World.ownsRow.lt how _ (mem_ob.1 e)).1; omega); obtain ⟨g, cap', cur, rfl, hBg, hrg, hcg, _⟩ := own_words hown' (fun e => by cases (hnil.1 e).1); clear how hown' hgrow hnil hrp))
    clear HNW HON hi0 hz0 hz1 hz2 hr00
    have hgl := hrg.lt
    have hrd1 := RowAt.new w1 23 #[.slice (some ⟨g, 0, none⟩) D cap']
    have hrp2 := hrp1.alloc (.cells #[.slice (some ⟨g, 0, none⟩) D cap'] 23)
    have hrg2 := hrg.alloc (.cells #[.slice (some ⟨g, 0, none⟩) D cap'] 23)
    have hb2 := hbw.alloc hbw.size (.cells #[.slice (some ⟨g, 0, none⟩) D cap'] 23)
    have hz2' : (w1.alloc (.cells #[.slice (some ⟨g, 0, none⟩) D cap'] 23)).heap.size = w1.heap.size + 1 := by simp
    generalize w1.alloc (.cells #[.slice (some ⟨g, 0, none⟩) D cap'] 23) = W1 at *
    obtain ⟨bd, hbd⟩ : ∃ q, q = w1.heap.size := ⟨_, rfl⟩
    rw [← hbd] at hrd1 hgl hz2' ⊢
    clear hbd hrp1 hrg hbw hb0 hb1
    have c1 : W1.cell? ⟨w.heap.size, 0, none⟩ = some (.slice ap P cp) := hrp2.cell rfl
    have c2 : W1.cell? ⟨bd, 0, none⟩ = some (.slice (some ⟨g, 0, none⟩) D cap') := hrd1.cell rfl
    go_wp2_with fail
    refine (HWR.out W1 hb2).mono ?_
    rintro e W2 ⟨rfl, rfl⟩
    clear HWR c1 c2
    have q1 := (((hrp2.alloc (.cells #[.int .i64 E] 30)).alloc (.cells #[.int .i64 0] 3)).alloc (.cells #[.int .i64 0] 3)).alloc (.cells #[.bool false] 4)
    have q2 := (((hrg2.alloc (.cells #[.int .i64 E] 30)).alloc (.cells #[.int .i64 0] 3)).alloc (.cells #[.int .i64 0] 3)).alloc (.cells #[.bool false] 4)
    have q3 := (((hrd1.alloc (.cells #[.int .i64 E] 30)).alloc (.cells #[.int .i64 0] 3)).alloc (.cells #[.int .i64 0] 3)).alloc (.cells #[.bool false] 4)
    have q4 := (((RowAt.new W1 30 #[.int .i64 E]).alloc (.cells #[.int .i64 0] 3)).alloc (.cells #[.int .i64 0] 3)).alloc (.cells #[.bool false] 4)
    have q5 := ((RowAt.new (W1.alloc (.cells #[.int .i64 E] 30)) 3 #[.int .i64 0]).alloc (.cells #[.int .i64 0] 3)).alloc (.cells #[.bool false] 4)
    have q6 := (RowAt.new ((W1.alloc (.cells #[.int .i64 E] 30)).alloc (.cells #[.int .i64 0] 3)) 3 #[.int .i64 0]).alloc (.cells #[.bool false] 4)
    have q7 := RowAt.new (((W1.alloc (.cells #[.int .i64 E] 30)).alloc (.cells #[.int .i64 0] 3)).alloc (.cells #[.int .i64 0] 3)) 4 #[.bool false]
    have hbq := (((hb2.alloc hb2.size (.cells #[.int .i64 E] 30)).alloc (by have := hb2.size; simp; omega) (.cells #[.int .i64 0] 3)).alloc (by have := hb2.size; simp; omega) (.cells #[.int .i64 0] 3)).alloc (by have := hb2.size; simp; omega) (.cells #[.bool false] 4)
    have e5 : (W1.alloc (.cells #[.int .i64 E] 30)).heap.size = W1.heap.size + 1 := by simp
    have e6 : ((W1.alloc (.cells #[.int .i64 E] 30)).alloc (.cells #[.int .i64 0] 3)).heap.size = W1.heap.size + 1 + 1 := by simp
    have e7 : (((W1.alloc (.cells #[.int .i64 E] 30)).alloc (.cells #[.int .i64 0] 3)).alloc (.cells #[.int .i64 0] 3)).heap.size = W1.heap.size + 1 + 1 + 1 := by simp
    rw [e5] at q5
    rw [e6] at q6
    rw [e7] at q7
    rw [hz2'] at q4 q5 q6 q7
    clear e5 e6 e7 hrp2 hrg2 hrd1 hb2
    go_wp2_with fail
    obtain ⟨be, hbe⟩ : ∃ q, q = bd + 1 := ⟨_, rfl⟩
    rw [← hbe] at q4 q5 q6 q7 ⊢
    obtain ⟨bs, hbs⟩ : ∃ q, q = be + 1 := ⟨_, rfl⟩
    rw [← hbs] at q5 q6 q7 ⊢
    obtain ⟨br, hbr⟩ : ∃ q, q = bs + 1 := ⟨_, rfl⟩
    rw [← hbr] at q6 q7 ⊢
    obtain ⟨bx, hbx⟩ : ∃ q, q = br + 1 := ⟨_, rfl⟩
    rw [← hbx] at q7 ⊢
    generalize (((W1.alloc (.cells #[.int .i64 E] 30)).alloc (.cells #[.int .i64 0] 3)).alloc (.cells #[.int .i64 0] 3)).alloc (.cells #[.bool false] 4) = W3 at *
    have h7 : Ro7 W3 ⟨g, w.heap.size, bd, be, bs, br, bx, 0⟩ (.slice ap P cp) D d E 0 0 false := ⟨by simp; omega, q1, ⟨cap', cur, q3, q2, hcg, by unfold maxLen; omega⟩, q4, q5, q6, q7⟩
    have hbp1 : w.heap.size < g := hBg
    have hord : g < bd ∧ bd < be ∧ be < bs ∧ bs < br ∧ br < bx := by omega
    clear q1 q2 q3 q4 q5 q6 q7 hbe hbs hbr hbx hcg hz2' hgl hBg
    refine (rbegin_bad h7 hEE).mono ?_
    rintro e W4 ⟨rfl, rfl⟩
    have hx4 := h7.rx.lt
    have hbw4 := hbq
    have h74 := h7
    obtain ⟨W4, hW4⟩ : ∃ W4, W4 = W3 := ⟨_, rfl⟩
    rw [← hW4] at hx4 hbw4 h74 ⊢
    have hrl4 := RowAt.new W4 3 #[.int .i64 (-1)]
    have h75 := h74.below ((Below.refl _ _).alloc (Nat.le_refl _) (.cells #[.int .i64 (-1)] 3))
    have hb5 := hbw4.alloc hbw4.size (.cells #[.int .i64 (-1)] 3)
    have hx4' : bx < W4.heap.size := hx4
    clear h7 h74 hbq hx4 hbw4 hW4
    go_upto_region 9 with fail
    generalize W4.alloc (.cells #[.int .i64 (-1)] 3) = W5 at *
    obtain ⟨bl, hbl⟩ : ∃ q, q = W4.heap.size := ⟨_, rfl⟩
    rw [← hbl] at hrl4 hx4' ⊢
    clear hbl
    obtain ⟨b, hb⟩ : ∃ b : Bk, b = ⟨g, w.heap.size, bd, be, bs, br, bx, bl⟩ := ⟨_, rfl⟩
    have eg : g = b.g := by rw [hb]
    have ep : w.heap.size = b.bp := by rw [hb]
    have ed : bd = b.bd := by rw [hb]
    have ee : be = b.be := by rw [hb]
    have es : bs = b.bs := by rw [hb]
    have er' : br = b.br := by rw [hb]
    have ex : bx = b.bx := by rw [hb]
    have el : bl = b.bl := by rw [hb]
    have hg0 : PqS w W5 b (.slice ap P cp) (.slice none 0 0) D d E Z 0 (fun _ => .slice none 0 0) := by
      refine ⟨hb5, ⟨-1, ?_⟩, by rw [← ep]; exact Nat.le_refl _, OutS.nil _ _ _ _ _⟩
      rw [hb]
      exact Ro7.all ⟨h75.ok, h75.rp, h75.rd, h75.re', h75.rs, h75.rr, h75.rx⟩ hx4' hrl4
    rw [ed, ee, es, er', ex, el, ep]
    clear h75 hb5 hrl4 hx4' hord hbp1 eg ep ed ee es er' ex el hb
    go_wp2_with fail
    go_loopw [40, 18] (fun i y W => ∃ (k : Nat) (v : Value) (R : Nat → Value), k ≤ K ∧ i = .int .i64 (k : Nat) ∧ v = y ∧ PqS w W b (.slice ap P cp) v D d E Z k R) (fun i _ _ => ((K : Int) - intOf i).toNat)
    case atStart => exact ⟨0, _, _, by omega, rfl, rfl, hg0⟩
    case round =>
      clear hg0
      obtain ⟨k, v, R, hk, rfl, rfl, hg⟩ := hrel
      by_cases hlt : k < K
      case neg =>
        obtain rfl : k = K := by omega
        have hnl : ¬ ((k : Nat) : Int) < ((k : Nat) : Int) := by omega
        obtain ⟨lf, hro⟩ := hg.ro
        obtain ⟨cap2, cur2, r1, r2, r3, r4⟩ := hro.rd
        have c0 : wr.cell? ⟨b.bd, 0, none⟩ = some (.slice (some ⟨b.g, 0, none⟩) D cap2) := r1.cell rfl
        have HNU : Hid (NumsAt wr (.slice (some ⟨b.g, 0, none⟩) D cap2) D d) := ⟨_, _, rfl, r4, fun i hi => ⟨b.g, 0, rfl, by rw [Nat.zero_add]; exact r2.cell (r3 i hi)⟩⟩
        have HSE : Hid (SenAt wr v k Z) := own_sen hg.out.own hg.out.rows
        have hbe := hg.below
        clear hg HRC HNC HZA hlt r1 r2 r3 r4 hro
        go_upto_region 46 with fail
        go_region
        all_goals
          go_wp2
          go_ret2
          exact ⟨_, _, rfl, by first | exact HSE.out | exact HSE.out.below (Below.refl _ _).drew, by first | exact HNU.out | exact HNU.out.below (Below.refl _ _).drew, by first | exact hbe | exact hbe.drew⟩
      obtain ⟨bc, oc, rfl, hr6⟩ := HRC.out k hlt
      obtain ⟨ar, cr, er, hmr⟩ := (HNC.out k hlt).len
      rw [er] at hr6
      have hr7 : wr.rangeAt bc (oc + k * 6) [.int .i64 (X k).pw, .bool (X k).op, .bool (X k).sd, .bool (X k).tk, .int .i64 (X k).pl, .slice ar (X k).tn cr] := rangeAt_belowO hr6 hg.below
      have HLT : Hid (k < K) := hlt
      have HZ1 := (show Hid (Z k = Oc.snB E) from HZA.out k)
      unfold maxLen at hmr
      clear er hr6
      generalize X k = x at *
      have hlt2 : (k : Int) < (K : Int) := by omega
      have hra := RowAt.new wr 38 #[.int .i64 x.pw, .bool x.op, .bool x.sd, .bool x.tk, .int .i64 x.pl, .slice ar x.tn cr]
      have hga := hg.alloc (.cells #[.int .i64 x.pw, .bool x.op, .bool x.sd, .bool x.tk, .int .i64 x.pl, .slice ar x.tn cr] 38)
      have hpbl : wr.heap.size ≠ b.bl := by
        obtain ⟨lf, hro⟩ := hg.ro
        have := hro.rl'.lt
        omega
      go_upto_region 12 with (refine wpList_load_mid rfl 38 _ rfl bc (oc + k * 6) rfl [.int .i64 x.pw, .bool x.op, .bool x.sd, .bool x.tk, .int .i64 x.pl, .slice ar x.tn cr] _ hr7 Try.underlying38 rfl s_info_stp ?_)
      generalize wr.alloc (.cells #[.int .i64 x.pw, .bool x.op, .bool x.sd, .bool x.tk, .int .i64 x.pl, .slice ar x.tn cr] 38) = V at *
      obtain ⟨ps, hps⟩ : ∃ p, p = wr.heap.size := ⟨_, rfl⟩
      rw [← hps] at hra hpbl ⊢
      clear hps hr7 hg HRC HNC HZA
      have cs0 : V.cell? ⟨ps, 0, none⟩ = some (.int .i64 x.pw) := hra.cell rfl
      go_upto_if 46 with fail
      go_cut [18] (fun z W => v = z ∧ RowAt W ps 38 #[.int .i64 x.pw, .bool x.op, .bool x.sd, .bool x.tk, .int .i64 x.pl, .slice ar x.tn cr] ∧ PqS w W b (.slice ap P cp) v D d E Z k R)
      case first =>
        by_cases hpw0 : x.pw = 0
        · have hp0 : (x.pw != 0) = false := by simp [hpw0]
          have HX := (show Hid (PqS w V b (.slice ap P cp) v D d E Z k R) from hga)
          clear hpw0 hga
          go_wp2_with fail
          go_meet
          exact ⟨rfl, hra, HX.out⟩
        · have hp0 : (x.pw != 0) = true := by simp [hpw0]
          have HX := (show Hid (PqS w (V.setCell ⟨b.bl, 0, none⟩ (.int .i64 (wrap64 (x.pw - 1)))) b (.slice ap P cp) v D d E Z k R) from hga.power _)
          have HR1 : Hid (RowAt (V.setCell ⟨b.bl, 0, none⟩ (.int .i64 (wrap64 (x.pw - 1)))) ps 38 #[.int .i64 x.pw, .bool x.op, .bool x.sd, .bool x.tk, .int .i64 x.pl, .slice ar x.tn cr]) := hra.setOther ⟨b.bl, 0, none⟩ (.int .i64 (wrap64 (x.pw - 1))) hpbl
          obtain ⟨lf0, hro⟩ := hga.ro
          have cq1 : V.cell? ⟨b.bl, 0, none⟩ = some (.int .i64 lf0) := hro.rl'.cell rfl
          have fq1 := hro.rl'.frozen 0
          clear hpw0 hga hra hro
          go_wp2_with fail
          go_meet
          exact ⟨rfl, HR1.out, HX.out⟩
      case rest =>
      obtain ⟨rfl, hr1, hg1⟩ := hcut
      obtain ⟨V1, hV1⟩ : ∃ V1, V1 = wc := ⟨_, rfl⟩
      rw [← hV1] at hr1 hg1 ⊢
      clear hV1 hra hga cs0 hpbl
      have cs1 : V1.cell? ⟨ps, 1, none⟩ = some (.bool x.op) := hr1.cell rfl
      go_upto_if 51 with fail
      go_cut [18, 43, 51] (fun z _ _ W => v = z ∧ PqS w W b (.slice ap P cp) v D d E Z k R)
      case first =>
        have HX := (show Hid (PqS w V1 b (.slice ap P cp) v D d E Z k R) from hg1)
        cases hop : x.op with
        | true =>
          rw [hop] at cs1
          have HBG : Hid (Calls Try.prog 15 #[.pointer (some ⟨b.be, 0, none⟩), .pointer (some ⟨b.bp, 0, none⟩), .pointer (some ⟨b.bd, 0, none⟩), .pointer (some ⟨b.bs, 0, none⟩), .pointer (some ⟨b.br, 0, none⟩), .pointer (some ⟨b.bx, 0, none⟩)] V1 fun e w' => V1 = w' ∧ e = .returned (.tuple #[])) := by
            obtain ⟨lf, hro⟩ := hg1.ro
            exact rbegin_bad hro.seven hEE
          clear hg1
          go_wp2_with fail
          refine HBG.out.mono ?_
          rintro e V2 ⟨rfl, rfl⟩
          clear HBG hr1 cs1
          go_wp2_with fail
          go_meet
          exact ⟨rfl, HX.out⟩
        | false =>
          rw [hop] at cs1
          clear hg1 hr1
          go_wp2_with fail
          go_meet
          exact ⟨rfl, HX.out⟩
      case rest =>
      obtain ⟨rfl, hg2⟩ := hcut
      obtain ⟨V2, hV2⟩ : ∃ V2, V2 = wc := ⟨_, rfl⟩
      rw [← hV2] at hg2 ⊢
      clear hV2 hr1 hg1 cs1
      have ce : V2.cell? ⟨b.be, 0, none⟩ = some (.int .i64 E) := by
        obtain ⟨lf, hro⟩ := hg2.ro
        exact hro.re'.cell rfl
      have hxa := RowAt.new V2 32 #[.int .i64 0, .slice none 0 0, .int .i64 E, .int .i64 0, .int .i64 0]
      have hg3 := hg2.alloc (.cells #[.int .i64 0, .slice none 0 0, .int .i64 E, .int .i64 0, .int .i64 0] 32)
      have ce3 : (V2.alloc (.cells #[.int .i64 0, .slice none 0 0, .int .i64 E, .int .i64 0, .int .i64 0] 32)).cell? ⟨b.be, 0, none⟩ = some (.int .i64 E) := by
        obtain ⟨lf, hro⟩ := hg3.ro
        exact hro.re'.cell rfl
      have hE2 : (E != 0) = true := by simpa using hEE
      go_upto_region 18 with fail
      generalize V2.alloc (.cells #[.int .i64 0, .slice none 0 0, .int .i64 E, .int .i64 0, .int .i64 0] 32) = V3 at *
      obtain ⟨px, hpx⟩ : ∃ p, p = V2.heap.size := ⟨_, rfl⟩
      rw [← hpx] at hxa ⊢
      clear hpx hg2 ce ce3 hE2
      have HB1 : Hid (k + 1 ≤ maxLen) := sen_len HLT.out hmc
      have HB2 : Hid (((k + 1) + (k + 1) / 4 + 192) * 56 ≤ 281474976710656) := sen_bytes HLT.out hK
      have HB3 : Hid (w.heap.size ≤ (V3.alloc (.cells #[.int .i64 0, .slice none 0 0, .int .i64 E, .int .i64 0, .int .i64 0] 32)).heap.size) := by have := hg3.below.size; rw [Hid, World.size_alloc]; exact Nat.le_succ_of_le this
      go_wp2_with (first | refine wpList_load_row rfl 32 _ rfl px rfl 32 #[.int .i64 0, .slice none 0 0, .int .i64 E, .int .i64 0, .int .i64 0] (0, 0) _ hxa Try.underlying32 rfl s_info_sen ?_ | refine wpList_build1c rfl 25 32 _ rfl 5 #[.int .i64 0, .slice none 0 0, .int .i64 0, .int .i64 0, .int .i64 0] #[.int .i64 0, .slice none 0 0, .int .i64 E, .int .i64 0, .int .i64 0] rfl (by decide) (by decide) Try.underlying25 rfl rfl s_zs_sen ?_ | (at_builtin; refine wpList_append_wide_at rfl _ _ 25 rfl w.heap.size 32 j0 (.agg #[.int .i64 0, .slice none 0 0, .int .i64 0, .int .i64 0, .int .i64 0]) 5 56 Try.underlying25 hj0 hy0 hy1 hy2 rfl (by decide) _ _ _ rfl (World.ownsRow.alloc hg3.out.own _) ⟨V3.heap.size, 0, none⟩ 1 1 (#[.int .i64 0, .slice none 0 0, .int .i64 E, .int .i64 0, .int .i64 0] : Array Value).toList rfl rfl (sen_new V3 _) (sen_ones _ _ _ _ _ _ _) (by decide) HB1.out HB2.out HB3.out ?_; intro v5 w5 hown5 hgrow5 hat5))
      have hgn : PqS w w5 b (.slice ap P cp) v5 D d E Z (k + 1) (fun i => if i = k then .slice none 0 0 else R i) := by
        refine hg3.push (r := .slice none 0 0) (by rw [HZ1.out]; exact nums_nil _ _) (by rw [HZ1.out]; exact fun h0 => absurd h0 (Nat.lt_irrefl 0)) ?_ hgrow5 hat5
        rw [HZ1.out]
        exact hown5
      clear hown5 hgrow5 hat5 hg3 hxa
      go_roundw
      case rel => exact ⟨k + 1, v5, _, HLT.out, by go_num, rfl, hgn⟩
      case measure => have := HLT.out; simp [intOf]; omega
end Go.Proofs.Ytlfghnngbljlhaa
