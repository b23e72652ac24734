/-
  Contract of plain.Office where something is wrong (chapter 16).
-/
import Derived.Test.YtlfghnngbljlhaaOfQ
import Derived.Test.YtlfghnngbljlhaaClK
import Derived.Deep.DeepCutAuto
namespace Go.Proofs.Ytlfghnngbljlhaa
open Go.RowKit PK Pd

/-- No office, and what was seen of it. -/
structure PbS (w W : World) (q g : Nat) (v : Value) (D : Nat) (d : Nat → Int) (Z : Nat → Oc.Sn) (k : Nat) (R : Nat → Value) : Prop where
  below : Below w.heap.size w W
  dk : ∃ lf, DkAt W q g D d lf
  q1 : w.heap.size ≤ q
  g1 : w.heap.size ≤ g
  out : OutS W w.heap.size [q, g] v Z k R
section
variable {w W W' : World} {q g D k : Nat} {v : Value} {d : Nat → Int} {Z : Nat → Oc.Sn} {R : Nat → Value}
theorem PbS.step (h : PbS w W q g v D d Z k R) (hb : Below W.heap.size W W') : PbS w W' q g v D d Z k R := by
  obtain ⟨lf, hd⟩ := h.dk
  exact ⟨h.below.trans (hb.mono h.below.size), ⟨lf, hd.below hb⟩, h.q1, h.g1, h.out.below hb⟩
theorem PbS.alloc (h : PbS w W q g v D d Z k R) (ob : Obj) : PbS w (W.alloc ob) q g v D d Z k R := h.step ((Below.refl _ _).alloc (Nat.le_refl _) ob)
theorem PbS.power (h : PbS w W q g v D d Z k R) (l : Int) : PbS w (W.setCell ⟨q, 1, none⟩ (.int .i64 l)) q g v D d Z k R := by
  obtain ⟨lf, hd⟩ := h.dk
  have hf : Fr [q, g] W (W.setCell ⟨q, 1, none⟩ (.int .i64 l)) := Fr.set _ _ 1 _ (by simp)
  have h1 := h.q1
  have h2 := h.g1
  exact ⟨hf.below h.below h.below.size (fun k hk => by simp at hk; omega), ⟨l, hd.left l⟩, h.q1, h.g1, h.out.fr hf (fun x hx => .inl hx)⟩
theorem PbS.push (h : PbS w W q g v D d Z k R) {r : Value} (hr : NumsAt W r (Z k).tn (Z k).tf) (hrl : 0 < (Z k).tn → ∀ b, r.ownBlock = some b → b ∉ [q, g] ∧ v.ownBlock ≠ some b) {oj : Obj} {v5 : Value} {w5 : World}
    (hown : w5.ownsRow w.heap.size 32 5 v5 (k + 1) (sel Z R k ++ (sec (Z k) r).toList)) (hg : (W.alloc oj).grownBy w5 v.ownBlock) (hat : v5.ownBlock = v.ownBlock ∨ v5.ownBlock = some (W.alloc oj).heap.size) : PbS w w5 q g v5 D d Z (k + 1) (fun i => if i = k then r else R i) := by
  have ha := h.alloc oj
  have hf := Fr.of_own hg
  have hne := h.out.ne
  obtain ⟨lf, hd⟩ := ha.dk
  obtain ⟨lf0, hd0⟩ := h.dk
  have hlt := hd0.lt
  exact ⟨hf.below ha.below ha.below.size (fun x hx => (World.ownsRow.lt h.out.own x (mem_ob.1 hx)).1), ⟨lf, hd.fr hf (fun e => hne q (mem_ob.1 e) (by simp)) (fun e => hne g (mem_ob.1 e) (by simp))⟩, h.q1, h.g1, h.out.push (fun x hx => by simp at hx; omega) hr hrl hown hg hat⟩
end
set_option maxRecDepth 100000 in
set_option maxHeartbeats 8000000 in
theorem office_bad (n : Int) (vp vw vc : Value) (P : Nat) (p : Nat → Int) (D : Nat) (d : Nat → Int) (K : Nat) (X : Nat → Oc.Sp) (w : World) (hp : NumsAt w vp P p) (hw : NumsAt w vw D d) (hc : StpAt w vc K X) (hwc : ∀ c, vw = .slice none 0 c → c = 0) (hD : D * 8 ≤ 140737488355328) (hK : (K + K / 4 + 192) * 56 ≤ 281474976710656) (hE : Oc.opE n P p D ≠ 0) : Calls Try.prog 6 #[.int .i64 n, vp, vw, vc] w fun e w' => ∃ v u, e = .returned (.tuple #[v, u, .bool true]) ∧ SenAt w' v K (Oc.seen n P p D X (Oc.s0 d)) ∧ NumsAt w' u D (Oc.last n P p D d X K) ∧ Below w.heap.size w w' := by
  obtain ⟨i0, hi0, hz0, hz1, hz2⟩ := x_info_parts g_info_64
  obtain ⟨j0, hj0, hy0, hy1, hy2⟩ := x_info_parts s_all_sen
  obtain ⟨E, hEE⟩ : ∃ E, E = Oc.opE n P p D := ⟨_, rfl⟩
  obtain ⟨Z, hZ⟩ : ∃ Z : Nat → Oc.Sn, Z = fun _ => Oc.snB E := ⟨_, rfl⟩
  have HSN : Hid (Oc.seen n P p D X (Oc.s0 d) = Z) := by
    rw [Hid, hZ]
    funext k
    unfold Oc.seen
    rw [if_neg hE, hEE]
  have HLT : Hid (Oc.last n P p D d X K = d) := by unfold Oc.last; rw [Hid, if_neg hE]
  have HZA : Hid (∀ k, Z k = Oc.snB E) := fun k => by rw [hZ]
  rw [HSN.out, HLT.out]
  have HOP : Hid (∀ W q g lf (d : Nat → Int), Below w.heap.size w W → DkAt W q g D d lf → Calls Try.prog 10 #[.int .i64 n, vp, .iface 42 (.pointer (some ⟨q, 0, none⟩))] W fun e w' => e = .returned (.tuple #[.pointer none, .int .i64 E]) ∧ Below W.heap.size W w') := fun W q g lf d hb hd => (oopen_any hd (hp.below hb)).mono fun e w' h => by
    refine ⟨?_, h.2⟩
    rcases h.1 with ⟨h2, _⟩ | ⟨_, h2⟩
    · exact absurd h2 hE
    · rw [hEE]; exact h2
  obtain ⟨ap, cp, rfl, hmp⟩ := hp.len
  obtain ⟨aw, cw, rfl, hmw⟩ := hw.len
  obtain ⟨ac, cc, R0, rfl, hmc, hrc, hnc⟩ := hc
  unfold maxLen at hmw hmp hmc
  have HRC := (show Hid (∀ i, i < K → ∃ b o, ac = some ⟨b, o, none⟩ ∧ w.rangeAt b (o + i * 6) (stc (X i) (R0 i)).toList) from hrc)
  have HNC := (show Hid (∀ i, i < K → NumsAt w (R0 i) (X i).tn (X i).tf) from hnc)
  have how : (w.alloc (.cells #[] 2)).ownsRow w.heap.size 2 1 (.slice (some ⟨w.heap.size, 0, none⟩) 0 0) 0 [] := f_own_full (RowAt.new w 2 #[]) (Nat.le_refl _) rfl (by decide)
  have hb1 := (Below.refl w.heap.size w).alloc (Nat.le_refl _) (.cells #[] 2)
  clear hp hrc hnc hE hEE HSN HLT hZ
  cases aw with
  | none =>
    obtain rfl := nums_none hw
    have hcw : cw = 0 := hwc cw rfl
    subst hcw
    clear hw hwc
    go_enter Try.func6, Try.ntmps6
    go_wp2_with (first | (at_builtin; refine wpList_append_own_none rfl _ _ 23 rfl w.heap.size 2 i0 1 Try.underlying23 hi0 _ _ _ rfl how rfl ?_))
    obtain ⟨g, hg⟩ : ∃ g, g = w.heap.size := ⟨_, rfl⟩
    obtain ⟨w1, hw1⟩ : ∃ W, W = w.alloc (.cells #[] 2) := ⟨_, rfl⟩
    have hrg : RowAt w1 g 2 #[] := by rw [hw1, hg]; exact RowAt.new w _ _
    have hbw : Below w.heap.size w w1 := by rw [hw1]; exact hb1
    have hBg : w.heap.size ≤ g := by omega
    have HW1 : Hid (w1.heap.size = g + 1) := by rw [Hid, hw1, hg]; simp
    obtain ⟨cap', hcap⟩ : ∃ c : Nat, c = 0 := ⟨_, rfl⟩
    obtain ⟨cur, hcur⟩ : ∃ c : Array Value, c = #[] := ⟨_, rfl⟩
    have hcg : ∀ i, i < 0 → cur[i]? = some (.int .i64 (d i)) := fun i hi => by omega
    rw [← hw1]
    rw [← hg]
    rw [← hcur] at hrg
    clear hw1 hg hcap hcur how hi0 hz0 hz1 hz2
    have hdk : DkAt (w1.alloc (.cells #[.slice (some ⟨g, 0, none⟩) 0 0, .int .i64 (-1), .bool false] 44)) w1.heap.size g 0 d (-1) := ⟨⟨0, cur, RowAt.new w1 _ _, hrg.alloc _, hcg, by decide⟩, by have := hrg.lt; omega⟩
    have hq1 := hbw.size
    have hbq := hbw.alloc hq1 (.cells #[.slice (some ⟨g, 0, none⟩) 0 0, .int .i64 (-1), .bool false] 44)
    generalize w1.alloc (.cells #[.slice (some ⟨g, 0, none⟩) 0 0, .int .i64 (-1), .bool false] 44) = W1 at *
    rw [HW1.out] at hdk hq1
    obtain ⟨q, hq⟩ : ∃ q, q = g + 1 := ⟨_, rfl⟩
    rw [← hq] at hdk hq1 ⊢
    clear hq hbw hb1 hrg hcg
    refine (HOP.out W1 q g (-1) d hbq hdk).mono ?_
    rintro e W2 ⟨rfl, hb2⟩
    have hg0 : PbS w W2 q g (.slice none 0 0) 0 d Z 0 (fun _ => .slice none 0 0) := ⟨hbq.trans (hb2.mono hbq.size), ⟨_, hdk.below hb2⟩, hq1, hBg, OutS.nil _ _ _ _ _⟩
    clear hdk hbq hb2
    go_wp2_with fail
    go_loopw [33, 14, 12, 13] (fun i y z t W => ∃ (k : Nat) (v : Value) (R : Nat → Value), k ≤ K ∧ i = .int .i64 (k : Nat) ∧ v = y ∧ .pointer none = z ∧ .int .i64 E = t ∧ PbS w W q g v 0 d Z k R) (fun i _ _ _ _ => ((K : Int) - intOf i).toNat)
    case atStart => exact ⟨0, _, _, by omega, rfl, rfl, rfl, rfl, hg0⟩
    case round =>
      clear hg0
      obtain ⟨k, v, R, hk, rfl, rfl, rfl, rfl, hg⟩ := hrel
      by_cases hlt : k < K
      case neg =>
        obtain rfl : k = K := by omega
        have hnl : ¬ ((k : Nat) : Int) < ((k : Nat) : Int) := by omega
        obtain ⟨lf, hdl⟩ := hg.dk
        obtain ⟨cap2, c0, c2, hnum⟩ := hdl.nums
        have HNU := (show Hid (NumsAt wr (.slice (some ⟨g, 0, none⟩) 0 cap2) 0 d) from hnum)
        have HSE : Hid (SenAt wr v k Z) := own_sen hg.out.own hg.out.rows
        have hbe := hg.below
        clear hg hnum hdl HRC HOP HZA hlt
        go_upto_region 20 with fail
        go_region
        all_goals
          go_wp2
          go_ret3
          exact ⟨_, _, rfl, by first | exact HSE.out | exact HSE.out.below (Below.refl _ _).drew, by first | exact HNU.out | exact HNU.out.below (Below.refl _ _).drew, by first | exact hbe | exact hbe.drew⟩
      obtain ⟨bc, oc, rfl, hr6⟩ := HRC.out k hlt
      obtain ⟨ar, cr, er, hmr⟩ := (HNC.out k hlt).len
      rw [er] at hr6
      have hr7 : wr.rangeAt bc (oc + k * 6) [.int .i64 (X k).pw, .bool (X k).op, .bool (X k).sd, .bool (X k).tk, .int .i64 (X k).pl, .slice ar (X k).tn cr] := rangeAt_belowO hr6 hg.below
      have HLT : Hid (k < K) := hlt
      have HZ1 := (show Hid (Z k = Oc.snB E) from HZA.out k)
      unfold maxLen at hmr
      clear er hr6
      generalize X k = x at *
      have hlt2 : (k : Int) < (K : Int) := by omega
      have hra := RowAt.new wr 38 #[.int .i64 x.pw, .bool x.op, .bool x.sd, .bool x.tk, .int .i64 x.pl, .slice ar x.tn cr]
      have hga := hg.alloc (.cells #[.int .i64 x.pw, .bool x.op, .bool x.sd, .bool x.tk, .int .i64 x.pl, .slice ar x.tn cr] 38)
      have hpq : wr.heap.size ≠ q ∧ wr.heap.size ≠ g := by
        obtain ⟨lf, hdl⟩ := hg.dk
        have := hdl.lt
        omega
      go_upto_region 7 with (refine wpList_load_mid rfl 38 _ rfl bc (oc + k * 6) rfl [.int .i64 x.pw, .bool x.op, .bool x.sd, .bool x.tk, .int .i64 x.pl, .slice ar x.tn cr] _ hr7 Try.underlying38 rfl s_info_stp ?_)
      generalize wr.alloc (.cells #[.int .i64 x.pw, .bool x.op, .bool x.sd, .bool x.tk, .int .i64 x.pl, .slice ar x.tn cr] 38) = V at *
      obtain ⟨ps, hps⟩ : ∃ p, p = wr.heap.size := ⟨_, rfl⟩
      rw [← hps] at hra hpq ⊢
      clear hps hr7 hg HRC HNC HZA
      obtain ⟨cs0, cs1⟩ : V.cell? ⟨ps, 0, none⟩ = some (.int .i64 x.pw) ∧ V.cell? ⟨ps, 1, none⟩ = some (.bool x.op) := ⟨hra.cell rfl, hra.cell rfl⟩
      by_cases hpw0 : x.pw = 0
      · have hp0 : (x.pw != 0) = false := by simp [hpw0]
        have hg1 := hga
        have hr1 := hra
        clear hpw0
        go_upto_region 9 with fail
        obtain ⟨V1, hV1⟩ : ∃ V1, V1 = V := ⟨_, rfl⟩
        rw [← hV1] at hg1 hr1 cs1 ⊢
        clear hV1 hra hga cs0
        cases hop : x.op with
        | false =>
          rw [hop] at cs1
          have hg2 := hg1
          clear hop hg1 hr1
          go_upto_region 11 with fail
          clear cs1
          have hxa := RowAt.new V1 32 #[.int .i64 0, .slice none 0 0, .int .i64 E, .int .i64 0, .int .i64 0]
          have hg3 := hg2.alloc (.cells #[.int .i64 0, .slice none 0 0, .int .i64 E, .int .i64 0, .int .i64 0] 32)
          go_upto_region 18 with fail
          generalize V1.alloc (.cells #[.int .i64 0, .slice none 0 0, .int .i64 E, .int .i64 0, .int .i64 0] 32) = V3 at *
          obtain ⟨px, hpx⟩ : ∃ p, p = V1.heap.size := ⟨_, rfl⟩
          rw [← hpx] at hxa ⊢
          clear hpx hg2
          have HB1 : Hid (k + 1 ≤ maxLen) := sen_len HLT.out hmc
          have HB2 : Hid (((k + 1) + (k + 1) / 4 + 192) * 56 ≤ 281474976710656) := sen_bytes HLT.out hK
          have HB3 : Hid (w.heap.size ≤ (V3.alloc (.cells #[.int .i64 0, .slice none 0 0, .int .i64 E, .int .i64 0, .int .i64 0] 32)).heap.size) := by have := hg3.below.size; rw [Hid, World.size_alloc]; exact Nat.le_succ_of_le this
          go_wp2_with (first | refine wpList_load_row rfl 32 _ rfl px rfl 32 #[.int .i64 0, .slice none 0 0, .int .i64 E, .int .i64 0, .int .i64 0] (0, 0) _ hxa Try.underlying32 rfl s_info_sen ?_ | refine wpList_build1c rfl 25 32 _ rfl 5 #[.int .i64 0, .slice none 0 0, .int .i64 0, .int .i64 0, .int .i64 0] #[.int .i64 0, .slice none 0 0, .int .i64 E, .int .i64 0, .int .i64 0] rfl (by decide) (by decide) Try.underlying25 rfl rfl s_zs_sen ?_ | (at_builtin; refine wpList_append_wide_at rfl _ _ 25 rfl w.heap.size 32 j0 (.agg #[.int .i64 0, .slice none 0 0, .int .i64 0, .int .i64 0, .int .i64 0]) 5 56 Try.underlying25 hj0 hy0 hy1 hy2 rfl (by decide) _ _ _ rfl (World.ownsRow.alloc hg3.out.own _) ⟨V3.heap.size, 0, none⟩ 1 1 (#[.int .i64 0, .slice none 0 0, .int .i64 E, .int .i64 0, .int .i64 0] : Array Value).toList rfl rfl (sen_new V3 _) (sen_ones _ _ _ _ _ _ _) (by decide) HB1.out HB2.out HB3.out ?_; intro v5 w5 hown5 hgrow5 hat5))
          have hgn : PbS w w5 q g v5 0 d Z (k + 1) (fun i => if i = k then .slice none 0 0 else R i) := by
            refine hg3.push (r := .slice none 0 0) (by rw [HZ1.out]; exact nums_nil _ _) (by rw [HZ1.out]; exact fun h0 => absurd h0 (Nat.lt_irrefl 0)) ?_ hgrow5 hat5
            rw [HZ1.out]
            exact hown5
          clear hown5 hgrow5 hat5 hg3 hxa
          go_roundw
          case rel => exact ⟨k + 1, v5, _, HLT.out, by go_num, rfl, rfl, rfl, hgn⟩
          case measure => have := HLT.out; simp [intOf]; omega
        | true =>
          rw [hop] at cs1
          obtain ⟨lf1, hd1⟩ := hg1.dk
          go_wp2_with fail
          refine (HOP.out V1 q g lf1 d hg1.below hd1).mono ?_
          rintro e V2 ⟨rfl, hb2⟩
          have hg2 := hg1.step hb2
          clear hop hg1 hb2 hr1 cs1 hd1
          go_upto_region 11 with fail
          have hxa := RowAt.new V2 32 #[.int .i64 0, .slice none 0 0, .int .i64 E, .int .i64 0, .int .i64 0]
          have hg3 := hg2.alloc (.cells #[.int .i64 0, .slice none 0 0, .int .i64 E, .int .i64 0, .int .i64 0] 32)
          go_upto_region 18 with fail
          generalize V2.alloc (.cells #[.int .i64 0, .slice none 0 0, .int .i64 E, .int .i64 0, .int .i64 0] 32) = V3 at *
          obtain ⟨px, hpx⟩ : ∃ p, p = V2.heap.size := ⟨_, rfl⟩
          rw [← hpx] at hxa ⊢
          clear hpx hg2
          have HB1 : Hid (k + 1 ≤ maxLen) := sen_len HLT.out hmc
          have HB2 : Hid (((k + 1) + (k + 1) / 4 + 192) * 56 ≤ 281474976710656) := sen_bytes HLT.out hK
          have HB3 : Hid (w.heap.size ≤ (V3.alloc (.cells #[.int .i64 0, .slice none 0 0, .int .i64 E, .int .i64 0, .int .i64 0] 32)).heap.size) := by have := hg3.below.size; rw [Hid, World.size_alloc]; exact Nat.le_succ_of_le this
          go_wp2_with (first | refine wpList_load_row rfl 32 _ rfl px rfl 32 #[.int .i64 0, .slice none 0 0, .int .i64 E, .int .i64 0, .int .i64 0] (0, 0) _ hxa Try.underlying32 rfl s_info_sen ?_ | refine wpList_build1c rfl 25 32 _ rfl 5 #[.int .i64 0, .slice none 0 0, .int .i64 0, .int .i64 0, .int .i64 0] #[.int .i64 0, .slice none 0 0, .int .i64 E, .int .i64 0, .int .i64 0] rfl (by decide) (by decide) Try.underlying25 rfl rfl s_zs_sen ?_ | (at_builtin; refine wpList_append_wide_at rfl _ _ 25 rfl w.heap.size 32 j0 (.agg #[.int .i64 0, .slice none 0 0, .int .i64 0, .int .i64 0, .int .i64 0]) 5 56 Try.underlying25 hj0 hy0 hy1 hy2 rfl (by decide) _ _ _ rfl (World.ownsRow.alloc hg3.out.own _) ⟨V3.heap.size, 0, none⟩ 1 1 (#[.int .i64 0, .slice none 0 0, .int .i64 E, .int .i64 0, .int .i64 0] : Array Value).toList rfl rfl (sen_new V3 _) (sen_ones _ _ _ _ _ _ _) (by decide) HB1.out HB2.out HB3.out ?_; intro v5 w5 hown5 hgrow5 hat5))
          have hgn : PbS w w5 q g v5 0 d Z (k + 1) (fun i => if i = k then .slice none 0 0 else R i) := by
            refine hg3.push (r := .slice none 0 0) (by rw [HZ1.out]; exact nums_nil _ _) (by rw [HZ1.out]; exact fun h0 => absurd h0 (Nat.lt_irrefl 0)) ?_ hgrow5 hat5
            rw [HZ1.out]
            exact hown5
          clear hown5 hgrow5 hat5 hg3 hxa
          go_roundw
          case rel => exact ⟨k + 1, v5, _, HLT.out, by go_num, rfl, rfl, rfl, hgn⟩
          case measure => have := HLT.out; simp [intOf]; omega
      · have hp0 : (x.pw != 0) = true := by simp [hpw0]
        have hg1 := hga.power (wrap64 (x.pw - 1))
        have hr1 := hra.setOther ⟨q, 1, none⟩ (.int .i64 (wrap64 (x.pw - 1))) hpq.1
        obtain ⟨lf0, cq1, fq1⟩ : ∃ lf, V.cell? ⟨q, 1, none⟩ = some (.int .i64 lf) ∧ V.frozen? ⟨q, 1, none⟩ = false := by
          obtain ⟨lf, ⟨⟨_, _, a, _⟩, _⟩⟩ := hga.dk
          exact ⟨lf, a.cell rfl, a.frozen 1⟩
        have cs1' : (V.setCell ⟨q, 1, none⟩ (.int .i64 (wrap64 (x.pw - 1)))).cell? ⟨ps, 1, none⟩ = some (.bool x.op) := hr1.cell rfl
        clear hpw0
        go_upto_region 9 with fail
        generalize V.setCell ⟨q, 1, none⟩ (.int .i64 (wrap64 (x.pw - 1))) = V1 at *
        clear hra hga cs0 cs1 cq1 fq1
        have cs1 := cs1'
        clear cs1'
        cases hop : x.op with
        | false =>
          rw [hop] at cs1
          have hg2 := hg1
          clear hop hg1 hr1
          go_upto_region 11 with fail
          clear cs1
          have hxa := RowAt.new V1 32 #[.int .i64 0, .slice none 0 0, .int .i64 E, .int .i64 0, .int .i64 0]
          have hg3 := hg2.alloc (.cells #[.int .i64 0, .slice none 0 0, .int .i64 E, .int .i64 0, .int .i64 0] 32)
          go_upto_region 18 with fail
          generalize V1.alloc (.cells #[.int .i64 0, .slice none 0 0, .int .i64 E, .int .i64 0, .int .i64 0] 32) = V3 at *
          obtain ⟨px, hpx⟩ : ∃ p, p = V1.heap.size := ⟨_, rfl⟩
          rw [← hpx] at hxa ⊢
          clear hpx hg2
          have HB1 : Hid (k + 1 ≤ maxLen) := sen_len HLT.out hmc
          have HB2 : Hid (((k + 1) + (k + 1) / 4 + 192) * 56 ≤ 281474976710656) := sen_bytes HLT.out hK
          have HB3 : Hid (w.heap.size ≤ (V3.alloc (.cells #[.int .i64 0, .slice none 0 0, .int .i64 E, .int .i64 0, .int .i64 0] 32)).heap.size) := by have := hg3.below.size; rw [Hid, World.size_alloc]; exact Nat.le_succ_of_le this
          go_wp2_with (first | refine wpList_load_row rfl 32 _ rfl px rfl 32 #[.int .i64 0, .slice none 0 0, .int .i64 E, .int .i64 0, .int .i64 0] (0, 0) _ hxa Try.underlying32 rfl s_info_sen ?_ | refine wpList_build1c rfl 25 32 _ rfl 5 #[.int .i64 0, .slice none 0 0, .int .i64 0, .int .i64 0, .int .i64 0] #[.int .i64 0, .slice none 0 0, .int .i64 E, .int .i64 0, .int .i64 0] rfl (by decide) (by decide) Try.underlying25 rfl rfl s_zs_sen ?_ | (at_builtin; refine wpList_append_wide_at rfl _ _ 25 rfl w.heap.size 32 j0 (.agg #[.int .i64 0, .slice none 0 0, .int .i64 0, .int .i64 0, .int .i64 0]) 5 56 Try.underlying25 hj0 hy0 hy1 hy2 rfl (by decide) _ _ _ rfl (World.ownsRow.alloc hg3.out.own _) ⟨V3.heap.size, 0, none⟩ 1 1 (#[.int .i64 0, .slice none 0 0, .int .i64 E, .int .i64 0, .int .i64 0] : Array Value).toList rfl rfl (sen_new V3 _) (sen_ones _ _ _ _ _ _ _) (by decide) HB1.out HB2.out HB3.out ?_; intro v5 w5 hown5 hgrow5 hat5))
          have hgn : PbS w w5 q g v5 0 d Z (k + 1) (fun i => if i = k then .slice none 0 0 else R i) := by
            refine hg3.push (r := .slice none 0 0) (by rw [HZ1.out]; exact nums_nil _ _) (by rw [HZ1.out]; exact fun h0 => absurd h0 (Nat.lt_irrefl 0)) ?_ hgrow5 hat5
            rw [HZ1.out]
            exact hown5
          clear hown5 hgrow5 hat5 hg3 hxa
          go_roundw
          case rel => exact ⟨k + 1, v5, _, HLT.out, by go_num, rfl, rfl, rfl, hgn⟩
          case measure => have := HLT.out; simp [intOf]; omega
        | true =>
          rw [hop] at cs1
          obtain ⟨lf1, hd1⟩ := hg1.dk
          go_wp2_with fail
          refine (HOP.out V1 q g lf1 d hg1.below hd1).mono ?_
          rintro e V2 ⟨rfl, hb2⟩
          have hg2 := hg1.step hb2
          clear hop hg1 hb2 hr1 cs1 hd1
          go_upto_region 11 with fail
          have hxa := RowAt.new V2 32 #[.int .i64 0, .slice none 0 0, .int .i64 E, .int .i64 0, .int .i64 0]
          have hg3 := hg2.alloc (.cells #[.int .i64 0, .slice none 0 0, .int .i64 E, .int .i64 0, .int .i64 0] 32)
          go_upto_region 18 with fail
          generalize V2.alloc (.cells #[.int .i64 0, .slice none 0 0, .int .i64 E, .int .i64 0, .int .i64 0] 32) = V3 at *
          obtain ⟨px, hpx⟩ : ∃ p, p = V2.heap.size := ⟨_, rfl⟩
          rw [← hpx] at hxa ⊢
          clear hpx hg2
          have HB1 : Hid (k + 1 ≤ maxLen) := sen_len HLT.out hmc
          have HB2 : Hid (((k + 1) + (k + 1) / 4 + 192) * 56 ≤ 281474976710656) := sen_bytes HLT.out hK
          have HB3 : Hid (w.heap.size ≤ (V3.alloc (.cells #[.int .i64 0, .slice none 0 0, .int .i64 E, .int .i64 0, .int .i64 0] 32)).heap.size) := by have := hg3.below.size; rw [Hid, World.size_alloc]; exact Nat.le_succ_of_le this
          go_wp2_with (first | refine wpList_load_row rfl 32 _ rfl px rfl 32 #[.int .i64 0, .slice none 0 0, .int .i64 E, .int .i64 0, .int .i64 0] (0, 0) _ hxa Try.underlying32 rfl s_info_sen ?_ | refine wpList_build1c rfl 25 32 _ rfl 5 #[.int .i64 0, .slice none 0 0, .int .i64 0, .int .i64 0, .int .i64 0] #[.int .i64 0, .slice none 0 0, .int .i64 E, .int .i64 0, .int .i64 0] rfl (by decide) (by decide) Try.underlying25 rfl rfl s_zs_sen ?_ | (at_builtin; refine wpList_append_wide_at rfl _ _ 25 rfl w.heap.size 32 j0 (.agg #[.int .i64 0, .slice none 0 0, .int .i64 0, .int .i64 0, .int .i64 0]) 5 56 Try.underlying25 hj0 hy0 hy1 hy2 rfl (by decide) _ _ _ rfl (World.ownsRow.alloc hg3.out.own _) ⟨V3.heap.size, 0, none⟩ 1 1 (#[.int .i64 0, .slice none 0 0, .int .i64 E, .int .i64 0, .int .i64 0] : Array Value).toList rfl rfl (sen_new V3 _) (sen_ones _ _ _ _ _ _ _) (by decide) HB1.out HB2.out HB3.out ?_; intro v5 w5 hown5 hgrow5 hat5))
          have hgn : PbS w w5 q g v5 0 d Z (k + 1) (fun i => if i = k then .slice none 0 0 else R i) := by
            refine hg3.push (r := .slice none 0 0) (by rw [HZ1.out]; exact nums_nil _ _) (by rw [HZ1.out]; exact fun h0 => absurd h0 (Nat.lt_irrefl 0)) ?_ hgrow5 hat5
            rw [HZ1.out]
            exact hown5
          clear hown5 hgrow5 hat5 hg3 hxa
          go_roundw
          case rel => exact ⟨k + 1, v5, _, HLT.out, by go_num, rfl, rfl, rfl, hgn⟩
          case measure => have := HLT.out; simp [intOf]; omega
  | some ad =>
    have HNW := (show Hid (∀ W, Below w.heap.size w W → ∀ j u, (ints D d).toList[j]? = some u → W.cell? (ad.add j) = some u) from nums_list hw)
    have HON := (show Hid (∀ u ∈ (ints D d).toList, u.oneCell' = true) from ints_ones D d)
    clear hw hwc
    go_enter Try.func6, Try.ntmps6
    go_wp2_with (first | (at_builtin; refine wpList_append_own _ rfl _ _ 23 rfl w.heap.size 2 i0 (.int .i64 0) 1 8 Try.underlying23 hi0 hz0 hz1 hz2 rfl (by decide) _ _ _ rfl how ad D cw (ints D d).toList rfl (by rw [Array.length_toList, ints_size, Nat.mul_one]) (HNW.out _ hb1) HON.out (by unfold maxLen; omega) (by omega) (by simp) ?_; intro v' w1 hown' hgrow hnil; rw [Nat.zero_add, List.nil_append] at hown'; have hbw := hb1.grown hgrow (by simp) (fun p hp => (World.ownsRow.lt how p hp).1); obtain ⟨g, cap', cur, rfl, hBg, hrg, hcg, _⟩ := own_words hown' (fun e => by cases (hnil.1 e).1); clear how hown' hgrow hnil))
    clear HNW HON hi0 hz0 hz1 hz2
    have hdk : DkAt (w1.alloc (.cells #[.slice (some ⟨g, 0, none⟩) D cap', .int .i64 (-1), .bool false] 44)) w1.heap.size g D d (-1) := ⟨⟨cap', cur, RowAt.new w1 _ _, hrg.alloc _, hcg, by unfold maxLen; omega⟩, by have := hrg.lt; omega⟩
    have hq1 := hbw.size
    have hbq := hbw.alloc hq1 (.cells #[.slice (some ⟨g, 0, none⟩) D cap', .int .i64 (-1), .bool false] 44)
    generalize w1.alloc (.cells #[.slice (some ⟨g, 0, none⟩) D cap', .int .i64 (-1), .bool false] 44) = W1 at *
    obtain ⟨q, hq⟩ : ∃ q, q = w1.heap.size := ⟨_, rfl⟩
    rw [← hq] at hdk hq1 ⊢
    clear hq hbw hb1 hrg hcg
    refine (HOP.out W1 q g (-1) d hbq hdk).mono ?_
    rintro e W2 ⟨rfl, hb2⟩
    have hg0 : PbS w W2 q g (.slice none 0 0) D d Z 0 (fun _ => .slice none 0 0) := ⟨hbq.trans (hb2.mono hbq.size), ⟨_, hdk.below hb2⟩, hq1, hBg, OutS.nil _ _ _ _ _⟩
    clear hdk hbq hb2
    go_wp2_with fail
    go_loopw [33, 14, 12, 13] (fun i y z t W => ∃ (k : Nat) (v : Value) (R : Nat → Value), k ≤ K ∧ i = .int .i64 (k : Nat) ∧ v = y ∧ .pointer none = z ∧ .int .i64 E = t ∧ PbS w W q g v D d Z k R) (fun i _ _ _ _ => ((K : Int) - intOf i).toNat)
    case atStart => exact ⟨0, _, _, by omega, rfl, rfl, rfl, rfl, hg0⟩
    case round =>
      clear hg0
      obtain ⟨k, v, R, hk, rfl, rfl, rfl, rfl, hg⟩ := hrel
      by_cases hlt : k < K
      case neg =>
        obtain rfl : k = K := by omega
        have hnl : ¬ ((k : Nat) : Int) < ((k : Nat) : Int) := by omega
        obtain ⟨lf, hdl⟩ := hg.dk
        obtain ⟨cap2, c0, c2, hnum⟩ := hdl.nums
        have HNU := (show Hid (NumsAt wr (.slice (some ⟨g, 0, none⟩) D cap2) D d) from hnum)
        have HSE : Hid (SenAt wr v k Z) := own_sen hg.out.own hg.out.rows
        have hbe := hg.below
        clear hg hnum hdl HRC HOP HZA hlt
        go_upto_region 20 with fail
        go_region
        all_goals
          go_wp2
          go_ret3
          exact ⟨_, _, rfl, by first | exact HSE.out | exact HSE.out.below (Below.refl _ _).drew, by first | exact HNU.out | exact HNU.out.below (Below.refl _ _).drew, by first | exact hbe | exact hbe.drew⟩
      obtain ⟨bc, oc, rfl, hr6⟩ := HRC.out k hlt
      obtain ⟨ar, cr, er, hmr⟩ := (HNC.out k hlt).len
      rw [er] at hr6
      have hr7 : wr.rangeAt bc (oc + k * 6) [.int .i64 (X k).pw, .bool (X k).op, .bool (X k).sd, .bool (X k).tk, .int .i64 (X k).pl, .slice ar (X k).tn cr] := rangeAt_belowO hr6 hg.below
      have HLT : Hid (k < K) := hlt
      have HZ1 := (show Hid (Z k = Oc.snB E) from HZA.out k)
      unfold maxLen at hmr
      clear er hr6
      generalize X k = x at *
      have hlt2 : (k : Int) < (K : Int) := by omega
      have hra := RowAt.new wr 38 #[.int .i64 x.pw, .bool x.op, .bool x.sd, .bool x.tk, .int .i64 x.pl, .slice ar x.tn cr]
      have hga := hg.alloc (.cells #[.int .i64 x.pw, .bool x.op, .bool x.sd, .bool x.tk, .int .i64 x.pl, .slice ar x.tn cr] 38)
      have hpq : wr.heap.size ≠ q ∧ wr.heap.size ≠ g := by
        obtain ⟨lf, hdl⟩ := hg.dk
        have := hdl.lt
        omega
      go_upto_region 7 with (refine wpList_load_mid rfl 38 _ rfl bc (oc + k * 6) rfl [.int .i64 x.pw, .bool x.op, .bool x.sd, .bool x.tk, .int .i64 x.pl, .slice ar x.tn cr] _ hr7 Try.underlying38 rfl s_info_stp ?_)
      generalize wr.alloc (.cells #[.int .i64 x.pw, .bool x.op, .bool x.sd, .bool x.tk, .int .i64 x.pl, .slice ar x.tn cr] 38) = V at *
      obtain ⟨ps, hps⟩ : ∃ p, p = wr.heap.size := ⟨_, rfl⟩
      rw [← hps] at hra hpq ⊢
      clear hps hr7 hg HRC HNC HZA
      obtain ⟨cs0, cs1⟩ : V.cell? ⟨ps, 0, none⟩ = some (.int .i64 x.pw) ∧ V.cell? ⟨ps, 1, none⟩ = some (.bool x.op) := ⟨hra.cell rfl, hra.cell rfl⟩
      by_cases hpw0 : x.pw = 0
      · have hp0 : (x.pw != 0) = false := by simp [hpw0]
        have hg1 := hga
        have hr1 := hra
        clear hpw0
        go_upto_region 9 with fail
        obtain ⟨V1, hV1⟩ : ∃ V1, V1 = V := ⟨_, rfl⟩
        rw [← hV1] at hg1 hr1 cs1 ⊢
        clear hV1 hra hga cs0
        cases hop : x.op with
        | false =>
          rw [hop] at cs1
          have hg2 := hg1
          clear hop hg1 hr1
          go_upto_region 11 with fail
          clear cs1
          have hxa := RowAt.new V1 32 #[.int .i64 0, .slice none 0 0, .int .i64 E, .int .i64 0, .int .i64 0]
          have hg3 := hg2.alloc (.cells #[.int .i64 0, .slice none 0 0, .int .i64 E, .int .i64 0, .int .i64 0] 32)
          go_upto_region 18 with fail
          generalize V1.alloc (.cells #[.int .i64 0, .slice none 0 0, .int .i64 E, .int .i64 0, .int .i64 0] 32) = V3 at *
          obtain ⟨px, hpx⟩ : ∃ p, p = V1.heap.size := ⟨_, rfl⟩
          rw [← hpx] at hxa ⊢
          clear hpx hg2
          have HB1 : Hid (k + 1 ≤ maxLen) := sen_len HLT.out hmc
          have HB2 : Hid (((k + 1) + (k + 1) / 4 + 192) * 56 ≤ 281474976710656) := sen_bytes HLT.out hK
          have HB3 : Hid (w.heap.size ≤ (V3.alloc (.cells #[.int .i64 0, .slice none 0 0, .int .i64 E, .int .i64 0, .int .i64 0] 32)).heap.size) := by have := hg3.below.size; rw [Hid, World.size_alloc]; exact Nat.le_succ_of_le this
          go_wp2_with (first | refine wpList_load_row rfl 32 _ rfl px rfl 32 #[.int .i64 0, .slice none 0 0, .int .i64 E, .int .i64 0, .int .i64 0] (0, 0) _ hxa Try.underlying32 rfl s_info_sen ?_ | refine wpList_build1c rfl 25 32 _ rfl 5 #[.int .i64 0, .slice none 0 0, .int .i64 0, .int .i64 0, .int .i64 0] #[.int .i64 0, .slice none 0 0, .int .i64 E, .int .i64 0, .int .i64 0] rfl (by decide) (by decide) Try.underlying25 rfl rfl s_zs_sen ?_ | (at_builtin; refine wpList_append_wide_at rfl _ _ 25 rfl w.heap.size 32 j0 (.agg #[.int .i64 0, .slice none 0 0, .int .i64 0, .int .i64 0, .int .i64 0]) 5 56 Try.underlying25 hj0 hy0 hy1 hy2 rfl (by decide) _ _ _ rfl (World.ownsRow.alloc hg3.out.own _) ⟨V3.heap.size, 0, none⟩ 1 1 (#[.int .i64 0, .slice none 0 0, .int .i64 E, .int .i64 0, .int .i64 0] : Array Value).toList rfl rfl (sen_new V3 _) (sen_ones _ _ _ _ _ _ _) (by decide) HB1.out HB2.out HB3.out ?_; intro v5 w5 hown5 hgrow5 hat5))
          have hgn : PbS w w5 q g v5 D d Z (k + 1) (fun i => if i = k then .slice none 0 0 else R i) := by
            refine hg3.push (r := .slice none 0 0) (by rw [HZ1.out]; exact nums_nil _ _) (by rw [HZ1.out]; exact fun h0 => absurd h0 (Nat.lt_irrefl 0)) ?_ hgrow5 hat5
            rw [HZ1.out]
            exact hown5
          clear hown5 hgrow5 hat5 hg3 hxa
          go_roundw
          case rel => exact ⟨k + 1, v5, _, HLT.out, by go_num, rfl, rfl, rfl, hgn⟩
          case measure => have := HLT.out; simp [intOf]; omega
        | true =>
          rw [hop] at cs1
          obtain ⟨lf1, hd1⟩ := hg1.dk
          go_wp2_with fail
          refine (HOP.out V1 q g lf1 d hg1.below hd1).mono ?_
          rintro e V2 ⟨rfl, hb2⟩
          have hg2 := hg1.step hb2
          clear hop hg1 hb2 hr1 cs1 hd1
          go_upto_region 11 with fail
          have hxa := RowAt.new V2 32 #[.int .i64 0, .slice none 0 0, .int .i64 E, .int .i64 0, .int .i64 0]
          have hg3 := hg2.alloc (.cells #[.int .i64 0, .slice none 0 0, .int .i64 E, .int .i64 0, .int .i64 0] 32)
          go_upto_region 18 with fail
          generalize V2.alloc (.cells #[.int .i64 0, .slice none 0 0, .int .i64 E, .int .i64 0, .int .i64 0] 32) = V3 at *
          obtain ⟨px, hpx⟩ : ∃ p, p = V2.heap.size := ⟨_, rfl⟩
          rw [← hpx] at hxa ⊢
          clear hpx hg2
          have HB1 : Hid (k + 1 ≤ maxLen) := sen_len HLT.out hmc
          have HB2 : Hid (((k + 1) + (k + 1) / 4 + 192) * 56 ≤ 281474976710656) := sen_bytes HLT.out hK
          have HB3 : Hid (w.heap.size ≤ (V3.alloc (.cells #[.int .i64 0, .slice none 0 0, .int .i64 E, .int .i64 0, .int .i64 0] 32)).heap.size) := by have := hg3.below.size; rw [Hid, World.size_alloc]; exact Nat.le_succ_of_le this
          go_wp2_with (first | refine wpList_load_row rfl 32 _ rfl px rfl 32 #[.int .i64 0, .slice none 0 0, .int .i64 E, .int .i64 0, .int .i64 0] (0, 0) _ hxa Try.underlying32 rfl s_info_sen ?_ | refine wpList_build1c rfl 25 32 _ rfl 5 #[.int .i64 0, .slice none 0 0, .int .i64 0, .int .i64 0, .int .i64 0] #[.int .i64 0, .slice none 0 0, .int .i64 E, .int .i64 0, .int .i64 0] rfl (by decide) (by decide) Try.underlying25 rfl rfl s_zs_sen ?_ | (at_builtin; refine wpList_append_wide_at rfl _ _ 25 rfl w.heap.size 32 j0 (.agg #[.int .i64 0, .slice none 0 0, .int .i64 0, .int .i64 0, .int .i64 0]) 5 56 Try.underlying25 hj0 hy0 hy1 hy2 rfl (by decide) _ _ _ rfl (World.ownsRow.alloc hg3.out.own _) ⟨V3.heap.size, 0, none⟩ 1 1 (#[.int .i64 0, .slice none 0 0, .int .i64 E, .int .i64 0, .int .i64 0] : Array Value).toList rfl rfl (sen_new V3 _) (sen_ones _ _ _ _ _ _ _) (by decide) HB1.out HB2.out HB3.out ?_; intro v5 w5 hown5 hgrow5 hat5))
          have hgn : PbS w w5 q g v5 D d Z (k + 1) (fun i => if i = k then .slice none 0 0 else R i) := by
            refine hg3.push (r := .slice none 0 0) (by rw [HZ1.out]; exact nums_nil _ _) (by rw [HZ1.out]; exact fun h0 => absurd h0 (Nat.lt_irrefl 0)) ?_ hgrow5 hat5
            rw [HZ1.out]
            exact hown5
          clear hown5 hgrow5 hat5 hg3 hxa
          go_roundw
          case rel => exact ⟨k + 1, v5, _, HLT.out, by go_num, rfl, rfl, rfl, hgn⟩
          case measure => have := HLT.out; simp [intOf]; omega
      · have hp0 : (x.pw != 0) = true := by simp [hpw0]
        have hg1 := hga.power (wrap64 (x.pw - 1))
        have hr1 := hra.setOther ⟨q, 1, none⟩ (.int .i64 (wrap64 (x.pw - 1))) hpq.1
        obtain ⟨lf0, cq1, fq1⟩ : ∃ lf, V.cell? ⟨q, 1, none⟩ = some (.int .i64 lf) ∧ V.frozen? ⟨q, 1, none⟩ = false := by
          obtain ⟨lf, ⟨⟨_, _, a, _⟩, _⟩⟩ := hga.dk
          exact ⟨lf, a.cell rfl, a.frozen 1⟩
        have cs1' : (V.setCell ⟨q, 1, none⟩ (.int .i64 (wrap64 (x.pw - 1)))).cell? ⟨ps, 1, none⟩ = some (.bool x.op) := hr1.cell rfl
        clear hpw0
        go_upto_region 9 with fail
        generalize V.setCell ⟨q, 1, none⟩ (.int .i64 (wrap64 (x.pw - 1))) = V1 at *
        clear hra hga cs0 cs1 cq1 fq1
        have cs1 := cs1'
        clear cs1'
        cases hop : x.op with
        | false =>
          rw [hop] at cs1
          have hg2 := hg1
          clear hop hg1 hr1
          go_upto_region 11 with fail
          clear cs1
          have hxa := RowAt.new V1 32 #[.int .i64 0, .slice none 0 0, .int .i64 E, .int .i64 0, .int .i64 0]
          have hg3 := hg2.alloc (.cells #[.int .i64 0, .slice none 0 0, .int .i64 E, .int .i64 0, .int .i64 0] 32)
          go_upto_region 18 with fail
          generalize V1.alloc (.cells #[.int .i64 0, .slice none 0 0, .int .i64 E, .int .i64 0, .int .i64 0] 32) = V3 at *
          obtain ⟨px, hpx⟩ : ∃ p, p = V1.heap.size := ⟨_, rfl⟩
          rw [← hpx] at hxa ⊢
          clear hpx hg2
          have HB1 : Hid (k + 1 ≤ maxLen) := sen_len HLT.out hmc
          have HB2 : Hid (((k + 1) + (k + 1) / 4 + 192) * 56 ≤ 281474976710656) := sen_bytes HLT.out hK
          have HB3 : Hid (w.heap.size ≤ (V3.alloc (.cells #[.int .i64 0, .slice none 0 0, .int .i64 E, .int .i64 0, .int .i64 0] 32)).heap.size) := by have := hg3.below.size; rw [Hid, World.size_alloc]; exact Nat.le_succ_of_le this
          go_wp2_with (first | refine wpList_load_row rfl 32 _ rfl px rfl 32 #[.int .i64 0, .slice none 0 0, .int .i64 E, .int .i64 0, .int .i64 0] (0, 0) _ hxa Try.underlying32 rfl s_info_sen ?_ | refine wpList_build1c rfl 25 32 _ rfl 5 #[.int .i64 0, .slice none 0 0, .int .i64 0, .int .i64 0, .int .i64 0] #[.int .i64 0, .slice none 0 0, .int .i64 E, .int .i64 0, .int .i64 0] rfl (by decide) (by decide) Try.underlying25 rfl rfl s_zs_sen ?_ | (at_builtin; refine wpList_append_wide_at rfl _ _ 25 rfl w.heap.size 32 j0 (.agg #[.int .i64 0, .slice none 0 0, .int .i64 0, .int .i64 0, .int .i64 0]) 5 56 Try.underlying25 hj0 hy0 hy1 hy2 rfl (by decide) _ _ _ rfl (World.ownsRow.alloc hg3.out.own _) ⟨V3.heap.size, 0, none⟩ 1 1 (#[.int .i64 0, .slice none 0 0, .int .i64 E, .int .i64 0, .int .i64 0] : Array Value).toList rfl rfl (sen_new V3 _) (sen_ones _ _ _ _ _ _ _) (by decide) HB1.out HB2.out HB3.out ?_; intro v5 w5 hown5 hgrow5 hat5))
          have hgn : PbS w w5 q g v5 D d Z (k + 1) (fun i => if i = k then .slice none 0 0 else R i) := by
            refine hg3.push (r := .slice none 0 0) (by rw [HZ1.out]; exact nums_nil _ _) (by rw [HZ1.out]; exact fun h0 => absurd h0 (Nat.lt_irrefl 0)) ?_ hgrow5 hat5
            rw [HZ1.out]
            exact hown5
          clear hown5 hgrow5 hat5 hg3 hxa
          go_roundw
          case rel => exact ⟨k + 1, v5, _, HLT.out, by go_num, rfl, rfl, rfl, hgn⟩
          case measure => have := HLT.out; simp [intOf]; omega
        | true =>
          rw [hop] at cs1
          obtain ⟨lf1, hd1⟩ := hg1.dk
          go_wp2_with fail
          refine (HOP.out V1 q g lf1 d hg1.below hd1).mono ?_
          rintro e V2 ⟨rfl, hb2⟩
          have hg2 := hg1.step hb2
          clear hop hg1 hb2 hr1 cs1 hd1
          go_upto_region 11 with fail
          have hxa := RowAt.new V2 32 #[.int .i64 0, .slice none 0 0, .int .i64 E, .int .i64 0, .int .i64 0]
          have hg3 := hg2.alloc (.cells #[.int .i64 0, .slice none 0 0, .int .i64 E, .int .i64 0, .int .i64 0] 32)
          go_upto_region 18 with fail
          generalize V2.alloc (.cells #[.int .i64 0, .slice none 0 0, .int .i64 E, .int .i64 0, .int .i64 0] 32) = V3 at *
          obtain ⟨px, hpx⟩ : ∃ p, p = V2.heap.size := ⟨_, rfl⟩
          rw [← hpx] at hxa ⊢
          clear hpx hg2
          have HB1 : Hid (k + 1 ≤ maxLen) := sen_len HLT.out hmc
          have HB2 : Hid (((k + 1) + (k + 1) / 4 + 192) * 56 ≤ 281474976710656) := sen_bytes HLT.out hK
          have HB3 : Hid (w.heap.size ≤ (V3.alloc (.cells #[.int .i64 0, .slice none 0 0, .int .i64 E, .int .i64 0, .int .i64 0] 32)).heap.size) := by have := hg3.below.size; rw [Hid, World.size_alloc]; exact Nat.le_succ_of_le this
          go_wp2_with (first | refine wpList_load_row rfl 32 _ rfl px rfl 32 #[.int .i64 0, .slice none 0 0, .int .i64 E, .int .i64 0, .int .i64 0] (0, 0) _ hxa Try.underlying32 rfl s_info_sen ?_ | refine wpList_build1c rfl 25 32 _ rfl 5 #[.int .i64 0, .slice none 0 0, .int .i64 0, .int .i64 0, .int .i64 0] #[.int .i64 0, .slice none 0 0, .int .i64 E, .int .i64 0, .int .i64 0] rfl (by decide) (by decide) Try.underlying25 rfl rfl s_zs_sen ?_ | (at_builtin; refine wpList_append_wide_at rfl _ _ 25 rfl w.heap.size 32 j0 (.agg #[.int .i64 0, .slice none 0 0, .int .i64 0, .int .i64 0, .int .i64 0]) 5 56 Try.underlying25 hj0 hy0 hy1 hy2 rfl (by decide) _ _ _ rfl (World.ownsRow.alloc hg3.out.own _) ⟨V3.heap.size, 0, none⟩ 1 1 (#[.int .i64 0, .slice none 0 0, .int .i64 E, .int .i64 0, .int .i64 0] : Array Value).toList rfl rfl (sen_new V3 _) (sen_ones _ _ _ _ _ _ _) (by decide) HB1.out HB2.out HB3.out ?_; intro v5 w5 hown5 hgrow5 hat5))
          have hgn : PbS w w5 q g v5 D d Z (k + 1) (fun i => if i = k then .slice none 0 0 else R i) := by
            refine hg3.push (r := .slice none 0 0) (by rw [HZ1.out]; exact nums_nil _ _) (by rw [HZ1.out]; exact fun h0 => absurd h0 (Nat.lt_irrefl 0)) ?_ hgrow5 hat5
            rw [HZ1.out]
            exact hown5
          clear hown5 hgrow5 hat5 hg3 hxa
          go_roundw
          case rel => exact ⟨k + 1, v5, _, HLT.out, by go_num, rfl, rfl, rfl, hgn⟩
          case measure => have := HLT.out; simp [intOf]; omega
end Go.Proofs.Ytlfghnngbljlhaa
