/-
  OfficeHears: its function (chapter 16).
-/
import Derived.Test.YtlfghnngbljlhaaOfHk
import Derived.Deep.DeepCutAuto
import Derived.OrdersHeld
import Derived.Deep.Upon
import Derived.Deep.RegionHeld
import Derived.Deep.RegionHeld3
namespace Go.Proofs.Ytlfghnngbljlhaa
open Go.RowKit PK Pd

set_option maxRecDepth 100000 in
set_option maxHeartbeats 8000000 in
theorem hears_of (n ag : Int) (vp vt : Value) (P : Nat) (p : Nat → Int) (M : Nat) (L : Nat → Nat) (F : Nat → Nat → Int) (w : World) (hp : NumsAt w vp P p) (ht : MatAt w vt M L F) (hM : M ≤ 1048576) : Calls Try.prog 5 #[.int .i64 n, vp, vt, .int .i64 ag] w fun e w' => e = .returned (.bool true) ∧ Below w.heap.size w w' := by
  have HAL : Hid (Calls Try.prog 9 #[] w fun e w' => e = .returned (.bool true) ∧ Below w.heap.size w w') := alive16 w
  obtain ⟨j0, hj0, hy0, hy1, hy2⟩ := x_info_parts s_all_stp
  have HOF : Hid (∀ W vc K X, Below w.heap.size w W → StpAt W vc K X → K ≤ 1048577 → Calls Try.prog 6 #[.int .i64 n, vp, .slice (some ⟨W.heap.size, 0, none⟩) 2 2, vc] (W.alloc (.cells #[.int .i64 0, .int .i64 0] 2)) fun e w' => ∃ v u, e = .returned (.tuple #[v, u, .bool true]) ∧ SenAt w' v K (Oc.seen n P p 2 X ⟨0, 0, -1, false⟩) ∧ NumsAt w' u 2 (Oc.last n P p 2 (or2 0 0) X K) ∧ Below W.heap.size W w') := fun W vc K X hb hc hK => by
    have hba := hb.alloc hb.size (.cells #[.int .i64 0, .int .i64 0] 2)
    have hbs := (Below.refl W.heap.size W).alloc (Nat.le_refl _) (.cells #[.int .i64 0, .int .i64 0] 2)
    have hKb : (K + K / 4 + 192) * 56 ≤ 281474976710656 := by
      have h4 : K / 4 ≤ K := Nat.div_le_self _ _
      exact Nat.le_trans (Nat.mul_le_mul_right _ (by omega : K + K / 4 + 192 ≤ 3000000)) (by decide)
    refine (office_any n vp _ vc P p 2 _ K X _ (hp.below hba) (two64 W 0 0) (hc.below hbs) (fun c e => by cases e) (by decide) hKb).mono ?_
    rintro e w' ⟨v, u, rfl, h1, h2, h3⟩
    exact ⟨v, u, rfl, h1, h2, hbs.trans (h3.mono hbs.size)⟩
  obtain ⟨ap, cp, rfl, hmp⟩ := hp.len
  obtain ⟨at', ct, RT, rfl, hmt, hct, hRT⟩ := ht
  have HCT := (show Hid (∀ r, r < M → ∃ b o, at' = some ⟨b, o, none⟩ ∧ w.cell? ⟨b, o + r, none⟩ = some (RT r)) from hct)
  have HRT := (show Hid (∀ r, r < M → NumsAt w (RT r) (L r) (F r)) from hRT)
  clear hct hRT hp
  unfold maxLen at hmp hmt
  go_enter Try.func5, Try.ntmps5
  go_wp2_with fail
  refine HAL.out.mono ?_
  rintro e W0 ⟨rfl, hb0⟩
  clear HAL
  go_wp2_with fail
  go_loopw [28, 9] (fun i y W => ∃ (k : Nat) (v : Value), k ≤ M ∧ i = .int .i64 (k : Nat) ∧ v = y ∧ W.ownsRow W0.heap.size 38 6 v k (stl (Oc.sX L F) RT (List.range k)) ∧ Below W0.heap.size W0 W) (fun i _ _ => ((M : Int) - intOf i).toNat)
  case atStart => exact ⟨0, _, by omega, rfl, rfl, World.ownsRow_nil _ _ _ _, Below.refl _ _⟩
  case round =>
    obtain ⟨k, v, hk, rfl, rfl, hown, hbe⟩ := hrel
    by_cases hlt : k < M
    · have HLT : Hid (k < M) := hlt
      have hlt2 : (k : Int) < (M : Int) := by omega
      obtain ⟨b, o, rfl, hc⟩ := HCT.out k hlt
      obtain ⟨ar, cr, er, _⟩ := (HRT.out k hlt).len
      rw [er] at hc
      have hc2 := (hbe.cell (p := ⟨b, o + k, none⟩) (Nat.lt_of_lt_of_le (cell_block hc) hb0.size)).trans ((hb0.cell (p := ⟨b, o + k, none⟩) (cell_block hc)).trans hc)
      have HNX : Hid (stl (Oc.sX L F) RT (List.range (k + 1)) = stl (Oc.sX L F) RT (List.range k) ++ (#[.int .i64 0, .bool false, .bool true, .bool false, .int .i64 0, .slice ar (L k) cr] : Array Value).toList) := by
        rw [Hid, range_next, stl_app, er]
        rfl
      have HB1 : Hid (k + 1 ≤ maxLen) := by rw [Hid]; unfold maxLen; omega
      have HB2 : Hid ((k + 1) * 48 ≤ 140737488355328) := by rw [Hid]; omega
      have hsz := hbe.size
      generalize L k = m at *
      clear hc er hlt
      go_wp2_with (first | refine wpList_build1c rfl 24 38 _ rfl 6 #[.int .i64 0, .bool false, .bool false, .bool false, .int .i64 0, .slice none 0 0] #[.int .i64 0, .bool false, .bool true, .bool false, .int .i64 0, .slice ar m cr] rfl (by decide) (by decide) Try.underlying24 rfl rfl s_zs_stp ?_ | (at_builtin; refine wpList_append_own _ rfl _ _ 24 rfl W0.heap.size 38 j0 (.agg #[.int .i64 0, .bool false, .bool false, .bool false, .int .i64 0, .slice none 0 0]) 6 48 Try.underlying24 hj0 hy0 hy1 hy2 rfl (by decide) _ _ _ rfl (World.ownsRow.alloc hown _) ⟨wr.heap.size, 0, none⟩ 1 1 (#[.int .i64 0, .bool false, .bool true, .bool false, .int .i64 0, .slice ar m cr] : Array Value).toList rfl rfl (stp_new wr _) (stc_ones _ _ _ _ _ _ _ _) HB1.out HB2.out (by rw [World.size_alloc]; omega) ?_; intro v5 w5 hown5 hgrow5 _))
      have hb5 := (hbe.alloc hbe.size (.cells #[.int .i64 0, .bool false, .bool true, .bool false, .int .i64 0, .slice ar m cr] 38)).grown hgrow5 (by rw [World.size_alloc]; omega) (fun p hp => (World.ownsRow.lt hown p hp).1)
      rw [← HNX.out] at hown5
      clear hown hgrow5 hbe
      go_roundw
      case rel => exact ⟨k + 1, v5, HLT.out, by go_num, rfl, hown5, hb5⟩
      case measure => have := HLT.out; simp [intOf]; omega
    · obtain rfl : k = M := by omega
      have hnn : ¬ ((k : Nat) : Int) < ((k : Nat) : Int) := by omega
      have hbw0 : Below w.heap.size w wr := hb0.trans (hbe.mono hb0.size)
      have hst : StpAt wr v k (Oc.sX L F) := own_all hown (fun i hi => (HRT.out i hi).below hbw0)
      clear hown hbe hlt
      go_wp2_with fail
      refine (HOF.out wr v k (Oc.sX L F) hbw0 hst (by omega)).mono ?_
      rintro e W1 ⟨v1, u1, rfl, hs1, hn1, hb1⟩
      obtain ⟨au, cu, rfl, _⟩ := hn1.len
      have hbw1 : Below w.heap.size w W1 := hbw0.trans (hb1.mono hbw0.size)
      obtain ⟨a1, e1, R1, rfl, _, hp1⟩ := hs1.part
      obtain ⟨vx, hvx⟩ : ∃ x, x = v := ⟨_, rfl⟩
      obtain ⟨E, hE⟩ : ∃ E, E = Oc.opE n P p 2 := ⟨_, rfl⟩
      have HE := (show Hid (E = Oc.opE n P p 2) from hE)
      have HZB : Hid (E ≠ 0 → ∀ i, (Oc.seen n P p 2 (Oc.sX L F) ⟨0, 0, -1, false⟩ i).e1 ≠ 0) := fun h i => by unfold Oc.seen; rw [if_neg (by rw [← hE]; exact h)]; show Oc.opE n P p 2 ≠ 0; rw [← hE]; exact h
      have HZG : Hid (E = 0 → ∀ i, Oc.seen n P p 2 (Oc.sX L F) ⟨0, 0, -1, false⟩ i = ⟨if Oc.gd n P p L F i then (Oc.up n P p L F i : Nat) else 0, if Oc.gd n P p L F i then L i else 0, wrF n (F i) (Oc.on p (Oc.up n P p L F i)), 0, txE n (L i) (P - Oc.up n P p L F i) (F i) (Oc.on p (Oc.up n P p L F i)), ((P - Oc.up n P p L F (i + 1) : Nat) : Int)⟩) := fun h i => Oc.seen_send n P p L F 2 (by rw [← hE]; exact h) i
      obtain ⟨Z, hZ⟩ : ∃ Z, Z = Oc.seen n P p 2 (Oc.sX L F) ⟨0, 0, -1, false⟩ := ⟨_, rfl⟩
      rw [← hZ] at HZB HZG hp1
      have HP1 := (show Hid (∀ i, i < k → ∃ b o ar cr, a1 = some ⟨b, o, none⟩ ∧ R1 i = .slice ar (Z i).tn cr ∧ W1.cell? ⟨b, o + i * 5, none⟩ = some (.int .i64 (Z i).pl) ∧ W1.cell? ⟨b, o + i * 5 + 1, none⟩ = some (.slice ar (Z i).tn cr) ∧ W1.cell? ⟨b, o + i * 5 + 2, none⟩ = some (.int .i64 (Z i).e1) ∧ W1.cell? ⟨b, o + i * 5 + 3, none⟩ = some (.int .i64 (Z i).e2) ∧ W1.cell? ⟨b, o + i * 5 + 4, none⟩ = some (.int .i64 (Z i).lf) ∧ W1.rangeAt b (o + i * 5) [.int .i64 (Z i).pl, .slice ar (Z i).tn cr, .int .i64 (Z i).e1, .int .i64 (Z i).e2, .int .i64 (Z i).lf] ∧ NumsAt W1 (.slice ar (Z i).tn cr) (Z i).tn (Z i).tf) from hp1)
      have hsv : ∃ a c, v = .slice a k c := by
        obtain ⟨a, c, _, e, _⟩ := hst
        exact ⟨a, c, e⟩
      obtain ⟨av, cv, rfl⟩ := hsv
      obtain ⟨g0, hg0, hg1, hg2, hg3⟩ := x_info_parts s_all_ints
      clear hs1 hn1 hb1 hp1 hE hst hvx hbw0
      go_wp2_with fail
      go_loopw [58, 15, 16] (fun i y z W => ∃ (q : Nat) (vt vs : Value), q ≤ k ∧ i = .int .i64 (q : Nat) ∧ vt = y ∧ vs = z ∧ (E ≠ 0 → q = 0) ∧ W.ownsRow W1.heap.size 38 6 vt (Oc.gl n P p L F q).length (stl (Oc.tX n P p L F) R1 (Oc.gl n P p L F q)) ∧ W.ownsRow W1.heap.size 22 1 vs (Oc.gl n P p L F q).length ((Oc.gl n P p L F q).map RT) ∧ (∀ b, vt.ownBlock = some b → vs.ownBlock ≠ some b) ∧ Below W1.heap.size W1 W) (fun i _ _ _ => ((k : Int) - intOf i).toNat)
      case atStart => exact ⟨0, _, _, by omega, rfl, rfl, rfl, fun _ => rfl, World.ownsRow_nil _ _ _ _, World.ownsRow_nil _ _ _ _, fun b e => (by cases e), Below.refl _ _⟩
      case round =>
        obtain ⟨q, vt, vs, hq, rfl, rfl, rfl, hE0, ho1, ho2, hne, hbe⟩ := hrel
        have HE0 := (show Hid (E ≠ 0 → q = 0) from hE0)
        have HNE := (show Hid (∀ b, vt.ownBlock = some b → vs.ownBlock ≠ some b) from hne)
        have hgl : (Oc.gl n P p L F q).length ≤ q := gl_len n P p L F q
        clear hE0 hne
        by_cases hlt : q < k
        · have HLT : Hid (q < k) := hlt
          have hlt2 : (q : Int) < (k : Int) := by omega
          obtain ⟨b, o, ar, cr, rfl, eR, _, _, _, _, _, hr5, hnz⟩ := HP1.out q hlt
          have hr6 := rangeAt_belowO hr5 hbe
          obtain ⟨bt, ot, rfl, hct⟩ := HCT.out q hlt
          obtain ⟨ar0, cr0, er0, _⟩ := (HRT.out q hlt).len
          have hc2 := (hbe.cell (p := ⟨bt, ot + q, none⟩) (Nat.lt_of_lt_of_le (cell_block hct) hbw1.size)).trans ((hbw1.cell (p := ⟨bt, ot + q, none⟩) (cell_block hct)).trans hct)
          rw [er0] at hc2
          have HC1 : Hid (W1.cell? ⟨bt, ot + q, none⟩ = some (.slice ar0 (L q) cr0)) := by rw [Hid, ← er0]; exact (hbw1.cell (p := ⟨bt, ot + q, none⟩) (cell_block hct)).trans hct
          have HEZ1 := HZB.out
          have HEZ2 := HZG.out
          have G1 : Hid (E ≠ 0 → (Z q).e1 ≠ 0) := fun h => HEZ1 h q
          have G2 := fun (h : E = 0) => HEZ2 h q
          have HG2 := (show Hid (E = 0 → Z q = ⟨if Oc.gd n P p L F q then (Oc.up n P p L F q : Nat) else 0, if Oc.gd n P p L F q then L q else 0, wrF n (F q) (Oc.on p (Oc.up n P p L F q)), 0, txE n (L q) (P - Oc.up n P p L F q) (F q) (Oc.on p (Oc.up n P p L F q)), ((P - Oc.up n P p L F (q + 1) : Nat) : Int)⟩) from G2)
          have HER := (show Hid (R1 q = .slice ar (Z q).tn cr) from eR)
          have HER0 := (show Hid (RT q = .slice ar0 (L q) cr0) from er0)
          have HNX : Hid (Oc.gl n P p L F (q + 1) = if Oc.gd n P p L F q = true then Oc.gl n P p L F q ++ [q] else Oc.gl n P p L F q) := rfl
          clear HEZ1 HEZ2 G2 eR er0 hct hr5 hnz hlt
          have HGD : Hid (Oc.gd n P p L F q = decide (txE n (L q) (P - Oc.up n P p L F q) (F q) (Oc.on p (Oc.up n P p L F q)) = 0)) := rfl
          obtain ⟨z, hz⟩ : ∃ z, z = Z q := ⟨_, rfl⟩
          rw [← hz] at hr6 G1 HG2 HER
          clear hz
          have hxa := RowAt.new wr 32 #[.int .i64 z.pl, .slice ar z.tn cr, .int .i64 z.e1, .int .i64 z.e2, .int .i64 z.lf]
          have ho1a := World.ownsRow.alloc ho1 (.cells #[.int .i64 z.pl, .slice ar z.tn cr, .int .i64 z.e1, .int .i64 z.e2, .int .i64 z.lf] 32)
          have ho2a := World.ownsRow.alloc ho2 (.cells #[.int .i64 z.pl, .slice ar z.tn cr, .int .i64 z.e1, .int .i64 z.e2, .int .i64 z.lf] 32)
          have hbea := hbe.alloc hbe.size (.cells #[.int .i64 z.pl, .slice ar z.tn cr, .int .i64 z.e1, .int .i64 z.e2, .int .i64 z.lf] 32)
          have c5 := (Below.refl wr.heap.size wr).alloc (Nat.le_refl _) (.cells #[.int .i64 z.pl, .slice ar z.tn cr, .int .i64 z.e1, .int .i64 z.e2, .int .i64 z.lf] 32)
          have hc3 := (c5.cell (p := ⟨bt, ot + q, none⟩) (cell_block hc2)).trans hc2
          have hs0 := hbe.size
          go_upto_region 17 with (refine wpList_load_mid rfl 32 _ rfl b (o + q * 5) rfl [.int .i64 z.pl, .slice ar z.tn cr, .int .i64 z.e1, .int .i64 z.e2, .int .i64 z.lf] _ hr6 Try.underlying32 rfl s_info_sen ?_)
          generalize wr.alloc (.cells #[.int .i64 z.pl, .slice ar z.tn cr, .int .i64 z.e1, .int .i64 z.e2, .int .i64 z.lf] 32) = V at *
          obtain ⟨px, hpx⟩ : ∃ x, x = wr.heap.size := ⟨_, rfl⟩
          rw [← hpx] at hxa ⊢
          clear ho1 ho2 hbe hc2 c5 hr6 hpx
          have x0 : V.cell? ⟨px, 0, none⟩ = some (.int .i64 z.pl) := hxa.cell rfl
          have x1 : V.cell? ⟨px, 1, none⟩ = some (.slice ar z.tn cr) := hxa.cell rfl
          have x2 : V.cell? ⟨px, 2, none⟩ = some (.int .i64 z.e1) := hxa.cell rfl
          have x3 : V.cell? ⟨px, 3, none⟩ = some (.int .i64 z.e2) := hxa.cell rfl
          clear hxa
          by_cases hEz : E = 0
          case neg =>
            have hn1 : (z.e1 != 0) = true := by simpa using G1.out hEz
            have hfin := hbw1.trans (hbea.mono hbw1.size)
            clear hEz G1 HG2 ho1a ho2a hbea
            go_wp2
            go_ret
            exact ⟨rfl, hfin⟩
          have hzz := HG2.out hEz
          have HEZ : Hid (E = 0) := hEz
          cases hgd : Oc.gd n P p L F q with
          | false =>
            have HN : Hid (Oc.gl n P p L F (q + 1) = Oc.gl n P p L F q) := by rw [Hid, HNX.out, hgd]; rfl
            have he1 : z.e1 = 0 := by rw [hzz]
            have he2 : (z.e2 == 0) = false := by
              rw [hzz]
              have := HGD.out
              rw [hgd] at this
              simpa using this.symm
            rw [he1] at x2
            clear hzz hgd HNX HG2 G1 he1 hEz
            go_wp2
            go_roundw
            case rel => exact ⟨q + 1, vt, vs, HLT.out, by go_num, rfl, rfl, fun h => absurd HEZ.out h, by rw [HN.out]; exact ho1a, by rw [HN.out]; exact ho2a, HNE.out, hbea⟩
            case measure => have := HLT.out; simp [intOf]; omega
          | true =>
            have HN : Hid (Oc.gl n P p L F (q + 1) = Oc.gl n P p L F q ++ [q]) := by rw [Hid, HNX.out, hgd]; rfl
            have e0 : z.pl = ((Oc.up n P p L F q : Nat) : Int) := by rw [hzz, hgd]; rfl
            have e1' : z.tn = L q := by rw [hzz, hgd]; rfl
            have e2' : z.e1 = 0 := by rw [hzz]
            have e3' : z.e2 = 0 := by rw [hzz]; exact of_decide_eq_true (HGD.out.symm.trans hgd)
            rw [e0] at x0
            rw [e1'] at x1 HER
            rw [e2'] at x2
            rw [e3'] at x3
            have HST : Hid (stl (Oc.tX n P p L F) R1 (Oc.gl n P p L F q ++ [q]) = stl (Oc.tX n P p L F) R1 (Oc.gl n P p L F q) ++ (#[.int .i64 0, .bool false, .bool false, .bool true, .int .i64 (Oc.up n P p L F q : Nat), .slice ar (L q) cr] : Array Value).toList) := by
              rw [Hid, stl_app, HER.out]
              rfl
            have HSM : Hid ((Oc.gl n P p L F q ++ [q]).map RT = (Oc.gl n P p L F q).map RT ++ [.slice ar0 (L q) cr0]) := by
              rw [Hid, List.map_append, ← HER0.out]
              rfl
            have HLN : Hid ((Oc.gl n P p L F q ++ [q]).length = (Oc.gl n P p L F q).length + 1) := by rw [Hid]; simp
            clear hzz hgd HNX HG2 G1 e0 e1' e2' e3' hEz HGD HER HER0
            generalize Oc.up n P p L F q = u at *
            generalize L q = m at *
            generalize Oc.gl n P p L F q = G at *
            generalize stl (Oc.tX n P p L F) R1 G = SG at *
            generalize G.map RT = MG at *
            have HB1 : Hid (G.length + 1 ≤ maxLen) := by rw [Hid]; unfold maxLen; omega
            have HB2 : Hid ((G.length + 1) * 48 ≤ 140737488355328) := by rw [Hid]; omega
            have HB3 : Hid ((G.length + 1) * 24 ≤ 140737488355328) := by rw [Hid]; omega
            have hs1 := hbea.size
            go_upto_region 21 with (first | refine wpList_build1c rfl 24 38 _ rfl 6 #[.int .i64 0, .bool false, .bool false, .bool false, .int .i64 0, .slice none 0 0] #[.int .i64 0, .bool false, .bool false, .bool true, .int .i64 (u : Nat), .slice ar m cr] rfl (by decide) (by decide) Try.underlying24 rfl rfl s_zs_stp ?_ | (at_builtin; refine wpList_append_own_at _ rfl _ _ 24 rfl W1.heap.size 38 j0 (.agg #[.int .i64 0, .bool false, .bool false, .bool false, .int .i64 0, .slice none 0 0]) 6 48 Try.underlying24 hj0 hy0 hy1 hy2 rfl (by decide) _ _ _ rfl (World.ownsRow.alloc ho1a _) ⟨V.heap.size, 0, none⟩ 1 1 (#[.int .i64 0, .bool false, .bool false, .bool true, .int .i64 (u : Nat), .slice ar m cr] : Array Value).toList rfl rfl (stp_new V _) (stc_ones _ _ _ _ _ _ _ _) HB1.out HB2.out (by rw [World.size_alloc]; omega) ?_; intro v5 w5 hown5 hgrow5 _ hat5))
            have hz5 : (V.alloc (.cells #[.int .i64 0, .bool false, .bool false, .bool true, .int .i64 (u : Nat), .slice ar m cr] 38)).heap.size = V.heap.size + 1 := by simp
            have hb5 := (hbea.alloc hbea.size (.cells #[.int .i64 0, .bool false, .bool false, .bool true, .int .i64 (u : Nat), .slice ar m cr] 38)).grown hgrow5 (by rw [hz5]; omega) (fun p hp => (World.ownsRow.lt ho1a p hp).1)
            have ho25 := (World.ownsRow.alloc ho2a (.cells #[.int .i64 0, .bool false, .bool false, .bool true, .int .i64 (u : Nat), .slice ar m cr] 38)).kept hgrow5 (by
              by_cases e : vs.ownBlock = none
              · exact .inl e
              · right
                intro (e2 : vs.ownBlock = vt.ownBlock)
                cases h : vt.ownBlock with
                | none => rw [h] at e2; exact e e2
                | some b => exact HNE.out b h (e2.trans h))
            have hv2 := World.ownsRow.lt ho2a
            have hne5 : ∀ b, v5.ownBlock = some b → vs.ownBlock ≠ some b := fun b hb e => by
              rcases hat5 with h5 | h5
              · exact HNE.out b (h5.symm.trans hb) e
              · rw [h5] at hb
                cases hb
                have := (hv2 _ e).2
                rw [hz5] at this
                omega
            have hc4 : w5.cell? ⟨bt, ot + q, none⟩ = some (.slice ar0 m cr0) := (hb5.cell (p := ⟨bt, ot + q, none⟩) (cell_block HC1.out)).trans HC1.out
            have hs5 := hb5.size
            have ho15 : w5.ownsRow W1.heap.size 38 6 v5 (G.length + 1) (SG ++ (#[.int .i64 0, .bool false, .bool false, .bool true, .int .i64 (u : Nat), .slice ar m cr] : Array Value).toList) := hown5
            have HB4 : Hid ((.slice ar0 m cr0 : Value).oneCell' = true) := rfl
            clear hown5 hgrow5 hat5 ho1a ho2a hbea hv2 hc3 x0 x1 x2 x3 hz5
            go_wp2_with (first | (at_builtin; refine wpList_append_own_at _ rfl _ _ 40 rfl W1.heap.size 22 g0 (.slice none 0 0) 1 24 Try.underlying40 hg0 hg1 hg2 hg3 rfl (by decide) _ _ _ rfl (World.ownsRow.alloc ho25 _) ⟨w5.heap.size, 0, none⟩ 1 1 [.slice ar0 m cr0] rfl rfl (cell_one_new _ _ _) (fun u hu => by simp at hu; subst hu; rfl) HB1.out HB3.out (by rw [World.size_alloc]; omega) ?_; intro v6 w6 hown6 hgrow6 _ hat6))
            have hz6 : (w5.alloc (.cells #[.slice ar0 m cr0] 22)).heap.size = w5.heap.size + 1 := by simp
            have hb6 := (hb5.alloc hb5.size (.cells #[.slice ar0 m cr0] 22)).grown hgrow6 (by rw [hz6]; omega) (fun p hp => (World.ownsRow.lt ho25 p hp).1)
            have ho16 := (World.ownsRow.alloc ho15 (.cells #[.slice ar0 m cr0] 22)).kept hgrow6 (by
              by_cases e : v5.ownBlock = none
              · exact .inl e
              · right
                intro (e2 : v5.ownBlock = vs.ownBlock)
                cases h : v5.ownBlock with
                | none => exact e h
                | some b => exact hne5 b h (e2.symm.trans h))
            have hv5 := World.ownsRow.lt ho15
            have hne6 : ∀ b, v5.ownBlock = some b → v6.ownBlock ≠ some b := fun b hb e => by
              rcases hat6 with h6 | h6
              · exact hne5 b hb (h6.symm.trans e)
              · rw [h6] at e
                cases e
                have := (hv5 _ hb).2
                rw [hz6] at this
                omega
            have HOW6 := (show Hid (w6.ownsRow W1.heap.size 22 1 v6 (G.length + 1) (MG ++ [.slice ar0 m cr0])) from hown6)
            clear hown6 hgrow6 hat6 ho15 ho25 hb5 hne5 hv5 hz6 hc4
            go_roundw
            case rel => exact ⟨q + 1, v5, v6, HLT.out, by go_num, rfl, rfl, fun h => absurd HEZ.out h, by rw [HN.out, HLN.out, HST.out]; exact ho16, by rw [HN.out, HLN.out, HSM.out]; exact HOW6.out, hne6, hb6⟩
            case measure => have := HLT.out; simp [intOf]; omega
        · obtain rfl : q = k := by omega
          have hnl : ¬ ((q : Nat) : Int) < ((q : Nat) : Int) := by omega
          have hnG : ∀ i, i ∈ Oc.gl n P p L F q → NumsAt wr (R1 i) (Oc.tX n P p L F i).tn (Oc.tX n P p L F i).tf := fun i hi => by
            have h1 := Oc.gl_good n P p L F i hi
            have hE1 : E = 0 := by
              by_cases h : E = 0
              · exact h
              · have := HE0.out h
                omega
            obtain ⟨_, _, ar, cr, _, eR, _, _, _, _, _, _, hnz⟩ := HP1.out i h1.2
            have hz := HZG.out hE1 i
            rw [h1.1] at hz
            rw [eR]
            have e1 : (Z i).tn = L i := by rw [hz]; rfl
            have e2 : (Z i).tf = wrF n (F i) (Oc.on p (Oc.up n P p L F i)) := by rw [hz]
            rw [e1, e2] at hnz
            rw [e1]
            exact hnz.below hbe
          have hstp := own_stp ho1 hnG
          have hm1 : (Oc.gl n P p L F q).length ≤ 1048576 := by omega
          have HEG : Hid (0 < (Oc.gl n P p L F q).length → Oc.opE n P p 2 = 0) := fun h => by
            by_cases h2 : E = 0
            · rw [← HE.out]; exact h2
            · have := HE0.out h2
              omega
          have HSN : Hid (∀ i, i < (Oc.gl n P p L F q).length → ∃ b o ar cr, vs = .slice (some ⟨b, o, none⟩) (Oc.gl n P p L F q).length cr ∧ wr.cell? ⟨b, o + i, none⟩ = some ar ∧ ar = RT ((Oc.gl n P p L F q).getD i 0)) := fun i hi => by
            have hx := ho2
            rcases ho2.2 with ⟨_, h0⟩ | ⟨g, cap, cur, rfl, hbg, hg, hnc, hcm, hcs, htake⟩
            · omega
            · refine ⟨g, 0, _, cap, rfl, ?_, rfl⟩
              have h1 : ((Oc.gl n P p L F q).map RT)[i]? = some (RT ((Oc.gl n P p L F q).getD i 0)) := by
                rw [List.getElem?_map, List.getElem?_eq_getElem hi, List.getD_eq_getElem?_getD, List.getElem?_eq_getElem hi]
                rfl
              have := World.ownsRow.cells (g := g) hx rfl i _ h1
              rw [Addr.add_mid] at this
              exact this
          have hvs : ∃ a c, vs = .slice a (Oc.gl n P p L F q).length c := by
            rcases ho2.2 with ⟨h1, h0⟩ | ⟨g, cap, cur, h1, _⟩
            · exact ⟨none, 0, by rw [h1, h0]⟩
            · exact ⟨_, cap, h1⟩
          have HHR : Hid (∀ (X : Nat → Oc.Sp) (K : Nat), (∀ j, j < (Oc.gl n P p L F q).length → X j = Oc.tX n P p L F ((Oc.gl n P p L F q).getD j 0)) → ∀ j, j < (Oc.gl n P p L F q).length → (Oc.seen n P p 2 X ⟨0, 0, -1, false⟩ j).e2 = 0 ∧ (Oc.seen n P p 2 X ⟨0, 0, -1, false⟩ j).tn = L ((Oc.gl n P p L F q).getD j 0) ∧ ∀ i, i < L ((Oc.gl n P p L F q).getD j 0) → (Oc.seen n P p 2 X ⟨0, 0, -1, false⟩ j).tf i = F ((Oc.gl n P p L F q).getD j 0) i) := fun X _ hX j hj => Oc.seen_take n P p L F 2 (HEG.out (by omega)) hX hj
          have HRG : Hid (∀ j, j < (Oc.gl n P p L F q).length → NumsAt w (RT ((Oc.gl n P p L F q).getD j 0)) (L ((Oc.gl n P p L F q).getD j 0)) (F ((Oc.gl n P p L F q).getD j 0))) := fun j hj => HRT.out _ (Oc.gl_mem n P p L F hj).2
          have hbwr : Below w.heap.size w wr := hbw1.trans (hbe.mono hbw1.size)
          have HCL : Hid (0 < (Oc.gl n P p L F q).length → ∃ g c2, vt = .slice (some ⟨g, 0, none⟩) (Oc.gl n P p L F q).length c2 ∧ ∀ j u, (stl (Oc.tX n P p L F) R1 (Oc.gl n P p L F q))[j]? = some u → wr.cell? ((⟨g, 0, none⟩ : Addr).add j) = some u) := fun h0 => by
            have hx := ho1
            rcases ho1.2 with ⟨_, h1⟩ | ⟨g, cap, cur, rfl, _⟩
            · omega
            · exact ⟨g, cap, rfl, World.ownsRow.cells (g := g) hx rfl⟩
          have HR1 : Hid (∀ i, i ∈ Oc.gl n P p L F q → ∃ ar cr, R1 i = .slice ar (L i) cr) := fun i hi => by
            obtain ⟨ar, cr, e, _⟩ := (hnG i hi).len
            exact ⟨ar, cr, e⟩
          have HNG := (show Hid (∀ i, i ∈ Oc.gl n P p L F q → NumsAt wr (R1 i) (Oc.tX n P p L F i).tn (Oc.tX n P p L F i).tf) from hnG)
          obtain ⟨avs, cvs, rfl⟩ := hvs
          clear ho1 ho2 hnG HZB HZG HP1 HE0 HNE hlt hbe HCT HRT
          obtain ⟨at2, ct2, R2, rfl, _, hr2, hn2⟩ := hstp
          have HR2 := (show Hid (∀ i, i < (Oc.gl n P p L F q).length → ∃ b o, at2 = some ⟨b, o, none⟩ ∧ wr.rangeAt b (o + i * 6) (stc (Oc.tX n P p L F ((Oc.gl n P p L F q).getD i 0)) (R2 i)).toList) from hr2)
          have HN2 := (show Hid (∀ i, i < (Oc.gl n P p L F q).length → NumsAt wr (R2 i) (Oc.tX n P p L F ((Oc.gl n P p L F q).getD i 0)).tn (Oc.tX n P p L F ((Oc.gl n P p L F q).getD i 0)).tf) from hn2)
          have hst2 : StpAt wr (.slice at2 (Oc.gl n P p L F q).length ct2) (Oc.gl n P p L F q).length (fun j => Oc.tX n P p L F ((Oc.gl n P p L F q).getD j 0)) := ⟨at2, ct2, R2, rfl, by unfold maxLen; omega, hr2, hn2⟩
          have HS2 := (show Hid _ from hst2)
          clear hr2 hn2 hst2
          obtain ⟨m, hm⟩ : ∃ m, m = (Oc.gl n P p L F q).length := ⟨_, rfl⟩
          have HM := (show Hid (m = (Oc.gl n P p L F q).length) from hm)
          rw [← hm] at hm1 HEG HSN HHR HRG HR2 HN2 HS2 HCL ⊢
          clear hm
          go_upto_region 24 with fail
          go_cut [102] (fun t W => .bool (decide (0 ≤ ag ∧ ag < (m : Int) ∧ 0 < L ((Oc.gl n P p L F q).getD ag.toNat 0))) = t ∧ wr = W)
          case first =>
            rcases Int.lt_or_le ag 0 with h1 | h1
            · have HB : Hid (decide (0 ≤ ag ∧ ag < (m : Int) ∧ 0 < L ((Oc.gl n P p L F q).getD ag.toNat 0)) = false) := by rw [Hid, decide_eq_false_iff_not]; omega
              have h2 : ¬ 0 ≤ ag := by omega
              go_wp2_with fail
              go_meet
              exact ⟨by rw [HB.out], rfl⟩
            · obtain ⟨a, rfl⟩ : ∃ a : Nat, ag = (a : Int) := ⟨ag.toNat, by omega⟩
              by_cases h2 : a < m
              · have h3 : ((a : Nat) : Int) < (m : Int) := by omega
                obtain ⟨b, o, rfl, hrg⟩ := HR2.out a h2
                obtain ⟨ar, cr, er, _⟩ := (HN2.out a h2).len
                have c5 : wr.cell? ⟨b, o + a * 6 + 5, none⟩ = some (R2 a) := hrg 5 _ rfl
                rw [er] at c5
                have HB : Hid (decide (0 ≤ ((a : Nat) : Int) ∧ ((a : Nat) : Int) < (m : Int) ∧ 0 < L ((Oc.gl n P p L F q).getD ((a : Nat) : Int).toNat 0)) = decide (0 < L ((Oc.gl n P p L F q).getD a 0))) := by
                  rw [Hid, Int.toNat_natCast]
                  congr 1
                  rw [eq_iff_iff]
                  omega
                have HTN : Hid ((Oc.tX n P p L F ((Oc.gl n P p L F q).getD a 0)).tn = L ((Oc.gl n P p L F q).getD a 0)) := rfl
                rw [HTN.out] at c5
                generalize L ((Oc.gl n P p L F q).getD a 0) = l at *
                clear hrg er h2
                by_cases h4 : 0 < l
                · have h5 : (0 : Int) < (l : Int) := by omega
                  go_wp2_with fail
                  go_meet
                  exact ⟨by rw [HB.out, decide_eq_true h4], rfl⟩
                · obtain rfl : l = 0 := by omega
                  go_wp2_with fail
                  go_meet
                  exact ⟨by rw [HB.out]; rfl, rfl⟩
              · have HB : Hid (decide (0 ≤ ((a : Nat) : Int) ∧ ((a : Nat) : Int) < (m : Int) ∧ 0 < L ((Oc.gl n P p L F q).getD ((a : Nat) : Int).toNat 0)) = false) := by rw [Hid, decide_eq_false_iff_not]; omega
                have h3 : ¬ ((a : Nat) : Int) < (m : Int) := by omega
                go_wp2_with fail
                go_meet
                exact ⟨by rw [HB.out], rfl⟩
          case rest =>
          obtain ⟨rfl, rfl⟩ := hcut
          by_cases hA : 0 ≤ ag ∧ ag < (m : Int) ∧ 0 < L ((Oc.gl n P p L F q).getD ag.toNat 0)
          · rw [decide_eq_true hA]
            obtain ⟨hA0, hA1, hA2⟩ := hA
            obtain ⟨a, rfl⟩ : ∃ a : Nat, ag = (a : Int) := ⟨ag.toNat, by omega⟩
            rw [Int.toNat_natCast] at hA2
            have ha : a < m := by omega
            have HAM : Hid (a < m) := ha
            have HLP : Hid (0 < L ((Oc.gl n P p L F q).getD a 0)) := hA2
            obtain ⟨gq, c2, eq2, hcl⟩ := HCL.out (by omega)
            cases eq2
            have hga : ((Oc.gl n P p L F q).getD a 0) ∈ Oc.gl n P p L F q := by
              rw [List.getD_eq_getElem?_getD, List.getElem?_eq_getElem (by rw [← HM.out]; exact ha)]
              exact List.getElem_mem _
            obtain ⟨arA, crA, eRA⟩ := HR1.out _ hga
            have HMA : Hid (((Oc.gl n P p L F q).getD a 0) ∈ Oc.gl n P p L F q) := hga
            have HCC := (show Hid (∀ j u, (stl (Oc.tX n P p L F) R1 (Oc.gl n P p L F q))[j]? = some u → wr.cell? ((⟨gq, 0, none⟩ : Addr).add j) = some u) from hcl)
            have HNE : Hid (stl (Oc.tX n P p L F) R1 (Oc.gl n P p L F q ++ [((Oc.gl n P p L F q).getD a 0)]) = stl (Oc.tX n P p L F) R1 (Oc.gl n P p L F q) ++ (#[.int .i64 0, .bool false, .bool false, .bool true, .int .i64 (Oc.up n P p L F ((Oc.gl n P p L F q).getD a 0) : Nat), .slice arA (L ((Oc.gl n P p L F q).getD a 0)) crA] : Array Value).toList) := by
              rw [Hid, stl_app, eRA]
              rfl
            have HRG2 : Hid (wr.rangeAt gq (a * 6) (#[.int .i64 0, .bool false, .bool false, .bool true, .int .i64 (Oc.up n P p L F ((Oc.gl n P p L F q).getD a 0) : Nat), .slice arA (L ((Oc.gl n P p L F q).getD a 0)) crA] : Array Value).toList) := fun c u hu => by
              have h1 : (stc (Oc.tX n P p L F ((Oc.gl n P p L F q).getD a 0)) (R1 ((Oc.gl n P p L F q).getD a 0)))[c]? = some u := by
                rw [eRA]
                rw [Array.getElem?_toList] at hu
                exact hu
              have h2 := HCC.out _ _ (stl_at (Oc.tX n P p L F) R1 (Oc.gl n P p L F q) a c u (by rw [← HM.out]; exact ha) h1)
              rw [Addr.add_mid, Nat.zero_add] at h2
              exact h2
            have HON : Hid (∀ u ∈ stl (Oc.tX n P p L F) R1 (Oc.gl n P p L F q), u.oneCell' = true) := stl_ones (fun i hi => by
              obtain ⟨ar, cr, e⟩ := HR1.out i hi
              rw [e]
              rfl)
            have HSL : Hid ((stl (Oc.tX n P p L F) R1 (Oc.gl n P p L F q)).length = m * 6) := by rw [Hid, stl_length, HM.out]
            clear hcl hga eRA hA0 hA1 hA2
            go_upto_region 25 with fail
            go_cut [19] (fun y W => ∃ v', v' = y ∧ W.ownsRow wr.heap.size 38 6 v' (m + 1) (stl (Oc.tX n P p L F) R1 (Oc.gl n P p L F q ++ [((Oc.gl n P p L F q).getD a 0)])) ∧ Below wr.heap.size wr W)
            case first =>
              obtain ⟨SG, hSG⟩ : ∃ l, l = stl (Oc.tX n P p L F) R1 (Oc.gl n P p L F q) := ⟨_, rfl⟩
              rw [← hSG] at HCC HON HSL HNE
              obtain ⟨uA, huA⟩ : ∃ u, u = Oc.up n P p L F ((Oc.gl n P p L F q).getD a 0) := ⟨_, rfl⟩
              obtain ⟨lA, hlA⟩ : ∃ u, u = L ((Oc.gl n P p L F q).getD a 0) := ⟨_, rfl⟩
              rw [← huA, ← hlA] at HNE
              have HRG3 : Hid (wr.rangeAt gq (a * 6) (#[.int .i64 0, .bool false, .bool false, .bool true, .int .i64 (uA : Nat), .slice arA lA crA] : Array Value).toList) := by rw [huA, hlA]; exact HRG2.out
              clear hSG huA hlA HRG2
              have hrw0 : Below wr.heap.size wr wr.drew := (Below.refl _ _).drew
              obtain ⟨U, hU⟩ : ∃ U, U = wr.drew := ⟨_, rfl⟩
              refine wp_region_noPanic ?_
              refine wp_region_held_drew (S := fun W => Below wr.heap.size wr W) (by kernel_rfl) hrw0 (fun hS => ?_)
              clear hrw0
              rw [← hU] at hS ⊢
              clear hU
              refine vtake 1 104 (.slice (some ⟨gq, 0, none⟩) m ct2) rfl rfl (by kernel_rfl) (by kernel_rfl) (by kernel_rfl) (fun _ _ _ _ h => h) (by rfl) (fun W hW => by clear hS hW; go_simp) hS ?_
              simp only [List.setIfInBounds_toArray, List.set_cons_succ, List.set_cons_zero]
              refine vtake 3 106 (.slice (some ⟨gq, 0, none⟩) m ct2) rfl rfl (by kernel_rfl) (by kernel_rfl) (by kernel_rfl) (fun _ _ _ _ h => h) (by rfl) (fun W hW => by clear hS hW; go_simp) hS ?_
              simp only [List.setIfInBounds_toArray, List.set_cons_succ, List.set_cons_zero]
              refine vtake 4 107 (.int .i64 (a : Nat)) rfl rfl (by kernel_rfl) (by kernel_rfl) (by kernel_rfl) (fun _ _ _ _ h => h) (by rfl) (fun W hW => by clear hS hW; go_simp) hS ?_
              simp only [List.setIfInBounds_toArray, List.set_cons_succ, List.set_cons_zero]
              refine vtake 5 108 (.pointer (some ⟨gq, a * 6, none⟩)) rfl rfl (by kernel_rfl) (by kernel_rfl) (by kernel_rfl) (fun _ _ _ _ h => h) (by rfl) (fun W hW => by have u1 : ((a : Nat) : Int) < (m : Int) := (by have := HAM.out; omega); clear hS hW; go_simp) hS ?_
              simp only [List.setIfInBounds_toArray, List.set_cons_succ, List.set_cons_zero]
              refine vtake 6 109 (.agg #[.int .i64 0, .bool false, .bool false, .bool true, .int .i64 (uA : Nat), .slice arA lA crA]) rfl rfl (by kernel_rfl) (by kernel_rfl) (by kernel_rfl) (fun _ _ _ _ h => h) (by rfl) (fun W hW => by have u := run_loadAt_mid (P := Try.prog) W gq (a * 6) 38 (#[.int .i64 0, .bool false, .bool false, .bool true, .int .i64 (uA : Nat), .slice arA lA crA] : Array Value).toList _ (rangeAt_belowO HRG3.out hW) Try.underlying38 rfl s_info_stp; rw [Array.toArray_toList] at u; clear hS hW; simp [execOp, Act.eval, u]) hS ?_
              simp only [List.setIfInBounds_toArray, List.set_cons_succ, List.set_cons_zero]
              refine wpAnyH_ready (rs := [0, 7]) (by kernel_rfl) (by simp) ?_
              refine AllReadyH.cons (o := _) rfl (fun K hK => ?_) (AllReadyH.cons (o := _) rfl (fun K hK => ?_) AllReadyH.nil)
              · rw [if_pos (by rfl)]
                go_simp
                have r0 := RowAt.new U 38 #[]
                have hb0' := hS.alloc hS.size (.cells #[] 38)
                refine hK.out _ _ hb0' (fun hS1 => ?_)
                clear hK K hS1
                have hsz0 := hS.size
                obtain ⟨V0, hV0⟩ : ∃ X, X = U.alloc (.cells #[] 38) := ⟨_, rfl⟩
                obtain ⟨e0, he0⟩ : ∃ x, x = U.heap.size := ⟨_, rfl⟩
                have hzN : V0.heap.size = e0 + 1 := by rw [hV0, he0]; simp
                rw [← hV0] at r0 hb0' ⊢
                rw [← he0] at r0 ⊢

                have he0w : wr.heap.size ≤ e0 := by omega
                have how : V0.ownsRow wr.heap.size 38 6 (.slice (some ⟨e0, 0, none⟩) 0 0) 0 [] := ⟨rfl, .inr ⟨e0, 0, #[], rfl, he0w, r0, Nat.le_refl _, by decide, rfl, rfl⟩⟩

                clear hS r0 hV0 he0
                have hS := hb0'
                clear hb0'
                refine wpAnyH_ready (rs := [2, 7]) (by kernel_rfl) (by simp) ?_
                refine AllReadyH.cons (o := _) rfl (fun K hK => ?_) (AllReadyH.cons (o := _) rfl (fun K hK => ?_) AllReadyH.nil)
                · rw [if_pos (by rfl)]
                  refine wp_append_own _ _ _ 24 rfl wr.heap.size 38 j0 (.agg #[.int .i64 0, .bool false, .bool false, .bool false, .int .i64 0, .slice none 0 0]) 6 48 Try.underlying24 hj0 hy0 hy1 hy2 rfl (by decide) _ 0 [] (by rfl) how ⟨gq, 0, none⟩ m ct2 SG (by rfl) HSL.out (fun j u hu => by have h1 := HCC.out j u hu; exact (World.cell?_of_block (hS.block _ (cell_block h1))).trans h1) HON.out (by unfold maxLen; omega) (by omega) hS.size ?_
                  intro v1 w1 hown1 hgrow1 _
                  rw [Nat.zero_add, List.nil_append] at hown1
                  have hb1' := hS.grown hgrow1 hS.size (fun p hp => (World.ownsRow.lt how p hp).1)

                  refine hK.out _ _ hb1' (fun hS1 => ?_)
                  clear hK K hS1 hS hgrow1 
                  have hS := hb1'

                  clear hb1' 
                  refine wpAnyH_ready (rs := [7]) (by kernel_rfl) (by simp) ?_
                  refine AllReadyH.cons (o := _) rfl (fun K hK => ?_) AllReadyH.nil
                  rw [if_pos (by rfl)]
                  refine wp_build1cW 24 38 _ rfl 6 #[.int .i64 0, .bool false, .bool false, .bool false, .int .i64 0, .slice none 0 0] #[.int .i64 0, .bool false, .bool false, .bool true, .int .i64 (uA : Nat), .slice arA lA crA] (by rfl) (by decide) (by decide) Try.underlying24 rfl rfl s_zs_stp ?_
                  have rA := RowAt.new w1 38 #[.int .i64 0, .bool false, .bool false, .bool true, .int .i64 (uA : Nat), .slice arA lA crA]
                  have hb7' := hS.alloc hS.size (.cells #[.int .i64 0, .bool false, .bool false, .bool true, .int .i64 (uA : Nat), .slice arA lA crA] 38)
                  refine hK.out _ _ hb7' (fun hS1 => ?_)
                  have hzA : (w1.alloc (.cells #[.int .i64 0, .bool false, .bool false, .bool true, .int .i64 (uA : Nat), .slice arA lA crA] 38)).heap.size = w1.heap.size + 1 := by simp
                  have how7 := World.ownsRow.alloc hown1 (.cells #[.int .i64 0, .bool false, .bool false, .bool true, .int .i64 (uA : Nat), .slice arA lA crA] 38)
                  obtain ⟨V7, hV7⟩ : ∃ X, X = w1.alloc (.cells #[.int .i64 0, .bool false, .bool false, .bool true, .int .i64 (uA : Nat), .slice arA lA crA] 38) := ⟨_, rfl⟩
                  obtain ⟨eA, heAe⟩ : ∃ x, x = w1.heap.size := ⟨_, rfl⟩
                  rw [← hV7] at rA hb7' hzA how7 ⊢
                  rw [← heAe] at rA hzA ⊢
                  have HEAE := (show Hid (eA = w1.heap.size) from heAe)
                  clear heAe
                  have HZA : Hid (V7.heap.size = eA + 1) := hzA
                  clear hK K hS1 hS hV7 hzA
                  have hS := hb7'
                  clear hb7'
                  have hown1 := how7
                  clear how7
                  refine wpAnyH_ready (rs := [8]) (by kernel_rfl) (by simp) ?_
                  refine AllReadyH.cons (o := _) rfl (fun K hK => ?_) AllReadyH.nil
                  rw [if_pos (by rfl)]
                  refine wp_append_own _ _ _ 24 rfl wr.heap.size 38 j0 (.agg #[.int .i64 0, .bool false, .bool false, .bool false, .int .i64 0, .slice none 0 0]) 6 48 Try.underlying24 hj0 hy0 hy1 hy2 rfl (by decide) v1 m SG (by rfl) hown1 ⟨eA, 0, none⟩ 1 1 (#[.int .i64 0, .bool false, .bool false, .bool true, .int .i64 (uA : Nat), .slice arA lA crA] : Array Value).toList (by rfl) rfl (fun j u hu => by rw [Addr.add_mid, Nat.zero_add]; exact rA.cell (by rw [← Array.getElem?_toList]; exact hu)) (stc_ones _ _ _ _ _ _ _ _) (by unfold maxLen; omega) (by omega) hS.size ?_
                  intro v2 w2 hown2 hgrow2 _
                  have hb2' := hS.grown hgrow2 hS.size (fun p hp => (World.ownsRow.lt hown1 p hp).1)
                  refine hK.out _ _ hb2' (fun hS1 => ?_)
                  clear hK K hS
                  have hS := hS1
                  clear hS1
                  refine vtake 9 19 (v2) rfl rfl (by kernel_rfl) (by kernel_rfl) (by kernel_rfl) (fun _ _ _ _ h => h) (by rfl) (fun W hW => by clear hS hW; go_simp) hS ?_
                  try simp only [List.setIfInBounds_toArray, List.set_cons_succ, List.set_cons_zero]
                  refine wpAnyH_done (by kernel_rfl) ?_ _
                  refine NoPanic.normal ?_
                  go_wp2_with fail
                  go_meet
                  exact ⟨v2, rfl, by rw [HNE.out]; exact hown2, hb2'⟩
                · rw [if_pos (by rfl)]
                  refine wp_build1cW 24 38 _ rfl 6 #[.int .i64 0, .bool false, .bool false, .bool false, .int .i64 0, .slice none 0 0] #[.int .i64 0, .bool false, .bool false, .bool true, .int .i64 (uA : Nat), .slice arA lA crA] (by rfl) (by decide) (by decide) Try.underlying24 rfl rfl s_zs_stp ?_
                  have rA := RowAt.new V0 38 #[.int .i64 0, .bool false, .bool false, .bool true, .int .i64 (uA : Nat), .slice arA lA crA]
                  have hb7' := hS.alloc hS.size (.cells #[.int .i64 0, .bool false, .bool false, .bool true, .int .i64 (uA : Nat), .slice arA lA crA] 38)
                  refine hK.out _ _ hb7' (fun hS1 => ?_)
                  have hzA : (V0.alloc (.cells #[.int .i64 0, .bool false, .bool false, .bool true, .int .i64 (uA : Nat), .slice arA lA crA] 38)).heap.size = V0.heap.size + 1 := by simp
                  have how7 := World.ownsRow.alloc how (.cells #[.int .i64 0, .bool false, .bool false, .bool true, .int .i64 (uA : Nat), .slice arA lA crA] 38)
                  obtain ⟨V7, hV7⟩ : ∃ X, X = V0.alloc (.cells #[.int .i64 0, .bool false, .bool false, .bool true, .int .i64 (uA : Nat), .slice arA lA crA] 38) := ⟨_, rfl⟩
                  obtain ⟨eA, heAe⟩ : ∃ x, x = V0.heap.size := ⟨_, rfl⟩
                  rw [← hV7] at rA hb7' hzA how7 ⊢
                  rw [← heAe] at rA hzA ⊢
                  have HEAE := (show Hid (eA = V0.heap.size) from heAe)
                  clear heAe
                  have HZA : Hid (V7.heap.size = eA + 1) := hzA
                  clear hK K hS1 hS hV7 hzA
                  have hS := hb7'
                  clear hb7'
                  have how := how7
                  have heA : eA ≠ e0 := by have := HEAE.out; omega
                  clear how7
                  refine wpAnyH_ready (rs := [2]) (by kernel_rfl) (by simp) ?_
                  refine AllReadyH.cons (o := _) rfl (fun K hK => ?_) AllReadyH.nil
                  rw [if_pos (by rfl)]
                  refine wp_append_own _ _ _ 24 rfl wr.heap.size 38 j0 (.agg #[.int .i64 0, .bool false, .bool false, .bool false, .int .i64 0, .slice none 0 0]) 6 48 Try.underlying24 hj0 hy0 hy1 hy2 rfl (by decide) _ 0 [] (by rfl) how ⟨gq, 0, none⟩ m ct2 SG (by rfl) HSL.out (fun j u hu => by have h1 := HCC.out j u hu; exact (World.cell?_of_block (hS.block _ (cell_block h1))).trans h1) HON.out (by unfold maxLen; omega) (by omega) hS.size ?_
                  intro v1 w1 hown1 hgrow1 _
                  rw [Nat.zero_add, List.nil_append] at hown1
                  have hb1' := hS.grown hgrow1 hS.size (fun p hp => (World.ownsRow.lt how p hp).1)
                  have rB := (Fr.of_own hgrow1).row rA (fun e => heA (by have := mem_ob.1 e; cases this; rfl))
                  refine hK.out _ _ hb1' (fun hS1 => ?_)
                  clear hK K hS1 hS hgrow1 rA
                  have hS := hb1'
                  have rA := rB
                  clear hb1' rB
                  refine wpAnyH_ready (rs := [8]) (by kernel_rfl) (by simp) ?_
                  refine AllReadyH.cons (o := _) rfl (fun K hK => ?_) AllReadyH.nil
                  rw [if_pos (by rfl)]
                  refine wp_append_own _ _ _ 24 rfl wr.heap.size 38 j0 (.agg #[.int .i64 0, .bool false, .bool false, .bool false, .int .i64 0, .slice none 0 0]) 6 48 Try.underlying24 hj0 hy0 hy1 hy2 rfl (by decide) v1 m SG (by rfl) hown1 ⟨eA, 0, none⟩ 1 1 (#[.int .i64 0, .bool false, .bool false, .bool true, .int .i64 (uA : Nat), .slice arA lA crA] : Array Value).toList (by rfl) rfl (fun j u hu => by rw [Addr.add_mid, Nat.zero_add]; exact rA.cell (by rw [← Array.getElem?_toList]; exact hu)) (stc_ones _ _ _ _ _ _ _ _) (by unfold maxLen; omega) (by omega) hS.size ?_
                  intro v2 w2 hown2 hgrow2 _
                  have hb2' := hS.grown hgrow2 hS.size (fun p hp => (World.ownsRow.lt hown1 p hp).1)
                  refine hK.out _ _ hb2' (fun hS1 => ?_)
                  clear hK K hS
                  have hS := hS1
                  clear hS1
                  refine vtake 9 19 (v2) rfl rfl (by kernel_rfl) (by kernel_rfl) (by kernel_rfl) (fun _ _ _ _ h => h) (by rfl) (fun W hW => by clear hS hW; go_simp) hS ?_
                  try simp only [List.setIfInBounds_toArray, List.set_cons_succ, List.set_cons_zero]
                  refine wpAnyH_done (by kernel_rfl) ?_ _
                  refine NoPanic.normal ?_
                  go_wp2_with fail
                  go_meet
                  exact ⟨v2, rfl, by rw [HNE.out]; exact hown2, hb2'⟩
              · rw [if_pos (by rfl)]
                refine wp_build1cW 24 38 _ rfl 6 #[.int .i64 0, .bool false, .bool false, .bool false, .int .i64 0, .slice none 0 0] #[.int .i64 0, .bool false, .bool false, .bool true, .int .i64 (uA : Nat), .slice arA lA crA] (by rfl) (by decide) (by decide) Try.underlying24 rfl rfl s_zs_stp ?_
                have rA := RowAt.new U 38 #[.int .i64 0, .bool false, .bool false, .bool true, .int .i64 (uA : Nat), .slice arA lA crA]
                have hb7' := hS.alloc hS.size (.cells #[.int .i64 0, .bool false, .bool false, .bool true, .int .i64 (uA : Nat), .slice arA lA crA] 38)
                refine hK.out _ _ hb7' (fun hS1 => ?_)
                have hzA : (U.alloc (.cells #[.int .i64 0, .bool false, .bool false, .bool true, .int .i64 (uA : Nat), .slice arA lA crA] 38)).heap.size = U.heap.size + 1 := by simp
                obtain ⟨V7, hV7⟩ : ∃ X, X = U.alloc (.cells #[.int .i64 0, .bool false, .bool false, .bool true, .int .i64 (uA : Nat), .slice arA lA crA] 38) := ⟨_, rfl⟩
                obtain ⟨eA, heAe⟩ : ∃ x, x = U.heap.size := ⟨_, rfl⟩
                rw [← hV7] at rA hb7' hzA ⊢
                rw [← heAe] at rA hzA ⊢
                have HEAE := (show Hid (eA = U.heap.size) from heAe)
                clear heAe
                have HZA : Hid (V7.heap.size = eA + 1) := hzA
                clear hK K hS1 hS hV7 hzA
                have hS := hb7'
                clear hb7'
                refine wpAnyH_ready (rs := [0]) (by kernel_rfl) (by simp) ?_
                refine AllReadyH.cons (o := _) rfl (fun K hK => ?_) AllReadyH.nil
                rw [if_pos (by rfl)]
                go_simp
                have r0 := RowAt.new V7 38 #[]
                have hb0' := hS.alloc hS.size (.cells #[] 38)
                refine hK.out _ _ hb0' (fun hS1 => ?_)
                clear hK K hS1
                have hsz0 := hS.size
                have rA := rA.alloc (.cells #[] 38)
                obtain ⟨V0, hV0⟩ : ∃ X, X = V7.alloc (.cells #[] 38) := ⟨_, rfl⟩
                obtain ⟨e0, he0⟩ : ∃ x, x = V7.heap.size := ⟨_, rfl⟩
                have hzN : V0.heap.size = e0 + 1 := by rw [hV0, he0]; simp
                rw [← hV0] at r0 hb0' ⊢
                rw [← he0] at r0 ⊢
                rw [← hV0] at rA
                have he0w : wr.heap.size ≤ e0 := by omega
                have how : V0.ownsRow wr.heap.size 38 6 (.slice (some ⟨e0, 0, none⟩) 0 0) 0 [] := ⟨rfl, .inr ⟨e0, 0, #[], rfl, he0w, r0, Nat.le_refl _, by decide, rfl, rfl⟩⟩
                have heA : eA ≠ e0 := by have := HZA.out; omega
                clear hS r0 hV0 he0
                have hS := hb0'
                clear hb0'
                refine wpAnyH_ready (rs := [2]) (by kernel_rfl) (by simp) ?_
                refine AllReadyH.cons (o := _) rfl (fun K hK => ?_) AllReadyH.nil
                rw [if_pos (by rfl)]
                refine wp_append_own _ _ _ 24 rfl wr.heap.size 38 j0 (.agg #[.int .i64 0, .bool false, .bool false, .bool false, .int .i64 0, .slice none 0 0]) 6 48 Try.underlying24 hj0 hy0 hy1 hy2 rfl (by decide) _ 0 [] (by rfl) how ⟨gq, 0, none⟩ m ct2 SG (by rfl) HSL.out (fun j u hu => by have h1 := HCC.out j u hu; exact (World.cell?_of_block (hS.block _ (cell_block h1))).trans h1) HON.out (by unfold maxLen; omega) (by omega) hS.size ?_
                intro v1 w1 hown1 hgrow1 _
                rw [Nat.zero_add, List.nil_append] at hown1
                have hb1' := hS.grown hgrow1 hS.size (fun p hp => (World.ownsRow.lt how p hp).1)
                have rB := (Fr.of_own hgrow1).row rA (fun e => heA (by have := mem_ob.1 e; cases this; rfl))
                refine hK.out _ _ hb1' (fun hS1 => ?_)
                clear hK K hS1 hS hgrow1 rA
                have hS := hb1'
                have rA := rB
                clear hb1' rB
                refine wpAnyH_ready (rs := [8]) (by kernel_rfl) (by simp) ?_
                refine AllReadyH.cons (o := _) rfl (fun K hK => ?_) AllReadyH.nil
                rw [if_pos (by rfl)]
                refine wp_append_own _ _ _ 24 rfl wr.heap.size 38 j0 (.agg #[.int .i64 0, .bool false, .bool false, .bool false, .int .i64 0, .slice none 0 0]) 6 48 Try.underlying24 hj0 hy0 hy1 hy2 rfl (by decide) v1 m SG (by rfl) hown1 ⟨eA, 0, none⟩ 1 1 (#[.int .i64 0, .bool false, .bool false, .bool true, .int .i64 (uA : Nat), .slice arA lA crA] : Array Value).toList (by rfl) rfl (fun j u hu => by rw [Addr.add_mid, Nat.zero_add]; exact rA.cell (by rw [← Array.getElem?_toList]; exact hu)) (stc_ones _ _ _ _ _ _ _ _) (by unfold maxLen; omega) (by omega) hS.size ?_
                intro v2 w2 hown2 hgrow2 _
                have hb2' := hS.grown hgrow2 hS.size (fun p hp => (World.ownsRow.lt hown1 p hp).1)
                refine hK.out _ _ hb2' (fun hS1 => ?_)
                clear hK K hS
                have hS := hS1
                clear hS1
                refine vtake 9 19 (v2) rfl rfl (by kernel_rfl) (by kernel_rfl) (by kernel_rfl) (fun _ _ _ _ h => h) (by rfl) (fun W hW => by clear hS hW; go_simp) hS ?_
                try simp only [List.setIfInBounds_toArray, List.set_cons_succ, List.set_cons_zero]
                refine wpAnyH_done (by kernel_rfl) ?_ _
                refine NoPanic.normal ?_
                go_wp2_with fail
                go_meet
                exact ⟨v2, rfl, by rw [HNE.out]; exact hown2, hb2'⟩
            case rest =>
            obtain ⟨va, rfl, hoa, hba⟩ := hcut
            obtain ⟨VB, hVB⟩ : ∃ V, V = wc := ⟨_, rfl⟩
            rw [← hVB] at hoa hba ⊢
            have HBV := (show Hid (Below wr.heap.size wr VB) from hba)
            have hbVB : Below w.heap.size w VB := hbwr.trans (hba.mono hbwr.size)
            have hlA : (Oc.gl n P p L F q ++ [((Oc.gl n P p L F q).getD a 0)]).length = m + 1 := by rw [List.length_append, ← HM.out]; rfl
            have hstB := own_stp (l := Oc.gl n P p L F q ++ [((Oc.gl n P p L F q).getD a 0)]) (by rw [hlA]; exact hoa) (fun i hi => by
              have hi2 : i ∈ Oc.gl n P p L F q := by
                rcases List.mem_append.1 hi with h | h
                · exact h
                · rw [List.mem_singleton.1 h]; exact HMA.out
              exact (HNG.out i hi2).below hba)
            rw [hlA] at hstB
            obtain ⟨X2, hX2⟩ : ∃ X2 : Nat → Oc.Sp, X2 = fun j => Oc.tX n P p L F ((Oc.gl n P p L F q ++ [((Oc.gl n P p L F q).getD a 0)]).getD j 0) := ⟨_, rfl⟩
            have HX2 : Hid (∀ j, j < m → X2 j = Oc.tX n P p L F ((Oc.gl n P p L F q).getD j 0)) := fun j hj => by
              rw [hX2]
              simp only [List.getD_eq_getElem?_getD]
              rw [List.getElem?_append_left (by rw [← HM.out]; exact hj)]
            have HXA : Hid (X2 m = Oc.tX n P p L F ((Oc.gl n P p L F q).getD a 0)) := by
              rw [Hid, hX2]
              simp only [List.getD_eq_getElem?_getD]
              rw [List.getElem?_append_right (by rw [← HM.out]; exact Nat.le_refl _), ← HM.out, Nat.sub_self]
              rfl
            have HAG : Hid ((Oc.seen n P p 2 X2 ⟨0, 0, -1, false⟩ m).e2 = 10) := by
              have h1 := HX2.out
              have h2 := HXA.out
              have h3 := HEG.out (by have := HAM.out; omega)
              have h4 := HAM.out
              rw [HM.out] at h1 h2 h4
              rw [Hid, HM.out]
              exact Oc.seen_again n P p L F 2 h3 h1 h4 HLP.out h2
            have HSX : Hid (StpAt VB va (m + 1) X2) := by rw [hX2]; exact hstB
            have hva : ∃ a c, va = .slice a (m + 1) c := by
              obtain ⟨a, c, _, e, _⟩ := hstB
              exact ⟨a, c, e⟩
            obtain ⟨aa, cca, rfl⟩ := hva
            clear hVB hoa hba hstB hX2 hlA HXA HCC HNE HRG2 HON HSL HMA HLP
            go_wp2_with fail
            refine (HOF.out VB _ (m + 1) X2 hbVB HSX.out (by omega)).mono ?_
            rintro e W2 ⟨v2, u2, rfl, hs2, hn2, hb2⟩
            obtain ⟨au2, cu2, rfl, _⟩ := hn2.len
            obtain ⟨a2, e2, R3, rfl, _, hp2⟩ := hs2.part
            have HP2 := (show Hid (∀ i, i < (m + 1) → ∃ b o ar cr, a2 = some ⟨b, o, none⟩ ∧ R3 i = .slice ar (Oc.seen n P p 2 X2 ⟨0, 0, -1, false⟩ i).tn cr ∧ W2.cell? ⟨b, o + i * 5, none⟩ = some (.int .i64 (Oc.seen n P p 2 X2 ⟨0, 0, -1, false⟩ i).pl) ∧ W2.cell? ⟨b, o + i * 5 + 1, none⟩ = some (.slice ar (Oc.seen n P p 2 X2 ⟨0, 0, -1, false⟩ i).tn cr) ∧ W2.cell? ⟨b, o + i * 5 + 2, none⟩ = some (.int .i64 (Oc.seen n P p 2 X2 ⟨0, 0, -1, false⟩ i).e1) ∧ W2.cell? ⟨b, o + i * 5 + 3, none⟩ = some (.int .i64 (Oc.seen n P p 2 X2 ⟨0, 0, -1, false⟩ i).e2) ∧ W2.cell? ⟨b, o + i * 5 + 4, none⟩ = some (.int .i64 (Oc.seen n P p 2 X2 ⟨0, 0, -1, false⟩ i).lf) ∧ W2.rangeAt b (o + i * 5) [.int .i64 (Oc.seen n P p 2 X2 ⟨0, 0, -1, false⟩ i).pl, .slice ar (Oc.seen n P p 2 X2 ⟨0, 0, -1, false⟩ i).tn cr, .int .i64 (Oc.seen n P p 2 X2 ⟨0, 0, -1, false⟩ i).e1, .int .i64 (Oc.seen n P p 2 X2 ⟨0, 0, -1, false⟩ i).e2, .int .i64 (Oc.seen n P p 2 X2 ⟨0, 0, -1, false⟩ i).lf] ∧ NumsAt W2 (.slice ar (Oc.seen n P p 2 X2 ⟨0, 0, -1, false⟩ i).tn cr) (Oc.seen n P p 2 X2 ⟨0, 0, -1, false⟩ i).tn (Oc.seen n P p 2 X2 ⟨0, 0, -1, false⟩ i).tf) from hp2)
            have hbw2 : Below w.heap.size w W2 := hbVB.trans (hb2.mono hbVB.size)
            have hbr2 : Below wr.heap.size wr W2 := HBV.out.trans (hb2.mono HBV.out.size)
            have HSN2 : Hid (∀ i, i < m → ∃ (b o : Nat) (ar : Value) (cr : Nat), (.slice avs m cvs : Value) = .slice (some ⟨b, o, none⟩) m cr ∧ W2.cell? ⟨b, o + i, none⟩ = some ar ∧ ar = RT ((Oc.gl n P p L F q).getD i 0)) := fun i hi => by
              obtain ⟨b, o, ar, cr, e1, h1, h2⟩ := HSN.out i hi
              exact ⟨b, o, ar, cr, e1, (hbr2.cell (p := ⟨b, o + i, none⟩) (cell_block h1)).trans h1, h2⟩
            clear hs2 hn2 hp2 hb2 HSX HOF HSN hbr2 HR2 HN2 HS2 HBV hbVB
            go_wp2_with fail
            go_loopw [132] (fun i W => ∃ j : Nat, j ≤ m ∧ i = .int .i64 (j : Nat) ∧ Below W2.heap.size W2 W) (fun i _ => ((m : Int) - intOf i).toNat)
            case atStart => exact ⟨0, by omega, rfl, Below.refl _ _⟩
            case round =>
              obtain ⟨j, hj, rfl, hbj⟩ := hrel
              by_cases hlt : j < m
              · have HLT : Hid (j < m) := hlt
                have hlt2 : (j : Int) < (m : Int) := by omega
                obtain ⟨bs, os, vr, cr0, evs, hcs, er⟩ := HSN2.out j hlt
                cases evs
                obtain ⟨bh, oh, ar, cr, rfl, _, _, c1, _, c3, _, _, hnh⟩ := HP2.out j (by omega)
                obtain ⟨g1, g2, g3⟩ := HHR.out X2 (m + 1) HX2.out j hlt
                rw [g1] at c3
                have hnr := HRG.out j hlt
                rw [← er] at hnr
                have hsame : Hid (Calls Try.prog 8 #[.slice ar (Oc.seen n P p 2 X2 ⟨0, 0, -1, false⟩ j).tn cr, vr] wr fun e w' => e = .returned (.bool true) ∧ Below wr.heap.size wr w') := by
                  have := rsm_any (.slice ar (Oc.seen n P p 2 X2 ⟨0, 0, -1, false⟩ j).tn cr) vr _ _ _ _ wr (hnh.below hbj) (hnr.below (hbw2.trans (hbj.mono hbw2.size)))
                  rw [smB_iff.2 ⟨g2, fun i hi => g3 i (by rw [g2] at hi; exact hi)⟩] at this
                  exact this
                have d1 := (hbj.cell (p := ⟨bh, oh + j * 5 + 1, none⟩) (cell_block c1)).trans c1
                have d3 := (hbj.cell (p := ⟨bh, oh + j * 5 + 3, none⟩) (cell_block c3)).trans c3
                have d4 := (hbj.cell (p := ⟨bs, os + j, none⟩) (cell_block hcs)).trans hcs
                obtain ⟨ar4, cr4, rfl, _⟩ := hnr.len
                have hjK : ((j : Nat) : Int) < (((m + 1) : Nat) : Int) := by omega
                have hjK2 : ((j : Nat) : Int) < (m : Int) + 1 := by omega
                generalize (Oc.seen n P p 2 X2 ⟨0, 0, -1, false⟩ j).tn = tj at *
                generalize L ((Oc.gl n P p L F q).getD j 0) = lj at *
                clear c1 c3 hcs hnh hnr g1 g2 g3 er HP2 HSN2 HHR HRG HX2 hlt
                go_wp2_with fail
                refine hsame.out.mono ?_
                rintro e W5 ⟨rfl, hb5⟩
                have hbj2 := hbj.trans (hb5.mono hbj.size)
                clear hsame hb5 hbj d1 d3 d4
                go_wp2
                go_roundw
                case rel => exact ⟨j + 1, HLT.out, by go_num, hbj2⟩
                case measure => have := HLT.out; simp [intOf]; omega
              · obtain rfl : j = m := by omega
                have hnj : ¬ ((j : Nat) : Int) < ((j : Nat) : Int) := by omega
                have hfin := hbw2.trans (hbj.mono hbw2.size)
                obtain ⟨bh, oh, ar, cr, rfl, _, _, _, _, c3, _, _, _⟩ := HP2.out j (by omega)
                rw [HAG.out] at c3
                have d3 := (hbj.cell (p := ⟨bh, oh + j * 5 + 3, none⟩) (cell_block c3)).trans c3
                have hj1 : ((j : Nat) : Int) < (j : Int) + 1 := by omega
                have hj2 : ¬ (j : Int) + 1 = (j : Int) := by omega
                have hj3 : ((j : Int) + 1 == (j : Int)) = false := beq_false_of_ne hj2
                clear c3 hlt HP2 HSN2 HHR HRG HX2 hbj
                go_wp2
                go_ret
                exact ⟨by simp, hfin⟩
          · rw [decide_eq_false hA]
            clear hA
            obtain ⟨X2, hX2⟩ : ∃ X2 : Nat → Oc.Sp, X2 = fun j => Oc.tX n P p L F ((Oc.gl n P p L F q).getD j 0) := ⟨_, rfl⟩
            have HX2 : Hid (∀ j, j < m → X2 j = Oc.tX n P p L F ((Oc.gl n P p L F q).getD j 0)) := fun j _ => by rw [hX2]
            have HSX : Hid (StpAt wr (.slice at2 m ct2) m X2) := by rw [hX2]; exact HS2.out
            clear hX2
            go_wp2_with fail
            refine (HOF.out wr _ m X2 hbwr HSX.out (by omega)).mono ?_
            rintro e W2 ⟨v2, u2, rfl, hs2, hn2, hb2⟩
            obtain ⟨au2, cu2, rfl, _⟩ := hn2.len
            obtain ⟨a2, e2, R3, rfl, _, hp2⟩ := hs2.part
            have HP2 := (show Hid (∀ i, i < m → ∃ b o ar cr, a2 = some ⟨b, o, none⟩ ∧ R3 i = .slice ar (Oc.seen n P p 2 X2 ⟨0, 0, -1, false⟩ i).tn cr ∧ W2.cell? ⟨b, o + i * 5, none⟩ = some (.int .i64 (Oc.seen n P p 2 X2 ⟨0, 0, -1, false⟩ i).pl) ∧ W2.cell? ⟨b, o + i * 5 + 1, none⟩ = some (.slice ar (Oc.seen n P p 2 X2 ⟨0, 0, -1, false⟩ i).tn cr) ∧ W2.cell? ⟨b, o + i * 5 + 2, none⟩ = some (.int .i64 (Oc.seen n P p 2 X2 ⟨0, 0, -1, false⟩ i).e1) ∧ W2.cell? ⟨b, o + i * 5 + 3, none⟩ = some (.int .i64 (Oc.seen n P p 2 X2 ⟨0, 0, -1, false⟩ i).e2) ∧ W2.cell? ⟨b, o + i * 5 + 4, none⟩ = some (.int .i64 (Oc.seen n P p 2 X2 ⟨0, 0, -1, false⟩ i).lf) ∧ W2.rangeAt b (o + i * 5) [.int .i64 (Oc.seen n P p 2 X2 ⟨0, 0, -1, false⟩ i).pl, .slice ar (Oc.seen n P p 2 X2 ⟨0, 0, -1, false⟩ i).tn cr, .int .i64 (Oc.seen n P p 2 X2 ⟨0, 0, -1, false⟩ i).e1, .int .i64 (Oc.seen n P p 2 X2 ⟨0, 0, -1, false⟩ i).e2, .int .i64 (Oc.seen n P p 2 X2 ⟨0, 0, -1, false⟩ i).lf] ∧ NumsAt W2 (.slice ar (Oc.seen n P p 2 X2 ⟨0, 0, -1, false⟩ i).tn cr) (Oc.seen n P p 2 X2 ⟨0, 0, -1, false⟩ i).tn (Oc.seen n P p 2 X2 ⟨0, 0, -1, false⟩ i).tf) from hp2)
            have hbw2 : Below w.heap.size w W2 := hbwr.trans (hb2.mono hbwr.size)
            have hbr2 : Below wr.heap.size wr W2 := hb2
            have HSN2 : Hid (∀ i, i < m → ∃ (b o : Nat) (ar : Value) (cr : Nat), (.slice avs m cvs : Value) = .slice (some ⟨b, o, none⟩) m cr ∧ W2.cell? ⟨b, o + i, none⟩ = some ar ∧ ar = RT ((Oc.gl n P p L F q).getD i 0)) := fun i hi => by
              obtain ⟨b, o, ar, cr, e1, h1, h2⟩ := HSN.out i hi
              exact ⟨b, o, ar, cr, e1, (hbr2.cell (p := ⟨b, o + i, none⟩) (cell_block h1)).trans h1, h2⟩
            clear hs2 hn2 hp2 hb2 HSX HOF HSN hbr2 HR2 HN2 HS2 
            go_wp2_with fail
            go_loopw [132] (fun i W => ∃ j : Nat, j ≤ m ∧ i = .int .i64 (j : Nat) ∧ Below W2.heap.size W2 W) (fun i _ => ((m : Int) - intOf i).toNat)
            case atStart => exact ⟨0, by omega, rfl, Below.refl _ _⟩
            case round =>
              obtain ⟨j, hj, rfl, hbj⟩ := hrel
              by_cases hlt : j < m
              · have HLT : Hid (j < m) := hlt
                have hlt2 : (j : Int) < (m : Int) := by omega
                obtain ⟨bs, os, vr, cr0, evs, hcs, er⟩ := HSN2.out j hlt
                cases evs
                obtain ⟨bh, oh, ar, cr, rfl, _, _, c1, _, c3, _, _, hnh⟩ := HP2.out j (by omega)
                obtain ⟨g1, g2, g3⟩ := HHR.out X2 m HX2.out j hlt
                rw [g1] at c3
                have hnr := HRG.out j hlt
                rw [← er] at hnr
                have hsame : Hid (Calls Try.prog 8 #[.slice ar (Oc.seen n P p 2 X2 ⟨0, 0, -1, false⟩ j).tn cr, vr] wr fun e w' => e = .returned (.bool true) ∧ Below wr.heap.size wr w') := by
                  have := rsm_any (.slice ar (Oc.seen n P p 2 X2 ⟨0, 0, -1, false⟩ j).tn cr) vr _ _ _ _ wr (hnh.below hbj) (hnr.below (hbw2.trans (hbj.mono hbw2.size)))
                  rw [smB_iff.2 ⟨g2, fun i hi => g3 i (by rw [g2] at hi; exact hi)⟩] at this
                  exact this
                have d1 := (hbj.cell (p := ⟨bh, oh + j * 5 + 1, none⟩) (cell_block c1)).trans c1
                have d3 := (hbj.cell (p := ⟨bh, oh + j * 5 + 3, none⟩) (cell_block c3)).trans c3
                have d4 := (hbj.cell (p := ⟨bs, os + j, none⟩) (cell_block hcs)).trans hcs
                obtain ⟨ar4, cr4, rfl, _⟩ := hnr.len
                have hjK : ((j : Nat) : Int) < ((m : Nat) : Int) := by omega
    
                generalize (Oc.seen n P p 2 X2 ⟨0, 0, -1, false⟩ j).tn = tj at *
                generalize L ((Oc.gl n P p L F q).getD j 0) = lj at *
                clear c1 c3 hcs hnh hnr g1 g2 g3 er HP2 HSN2 HHR HRG HX2 hlt
                go_wp2_with fail
                refine hsame.out.mono ?_
                rintro e W5 ⟨rfl, hb5⟩
                have hbj2 := hbj.trans (hb5.mono hbj.size)
                clear hsame hb5 hbj d1 d3 d4
                go_wp2
                go_roundw
                case rel => exact ⟨j + 1, HLT.out, by go_num, hbj2⟩
                case measure => have := HLT.out; simp [intOf]; omega
              · obtain rfl : j = m := by omega
                have hnj : ¬ ((j : Nat) : Int) < ((j : Nat) : Int) := by omega
                have hfin := hbw2.trans (hbj.mono hbw2.size)
                clear hlt HP2 HSN2 HHR HRG HX2 hbj
                go_wp2
                go_ret
                exact ⟨by simp, hfin⟩
end Go.Proofs.Ytlfghnngbljlhaa
