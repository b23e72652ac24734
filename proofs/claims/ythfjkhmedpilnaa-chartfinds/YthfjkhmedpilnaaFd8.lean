/-
  Contract of the document's Find (chapter 9).
-/
import Derived.Test.YthfjkhmedpilnaaJn31
import Derived.Test.YthfjkhmedpilnaaJn33
namespace Go.Proofs.Ythfjkhmedpilnaa
open Go.RowKit PK Vg

set_option maxRecDepth 100000 in
set_option maxHeartbeats 2000000 in
theorem rs9_any (u v : Value) (n k : Nat) (f g : Nat → Int) (w : World) (hu : NumsAt w u n f) (hv : NumsAt w v k g) :
    Calls Try.prog 12 #[u, v] w fun e w' => e = .returned (.bool (smB n k f g)) ∧ Below w.heap.size w w' := by
  obtain ⟨a, ca, rfl, hmx, hca⟩ := hu
  obtain ⟨b, cb, rfl, _, hcb⟩ := hv
  have HA := (show Hid (∀ c, c < n → ∃ b o, a = some ⟨b, o, none⟩ ∧ w.cell? ⟨b, o + c, none⟩ = some (.int .i64 (f c))) from hca)
  have HB := (show Hid (∀ c, c < k → ∃ b' o, b = some ⟨b', o, none⟩ ∧ w.cell? ⟨b', o + c, none⟩ = some (.int .i64 (g c))) from hcb)
  unfold maxLen at hmx
  clear hca hcb
  by_cases hnk : n = k
  case neg =>
    have h1 : (((n : Nat) : Int) != ((k : Nat) : Int)) = true := by simp; omega
    have HF : Hid (smB n k f g = false) := by
      cases hq : smB n k f g
      · rfl
      · exact absurd (smB_iff.1 hq).1 hnk
    clear hnk HA HB
    go_enter Try.func12, Try.ntmps12
    go_wp2
    go_ret
    exact ⟨by rw [HF.out]; rfl, Below.refl _ _⟩
  subst hnk
  have h1 : (((n : Nat) : Int) != ((n : Nat) : Int)) = false := by simp
  go_enter Try.func12, Try.ntmps12
  go_wp2_with fail
  go_loopw [13] (fun i W => ∃ m : Nat, m ≤ n ∧ i = .int .i64 m ∧ Below w.heap.size w W ∧ ∀ j, j < m → f j = g j) (fun i _ => ((n : Int) - intOf i).toNat)
  case atStart => exact ⟨0, by omega, rfl, Below.refl _ _, fun j hj => by omega⟩
  case round =>
    obtain ⟨m, hm, rfl, hb, hj⟩ := hrel
    by_cases hlt : m < n
    · obtain ⟨b1, o1, e1, h1'⟩ := HA.out m hlt
      obtain ⟨b2, o2, e2, h2'⟩ := HB.out m hlt
      subst e1 e2
      have c1 := (hb.cell (p := ⟨b1, o1 + m, none⟩) (cell_block h1')).trans h1'
      have c2 := (hb.cell (p := ⟨b2, o2 + m, none⟩) (cell_block h2')).trans h2'
      have HJ := (show Hid _ from hj)
      have HLT : Hid (m < n) := hlt
      have hlt2 : (m : Int) < (n : Int) := by omega
      have HX : Hid (∀ x y, x = f m → y = g m → (x = y ↔ f m = g m)) := fun x y h1 h2 => by rw [h1, h2]
      obtain ⟨x, hx⟩ : ∃ x, x = f m := ⟨_, rfl⟩
      obtain ⟨y, hy⟩ : ∃ y, y = g m := ⟨_, rfl⟩
      have HXY := (show Hid (x = y ↔ f m = g m) from HX.out x y hx hy)
      rw [← hx] at c1
      rw [← hy] at c2
      clear h1' h2' hj hx hy HX hlt
      by_cases hxy : x = y
      · have hxb : (x != y) = false := by simp [hxy]
        have HJ2 : Hid (∀ j, j < m + 1 → f j = g j) := fun j hj => by
          by_cases e : j = m
          · rw [e]; exact HXY.out.1 hxy
          · exact HJ.out j (by omega)
        clear hxy
        go_wp2_with fail
        go_quiet (fail)
        go_wp2
        go_roundw
        case rel => exact ⟨m + 1, HLT.out, by go_num, ⟨hb.os, hb.tape, hb.output, hb.size, hb.block⟩, HJ2.out⟩
        case measure => have := HLT.out; simp [intOf]; omega
      · have hxb : (x != y) = true := by simp [hxy]
        have HF : Hid (smB n n f g = false) := by
          cases hq : smB n n f g
          · rfl
          · exact absurd (HXY.out.2 ((smB_iff.1 hq).2 m HLT.out)) hxy
        clear hxy
        go_wp2_with fail
        go_quiet (fail)
        go_wp2
        go_ret
        exact ⟨by rw [HF.out]; rfl, ⟨hb.os, hb.tape, hb.output, hb.size, hb.block⟩⟩
    · have hnn : ¬ (m : Int) < (n : Int) := by omega
      have HT : Hid (smB n n f g = true) := smB_iff.2 ⟨rfl, fun i hi => hj i (by omega)⟩
      have HB' := (show Hid _ from hb)
      clear hj hb hlt
      go_wp2
      go_ret
      exact ⟨by rw [HT.out]; rfl, HB'.out⟩
theorem rwin_any : ∀ (n : Nat), n ≤ 3 → ∀ w : World, Calls Try.prog 23 #[.int .i64 (n : Nat)] w fun e w' => ∃ v, e = .returned v ∧ LsO w' w.heap.size v (List.range (26 ^ n)) n ∧ Below w.heap.size w w'
  | 0, _, w => rwin0 w
  | n + 1, h, w => rwinS n (by omega) (rwin_any n (by omega)) w
/-- What is found among the first j windows. -/
def fndTo (g : Gm) (m : Nat → Nat) (fb : Nat → Nat → Int) (j : Nat) : List Nat := (List.range j).filter (hitN g m fb)
theorem fndTo_succ (g : Gm) (m : Nat → Nat) (fb : Nat → Nat → Int) (j : Nat) : fndTo g m fb (j + 1) = fndTo g m fb j ++ if hitN g m fb j = true then [j] else [] := by
  unfold fndTo
  rw [List.range_succ, List.filter_append]
  have key : ∀ X, List.filter (hitN g m fb) [X] = if hitN g m fb X = true then [X] else [] := fun X => by
    cases h : hitN g m fb X <;> simp [List.filter, h]
  rw [key]
theorem fndTo_len (g : Gm) (m : Nat → Nat) (fb : Nat → Nat → Int) (j : Nat) : (fndTo g m fb j).length ≤ j := by
  unfold fndTo
  refine Nat.le_trans (List.length_filter_le _ _) ?_
  simp
/-- The two boxes of a search. -/
structure FnS (w W : World) (A : Array Value) (U : Nat → Value) : Prop where
  m : RowAt W w.heap.size 27 A
  t : RowAt W (w.heap.size + 1) 28 (tab 3 U)
  below : Below w.heap.size w W
theorem FnS.new (w : World) (A : Array Value) (U : Nat → Value) : FnS w ((w.alloc (.cells A 27)).alloc (.cells (tab 3 U) 28)) A U := by
  refine ⟨(RowAt.new w _ _).alloc _, ?_, ((Below.refl _ w).alloc (Nat.le_refl _) _).alloc (by simp) _⟩
  have h := RowAt.new (w.alloc (.cells A 27)) 28 (tab 3 U)
  rw [World.size_alloc] at h
  exact h
theorem FnS.step {w W W' : World} {A : Array Value} {U : Nat → Value} (h : FnS w W A U) (hb : Below W.heap.size W W') : FnS w W' A U := ⟨h.m.below hb h.m.lt, h.t.below hb h.t.lt, h.below.trans (hb.mono h.below.size)⟩
set_option maxRecDepth 100000 in
set_option maxHeartbeats 4000000 in
theorem rfd_bad (vm : Value) (g : Gm) (U : Nat → Value) (h : Int) (hE : swE g h ≠ 0) (w : World) (hm : MacAt w vm g) : Calls Try.prog 8 #[vm, .agg (tab 3 U), .int .i64 h] w fun e w' => e = .returned (.tuple #[.slice none 0 0, .int .i64 (swE g h)]) ∧ Below w.heap.size w w' := by
  have HC := (show Hid (∀ W, Below w.heap.size w W → Calls Try.prog 22 #[vm, .int .i64 h] W fun e w' => e = .returned (.int .i64 (swE g h)) ∧ Below W.heap.size W w') from fun W hb => rsw_any vm g h W (hm.below hb))
  obtain ⟨a, b, c, rfl, _⟩ := hm
  have h0 := FnS.new w (mac a b c g.rf g.pl) U
  have hA0s : (mac a b c g.rf g.pl).size = 55 := mac_size _ _ _ _ _
  generalize mac a b c g.rf g.pl = A0 at *
  have hz2 : (swE g h != 0) = true := by simpa using hE
  obtain ⟨E, hEE⟩ : ∃ E, E = swE g h := ⟨_, rfl⟩
  have HEE := (show Hid (E = swE g h) from hEE)
  rw [← hEE] at HC hz2
  clear hE hEE
  go_enter Try.func8, Try.ntmps8
  go_upto_region 1 with fail
  generalize (w.alloc (.cells A0 27)).alloc (.cells (tab 3 U) 28) = W0 at *
  go_wp2_with (first | refine wpList_load_row rfl 27 _ rfl w.heap.size rfl 27 A0 (0, 0) _ h0.m Try.underlying27 rfl (by rw [hA0s]; exact v_info_mac) ?_)
  refine (HC.out _ h0.below).mono ?_
  rintro e W1 ⟨rfl, hb⟩
  have HB := (show Hid _ from (h0.step hb).below)
  clear hb h0 HC
  go_wp2
  go_ret2
  exact ⟨by rw [← HEE.out]; rfl, HB.out⟩
set_option maxRecDepth 100000 in
set_option maxHeartbeats 8000000 in
theorem rfd_ok (vm : Value) (g : Gm) (U : Nat → Value) (m : Nat → Nat) (fb : Nat → Nat → Int) (h : Int) (hE : swE g h = 0) (w : World) (hm : MacAt w vm g) (hU : TsAt w U m fb) : Calls Try.prog 8 #[vm, .agg (tab 3 U), .int .i64 h] w fun e w' => ∃ v, e = .returned (.tuple #[v, .int .i64 0]) ∧ LsO w' w.heap.size v (fndTo g m fb (26 ^ g.n)) g.n ∧ Below w.heap.size w w' := by
  obtain ⟨i0, hi0, hz0, hz1, hz2⟩ := f_info_parts f_info_ints
  have hsz0 : True := trivial
  obtain ⟨hgE, hn3, _, _⟩ := swE_zero hE
  have HC := (show Hid (∀ W, Below w.heap.size w W → Calls Try.prog 22 #[vm, .int .i64 h] W fun e w' => e = .returned (.int .i64 0) ∧ Below W.heap.size W w') from fun W hb => by have := rsw_any vm g h W (hm.below hb); rw [hE] at this; exact this)
  have HWI := (show Hid (∀ W, Calls Try.prog 23 #[.int .i64 (g.n : Nat)] W fun e w' => ∃ v, e = .returned v ∧ LsO w' W.heap.size v (List.range (26 ^ g.n)) g.n ∧ Below W.heap.size W w') from fun W => rwin_any g.n hn3 W)
  obtain ⟨a, b, c, rfl, hwh, hri, hst⟩ := hm
  have HTY := (show Hid (∀ N at' W, Below w.heap.size w W → NumsAt W at' g.n (fun i => ((dig g.n N i : Nat) : Int)) → Calls Try.prog 24 #[.agg (mac a b at' g.rf g.pl)] W fun e w' => ∃ V, e = .returned (.tuple #[.agg (tab 3 V), .int .i64 0]) ∧ TysAt w' V 3 (chC (maOf (gmN g N))) ∧ Below W.heap.size W w') from fun N at' W hb hat => by
    refine (rtypes_any _ (gmN g N) W ⟨a, b, at', rfl, hwh.below hb, hri.below hb, hat⟩).mono ?_
    rintro e w' (⟨h, _⟩ | ⟨_, V, h1, h2, h3⟩)
    · exact absurd (gmN_ok hgE N) h
    · exact ⟨V, by rw [h1, sl3_all], h2, h3⟩)
  obtain ⟨aw, cw, R, rfl, hmx, _, _⟩ := hwh
  obtain ⟨ac, cc, rfl, _, _⟩ := hst
  have h0 := FnS.new w (mac (.slice aw g.n cw) b (.slice ac g.sl cc) g.rf g.pl) U
  have HM2 := (show Hid (∀ x, (mac (.slice aw g.n cw) b (.slice ac g.sl cc) g.rf g.pl).setIfInBounds 2 x = mac (.slice aw g.n cw) b x g.rf g.pl) from fun x => mac_set2 _ _ _ _ _ _)
  have HM0 := (show Hid ((mac (.slice aw g.n cw) b (.slice ac g.sl cc) g.rf g.pl)[0]? = some (.slice aw g.n cw)) from mac_0 _ _ _ _ _)
  have HMC := (show Hid ((mac (.slice aw g.n cw) b (.slice ac g.sl cc) g.rf g.pl)[2]? = some (.slice ac g.sl cc)) from mac_2 _ _ _ _ _)
  have hA0s : (mac (.slice aw g.n cw) b (.slice ac g.sl cc) g.rf g.pl).size = 55 := mac_size _ _ _ _ _
  have hbo : b.oneCell' = true := by obtain ⟨x, y, e, _⟩ := hri; rw [e]; rfl
  have hA0o : (mac (.slice aw g.n cw) b (.slice ac g.sl cc) g.rf g.pl).all (·.oneCell') = true := mac_one rfl hbo rfl
  have HMS := (show Hid (∀ x, (mac (.slice aw g.n cw) b x g.rf g.pl).size = 55) from fun x => mac_size _ _ _ _ _)
  obtain ⟨MM, hMM⟩ : ∃ MM : Value → Array Value, MM = fun x => mac (.slice aw g.n cw) b x g.rf g.pl := ⟨_, rfl⟩
  have hMMx : ∀ x, mac (.slice aw g.n cw) b x g.rf g.pl = MM x := fun x => by rw [hMM]
  rw [hMMx] at h0 HM0 HMC hA0s hA0o ⊢
  simp only [hMMx] at HM2 HMS HTY HC
  obtain ⟨A0, hA0⟩ : ∃ A0, A0 = MM (.slice ac g.sl cc) := ⟨_, rfl⟩
  rw [← hA0] at h0 HM0 HMC hA0s hA0o ⊢
  simp only [← hA0] at HM2 HC
  have HSA := (show Hid (∀ i W u n f, i < 3 → Below w.heap.size w W → NumsAt W u n f → Calls Try.prog 12 #[u, U i] W fun e w' => e = .returned (.bool (smB n (m i) f (fb i))) ∧ Below W.heap.size W w') from fun i W u n f hi hb hu => rs9_any u (U i) n (m i) f (fb i) W hu ((hU i hi).below hb))
  obtain ⟨u0, k0, e0⟩ := ts_form hU (i := 0) (by decide)
  obtain ⟨u1, k1, e1⟩ := ts_form hU (i := 1) (by decide)
  obtain ⟨u2, k2, e2⟩ := ts_form hU (i := 2) (by decide)
  have HT0 := (show Hid (∀ W, FnS w W A0 U → W.cell? ⟨w.heap.size + 1, 0, none⟩ = some (.slice u0 (m 0) k0)) from fun W h => by have := h.t.cell (tab_get U (i := 0) (by decide)); rw [e0] at this; exact this)
  have HT1 := (show Hid (∀ W, FnS w W A0 U → W.cell? ⟨w.heap.size + 1, 1, none⟩ = some (.slice u1 (m 1) k1)) from fun W h => by have := h.t.cell (tab_get U (i := 1) (by decide)); rw [e1] at this; exact this)
  have HT2 := (show Hid (∀ W, FnS w W A0 U → W.cell? ⟨w.heap.size + 1, 2, none⟩ = some (.slice u2 (m 2) k2)) from fun W h => by have := h.t.cell (tab_get U (i := 2) (by decide)); rw [e2] at this; exact this)
  have HS0 := (show Hid _ from HSA.out 0)
  have HS1 := (show Hid _ from HSA.out 1)
  have HS2 := (show Hid _ from HSA.out 2)
  rw [e0] at HS0
  rw [e1] at HS1
  rw [e2] at HS2
  have hpw := pow26_le (m := g.n) (by omega)
  clear hA0 hMMx hMM hri hU HSA e0 e1 e2 hgE hE hbo hmx
  generalize hDD : 26 ^ g.n = D at *
  have HDD := (show Hid (26 ^ g.n = D) from hDD)
  clear hDD
  go_enter Try.func8, Try.ntmps8
  go_upto_region 1 with fail
  generalize (w.alloc (.cells A0 27)).alloc (.cells (tab 3 U) 28) = W0 at *
  go_wp2_with (first | refine wpList_load_row rfl 27 _ rfl w.heap.size rfl 27 A0 (0, 0) _ h0.m Try.underlying27 rfl (by rw [hA0s]; exact v_info_mac) ?_)
  refine (HC.out _ h0.below).mono ?_
  rintro e W1 ⟨rfl, hb⟩
  have h1 := h0.step hb
  clear hb h0 HC
  have c0 := h1.m.cell HM0.out
  go_wp2_with fail
  refine (HWI.out _).mono ?_
  rintro e W2 ⟨v1, rfl, hls, hb⟩
  have h2 := h1.step hb
  obtain ⟨a1, c1, hv1⟩ := hls.len
  rw [List.length_range] at hv1
  have HLS := (show Hid (∀ W, Below W2.heap.size W2 W → LsO W W1.heap.size v1 (List.range D) g.n) from fun W hb => hls.below hb)
  subst hv1
  have HF2 := (show Hid _ from h2)
  have hsz2 := h2.t.lt
  clear hb hls HWI c0 h1
  go_wp2_with fail
  go_loopw [9, 26] (fun o x W => ∃ (j : Nat) (u : Value), j ≤ D ∧ x = .int .i64 (j : Nat) ∧ u = o ∧ LsO W W2.heap.size u (fndTo g m fb j) g.n ∧ FnS w W A0 U ∧ Below W2.heap.size W2 W) (fun _ x _ => ((D : Int) - intOf x).toNat)
  case atStart => exact ⟨0, _, by omega, rfl, rfl, LsO.nil _ _ _, h2, Below.refl _ _⟩
  case round =>
    clear h2 HF2
    obtain ⟨j, u, hj, rfl, rfl, hlo, hfs, hbw⟩ := hrel
    by_cases hlt : j < D
    case neg =>
      obtain rfl : j = D := by omega
      have hnn : ¬ ((j : Nat) : Int) < ((j : Nat) : Int) := by omega
      have HF := (show Hid (LsO wr w.heap.size u (fndTo g m fb j) g.n) from by
        obtain ⟨vs, h1, h2⟩ := hlo
        exact ⟨vs, ⟨h1.1, h1.2.imp id fun ⟨g, cap, cur, a, b, c⟩ => ⟨g, cap, cur, a, by omega, c⟩⟩, h2⟩)
      have HBE := (show Hid (Below w.heap.size w wr) from hfs.below)
      clear hlo hbw hlt hfs HLS
      go_wp2
      go_ret2
      exact ⟨u, by first | rfl | trivial, HF.out, HBE.out⟩
    have HLT : Hid (j < D) := hlt
    have hlt2 : (j : Int) < (D : Int) := by omega
    obtain ⟨g1, cc1, ul, ev, hcl, hoi⟩ := (HLS.out W2 (Below.refl _ _)).at_ (i := j) (by rw [List.length_range]; exact hlt)
    rw [List.length_range] at ev
    cases ev
    have hgd : (List.range D).getD j 0 = j := by simp [List.getD, hlt]
    rw [hgd] at hoi
    have HUL := (show Hid (∀ W, Below W2.heap.size W2 W → OwI W ul g.n fun i => ((dig g.n j i : Nat) : Int)) from fun W hb => hoi.below hb)
    have hcell := (hbw.cell (p := ⟨g1, j, none⟩) (cell_block hcl)).trans hcl
    obtain ⟨al, cl, rfl⟩ : ∃ al cl, ul = .slice al g.n cl := by
      rcases hoi.form with ⟨e, e2⟩ | ⟨x, y, e⟩
      · exact ⟨none, 0, by rw [e, e2]⟩
      · exact ⟨_, _, e⟩
    have HLO := (show Hid (LsO wr W2.heap.size u (fndTo g m fb j) g.n) from hlo)
    have HBW := (show Hid (Below W2.heap.size W2 wr) from hbw)
    have HFS := (show Hid (FnS w wr A0 U) from hfs)
    have hlen := fndTo_len g m fb j
    have HNX := (show Hid _ from fndTo_succ g m fb j)
    have HTJ := (show Hid _ from HTY.out j (.slice al g.n cl))
    have HHB := (show Hid (hitN g m fb j = (((true && smB (typeOf (chC (maOf (gmN g j)) 0)).length (m 0) (fun q => (((typeOf (chC (maOf (gmN g j)) 0)).getD q 0 : Nat) : Int)) (fb 0)) && smB (typeOf (chC (maOf (gmN g j)) 1)).length (m 1) (fun q => (((typeOf (chC (maOf (gmN g j)) 1)).getD q 0 : Nat) : Int)) (fb 1)) && smB (typeOf (chC (maOf (gmN g j)) 2)).length (m 2) (fun q => (((typeOf (chC (maOf (gmN g j)) 2)).getD q 0 : Nat) : Int)) (fb 2))) from rfl)
    have hld := hfs.m
    have HMSx := (show Hid _ from HMS.out (.slice al g.n cl))
    clear hlt hgd hoi hcl hlo hbw HLS hfs
    go_upto_region 8 with fail
    have hzm := o_zero v_zero_mac
    go_upto_region 9 with (first | refine wpList_load_row rfl 27 _ rfl w.heap.size rfl 27 A0 (0, 0) _ hld Try.underlying27 rfl (by rw [hA0s]; exact v_info_mac) ?_ | refine wpList_store_row rfl 27 _ _ rfl wr.heap.size A0 rfl rfl 27 _ (RowAt.new wr _ _) (by rw [hA0s]; exact v_info_mac) (by rw [hA0s, mac_size]) hA0o ?_)
    clear hzm
    have hb8 := Below.setRow ((Below.refl wr.heap.size wr).alloc (Nat.le_refl _) (.cells (mac (.slice none 0 0) (.slice none 0 0) (.slice none 0 0) (fun _ => 0) (fun _ => 0)) 27)) wr.heap.size (Nat.le_refl _) A0
    have hq := (RowAt.new wr 27 (mac (.slice none 0 0) (.slice none 0 0) (.slice none 0 0) (fun _ => 0) (fun _ => 0))).row A0
    generalize (wr.alloc (.cells (mac (.slice none 0 0) (.slice none 0 0) (.slice none 0 0) (fun _ => 0) (fun _ => 0)) 27)).setRow wr.heap.size A0 = X1 at *
    have c2 := hq.cell HMC.out
    have f2 := hq.frozen 2
    have hq2 := hq.set 2 (.slice al g.n cl)
    rw [HM2.out] at hq2
    have hb9 := hb8.setCell (p := ⟨wr.heap.size, 2, none⟩) (Nat.le_refl _) (.slice al g.n cl)
    have HQ2 := (show Hid _ from hq2)
    have HB9 := (show Hid _ from hb9)
    clear hq hb8 hld hq2 hb9
    go_upto_region 10 with fail
    have hq2 : RowAt (X1.setCell ⟨wr.heap.size, 2, none⟩ (.slice al g.n cl)) wr.heap.size 27 (MM (.slice al g.n cl)) := HQ2.out
    have hb9 : Below wr.heap.size wr (X1.setCell ⟨wr.heap.size, 2, none⟩ (.slice al g.n cl)) := HB9.out
    have hf2 := HFS.out.step hb9
    have hl2 := LsO.below HLO.out hb9
    have hbw2 := HBW.out.trans (hb9.mono HBW.out.size)
    generalize X1.setCell ⟨wr.heap.size, 2, none⟩ (.slice al g.n cl) = X2 at *
    clear c2 f2 HQ2 HB9 HFS HLO HBW hb9
    have HCT := (show Hid _ from HTJ.out X2 hf2.below (HUL.out X2 hbw2).nums)
    obtain ⟨A1, hA1⟩ : ∃ A1, A1 = MM (.slice al g.n cl) := ⟨_, rfl⟩
    rw [← hA1] at hq2 HCT HMSx
    have hA1s : A1.size = 55 := HMSx.out
    clear hA1 HTJ HMSx
    go_wp2_with (first | refine wpList_load_row rfl 27 _ rfl wr.heap.size rfl 27 A1 (0, 0) _ hq2 Try.underlying27 rfl (by rw [hA1s]; exact v_info_mac) ?_)
    refine Calls.mono HCT.out ?_
    rintro e X3 ⟨V, rfl, hV, hb⟩
    have hf3 := hf2.step hb
    have hl3 := LsO.below hl2 hb
    have hbw3 := hbw2.trans (hb.mono hbw2.size)
    have HV1 : Hid (∀ i, i < 3 → (V i).oneCell' = true) := fun i hi => by
      obtain ⟨x, y, e, _⟩ := hV i hi
      rw [e]; rfl
    have htabo := tab3_one HV1.out
    clear hb hf2 hl2 hbw2 HCT hq2
    have hz3 := o_zero f_zero_sl3
    go_upto_region 11 with (first | refine wpList_store_row rfl 28 _ _ rfl X3.heap.size (tab 3 V) rfl rfl 28 _ (RowAt.new X3 _ _) (by rw [tab_size]; exact f_size_sl3) (by simp only [tab_size]) htabo ?_)
    clear hz3
    have hb4 := Below.setRow ((Below.refl X3.heap.size X3).alloc (Nat.le_refl _) (.cells (tab 3 fun _ => .slice none 0 0) 28)) X3.heap.size (Nat.le_refl _) (tab 3 V)
    have hq4 := (RowAt.new X3 28 (tab 3 fun _ => .slice none 0 0)).row (tab 3 V)
    have hf4 := hf3.step hb4
    have hl4 := LsO.below hl3 hb4
    have hbw4 := hbw3.trans (hb4.mono hbw3.size)
    have hV4 : ∀ i, i < 3 → NumsAt ((X3.alloc (.cells (tab 3 fun _ => .slice none 0 0) 28)).setRow X3.heap.size (tab 3 V)) (V i) (typeOf (chC (maOf (gmN g j)) i)).length (fun q => (((typeOf (chC (maOf (gmN g j)) i)).getD q 0 : Nat) : Int)) := fun i hi => (hV i hi).below hb4
    generalize (X3.alloc (.cells (tab 3 fun _ => .slice none 0 0) 28)).setRow X3.heap.size (tab 3 V) = X4 at *
    generalize X3.heap.size = q4 at *
    obtain ⟨v0, x0, ev0, _⟩ := hV4 0 (by decide)
    obtain ⟨v1, x1, ev1, _⟩ := hV4 1 (by decide)
    obtain ⟨v2, x2, ev2, _⟩ := hV4 2 (by decide)
    have HQC := (show Hid (∀ W, RowAt W q4 28 (tab 3 V) → W.cell? ⟨q4, 0, none⟩ = some (V 0) ∧ W.cell? ⟨q4, 1, none⟩ = some (V 1) ∧ W.cell? ⟨q4, 2, none⟩ = some (V 2)) from fun W h => ⟨h.cell (tab_get V (by decide)), h.cell (tab_get V (by decide)), h.cell (tab_get V (by decide))⟩)
    have HVN := (show Hid (∀ W, Below X4.heap.size X4 W → ∀ i, i < 3 → NumsAt W (V i) (typeOf (chC (maOf (gmN g j)) i)).length (fun q => (((typeOf (chC (maOf (gmN g j)) i)).getD q 0 : Nat) : Int))) from fun W hb i hi => (hV4 i hi).below hb)
    have HL4 := (show Hid (LsO X4 W2.heap.size u (fndTo g m fb j) g.n) from hl4)
    have HBW4 := (show Hid (Below W2.heap.size W2 X4) from hbw4)
    rw [ev0, ev1, ev2] at HQC
    have HN0 := (show Hid _ from fun W hb => HVN.out W hb 0 (by decide))
    have HN1 := (show Hid _ from fun W hb => HVN.out W hb 1 (by decide))
    have HN2 := (show Hid _ from fun W hb => HVN.out W hb 2 (by decide))
    rw [ev0] at HN0
    rw [ev1] at HN1
    rw [ev2] at HN2
    clear hb4 hf3 hl3 hbw3 hV hV4 HV1 htabo hl4 hbw4 ev0 ev1 ev2 HVN
    generalize tab 3 V = TV at *
    generalize (typeOf (chC (maOf (gmN g j)) 0)).length = l0 at *
    generalize (typeOf (chC (maOf (gmN g j)) 1)).length = l1 at *
    generalize (typeOf (chC (maOf (gmN g j)) 2)).length = l2 at *
    generalize (fun q => (((typeOf (chC (maOf (gmN g j)) 0)).getD q 0 : Nat) : Int)) = F0 at *
    generalize (fun q => (((typeOf (chC (maOf (gmN g j)) 1)).getD q 0 : Nat) : Int)) = F1 at *
    generalize (fun q => (((typeOf (chC (maOf (gmN g j)) 2)).getD q 0 : Nat) : Int)) = F2 at *
    have y0 := (HQC.out X4 hq4).1
    have z0 := HT0.out X4 hf4
    have HC0 := (show Hid _ from HS0.out X4 _ _ _ (by decide) hf4.below (HN0.out X4 (Below.refl _ _)))
    go_wp2_with fail
    refine Calls.mono HC0.out ?_
    rintro e X5 ⟨rfl, hb⟩
    have hf5 := hf4.step hb
    have hq5 := hq4.below hb hq4.lt
    have hb5 := hb
    have HL5 := (show Hid (LsO X5 W2.heap.size u (fndTo g m fb j) g.n) from LsO.below HL4.out hb)
    have HBW5 := (show Hid (Below W2.heap.size W2 X5) from HBW4.out.trans (hb.mono HBW4.out.size))
    clear hb hf4 hq4 HC0 HL4 HBW4 y0 z0
    generalize smB l0 (m 0) F0 (fb 0) = s0 at *
    cases s0
    · have HNX2 : Hid (fndTo g m fb (j + 1) = fndTo g m fb j) := by
        have h1 := HNX.out
        rw [HHB.out] at h1
        simp at h1
        exact h1
      have HFK := (show Hid (FnS w X5 A0 U) from hf5)
      clear HNX HHB HN0 HN1 HN2 HQC HT0 HT1 HT2 HS0 HS1 HS2 HTY HUL hf5
      go_wp2
      go_roundw
      case rel => exact ⟨j + 1, u, HLT.out, by go_num, by first | rfl | trivial, by rw [HNX2.out]; exact HL5.out, HFK.out, HBW5.out⟩
      case measure => have := HLT.out; simp [intOf]; omega
    have y1 := (HQC.out X5 hq5).2.1
    have z1 := HT1.out X5 hf5
    have HC1 := (show Hid _ from HS1.out X5 _ _ _ (by decide) hf5.below (HN1.out X5 hb5))
    go_wp2_with fail
    refine Calls.mono HC1.out ?_
    rintro e X6 ⟨rfl, hb⟩
    have hf6 := hf5.step hb
    have hq6 := hq5.below hb hq5.lt
    have hb6 := hb5.trans (hb.mono hb5.size)
    have HL6 := (show Hid (LsO X6 W2.heap.size u (fndTo g m fb j) g.n) from LsO.below HL5.out hb)
    have HBW6 := (show Hid (Below W2.heap.size W2 X6) from HBW5.out.trans (hb.mono HBW5.out.size))
    clear hb hf5 hq5 HC1 HL5 HBW5 y1 z1 hb5
    generalize smB l1 (m 1) F1 (fb 1) = s1 at *
    cases s1
    · have HNX2 : Hid (fndTo g m fb (j + 1) = fndTo g m fb j) := by
        have h1 := HNX.out
        rw [HHB.out] at h1
        simp at h1
        exact h1
      have HFK := (show Hid (FnS w X6 A0 U) from hf6)
      clear HNX HHB HN0 HN1 HN2 HQC HT0 HT1 HT2 HS0 HS1 HS2 HTY HUL hf6
      go_wp2
      go_roundw
      case rel => exact ⟨j + 1, u, HLT.out, by go_num, by first | rfl | trivial, by rw [HNX2.out]; exact HL6.out, HFK.out, HBW6.out⟩
      case measure => have := HLT.out; simp [intOf]; omega
    have y2 := (HQC.out X6 hq6).2.2
    have z2 := HT2.out X6 hf6
    have HC2 := (show Hid _ from HS2.out X6 _ _ _ (by decide) hf6.below (HN2.out X6 hb6))
    go_wp2_with fail
    refine Calls.mono HC2.out ?_
    rintro e X7 ⟨rfl, hb⟩
    have hf7 := hf6.step hb
    have HL7 := (show Hid (LsO X7 W2.heap.size u (fndTo g m fb j) g.n) from LsO.below HL6.out hb)
    have HBW7 := (show Hid (Below W2.heap.size W2 X7) from HBW6.out.trans (hb.mono HBW6.out.size))
    clear hb hf6 hq6 HC2 HL6 HBW6 y2 z2 hb6
    generalize smB l2 (m 2) F2 (fb 2) = s2 at *
    cases s2
    · have HNX2 : Hid (fndTo g m fb (j + 1) = fndTo g m fb j) := by
        have h1 := HNX.out
        rw [HHB.out] at h1
        simp at h1
        exact h1
      have HFK := (show Hid (FnS w X7 A0 U) from hf7)
      clear HNX HHB HN0 HN1 HN2 HQC HT0 HT1 HT2 HS0 HS1 HS2 HTY HUL hf7
      go_wp2
      go_roundw
      case rel => exact ⟨j + 1, u, HLT.out, by go_num, by first | rfl | trivial, by rw [HNX2.out]; exact HL7.out, HFK.out, HBW7.out⟩
      case measure => have := HLT.out; simp [intOf]; omega
    have HNX2 : Hid (fndTo g m fb (j + 1) = fndTo g m fb j ++ [j]) := by
      have h1 := HNX.out
      rw [HHB.out] at h1
      exact h1
    obtain ⟨vs, hown, hvs⟩ := HL7.out
    have HOX := (show Hid (X7.ownsRow W2.heap.size 23 1 u (fndTo g m fb j).length vs) from hown)
    have HVX := (show Hid (∀ (q : Nat) (u : Value) (N : Nat), vs[q]? = some u → (fndTo g m fb j)[q]? = some N → OwI X7 u g.n fun i => ((dig g.n N i : Nat) : Int)) from hvs)
    have H28 := (show Hid (OwI X7 (.slice al g.n cl) g.n fun i => ((dig g.n j i : Nat) : Int)) from HUL.out X7 HBW7.out)
    have HF7 := (show Hid (FnS w X7 A0 U) from hf7)
    have hsz7 := HBW7.out.size
    have hlt7 := hf7.t.lt
    clear hown hvs HL7 hf7 HNX HHB HN0 HN1 HN2 HQC HT0 HT1 HT2 HS0 HS1 HS2 HTY HUL
    go_wp2_with (first | (at_builtin; refine wpList_append_own _ rfl _ _ 29 rfl W2.heap.size 23 i0 (.slice none 0 0) 1 24 Try.underlying29 hi0 hz0 hz1 hz2 rfl (by decide) _ _ _ rfl (World.ownsRow.alloc HOX.out _) ⟨X7.heap.size, 0, none⟩ 1 1 [.slice al g.n cl] rfl rfl (cell_one_new _ _ _) (fun u hu => by simp at hu; subst hu; rfl) (by unfold maxLen; omega) (by omega) (by simp; omega) ?_; intro v30 X8 h30 g30 _))
    go_roundw
    case rel =>
      have hal := (Below.refl X7.heap.size X7).alloc (Nat.le_refl _) (.cells #[.slice al g.n cl] 23)
      have hfa := HF7.out.step hal
      have hnb : ∀ p, u.ownBlock = some p → W2.heap.size ≤ p := fun p hp => (World.ownsRow.lt HOX.out p hp).1
      refine ⟨j + 1, v30, HLT.out, by go_num, by first | rfl | trivial, ?_, ⟨?_, ?_, ?_⟩, ?_⟩
      · rw [HNX2.out]
        exact LsO.more (World.ownsRow.alloc HOX.out _) (fun q u N h1 h2 => (HVX.out q u N h1 h2).below hal) (H28.out.below hal) h30 g30
      · refine (g30.block w.heap.size (by simp; omega) fun e => ?_).trans hfa.m
        have := hnb _ e.symm
        omega
      · refine (g30.block (w.heap.size + 1) (by simp; omega) fun e => ?_).trans hfa.t
        have := hnb _ e.symm
        omega
      · exact hfa.below.grown g30 hfa.below.size (fun p hp => by have := hnb p hp; omega)
      · exact (HBW7.out.alloc hsz7 _).grown g30 (by simp; omega) hnb
    case measure => have := HLT.out; simp [intOf]; omega
end Go.Proofs.Ythfjkhmedpilnaa
