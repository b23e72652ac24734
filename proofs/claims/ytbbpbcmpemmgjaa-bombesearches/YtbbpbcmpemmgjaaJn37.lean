/-
  Several texts, joined: FgE, FgJ, FeA, FeB, FeC.
-/
import Derived.Test.YtbbpbcmpemmgjaaFgC
import Derived.Test.YtbbpbcmpemmgjaaJn36
import Derived.Test.YtbbpbcmpemmgjaaJn34
/-
  Contract of the document's Search (chapter 10).
-/
namespace Go.Proofs.Ytbbpbcmpemmgjaa
open Go.RowKit PK Vg

theorem rgs_any (vm : Value) (g : Gm) (cr te : ByteArray) (A : Nat) (ok : Nat → Bool) (pr : Nat → Nat → Int) (ht : Tst g cr te A ok pr) (w : World) (hm : MacAt w vm g) : Calls Try.prog 37 #[vm, .string cr, .string te] w fun e w' => ∃ v B, e = .returned v ∧ w.heap.size ≤ B ∧ OwnsG w' B v (fun b => gsF A b (pr b)) (okTo ok 26) ∧ Below w.heap.size w w' := by
  obtain ⟨hmo, hk32⟩ := mnu_ok ht.e
  obtain ⟨hg0, hc1, hc2, hk1, _, _, _⟩ := bwE_zero ht.e
  have hmu := menu_of (S := chE (Om.unplugged (maOf g))) ht.e
  have s1 := Pl.size_len cr
  have HU := fun W (hb : Below w.heap.size w W) => rscr_any vm g hg0 cr.size (by have := hmu.le; omega) W (hm.below hb)
  have hA : A < 26 := by rw [ht.a]; exact Bo.most_26 _
  have hls : ∀ s : ByteArray, ckE s.data.toList = 0 → Ls s.data.toList := fun s hs => by
    rcases ck_cases s.data.toList with ⟨_, _, _, e4⟩ | e1
    · exact ls_of e4
    · rw [hs] at e1; cases e1
  have HMO := fun W => rmost_any cr te (hls cr hc1) (hls te hc2) hmu.le (by have := hmu.le; have := hmu.sz; omega) W
  have hAe : Bo.most (fun c => cl cr.data.toList c cr.size + cl te.data.toList c te.size) 26 = A := by
    rw [ht.a]
    refine Bo.most_congr 26 fun c _ => ?_
    have h1 := ml_cl cr.data.toList te.data.toList cr.size (chE (Om.unplugged (maOf g))) c cr.size
    rw [hmu.sz]
    exact h1.symm
  rw [hAe] at HMO
  obtain ⟨a, b, c, rfl, _⟩ := hm
  refine rguesses_run (mnu g cr te) A ok pr a b c g.rf g.pl cr te w (fun W hb => (HU W hb).mono ?_) HMO (fun W' vk hvk k hk => rclosed_any (mnu g cr te) hmo cr te hmu A k hA hk (ok k) (pr k) (ht.res k hk) vk W' hvk)
  rintro e w' ⟨v, h1, h2, h3⟩
  exact ⟨v, h1, keys_of_own h2 (by have h7 : cr.size ≠ 0 := (by omega); exact h7), h3⟩
set_option maxRecDepth 100000 in
set_option maxHeartbeats 4000000 in
theorem rsearch_bad1 (vm : Value) (g : Gm) (cr te : ByteArray) (h : Int) (hE : bwE g cr.data.toList te.data.toList ≠ 0) (w : World) (hm : MacAt w vm g) : Calls Try.prog 14 #[vm, .string cr, .string te, .int .i64 h] w fun e w' => e = .returned (.tuple #[.slice none 0 0, .int .i64 (bwE g cr.data.toList te.data.toList)]) ∧ Below w.heap.size w w' := by
  have HC := (show Hid (∀ W, Below w.heap.size w W → Calls Try.prog 36 #[vm, .string cr, .string te] W fun e w' => e = .returned (.int .i64 (bwE g cr.data.toList te.data.toList)) ∧ Below W.heap.size W w') from fun W hb => brwrong_any vm g cr te W (hm.below hb))
  obtain ⟨a, b, c, rfl, _⟩ := hm
  have h0 := MgAt.new w a b c g.rf g.pl
  have hA0s : (mac a b c g.rf g.pl).size = 55 := mac_size _ _ _ _ _
  have hz2 : (bwE g cr.data.toList te.data.toList != 0) = true := by simpa using hE
  obtain ⟨E, hEE⟩ : ∃ E, E = bwE g cr.data.toList te.data.toList := ⟨_, rfl⟩
  rw [← hEE] at HC hz2 ⊢
  clear hE hEE
  have hr0 := h0.row
  have hb0 := h0.below
  clear h0
  generalize mac a b c g.rf g.pl = A0 at *
  go_enter Try.func14, Try.ntmps14
  go_upto_region 1 with fail
  generalize w.alloc (.cells A0 27) = W0 at *
  go_wp2_with (first | refine wpList_load_row rfl 27 _ rfl w.heap.size rfl 27 A0 (0, 0) _ hr0 Try.underlying27 rfl (by rw [hA0s]; exact v_info_mac) ?_)
  refine (HC.out _ hb0).mono ?_
  rintro e W1 ⟨rfl, hb⟩
  have HB := (show Hid _ from hb0.trans (hb.mono hb0.size))
  clear hb hr0 hb0 HC
  go_wp2
  go_ret2
  exact ⟨rfl, HB.out⟩
set_option maxRecDepth 100000 in
set_option maxHeartbeats 4000000 in
theorem rsearch_bad2 (vm : Value) (g : Gm) (cr te : ByteArray) (h : Int) (hE : bwE g cr.data.toList te.data.toList = 0) (hS : swE g h ≠ 0) (w : World) (hm : MacAt w vm g) : Calls Try.prog 14 #[vm, .string cr, .string te, .int .i64 h] w fun e w' => e = .returned (.tuple #[.slice none 0 0, .int .i64 (swE g h)]) ∧ Below w.heap.size w w' := by
  have HC := (show Hid (∀ W, Below w.heap.size w W → Calls Try.prog 36 #[vm, .string cr, .string te] W fun e w' => e = .returned (.int .i64 0) ∧ Below W.heap.size W w') from fun W hb => by have := brwrong_any vm g cr te W (hm.below hb); rw [hE] at this; exact this)
  have HD := (show Hid (∀ W, Below w.heap.size w W → Calls Try.prog 22 #[vm, .int .i64 h] W fun e w' => e = .returned (.int .i64 (swE g h)) ∧ Below W.heap.size W w') from fun W hb => rsw_any vm g h W (hm.below hb))
  obtain ⟨a, b, c, rfl, _⟩ := hm
  have h0 := MgAt.new w a b c g.rf g.pl
  have hA0s : (mac a b c g.rf g.pl).size = 55 := mac_size _ _ _ _ _
  have hz2 : (swE g h != 0) = true := by simpa using hS
  obtain ⟨E, hEE⟩ : ∃ E, E = swE g h := ⟨_, rfl⟩
  rw [← hEE] at HD hz2 ⊢
  clear hE hEE hS
  have hr0 := h0.row
  have hb0 := h0.below
  clear h0
  generalize mac a b c g.rf g.pl = A0 at *
  go_enter Try.func14, Try.ntmps14
  go_upto_region 1 with fail
  generalize w.alloc (.cells A0 27) = W0 at *
  go_wp2_with (first | refine wpList_load_row rfl 27 _ rfl w.heap.size rfl 27 A0 (0, 0) _ hr0 Try.underlying27 rfl (by rw [hA0s]; exact v_info_mac) ?_)
  refine (HC.out _ hb0).mono ?_
  rintro e W1 ⟨rfl, hb⟩
  have hr1 := hr0.below hb hr0.lt
  have hb1 := hb0.trans (hb.mono hb0.size)
  clear hb hr0 hb0 HC
  go_wp2_with (first | refine wpList_load_row rfl 27 _ rfl w.heap.size rfl 27 A0 (0, 0) _ hr1 Try.underlying27 rfl (by rw [hA0s]; exact v_info_mac) ?_)
  refine (HD.out _ hb1).mono ?_
  rintro e W2 ⟨rfl, hb⟩
  have HB := (show Hid _ from hb1.trans (hb.mono hb1.size))
  clear hb hr1 hb1 HD
  go_wp2
  go_ret2
  exact ⟨rfl, HB.out⟩
set_option maxRecDepth 100000 in
set_option maxHeartbeats 8000000 in
theorem rsearch_ok (vm : Value) (g : Gm) (cr te : ByteArray) (h : Int) (hW : bwE g cr.data.toList te.data.toList = 0) (hE : swE g h = 0) (hl : Hl) (hln : hl.n = g.n) (w : World) (hm : MacAt w vm g)
    (HGU : Hid (∀ N vm' W, Below w.heap.size w W → MacAt W vm' (gmN g N) → Calls Try.prog 37 #[vm', .string cr, .string te] W fun e w' => ∃ v B, e = .returned v ∧ OwnsG w' B v (hl.gs N) (hl.lg N) ∧ Below W.heap.size W w')) :
    Calls Try.prog 14 #[vm, .string cr, .string te, .int .i64 h] w fun e w' => ∃ v, e = .returned (.tuple #[v, .int .i64 0]) ∧ HsO w' w.heap.size v (hl.fnd (26 ^ g.n)) hl ∧ Below w.heap.size w w' := by
  obtain ⟨i0, hi0, hz0, hz1, hz2⟩ := f_info_parts h_all_halt
  obtain ⟨hgE, hn3, _, _⟩ := swE_zero hE
  have HC := (show Hid (∀ W, Below w.heap.size w W → Calls Try.prog 36 #[vm, .string cr, .string te] W fun e w' => e = .returned (.int .i64 0) ∧ Below W.heap.size W w') from fun W hb => by have := brwrong_any vm g cr te W (hm.below hb); rw [hW] at this; exact this)
  have HD := (show Hid (∀ W, Below w.heap.size w W → Calls Try.prog 22 #[vm, .int .i64 h] W fun e w' => e = .returned (.int .i64 0) ∧ Below W.heap.size W w') from fun W hb => by have := rsw_any vm g h W (hm.below hb); rw [hE] at this; exact this)
  have HWI := (show Hid (∀ W, Calls Try.prog 23 #[.int .i64 (g.n : Nat)] W fun e w' => ∃ v, e = .returned v ∧ LsO w' W.heap.size v (List.range (26 ^ g.n)) g.n ∧ Below W.heap.size W w') from fun W => rwin_any g.n hn3 W)
  obtain ⟨a, b, c, rfl, hwh, hri, hst⟩ := hm
  have HTY := (show Hid (∀ N at' W, Below w.heap.size w W → NumsAt W at' g.n (fun i => ((dig g.n N i : Nat) : Int)) → Calls Try.prog 37 #[.agg (mac a b at' g.rf g.pl), .string cr, .string te] W fun e w' => ∃ v B, e = .returned v ∧ OwnsG w' B v (hl.gs N) (hl.lg N) ∧ Below W.heap.size W w') from fun N at' W hb hat => HGU.out N _ W hb ⟨a, b, at', rfl, hwh.below hb, hri.below hb, hat⟩)
  obtain ⟨aw, cw, R, rfl, hmx, _, _⟩ := hwh
  obtain ⟨ac, cc, rfl, _, _⟩ := hst
  have h0r := (MgAt.new w (.slice aw g.n cw) b (.slice ac g.sl cc) g.rf g.pl).row
  have h0b := (MgAt.new w (.slice aw g.n cw) b (.slice ac g.sl cc) g.rf g.pl).below
  have HM2 := (show Hid (∀ x, (mac (.slice aw g.n cw) b (.slice ac g.sl cc) g.rf g.pl).setIfInBounds 2 x = mac (.slice aw g.n cw) b x g.rf g.pl) from fun x => mac_set2 _ _ _ _ _ _)
  have HM0 := (show Hid ((mac (.slice aw g.n cw) b (.slice ac g.sl cc) g.rf g.pl)[0]? = some (.slice aw g.n cw)) from mac_0 _ _ _ _ _)
  have HMC := (show Hid ((mac (.slice aw g.n cw) b (.slice ac g.sl cc) g.rf g.pl)[2]? = some (.slice ac g.sl cc)) from mac_2 _ _ _ _ _)
  have hA0s : (mac (.slice aw g.n cw) b (.slice ac g.sl cc) g.rf g.pl).size = 55 := mac_size _ _ _ _ _
  have hbo : b.oneCell' = true := by obtain ⟨x, y, e, _⟩ := hri; rw [e]; rfl
  have hA0o : (mac (.slice aw g.n cw) b (.slice ac g.sl cc) g.rf g.pl).all (·.oneCell') = true := mac_one rfl hbo rfl
  have HMS := (show Hid (∀ x, (mac (.slice aw g.n cw) b x g.rf g.pl).size = 55) from fun x => mac_size _ _ _ _ _)
  obtain ⟨MM, hMM⟩ : ∃ MM : Value → Array Value, MM = fun x => mac (.slice aw g.n cw) b x g.rf g.pl := ⟨_, rfl⟩
  have hMMx : ∀ x, mac (.slice aw g.n cw) b x g.rf g.pl = MM x := fun x => by rw [hMM]
  rw [hMMx] at h0r h0b HM0 HMC hA0s hA0o ⊢
  simp only [hMMx] at HM2 HMS HTY HC HD
  obtain ⟨A0, hA0⟩ : ∃ A0, A0 = MM (.slice ac g.sl cc) := ⟨_, rfl⟩
  rw [← hA0] at h0r h0b HM0 HMC hA0s hA0o ⊢
  simp only [← hA0] at HM2 HC HD
  have HLN := (show Hid (hl.n = g.n) from hln)
  have hpw := pow26_le (m := g.n) (by omega)
  clear hA0 hMMx hMM hri hgE hE hbo hmx hW hln HGU
  generalize hDD : 26 ^ g.n = D at *
  clear hDD
  go_enter Try.func14, Try.ntmps14
  go_upto_region 1 with fail
  generalize w.alloc (.cells A0 27) = W0 at *
  go_wp2_with (first | refine wpList_load_row rfl 27 _ rfl w.heap.size rfl 27 A0 (0, 0) _ h0r Try.underlying27 rfl (by rw [hA0s]; exact v_info_mac) ?_)
  refine (HC.out _ h0b).mono ?_
  rintro e W1 ⟨rfl, hb⟩
  have h1r := h0r.below hb h0r.lt
  have h1b := h0b.trans (hb.mono h0b.size)
  clear hb h0r h0b HC
  go_wp2_with (first | refine wpList_load_row rfl 27 _ rfl w.heap.size rfl 27 A0 (0, 0) _ h1r Try.underlying27 rfl (by rw [hA0s]; exact v_info_mac) ?_)
  refine (HD.out _ h1b).mono ?_
  rintro e W1' ⟨rfl, hb⟩
  have h2r := h1r.below hb h1r.lt
  have h2b := h1b.trans (hb.mono h1b.size)
  clear hb h1r h1b HD
  have c0 := h2r.cell HM0.out
  go_wp2_with fail
  refine (HWI.out _).mono ?_
  rintro e W2 ⟨v1, rfl, hls, hb⟩
  have h3r := h2r.below hb h2r.lt
  have h3b := h2b.trans (hb.mono h2b.size)
  obtain ⟨a1, c1, hv1⟩ := hls.len
  rw [List.length_range] at hv1
  have HLS := (show Hid (∀ W, Below W2.heap.size W2 W → LsO W W1'.heap.size v1 (List.range D) g.n) from fun W hb => hls.below hb)
  subst hv1
  have hsz2 := h3r.lt
  have HR2 := (show Hid (RowAt W2 w.heap.size 27 A0) from h3r)
  have HB2 := (show Hid (Below w.heap.size w W2) from h3b)
  clear hb hls HWI c0 h2r h2b h3r h3b
  go_wp2_with fail
  go_loopw [12, 35] (fun o x W => ∃ (j : Nat) (u : Value), j ≤ D ∧ x = .int .i64 (j : Nat) ∧ u = o ∧ HsO W W2.heap.size u (hl.fnd j) hl ∧ Below W2.heap.size W2 W) (fun _ x _ => ((D : Int) - intOf x).toNat)
  case atStart => exact ⟨0, _, by omega, rfl, rfl, HsO.nil _ _ _, Below.refl _ _⟩
  case round =>
    obtain ⟨j, u, hj, rfl, rfl, hlo, hbw⟩ := hrel
    by_cases hlt : j < D
    case neg =>
      obtain rfl : j = D := by omega
      have hnn : ¬ ((j : Nat) : Int) < ((j : Nat) : Int) := by omega
      have HF := (show Hid (HsO wr w.heap.size u (hl.fnd j) hl) from HsO.mono hlo (Nat.le_of_lt hsz2))
      have HBE := (show Hid (Below w.heap.size w wr) from HB2.out.trans (hbw.mono HB2.out.size))
      clear hlo hbw hlt HLS
      go_wp2
      go_ret2
      exact ⟨u, by first | rfl | trivial, HF.out, HBE.out⟩
    have HLT : Hid (j < D) := hlt
    have hlt2 : (j : Int) < (D : Int) := by omega
    obtain ⟨g1, cc1, ul, ev, hcl, hoi⟩ := (HLS.out W2 (Below.refl _ _)).at_ (i := j) (by rw [List.length_range]; exact hlt)
    rw [List.length_range] at ev
    cases ev
    have hgd : (List.range D).getD j 0 = j := by simp [List.getD, hlt]
    rw [hgd] at hoi
    have HUL := (show Hid (∀ W, Below W2.heap.size W2 W → OwI W ul g.n fun i => ((dig g.n j i : Nat) : Int)) from fun W hb => hoi.below hb)
    have hcell := (hbw.cell (p := ⟨g1, j, none⟩) (cell_block hcl)).trans hcl
    obtain ⟨al, cl, rfl⟩ : ∃ al cl, ul = .slice al g.n cl := by
      rcases hoi.form with ⟨e, e2⟩ | ⟨x, y, e⟩
      · exact ⟨none, 0, by rw [e, e2]⟩
      · exact ⟨_, _, e⟩
    have HLO := (show Hid (HsO wr W2.heap.size u (hl.fnd j) hl) from hlo)
    have HBW := (show Hid (Below W2.heap.size W2 wr) from hbw)
    have hlen := hl.fnd_len j
    have HNX := (show Hid _ from hl.fnd_succ j)
    have HTJ := (show Hid _ from HTY.out j (.slice al g.n cl))
    have hld := RowAt.below HR2.out hbw (RowAt.lt HR2.out)
    have HMSx := (show Hid _ from HMS.out (.slice al g.n cl))
    clear hlt hgd hoi hcl hlo hbw HLS
    go_upto_region 11 with fail
    have hzm := o_zero v_zero_mac
    go_upto_region 12 with (first | refine wpList_load_row rfl 27 _ rfl w.heap.size rfl 27 A0 (0, 0) _ hld Try.underlying27 rfl (by rw [hA0s]; exact v_info_mac) ?_ | refine wpList_store_row rfl 27 _ _ rfl wr.heap.size A0 rfl rfl 27 _ (RowAt.new wr _ _) (by rw [hA0s]; exact v_info_mac) (by rw [hA0s, mac_size]) hA0o ?_)
    clear hzm
    have hb8 := Below.setRow ((Below.refl wr.heap.size wr).alloc (Nat.le_refl _) (.cells (mac (.slice none 0 0) (.slice none 0 0) (.slice none 0 0) (fun _ => 0) (fun _ => 0)) 27)) wr.heap.size (Nat.le_refl _) A0
    have hq := (RowAt.new wr 27 (mac (.slice none 0 0) (.slice none 0 0) (.slice none 0 0) (fun _ => 0) (fun _ => 0))).row A0
    generalize (wr.alloc (.cells (mac (.slice none 0 0) (.slice none 0 0) (.slice none 0 0) (fun _ => 0) (fun _ => 0)) 27)).setRow wr.heap.size A0 = X1 at *
    have c2 := hq.cell HMC.out
    have f2 := hq.frozen 2
    have hq2 := hq.set 2 (.slice al g.n cl)
    rw [HM2.out] at hq2
    have hb9 := hb8.setCell (p := ⟨wr.heap.size, 2, none⟩) (Nat.le_refl _) (.slice al g.n cl)
    have HQ2 := (show Hid _ from hq2)
    have HB9 := (show Hid _ from hb9)
    clear hq hb8 hld hq2 hb9
    go_upto_region 13 with fail
    have hq2 : RowAt (X1.setCell ⟨wr.heap.size, 2, none⟩ (.slice al g.n cl)) wr.heap.size 27 (MM (.slice al g.n cl)) := HQ2.out
    have hb9 : Below wr.heap.size wr (X1.setCell ⟨wr.heap.size, 2, none⟩ (.slice al g.n cl)) := HB9.out
    have hl2 := HsO.below HLO.out hb9
    have hbw2 := HBW.out.trans (hb9.mono HBW.out.size)
    generalize X1.setCell ⟨wr.heap.size, 2, none⟩ (.slice al g.n cl) = X2 at *
    clear c2 f2 HQ2 HB9 HLO HBW hb9
    have HCT := (show Hid _ from HTJ.out X2 (HB2.out.trans (hbw2.mono HB2.out.size)) (HUL.out X2 hbw2).nums)
    obtain ⟨A1, hA1⟩ : ∃ A1, A1 = MM (.slice al g.n cl) := ⟨_, rfl⟩
    rw [← hA1] at hq2 HCT HMSx
    have hA1s : A1.size = 55 := HMSx.out
    clear hA1 HTJ HMSx
    go_wp2_with (first | refine wpList_load_row rfl 27 _ rfl wr.heap.size rfl 27 A1 (0, 0) _ hq2 Try.underlying27 rfl (by rw [hA1s]; exact v_info_mac) ?_)
    refine Calls.mono HCT.out ?_
    rintro e X3 ⟨ug, B, rfl, hov, hb⟩
    obtain ⟨au, cu, rfl⟩ := own_formG hov
    have hl3 := HsO.below hl2 hb
    have hbw3 := hbw2.trans (hb.mono hbw2.size)
    have HBW3 := (show Hid (Below W2.heap.size W2 X3) from hbw3)
    have hsz3 := hbw3.size
    clear hb hl2 hbw2 HCT hq2 hbw3
    by_cases hp : 0 < (hl.lg j).length
    · have hp2 : (0 : Int) < ((hl.lg j).length : Int) := by omega
      have HNX2 : Hid (hl.fnd (j + 1) = hl.fnd j ++ [j]) := by
        have h1 := HNX.out
        rw [if_pos (show hl.p j = true from decide_eq_true hp)] at h1
        exact h1
      have HNW : Hid (HltO X3 (.slice al g.n cl) (.slice au (hl.lg j).length cu) hl j) := ⟨by rw [HLN.out]; exact HUL.out X3 HBW3.out, B, hov⟩
      obtain ⟨vs, hown, hvs⟩ := hl3
      have HVS := (show Hid _ from hvs)
      clear HNX hvs hp hov HUL HTY
      generalize (hl.lg j).length = lq at *
      go_wp2_with (first | refine wpList_buildA rfl 51 [(0, .tmp 50), (1, .tmp 51)] rfl [(0, .slice al g.n cl), (1, .slice au lq cu)] rfl _ (built_halt _ _ _ _ _ _) ?_ | refine wpList_build1c rfl 40 51 _ rfl 2 #[.slice none 0 0, .slice none 0 0] #[.slice al g.n cl, .slice au lq cu] rfl (by decide) (by decide) Try.underlying40 rfl rfl h_zs_halt ?_ | (at_builtin; refine wpList_append_own _ rfl _ _ 40 rfl W2.heap.size 51 i0 (.agg #[.slice none 0 0, .slice none 0 0]) 2 48 Try.underlying40 hi0 hz0 hz1 hz2 rfl (by decide) _ _ _ rfl (World.ownsRow.alloc hown _) ⟨X3.heap.size, 0, none⟩ 1 1 [.slice al g.n cl, .slice au lq cu] rfl rfl (cell_two_new _ _ _ _) (fun u hu => by simp at hu; rcases hu with rfl | rfl <;> rfl) (by unfold maxLen; omega) (by omega) (by simp; omega) ?_; intro v' w1 hown' hgrow _))
      go_roundw
      case rel =>
        have hoa := World.ownsRow.alloc hown (.cells #[.slice al g.n cl, .slice au lq cu] 51)
        have hbA : Below X3.heap.size X3 (X3.alloc (.cells #[.slice al g.n cl, .slice au lq cu] 51)) := (Below.refl _ _).alloc (Nat.le_refl _) _
        refine ⟨j + 1, v', HLT.out, by go_num, by first | rfl | trivial, ?_, ?_⟩
        · rw [HNX2.out]
          refine HsO.more hoa (fun kk N e => ?_) (HNW.out.below hbA) hown' hgrow
          obtain ⟨x1, x2, e1, e2, e3⟩ := HVS.out kk N e
          exact ⟨x1, x2, e1, e2, e3.below hbA⟩
        · exact (HBW3.out.alloc HBW3.out.size _).grown hgrow (by simp; omega) (fun p hp => (World.ownsRow.lt hoa p hp).1)
      case measure => have := HLT.out; simp [intOf]; omega
    · have hp2 : ¬ (0 : Int) < ((hl.lg j).length : Int) := by omega
      have HNX2 : Hid (hl.fnd (j + 1) = hl.fnd j) := by
        have h1 := HNX.out
        rw [if_neg (show ¬ hl.p j = true from fun e => hp (of_decide_eq_true e)), List.append_nil] at h1
        exact h1
      have HL3 := (show Hid _ from hl3)
      clear HNX hp hov HUL HTY hl3
      generalize (hl.lg j).length = lq at *
      go_wp2
      go_roundw
      case rel => exact ⟨j + 1, u, HLT.out, by go_num, by first | rfl | trivial, by rw [HNX2.out]; exact HL3.out, HBW3.out⟩
      case measure => have := HLT.out; simp [intOf]; omega
end Go.Proofs.Ytbbpbcmpemmgjaa

/-
  The jobs of bombe.Search, and its pool.
-/
namespace Go.Proofs.Ytbbpbcmpemmgjaa
open Go.RowKit PK Vg Go.Conc Cs
/-- What a search by a crib tells at each window. -/
structure BmS (g : Gm) (h : Hl) (cr te : ByteArray) : Prop where
  n : h.n = g.n
  t : ∀ N, ∃ A ok pr, Tst (gmN g N) cr te A ok pr ∧ h.gs N = (fun b => gsF A b (pr b)) ∧ h.lg N = okTo ok 26
theorem bwE_gmN {g : Gm} {cr te : ByteArray} (h : bwE g cr.data.toList te.data.toList = 0) (N : Nat) : bwE (gmN g N) cr.data.toList te.data.toList = 0 := by
  have h1 := gmN_ok (bwE_zero h).1 N
  have h0 := (bwE_zero h).1
  unfold bwE at h ⊢
  rw [h1]
  rw [h0] at h
  exact h
theorem bms_exists {g : Gm} {cr te : ByteArray} (h : bwE g cr.data.toList te.data.toList = 0) : ∃ hl, BmS g hl cr te := by
  have key : ∀ N, ∃ x : Nat × (Nat → Bool) × (Nat → Nat → Int), Tst (gmN g N) cr te x.1 x.2.1 x.2.2 := fun N => by
    obtain ⟨A, ok, pr, ht⟩ := tst_exists (bwE_gmN h N)
    exact ⟨(A, ok, pr), ht⟩
  exact ⟨⟨g.n, fun N b => gsF (key N).choose.1 b ((key N).choose.2.2 b), fun N => okTo (key N).choose.2.1 26⟩, rfl, fun N => ⟨_, _, _, (key N).choose_spec, rfl, rfl⟩⟩
theorem ml_gmN (g : Gm) (cr te : ByteArray) (N c : Nat) : ∀ k, Bo.ml (mnu (gmN g N) cr te) c k = Bo.ml (mnu g cr te) c k
  | 0 => rfl
  | k + 1 => by rw [Bo.ml, Bo.ml, ml_gmN g cr te N c k]; rfl
theorem swE_n {g : Gm} {h : Int} (hE : swE g h = 0) : 1 ≤ g.n ∧ g.n ≤ 3 ∧ gE g = 0 := by
  obtain ⟨hgE, hn3, _, _⟩ := swE_zero hE
  refine ⟨?_, hn3, hgE⟩
  refine Nat.lt_of_not_le fun hc => ?_
  unfold gE at hgE
  rw [if_pos (.inl (by omega))] at hgE
  cases hgE
section
variable {w w' : World} (hag : ∀ b, b < w.heap.size → w'.heap[b]? = w.heap[b]?)
include hag
theorem ints_ag {v : Value} {s n : Nat} {f : Nat → Int} (h : IntsC w v s n f) : IntsC w' v s n f := by
  obtain ⟨a, cap, h1, h3⟩ := h
  refine ⟨a, cap, h1, fun c hc => ?_⟩
  obtain ⟨b, o, e, k⟩ := h3 c hc
  exact ⟨b, o, e, cell_ag hag k⟩
theorem menu_ag {q s : Nat} {L : Nat → List (Nat × Nat)} (h : MnC w q s L) : MnC w' q s L := by
  obtain ⟨y, T, fr, h1, h2⟩ := h
  refine ⟨y, T, fr, row_ag hag h1, fun c hc => ?_⟩
  obtain ⟨v, e, k1, k2⟩ := h2 c hc
  exact ⟨v, e, ints_ag hag k1, rt_ag hag k2⟩
end
set_option maxHeartbeats 2000000 in
theorem job_ghostH (k : Nat) (hk : k < 26) (bN bC q s : Nat) (a b c : Value) (g : Gm) (cr te : ByteArray) (h : Hl) (hB : BmS g h cr te) (hd : Int) (hE : swE g hd = 0) (hfit : ∀ r, r < g.n → g.nl r * 8 ≤ 140737488355328) (hrl : g.rl * 8 ≤ 140737488355328) (TN TC : TypeId) (fN fC : Nat × Nat) (w : World) (hN : w.heap[bN]? = some (.cells #[.pointer (some ⟨q, s, none⟩)] TN fN)) (hC : w.heap[bC]? = some (.cells #[.string cr] TC fC)) (hmn : MnC w q s (fun c => Bo.ml (mnu g cr te) c (mnu g cr te).k)) (ha : WhR w a g.n g.wi g.nl g.no) (hb : NumsAt w b g.rl g.ri) (hc : NumsAt w c g.sl g.st) (ra : Rt w a) (rb : Rt w b) (rc : Rt w c) :
    ∃ (E : Env) (wl : World) (x : Array Value), (∀ b q s o, E b = some (q, s, o) → o = false ∧ q < w.heap.size) ∧ LR E x #[.agg (mac a b c g.rf g.pl), .int .i64 (k : Nat), .func (.func 33) #[] #[.pointer (some ⟨bN, 0, none⟩), .pointer (some ⟨bC, 0, none⟩)]] ∧ WR Try.prog E wl w ∧ Fns.G ≤ wl.heap.size ∧ ∀ τ, Calls Try.prog 66 x (wl.tp τ) fun e w' => ∃ v, e = .returned v ∧ HsO w' wl.heap.size v (h.hits k (26 ^ (g.n - 1))) h := by
  obtain ⟨hn1, hn3, hgE⟩ := swE_n hE
  obtain ⟨E1, wl1, a', b', c', p1, q1, ra', rb', rc', hm1⟩ := cp_mac (Cp.nil (P := Try.prog) w) no_type ha hb hc ra rb rc
  obtain ⟨E2, wl2, d, p2, q2, rd, hd2⟩ := cp_menu p1 no_type hmn
  obtain ⟨E3, wl3, dN, p3, q3, rN, kN⟩ := cp_whole p2 no_type hN #[.pointer (some ⟨d, 0, none⟩)] (fun i u hu => by
    have hi : i = 0 := by have := (Array.getElem?_eq_some_iff.1 hu).1; simp at this; exact this
    subst hi
    cases hu
    exact ⟨_, rfl, rd⟩)
  obtain ⟨E4, wl4, dC, p4, q4, rC, kC⟩ := cp_whole p3 no_type hC #[.string cr] (fun i u hu => by
    have hi : i = 0 := by have := (Array.getElem?_eq_some_iff.1 hu).1; simp at this; exact this
    subst hi
    cases hu
    exact ⟨_, rfl, .string _⟩)
  have hm4 := mac_keep q4 (mac_keep q3 (mac_keep q2 hm1))
  have hlm : LR E4 (mac a' b' c' g.rf g.pl) (mac a b c g.rf g.pl) := lr_mac (((ra'.mono q2.le).mono q3.le).mono q4.le) (((rb'.mono q2.le).mono q3.le).mono q4.le) (((rc'.mono q2.le).mono q3.le).mono q4.le)
  have hcN : wl4.cell? ⟨dN, 0, none⟩ = some (.pointer (some ⟨d, 0, none⟩)) := q4.cell (by rw [cell_of_row _ _ _ _ _ _ kN]; rfl)
  have hcC : wl4.cell? ⟨dC, 0, none⟩ = some (.string cr) := by rw [cell_of_row _ _ _ _ _ _ kC]; rfl
  have hmn4 : MnAt wl4 d (fun c => Bo.ml (mnu g cr te) c (mnu g cr te).k) := by
    obtain ⟨vals, h1, h2⟩ := hd2
    refine ⟨vals, fun c hc => q4.cell (q3.cell (h1 c hc)), fun c hc => ?_⟩
    obtain ⟨x, y, e, k⟩ := h2 c hc
    refine ⟨x, y, e, fun c hc => ?_⟩
    obtain ⟨b, e1, e2, e3⟩ := k c hc
    exact ⟨b, e1, q4.cell (q3.cell e2), q4.cell (q3.cell e3)⟩
  have hfn : VR E4 (.func (.func 33) #[] #[.pointer (some ⟨dN, 0, none⟩), .pointer (some ⟨dC, 0, none⟩)]) (.func (.func 33) #[] #[.pointer (some ⟨bN, 0, none⟩), .pointer (some ⟨bC, 0, none⟩)]) := by
    have l1 : LR E4 #[.pointer (some ⟨dN, 0, none⟩), .pointer (some ⟨dC, 0, none⟩)] #[.pointer (some ⟨bN, 0, none⟩), .pointer (some ⟨bC, 0, none⟩)] := lr_cons (rN.mono q4.le) (lr_cons rC lr_nil)
    exact .func _ (by kernel_rfl) rfl (fun i u v hu => by simp at hu) l1.size l1.at_
  refine ⟨E4, wl4, #[.agg (mac a' b' c' g.rf g.pl), .int .i64 (k : Nat), .func (.func 33) #[] #[.pointer (some ⟨dN, 0, none⟩), .pointer (some ⟨dC, 0, none⟩)]], fun b q s o e => ⟨p4.sh _ _ _ _ e, (p4.wr.lt e).2⟩, lr_cons (.mkAgg hlm) (lr_cons (.int _ _) (lr_cons hfn lr_nil)), p4.wr, p4.big, fun τ => ?_⟩
  obtain ⟨hn, ht⟩ := hB
  obtain ⟨hh, gs, lg⟩ := h
  dsimp only at hn
  subst hn
  refine (pbehH _ g hn1 (by omega) hfit hrl k hk dN dC gs lg (wl4.tp τ) hm4 (fun N a2 b2 c2 W hb2 hm2 => ?_)).mono ?_
  · obtain ⟨A, ok, pr, htN, e1, e2⟩ := ht N
    dsimp only at e1 e2
    have hmW : MnAt W d (fun c => Bo.ml (mnu (gmN g N) cr te) c (mnu (gmN g N) cr te).k) := by
      have e3 : (fun c => Bo.ml (mnu (gmN g N) cr te) c (mnu (gmN g N) cr te).k) = (fun c => Bo.ml (mnu g cr te) c (mnu g cr te).k) := funext fun c => ml_gmN g cr te N c _
      rw [e3]
      exact MnAt.below (W := wl4.tp τ) hmn4 hb2
    have hcN' : (wl4.tp τ).cell? ⟨dN, 0, none⟩ = some (.pointer (some ⟨d, 0, none⟩)) := hcN
    have hcC' : (wl4.tp τ).cell? ⟨dC, 0, none⟩ = some (.string cr) := hcC
    refine (plookH a2 b2 c2 (gmN g N) cr te A ok pr htN (by show g.n * 8 ≤ _; omega) dN dC d W hm2 ((hb2.cell (cell_block hcN')).trans hcN') ((hb2.cell (cell_block hcC')).trans hcC') hmW).mono ?_
    rintro e w' ⟨us, ug, rfl, k1, ⟨B, k2⟩, k3⟩
    refine ⟨us, ug, ?_, ⟨k1, B, ?_⟩, k3⟩
    · show Ending.returned (.tuple #[.agg #[us, ug], .bool (decide (0 < (okTo ok 26).length))]) = .returned (.tuple #[.agg #[us, ug], .bool (decide (0 < (lg N).length))])
      rw [e2]
    · show OwnsG w' B ug (gs N) (lg N)
      rw [e1, e2]
      exact k2
  · rintro e w' ⟨v, rfl, h1, _⟩
    exact ⟨v, rfl, h1⟩
set_option maxRecDepth 100000 in
set_option maxHeartbeats 4000000 in
theorem pool_joinH (cst : Cst) (bF bM bL bD bN bC q s : Nat) (a b c : Value) (g : Gm) (cr te : ByteArray) (hl : Hl) (hBm : BmS g hl cr te) (h : Int) (hE : swE g h = 0) (hfit : ∀ r, r < g.n → g.nl r * 8 ≤ 140737488355328) (hrl : g.rl * 8 ≤ 140737488355328) (TN TC : TypeId) (fN fC : Nat × Nat) (wp : World)
    (hpre : ∀ w, cst.Ok w → ∀ b, b < wp.heap.size → w.heap[b]? = wp.heap[b]?) (hfix : ∀ q, q < wp.heap.size → cst.Fix q)
    (hN : wp.heap[bN]? = some (.cells #[.pointer (some ⟨q, s, none⟩)] TN fN)) (hC : wp.heap[bC]? = some (.cells #[.string cr] TC fC)) (hmn : MnC wp q s (fun c => Bo.ml (mnu g cr te) c (mnu g cr te).k)) (ha : WhR wp a g.n g.wi g.nl g.no) (hb : NumsAt wp b g.rl g.ri) (hc : NumsAt wp c g.sl g.st) (ra : Rt wp a) (rb : Rt wp b) (rc : Rt wp c)
    (wk : Hb.WkP cst bF bM bL bD (.agg (mac a b c g.rf g.pl)) (.func (.func 33) #[] #[.pointer (some ⟨bN, 0, none⟩), .pointer (some ⟨bC, 0, none⟩)])) (hn : 1 ≤ cst.n ∧ cst.n ≤ 1000) (hK : cst.K = 26) (hz : cst.z1 = .int .i64 0 ∧ cst.z2 = .bool false ∧ cst.zs1 = .tuple #[] ∧ cst.zs2 = .tuple #[]) (hB : cst.fB = 66) (har : cst.ar = fun k => #[.agg (mac a b c g.rf g.pl), .int .i64 (k : Nat), .func (.func 33) #[] #[.pointer (some ⟨bN, 0, none⟩), .pointer (some ⟨bC, 0, none⟩)]]) (s1 : 1 ≤ cst.S0) (d1 : cst.C1 < cst.N1 ∧ cst.C2 < cst.N1 ∧ cst.Fd < cst.N1 ∧ cst.C1 ≠ cst.C2 ∧ cst.C1 ≠ cst.Fd ∧ cst.C2 ≠ cst.Fd)
    (cs : List Frame) {gs : Array Goroutine} {t : Trace} {qq : Nat → Nat} {g0 : Goroutine} {w : World} (hS : cst.S0 = gs.size) (h0 : gs[0]? = some g0) (hq : Qt Try.prog gs t qq w.heap.size) {μ : Nat} (hw : Walk Try.prog cst true (Hb.eGoP cst bF bM bL bD cst.n cs 0) μ g0 w) (ok : cst.Ok w) (c1 : w.heap[cst.C1]? = some (.chan 0 #[] false 0 0 false)) (c2 : w.heap[cst.C2]? = some (.chan 0 #[] false 0 0 false)) (fd : ∀ j a ad, touchAt t j = some a → a.loc = .cell ad → ad.block ≠ cst.Fd) (sl : Option (Nat × Nat)) :
    ∃ N gs' w' sl' t' q' V, ∃ v0 v2 v4 v6 v7 v8 v12 v13 v14 v15 v16 v17 v18 v19 v20 v21 v22 v23 v24 v25 v26 v27 v28 v29 v30 v31 v32 v33 v34 v35 v36 v37 v38 v39 v40 v41 v42 v43 v44 v45 v46 v47 v48 v49 v50 v51 v52 : Value, runNT Try.prog N (crowd gs w sl) t = (.next (crowd gs' w' sl'), t') ∧ gs'[0]? = some (G (mkF 32 #[v0, .int .i64 (cst.n : Nat), v2, .pointer (some ⟨bM, 0, none⟩), v4, .pointer (some ⟨bL, 0, none⟩), v6, v7, v8, .pointer (some ⟨cst.Fd, 0, none⟩), .pointer (some ⟨bF, 0, none⟩), .pointer (some ⟨bD, 0, none⟩), v12, v13, v14, v15, v16, v17, v18, v19, v20, v21, v22, v23, v24, v25, v26, v27, v28, v29, v30, v31, v32, v33, v34, v35, v36, v37, v38, v39, v40, v41, v42, v43, v44, v45, v46, v47, v48, v49, v50, v51, v52] [.code Hb.eT5] .run) cs) ∧ w'.heap[cst.Fd]? = some (.cells (tab 26 V) cst.TF (0, 0)) ∧ (∀ k, k < 26 → HsC w' (V k) (hl.hits k (26 ^ (g.n - 1))) hl) ∧ cst.Ok w' ∧ Qt Try.prog gs' t' q' w'.heap.size := by
  have hG : Try.prog.globals.size ≤ Fns.G := Nat.le_refl _
  obtain ⟨hn1, hn3, hgE⟩ := swE_n hE
  have hln := hBm.n
  let S := Hb.everyScr (Post := fun k v wl => ∃ B, HsO wl B v (hl.hits k (26 ^ (g.n - 1))) hl) cst bF bM bL bD _ _ cs wk hn hK hz hB har s1 d1 (by rw [hB]; kernel_rfl) (fun k hk w hw => by
      obtain ⟨E, wl, x, k1, k2, k3, k4, k5⟩ := job_ghostH k (by omega) bN bC q s a b c g cr te hl hBm h hE hfit hrl TN TC fN fC wp hN hC hmn ha hb hc ra rb rc
      refine ⟨E, wl, x, fun b q s o e => ⟨(k1 b q s o e).1, hfix q (k1 b q s o e).2⟩, by rw [har]; exact k2, wr_move k3 fun b x e => ?_, k4, fun τ => ?_⟩
      · obtain ⟨q, s, o⟩ := x
        exact hpre w hw q (k1 b q s o e).2
      · rw [hB]
        refine (k5 τ).mono ?_
        rintro e w' ⟨v, rfl, hv⟩
        exact ⟨v, rfl, _, hv⟩) (fun k v wl E v' hp hr => by
      obtain ⟨B, hp⟩ := hp
      obtain ⟨vs, ⟨_, h2⟩, _⟩ := hp
      generalize (hl.hits k (26 ^ (g.n - 1))).length = nn at h2
      rcases h2 with ⟨rfl, _⟩ | ⟨_, _, _, rfl, _⟩ <;> cases hr <;> exact ⟨_, _, _, rfl⟩)
  obtain ⟨N1, gs1, w1, sl1, t1, q1, g1, r1, i1, jn, run1, Q1, ok1, RS, hRS, hres⟩ := pool_runs (S := S) hG fd_fnsCode hS h0 hq hw ok c1 c2 fd sl
  obtain ⟨v0, v2, v4, v6, v7, v8, v12, v13, v14, v15, v16, v17, v18, v19, v20, v21, v22, v23, v24, v25, v26, v27, v28, v29, v30, v31, v32, v33, v34, v35, v36, v37, v38, v39, v40, v41, v42, v43, v44, v45, v46, v47, v48, v49, v50, v51, v52, rfl⟩ := jn
  obtain ⟨cs, hcs, hcsz⟩ := ok1.fd
  rw [hK] at hcsz hres
  have hVk : ∀ k, ∃ v, k < 26 → cs[k]? = some v ∧ HsC w1 v (hl.hits k (26 ^ (g.n - 1))) hl := fun k => by
    by_cases hk : k < 26
    · obtain ⟨v, e1, E, vl, wl, ⟨B, p1⟩, p2, p3, _⟩ := hres k hk
      rw [cell_of_row _ _ _ _ _ _ hcs] at e1
      exact ⟨v, fun _ => ⟨e1, halts_back p3 (by rw [hln]; unfold maxLen; omega) p1 p2⟩⟩
    · exact ⟨.bool false, fun e => absurd e hk⟩
  have htab : cs = tab 26 fun k => (hVk k).choose := by
    apply Array.ext_getElem?
    intro i
    by_cases hi : i < 26
    · rw [tab_get _ hi]
      exact ((hVk i).choose_spec hi).1
    · rw [Array.getElem?_eq_none (by omega), Array.getElem?_eq_none (by rw [tab_size]; omega)]
  rw [htab] at hcs
  exact ⟨N1, gs1, w1, sl1, t1, q1, fun k => (hVk k).choose, v0, v2, v4, v6, v7, v8, v12, v13, v14, v15, v16, v17, v18, v19, v20, v21, v22, v23, v24, v25, v26, v27, v28, v29, v30, v31, v32, v33, v34, v35, v36, v37, v38, v39, v40, v41, v42, v43, v44, v45, v46, v47, v48, v49, v50, v51, v52, r1, i1, hcs, fun k hk => ((hVk k).choose_spec hk).2, ok1, Q1⟩
end Go.Proofs.Ytbbpbcmpemmgjaa

/-
  A call of chart.Find beside goroutines that only leave: to its first 'go'.
-/
namespace Go.Proofs.Ytbbpbcmpemmgjaa
open Go.RowKit PK Vg Go.Conc Cs
end Go.Proofs.Ytbbpbcmpemmgjaa

/-
  A call of chart.Find beside goroutines that only leave: from its first 'go' to behind the last receive.
-/
namespace Go.Proofs.Ytbbpbcmpemmgjaa
open Go.RowKit PK Vg Go.Conc Cs
end Go.Proofs.Ytbbpbcmpemmgjaa

/-
  A call of chart.Find beside goroutines that only leave: behind the last receive; the whole call.
-/
namespace Go.Proofs.Ytbbpbcmpemmgjaa
open Go.RowKit PK Vg Go.Conc Cs
section
variable {A B : Array Value} {n S0 : Nat} {W w4 w8 : World} {h2 Fd C1 C2 bF bD : Nat}
end
end Go.Proofs.Ytbbpbcmpemmgjaa
