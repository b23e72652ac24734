/-
  Contract of the document's Press (chapter 8).
-/
import Derived.Test.YtpdjfjmfnmocmaeOPr
namespace Go.Proofs.Ytpdjfjmfnmocmae
open Go.RowKit PK Vg

theorem nums_own {W : World} {v : Value} {n : Nat} {f : Nat → Int} (h : NumsAt W v n f) (hn : 1 ≤ n) : ∃ b, v.ownBlock = some b ∧ b < W.heap.size := by
  obtain ⟨a, cap, rfl, _, h3⟩ := h
  obtain ⟨b, o, rfl, hc⟩ := h3 0 hn
  exact ⟨b, rfl, cell_block hc⟩
/-- What is held between two keys. -/
structure PwS (w W : World) (a b c v7 v8 : Value) (M : Om.Ma) (ks : Nat → Int) (d k : Nat) (R : Nat → Value) : Prop where
  mg : MgAt w W a b c (Pm.up M.rf) (Pm.up M.pl)
  nums : NumsAt W v7 M.n fun j => (pst M ks d j : Nat)
  own : W.ownsRow (w.heap.size + 1) 58 29 v8 k (prl (prL M ks) (prE ks) R (fun i => Om.now M (pst M ks (i + 1))) k)
  rows : ∀ i, i < k → NumsAt W (R i) M.n fun j => (pst M ks (i + 1) j : Nat)
  ne : ∀ i, i < k → ∀ q, (R i).ownBlock = some q → v8.ownBlock ≠ some q
  ne7 : ∀ q, v7.ownBlock = some q → v8.ownBlock ≠ some q
section
variable {w W W' : World} {a b c v7 v8 : Value} {M : Om.Ma} {ks : Nat → Int} {d k : Nat} {R : Nat → Value}
theorem PwS.grown (h : PwS w W a b c v7 v8 M ks d k R) {q : Nat} (hg : W.grownBy W' (some q)) (hq : w.heap.size < q) (h7 : v7.ownBlock ≠ some q) (h8 : v8.ownBlock ≠ some q) (hR : ∀ i, i < k → (R i).ownBlock ≠ some q) : PwS w W' a b c v7 v8 M ks d k R :=
  ⟨⟨(hg.block w.heap.size h.mg.lt (by simp; omega)).trans h.mg.row, h.mg.below.grown hg h.mg.below.size (fun p hp => by cases hp; omega)⟩, nums_grown h.nums hg (fun p hp e => h7 (hp.trans e)), h.own.kept hg (.inr h8), fun i hi => nums_grown (h.rows i hi) hg (fun p hp e => hR i hi (hp.trans e)), h.ne, h.ne7⟩
theorem PwS.step (h : PwS w W a b c v7 v8 M ks d k R) (hb : Below W.heap.size W W') : PwS w W' a b c v7 v8 M ks d k R := ⟨h.mg.step hb, h.nums.below hb, own_step h.own hb, fun i hi => (h.rows i hi).below hb, h.ne, h.ne7⟩
theorem PwS.alloc (h : PwS w W a b c v7 v8 M ks d k R) (o : Obj) : PwS w (W.alloc o) a b c v7 v8 M ks d k R := h.step ((Below.refl _ _).alloc (Nat.le_refl _) o)
end
theorem grown_old {W : World} {B : Nat} {T : TypeId} {s n q : Nat} {v : Value} {l : List Value} (h : W.ownsRow B T s v n l) (hq : W.heap.size ≤ q) : v.ownBlock ≠ some q := fun e => by
  have := (World.ownsRow.lt h q e).2
  omega
set_option maxRecDepth 100000 in
set_option maxHeartbeats 4000000 in
theorem rpress_ok (M : Om.Ma) (hM : Om.Ok M) (vm vk : Value) (m : Nat) (hmm : m ≤ 1000000000) (ks : Nat → Int) (w : World) (hm : MacAt w vm (gOf M)) (hk : NumsAt w vk m ks) (HW : Hid (∀ W, Below w.heap.size w W → Calls Try.prog 24 #[vm] W fun e w' => e = .returned (.int .i64 0) ∧ Below W.heap.size W w')) : Calls Try.prog 26 #[vm, vk] w fun e w' => ∃ v, e = .returned (.tuple #[v, .int .i64 0]) ∧ PrsAt w' v m M.n (prL M ks) (prE ks) (fun i => pst M ks (i + 1)) (fun i => Om.now M (pst M ks (i + 1))) ∧ Below w.heap.size w w' := by
  have hn1 := hM.pos
  obtain ⟨i0, hi0, hz0, hz1, hz2⟩ := x_info_parts v_all_prs
  have HST := (show Hid (∀ W va at', Om.In26 M at' → Below w.heap.size w W → NumsAt W va M.n (fun i => (at' i : Nat)) → Calls Try.prog 61 #[vm, va] W fun e w' => ∃ v, e = .returned v ∧ NumsAt w' v M.n (fun i => (Om.step M at' i : Nat)) ∧ Below W.heap.size W w' ∧ ∀ b, v.ownBlock = some b → W.heap.size ≤ b) from fun W va at' h1 h2 h3 => rstep_any M hM vm va at' h1 W (hm.below h2) h3)
  have HNW := (show Hid (∀ W va at', Om.In26 M at' → Below w.heap.size w W → NumsAt W va M.n (fun i => (at' i : Nat)) → Calls Try.prog 62 #[vm, va] W fun e w' => e = .returned (.agg (ints 26 (Pm.up (Om.now M at')))) ∧ Below W.heap.size W w') from fun W va at' h1 h2 h3 => rnow_any M hM vm va at' h1 W (hm.below h2) h3)
  have HIN := (show Hid (∀ k, Om.In26 M (pst M ks k)) from pst_in hM ks)
  obtain ⟨a, b, c, rfl, hwh, hri, hst⟩ := hm
  have h0 := MgAt.new w a b c (Pm.up M.rf) (Pm.up M.pl)
  have HSS := (show Hid (NumsAt w c M.n fun i => (M.st i : Nat)) from hst)
  obtain ⟨ak, ck, rfl, _, hck⟩ := hk
  have HCK := (show Hid _ from hck)
  have hz29 := o_zero v_zero_prs
  clear hwh hri hst hM hck
  go_enter Try.func26, Try.ntmps26
  go_wp2_with (first | refine wpList_load_row rfl 52 _ rfl w.heap.size rfl 52 (mac a b c (Pm.up M.rf) (Pm.up M.pl)) (0, 0) _ h0.row Try.underlying52 rfl (by rw [mac_size]; exact v_info_mac) ?_)
  refine (HW.out _ h0.below).mono ?_
  rintro e W1 ⟨rfl, hb⟩
  have h1 := h0.step hb
  have hc2 := h1.c2
  have hg0 : PwS w W1 a b c c (.slice none 0 0) M ks 0 0 (fun _ => .slice none 0 0) := ⟨h1, HSS.out.below h1.below, World.ownsRow_nil _ _ _ _, fun i hi => by omega, fun i hi => by omega, fun q _ e => by cases e⟩
  clear hb h0 HW h1
  go_wp2_with fail
  clear hc2
  go_loopw [21, 7, 8] (fun i x y W => ∃ (k : Nat) (v7 v8 : Value) (R : Nat → Value), k ≤ m ∧ i = .int .i64 (k : Nat) ∧ v7 = x ∧ v8 = y ∧ PwS w W a b c v7 v8 M ks k k R) (fun i _ _ _ => ((m : Int) - intOf i).toNat)
  case atStart => exact ⟨0, _, _, _, by omega, rfl, rfl, rfl, hg0⟩
  case round =>
    clear hg0
    obtain ⟨k, v7, v8, R, hk, rfl, rfl, rfl, hg⟩ := hrel
    by_cases hlt : k < m
    · obtain ⟨bk, ok, rfl, hc0⟩ := HCK.out k hlt
      have hck := (hg.mg.below.cell (p := ⟨bk, ok + k, none⟩) (cell_block hc0)).trans hc0
      have HLT : Hid (k < m) := hlt
      have HI := (show Hid _ from HIN.out k)
      have HI1 := (show Hid _ from HIN.out (k + 1))
      have hgx := hg.alloc (.cells (prc 0 0 (.slice none 0 0) fun _ => 0) 58)
      have hx := RowAt.new wr 58 (prc 0 0 (.slice none 0 0) fun _ => 0)
      have hqx := hg.mg.lt
      obtain ⟨b7, hb7, hb7l⟩ := nums_own hg.nums hn1
      have HR7 : Hid (v7.ownBlock ≠ some wr.heap.size) := fun e => by rw [hb7] at e; cases e; omega
      have HR8 : Hid (v8.ownBlock ≠ some wr.heap.size) := grown_old hg.own (Nat.le_refl _)
      have HRR : Hid (∀ i, i < k → (R i).ownBlock ≠ some wr.heap.size) := fun i hi e => by
        obtain ⟨b', h', hl⟩ := nums_own (hg.rows i hi) hn1
        rw [h'] at e
        cases e
        omega
      have HPS : Hid (pst M ks (k + 1) = if okK (ks k) then Om.step M (pst M ks k) else pst M ks k) := rfl
      have HL : Hid (prL M ks k = if 0 ≤ ks k ∧ ks k < 26 then ((Om.now M (pst M ks (k + 1)) (ks k).toNat : Nat) : Int) else 0) := rfl
      have HE : Hid (prE ks k = if okK (ks k) then 0 else 3) := rfl
      have HOK : Hid (okK (ks k) = decide (ks k = -1 ∨ (0 ≤ ks k ∧ ks k < 26))) := rfl
      clear hc0 hb7 hb7l b7
      obtain ⟨kk, hkk⟩ : ∃ kk, kk = ks k := ⟨_, rfl⟩
      rw [← hkk] at hck HPS HL HE HOK
      clear hkk
      go_upto_region 10 with fail
      generalize wr.alloc (.cells (prc 0 0 (.slice none 0 0) fun _ => 0) 58) = V at *
      obtain ⟨q, hq⟩ : ∃ q, q = wr.heap.size := ⟨_, rfl⟩
      rw [← hq] at hx hqx HR7 HR8 HRR ⊢
      clear hq hg hck hz29
      by_cases hm1 : kk = -1
      · have HPV : Hid (pst M ks (k + 1) = Om.step M (pst M ks k)) := by rw [Hid, HPS.out, if_pos (by rw [HOK.out]; exact decide_eq_true (.inl hm1))]
        have HLV : Hid (prL M ks k = 0) := by rw [Hid, HL.out, if_neg (by omega)]
        have HEV : Hid (prE ks k = 0) := by rw [Hid, HE.out, if_pos (by rw [HOK.out]; exact decide_eq_true (.inl hm1))]
        have hm2 : (kk == -1) = true := by simp [hm1]
        have hm3 : ¬ 0 ≤ kk := by omega
        clear hm1
        go_wp2_with (first | refine wpList_load_row rfl 52 _ rfl w.heap.size rfl 52 (mac a b c (Pm.up M.rf) (Pm.up M.pl)) (0, 0) _ hgx.mg.row Try.underlying52 rfl (by rw [mac_size]; exact v_info_mac) ?_)
        refine (HST.out _ v7 _ HI.out hgx.mg.below hgx.nums).mono ?_
        rintro e W3 ⟨v, rfl, hnums, hb, hfr⟩
        rw [← HPV.out] at hnums
        obtain ⟨av, cv, hvv, hq1, hq2⟩ := hnums
        subst hvv
        have hnums : NumsAt W3 (.slice av M.n cv) M.n fun j => (pst M ks (k + 1) j : Nat) := ⟨av, cv, rfl, hq1, hq2⟩
        have hst := hgx.step hb
        have hg3 : PwS w W3 a b c (.slice av M.n cv) v8 M ks (k + 1) k R := ⟨hst.mg, hnums, hst.own, hst.rows, hst.ne, fun p hp e => by
          have h1 := hfr p hp
          have h2 := (World.ownsRow.lt hgx.own p e).2
          omega⟩
        have hx3 := hx.below hb hx.lt
        have HV7 : Hid ((Value.slice av M.n cv).ownBlock ≠ some q) := fun e => by
          have h1 := hfr q e
          have h2 := hx.lt
          omega
        clear hb hgx hx hst hnums hfr hq1 hq2
        go_wp2_with (first | refine wpList_load_row rfl 52 _ rfl w.heap.size rfl 52 (mac a b c (Pm.up M.rf) (Pm.up M.pl)) (0, 0) _ hg3.mg.row Try.underlying52 rfl (by rw [mac_size]; exact v_info_mac) ?_)
        refine (HNW.out _ (.slice av M.n cv) _ HI1.out hg3.mg.below hg3.nums).mono ?_
        rintro e W4 ⟨rfl, hb⟩
        have hg4 := hg3.step hb
        have hx4 := hx3.below hb hx3.lt
        clear hb hg3 hx3
        have c2 := hx4.cell (prc_2 _ _ _ _)
        have f2 := hx4.frozen 2
        have hx5 := hx4.set 2 (.slice av M.n cv)
        rw [prc_setR] at hx5
        have hth := there_row hx5 (o := 3) (n := 26) (by rw [prc_size]; decide)
        have hx6 := row_setCells (l := (ints 26 (Pm.up (Om.now M (pst M ks (k + 1))))).toList) (o := 3) hx5
        rw [prc_setN] at hx6
        have hgr : W4.grownBy ((W4.setCell ⟨q, 2, none⟩ (.slice av M.n cv)).setCells q 3 (ints 26 (Pm.up (Om.now M (pst M ks (k + 1))))).toList) (some q) := grown_trans (grown_set W4 q 2 (.slice av M.n cv)) (grown_cells q _ 3 _)
        go_upto_region 14 with (first | refine wpList_store_mid rfl 50 _ _ rfl q 3 (ints 26 (Pm.up (Om.now M (pst M ks (k + 1))))) rfl rfl (by rw [ints_size]; exact hth) (by rw [ints_size]; exact info_perm) (ints_one _ _) ?_)
        have hg6 := hg4.grown hgr hqx HV7.out HR8.out HRR.out
        generalize (W4.setCell ⟨q, 2, none⟩ (.slice av M.n cv)).setCells q 3 (ints 26 (Pm.up (Om.now M (pst M ks (k + 1))))).toList = V6 at *
        clear hg4 hx4 hx5 hth c2 f2 hgr
        go_upto_region 16 with fail
        have hx7 := hx6
        have hg7 := hg6
        clear hx6 hg6
        obtain ⟨V7, hV7⟩ : ∃ V7, V7 = V6 := ⟨_, rfl⟩
        rw [← hV7] at hx7 hg7 ⊢
        clear hV7
        have HLE : Hid (prc (prL M ks k) (prE ks k) (.slice av M.n cv) (Pm.up (Om.now M (pst M ks (k + 1)))) = prc 0 0 (.slice av M.n cv) (Pm.up (Om.now M (pst M ks (k + 1))))) := by rw [Hid, HLV.out, HEV.out]
        rw [← HLE.out] at hx7
        have HON : Hid ((Value.slice av M.n cv).oneCell' = true) := rfl
        have hlq := hx7.lt
        go_wp2_with (first | refine wpList_load_row rfl 58 _ rfl q rfl 58 (prc (prL M ks k) (prE ks k) (.slice av M.n cv) (Pm.up (Om.now M (pst M ks (k + 1))))) (0, 0) _ hx7 Try.underlying58 rfl (by rw [prc_size]; exact v_info_prs) ?_ | refine wpList_build1c rfl 54 58 _ rfl 29 (prc 0 0 (.slice none 0 0) fun _ => 0) (prc (prL M ks k) (prE ks k) (.slice av M.n cv) (Pm.up (Om.now M (pst M ks (k + 1))))) rfl (by decide) (by decide) Try.underlying54 (prc_size _ _ _ _) (prc_size _ _ _ _) v_zs_prs ?_ | (at_builtin; refine wpList_append_own_at _ rfl _ _ 54 rfl (w.heap.size + 1) 58 i0 (.agg (prc 0 0 (.slice none 0 0) fun _ => 0)) 29 248 Try.underlying54 hi0 hz0 hz1 hz2 (prc_size _ _ _ _) (by decide) _ _ _ rfl (World.ownsRow.alloc hg7.own _) ⟨V7.heap.size, 0, none⟩ 1 1 (prc (prL M ks k) (prE ks k) (.slice av M.n cv) (Pm.up (Om.now M (pst M ks (k + 1))))).toList rfl (by rw [Array.length_toList, prc_size]) (fun j u hu => by rw [Addr.add_mid, Nat.zero_add]; exact (RowAt.new V7 _ _).cell (by rw [← Array.getElem?_toList]; exact hu)) (fun u hu => (Array.all_eq_true_iff_forall_mem.1 (prc_one HON.out)) u (by simpa using hu)) (by unfold maxLen; omega) (by omega) (by simp; omega) ?_; intro v5 w5 hown5 hgrow5 _ hat5))
        have hga := hg7.alloc (.cells (prc (prL M ks k) (prE ks k) (.slice av M.n cv) (Pm.up (Om.now M (pst M ks (k + 1))))) 58)
        have HG8 : PwS w w5 a b c (.slice av M.n cv) v5 M ks (k + 1) (k + 1) (fun i => if i = k then (.slice av M.n cv) else R i) := by
          have hz5 : ∀ q', (∃ f : Nat → Int, NumsAt V7 q' M.n f) → (∀ p, q'.ownBlock = some p → v8.ownBlock ≠ some p) → ∀ p, q'.ownBlock = some p → v5.ownBlock ≠ some p := fun q' hq' hne p hp e => by
            obtain ⟨f, hf⟩ := hq'
            obtain ⟨b', h', hl⟩ := nums_own hf hn1
            rcases hat5 with h5 | h5
            · exact hne p hp (h5.symm.trans e)
            · rw [h5] at e
              rw [h'] at hp
              cases hp
              simp at e
              omega
          refine ⟨⟨(hgrow5.block w.heap.size hga.mg.lt (fun e => by have := (World.ownsRow.lt hga.own _ e.symm).1; omega)).trans hga.mg.row, hga.mg.below.grown hgrow5 hga.mg.below.size (fun p hp => by have := (World.ownsRow.lt hga.own p hp).1; omega)⟩, nums_grown hga.nums hgrow5 (fun p hp e => hg7.ne7 p hp e.symm), ?_, fun i hi => ?_, fun i hi p hp => ?_, hz5 _ ⟨_, hg7.nums⟩ hg7.ne7⟩
          · rw [prl_succ, if_pos rfl, prl_congr (R := fun i => if i = k then (.slice av M.n cv) else R i) (R2 := R) (fun i hi => if_neg (by omega))]
            exact hown5
          · show NumsAt w5 (if i = k then (.slice av M.n cv) else R i) M.n _
            by_cases e : i = k
            · rw [if_pos e, e]; exact nums_grown hga.nums hgrow5 (fun p hp e => hg7.ne7 p hp e.symm)
            · rw [if_neg e]; exact nums_grown (hga.rows i (by omega)) hgrow5 (fun p hp e' => hg7.ne i (by omega) p hp e'.symm)
          · have hp' : (if i = k then (.slice av M.n cv) else R i).ownBlock = some p := hp
            by_cases e : i = k
            · rw [if_pos e] at hp'; exact hz5 _ ⟨_, hg7.nums⟩ hg7.ne7 p hp'
            · rw [if_neg e] at hp'; exact hz5 _ ⟨_, hg7.rows i (by omega)⟩ (hg7.ne i (by omega)) p hp'
        clear hga hg7 hown5 hgrow5 hat5 hx7
        go_roundw
        case rel => exact ⟨k + 1, (.slice av M.n cv), v5, _, HLT.out, by go_num, rfl, rfl, HG8⟩
        case measure => have := HLT.out; simp [intOf]; omega
      · have hm2 : (kk == -1) = false := beq_false_of_ne hm1
        by_cases hin : 0 ≤ kk ∧ kk < 26
        · obtain ⟨kn, hkn⟩ : ∃ kn : Nat, kk = kn := ⟨kk.toNat, by omega⟩
          have HPV : Hid (pst M ks (k + 1) = Om.step M (pst M ks k)) := by rw [Hid, HPS.out, if_pos (by rw [HOK.out]; exact decide_eq_true (.inr hin))]
          have HLV : Hid (prL M ks k = Pm.up (Om.now M (pst M ks (k + 1))) kn) := by rw [Hid, HL.out, if_pos hin, hkn]; rfl
          have HEV : Hid (prE ks k = 0) := by rw [Hid, HE.out, if_pos (by rw [HOK.out]; exact decide_eq_true (.inr hin))]
          have hk26 : kn < 26 := by omega
          clear HL HE HOK HPS
          subst hkn
          have hm3 : (0 : Int) ≤ (kn : Int) := by omega
          have hm4 : (kn : Int) < 26 := by omega
          clear hin hm1
          go_wp2_with (first | refine wpList_load_row rfl 52 _ rfl w.heap.size rfl 52 (mac a b c (Pm.up M.rf) (Pm.up M.pl)) (0, 0) _ hgx.mg.row Try.underlying52 rfl (by rw [mac_size]; exact v_info_mac) ?_)
          refine (HST.out _ v7 _ HI.out hgx.mg.below hgx.nums).mono ?_
          rintro e W3 ⟨v, rfl, hnums, hb, hfr⟩
          rw [← HPV.out] at hnums
          obtain ⟨av, cv, hvv, hq1, hq2⟩ := hnums
          subst hvv
          have hnums : NumsAt W3 (.slice av M.n cv) M.n fun j => (pst M ks (k + 1) j : Nat) := ⟨av, cv, rfl, hq1, hq2⟩
          have hst := hgx.step hb
          have hg3 : PwS w W3 a b c (.slice av M.n cv) v8 M ks (k + 1) k R := ⟨hst.mg, hnums, hst.own, hst.rows, hst.ne, fun p hp e => by
            have h1 := hfr p hp
            have h2 := (World.ownsRow.lt hgx.own p e).2
            omega⟩
          have hx3 := hx.below hb hx.lt
          have HV7 : Hid ((Value.slice av M.n cv).ownBlock ≠ some q) := fun e => by
            have h1 := hfr q e
            have h2 := hx.lt
            omega
          clear hb hgx hx hst hnums hfr hq1 hq2
          go_wp2_with (first | refine wpList_load_row rfl 52 _ rfl w.heap.size rfl 52 (mac a b c (Pm.up M.rf) (Pm.up M.pl)) (0, 0) _ hg3.mg.row Try.underlying52 rfl (by rw [mac_size]; exact v_info_mac) ?_)
          refine (HNW.out _ (.slice av M.n cv) _ HI1.out hg3.mg.below hg3.nums).mono ?_
          rintro e W4 ⟨rfl, hb⟩
          have hg4 := hg3.step hb
          have hx4 := hx3.below hb hx3.lt
          clear hb hg3 hx3
          have c2 := hx4.cell (prc_2 _ _ _ _)
          have f2 := hx4.frozen 2
          have hx5 := hx4.set 2 (.slice av M.n cv)
          rw [prc_setR] at hx5
          have hth := there_row hx5 (o := 3) (n := 26) (by rw [prc_size]; decide)
          have hx6 := row_setCells (l := (ints 26 (Pm.up (Om.now M (pst M ks (k + 1))))).toList) (o := 3) hx5
          rw [prc_setN] at hx6
          have hgr : W4.grownBy ((W4.setCell ⟨q, 2, none⟩ (.slice av M.n cv)).setCells q 3 (ints 26 (Pm.up (Om.now M (pst M ks (k + 1))))).toList) (some q) := grown_trans (grown_set W4 q 2 (.slice av M.n cv)) (grown_cells q _ 3 _)
          go_upto_region 14 with (first | refine wpList_store_mid rfl 50 _ _ rfl q 3 (ints 26 (Pm.up (Om.now M (pst M ks (k + 1))))) rfl rfl (by rw [ints_size]; exact hth) (by rw [ints_size]; exact info_perm) (ints_one _ _) ?_)
          have hg6 := hg4.grown hgr hqx HV7.out HR8.out HRR.out
          generalize (W4.setCell ⟨q, 2, none⟩ (.slice av M.n cv)).setCells q 3 (ints 26 (Pm.up (Om.now M (pst M ks (k + 1))))).toList = V6 at *
          clear hg4 hx4 hx5 hth c2 f2 hgr
          have hcn := hx6.cell (prc_now _ _ _ _ hk26)
          have c0 := hx6.cell (prc_0 _ _ _ _)
          have f0 := hx6.frozen 0
          have hx7 := hx6.set 0 (.int .i64 (Pm.up (Om.now M (pst M ks (k + 1))) kn))
          rw [prc_setL] at hx7
          have hg7 := hg6.grown (grown_set V6 q 0 (.int .i64 (Pm.up (Om.now M (pst M ks (k + 1))) kn))) hqx HV7.out HR8.out HRR.out
          go_upto_region 16 with fail
          generalize V6.setCell ⟨q, 0, none⟩ (.int .i64 (Pm.up (Om.now M (pst M ks (k + 1))) kn)) = V7 at *
          clear hg6 hx6 hcn c0 f0
          have HLE : Hid (prc (prL M ks k) (prE ks k) (.slice av M.n cv) (Pm.up (Om.now M (pst M ks (k + 1)))) = prc (Pm.up (Om.now M (pst M ks (k + 1))) kn) 0 (.slice av M.n cv) (Pm.up (Om.now M (pst M ks (k + 1))))) := by rw [Hid, HLV.out, HEV.out]
          rw [← HLE.out] at hx7
          have HON : Hid ((Value.slice av M.n cv).oneCell' = true) := rfl
          have hlq := hx7.lt
          go_wp2_with (first | refine wpList_load_row rfl 58 _ rfl q rfl 58 (prc (prL M ks k) (prE ks k) (.slice av M.n cv) (Pm.up (Om.now M (pst M ks (k + 1))))) (0, 0) _ hx7 Try.underlying58 rfl (by rw [prc_size]; exact v_info_prs) ?_ | refine wpList_build1c rfl 54 58 _ rfl 29 (prc 0 0 (.slice none 0 0) fun _ => 0) (prc (prL M ks k) (prE ks k) (.slice av M.n cv) (Pm.up (Om.now M (pst M ks (k + 1))))) rfl (by decide) (by decide) Try.underlying54 (prc_size _ _ _ _) (prc_size _ _ _ _) v_zs_prs ?_ | (at_builtin; refine wpList_append_own_at _ rfl _ _ 54 rfl (w.heap.size + 1) 58 i0 (.agg (prc 0 0 (.slice none 0 0) fun _ => 0)) 29 248 Try.underlying54 hi0 hz0 hz1 hz2 (prc_size _ _ _ _) (by decide) _ _ _ rfl (World.ownsRow.alloc hg7.own _) ⟨V7.heap.size, 0, none⟩ 1 1 (prc (prL M ks k) (prE ks k) (.slice av M.n cv) (Pm.up (Om.now M (pst M ks (k + 1))))).toList rfl (by rw [Array.length_toList, prc_size]) (fun j u hu => by rw [Addr.add_mid, Nat.zero_add]; exact (RowAt.new V7 _ _).cell (by rw [← Array.getElem?_toList]; exact hu)) (fun u hu => (Array.all_eq_true_iff_forall_mem.1 (prc_one HON.out)) u (by simpa using hu)) (by unfold maxLen; omega) (by omega) (by simp; omega) ?_; intro v5 w5 hown5 hgrow5 _ hat5))
          have hga := hg7.alloc (.cells (prc (prL M ks k) (prE ks k) (.slice av M.n cv) (Pm.up (Om.now M (pst M ks (k + 1))))) 58)
          have HG8 : PwS w w5 a b c (.slice av M.n cv) v5 M ks (k + 1) (k + 1) (fun i => if i = k then (.slice av M.n cv) else R i) := by
            have hz5 : ∀ q', (∃ f : Nat → Int, NumsAt V7 q' M.n f) → (∀ p, q'.ownBlock = some p → v8.ownBlock ≠ some p) → ∀ p, q'.ownBlock = some p → v5.ownBlock ≠ some p := fun q' hq' hne p hp e => by
              obtain ⟨f, hf⟩ := hq'
              obtain ⟨b', h', hl⟩ := nums_own hf hn1
              rcases hat5 with h5 | h5
              · exact hne p hp (h5.symm.trans e)
              · rw [h5] at e
                rw [h'] at hp
                cases hp
                simp at e
                omega
            refine ⟨⟨(hgrow5.block w.heap.size hga.mg.lt (fun e => by have := (World.ownsRow.lt hga.own _ e.symm).1; omega)).trans hga.mg.row, hga.mg.below.grown hgrow5 hga.mg.below.size (fun p hp => by have := (World.ownsRow.lt hga.own p hp).1; omega)⟩, nums_grown hga.nums hgrow5 (fun p hp e => hg7.ne7 p hp e.symm), ?_, fun i hi => ?_, fun i hi p hp => ?_, hz5 _ ⟨_, hg7.nums⟩ hg7.ne7⟩
            · rw [prl_succ, if_pos rfl, prl_congr (R := fun i => if i = k then (.slice av M.n cv) else R i) (R2 := R) (fun i hi => if_neg (by omega))]
              exact hown5
            · show NumsAt w5 (if i = k then (.slice av M.n cv) else R i) M.n _
              by_cases e : i = k
              · rw [if_pos e, e]; exact nums_grown hga.nums hgrow5 (fun p hp e => hg7.ne7 p hp e.symm)
              · rw [if_neg e]; exact nums_grown (hga.rows i (by omega)) hgrow5 (fun p hp e' => hg7.ne i (by omega) p hp e'.symm)
            · have hp' : (if i = k then (.slice av M.n cv) else R i).ownBlock = some p := hp
              by_cases e : i = k
              · rw [if_pos e] at hp'; exact hz5 _ ⟨_, hg7.nums⟩ hg7.ne7 p hp'
              · rw [if_neg e] at hp'; exact hz5 _ ⟨_, hg7.rows i (by omega)⟩ (hg7.ne i (by omega)) p hp'
          clear hga hg7 hown5 hgrow5 hat5 hx7
          go_roundw
          case rel => exact ⟨k + 1, (.slice av M.n cv), v5, _, HLT.out, by go_num, rfl, rfl, HG8⟩
          case measure => have := HLT.out; simp [intOf]; omega
        · have HPV : Hid (pst M ks (k + 1) = pst M ks k) := by rw [Hid, HPS.out, if_neg (by rw [HOK.out]; exact fun h => (of_decide_eq_true h).elim hm1 hin)]
          have HLV : Hid (prL M ks k = 0) := by rw [Hid, HL.out, if_neg hin]
          have HEV : Hid (prE ks k = 3) := by rw [Hid, HE.out, if_neg (by rw [HOK.out]; exact fun h => (of_decide_eq_true h).elim hm1 hin)]
          obtain ⟨av, cv, hvv, hq1, hq2⟩ := hgx.nums
          subst hvv
          clear hq1 hq2
          have HV7 := HR7
          have hgy : PwS w V a b c (.slice av M.n cv) v8 M ks (k + 1) k R := ⟨hgx.mg, by rw [HPV.out]; exact hgx.nums, hgx.own, hgx.rows, hgx.ne, hgx.ne7⟩
          have c1 := hx.cell (prc_1 _ _ _ _)
          have f1 := hx.frozen 1
          have hx3 := hx.set 1 (.int .i64 3)
          rw [prc_setE] at hx3
          have hg3 := hgy.grown (grown_set V q 1 (.int .i64 3)) hqx HV7.out HR8.out HRR.out
          clear hgx hgy hm1
          by_cases h0 : 0 ≤ kk
          · have h1 : ¬ kk < 26 := by omega
            clear hin
            go_upto_region 13 with fail
            generalize V.setCell ⟨q, 1, none⟩ (.int .i64 3) = V3 at *
            clear c1 f1 hx
            go_wp2_with (first | refine wpList_load_row rfl 52 _ rfl w.heap.size rfl 52 (mac a b c (Pm.up M.rf) (Pm.up M.pl)) (0, 0) _ hg3.mg.row Try.underlying52 rfl (by rw [mac_size]; exact v_info_mac) ?_)
            refine (HNW.out _ (.slice av M.n cv) _ HI1.out hg3.mg.below hg3.nums).mono ?_
            rintro e W4 ⟨rfl, hb⟩
            have hg4 := hg3.step hb
            have hx4 := hx3.below hb hx3.lt
            clear hb hg3 hx3
            have c2 := hx4.cell (prc_2 _ _ _ _)
            have f2 := hx4.frozen 2
            have hx5 := hx4.set 2 (.slice av M.n cv)
            rw [prc_setR] at hx5
            have hth := there_row hx5 (o := 3) (n := 26) (by rw [prc_size]; decide)
            have hx6 := row_setCells (l := (ints 26 (Pm.up (Om.now M (pst M ks (k + 1))))).toList) (o := 3) hx5
            rw [prc_setN] at hx6
            have hgr : W4.grownBy ((W4.setCell ⟨q, 2, none⟩ (.slice av M.n cv)).setCells q 3 (ints 26 (Pm.up (Om.now M (pst M ks (k + 1))))).toList) (some q) := grown_trans (grown_set W4 q 2 (.slice av M.n cv)) (grown_cells q _ 3 _)
            go_upto_region 14 with (first | refine wpList_store_mid rfl 50 _ _ rfl q 3 (ints 26 (Pm.up (Om.now M (pst M ks (k + 1))))) rfl rfl (by rw [ints_size]; exact hth) (by rw [ints_size]; exact info_perm) (ints_one _ _) ?_)
            have hg6 := hg4.grown hgr hqx HV7.out HR8.out HRR.out
            generalize (W4.setCell ⟨q, 2, none⟩ (.slice av M.n cv)).setCells q 3 (ints 26 (Pm.up (Om.now M (pst M ks (k + 1))))).toList = V6 at *
            clear hg4 hx4 hx5 hth c2 f2 hgr
            go_upto_region 16 with fail
            have hx7 := hx6
            have hg7 := hg6
            clear hx6 hg6
            obtain ⟨V7, hV7⟩ : ∃ V7, V7 = V6 := ⟨_, rfl⟩
            rw [← hV7] at hx7 hg7 ⊢
            clear hV7
            have HLE : Hid (prc (prL M ks k) (prE ks k) (.slice av M.n cv) (Pm.up (Om.now M (pst M ks (k + 1)))) = prc 0 3 (.slice av M.n cv) (Pm.up (Om.now M (pst M ks (k + 1))))) := by rw [Hid, HLV.out, HEV.out]
            rw [← HLE.out] at hx7
            have HON : Hid ((Value.slice av M.n cv).oneCell' = true) := rfl
            have hlq := hx7.lt
            go_wp2_with (first | refine wpList_load_row rfl 58 _ rfl q rfl 58 (prc (prL M ks k) (prE ks k) (.slice av M.n cv) (Pm.up (Om.now M (pst M ks (k + 1))))) (0, 0) _ hx7 Try.underlying58 rfl (by rw [prc_size]; exact v_info_prs) ?_ | refine wpList_build1c rfl 54 58 _ rfl 29 (prc 0 0 (.slice none 0 0) fun _ => 0) (prc (prL M ks k) (prE ks k) (.slice av M.n cv) (Pm.up (Om.now M (pst M ks (k + 1))))) rfl (by decide) (by decide) Try.underlying54 (prc_size _ _ _ _) (prc_size _ _ _ _) v_zs_prs ?_ | (at_builtin; refine wpList_append_own_at _ rfl _ _ 54 rfl (w.heap.size + 1) 58 i0 (.agg (prc 0 0 (.slice none 0 0) fun _ => 0)) 29 248 Try.underlying54 hi0 hz0 hz1 hz2 (prc_size _ _ _ _) (by decide) _ _ _ rfl (World.ownsRow.alloc hg7.own _) ⟨V7.heap.size, 0, none⟩ 1 1 (prc (prL M ks k) (prE ks k) (.slice av M.n cv) (Pm.up (Om.now M (pst M ks (k + 1))))).toList rfl (by rw [Array.length_toList, prc_size]) (fun j u hu => by rw [Addr.add_mid, Nat.zero_add]; exact (RowAt.new V7 _ _).cell (by rw [← Array.getElem?_toList]; exact hu)) (fun u hu => (Array.all_eq_true_iff_forall_mem.1 (prc_one HON.out)) u (by simpa using hu)) (by unfold maxLen; omega) (by omega) (by simp; omega) ?_; intro v5 w5 hown5 hgrow5 _ hat5))
            have hga := hg7.alloc (.cells (prc (prL M ks k) (prE ks k) (.slice av M.n cv) (Pm.up (Om.now M (pst M ks (k + 1))))) 58)
            have HG8 : PwS w w5 a b c (.slice av M.n cv) v5 M ks (k + 1) (k + 1) (fun i => if i = k then (.slice av M.n cv) else R i) := by
              have hz5 : ∀ q', (∃ f : Nat → Int, NumsAt V7 q' M.n f) → (∀ p, q'.ownBlock = some p → v8.ownBlock ≠ some p) → ∀ p, q'.ownBlock = some p → v5.ownBlock ≠ some p := fun q' hq' hne p hp e => by
                obtain ⟨f, hf⟩ := hq'
                obtain ⟨b', h', hl⟩ := nums_own hf hn1
                rcases hat5 with h5 | h5
                · exact hne p hp (h5.symm.trans e)
                · rw [h5] at e
                  rw [h'] at hp
                  cases hp
                  simp at e
                  omega
              refine ⟨⟨(hgrow5.block w.heap.size hga.mg.lt (fun e => by have := (World.ownsRow.lt hga.own _ e.symm).1; omega)).trans hga.mg.row, hga.mg.below.grown hgrow5 hga.mg.below.size (fun p hp => by have := (World.ownsRow.lt hga.own p hp).1; omega)⟩, nums_grown hga.nums hgrow5 (fun p hp e => hg7.ne7 p hp e.symm), ?_, fun i hi => ?_, fun i hi p hp => ?_, hz5 _ ⟨_, hg7.nums⟩ hg7.ne7⟩
              · rw [prl_succ, if_pos rfl, prl_congr (R := fun i => if i = k then (.slice av M.n cv) else R i) (R2 := R) (fun i hi => if_neg (by omega))]
                exact hown5
              · show NumsAt w5 (if i = k then (.slice av M.n cv) else R i) M.n _
                by_cases e : i = k
                · rw [if_pos e, e]; exact nums_grown hga.nums hgrow5 (fun p hp e => hg7.ne7 p hp e.symm)
                · rw [if_neg e]; exact nums_grown (hga.rows i (by omega)) hgrow5 (fun p hp e' => hg7.ne i (by omega) p hp e'.symm)
              · have hp' : (if i = k then (.slice av M.n cv) else R i).ownBlock = some p := hp
                by_cases e : i = k
                · rw [if_pos e] at hp'; exact hz5 _ ⟨_, hg7.nums⟩ hg7.ne7 p hp'
                · rw [if_neg e] at hp'; exact hz5 _ ⟨_, hg7.rows i (by omega)⟩ (hg7.ne i (by omega)) p hp'
            clear hga hg7 hown5 hgrow5 hat5 hx7
            go_roundw
            case rel => exact ⟨k + 1, (.slice av M.n cv), v5, _, HLT.out, by go_num, rfl, rfl, HG8⟩
            case measure => have := HLT.out; simp [intOf]; omega
          · clear hin
            go_upto_region 13 with fail
            generalize V.setCell ⟨q, 1, none⟩ (.int .i64 3) = V3 at *
            clear c1 f1 hx
            go_wp2_with (first | refine wpList_load_row rfl 52 _ rfl w.heap.size rfl 52 (mac a b c (Pm.up M.rf) (Pm.up M.pl)) (0, 0) _ hg3.mg.row Try.underlying52 rfl (by rw [mac_size]; exact v_info_mac) ?_)
            refine (HNW.out _ (.slice av M.n cv) _ HI1.out hg3.mg.below hg3.nums).mono ?_
            rintro e W4 ⟨rfl, hb⟩
            have hg4 := hg3.step hb
            have hx4 := hx3.below hb hx3.lt
            clear hb hg3 hx3
            have c2 := hx4.cell (prc_2 _ _ _ _)
            have f2 := hx4.frozen 2
            have hx5 := hx4.set 2 (.slice av M.n cv)
            rw [prc_setR] at hx5
            have hth := there_row hx5 (o := 3) (n := 26) (by rw [prc_size]; decide)
            have hx6 := row_setCells (l := (ints 26 (Pm.up (Om.now M (pst M ks (k + 1))))).toList) (o := 3) hx5
            rw [prc_setN] at hx6
            have hgr : W4.grownBy ((W4.setCell ⟨q, 2, none⟩ (.slice av M.n cv)).setCells q 3 (ints 26 (Pm.up (Om.now M (pst M ks (k + 1))))).toList) (some q) := grown_trans (grown_set W4 q 2 (.slice av M.n cv)) (grown_cells q _ 3 _)
            go_upto_region 14 with (first | refine wpList_store_mid rfl 50 _ _ rfl q 3 (ints 26 (Pm.up (Om.now M (pst M ks (k + 1))))) rfl rfl (by rw [ints_size]; exact hth) (by rw [ints_size]; exact info_perm) (ints_one _ _) ?_)
            have hg6 := hg4.grown hgr hqx HV7.out HR8.out HRR.out
            generalize (W4.setCell ⟨q, 2, none⟩ (.slice av M.n cv)).setCells q 3 (ints 26 (Pm.up (Om.now M (pst M ks (k + 1))))).toList = V6 at *
            clear hg4 hx4 hx5 hth c2 f2 hgr
            go_upto_region 16 with fail
            have hx7 := hx6
            have hg7 := hg6
            clear hx6 hg6
            obtain ⟨V7, hV7⟩ : ∃ V7, V7 = V6 := ⟨_, rfl⟩
            rw [← hV7] at hx7 hg7 ⊢
            clear hV7
            have HLE : Hid (prc (prL M ks k) (prE ks k) (.slice av M.n cv) (Pm.up (Om.now M (pst M ks (k + 1)))) = prc 0 3 (.slice av M.n cv) (Pm.up (Om.now M (pst M ks (k + 1))))) := by rw [Hid, HLV.out, HEV.out]
            rw [← HLE.out] at hx7
            have HON : Hid ((Value.slice av M.n cv).oneCell' = true) := rfl
            have hlq := hx7.lt
            go_wp2_with (first | refine wpList_load_row rfl 58 _ rfl q rfl 58 (prc (prL M ks k) (prE ks k) (.slice av M.n cv) (Pm.up (Om.now M (pst M ks (k + 1))))) (0, 0) _ hx7 Try.underlying58 rfl (by rw [prc_size]; exact v_info_prs) ?_ | refine wpList_build1c rfl 54 58 _ rfl 29 (prc 0 0 (.slice none 0 0) fun _ => 0) (prc (prL M ks k) (prE ks k) (.slice av M.n cv) (Pm.up (Om.now M (pst M ks (k + 1))))) rfl (by decide) (by decide) Try.underlying54 (prc_size _ _ _ _) (prc_size _ _ _ _) v_zs_prs ?_ | (at_builtin; refine wpList_append_own_at _ rfl _ _ 54 rfl (w.heap.size + 1) 58 i0 (.agg (prc 0 0 (.slice none 0 0) fun _ => 0)) 29 248 Try.underlying54 hi0 hz0 hz1 hz2 (prc_size _ _ _ _) (by decide) _ _ _ rfl (World.ownsRow.alloc hg7.own _) ⟨V7.heap.size, 0, none⟩ 1 1 (prc (prL M ks k) (prE ks k) (.slice av M.n cv) (Pm.up (Om.now M (pst M ks (k + 1))))).toList rfl (by rw [Array.length_toList, prc_size]) (fun j u hu => by rw [Addr.add_mid, Nat.zero_add]; exact (RowAt.new V7 _ _).cell (by rw [← Array.getElem?_toList]; exact hu)) (fun u hu => (Array.all_eq_true_iff_forall_mem.1 (prc_one HON.out)) u (by simpa using hu)) (by unfold maxLen; omega) (by omega) (by simp; omega) ?_; intro v5 w5 hown5 hgrow5 _ hat5))
            have hga := hg7.alloc (.cells (prc (prL M ks k) (prE ks k) (.slice av M.n cv) (Pm.up (Om.now M (pst M ks (k + 1))))) 58)
            have HG8 : PwS w w5 a b c (.slice av M.n cv) v5 M ks (k + 1) (k + 1) (fun i => if i = k then (.slice av M.n cv) else R i) := by
              have hz5 : ∀ q', (∃ f : Nat → Int, NumsAt V7 q' M.n f) → (∀ p, q'.ownBlock = some p → v8.ownBlock ≠ some p) → ∀ p, q'.ownBlock = some p → v5.ownBlock ≠ some p := fun q' hq' hne p hp e => by
                obtain ⟨f, hf⟩ := hq'
                obtain ⟨b', h', hl⟩ := nums_own hf hn1
                rcases hat5 with h5 | h5
                · exact hne p hp (h5.symm.trans e)
                · rw [h5] at e
                  rw [h'] at hp
                  cases hp
                  simp at e
                  omega
              refine ⟨⟨(hgrow5.block w.heap.size hga.mg.lt (fun e => by have := (World.ownsRow.lt hga.own _ e.symm).1; omega)).trans hga.mg.row, hga.mg.below.grown hgrow5 hga.mg.below.size (fun p hp => by have := (World.ownsRow.lt hga.own p hp).1; omega)⟩, nums_grown hga.nums hgrow5 (fun p hp e => hg7.ne7 p hp e.symm), ?_, fun i hi => ?_, fun i hi p hp => ?_, hz5 _ ⟨_, hg7.nums⟩ hg7.ne7⟩
              · rw [prl_succ, if_pos rfl, prl_congr (R := fun i => if i = k then (.slice av M.n cv) else R i) (R2 := R) (fun i hi => if_neg (by omega))]
                exact hown5
              · show NumsAt w5 (if i = k then (.slice av M.n cv) else R i) M.n _
                by_cases e : i = k
                · rw [if_pos e, e]; exact nums_grown hga.nums hgrow5 (fun p hp e => hg7.ne7 p hp e.symm)
                · rw [if_neg e]; exact nums_grown (hga.rows i (by omega)) hgrow5 (fun p hp e' => hg7.ne i (by omega) p hp e'.symm)
              · have hp' : (if i = k then (.slice av M.n cv) else R i).ownBlock = some p := hp
                by_cases e : i = k
                · rw [if_pos e] at hp'; exact hz5 _ ⟨_, hg7.nums⟩ hg7.ne7 p hp'
                · rw [if_neg e] at hp'; exact hz5 _ ⟨_, hg7.rows i (by omega)⟩ (hg7.ne i (by omega)) p hp'
            clear hga hg7 hown5 hgrow5 hat5 hx7
            go_roundw
            case rel => exact ⟨k + 1, (.slice av M.n cv), v5, _, HLT.out, by go_num, rfl, rfl, HG8⟩
            case measure => have := HLT.out; simp [intOf]; omega
    · obtain rfl : k = m := by omega
      have hnl : ¬ (k : Int) < (k : Int) := by omega
      have HQ := (show Hid _ from own_prs hg.own hg.rows)
      have hbe := hg.mg.below
      clear hg
      go_wp2
      go_ret2
      exact ⟨_, rfl, HQ.out, hbe⟩
end Go.Proofs.Ytpdjfjmfnmocmae
