/-
  Contract of plain.Press.
-/
import Derived.Test.YtibkcgjofcfoaaaRoNe
import Derived.Test.YtibkcgjofcfoaaaJn9
import Derived.Test.YtibkcgjofcfoaaaJn7
namespace Go.Proofs.Ytibkcgjofcfoaaa
open Go.RowKit PK Vg

/-- What is held between two keys. -/
structure PpS (w W : World) (a b c : Value) (rf pl : Nat → Int) (q : Nat) (v8 : Value) (M : Om.Ma) (ks : Nat → Int) (d k : Nat) (R : Nat → Value) : Prop where
  mg : MgAt w W a b c rf pl
  rot : RotAt W q M (pst M ks d)
  q1 : w.heap.size < q
  own : W.ownsRow (q + 1) 38 29 v8 k (prl (prL M ks) (prE ks) R (fun i => Om.now M (pst M ks (i + 1))) k)
  rows : ∀ i, i < k → NumsAt W (R i) M.n fun j => (pst M ks (i + 1) j : Nat)
  ne : ∀ i, i < k → ∀ p, (R i).ownBlock = some p → v8.ownBlock ≠ some p ∧ q < p
section
variable {w W W' : World} {a b c v8 : Value} {rf pl : Nat → Int} {q : Nat} {M : Om.Ma} {ks : Nat → Int} {d d2 k : Nat} {R : Nat → Value}
theorem PpS.step (h : PpS w W a b c rf pl q v8 M ks d k R) (hb : Below W.heap.size W W') : PpS w W' a b c rf pl q v8 M ks d k R := ⟨h.mg.step hb, h.rot.below hb, h.q1, own_step h.own hb, fun i hi => (h.rows i hi).below hb, h.ne⟩
theorem PpS.alloc (h : PpS w W a b c rf pl q v8 M ks d k R) (o : Obj) : PpS w (W.alloc o) a b c rf pl q v8 M ks d k R := h.step ((Below.refl _ _).alloc (Nat.le_refl _) o)
theorem PpS.v8ne (h : PpS w W a b c rf pl q v8 M ks d k R) : v8.ownBlock ≠ some q := fun e => by have := (World.ownsRow.lt h.own q e).1; omega
theorem PpS.turned (h : PpS w W a b c rf pl q v8 M ks d k R) (hr : RotAt W' q M (pst M ks d2)) (hg : W.grownBy W' (some q)) : PpS w W' a b c rf pl q v8 M ks d2 k R := by
  have hq := h.q1
  exact ⟨⟨(hg.block w.heap.size h.mg.lt (by simp; omega)).trans h.mg.row, h.mg.below.grown hg h.mg.below.size (fun p hp => by cases hp; omega)⟩, hr, h.q1, h.own.kept hg (.inr h.v8ne), fun i hi => nums_grown (h.rows i hi) hg (fun p hp e => by have := (h.ne i hi p hp).2; cases e; omega), h.ne⟩
theorem PpS.grown (h : PpS w W a b c rf pl q v8 M ks d k R) {p : Nat} (hg : W.grownBy W' (some p)) (hp : q < p) (h8 : v8.ownBlock ≠ some p) (hR : ∀ i, i < k → (R i).ownBlock ≠ some p) : PpS w W' a b c rf pl q v8 M ks d k R := by
  have hq := h.q1
  exact ⟨⟨(hg.block w.heap.size h.mg.lt (by simp; omega)).trans h.mg.row, h.mg.below.grown hg h.mg.below.size (fun p hp => by cases hp; omega)⟩, ⟨(hg.block q h.rot.row.lt (by simp; omega)).trans h.rot.row, h.rot.ok, h.rot.ins⟩, h.q1, h.own.kept hg (.inr h8), fun i hi => nums_grown (h.rows i hi) hg (fun p hp e => hR i hi (hp.trans e)), h.ne⟩
end
theorem nums_of_row {W : World} {g n : Nat} {f : Nat → Int} (hn : n ≤ maxLen) (h : RowAt W g 3 (ints n f)) : NumsAt W (.slice (some ⟨g, 0, none⟩) n n) n f := ⟨_, n, rfl, hn, fun c hc => ⟨g, 0, rfl, by rw [Nat.zero_add]; exact h.cell (ints_get f hc)⟩⟩
theorem isN_in {k : Int} : isN k = decide (0 ≤ k ∧ k < 26) := by unfold isN; congr 1; rw [eq_iff_iff]; omega
theorem press_bad (a b c vk : Value) (rf pl : Nat → Int) (E : Int) (hE : (E != 0) = true) (w : World) (HW : Hid (∀ W, Below w.heap.size w W → Calls Try.prog 24 #[.agg (mac a b c rf pl)] W fun e w' => e = .returned (.tuple #[.pointer none, .int .i64 E]) ∧ Below W.heap.size W w')) : Calls Try.prog 9 #[.agg (mac a b c rf pl), vk] w fun e w' => e = .returned (.tuple #[.slice none 0 0, .int .i64 E]) ∧ Below w.heap.size w w' := by
  have h0 := MgAt.new w a b c rf pl
  go_enter Try.func9, Try.ntmps9
  go_wp2_with (first | refine wpList_load_row rfl 27 _ rfl w.heap.size rfl 27 (mac a b c rf pl) (0, 0) _ h0.row Try.underlying27 rfl (by rw [mac_size]; exact v_info_mac) ?_)
  refine (HW.out _ h0.below).mono ?_
  rintro e W1 ⟨rfl, hb⟩
  have hbe := (h0.step hb).below
  clear hb h0 HW
  go_wp2
  go_ret2
  exact ⟨rfl, hbe⟩
set_option maxRecDepth 100000 in
set_option maxHeartbeats 4000000 in
theorem press_ok (M : Om.Ma) (hM : Om.Ok M) (a b c vk : Value) (rf pl : Nat → Int) (m : Nat) (hmm : m ≤ 1000000000) (ks : Nat → Int) (w : World) (hk : NumsAt w vk m ks) (HW : Hid (∀ W, Below w.heap.size w W → Calls Try.prog 24 #[.agg (mac a b c rf pl)] W fun e w' => ∃ q, e = .returned (.tuple #[.pointer (some ⟨q, 0, none⟩), .int .i64 0]) ∧ W.heap.size ≤ q ∧ RotAt w' q M M.st ∧ Below W.heap.size W w')) : Calls Try.prog 9 #[.agg (mac a b c rf pl), vk] w fun e w' => ∃ v, e = .returned (.tuple #[v, .int .i64 0]) ∧ PrsAt w' v m M.n (prL M ks) (prE ks) (fun i => pst M ks (i + 1)) (fun i => Om.now M (pst M ks (i + 1))) ∧ Below w.heap.size w w' := by
  have hn1 := hM.pos
  have hn4 := hM.most
  obtain ⟨i0, hi0, hz0, hz1, hz2⟩ := x_info_parts v_all_prs
  have h0 := MgAt.new w a b c rf pl
  obtain ⟨ak, ck, rfl, _, hck⟩ := hk
  have HCK := (show Hid (∀ c, c < m → ∃ b o, ak = some ⟨b, o, none⟩ ∧ w.cell? ⟨b, o + c, none⟩ = some (.int .i64 (ks c))) from hck)
  have hz29 := o_zero v_zero_prs
  clear hM hck
  go_enter Try.func9, Try.ntmps9
  go_wp2_with (first | refine wpList_load_row rfl 27 _ rfl w.heap.size rfl 27 (mac a b c rf pl) (0, 0) _ h0.row Try.underlying27 rfl (by rw [mac_size]; exact v_info_mac) ?_)
  refine (HW.out _ h0.below).mono ?_
  rintro e W1 ⟨q, rfl, hq, hrot, hb⟩
  have h1 := h0.step hb
  have hq1 : w.heap.size < q := by have := h0.lt; omega
  have hg0 : PpS w W1 a b c rf pl q (.slice none 0 0) M ks 0 0 (fun _ => .slice none 0 0) := ⟨h1, hrot, hq1, World.ownsRow_nil _ _ _ _, fun i hi => by omega, fun i hi => by omega⟩
  clear hb h0 HW h1 hq hrot hq1
  go_wp2_with fail
  go_loopw [26, 8] (fun i y W => ∃ (k : Nat) (v8 : Value) (R : Nat → Value), k ≤ m ∧ i = .int .i64 (k : Nat) ∧ v8 = y ∧ PpS w W a b c rf pl q v8 M ks k k R) (fun i _ _ => ((m : Int) - intOf i).toNat)
  case atStart => exact ⟨0, _, _, by omega, rfl, rfl, hg0⟩
  case round =>
    clear hg0
    obtain ⟨k, v8, R, hk, rfl, rfl, hg⟩ := hrel
    by_cases hlt : k < m
    · obtain ⟨bk, ok, rfl, hc0⟩ := HCK.out k hlt
      have hck := (hg.mg.below.cell (p := ⟨bk, ok + k, none⟩) (cell_block hc0)).trans hc0
      have HLT : Hid (k < m) := hlt
      have hgx := hg.alloc (.cells (prc 0 0 (.slice none 0 0) fun _ => 0) 38)
      have hx := RowAt.new wr 38 (prc 0 0 (.slice none 0 0) fun _ => 0)
      have hqx := hg.rot.row.lt
      have HR8 : Hid (v8.ownBlock ≠ some wr.heap.size) := grown_old hg.own (Nat.le_refl _)
      have HRR : Hid (∀ i, i < k → (R i).ownBlock ≠ some wr.heap.size) := fun i hi e => by
        obtain ⟨b', h', hl⟩ := nums_own (hg.rows i hi) hn1
        rw [h'] at e
        cases e
        omega
      have HPS : Hid (pst M ks (k + 1) = if okK (ks k) then Om.step M (pst M ks k) else pst M ks k) := rfl
      have HL : Hid (prL M ks k = if 0 ≤ ks k ∧ ks k < 26 then ((Om.now M (pst M ks (k + 1)) (ks k).toNat : Nat) : Int) else 0) := rfl
      have HE : Hid (prE ks k = if okK (ks k) then 0 else 3) := rfl
      have HOK : Hid (okK (ks k) = decide (ks k = -1 ∨ (0 ≤ ks k ∧ ks k < 26))) := rfl
      clear hc0
      obtain ⟨kk, hkk⟩ : ∃ kk, kk = ks k := ⟨_, rfl⟩
      rw [← hkk] at hck HPS HL HE HOK
      clear hkk
      go_upto_region 9 with fail
      generalize wr.alloc (.cells (prc 0 0 (.slice none 0 0) fun _ => 0) 38) = V at *
      obtain ⟨px, hpx⟩ : ∃ p, p = wr.heap.size := ⟨_, rfl⟩
      rw [← hpx] at hx hqx HR8 HRR ⊢
      clear hpx hg hck hz29
      by_cases hm1 : kk = -1
      · have HPV : Hid (pst M ks (k + 1) = Om.step M (pst M ks k)) := by rw [Hid, HPS.out, if_pos (by rw [HOK.out]; exact decide_eq_true (.inl hm1))]
        have HLV : Hid (prL M ks k = 0) := by rw [Hid, HL.out, if_neg (by omega)]
        have HEV : Hid (prE ks k = 0) := by rw [Hid, HE.out, if_pos (by rw [HOK.out]; exact decide_eq_true (.inl hm1))]
        have hm2 : (kk == -1) = true := by simp [hm1]
        clear hm1
        go_wp2_with fail
        refine (step_any q M _ _ hgx.rot).mono ?_
        rintro e W3 ⟨rfl, hr, hgr0⟩
        rw [← HPV.out] at hr
        have hg3 := hgx.turned hr hgr0
        have hx3 : RowAt W3 px 38 (prc (prL M ks k) (prE ks k) (.slice none 0 0) fun _ => 0) := by
          rw [HLV.out, HEV.out]
          exact (hgr0.block px hx.lt (by simp; omega)).trans hx
        clear hr hgr0 hgx hx
        go_wp2_with fail
        have hxl3 := hx3.lt
        refine (window_any q M _ _ hg3.rot).mono ?_
        rintro e W4 ⟨rfl, hrw, hb⟩
        have hg4 := hg3.step hb
        have hx4 := hx3.below hb hx3.lt
        have hbx : px ≠ W3.heap.size := by omega
        have hbq : q < W3.heap.size := hg3.rot.row.lt
        have HB8 : Hid (v8.ownBlock ≠ some W3.heap.size) := grown_old hg3.own (Nat.le_refl _)
        obtain ⟨bw, hbw⟩ : ∃ p, p = W3.heap.size := ⟨_, rfl⟩
        rw [← hbw] at hrw hbx hbq HB8 ⊢
        clear hbw hb hg3 hx3 hxl3
        go_wp2_with fail
        refine (now_any q M _ _ hg4.rot).mono ?_
        rintro e W5 ⟨rfl, hb⟩
        have hg5 := hg4.step hb
        have hx5 := hx4.below hb hx4.lt
        have hrw5 := hrw.below hb hrw.lt
        clear hb hg4 hx4 hrw
        have c2 := hx5.cell (prc_2 _ _ _ _)
        have f2 := hx5.frozen 2
        have hx6 := hx5.set 2 (Value.slice (some ⟨bw, 0, none⟩) M.n M.n)
        rw [prc_setR] at hx6
        have hth := there_row hx6 (o := 3) (n := 26) (by rw [prc_size]; decide)
        have hx7 := row_setCells (l := (ints 26 (Pm.up (Om.now M (pst M ks (k + 1))))).toList) (o := 3) hx6
        rw [prc_setN] at hx7
        have hgr : W5.grownBy ((W5.setCell ⟨px, 2, none⟩ (Value.slice (some ⟨bw, 0, none⟩) M.n M.n)).setCells px 3 (ints 26 (Pm.up (Om.now M (pst M ks (k + 1))))).toList) (some px) := grown_trans (grown_set W5 px 2 (Value.slice (some ⟨bw, 0, none⟩) M.n M.n)) (grown_cells px _ 3 _)
        go_upto_region 13 with (first | refine wpList_store_mid rfl 25 _ _ rfl px 3 (ints 26 (Pm.up (Om.now M (pst M ks (k + 1))))) rfl rfl (by rw [ints_size]; exact hth) (by rw [ints_size]; exact info_perm) (ints_one _ _) ?_)
        have hg7 := hg5.grown hgr hqx HR8.out HRR.out
        have hnw := nums_grown (nums_of_row (by unfold maxLen; omega) hrw5) hgr (fun p hp e => by cases e; cases hp; exact hbx rfl)
        generalize (W5.setCell ⟨px, 2, none⟩ (Value.slice (some ⟨bw, 0, none⟩) M.n M.n)).setCells px 3 (ints 26 (Pm.up (Om.now M (pst M ks (k + 1))))).toList = V7 at *
        clear hg5 hx5 hx6 hth c2 f2 hgr hrw5
        have HON : Hid ((Value.slice (some ⟨bw, 0, none⟩) M.n M.n).oneCell' = true) := rfl
        have hlq := hx7.lt
        have hlq2 := hg7.rot.row.lt
        go_wp2_with (first | refine wpList_load_row rfl 38 _ rfl px rfl 38 (prc (prL M ks k) (prE ks k) (Value.slice (some ⟨bw, 0, none⟩) M.n M.n) (Pm.up (Om.now M (pst M ks (k + 1))))) (0, 0) _ hx7 Try.underlying38 rfl (by rw [prc_size]; exact v_info_prs) ?_ | refine wpList_build1c rfl 34 38 _ rfl 29 (prc 0 0 (.slice none 0 0) fun _ => 0) (prc (prL M ks k) (prE ks k) (Value.slice (some ⟨bw, 0, none⟩) M.n M.n) (Pm.up (Om.now M (pst M ks (k + 1))))) rfl (by decide) (by decide) Try.underlying34 (prc_size _ _ _ _) (prc_size _ _ _ _) v_zs_prs ?_ | (at_builtin; refine wpList_append_own_at _ rfl _ _ 34 rfl (q + 1) 38 i0 (.agg (prc 0 0 (.slice none 0 0) fun _ => 0)) 29 248 Try.underlying34 hi0 hz0 hz1 hz2 (prc_size _ _ _ _) (by decide) _ _ _ rfl (World.ownsRow.alloc hg7.own _) ⟨V7.heap.size, 0, none⟩ 1 1 (prc (prL M ks k) (prE ks k) (Value.slice (some ⟨bw, 0, none⟩) M.n M.n) (Pm.up (Om.now M (pst M ks (k + 1))))).toList rfl (by rw [Array.length_toList, prc_size]) (fun j u hu => by rw [Addr.add_mid, Nat.zero_add]; exact (RowAt.new V7 _ _).cell (by rw [← Array.getElem?_toList]; exact hu)) (fun u hu => (Array.all_eq_true_iff_forall_mem.1 (prc_one HON.out)) u (by simpa using hu)) (by unfold maxLen; omega) (by omega) (by simp; omega) ?_; intro v5 w5 hown5 hgrow5 _ hat5))
        have hga := hg7.alloc (.cells (prc (prL M ks k) (prE ks k) (Value.slice (some ⟨bw, 0, none⟩) M.n M.n) (Pm.up (Om.now M (pst M ks (k + 1))))) 38)
        have hna := hnw.alloc (.cells (prc (prL M ks k) (prE ks k) (Value.slice (some ⟨bw, 0, none⟩) M.n M.n) (Pm.up (Om.now M (pst M ks (k + 1))))) 38)
        have HG8 : PpS w w5 a b c rf pl q v5 M ks (k + 1) (k + 1) (fun i => if i = k then (Value.slice (some ⟨bw, 0, none⟩) M.n M.n) else R i) := by
          have hq' := hga.q1
          have hz5 : ∀ q' : Value, (∃ f : Nat → Int, NumsAt V7 q' M.n f) → (∀ p, q'.ownBlock = some p → v8.ownBlock ≠ some p) → ∀ p, q'.ownBlock = some p → v5.ownBlock ≠ some p := fun q' hq' hne p hp e => by
            obtain ⟨f, hf⟩ := hq'
            obtain ⟨b', h', hl⟩ := nums_own hf hn1
            rcases hat5 with h5 | h5
            · exact hne p hp (h5.symm.trans e)
            · rw [h5] at e
              rw [h'] at hp
              cases hp
              simp at e
              omega
          have hne7 : ∀ p, (Value.slice (some ⟨bw, 0, none⟩) M.n M.n).ownBlock = some p → v8.ownBlock ≠ some p := fun p hp e => by cases hp; exact HB8.out e
          refine ⟨⟨(hgrow5.block w.heap.size hga.mg.lt (fun e => by have := (World.ownsRow.lt hga.own _ e.symm).1; omega)).trans hga.mg.row, hga.mg.below.grown hgrow5 hga.mg.below.size (fun p hp => by have := (World.ownsRow.lt hga.own p hp).1; omega)⟩, ⟨(hgrow5.block q hga.rot.row.lt (fun e => hga.v8ne e.symm)).trans hga.rot.row, hga.rot.ok, hga.rot.ins⟩, hga.q1, ?_, fun i hi => ?_, fun i hi p hp => ?_⟩
          · rw [prl_succ, if_pos rfl, prl_congr (R := fun i => if i = k then (Value.slice (some ⟨bw, 0, none⟩) M.n M.n) else R i) (R2 := R) (fun i hi => if_neg (by omega))]
            exact hown5
          · show NumsAt w5 (if i = k then (Value.slice (some ⟨bw, 0, none⟩) M.n M.n) else R i) M.n _
            by_cases e : i = k
            · rw [if_pos e, e]; exact nums_grown hna hgrow5 (fun p hp e => hne7 p hp e.symm)
            · rw [if_neg e]; exact nums_grown (hga.rows i (by omega)) hgrow5 (fun p hp e' => (hg7.ne i (by omega) p hp).1 e'.symm)
          · have hp' : (if i = k then (Value.slice (some ⟨bw, 0, none⟩) M.n M.n) else R i).ownBlock = some p := hp
            by_cases e : i = k
            · rw [if_pos e] at hp'; exact ⟨hz5 _ ⟨_, hnw⟩ hne7 p hp', by cases hp'; exact hbq⟩
            · rw [if_neg e] at hp'; exact ⟨hz5 _ ⟨_, hg7.rows i (by omega)⟩ (fun p hp => (hg7.ne i (by omega) p hp).1) p hp', (hg7.ne i (by omega) p hp').2⟩
        clear hga hna hg7 hown5 hgrow5 hat5 hx7 hnw
        go_roundw
        case rel => exact ⟨k + 1, v5, _, HLT.out, by go_num, rfl, HG8⟩
        case measure => have := HLT.out; simp [intOf]; omega
      · have hm2 : (kk == -1) = false := beq_false_of_ne hm1
        have hok : okK kk = isN kk := by rw [HOK.out, isN_in]; exact decide_eq_decide.2 ⟨fun h => h.resolve_left hm1, .inr⟩
        have HPV : Hid (pst M ks (k + 1) = if isN kk then Om.step M (pst M ks k) else pst M ks k) := by rw [Hid, HPS.out, hok]
        have HEV : Hid (prE ks k = if isN kk then 0 else 3) := by rw [Hid, HE.out, hok]
        have HLV : Hid (prL M ks k = if isN kk then ((Om.now M (Om.step M (pst M ks k)) kk.toNat : Nat) : Int) else 0) := by
          rw [Hid, HL.out]
          by_cases hi : 0 ≤ kk ∧ kk < 26
          · have hi2 : isN kk = true := by rw [isN_in]; exact decide_eq_true hi
            rw [if_pos hi, if_pos hi2, HPV.out, if_pos hi2]
          · have hi2 : ¬ isN kk = true := by rw [isN_in]; simpa using hi
            rw [if_neg hi, if_neg hi2]
        clear hm1 hok
        go_wp2_with fail
        refine (press_any q M _ kk _ hgx.rot).mono ?_
        rintro e W2 ⟨rfl, hr, hgr0⟩
        rw [← HPV.out] at hr
        rw [← HLV.out, ← HEV.out]
        have hg2 := hgx.turned hr hgr0
        have hx2 : RowAt W2 px 38 (prc 0 0 (.slice none 0 0) fun _ => 0) := (hgr0.block px hx.lt (by simp; omega)).trans hx
        clear hr hgr0 hgx hx
        have c0 := hx2.cell (prc_0 _ _ _ _)
        have f0 := hx2.frozen 0
        have hx2a := hx2.set 0 (.int .i64 (prL M ks k))
        rw [prc_setL] at hx2a
        have c1 := hx2a.cell (prc_1 _ _ _ _)
        have f1 := hx2a.frozen 1
        have hx3 := hx2a.set 1 (.int .i64 (prE ks k))
        rw [prc_setE] at hx3
        have hg3 := hg2.grown (grown_trans (grown_set W2 px 0 (.int .i64 (prL M ks k))) (grown_set _ px 1 (.int .i64 (prE ks k)))) hqx HR8.out HRR.out
        obtain ⟨lv, hlv⟩ : ∃ l, l = prL M ks k := ⟨_, rfl⟩
        obtain ⟨ev, hev⟩ : ∃ l, l = prE ks k := ⟨_, rfl⟩
        rw [← hlv, ← hev] at hx3 hg3 ⊢
        rw [← hlv] at hx2a c1 f1
        have HLQ := (show Hid _ from hlv)
        have HEQ := (show Hid _ from hev)
        clear hlv hev
        go_upto_region 12 with fail
        generalize (W2.setCell ⟨px, 0, none⟩ (.int .i64 lv)).setCell ⟨px, 1, none⟩ (.int .i64 ev) = W3 at *
        rw [HLQ.out, HEQ.out] at hx3
        clear hg2 hx2 hx2a c0 c1 f0 f1
        go_wp2_with fail
        have hxl3 := hx3.lt
        refine (window_any q M _ _ hg3.rot).mono ?_
        rintro e W4 ⟨rfl, hrw, hb⟩
        have hg4 := hg3.step hb
        have hx4 := hx3.below hb hx3.lt
        have hbx : px ≠ W3.heap.size := by omega
        have hbq : q < W3.heap.size := hg3.rot.row.lt
        have HB8 : Hid (v8.ownBlock ≠ some W3.heap.size) := grown_old hg3.own (Nat.le_refl _)
        obtain ⟨bw, hbw⟩ : ∃ p, p = W3.heap.size := ⟨_, rfl⟩
        rw [← hbw] at hrw hbx hbq HB8 ⊢
        clear hbw hb hg3 hx3 hxl3
        go_wp2_with fail
        refine (now_any q M _ _ hg4.rot).mono ?_
        rintro e W5 ⟨rfl, hb⟩
        have hg5 := hg4.step hb
        have hx5 := hx4.below hb hx4.lt
        have hrw5 := hrw.below hb hrw.lt
        clear hb hg4 hx4 hrw
        have c2 := hx5.cell (prc_2 _ _ _ _)
        have f2 := hx5.frozen 2
        have hx6 := hx5.set 2 (Value.slice (some ⟨bw, 0, none⟩) M.n M.n)
        rw [prc_setR] at hx6
        have hth := there_row hx6 (o := 3) (n := 26) (by rw [prc_size]; decide)
        have hx7 := row_setCells (l := (ints 26 (Pm.up (Om.now M (pst M ks (k + 1))))).toList) (o := 3) hx6
        rw [prc_setN] at hx7
        have hgr : W5.grownBy ((W5.setCell ⟨px, 2, none⟩ (Value.slice (some ⟨bw, 0, none⟩) M.n M.n)).setCells px 3 (ints 26 (Pm.up (Om.now M (pst M ks (k + 1))))).toList) (some px) := grown_trans (grown_set W5 px 2 (Value.slice (some ⟨bw, 0, none⟩) M.n M.n)) (grown_cells px _ 3 _)
        go_upto_region 13 with (first | refine wpList_store_mid rfl 25 _ _ rfl px 3 (ints 26 (Pm.up (Om.now M (pst M ks (k + 1))))) rfl rfl (by rw [ints_size]; exact hth) (by rw [ints_size]; exact info_perm) (ints_one _ _) ?_)
        have hg7 := hg5.grown hgr hqx HR8.out HRR.out
        have hnw := nums_grown (nums_of_row (by unfold maxLen; omega) hrw5) hgr (fun p hp e => by cases e; cases hp; exact hbx rfl)
        generalize (W5.setCell ⟨px, 2, none⟩ (Value.slice (some ⟨bw, 0, none⟩) M.n M.n)).setCells px 3 (ints 26 (Pm.up (Om.now M (pst M ks (k + 1))))).toList = V7 at *
        clear hg5 hx5 hx6 hth c2 f2 hgr hrw5
        have HON : Hid ((Value.slice (some ⟨bw, 0, none⟩) M.n M.n).oneCell' = true) := rfl
        have hlq := hx7.lt
        have hlq2 := hg7.rot.row.lt
        go_wp2_with (first | refine wpList_load_row rfl 38 _ rfl px rfl 38 (prc (prL M ks k) (prE ks k) (Value.slice (some ⟨bw, 0, none⟩) M.n M.n) (Pm.up (Om.now M (pst M ks (k + 1))))) (0, 0) _ hx7 Try.underlying38 rfl (by rw [prc_size]; exact v_info_prs) ?_ | refine wpList_build1c rfl 34 38 _ rfl 29 (prc 0 0 (.slice none 0 0) fun _ => 0) (prc (prL M ks k) (prE ks k) (Value.slice (some ⟨bw, 0, none⟩) M.n M.n) (Pm.up (Om.now M (pst M ks (k + 1))))) rfl (by decide) (by decide) Try.underlying34 (prc_size _ _ _ _) (prc_size _ _ _ _) v_zs_prs ?_ | (at_builtin; refine wpList_append_own_at _ rfl _ _ 34 rfl (q + 1) 38 i0 (.agg (prc 0 0 (.slice none 0 0) fun _ => 0)) 29 248 Try.underlying34 hi0 hz0 hz1 hz2 (prc_size _ _ _ _) (by decide) _ _ _ rfl (World.ownsRow.alloc hg7.own _) ⟨V7.heap.size, 0, none⟩ 1 1 (prc (prL M ks k) (prE ks k) (Value.slice (some ⟨bw, 0, none⟩) M.n M.n) (Pm.up (Om.now M (pst M ks (k + 1))))).toList rfl (by rw [Array.length_toList, prc_size]) (fun j u hu => by rw [Addr.add_mid, Nat.zero_add]; exact (RowAt.new V7 _ _).cell (by rw [← Array.getElem?_toList]; exact hu)) (fun u hu => (Array.all_eq_true_iff_forall_mem.1 (prc_one HON.out)) u (by simpa using hu)) (by unfold maxLen; omega) (by omega) (by simp; omega) ?_; intro v5 w5 hown5 hgrow5 _ hat5))
        have hga := hg7.alloc (.cells (prc (prL M ks k) (prE ks k) (Value.slice (some ⟨bw, 0, none⟩) M.n M.n) (Pm.up (Om.now M (pst M ks (k + 1))))) 38)
        have hna := hnw.alloc (.cells (prc (prL M ks k) (prE ks k) (Value.slice (some ⟨bw, 0, none⟩) M.n M.n) (Pm.up (Om.now M (pst M ks (k + 1))))) 38)
        have HG8 : PpS w w5 a b c rf pl q v5 M ks (k + 1) (k + 1) (fun i => if i = k then (Value.slice (some ⟨bw, 0, none⟩) M.n M.n) else R i) := by
          have hq' := hga.q1
          have hz5 : ∀ q' : Value, (∃ f : Nat → Int, NumsAt V7 q' M.n f) → (∀ p, q'.ownBlock = some p → v8.ownBlock ≠ some p) → ∀ p, q'.ownBlock = some p → v5.ownBlock ≠ some p := fun q' hq' hne p hp e => by
            obtain ⟨f, hf⟩ := hq'
            obtain ⟨b', h', hl⟩ := nums_own hf hn1
            rcases hat5 with h5 | h5
            · exact hne p hp (h5.symm.trans e)
            · rw [h5] at e
              rw [h'] at hp
              cases hp
              simp at e
              omega
          have hne7 : ∀ p, (Value.slice (some ⟨bw, 0, none⟩) M.n M.n).ownBlock = some p → v8.ownBlock ≠ some p := fun p hp e => by cases hp; exact HB8.out e
          refine ⟨⟨(hgrow5.block w.heap.size hga.mg.lt (fun e => by have := (World.ownsRow.lt hga.own _ e.symm).1; omega)).trans hga.mg.row, hga.mg.below.grown hgrow5 hga.mg.below.size (fun p hp => by have := (World.ownsRow.lt hga.own p hp).1; omega)⟩, ⟨(hgrow5.block q hga.rot.row.lt (fun e => hga.v8ne e.symm)).trans hga.rot.row, hga.rot.ok, hga.rot.ins⟩, hga.q1, ?_, fun i hi => ?_, fun i hi p hp => ?_⟩
          · rw [prl_succ, if_pos rfl, prl_congr (R := fun i => if i = k then (Value.slice (some ⟨bw, 0, none⟩) M.n M.n) else R i) (R2 := R) (fun i hi => if_neg (by omega))]
            exact hown5
          · show NumsAt w5 (if i = k then (Value.slice (some ⟨bw, 0, none⟩) M.n M.n) else R i) M.n _
            by_cases e : i = k
            · rw [if_pos e, e]; exact nums_grown hna hgrow5 (fun p hp e => hne7 p hp e.symm)
            · rw [if_neg e]; exact nums_grown (hga.rows i (by omega)) hgrow5 (fun p hp e' => (hg7.ne i (by omega) p hp).1 e'.symm)
          · have hp' : (if i = k then (Value.slice (some ⟨bw, 0, none⟩) M.n M.n) else R i).ownBlock = some p := hp
            by_cases e : i = k
            · rw [if_pos e] at hp'; exact ⟨hz5 _ ⟨_, hnw⟩ hne7 p hp', by cases hp'; exact hbq⟩
            · rw [if_neg e] at hp'; exact ⟨hz5 _ ⟨_, hg7.rows i (by omega)⟩ (fun p hp => (hg7.ne i (by omega) p hp).1) p hp', (hg7.ne i (by omega) p hp').2⟩
        clear hga hna hg7 hown5 hgrow5 hat5 hx7 hnw
        go_roundw
        case rel => exact ⟨k + 1, v5, _, HLT.out, by go_num, rfl, HG8⟩
        case measure => have := HLT.out; simp [intOf]; omega
    · obtain rfl : k = m := by omega
      have hnl : ¬ ((k : Nat) : Int) < ((k : Nat) : Int) := by omega
      have hrow := own_prs hg.own hg.rows
      have hbe := hg.mg.below
      clear hg
      go_wp2
      go_ret2
      exact ⟨_, rfl, hrow, hbe⟩
theorem ppress_any (vm vk : Value) (g : Gm) (m : Nat) (hmm : m ≤ 1000000000) (ks : Nat → Int) (w : World) (hm : MacAt w vm g) (hk : NumsAt w vk m ks) : Calls Try.prog 9 #[vm, vk] w fun e w' => ∃ v, e = .returned (.tuple #[v, .int .i64 (gE g)]) ∧ PrsAt w' v (prM g m) g.n (prL (maOf g) ks) (prE ks) (fun i => pst (maOf g) ks (i + 1)) (fun i => Om.now (maOf g) (pst (maOf g) ks (i + 1))) ∧ Below w.heap.size w w' := by
  have HN := fun W (hb : Below w.heap.size w W) => new_any vm g W (hm.below hb)
  unfold prM
  by_cases hg : gE g = 0
  · rw [if_pos hg, hg]
    obtain ⟨hM, _⟩ := ok_maOf hg
    obtain ⟨a, b, c, rfl, _⟩ := hm
    exact press_ok (maOf g) hM a b c vk g.rf g.pl m hmm ks w hk (fun W hb => (HN W hb).mono (by
      rintro e w' (⟨h1, _⟩ | ⟨_, h2⟩)
      · exact absurd hg h1
      · exact h2))
  · rw [if_neg hg]
    obtain ⟨a, b, c, rfl, _⟩ := hm
    refine (press_bad a b c vk g.rf g.pl _ (by simpa using hg) w (fun W hb => (HN W hb).mono (by
      rintro e w' (⟨_, h2⟩ | ⟨h1, _⟩)
      · exact h2
      · exact absurd h1 hg))).mono ?_
    rintro e w' ⟨rfl, hb⟩
    exact ⟨_, rfl, ⟨none, 0, fun _ => .slice none 0 0, rfl, by decide, fun i hi => by omega, fun i hi => by omega⟩, hb⟩
end Go.Proofs.Ytibkcgjofcfoaaa
