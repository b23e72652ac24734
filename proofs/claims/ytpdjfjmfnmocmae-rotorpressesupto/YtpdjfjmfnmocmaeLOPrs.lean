/-
  RotorPresses, for any Wrong and plain.Press that say what the document's say.
-/
import Derived.Test.YtpdjfjmfnmocmaeORPa
import Derived.Test.YtpdjfjmfnmocmaeLOWr
import Derived.Test.YtpdjfjmfnmocmaeLOPlg
import Derived.Test.YtpdjfjmfnmocmaeOStH
namespace Go.Proofs.Ytpdjfjmfnmocmae
open Go.RowKit PK Vg

theorem mid_now {w : World} {b : Nat} {T : TypeId} {l e : Int} {R : Value} {f : Nat → Int} (h : RowAt w b T (prc l e R f)) : w.rangeAt b 3 (ints 26 f).toList := row_mid h 3 _ fun i v hv => by
  obtain ⟨h1, rfl⟩ := at_ints hv
  exact prc_now _ _ _ _ h1
theorem prs_none {W : World} {v : Value} {n n2 : Nat} {L E : Nat → Int} {A N : Nat → Nat → Nat} (h : PrsAt W v 0 n L E A N) : PrsAt W v 0 n2 L E A N := by
  obtain ⟨a, cap, R, e, hm, _, _⟩ := h
  exact ⟨a, cap, R, e, hm, fun i hi => by omega, fun i hi => by omega⟩
set_option maxRecDepth 100000 in
set_option maxHeartbeats 8000000 in
theorem rpresses_run (a b c vk : Value) (rf pl : Nat → Int) (GE : Int) (m n : Nat) (hm9 : m ≤ 1000000000) (hn4 : n ≤ 1000000000) (hn1 : m = 0 ∨ 1 ≤ n) (L E : Nat → Int) (A N : Nat → Nat → Nat) (w : World)
    (G1 : Hid (∀ W, Below w.heap.size w W → Calls Try.prog 23 #[.agg (mac a b c rf pl)] W fun e w' => e = .returned (.int .i64 GE) ∧ Below W.heap.size W w'))
    (G2 : Hid (∀ W, Below w.heap.size w W → Calls Try.prog 24 #[.agg (mac a b c rf pl)] W fun e w' => e = .returned (.int .i64 GE) ∧ Below W.heap.size W w'))
    (P1 : Hid (∀ W, Below w.heap.size w W → Calls Try.prog 25 #[.agg (mac a b c rf pl), vk] W fun e w' => ∃ v, e = .returned (.tuple #[v, .int .i64 GE]) ∧ PrsAt w' v m n L E A N ∧ Below W.heap.size W w'))
    (P2 : Hid (∀ W, Below w.heap.size w W → Calls Try.prog 26 #[.agg (mac a b c rf pl), vk] W fun e w' => ∃ v, e = .returned (.tuple #[v, .int .i64 GE]) ∧ PrsAt w' v m n L E A N ∧ Below W.heap.size W w')) : Calls Try.prog 7 #[.agg (mac a b c rf pl), vk] w fun e w' => e = .returned (.bool true) ∧ Below w.heap.size w w' := by
  have h0 := MgAt.new w a b c rf pl
  have hz29 := o_zero v_zero_prs
  go_enter Try.func7, Try.ntmps7
  go_upto_region 1 with fail
  refine wp_region_noPanic ?_
  refine wp_region_held_drew (S := fun W => MgAt w W a b c rf pl) (by kernel_rfl) h0.drew (fun hS => ?_)
  refine vtake 0 13 (.agg (mac a b c rf pl)) rfl rfl (by kernel_rfl) (by kernel_rfl) (by kernel_rfl) (fun _ _ _ _ h => h) (by rfl) (fun W hW => by have u := run_loadVar_row (P := Try.prog) W w.heap.size 52 52 (mac a b c rf pl) (0, 0) _ hW.row Try.underlying52 rfl (by rw [mac_size]; exact v_info_mac); clear hS hW; simp [execOp, Act.eval, Instr.loadAt, Instr.sureAddr, u]) hS ?_
  simp only [List.setIfInBounds_toArray, List.set_cons_succ, List.set_cons_zero]
  refine vtake 2 15 (.agg (mac a b c rf pl)) rfl rfl (by kernel_rfl) (by kernel_rfl) (by kernel_rfl) (fun _ _ _ _ h => h) (by rfl) (fun W hW => by have u := run_loadVar_row (P := Try.prog) W w.heap.size 52 52 (mac a b c rf pl) (0, 0) _ hW.row Try.underlying52 rfl (by rw [mac_size]; exact v_info_mac); clear hS hW; simp [execOp, Act.eval, Instr.loadAt, Instr.sureAddr, u]) hS ?_
  simp only [List.setIfInBounds_toArray, List.set_cons_succ, List.set_cons_zero]
  refine wpAnyH_ready (rs := [1]) (by kernel_rfl) (by simp) ?_
  refine AllReadyH.cons (o := _) rfl (fun K hK => ?_) AllReadyH.nil
  rw [if_pos (by rfl)]
  go_simp
  refine Calls.mono (G1.out _ hS.below) ?_
  rintro e Y ⟨rfl, hb8⟩
  refine hK.out _ _ (hS.step hb8) (fun hS1 => ?_)
  clear hK hS K
  have hS := hS1
  clear hS1
  refine wpAnyH_ready (rs := [3]) (by kernel_rfl) (by simp) ?_
  refine AllReadyH.cons (o := _) rfl (fun K hK => ?_) AllReadyH.nil
  rw [if_pos (by rfl)]
  go_simp
  refine Calls.mono (G2.out _ hS.below) ?_
  rintro e Y ⟨rfl, hb8⟩
  refine hK.out _ _ (hS.step hb8) (fun hS1 => ?_)
  clear hK hS K
  have hS := hS1
  clear hS1
  refine vtake 4 17 (.bool false) rfl rfl (by kernel_rfl) (by kernel_rfl) (by kernel_rfl) (fun _ _ _ _ h => h) (by rfl) (fun W hW => by clear hS hW; go_simp) hS ?_
  simp only [List.setIfInBounds_toArray, List.set_cons_succ, List.set_cons_zero]
  refine wpAnyH_done (by kernel_rfl) ?_ _
  refine NoPanic.normal ?_
  have h1 := hS
  clear hS h0 G1 G2
  go_wp2_with (first | refine wpList_load_row rfl 52 _ rfl w.heap.size rfl 52 (mac a b c rf pl) (0, 0) _ h1.row Try.underlying52 rfl (by rw [mac_size]; exact v_info_mac) ?_)
  refine (P1.out _ h1.below).mono ?_
  rintro e W2 ⟨va, rfl, hpa, hb⟩
  have h2 := h1.step hb
  clear hb h1 P1
  go_wp2_with (first | refine wpList_load_row rfl 52 _ rfl w.heap.size rfl 52 (mac a b c rf pl) (0, 0) _ h2.row Try.underlying52 rfl (by rw [mac_size]; exact v_info_mac) ?_)
  refine (P2.out _ h2.below).mono ?_
  rintro e W3 ⟨vb, rfl, hpb, hb⟩
  have h3 := h2.step hb
  replace hpa := hpa.below hb
  have hbe := h3.below
  clear hb h2 P2 h3
  obtain ⟨aa, ca, RA, rfl, _, ha1, ha2⟩ := hpa
  obtain ⟨ab, cb, RB, rfl, _, hb1, hb2⟩ := hpb
  have HA1 := (show Hid _ from ha1)
  have HA2 := (show Hid _ from ha2)
  have HB1 := (show Hid _ from hb1)
  have HB2 := (show Hid _ from hb2)
  clear ha1 ha2 hb1 hb2
  go_wp2_with fail
  go_loopw [42] (fun i W => ∃ k : Nat, k ≤ m ∧ i = .int .i64 (k : Nat) ∧ Below W3.heap.size W3 W) (fun i _ => ((m : Int) - intOf i).toNat)
  case atStart => exact ⟨0, by omega, rfl, Below.refl _ _⟩
  case round =>
    obtain ⟨k, hk, rfl, hbw⟩ := hrel
    by_cases hlt : k < m
    · have hn1' : 1 ≤ n := by omega
      obtain ⟨ba, oa, rfl, hra⟩ := HA1.out k hlt
      obtain ⟨bb, ob, rfl, hrb⟩ := HB1.out k hlt
      have hna := HA2.out k hlt
      have hnb := HB2.out k hlt
      generalize RA k = RA at *
      generalize RB k = RB at *
      obtain ⟨xa, ya, rfl, _, hxa⟩ := hna
      obtain ⟨xb, yb, rfl, _, hxb⟩ := hnb
      obtain ⟨px, ox, rfl, _⟩ := hxa 0 hn1'
      obtain ⟨py, oy, rfl, _⟩ := hxb 0 hn1'
      have HXA := (show Hid (∀ j, j < n → W3.cell? ⟨px, ox + j, none⟩ = some (.int .i64 (A k j : Nat))) from fun j hj => by
        obtain ⟨b', o', e, h⟩ := hxa j hj
        cases e
        exact h)
      have HXB := (show Hid (∀ j, j < n → W3.cell? ⟨py, oy + j, none⟩ = some (.int .i64 (A k j : Nat))) from fun j hj => by
        obtain ⟨b', o', e, h⟩ := hxb j hj
        cases e
        exact h)
      have HLT : Hid (k < m) := hlt
      have hRA := rangeAt_below hra hbw
      have hRB := rangeAt_below hrb hbw
      have HRA := (show Hid _ from hra)
      have HRB := (show Hid _ from hrb)
      clear hra hrb hxa hxb hRA hRB
      go_upto_region 10 with fail
      refine wp_region_noPanic ?_
      refine wp_region_held_drew (S := fun W => Below W3.heap.size W3 W) (by kernel_rfl) hbw.drew (fun hS => ?_)
      refine vtake 0 45 (.slice (some ⟨ba, oa, none⟩) m ca) rfl rfl (by kernel_rfl) (by kernel_rfl) (by kernel_rfl) (fun _ _ _ _ h => h) (by rfl) (fun W hW => by clear hS hW; go_simp) hS ?_
      simp only [List.setIfInBounds_toArray, List.set_cons_succ, List.set_cons_zero]
      refine vtake 1 46 (.int .i64 (k : Nat)) rfl rfl (by kernel_rfl) (by kernel_rfl) (by kernel_rfl) (fun _ _ _ _ h => h) (by rfl) (fun W hW => by clear hS hW; go_simp) hS ?_
      simp only [List.setIfInBounds_toArray, List.set_cons_succ, List.set_cons_zero]
      refine vtake 2 47 (.pointer (some ⟨ba, oa + k * 29, none⟩)) rfl rfl (by kernel_rfl) (by kernel_rfl) (by kernel_rfl) (fun _ _ _ _ h => h) (by rfl) (fun W hW => by clear hS hW; go_simp) hS ?_
      simp only [List.setIfInBounds_toArray, List.set_cons_succ, List.set_cons_zero]
      refine vtake 3 48 (.agg (prc (L k) (E k) (.slice (some ⟨px, ox, none⟩) n ya) (Pm.up (N k)))) rfl rfl (by kernel_rfl) (by kernel_rfl) (by kernel_rfl) (fun _ _ _ _ h => h) (by rfl) (fun W hW => by have u := run_loadAt_mid (P := Try.prog) W ba (oa + k * 29) 58 (prc (L k) (E k) (.slice (some ⟨px, ox, none⟩) n ya) (Pm.up (N k))).toList _ (rangeAt_below HRA.out hW) Try.underlying58 rfl (by rw [Array.length_toList, prc_size]; exact v_info_prs); rw [Array.toArray_toList] at u; clear hS hW; simp [execOp, Act.eval, u]) hS ?_
      simp only [List.setIfInBounds_toArray, List.set_cons_succ, List.set_cons_zero]
      refine vtake 4 49 (.slice (some ⟨bb, ob, none⟩) m cb) rfl rfl (by kernel_rfl) (by kernel_rfl) (by kernel_rfl) (fun _ _ _ _ h => h) (by rfl) (fun W hW => by clear hS hW; go_simp) hS ?_
      simp only [List.setIfInBounds_toArray, List.set_cons_succ, List.set_cons_zero]
      refine vtake 5 50 (.int .i64 (k : Nat)) rfl rfl (by kernel_rfl) (by kernel_rfl) (by kernel_rfl) (fun _ _ _ _ h => h) (by rfl) (fun W hW => by clear hS hW; go_simp) hS ?_
      simp only [List.setIfInBounds_toArray, List.set_cons_succ, List.set_cons_zero]
      refine vtake 6 51 (.pointer (some ⟨bb, ob + k * 29, none⟩)) rfl rfl (by kernel_rfl) (by kernel_rfl) (by kernel_rfl) (fun _ _ _ _ h => h) (by rfl) (fun W hW => by clear hS hW; go_simp) hS ?_
      simp only [List.setIfInBounds_toArray, List.set_cons_succ, List.set_cons_zero]
      refine vtake 7 52 (.agg (prc (L k) (E k) (.slice (some ⟨py, oy, none⟩) n yb) (Pm.up (N k)))) rfl rfl (by kernel_rfl) (by kernel_rfl) (by kernel_rfl) (fun _ _ _ _ h => h) (by rfl) (fun W hW => by have u := run_loadAt_mid (P := Try.prog) W bb (ob + k * 29) 58 (prc (L k) (E k) (.slice (some ⟨py, oy, none⟩) n yb) (Pm.up (N k))).toList _ (rangeAt_below HRB.out hW) Try.underlying58 rfl (by rw [Array.length_toList, prc_size]; exact v_info_prs); rw [Array.toArray_toList] at u; clear hS hW; simp [execOp, Act.eval, u]) hS ?_
      simp only [List.setIfInBounds_toArray, List.set_cons_succ, List.set_cons_zero]
      refine wpAnyH_ready (rs := [8, 9]) (by kernel_rfl) (by simp) ?_
      refine AllReadyH.cons (o := _) rfl (fun K hK => ?_) (AllReadyH.cons (o := _) rfl (fun K hK => ?_) AllReadyH.nil)
      · rw [if_pos (by rfl)]
        go_simp
        refine hK.out _ _ (hS.alloc hS.size _) (fun hS1 => ?_)
        clear hK hS K
        have hS := hS1
        clear hS1
        refine wpAnyH_ready (rs := [9]) (by kernel_rfl) (by simp) ?_
        refine AllReadyH.cons (o := _) rfl (fun K hK => ?_) AllReadyH.nil
        rw [if_pos (by rfl)]
        go_simp
        refine hK.out _ _ (hS.alloc hS.size _) (fun hS1 => ?_)
        clear hK hS K hS1
        have r1' : RowAt ((wr.alloc (.cells (prc 0 0 (.slice none 0 0) fun _ => 0) 58)).alloc (.cells (prc 0 0 (.slice none 0 0) fun _ => 0) 58)).drew wr.heap.size 58 (prc 0 0 (.slice none 0 0) fun _ => 0) := (RowAt.new wr 58 (prc 0 0 (.slice none 0 0) fun _ => 0)).alloc (.cells (prc 0 0 (.slice none 0 0) fun _ => 0) 58)
        have r2 := RowAt.new (wr.alloc (.cells (prc 0 0 (.slice none 0 0) fun _ => 0) 58)) 58 (prc 0 0 (.slice none 0 0) fun _ => 0)
        rw [World.size_alloc] at r2
        have r2' : RowAt ((wr.alloc (.cells (prc 0 0 (.slice none 0 0) fun _ => 0) 58)).alloc (.cells (prc 0 0 (.slice none 0 0) fun _ => 0) 58)).drew (wr.heap.size + 1) 58 (prc 0 0 (.slice none 0 0) fun _ => 0) := r2
        have hlw := hbw.size
        have hS : Below W3.heap.size W3 ((wr.alloc (.cells (prc 0 0 (.slice none 0 0) fun _ => 0) 58)).alloc (.cells (prc 0 0 (.slice none 0 0) fun _ => 0) 58)).drew := ((hbw.alloc hbw.size _).alloc (by rw [World.size_alloc]; omega) _).drew
        clear r2
        generalize ((wr.alloc (.cells (prc 0 0 (.slice none 0 0) fun _ => 0) 58)).alloc (.cells (prc 0 0 (.slice none 0 0) fun _ => 0) 58)).drew = V at *
        have sx := r1'.row (prc (L k) (E k) (.slice (some ⟨px, ox, none⟩) n ya) (Pm.up (N k)))
        have sy := r2'.rowOther wr.heap.size (prc (L k) (E k) (.slice (some ⟨px, ox, none⟩) n ya) (Pm.up (N k))) (by omega)
        refine storeH 10 { dst := none, op := Op.store 58 (Operand.tmp 10) (Operand.tmp 48), type := 0, pos := "law.go:36", after := #[{ on := 8, ground := Ground.data }, { on := 3, ground := Ground.data }, { on := 0, ground := Ground.phase }, { on := 1, ground := Ground.phase }, { on := 2, ground := Ground.phase }, { on := 3, ground := Ground.phase }, { on := 4, ground := Ground.textOnly Departure.lateStores }, { on := 5, ground := Ground.textOnly Departure.lateStores }, { on := 6, ground := Ground.textOnly Departure.lateStores }, { on := 7, ground := Ground.textOnly Departure.lateStores }, { on := 8, ground := Ground.phase }, { on := 9, ground := Ground.phase }], guard := none } (by kernel_rfl) (by kernel_rfl) (by kernel_rfl) 58 (Operand.tmp 10) (Operand.tmp 48) (by kernel_rfl) wr.heap.size (prc (L k) (E k) (.slice (some ⟨px, ox, none⟩) n ya) (Pm.up (N k))) (by kernel_rfl) (by kernel_rfl) 58 _ r1' (by rw [prc_size]; exact v_info_prs) (by simp only [prc_size]) (prc_one rfl) (by kernel_rfl) (Below.setRow hS _ (by omega) _) (fun hS1 => ?_)
        have tx := sx.rowOther (wr.heap.size + 1) (prc (L k) (E k) (.slice (some ⟨py, oy, none⟩) n yb) (Pm.up (N k))) (by omega)
        have ty := sy.row (prc (L k) (E k) (.slice (some ⟨py, oy, none⟩) n yb) (Pm.up (N k)))
        clear hS r1' r2'
        refine storeH 11 { dst := none, op := Op.store 58 (Operand.tmp 11) (Operand.tmp 52), type := 0, pos := "law.go:36", after := #[{ on := 9, ground := Ground.data }, { on := 7, ground := Ground.data }, { on := 10, ground := Ground.chain }, { on := 0, ground := Ground.phase }, { on := 1, ground := Ground.phase }, { on := 2, ground := Ground.phase }, { on := 3, ground := Ground.phase }, { on := 4, ground := Ground.phase }, { on := 5, ground := Ground.phase }, { on := 6, ground := Ground.phase }, { on := 7, ground := Ground.phase }, { on := 8, ground := Ground.phase }, { on := 9, ground := Ground.phase }, { on := 10, ground := Ground.phase }], guard := none } (by kernel_rfl) (by kernel_rfl) (by kernel_rfl) 58 (Operand.tmp 11) (Operand.tmp 52) (by kernel_rfl) (wr.heap.size + 1) (prc (L k) (E k) (.slice (some ⟨py, oy, none⟩) n yb) (Pm.up (N k))) (by kernel_rfl) (by kernel_rfl) 58 _ sy (by rw [prc_size]; exact v_info_prs) (by simp only [prc_size]) (prc_one rfl) (by kernel_rfl) (Below.setRow hS1 _ (by omega) _) (fun hS2 => ?_)
        clear hS1 sx sy
        have hS := hS2
        clear hS2
        refine wpAnyH_done (by kernel_rfl) ?_ _
        refine NoPanic.normal ?_
        generalize (V.setRow wr.heap.size (prc (L k) (E k) (.slice (some ⟨px, ox, none⟩) n ya) (Pm.up (N k)))).setRow (wr.heap.size + 1) (prc (L k) (E k) (.slice (some ⟨py, oy, none⟩) n yb) (Pm.up (N k))) = V2 at *
        obtain ⟨qx, hqx⟩ : ∃ q, q = wr.heap.size := ⟨_, rfl⟩
        obtain ⟨qy, hqy⟩ : ∃ q, q = (wr.heap.size + 1) := ⟨_, rfl⟩
        rw [← hqy] at ty ⊢
        rw [← hqx] at tx ⊢
        clear hqx hqy hbw hlw
        have x0 := tx.cell (prc_0 _ _ _ _)
        have x1 := tx.cell (prc_1 _ _ _ _)
        have x2 := tx.cell (prc_2 _ _ _ _)
        have y0 := ty.cell (prc_0 _ _ _ _)
        have y1 := ty.cell (prc_1 _ _ _ _)
        have y2 := ty.cell (prc_2 _ _ _ _)
        have xm := mid_now tx
        have ym := mid_now ty
        have heq := run_neq_perm (Pm.up (N k))
        go_upto_region 13 with (first | refine wpList_load_arr_w (by rfl) 50 _ rfl qx 3 rfl (ints 26 (Pm.up (N k))) _ xm Try.underlying50 rfl (by rw [ints_size]; exact info_perm) ?_ | refine wpList_load_arr_w (by rfl) 50 _ rfl qy 3 rfl (ints 26 (Pm.up (N k))) _ ym Try.underlying50 rfl (by rw [ints_size]; exact info_perm) ?_)
        clear heq xm ym x0 x1 y0 y1
        go_wp2_with fail
        go_loopw [84] (fun i W => ∃ j : Nat, j ≤ n ∧ i = .int .i64 (j : Nat) ∧ Below V2.heap.size V2 W) (fun i _ => ((n : Int) - intOf i).toNat)
        case atStart => exact ⟨0, by omega, rfl, Below.refl _ _⟩
        case round =>
          obtain ⟨j, hj, rfl, hbv⟩ := hrel
          have X2 := (hbv.cell (p := ⟨qx, 2, none⟩) tx.lt).trans x2
          have Y2 := (hbv.cell (p := ⟨qy, 2, none⟩) ty.lt).trans y2
          by_cases hjn : j < n
          · have HJN : Hid (j < n) := hjn
            have CA := (hS.cell (p := ⟨px, ox + j, none⟩) (cell_block (HXA.out j hjn))).trans (HXA.out j hjn)
            have CB := (hS.cell (p := ⟨py, oy + j, none⟩) (cell_block (HXB.out j hjn))).trans (HXB.out j hjn)
            have CA2 := (hbv.cell (p := ⟨px, ox + j, none⟩) (cell_block CA)).trans CA
            have CB2 := (hbv.cell (p := ⟨py, oy + j, none⟩) (cell_block CB)).trans CB
            clear CA CB x2 y2 tx ty
            go_upto_region 16 with fail
            go_quiet (fail)
            go_wp2
            go_roundw
            case rel => exact ⟨j + 1, HJN.out, by go_num, hbv.trans ⟨rfl, rfl, rfl, Nat.le_refl _, fun _ _ => rfl⟩⟩
            case measure => have := HJN.out; simp [intOf]; omega
          · obtain rfl : j = n := by omega
            have hnl : ¬ (j : Int) < (j : Int) := by omega
            have hout := hS.trans (hbv.mono hS.size)
            clear x2 y2 tx ty
            go_wp2_with fail
            go_roundw
            case rel => exact ⟨k + 1, HLT.out, by go_num, hout⟩
            case measure => have := HLT.out; simp [intOf]; omega
      · rw [if_pos (by rfl)]
        go_simp
        refine hK.out _ _ (hS.alloc hS.size _) (fun hS1 => ?_)
        clear hK hS K
        have hS := hS1
        clear hS1
        refine wpAnyH_ready (rs := [8]) (by kernel_rfl) (by simp) ?_
        refine AllReadyH.cons (o := _) rfl (fun K hK => ?_) AllReadyH.nil
        rw [if_pos (by rfl)]
        go_simp
        refine hK.out _ _ (hS.alloc hS.size _) (fun hS1 => ?_)
        clear hK hS K hS1
        have r1' : RowAt ((wr.alloc (.cells (prc 0 0 (.slice none 0 0) fun _ => 0) 58)).alloc (.cells (prc 0 0 (.slice none 0 0) fun _ => 0) 58)).drew wr.heap.size 58 (prc 0 0 (.slice none 0 0) fun _ => 0) := (RowAt.new wr 58 (prc 0 0 (.slice none 0 0) fun _ => 0)).alloc (.cells (prc 0 0 (.slice none 0 0) fun _ => 0) 58)
        have r2 := RowAt.new (wr.alloc (.cells (prc 0 0 (.slice none 0 0) fun _ => 0) 58)) 58 (prc 0 0 (.slice none 0 0) fun _ => 0)
        rw [World.size_alloc] at r2
        have r2' : RowAt ((wr.alloc (.cells (prc 0 0 (.slice none 0 0) fun _ => 0) 58)).alloc (.cells (prc 0 0 (.slice none 0 0) fun _ => 0) 58)).drew (wr.heap.size + 1) 58 (prc 0 0 (.slice none 0 0) fun _ => 0) := r2
        have hlw := hbw.size
        have hS : Below W3.heap.size W3 ((wr.alloc (.cells (prc 0 0 (.slice none 0 0) fun _ => 0) 58)).alloc (.cells (prc 0 0 (.slice none 0 0) fun _ => 0) 58)).drew := ((hbw.alloc hbw.size _).alloc (by rw [World.size_alloc]; omega) _).drew
        clear r2
        generalize ((wr.alloc (.cells (prc 0 0 (.slice none 0 0) fun _ => 0) 58)).alloc (.cells (prc 0 0 (.slice none 0 0) fun _ => 0) 58)).drew = V at *
        have sx := r2'.row (prc (L k) (E k) (.slice (some ⟨px, ox, none⟩) n ya) (Pm.up (N k)))
        have sy := r1'.rowOther (wr.heap.size + 1) (prc (L k) (E k) (.slice (some ⟨px, ox, none⟩) n ya) (Pm.up (N k))) (by omega)
        refine storeH 10 { dst := none, op := Op.store 58 (Operand.tmp 10) (Operand.tmp 48), type := 0, pos := "law.go:36", after := #[{ on := 8, ground := Ground.data }, { on := 3, ground := Ground.data }, { on := 0, ground := Ground.phase }, { on := 1, ground := Ground.phase }, { on := 2, ground := Ground.phase }, { on := 3, ground := Ground.phase }, { on := 4, ground := Ground.textOnly Departure.lateStores }, { on := 5, ground := Ground.textOnly Departure.lateStores }, { on := 6, ground := Ground.textOnly Departure.lateStores }, { on := 7, ground := Ground.textOnly Departure.lateStores }, { on := 8, ground := Ground.phase }, { on := 9, ground := Ground.phase }], guard := none } (by kernel_rfl) (by kernel_rfl) (by kernel_rfl) 58 (Operand.tmp 10) (Operand.tmp 48) (by kernel_rfl) (wr.heap.size + 1) (prc (L k) (E k) (.slice (some ⟨px, ox, none⟩) n ya) (Pm.up (N k))) (by kernel_rfl) (by kernel_rfl) 58 _ r2' (by rw [prc_size]; exact v_info_prs) (by simp only [prc_size]) (prc_one rfl) (by kernel_rfl) (Below.setRow hS _ (by omega) _) (fun hS1 => ?_)
        have tx := sx.rowOther wr.heap.size (prc (L k) (E k) (.slice (some ⟨py, oy, none⟩) n yb) (Pm.up (N k))) (by omega)
        have ty := sy.row (prc (L k) (E k) (.slice (some ⟨py, oy, none⟩) n yb) (Pm.up (N k)))
        clear hS r1' r2'
        refine storeH 11 { dst := none, op := Op.store 58 (Operand.tmp 11) (Operand.tmp 52), type := 0, pos := "law.go:36", after := #[{ on := 9, ground := Ground.data }, { on := 7, ground := Ground.data }, { on := 10, ground := Ground.chain }, { on := 0, ground := Ground.phase }, { on := 1, ground := Ground.phase }, { on := 2, ground := Ground.phase }, { on := 3, ground := Ground.phase }, { on := 4, ground := Ground.phase }, { on := 5, ground := Ground.phase }, { on := 6, ground := Ground.phase }, { on := 7, ground := Ground.phase }, { on := 8, ground := Ground.phase }, { on := 9, ground := Ground.phase }, { on := 10, ground := Ground.phase }], guard := none } (by kernel_rfl) (by kernel_rfl) (by kernel_rfl) 58 (Operand.tmp 11) (Operand.tmp 52) (by kernel_rfl) wr.heap.size (prc (L k) (E k) (.slice (some ⟨py, oy, none⟩) n yb) (Pm.up (N k))) (by kernel_rfl) (by kernel_rfl) 58 _ sy (by rw [prc_size]; exact v_info_prs) (by simp only [prc_size]) (prc_one rfl) (by kernel_rfl) (Below.setRow hS1 _ (by omega) _) (fun hS2 => ?_)
        clear hS1 sx sy
        have hS := hS2
        clear hS2
        refine wpAnyH_done (by kernel_rfl) ?_ _
        refine NoPanic.normal ?_
        generalize (V.setRow (wr.heap.size + 1) (prc (L k) (E k) (.slice (some ⟨px, ox, none⟩) n ya) (Pm.up (N k)))).setRow wr.heap.size (prc (L k) (E k) (.slice (some ⟨py, oy, none⟩) n yb) (Pm.up (N k))) = V2 at *
        obtain ⟨qx, hqx⟩ : ∃ q, q = (wr.heap.size + 1) := ⟨_, rfl⟩
        obtain ⟨qy, hqy⟩ : ∃ q, q = wr.heap.size := ⟨_, rfl⟩
        rw [← hqx] at tx ⊢
        rw [← hqy] at ty ⊢
        clear hqx hqy hbw hlw
        have x0 := tx.cell (prc_0 _ _ _ _)
        have x1 := tx.cell (prc_1 _ _ _ _)
        have x2 := tx.cell (prc_2 _ _ _ _)
        have y0 := ty.cell (prc_0 _ _ _ _)
        have y1 := ty.cell (prc_1 _ _ _ _)
        have y2 := ty.cell (prc_2 _ _ _ _)
        have xm := mid_now tx
        have ym := mid_now ty
        have heq := run_neq_perm (Pm.up (N k))
        go_upto_region 13 with (first | refine wpList_load_arr_w (by rfl) 50 _ rfl qx 3 rfl (ints 26 (Pm.up (N k))) _ xm Try.underlying50 rfl (by rw [ints_size]; exact info_perm) ?_ | refine wpList_load_arr_w (by rfl) 50 _ rfl qy 3 rfl (ints 26 (Pm.up (N k))) _ ym Try.underlying50 rfl (by rw [ints_size]; exact info_perm) ?_)
        clear heq xm ym x0 x1 y0 y1
        go_wp2_with fail
        go_loopw [84] (fun i W => ∃ j : Nat, j ≤ n ∧ i = .int .i64 (j : Nat) ∧ Below V2.heap.size V2 W) (fun i _ => ((n : Int) - intOf i).toNat)
        case atStart => exact ⟨0, by omega, rfl, Below.refl _ _⟩
        case round =>
          obtain ⟨j, hj, rfl, hbv⟩ := hrel
          have X2 := (hbv.cell (p := ⟨qx, 2, none⟩) tx.lt).trans x2
          have Y2 := (hbv.cell (p := ⟨qy, 2, none⟩) ty.lt).trans y2
          by_cases hjn : j < n
          · have HJN : Hid (j < n) := hjn
            have CA := (hS.cell (p := ⟨px, ox + j, none⟩) (cell_block (HXA.out j hjn))).trans (HXA.out j hjn)
            have CB := (hS.cell (p := ⟨py, oy + j, none⟩) (cell_block (HXB.out j hjn))).trans (HXB.out j hjn)
            have CA2 := (hbv.cell (p := ⟨px, ox + j, none⟩) (cell_block CA)).trans CA
            have CB2 := (hbv.cell (p := ⟨py, oy + j, none⟩) (cell_block CB)).trans CB
            clear CA CB x2 y2 tx ty
            go_upto_region 16 with fail
            go_quiet (fail)
            go_wp2
            go_roundw
            case rel => exact ⟨j + 1, HJN.out, by go_num, hbv.trans ⟨rfl, rfl, rfl, Nat.le_refl _, fun _ _ => rfl⟩⟩
            case measure => have := HJN.out; simp [intOf]; omega
          · obtain rfl : j = n := by omega
            have hnl : ¬ (j : Int) < (j : Int) := by omega
            have hout := hS.trans (hbv.mono hS.size)
            clear x2 y2 tx ty
            go_wp2_with fail
            go_roundw
            case rel => exact ⟨k + 1, HLT.out, by go_num, hout⟩
            case measure => have := HLT.out; simp [intOf]; omega
    · obtain rfl : k = m := by omega
      have hnl : ¬ (k : Int) < (k : Int) := by omega
      have hfin := hbe.trans (hbw.mono hbe.size)
      go_wp2
      go_ret
      exact ⟨rfl, hfin⟩
theorem rotorpresses_of (TG : ∀ (vm : Value) (g : Gm) (W : World), MacAt W vm g → Calls Try.prog 23 #[vm] W fun e w' => e = .returned (.int .i64 (gE g)) ∧ Below W.heap.size W w')
    (TP : ∀ (vm vk : Value) (g : Gm) (m : Nat), m ≤ 1000000000 → ∀ (ks : Nat → Int) (W : World), MacAt W vm g → NumsAt W vk m ks → Calls Try.prog 25 #[vm, vk] W fun e w' => ∃ v, e = .returned (.tuple #[v, .int .i64 (gE g)]) ∧ PrsAt w' v (prM g m) g.n (prL (maOf g) ks) (prE ks) (fun i => pst (maOf g) ks (i + 1)) (fun i => Om.now (maOf g) (pst (maOf g) ks (i + 1))) ∧ Below W.heap.size W w')
    (vm vk : Value) (g : Gm) (m : Nat) (hmm : m ≤ 1000000000) (ks : Nat → Int) (w : World) (hm : MacAt w vm g) (hk : NumsAt w vk m ks) : Calls Try.prog 7 #[vm, vk] w fun e w' => e = .returned (.bool true) ∧ Below w.heap.size w w' := by
  have G1 := fun W (hb : Below w.heap.size w W) => TG vm g W (hm.below hb)
  have G2 := fun W (hb : Below w.heap.size w W) => rgw_any vm g W (hm.below hb)
  have P1 := fun W (hb : Below w.heap.size w W) => TP vm vk g m hmm ks W (hm.below hb) (hk.below hb)
  have P2 := fun W (hb : Below w.heap.size w W) => rpress_any vm vk g m hmm ks W (hm.below hb) (hk.below hb)
  obtain ⟨a, b, c, rfl, hwh, _⟩ := hm
  have hcase : prM g m ≤ 1000000000 ∧ (prM g m = 0 ∨ (1 ≤ g.n ∧ g.n ≤ 4)) := by
    unfold prM
    by_cases hg : gE g = 0
    · rw [if_pos hg]
      exact ⟨hmm, .inr (gE_zero hg).1⟩
    · rw [if_neg hg]
      exact ⟨by omega, .inl rfl⟩
  rcases hcase.2 with h0 | h0
  · have P1' : ∀ W, Below w.heap.size w W → Calls Try.prog 25 #[.agg (mac a b c g.rf g.pl), vk] W fun e w' => ∃ v, e = .returned (.tuple #[v, .int .i64 (gE g)]) ∧ PrsAt w' v 0 0 (prL (maOf g) ks) (prE ks) (fun i => pst (maOf g) ks (i + 1)) (fun i => Om.now (maOf g) (pst (maOf g) ks (i + 1))) ∧ Below W.heap.size W w' := fun W hb => (P1 W hb).mono (by
      rintro e w' ⟨v, rfl, hp, hb'⟩
      rw [h0] at hp
      exact ⟨v, rfl, prs_none hp, hb'⟩)
    have P2' : ∀ W, Below w.heap.size w W → Calls Try.prog 26 #[.agg (mac a b c g.rf g.pl), vk] W fun e w' => ∃ v, e = .returned (.tuple #[v, .int .i64 (gE g)]) ∧ PrsAt w' v 0 0 (prL (maOf g) ks) (prE ks) (fun i => pst (maOf g) ks (i + 1)) (fun i => Om.now (maOf g) (pst (maOf g) ks (i + 1))) ∧ Below W.heap.size W w' := fun W hb => (P2 W hb).mono (by
      rintro e w' ⟨v, rfl, hp, hb'⟩
      rw [h0] at hp
      exact ⟨v, rfl, prs_none hp, hb'⟩)
    exact rpresses_run a b c vk g.rf g.pl _ 0 0 (by omega) (by omega) (.inl rfl) _ _ _ _ w G1 G2 P1' P2'
  · exact rpresses_run a b c vk g.rf g.pl _ (prM g m) g.n hcase.1 (by omega) (.inr h0.1) _ _ _ _ w G1 G2 P1 P2
end Go.Proofs.Ytpdjfjmfnmocmae
