/-
  RotorGoesOn, for any Write and Press that say what the document's say.
-/
import Derived.Test.YtibkcgjofcfoaaaOGx
import Derived.Deep.DeepCutAuto
namespace Go.Proofs.Ytibkcgjofcfoaaa
open Go.RowKit PK Vg

theorem v_nums1 : (Try.prog.info? 23).map (·.size) = some 1 := by kernel_rfl
theorem run_build_i (W : World) (e : Int) : (Instr.buildSlice 23 1 #[(0, .int .i64 e)]).run Try.prog W = .ok (.slice (some ⟨W.heap.size, 0, none⟩) 1 1) (W.alloc (.cells #[.int .i64 e] 3)) := by go_simp
set_option maxRecDepth 100000 in
set_option maxHeartbeats 8000000 in
theorem goes_run (a b c : Value) (ha : a.oneCell' = true) (hb0 : b.oneCell' = true) (hc0 : c.oneCell' = true) (rf pl : Nat → Int) (t S S1 S2 : ByteArray) (cut y : Nat) (hcut : cut ≤ t.size) (hts : t.size ≤ 65536) (hy : y ≤ 25) (w : World)
    (HA : Hid (∀ W, Calls Try.prog 7 #[] W fun e w' => e = .returned (.bool true) ∧ Below W.heap.size W w'))
    (H1 : Hid (∀ W, Below w.heap.size w W → Calls Try.prog 8 #[.agg (mac a b c rf pl), .string t] W fun e w' => e = .returned (.tuple #[.string S, .agg #[.int .i64 0, .int .i64 0]]) ∧ Below W.heap.size W w'))
    (n : Nat) (L E : Nat → Int) (A N : Nat → Nat → Nat) (HP : Hid (∀ W vk, Below w.heap.size w W → NumsAt W vk cut (fun _ => -1) → Calls Try.prog 9 #[.agg (mac a b c rf pl), vk] W fun e w' => ∃ v, e = .returned (.tuple #[v, .int .i64 0]) ∧ PrsAt w' v cut n L E A N ∧ Below W.heap.size W w'))
    (D : Nat → Nat) (HD : Hid (0 < cut → A (cut - 1) = D)) (HD0 : Hid (cut = 0 → NumsAt w c n fun i => (D i : Nat)))
    (wi : Nat → Nat → Int) (nl : Nat → Nat) (no ri' st' : Nat → Nat → Nat) (hwh : WheelsAt w a n wi nl (fun r k => (no r k : Nat))) (hri : NumsAt w b n fun i => (ri' 0 i : Nat)) (hst : NumsAt w c n fun i => (st' 0 i : Nat)) (hnl : ∀ r, r < n → nl r ≤ 17592186043904) (hn4 : n ≤ 4) (hno : ∀ r k, no r k < 26) (hrl : ∀ i, ri' 0 i < 26) (hsl : ∀ i, st' 0 i < 26)
    (HCAT : Hid (S1 ++ S2 = S)) (hs1 : S1.size ≤ 65536) (hs2 : S2.size ≤ 65536)
    (H2 : Hid (∀ W, Below w.heap.size w W → Calls Try.prog 8 #[.agg (mac a b c rf pl), .string (t.extract 0 cut)] W fun e w' => e = .returned (.tuple #[.string S1, .agg #[.int .i64 0, .int .i64 0]]) ∧ Below W.heap.size W w'))
    (H3 : Hid (∀ W c2, Below w.heap.size w W → (NumsAt W c2 n fun i => (D i : Nat)) → Calls Try.prog 8 #[.agg (mac a b c2 rf pl), .string (t.extract cut t.size)] W fun e w' => e = .returned (.tuple #[.string S2, .agg #[.int .i64 0, .int .i64 0]]) ∧ Below W.heap.size W w'))
    (H4 : Hid (∀ W va vb vc, Below w.heap.size w W → WheelsAt W va n wi nl (fun r k => (((no r k + y) % 26 : Nat) : Int)) → (NumsAt W vb n fun i => (((ri' 0 i + y) % 26 : Nat) : Int)) → (NumsAt W vc n fun i => (((st' 0 i + y) % 26 : Nat) : Int)) → Calls Try.prog 8 #[.agg (mac va vb vc rf pl), .string t] W fun e w' => e = .returned (.tuple #[.string S, .agg #[.int .i64 0, .int .i64 0]]) ∧ Below W.heap.size W w')) :
    Calls Try.prog 3 #[.agg (mac a b c rf pl), .string t, .int .i64 (cut : Nat), .int .i64 (y : Nat)] w fun e w' => e = .returned (.bool true) ∧ Below w.heap.size w w' := by
  have HY := (show Hid (y ≤ 25) from hy)
  have HWH := (show Hid _ from hwh)
  have HRI := (show Hid _ from hri)
  have HST := (show Hid _ from hst)
  have HNL := (show Hid _ from hnl)
  have HNO := (show Hid _ from hno)
  have HRL := (show Hid _ from hrl)
  have HSL := (show Hid _ from hsl)
  clear hwh hri hst hnl hno hrl hsl
  have h0 := MgAt.new w a b c rf pl
  have HONE : Hid ((mac a b c rf pl).all (·.oneCell') = true) := mac_one ha hb0 hc0
  have HMK : Hid (∀ w : World, (Instr.makeSlice 23 (.int .i64 (cut : Nat)) (.int .i64 (cut : Nat))).run Try.prog w = .ok (.slice (some ⟨w.heap.size, 0, none⟩) cut cut) (w.alloc (.cells (ints cut fun _ => 0) 3))) := fun w => by
    obtain ⟨i0, hi0, hz0, hz1, hz2⟩ := x_info_parts v_info_int1
    have := run_make (P := Try.prog) w 23 3 i0 _ Try.underlying23 hi0 hz0 .i64 .i64 (cut : Nat) (cut : Nat) (by omega) (Int.le_refl _) (by rw [hz2]; omega) (by omega)
    rw [hz1, Int.toNat_natCast, Nat.mul_one] at this
    rw [this]
    show Result.ok _ (w.alloc (.cells (madeCells #[.int .i64 0] cut) 3)) = _
    rw [ints_made]
  clear ha hb0 hc0
  go_enter Try.func3, Try.ntmps3
  go_wp2_with fail
  refine (HA.out _).mono ?_
  rintro e W1 ⟨rfl, hb⟩
  have h1 := h0.step hb
  clear hb h0 HA
  go_wp2_with (first | refine wpList_load_row rfl 27 _ rfl w.heap.size rfl 27 (mac a b c rf pl) (0, 0) _ h1.row Try.underlying27 rfl (by rw [mac_size]; exact v_info_mac) ?_)
  refine (H1.out _ h1.below).mono ?_
  rintro e W2 ⟨rfl, hb⟩
  have h2 := FmAt.new (h1.step hb) (.int .i64 0) (.int .i64 0)
  clear hb h1
  go_upto_region 4 with fail
  obtain ⟨V, hV⟩ : ∃ V, V = W2.alloc (.cells #[.int .i64 0, .int .i64 0] 31) := ⟨_, rfl⟩
  rw [← hV] at h2 ⊢
  obtain ⟨qf, hq⟩ : ∃ qf, qf = W2.heap.size := ⟨_, rfl⟩
  rw [← hq] at h2 ⊢
  clear hV hq
  have c0 := h2.f.cell (i := 0) rfl
  have hq1 : ¬ (t.size : Int) < (cut : Int) := by omega
  have hq2 : ¬ (25 : Int) < (y : Int) := by omega
  have hq3 : decide ((t.size : Int) < (cut : Int)) = false := decide_eq_false hq1
  have hq4 : decide ((25 : Int) < (y : Int)) = false := decide_eq_false hq2
  have hq5 : decide ((cut : Int) < 0) = false := decide_eq_false (by omega)
  have hq6 : decide ((y : Int) < 0) = false := decide_eq_false (by omega)
  have HF := (show Hid _ from h2)
  clear h2
  go_upto_region 6 with fail
  clear hq1 hq2 hq3 hq4 hq5 hq6 c0
  have hmk := HMK.out V
  have h3 : GkS w (V.alloc (.cells (ints cut fun _ => 0) 3)) a b c rf pl qf V.heap.size cut (fun _ => 0) := ⟨HF.out.alloc _, RowAt.new V _ _, HF.out.f.lt⟩
  go_upto_region 7 with fail
  clear hmk HMK HF
  generalize V.alloc (.cells (ints cut fun _ => 0) 3) = V2 at *
  obtain ⟨qk, hq⟩ : ∃ q, q = V.heap.size := ⟨_, rfl⟩
  rw [← hq] at h3 ⊢
  clear hq
  have h3' : GkS w V2 a b c rf pl qf qk cut (fun i => if i < 0 then -1 else 0) := by simpa using h3
  clear h3
  go_wp2_with fail
  go_loopw [58] (fun i W => ∃ k : Nat, k ≤ cut ∧ i = .int .i64 (k : Nat) ∧ GkS w W a b c rf pl qf qk cut (fun i => if i < k then -1 else 0)) (fun i _ => ((cut : Int) - intOf i).toNat)
  case atStart => exact ⟨0, by omega, rfl, h3'⟩
  case round =>
    clear h3'
    obtain ⟨k, hk, rfl, hg⟩ := hrel
    by_cases hlt : k < cut
    · have HLT : Hid (k < cut) := hlt
      have hck := hg.k.cell (ints_get (fun i => if i < k then -1 else 0) hlt)
      have hfk := hg.k.frozen k
      have HNX : Hid (GkS w (wr.setCell ⟨qk, k, none⟩ (.int .i64 (-1))) a b c rf pl qf qk cut (fun i => if i < k + 1 then -1 else 0)) := by
        have := hg.set k (-1)
        have e : upd (fun i => if i < k then (-1 : Int) else 0) k (-1) = fun i => if i < k + 1 then -1 else 0 := by
          funext i
          unfold upd
          by_cases e : i = k
          · rw [if_pos e, if_pos (by omega)]
          · rw [if_neg e]
            show (if i < k then (-1 : Int) else 0) = _
            by_cases e2 : i < k
            · rw [if_pos e2, if_pos (by omega)]
            · rw [if_neg e2, if_neg (by omega)]
        rw [e] at this
        exact this
      have HLI : (k : Int) < (cut : Int) := by omega
      clear hg
      go_wp2
      go_roundw
      case rel => exact ⟨k + 1, HLT.out, by go_num, HNX.out⟩
      case measure => have := HLT.out; simp [intOf]; omega
    · obtain rfl : k = cut := by omega
      have hnl : ¬ ((k : Nat) : Int) < ((k : Nat) : Int) := by omega
      have hkn : NumsAt wr (.slice (some ⟨qk, 0, none⟩) k k) k (fun _ => -1) := ⟨_, k, rfl, by unfold maxLen; omega, fun i hi => ⟨qk, 0, rfl, by rw [Nat.zero_add]; have := hg.k.cell (ints_get (fun i => if i < k then (-1 : Int) else 0) hi); rw [if_pos hi] at this; exact this⟩⟩
      have hg3 := hg.fm
      clear hg
      go_wp2_with (first | refine wpList_load_row rfl 27 _ rfl w.heap.size rfl 27 (mac a b c rf pl) (0, 0) _ hg3.mg.row Try.underlying27 rfl (by rw [mac_size]; exact v_info_mac) ?_)
      refine (HP.out _ _ hg3.mg.below hkn).mono ?_
      rintro e W3 ⟨vl, rfl, hprs, hb⟩
      have h4 := hg3.step hb
      clear hb hg3 hkn HP
      obtain ⟨al, cl, R, rfl, hml, hl1, hl2⟩ := hprs
      have HL1 := (show Hid _ from hl1)
      have HL2 := (show Hid (∀ i, i < k → NumsAt W3 (R i) n fun j => (A i j : Nat)) from hl2)
      clear hl1 hl2 hml
      have hne : ((k : Int) != (k : Int)) = false := by simp
      have HF := (show Hid _ from h4)
      clear h4
      go_upto_region 15 with fail
      have hz55 := o_zero v_zero_mac
      go_upto_region 16 with (first | refine wpList_load_row rfl 27 _ rfl w.heap.size rfl 27 (mac a b c rf pl) (0, 0) _ HF.out.mg.row Try.underlying27 rfl (by rw [mac_size]; exact v_info_mac) ?_ | refine wpList_store_row rfl 27 _ _ rfl W3.heap.size (mac a b c rf pl) rfl rfl 27 _ (RowAt.new W3 _ _) (by rw [mac_size]; exact v_info_mac) (by simp only [mac_size]) HONE.out ?_)
      have h5 : GnS w ((W3.alloc (.cells (mac (.slice none 0 0) (.slice none 0 0) (.slice none 0 0) (fun _ => 0) (fun _ => 0)) 27)).setRow W3.heap.size (mac a b c rf pl)) a b c rf pl qf W3.heap.size a b c := by
        have l1 := HF.out.mg.lt
        have l2 := HF.out.f.lt
        exact ⟨(HF.out.mg.alloc _).setRow _ l1 _, (HF.out.f.alloc _).rowOther _ _ (by omega), (RowAt.new W3 27 _).row _, HF.out.ne, l2⟩
      have hbx : Below W3.heap.size W3 ((W3.alloc (.cells (mac (.slice none 0 0) (.slice none 0 0) (.slice none 0 0) (fun _ => 0) (fun _ => 0)) 27)).setRow W3.heap.size (mac a b c rf pl)) := Below.setRow ((Below.refl _ W3).alloc (Nat.le_refl _) _) _ (Nat.le_refl _) _
      generalize (W3.alloc (.cells (mac (.slice none 0 0) (.slice none 0 0) (.slice none 0 0) (fun _ => 0) (fun _ => 0)) 27)).setRow W3.heap.size (mac a b c rf pl) = V5 at *
      obtain ⟨q, hq⟩ : ∃ q, q = W3.heap.size := ⟨_, rfl⟩
      have HQB := (show Hid (W3.heap.size ≤ q) from by rw [hq]; exact Nat.le_refl _)
      rw [← hq] at h5 ⊢
      clear hq hz55 HF
      go_upto_if 81 with fail
      go_cut [15] (fun p W => p = .pointer (some ⟨q, 0, none⟩) ∧ ∃ c2, GnS w W a b c rf pl qf q a b c2 ∧ NumsAt W c2 n fun i => (D i : Nat))
      case first =>
        by_cases hk0 : 0 < k
        · obtain ⟨j, rfl⟩ : ∃ j, k = j + 1 := ⟨k - 1, by omega⟩
          obtain ⟨bl, ol, rfl, hrl⟩ := HL1.out j (by omega)
          obtain ⟨aw, cw, hR, hw1, hw2⟩ := HL2.out j (by omega)
          have hcw := (rangeAt_below hrl hbx) 2 (R j) (by rw [Array.getElem?_toList]; exact prc_2 _ _ _ _)
          rw [hR] at hcw
          have hnw : NumsAt W3 (.slice aw n cw) n fun i => (D i : Nat) := by
            have e := HD.out hk0
            rw [show j + 1 - 1 = j by omega] at e
            rw [← e]
            exact ⟨aw, cw, rfl, hw1, hw2⟩
          have HX : Hid (GnS w (V5.setCell ⟨q, 2, none⟩ (.slice aw n cw)) a b c rf pl qf q a b (.slice aw n cw) ∧ NumsAt (V5.setCell ⟨q, 2, none⟩ (.slice aw n cw)) (.slice aw n cw) n fun i => (D i : Nat)) := ⟨h5.set2 _, hnw.below (hbx.setCell (p := ⟨q, 2, none⟩) HQB.out _)⟩
          have hc2 := h5.n.cell (mac_2 _ _ _ _ _)
          have hf2 := h5.n.frozen 2
          have e1 : (((j + 1 : Nat) : Int) - 1) = (j : Int) := by omega
          have hj0 : (0 : Int) < ((j + 1 : Nat) : Int) := by omega
          have hjl : (j : Int) < ((j + 1 : Nat) : Int) := by omega
          have hjd : decide ((0 : Int) < ((j + 1 : Nat) : Int)) = true := decide_eq_true hj0
          have hjb : (j : Int) ≤ 65536 := by omega
          clear h5 hbx hrl hw1 hw2 hnw hk0 hR H1 H2 H3 HONE HQB HL1 HL2 HD HD0 hne hcut hts hy
          go_wp2_with fail
          go_meet
          exact ⟨rfl, _, HX.out.1, HX.out.2⟩
        · obtain rfl : k = 0 := by omega
          have HX : Hid (GnS w V5 a b c rf pl qf q a b c ∧ NumsAt V5 c n fun i => (D i : Nat)) := ⟨h5, (HD0.out rfl).below h5.mg.below⟩
          have hdd : decide ((0 : Int) < ((0 : Nat) : Int)) = false := rfl
          clear h5 hbx H1 H2 H3 HONE HQB HL1 HL2 HD HD0 hne hcut hts hy
          go_wp2_with fail
          go_meet
          exact ⟨rfl, _, HX.out.1, HX.out.2⟩
      case rest =>
        obtain ⟨rfl, c2, h6, hn6⟩ := hcut
        clear h5 hbx HL1 HL2 HD HD0
        have HKT : Hid ((k : Int) ≤ (t.size : Int)) := (by omega : (k : Int) ≤ (t.size : Int))
        have hnd : NumsAt wc.drew c2 n (fun i => (D i : Nat)) := hn6
        go_upto_region 18 with fail
        refine wp_region_noPanic ?_
        refine wp_region_held_drew (S := fun W => GnS w W a b c rf pl qf q a b c2) (by kernel_rfl) h6.drew (fun hS => ?_)
        refine vtake 0 90 (.agg (mac a b c rf pl)) rfl rfl (by kernel_rfl) (by kernel_rfl) (by kernel_rfl) (fun _ _ _ _ h => h) (by rfl) (fun W hW => by have u := run_loadVar_row (P := Try.prog) W w.heap.size 27 27 (mac a b c rf pl) (0, 0) _ hW.mg.row Try.underlying27 rfl (by rw [mac_size]; exact v_info_mac); clear hS hW; simp [execOp, Act.eval, Instr.loadAt, Instr.sureAddr, u]) hS ?_
        simp only [List.setIfInBounds_toArray, List.set_cons_succ, List.set_cons_zero]
        refine vtake 1 91 (.string t) rfl rfl (by kernel_rfl) (by kernel_rfl) (by kernel_rfl) (fun _ _ _ _ h => h) (by rfl) (fun W hW => by clear hS hW; go_simp) hS ?_
        simp only [List.setIfInBounds_toArray, List.set_cons_succ, List.set_cons_zero]
        refine vtake 2 92 (.int .i64 (k : Nat)) rfl rfl (by kernel_rfl) (by kernel_rfl) (by kernel_rfl) (fun _ _ _ _ h => h) (by rfl) (fun W hW => by clear hS hW; go_simp) hS ?_
        simp only [List.setIfInBounds_toArray, List.set_cons_succ, List.set_cons_zero]
        refine vtake 3 93 (.string (t.extract 0 k)) rfl rfl (by kernel_rfl) (by kernel_rfl) (by kernel_rfl) (fun _ _ _ _ h => h) (by rfl) (fun W hW => by have u1 : (k : Int) ≤ (t.size : Int) := HKT.out; clear hS hW; go_simp) hS ?_
        simp only [List.setIfInBounds_toArray, List.set_cons_succ, List.set_cons_zero]
        refine wpAnyH_ready (rs := [4]) (by kernel_rfl) (by simp) ?_
        refine AllReadyH.cons (o := _) rfl (fun K hK => ?_) AllReadyH.nil
        rw [if_pos (by rfl)]
        go_simp
        refine Calls.mono (H2.out _ hS.mg.below) ?_
        rintro e Y ⟨rfl, hb8⟩
        have hn7 : NumsAt Y c2 n (fun i => (D i : Nat)) := hnd.below hb8
        refine hK.out _ _ (hS.step hb8) (fun hS1 => ?_)
        clear hK hS K
        have hS := hS1
        clear hS1
        refine vtake 5 89 (.tuple #[.string S1, .agg #[.int .i64 0, .int .i64 0]]) rfl rfl (by kernel_rfl) (by kernel_rfl) (by kernel_rfl) (fun _ _ _ _ h => h) (by rfl) (fun W hW => by clear hS hW; go_simp) hS ?_
        simp only [List.setIfInBounds_toArray, List.set_cons_succ, List.set_cons_zero]
        refine vtake 6 95 (.string S1) rfl rfl (by kernel_rfl) (by kernel_rfl) (by kernel_rfl) (fun _ _ _ _ h => h) (by rfl) (fun W hW => by clear hS hW; go_simp) hS ?_
        simp only [List.setIfInBounds_toArray, List.set_cons_succ, List.set_cons_zero]
        refine vtake 7 96 (.agg #[.int .i64 0, .int .i64 0]) rfl rfl (by kernel_rfl) (by kernel_rfl) (by kernel_rfl) (fun _ _ _ _ h => h) (by rfl) (fun W hW => by clear hS hW; go_simp) hS ?_
        simp only [List.setIfInBounds_toArray, List.set_cons_succ, List.set_cons_zero]
        refine vtake 8 16 (.string S1) rfl rfl (by kernel_rfl) (by kernel_rfl) (by kernel_rfl) (fun _ _ _ _ h => h) (by rfl) (fun W hW => by clear hS hW; go_simp) hS ?_
        simp only [List.setIfInBounds_toArray, List.set_cons_succ, List.set_cons_zero]
        have hn8 := nums_same hS.f hn7
        refine storeH 9 { dst := none, op := Op.store 31 (Operand.tmp 10) (Operand.tmp 96), type := 0, pos := "law.go:131", after := #[{ on := 7, ground := Ground.data }, { on := 8, ground := Ground.chain }, { on := 0, ground := Ground.phase }, { on := 1, ground := Ground.phase }, { on := 2, ground := Ground.phase }, { on := 3, ground := Ground.phase }, { on := 4, ground := Ground.phase }, { on := 5, ground := Ground.phase }, { on := 6, ground := Ground.phase }, { on := 7, ground := Ground.phase }, { on := 8, ground := Ground.phase }], guard := none } (by kernel_rfl) (by kernel_rfl) (by kernel_rfl) 31 (Operand.tmp 10) (Operand.tmp 96) (by kernel_rfl) qf #[.int .i64 0, .int .i64 0] (by kernel_rfl) (by kernel_rfl) 31 _ hS.f v_info_fault rfl (two_one _ _) (by kernel_rfl) hS.fault (fun hS1 => ?_)
        refine wpAnyH_done (by kernel_rfl) ?_ _
        refine NoPanic.normal ?_
        have h7 := hS1
        clear hS hS1 hn7 hnd hn6 h6 H2
        generalize Y.setRow qf #[.int .i64 0, .int .i64 0] = V7 at *
        have HF7 := (show Hid _ from h7)
        clear h7 hne
        go_upto_region 19 with fail
        go_cut [17, 18] (fun x r W => x = .string S2 ∧ ∃ q2, r = .pointer (some ⟨q2, 0, none⟩) ∧ GnS w W a b c rf pl qf q a b c2 ∧ RowAt W q2 31 #[.int .i64 0, .int .i64 0])
        case first =>
          clear H1 HONE hcut hts hy
          have hnd : NumsAt V7.drew c2 n (fun i => (D i : Nat)) := hn8
          have hSd := HF7.out.drew
          obtain ⟨U, hU⟩ : ∃ U, U = V7.drew := ⟨_, rfl⟩
          refine wp_region_noPanic ?_
          refine wp_region_held_drew (S := fun W => GnS w W a b c rf pl qf q a b c2) (by kernel_rfl) hSd (fun hS => ?_)
          clear hSd hn8
          rw [← hU] at hS hnd ⊢
          clear hU
          refine vtake 0 98 (.agg (mac a b c2 rf pl)) rfl rfl (by kernel_rfl) (by kernel_rfl) (by kernel_rfl) (fun _ _ _ _ h => h) (by rfl) (fun W hW => by have u := run_loadVar_row (P := Try.prog) W q 27 27 (mac a b c2 rf pl) (0, 0) _ hW.n Try.underlying27 rfl (by rw [mac_size]; exact v_info_mac); clear hS hW; simp [execOp, Act.eval, Instr.loadAt, Instr.sureAddr, u]) hS ?_
          simp only [List.setIfInBounds_toArray, List.set_cons_succ, List.set_cons_zero]
          refine vtake 1 99 (.string t) rfl rfl (by kernel_rfl) (by kernel_rfl) (by kernel_rfl) (fun _ _ _ _ h => h) (by rfl) (fun W hW => by clear hS hW; go_simp) hS ?_
          simp only [List.setIfInBounds_toArray, List.set_cons_succ, List.set_cons_zero]
          refine vtake 2 100 (.int .i64 (k : Nat)) rfl rfl (by kernel_rfl) (by kernel_rfl) (by kernel_rfl) (fun _ _ _ _ h => h) (by rfl) (fun W hW => by clear hS hW; go_simp) hS ?_
          simp only [List.setIfInBounds_toArray, List.set_cons_succ, List.set_cons_zero]
          refine vtake 3 101 (.string (t.extract k t.size)) rfl rfl (by kernel_rfl) (by kernel_rfl) (by kernel_rfl) (fun _ _ _ _ h => h) (by rfl) (fun W hW => by have u1 : (k : Int) ≤ (t.size : Int) := HKT.out; clear hS hW; go_simp) hS ?_
          simp only [List.setIfInBounds_toArray, List.set_cons_succ, List.set_cons_zero]
          refine wpAnyH_ready (rs := [4, 8]) (by kernel_rfl) (by simp) ?_
          refine AllReadyH.cons (o := _) rfl (fun K hK => ?_) (AllReadyH.cons (o := _) rfl (fun K hK => ?_) AllReadyH.nil)
          · rw [if_pos (by rfl)]
            go_simp
            refine Calls.mono (H3.out _ c2 hS.mg.below hnd) ?_
            rintro e Y2 ⟨rfl, hb8⟩
            refine hK.out _ _ (hS.step hb8) (fun hS1 => ?_)
            clear hK hS K hnd hb8
            have hS := hS1
            clear hS1
            refine vtake 5 97 (.tuple #[.string S2, .agg #[.int .i64 0, .int .i64 0]]) rfl rfl (by kernel_rfl) (by kernel_rfl) (by kernel_rfl) (fun _ _ _ _ h => h) (by rfl) (fun W hW => by clear hS hW; go_simp) hS ?_
            simp only [List.setIfInBounds_toArray, List.set_cons_succ, List.set_cons_zero]
            refine vtake 6 103 (.string S2) rfl rfl (by kernel_rfl) (by kernel_rfl) (by kernel_rfl) (fun _ _ _ _ h => h) (by rfl) (fun W hW => by clear hS hW; go_simp) hS ?_
            simp only [List.setIfInBounds_toArray, List.set_cons_succ, List.set_cons_zero]
            refine vtake 7 104 (.agg #[.int .i64 0, .int .i64 0]) rfl rfl (by kernel_rfl) (by kernel_rfl) (by kernel_rfl) (fun _ _ _ _ h => h) (by rfl) (fun W hW => by clear hS hW; go_simp) hS ?_
            simp only [List.setIfInBounds_toArray, List.set_cons_succ, List.set_cons_zero]
            refine wpAnyH_ready (rs := [8]) (by kernel_rfl) (by simp) ?_
            refine AllReadyH.cons (o := _) rfl (fun K hK => ?_) AllReadyH.nil
            rw [if_pos (by rfl)]
            go_simp
            refine hK.out _ _ (hS.alloc _) (fun hS1 => ?_)
            have hr2 := RowAt.new Y2 31 #[.int .i64 0, .int .i64 0]
            have hlt2 := hS.n.lt
            clear hK hS K
            have hS := hS1
            clear hS1
            obtain ⟨q2, hq2⟩ : ∃ x, x = Y2.heap.size := ⟨_, rfl⟩
            rw [← hq2] at hr2 hlt2 ⊢
            generalize Y2.alloc (.cells #[.int .i64 0, .int .i64 0] 31) = V8 at *
            clear hq2
            refine vtake 9 17 (.string S2) rfl rfl (by kernel_rfl) (by kernel_rfl) (by kernel_rfl) (fun _ _ _ _ h => h) (by rfl) (fun W hW => by clear hS hW; go_simp) hS ?_
            simp only [List.setIfInBounds_toArray, List.set_cons_succ, List.set_cons_zero]
            refine storeH 10 { dst := none, op := Op.store 31 (Operand.tmp 18) (Operand.tmp 104), type := 0, pos := "law.go:132", after := #[{ on := 8, ground := Ground.data }, { on := 7, ground := Ground.data }, { on := 9, ground := Ground.chain }, { on := 0, ground := Ground.phase }, { on := 1, ground := Ground.phase }, { on := 2, ground := Ground.phase }, { on := 3, ground := Ground.phase }, { on := 4, ground := Ground.phase }, { on := 5, ground := Ground.phase }, { on := 6, ground := Ground.phase }, { on := 7, ground := Ground.phase }, { on := 8, ground := Ground.phase }, { on := 9, ground := Ground.phase }], guard := none } (by kernel_rfl) (by kernel_rfl) (by kernel_rfl) 31 (Operand.tmp 18) (Operand.tmp 104) (by kernel_rfl) q2 #[.int .i64 0, .int .i64 0] (by kernel_rfl) (by kernel_rfl) 31 _ hr2 v_info_fault rfl (two_one _ _) (by kernel_rfl) (hS.other q2 hlt2 _) (fun hS1 => ?_)
            have hr3 := hr2.row #[.int .i64 0, .int .i64 0]
            clear hS hr2
            refine wpAnyH_done (by kernel_rfl) ?_ _
            refine NoPanic.normal ?_
            go_wp2_with fail
            go_meet
            exact ⟨rfl, q2, rfl, hS1, hr3⟩
          · rw [if_pos (by rfl)]
            go_simp
            refine hK.out _ _ (hS.alloc _) (fun hS1 => ?_)
            have hr2 := RowAt.new U 31 #[.int .i64 0, .int .i64 0]
            have hlt2 := hS.n.lt
            have hn9 := hnd.alloc (.cells #[.int .i64 0, .int .i64 0] 31)
            clear hK hS K hnd
            have hS := hS1
            clear hS1
            obtain ⟨q2, hq2⟩ : ∃ x, x = U.heap.size := ⟨_, rfl⟩
            rw [← hq2] at hr2 hlt2 ⊢
            generalize U.alloc (.cells #[.int .i64 0, .int .i64 0] 31) = V8 at *
            clear hq2
            refine wpAnyH_ready (rs := [4]) (by kernel_rfl) (by simp) ?_
            refine AllReadyH.cons (o := _) rfl (fun K hK => ?_) AllReadyH.nil
            rw [if_pos (by rfl)]
            go_simp
            refine Calls.mono (H3.out _ c2 hS.mg.below hn9) ?_
            rintro e Y2 ⟨rfl, hb8⟩
            refine hK.out _ _ (hS.step hb8) (fun hS1 => ?_)
            have hr4 := hr2.below hb8 hr2.lt
            clear hK hS K hb8 hn9 hr2
            have hS := hS1
            have hr2 := hr4
            clear hS1 hr4
            refine vtake 5 97 (.tuple #[.string S2, .agg #[.int .i64 0, .int .i64 0]]) rfl rfl (by kernel_rfl) (by kernel_rfl) (by kernel_rfl) (fun _ _ _ _ h => h) (by rfl) (fun W hW => by clear hS hW; go_simp) hS ?_
            simp only [List.setIfInBounds_toArray, List.set_cons_succ, List.set_cons_zero]
            refine vtake 6 103 (.string S2) rfl rfl (by kernel_rfl) (by kernel_rfl) (by kernel_rfl) (fun _ _ _ _ h => h) (by rfl) (fun W hW => by clear hS hW; go_simp) hS ?_
            simp only [List.setIfInBounds_toArray, List.set_cons_succ, List.set_cons_zero]
            refine vtake 7 104 (.agg #[.int .i64 0, .int .i64 0]) rfl rfl (by kernel_rfl) (by kernel_rfl) (by kernel_rfl) (fun _ _ _ _ h => h) (by rfl) (fun W hW => by clear hS hW; go_simp) hS ?_
            simp only [List.setIfInBounds_toArray, List.set_cons_succ, List.set_cons_zero]
            refine vtake 9 17 (.string S2) rfl rfl (by kernel_rfl) (by kernel_rfl) (by kernel_rfl) (fun _ _ _ _ h => h) (by rfl) (fun W hW => by clear hS hW; go_simp) hS ?_
            simp only [List.setIfInBounds_toArray, List.set_cons_succ, List.set_cons_zero]
            refine storeH 10 { dst := none, op := Op.store 31 (Operand.tmp 18) (Operand.tmp 104), type := 0, pos := "law.go:132", after := #[{ on := 8, ground := Ground.data }, { on := 7, ground := Ground.data }, { on := 9, ground := Ground.chain }, { on := 0, ground := Ground.phase }, { on := 1, ground := Ground.phase }, { on := 2, ground := Ground.phase }, { on := 3, ground := Ground.phase }, { on := 4, ground := Ground.phase }, { on := 5, ground := Ground.phase }, { on := 6, ground := Ground.phase }, { on := 7, ground := Ground.phase }, { on := 8, ground := Ground.phase }, { on := 9, ground := Ground.phase }], guard := none } (by kernel_rfl) (by kernel_rfl) (by kernel_rfl) 31 (Operand.tmp 18) (Operand.tmp 104) (by kernel_rfl) q2 #[.int .i64 0, .int .i64 0] (by kernel_rfl) (by kernel_rfl) 31 _ hr2 v_info_fault rfl (two_one _ _) (by kernel_rfl) (hS.other q2 hlt2 _) (fun hS1 => ?_)
            have hr3 := hr2.row #[.int .i64 0, .int .i64 0]
            clear hS hr2
            refine wpAnyH_done (by kernel_rfl) ?_ _
            refine NoPanic.normal ?_
            go_wp2_with fail
            go_meet
            exact ⟨rfl, q2, rfl, hS1, hr3⟩
        case rest =>
          obtain ⟨rfl, q2, rfl, h9, hr9⟩ := hcut
          clear hn8 HF7 H3
          have c0 := h9.f.cell (i := 0) rfl
          have c1 := hr9.cell (i := 0) rfl
          have hct := HCAT.out
          have hns : (S.toList != S.toList) = false := by simp
          have HF9 := (show Hid _ from h9)
          clear h9 hr9
          go_upto_region 20 with fail
          clear hcut hts hy H1
          go_upto_region 22 with fail
          clear c0 c1 hct hns HCAT hs1 hs2
          go_upto_region 23 with (first | refine wpList_load_row rfl 27 _ rfl w.heap.size rfl 27 (mac a b c rf pl) (0, 0) _ HF9.out.mg.row Try.underlying27 rfl (by rw [mac_size]; exact v_info_mac) ?_ | refine wpList_store_row rfl 27 _ _ rfl q (mac a b c rf pl) rfl rfl 27 _ HF9.out.n (by rw [mac_size]; exact v_info_mac) (by simp only [mac_size]) HONE.out ?_)
          have h10 := HF9.out.row a b c
          generalize wc.setRow q (mac a b c rf pl) = V10 at *
          clear HF9
          have c1 := h10.n.cell (mac_1 _ _ _ _ _)
          have f1 := h10.n.frozen 1
          have h11 := h10.set1 (.slice none 0 0)
          have c2' := h11.n.cell (mac_2 _ _ _ _ _)
          have f2 := h11.n.frozen 2
          have h12 := h11.set2 (.slice none 0 0)
          have HF12 := (show Hid _ from h12)
          clear h10 h11 h12
          go_upto_region 24 with fail
          have h12 := HF12.out
          clear HF12 c1 f1 c2' f2
          generalize (V10.setCell ⟨q, 1, none⟩ (.slice none 0 0)).setCell ⟨q, 2, none⟩ (.slice none 0 0) = V12 at *
          have c0 := h12.n.cell (mac_0 _ _ _ _ _)
          have f0 := h12.n.frozen 0
          have HF13 := (show Hid _ from h12.set0 (.slice none 0 0))
          clear h12
          go_upto_region 25 with fail
          have h13 := HF13.out
          clear HF13 c0 f0
          generalize V12.setCell ⟨q, 0, none⟩ (.slice none 0 0) = V13 at *
          obtain ⟨ad, capa, R, hea, hma, hw1, hw2⟩ := HWH.out
          obtain ⟨ar, capr, heb, hmb, hw3⟩ := HRI.out
          obtain ⟨az, capz, hec, hmc, hw4⟩ := HST.out
          have HW1 := (show Hid _ from hw1)
          have HW2 := (show Hid (∀ r, r < n → NumsAt w (R r) (nl r) fun k => (no r k : Nat)) from hw2)
          have HW3 := (show Hid _ from hw3)
          have HW4 := (show Hid _ from hw4)
          clear hw1 hw2 hw3 hw4 hma hmb hmc HWH HRI HST
          subst hea heb hec
          have hc0 := h13.mg.c0
          have HF13 := (show Hid _ from h13)
          clear h13
          go_wp2_with fail
          clear hc0
          have hg0 : GmS w V13 (.slice ad n capa) (.slice ar n capr) (.slice az n capz) rf pl qf q (.slice none 0 0) (.slice none 0 0) (.slice none 0 0) wi nl (fun r k => (((no r k + y) % 26 : Nat) : Int)) (fun i => (ri' 0 i + y) % 26) (fun i => (st' 0 i + y) % 26) 0 (fun _ => (.slice none 0 0)) := ⟨HF13.out, World.ownsRow_nil _ _ _ _, World.ownsRow_nil _ _ _ _, World.ownsRow_nil _ _ _ _, fun r hr => by omega, fun p hp => (by cases hp), fun p hp => (by cases hp), fun r hr => by omega⟩
          go_loopw [127] (fun i W => ∃ (k : Nat) (va vb vc : Value) (V : Nat → Value), k ≤ n ∧ i = .int .i64 (k : Nat) ∧ GmS w W (.slice ad n capa) (.slice ar n capr) (.slice az n capz) rf pl qf q va vb vc wi nl (fun r k => (((no r k + y) % 26 : Nat) : Int)) (fun i => (ri' 0 i + y) % 26) (fun i => (st' 0 i + y) % 26) k V) (fun i _ => ((n : Int) - intOf i).toNat)
          case atStart => exact ⟨0, _, _, _, _, by omega, rfl, hg0⟩
          case round =>
            clear hg0 HF13
            obtain ⟨m, va, vb, vc, V, hm, rfl, hg⟩ := hrel
            by_cases hlt : m < n
            · have HLT : Hid (m < n) := hlt
              obtain ⟨bw, ow, rfl, hrg⟩ := HW1.out m hlt
              have hrg2 := rangeAt_below hrg hg.g.mg.below
              have hnk := HW2.out m hlt
              have hR1 : (R m).oneCell' = true := one_nums hnk
              have HR1 := (show Hid _ from hR1)
              have hz27 := o_zero v_zero_whl
              have HG := (show Hid _ from hg)
              clear hg hR1 hrg
              go_upto_region 28 with (first | refine wpList_load_arr rfl 40 _ rfl bw (ow + m * 27) rfl (whl (wi m) (R m)) _ hrg2 Try.underlying40 rfl (by rw [whl_size]; exact v_info_whl) ?_ | refine wpList_store_row rfl 40 _ _ rfl wr.heap.size (whl (wi m) (R m)) rfl rfl 40 _ (RowAt.new wr _ _) (by rw [whl_size]; exact v_info_whl) (by simp only [whl_size]) (whl_one HR1.out) ?_)
              have x20 := (RowAt.new wr 40 (whl (fun _ => 0) (.slice none 0 0))).row (whl (wi m) (R m))
              have hbe := Below.setRow ((Below.refl wr.heap.size wr).alloc (Nat.le_refl _) (.cells (whl (fun _ => 0) (.slice none 0 0)) 40)) wr.heap.size (Nat.le_refl _) (whl (wi m) (R m))
              generalize (wr.alloc (.cells (whl (fun _ => 0) (.slice none 0 0)) 40)).setRow wr.heap.size (whl (wi m) (R m)) = X at *
              obtain ⟨q20, hq20⟩ : ∃ x, x = wr.heap.size := ⟨_, rfl⟩
              have HQ20 := (show Hid (wr.heap.size ≤ q20) from by rw [hq20]; exact Nat.le_refl _)
              rw [← hq20] at x20 ⊢
              clear hq20 hrg2
              have hmid := mid_wi x20
              have hl20 := x20.lt
              go_upto_region 29 with (first | refine wpList_load_arr rfl 25 _ rfl q20 0 rfl (ints 26 (wi m)) _ hmid Try.underlying25 rfl (by rw [ints_size]; exact info_perm) ?_ | refine wpList_buildA rfl 40 [(0, .tmp 133)] rfl [(0, .agg (ints 26 (wi m)))] rfl _ (built_whl1 (wi m)) ?_ | refine wpList_store_row rfl 40 _ _ rfl X.heap.size (whl (wi m) (.slice none 0 0)) rfl rfl 40 _ (RowAt.new X _ _) (by rw [whl_size]; exact v_info_whl) (by simp only [whl_size]) (whl_one rfl) ?_)
              have x21 := (RowAt.new X 40 (whl (fun _ => 0) (.slice none 0 0))).row (whl (wi m) (.slice none 0 0))
              have x20' := (x20.alloc (.cells (whl (fun _ => 0) (.slice none 0 0)) 40)).rowOther X.heap.size (whl (wi m) (.slice none 0 0)) (by omega)
              have hbe2 := Below.setRow (hbe.alloc hbe.size (.cells (whl (fun _ => 0) (.slice none 0 0)) 40)) X.heap.size hbe.size (whl (wi m) (.slice none 0 0))
              generalize (X.alloc (.cells (whl (fun _ => 0) (.slice none 0 0)) 40)).setRow X.heap.size (whl (wi m) (.slice none 0 0)) = X2 at *
              obtain ⟨q21, hq21⟩ : ∃ x, x = X.heap.size := ⟨_, rfl⟩
              rw [← hq21] at x21 hl20 ⊢
              clear hq21 x20 hbe hmid hz27
              obtain ⟨an, cn, hen, hmn, hcn⟩ := hnk
              rw [hen] at x20'
              have HEN := (show Hid _ from hen)
              have HCN := (show Hid (∀ c, c < nl m → ∃ b o, an = some ⟨b, o, none⟩ ∧ w.cell? ⟨b, o + c, none⟩ = some (.int .i64 (no m c : Nat))) from hcn)
              have hgs : GoS wr X2 (wi m) (.slice an (nl m) cn) (.slice none 0 0) q20 q21 0 (fun k => (no m k + y) % 26) := ⟨hbe2, x20', x21, World.ownsRow_nil _ _ _ _, HQ20.out, hl20⟩
              have hln := x20'.cell (whl_last _ _)
              have hnb := HNL.out m HLT.out
              clear hen hcn hmn x20' x21 hbe2 hl20
              have HGS := (show Hid _ from hgs)
              clear hgs
              obtain ⟨W0, rfl⟩ : ∃ V, V = wr := ⟨_, rfl⟩
              go_wp2_with fail
              clear hln
              go_loopw [138] (fun i W => ∃ (k : Nat) (v : Value), k ≤ nl m ∧ i = .int .i64 (k : Nat) ∧ GoS W0 W (wi m) (.slice an (nl m) cn) v q20 q21 k (fun k => (no m k + y) % 26)) (fun i _ => ((nl m : Int) - intOf i).toNat)
              case atStart => exact ⟨0, _, by omega, rfl, HGS.out⟩
              case round =>
                clear HGS
                obtain ⟨z, v, hz, rfl, hs⟩ := hrel
                obtain ⟨av, cv, rfl⟩ := own_slice hs.own
                by_cases hlt : z < nl m
                · have HLZ : Hid (z < nl m) := hlt
                  obtain ⟨bn, on, rfl, hcz⟩ := HCN.out z hlt
                  have hbw := (HG.out.g.mg.below).trans (hs.below.mono HG.out.g.mg.below.size)
                  have hc1 := (hbw.cell (p := ⟨bn, on + z, none⟩) (cell_block hcz)).trans hcz
                  have hzi : (z : Int) < ((nl m : Nat) : Int) := by omega
                  have hnoz : ((no m z : Nat) : Int) < 26 := by have := HNO.out m z; omega
                  have hyb : (y : Int) ≤ 25 := by have := HY.out; omega
                  have cN := hs.x21.cell (whl_last _ _)
                  have hl21 := hs.x21.lt
                  have HS := (show Hid _ from hs)
                  clear hs hcz hbw hlt H4 HONE HCN HG
                  go_wp2_with (first | (at_builtin; obtain ⟨i1, hi1, hz1, hz2, hz3⟩ := x_info_parts v_info_int1; refine wpList_append_own _ rfl _ _ 23 rfl (q21 + 1) 3 i1 (.int .i64 0) 1 8 Try.underlying23 hi1 hz1 hz2 hz3 rfl (by decide) _ _ _ rfl (World.ownsRow.alloc HS.out.own _) ⟨wr.heap.size, 0, none⟩ 1 1 [.int .i64 ((((no m z : Nat) : Int) + (y : Int)) % 26)] rfl rfl (cell_one_new _ _ _) (fun u hu => by simp at hu; subst hu; rfl) (by unfold maxLen; omega) (by omega) (by simp; omega) ?_; intro v5 w5 hown5 hgrow5 _; obtain ⟨a5, c5, rfl⟩ := own_slice hown5; obtain ⟨HG5, hx5⟩ := HS.out.next _ hgrow5 (by have e : (((no m z + y) % 26 : Nat) : Int) = (((no m z : Nat) : Int) + (y : Int)) % 26 := (by omega); rw [← e] at hown5; exact hown5); have hc5 := hx5.cell (whl_last _ _); have hf5 := hx5.frozen 26; have HG6 := (show Hid _ from HG5); clear HG5 hx5 hgrow5 hown5 hi1 hz1 hz2 hz3))
                  go_roundw
                  case rel => exact ⟨z + 1, _, HLZ.out, by go_num, HG6.out⟩
                  case measure => have := HLZ.out; simp [intOf]; omega
                · obtain rfl : z = nl m := by omega
                  have hnz : ¬ ((nl m : Nat) : Int) < ((nl m : Nat) : Int) := by omega
                  have hgm := HG.out.more (f := fun k => (no m k + y) % 26) (B := q21 + 1) hs.below (by have := hs.lt; omega) hs.own (fun k => rfl)
                  obtain ⟨xa, ca, rfl⟩ := own_slice hgm.oa
                  obtain ⟨xb, cb, rfl⟩ := own_slice hgm.ob
                  obtain ⟨xc, cc, rfl⟩ := own_slice hgm.oc
                  have c0 := hgm.g.n.cell (mac_0 _ _ _ _ _)
                  have hx21 := hs.x21
                  have hlq := hgm.lt
                  have HGM := (show Hid _ from hgm)
                  clear hgm hs HG HONE HCN hlt
                  go_upto_region 35 with (first | refine wpList_load_row rfl 40 _ rfl q21 rfl 40 (whl (wi m) (.slice av (nl m) cv)) (0, 0) _ hx21 Try.underlying40 rfl (by rw [whl_size]; exact v_info_whl) ?_ | refine wpList_build1c rfl 22 40 _ rfl 27 (whl (fun _ => 0) (.slice none 0 0)) (whl (wi m) (.slice av (nl m) cv)) rfl (by decide) (by decide) Try.underlying22 (whl_size _ _) (whl_size _ _) v_zs_whl ?_ | (at_builtin; refine Hid.out ?_))
                  refine (show Hid _ from ?_)
                  obtain ⟨i2, hi2, hz4, hz5, hz6⟩ := x_info_parts v_all_whl
                  refine wpList_append_own_at _ rfl _ _ 22 rfl (q + 1) 40 i2 (.agg (whl (fun _ => 0) (.slice none 0 0))) 27 232 Try.underlying22 hi2 hz4 hz5 hz6 (whl_size _ _) (by decide) _ _ _ rfl (World.ownsRow.alloc HGM.out.oa _) ⟨wr.heap.size, 0, none⟩ 1 1 (whl (wi m) (.slice av (nl m) cv)).toList rfl (by rw [Array.length_toList, whl_size]) (fun j u hu => by rw [Addr.add_mid, Nat.zero_add]; exact (RowAt.new wr _ _).cell (by rw [← Array.getElem?_toList]; exact hu)) (fun u hu => (Array.all_eq_true_iff_forall_mem.1 (whl_one rfl)) u (by simpa using hu)) (by unfold maxLen; omega) (by omega) (by simp; omega) ?_
                  intro v5 w5 hown5 hgrow5 _ hat5
                  obtain ⟨a5, c5, rfl⟩ := own_slice hown5
                  have hg5 := (HGM.out.alloc _).growA hgrow5 (by rw [if_pos rfl]; exact hown5) hat5
                  have hc5 := hg5.g.n.cell (mac_0 _ _ _ _ _)
                  have hf5 := hg5.g.n.frozen 0
                  have HG6 := (show Hid _ from hg5.put0 (.slice a5 (m + 1) c5))
                  clear hg5 hgrow5 hown5 hat5 hi2 hz4 hz5 hz6 HGM c0 hx21
                  go_upto_region 35 with fail
                  have hg6 := HG6.out
                  clear HG6 hc5 hf5
                  obtain ⟨br, orr, rfl, hcr⟩ := HW3.out m HLT.out
                  obtain ⟨bz, oz, rfl, hcs⟩ := HW4.out m HLT.out
                  have hmi : (m : Int) < ((n : Nat) : Int) := by have := HLT.out; omega
                  have hrm : ((ri' 0 m : Nat) : Int) < 26 := by have := HRL.out m; omega
                  have hsm : ((st' 0 m : Nat) : Int) < 26 := by have := HSL.out m; omega
                  have hyb : (y : Int) ≤ 25 := by have := HY.out; omega
                  clear H4
                  have hx0 := hg6.drew
                  obtain ⟨U, hU⟩ : ∃ U, U = (w5.setCell ⟨q, 0, none⟩ (.slice a5 (m + 1) c5)).drew := ⟨_, rfl⟩
                  refine wp_region_noPanic ?_
                  refine wp_region_late_drew (S := fun W => GnS w W (.slice (some ⟨bw, ow, none⟩) n capa) (.slice (some ⟨br, orr, none⟩) n capr) (.slice (some ⟨bz, oz, none⟩) n capz) rf pl qf q (.slice a5 (m + 1) c5) (.slice xb m cb) (.slice xc m cc)) (T := fun W => MgAt w W (.slice (some ⟨bw, ow, none⟩) n capa) (.slice (some ⟨br, orr, none⟩) n capr) (.slice (some ⟨bz, oz, none⟩) n capz) rf pl) (fun i => i == 25 || i == 27) (by kernel_rfl) ?_
                  have hS := hg6.g.drew
                  rw [← hU] at hS hx0 ⊢
                  have hT := hS.mg
                  clear hU hg6
                  refine ltake 0 158 (.pointer (some ⟨q, 1, none⟩)) rfl rfl (by kernel_rfl) (by kernel_rfl) (by kernel_rfl) rfl (by kernel_rfl) (by kernel_rfl) (fun _ _ _ _ h => h) (by rfl) (fun W hW => by clear hS hT hW; go_simp) hS hT ?_
                  simp only [List.setIfInBounds_toArray, List.set_cons_succ, List.set_cons_zero]
                  refine ltake 1 159 (.slice xb m cb) rfl rfl (by kernel_rfl) (by kernel_rfl) (by kernel_rfl) rfl (by kernel_rfl) (by kernel_rfl) (fun _ _ _ _ h => h) (by rfl) (fun W hW => by have u := hW.n.cell (mac_1 _ _ _ _ _); clear hS hT hW; go_simp) hS hT ?_
                  simp only [List.setIfInBounds_toArray, List.set_cons_succ, List.set_cons_zero]
                  refine ltake 2 160 (.pointer (some ⟨w.heap.size, 1, none⟩)) rfl rfl (by kernel_rfl) (by kernel_rfl) (by kernel_rfl) rfl (by kernel_rfl) (by kernel_rfl) (fun _ _ _ _ h => h) (by rfl) (fun W hW => by clear hS hT hW; go_simp) hS hT ?_
                  simp only [List.setIfInBounds_toArray, List.set_cons_succ, List.set_cons_zero]
                  refine ltake 3 161 (.slice (some ⟨br, orr, none⟩) n capr) rfl rfl (by kernel_rfl) (by kernel_rfl) (by kernel_rfl) rfl (by kernel_rfl) (by kernel_rfl) (fun _ _ _ _ h => h) (by rfl) (fun W hW => by have u := hW.mg.c1; clear hS hT hW; go_simp) hS hT ?_
                  simp only [List.setIfInBounds_toArray, List.set_cons_succ, List.set_cons_zero]
                  refine ltake 4 162 (.int .i64 (m : Nat)) rfl rfl (by kernel_rfl) (by kernel_rfl) (by kernel_rfl) rfl (by kernel_rfl) (by kernel_rfl) (fun _ _ _ _ h => h) (by rfl) (fun W hW => by clear hS hT hW; go_simp) hS hT ?_
                  simp only [List.setIfInBounds_toArray, List.set_cons_succ, List.set_cons_zero]
                  refine ltake 5 163 (.pointer (some ⟨br, orr + m, none⟩)) rfl rfl (by kernel_rfl) (by kernel_rfl) (by kernel_rfl) rfl (by kernel_rfl) (by kernel_rfl) (fun _ _ _ _ h => h) (by rfl) (fun W hW => by clear hS hT hW; go_simp) hS hT ?_
                  simp only [List.setIfInBounds_toArray, List.set_cons_succ, List.set_cons_zero]
                  refine ltake 6 164 (.int .i64 (ri' 0 m : Nat)) rfl rfl (by kernel_rfl) (by kernel_rfl) (by kernel_rfl) rfl (by kernel_rfl) (by kernel_rfl) (fun _ _ _ _ h => h) (by rfl) (fun W hW => by have u := (hW.mg.below.cell (p := ⟨br, orr + m, none⟩) (cell_block hcr)).trans hcr; clear hS hT hW; go_simp) hS hT ?_
                  simp only [List.setIfInBounds_toArray, List.set_cons_succ, List.set_cons_zero]
                  refine ltake 7 165 (.int .i64 (y : Nat)) rfl rfl (by kernel_rfl) (by kernel_rfl) (by kernel_rfl) rfl (by kernel_rfl) (by kernel_rfl) (fun _ _ _ _ h => h) (by rfl) (fun W hW => by clear hS hT hW; go_simp) hS hT ?_
                  simp only [List.setIfInBounds_toArray, List.set_cons_succ, List.set_cons_zero]
                  refine ltake 8 166 (.int .i64 (((ri' 0 m : Nat) : Int) + (y : Int))) rfl rfl (by kernel_rfl) (by kernel_rfl) (by kernel_rfl) rfl (by kernel_rfl) (by kernel_rfl) (fun _ _ _ _ h => h) (by rfl) (fun W hW => by clear hS hT hW; go_simp; rw [IntKind.wrap_i64]; omega) hS hT ?_
                  simp only [List.setIfInBounds_toArray, List.set_cons_succ, List.set_cons_zero]
                  refine ltake 9 167 (.int .i64 ((((ri' 0 m : Nat) : Int) + (y : Int)) % 26)) rfl rfl (by kernel_rfl) (by kernel_rfl) (by kernel_rfl) rfl (by kernel_rfl) (by kernel_rfl) (fun _ _ _ _ h => h) (by rfl) (fun W hW => by clear hS hT hW; go_simp; exact Int.tmod_eq_emod_of_nonneg (by omega)) hS hT ?_
                  simp only [List.setIfInBounds_toArray, List.set_cons_succ, List.set_cons_zero]
                  refine ltake 12 170 (.pointer (some ⟨q, 2, none⟩)) rfl rfl (by kernel_rfl) (by kernel_rfl) (by kernel_rfl) rfl (by kernel_rfl) (by kernel_rfl) (fun _ _ _ _ h => h) (by rfl) (fun W hW => by clear hS hT hW; go_simp) hS hT ?_
                  simp only [List.setIfInBounds_toArray, List.set_cons_succ, List.set_cons_zero]
                  refine ltake 13 171 (.slice xc m cc) rfl rfl (by kernel_rfl) (by kernel_rfl) (by kernel_rfl) rfl (by kernel_rfl) (by kernel_rfl) (fun _ _ _ _ h => h) (by rfl) (fun W hW => by have u := hW.n.cell (mac_2 _ _ _ _ _); clear hS hT hW; go_simp) hS hT ?_
                  simp only [List.setIfInBounds_toArray, List.set_cons_succ, List.set_cons_zero]
                  refine ttake 14 172 (.pointer (some ⟨w.heap.size, 2, none⟩)) rfl rfl (by kernel_rfl) (by kernel_rfl) (by kernel_rfl) rfl (fun _ _ _ _ h => h) (by rfl) (fun W hW => by clear hS hT hW; go_simp) (fun _ => hS) hT ?_
                  simp only [List.setIfInBounds_toArray, List.set_cons_succ, List.set_cons_zero]
                  refine ttake 15 173 (.slice (some ⟨bz, oz, none⟩) n capz) rfl rfl (by kernel_rfl) (by kernel_rfl) (by kernel_rfl) rfl (fun _ _ _ _ h => h) (by rfl) (fun W hW => by have u := hW.c2; clear hS hT hW; go_simp) (fun _ => hS) hT ?_
                  simp only [List.setIfInBounds_toArray, List.set_cons_succ, List.set_cons_zero]
                  refine ttake 16 174 (.int .i64 (m : Nat)) rfl rfl (by kernel_rfl) (by kernel_rfl) (by kernel_rfl) rfl (fun _ _ _ _ h => h) (by rfl) (fun W hW => by clear hS hT hW; go_simp) (fun _ => hS) hT ?_
                  simp only [List.setIfInBounds_toArray, List.set_cons_succ, List.set_cons_zero]
                  refine ttake 17 175 (.pointer (some ⟨bz, oz + m, none⟩)) rfl rfl (by kernel_rfl) (by kernel_rfl) (by kernel_rfl) rfl (fun _ _ _ _ h => h) (by rfl) (fun W hW => by clear hS hT hW; go_simp) (fun _ => hS) hT ?_
                  simp only [List.setIfInBounds_toArray, List.set_cons_succ, List.set_cons_zero]
                  refine ttake 18 176 (.int .i64 (st' 0 m : Nat)) rfl rfl (by kernel_rfl) (by kernel_rfl) (by kernel_rfl) rfl (fun _ _ _ _ h => h) (by rfl) (fun W hW => by have u := (hW.below.cell (p := ⟨bz, oz + m, none⟩) (cell_block hcs)).trans hcs; clear hS hT hW; go_simp) (fun _ => hS) hT ?_
                  simp only [List.setIfInBounds_toArray, List.set_cons_succ, List.set_cons_zero]
                  refine ttake 19 177 (.int .i64 (y : Nat)) rfl rfl (by kernel_rfl) (by kernel_rfl) (by kernel_rfl) rfl (fun _ _ _ _ h => h) (by rfl) (fun W hW => by clear hS hT hW; go_simp) (fun _ => hS) hT ?_
                  simp only [List.setIfInBounds_toArray, List.set_cons_succ, List.set_cons_zero]
                  refine ttake 20 178 (.int .i64 (((st' 0 m : Nat) : Int) + (y : Int))) rfl rfl (by kernel_rfl) (by kernel_rfl) (by kernel_rfl) rfl (fun _ _ _ _ h => h) (by rfl) (fun W hW => by clear hS hT hW; go_simp; rw [IntKind.wrap_i64]; omega) (fun _ => hS) hT ?_
                  simp only [List.setIfInBounds_toArray, List.set_cons_succ, List.set_cons_zero]
                  refine ttake 21 179 (.int .i64 ((((st' 0 m : Nat) : Int) + (y : Int)) % 26)) rfl rfl (by kernel_rfl) (by kernel_rfl) (by kernel_rfl) rfl (fun _ _ _ _ h => h) (by rfl) (fun W hW => by clear hS hT hW; go_simp; exact Int.tmod_eq_emod_of_nonneg (by omega)) (fun _ => hS) hT ?_
                  simp only [List.setIfInBounds_toArray, List.set_cons_succ, List.set_cons_zero]
                  obtain ⟨i1, hi1, hz1, hz2, hz3⟩ := x_info_parts v_info_int1
                  have hOB : ∀ p, (Value.slice xb m cb).ownBlock = some p → p < U.heap.size := fun p hp => (World.ownsRow.lt hx0.ob p hp).2
                  have hOC : ∀ p, (Value.slice xc m cc).ownBlock = some p → p < U.heap.size := fun p hp => (World.ownsRow.lt hx0.oc p hp).2
                  have e1 : (((ri' 0 m + y) % 26 : Nat) : Int) = (((ri' 0 m : Nat) : Int) + (y : Int)) % 26 := by omega
                  have e2 : (((st' 0 m + y) % 26 : Nat) : Int) = (((st' 0 m : Nat) : Int) + (y : Int)) % 26 := by omega
                  have E1 := (show Hid _ from e1)
                  have E2 := (show Hid _ from e2)
                  clear e1 e2 hS hT
                  refine late_two 10 22 (by kernel_rfl) ?_ ?_
                  · refine late_build 10 168 _ rfl (by rfl) rfl 23 3 (.tmp 167) rfl (.int .i64 ((((ri' 0 m : Nat) : Int) + (y : Int)) % 26)) rfl (run_build_i _ _) (hx0.alloc _).g (hx0.alloc _).g.mg ?_
                    simp only [List.setIfInBounds_toArray, List.set_cons_succ, List.set_cons_zero]
                    have hx1 := hx0.alloc (.cells #[(.int .i64 ((((ri' 0 m : Nat) : Int) + (y : Int)) % 26))] 3)
                    have hr1_1 := RowAt.new U 3 #[(.int .i64 ((((ri' 0 m : Nat) : Int) + (y : Int)) % 26))]
                    have hu1_1 : U.heap.size ≤ U.heap.size := Nat.le_refl _
                    refine late_two 11 22 (by kernel_rfl) ?_ ?_
                    · refine late_append 11 169 _ rfl (by rfl) rfl (.tmp 159) (.tmp 168) 23 rfl (q + 1) 3 i1 (.int .i64 0) 1 8 Try.underlying23 hi1 hz1 hz2 hz3 rfl (by decide) (.slice xb m cb) m (niL (fun i => (ri' 0 i + y) % 26) m) rfl hx1.ob ⟨U.heap.size, 0, none⟩ 1 1 [(.int .i64 ((((ri' 0 m : Nat) : Int) + (y : Int)) % 26))] rfl rfl (fun j u hu => by rw [Addr.add_mid, Nat.zero_add]; exact hr1_1.cell (by rw [← Array.getElem?_toList]; exact hu)) (fun u hu => by simp at hu; subst hu; rfl) (by unfold maxLen; omega) (by omega) (by have := hx1.lt; omega) (fun v1 w2 ho2 hg2 hat2 => ?_)
                      simp only [List.setIfInBounds_toArray, List.set_cons_succ, List.set_cons_zero]
                      have hx2 := hx1.growB hg2 (by rw [← E1.out] at ho2; exact ho2) hat2
                      refine ⟨hx2.g, hx2.g.mg, ?_⟩
                      refine ttake 24 182 (.pointer (some ⟨q, 1, none⟩)) rfl rfl (by kernel_rfl) (by kernel_rfl) (by kernel_rfl) rfl (fun _ _ _ _ h => h) (by rfl) (fun W hW => by clear hW; go_simp) (fun _ => hx2.g) hx2.g.mg ?_
                      simp only [List.setIfInBounds_toArray, List.set_cons_succ, List.set_cons_zero]
                      refine late_one 22 (by kernel_rfl) ?_
                      refine late_build 22 180 _ rfl (by rfl) rfl 23 3 (.tmp 179) rfl (.int .i64 ((((st' 0 m : Nat) : Int) + (y : Int)) % 26)) rfl (run_build_i _ _) (hx2.alloc _).g (hx2.alloc _).g.mg ?_
                      simp only [List.setIfInBounds_toArray, List.set_cons_succ, List.set_cons_zero]
                      have hx3 := hx2.alloc (.cells #[(.int .i64 ((((st' 0 m : Nat) : Int) + (y : Int)) % 26))] 3)
                      have hr2_3 := RowAt.new w2 3 #[(.int .i64 ((((st' 0 m : Nat) : Int) + (y : Int)) % 26))]
                      have hu2_3 : U.heap.size ≤ w2.heap.size := by have := hg2.size; simp at this; omega
                      refine late_one 23 (by kernel_rfl) ?_
                      refine late_append 23 181 _ rfl (by rfl) rfl (.tmp 171) (.tmp 180) 23 rfl (q + 1) 3 i1 (.int .i64 0) 1 8 Try.underlying23 hi1 hz1 hz2 hz3 rfl (by decide) (.slice xc m cc) m (niL (fun i => (st' 0 i + y) % 26) m) rfl hx3.oc ⟨w2.heap.size, 0, none⟩ 1 1 [(.int .i64 ((((st' 0 m : Nat) : Int) + (y : Int)) % 26))] rfl rfl (fun j u hu => by rw [Addr.add_mid, Nat.zero_add]; exact hr2_3.cell (by rw [← Array.getElem?_toList]; exact hu)) (fun u hu => by simp at hu; subst hu; rfl) (by unfold maxLen; omega) (by omega) (by have := hx3.lt; omega) (fun v2 w4 ho4 hg4 hat4 => ?_)
                      simp only [List.setIfInBounds_toArray, List.set_cons_succ, List.set_cons_zero]
                      have hx4 := hx3.growC hg4 (by rw [← E2.out] at ho4; exact ho4) hat4
                      refine ⟨hx4.g, hx4.g.mg, ?_⟩
                      obtain ⟨p1, d1, rfl⟩ := own_slice hx4.ob
                      obtain ⟨p2, d2, rfl⟩ := own_slice hx4.oc
                      refine late_one 25 (by kernel_rfl) (late_store 25 _ rfl (by rfl) rfl 23 (.tmp 182) (.tmp 169) rfl v_nums1 ⟨q, 1, none⟩ rfl p1 (m + 1) d1 rfl _ (hx4.g.n.cell (mac_1 _ _ _ _ _)) (hx4.g.n.frozen 1) (by kernel_rfl) (hx4.put1 (.slice p1 (m + 1) d1)).g.mg ?_)
                      try simp only [List.setIfInBounds_toArray, List.set_cons_succ, List.set_cons_zero]
                      have hy1 := hx4.put1 (.slice p1 (m + 1) d1)
                      refine ttake 26 183 (.pointer (some ⟨q, 2, none⟩)) rfl rfl (by kernel_rfl) (by kernel_rfl) (by kernel_rfl) rfl (fun _ _ _ _ h => h) (by rfl) (fun W hW => by clear hW; go_simp) (fun h => absurd (h.symm.trans (show cleanL _ _ _ = false by kernel_rfl)) (by decide)) hy1.g.mg ?_
                      simp only [List.setIfInBounds_toArray, List.set_cons_succ, List.set_cons_zero]
                      refine late_one 27 (by kernel_rfl) (late_store 27 _ rfl (by rfl) rfl 23 (.tmp 183) (.tmp 181) rfl v_nums1 ⟨q, 2, none⟩ rfl p2 (m + 1) d2 rfl _ (hy1.g.n.cell (mac_2 _ _ _ _ _)) (hy1.g.n.frozen 2) (by kernel_rfl) (hy1.put2 (.slice p2 (m + 1) d2)).g.mg ?_)
                      try simp only [List.setIfInBounds_toArray, List.set_cons_succ, List.set_cons_zero]
                      have HY2 := (show Hid _ from hy1.put2 (.slice p2 (m + 1) d2))
                      refine late_done (by kernel_rfl) ?_ _
                      refine NoPanic.normal ?_
                      clear hi1 hz1 hz2 hz3 hOB hOC hy1 hx0
                      go_wp2_with fail
                      go_roundw
                      case rel => exact ⟨m + 1, _, _, _, _, HLT.out, by go_num, HY2.out⟩
                      case measure => have := HLT.out; simp [intOf]; omega
                    · refine late_build 22 180 _ rfl (by rfl) rfl 23 3 (.tmp 179) rfl (.int .i64 ((((st' 0 m : Nat) : Int) + (y : Int)) % 26)) rfl (run_build_i _ _) (hx1.alloc _).g (hx1.alloc _).g.mg ?_
                      simp only [List.setIfInBounds_toArray, List.set_cons_succ, List.set_cons_zero]
                      have hx5 := hx1.alloc (.cells #[(.int .i64 ((((st' 0 m : Nat) : Int) + (y : Int)) % 26))] 3)
                      have hr1_5 := hr1_1.alloc (.cells #[(.int .i64 ((((st' 0 m : Nat) : Int) + (y : Int)) % 26))] 3)
                      have hr2_5 := RowAt.new (U.alloc (.cells #[(.int .i64 ((((ri' 0 m : Nat) : Int) + (y : Int)) % 26))] 3)) 3 #[(.int .i64 ((((st' 0 m : Nat) : Int) + (y : Int)) % 26))]
                      have hu2_5 : U.heap.size ≤ (U.alloc (.cells #[(.int .i64 ((((ri' 0 m : Nat) : Int) + (y : Int)) % 26))] 3)).heap.size := by simp
                      refine late_one 11 (by kernel_rfl) ?_
                      refine late_append 11 169 _ rfl (by rfl) rfl (.tmp 159) (.tmp 168) 23 rfl (q + 1) 3 i1 (.int .i64 0) 1 8 Try.underlying23 hi1 hz1 hz2 hz3 rfl (by decide) (.slice xb m cb) m (niL (fun i => (ri' 0 i + y) % 26) m) rfl hx5.ob ⟨U.heap.size, 0, none⟩ 1 1 [(.int .i64 ((((ri' 0 m : Nat) : Int) + (y : Int)) % 26))] rfl rfl (fun j u hu => by rw [Addr.add_mid, Nat.zero_add]; exact hr1_5.cell (by rw [← Array.getElem?_toList]; exact hu)) (fun u hu => by simp at hu; subst hu; rfl) (by unfold maxLen; omega) (by omega) (by have := hx5.lt; omega) (fun v1 w6 ho6 hg6 hat6 => ?_)
                      simp only [List.setIfInBounds_toArray, List.set_cons_succ, List.set_cons_zero]
                      have hx6 := hx5.growB hg6 (by rw [← E1.out] at ho6; exact ho6) hat6
                      refine ⟨hx6.g, hx6.g.mg, ?_⟩
                      refine ttake 24 182 (.pointer (some ⟨q, 1, none⟩)) rfl rfl (by kernel_rfl) (by kernel_rfl) (by kernel_rfl) rfl (fun _ _ _ _ h => h) (by rfl) (fun W hW => by clear hW; go_simp) (fun _ => hx6.g) hx6.g.mg ?_
                      simp only [List.setIfInBounds_toArray, List.set_cons_succ, List.set_cons_zero]
                      have hr2_6 : RowAt w6 (U.alloc (.cells #[(.int .i64 ((((ri' 0 m : Nat) : Int) + (y : Int)) % 26))] 3)).heap.size 3 #[(.int .i64 ((((st' 0 m : Nat) : Int) + (y : Int)) % 26))] := (hg6.block _ hr2_5.lt (fun e => by have := hOB _ e.symm; have := hu2_5; omega)).trans hr2_5
                      refine late_one 23 (by kernel_rfl) ?_
                      refine late_append 23 181 _ rfl (by rfl) rfl (.tmp 171) (.tmp 180) 23 rfl (q + 1) 3 i1 (.int .i64 0) 1 8 Try.underlying23 hi1 hz1 hz2 hz3 rfl (by decide) (.slice xc m cc) m (niL (fun i => (st' 0 i + y) % 26) m) rfl hx6.oc ⟨(U.alloc (.cells #[(.int .i64 ((((ri' 0 m : Nat) : Int) + (y : Int)) % 26))] 3)).heap.size, 0, none⟩ 1 1 [(.int .i64 ((((st' 0 m : Nat) : Int) + (y : Int)) % 26))] rfl rfl (fun j u hu => by rw [Addr.add_mid, Nat.zero_add]; exact hr2_6.cell (by rw [← Array.getElem?_toList]; exact hu)) (fun u hu => by simp at hu; subst hu; rfl) (by unfold maxLen; omega) (by omega) (by have := hx6.lt; omega) (fun v2 w7 ho7 hg7 hat7 => ?_)
                      simp only [List.setIfInBounds_toArray, List.set_cons_succ, List.set_cons_zero]
                      have hx7 := hx6.growC hg7 (by rw [← E2.out] at ho7; exact ho7) hat7
                      refine ⟨hx7.g, hx7.g.mg, ?_⟩
                      obtain ⟨p1, d1, rfl⟩ := own_slice hx7.ob
                      obtain ⟨p2, d2, rfl⟩ := own_slice hx7.oc
                      refine late_one 25 (by kernel_rfl) (late_store 25 _ rfl (by rfl) rfl 23 (.tmp 182) (.tmp 169) rfl v_nums1 ⟨q, 1, none⟩ rfl p1 (m + 1) d1 rfl _ (hx7.g.n.cell (mac_1 _ _ _ _ _)) (hx7.g.n.frozen 1) (by kernel_rfl) (hx7.put1 (.slice p1 (m + 1) d1)).g.mg ?_)
                      try simp only [List.setIfInBounds_toArray, List.set_cons_succ, List.set_cons_zero]
                      have hy1 := hx7.put1 (.slice p1 (m + 1) d1)
                      refine ttake 26 183 (.pointer (some ⟨q, 2, none⟩)) rfl rfl (by kernel_rfl) (by kernel_rfl) (by kernel_rfl) rfl (fun _ _ _ _ h => h) (by rfl) (fun W hW => by clear hW; go_simp) (fun h => absurd (h.symm.trans (show cleanL _ _ _ = false by kernel_rfl)) (by decide)) hy1.g.mg ?_
                      simp only [List.setIfInBounds_toArray, List.set_cons_succ, List.set_cons_zero]
                      refine late_one 27 (by kernel_rfl) (late_store 27 _ rfl (by rfl) rfl 23 (.tmp 183) (.tmp 181) rfl v_nums1 ⟨q, 2, none⟩ rfl p2 (m + 1) d2 rfl _ (hy1.g.n.cell (mac_2 _ _ _ _ _)) (hy1.g.n.frozen 2) (by kernel_rfl) (hy1.put2 (.slice p2 (m + 1) d2)).g.mg ?_)
                      try simp only [List.setIfInBounds_toArray, List.set_cons_succ, List.set_cons_zero]
                      have HY2 := (show Hid _ from hy1.put2 (.slice p2 (m + 1) d2))
                      refine late_done (by kernel_rfl) ?_ _
                      refine NoPanic.normal ?_
                      clear hi1 hz1 hz2 hz3 hOB hOC hy1 hx0
                      go_wp2_with fail
                      go_roundw
                      case rel => exact ⟨m + 1, _, _, _, _, HLT.out, by go_num, HY2.out⟩
                      case measure => have := HLT.out; simp [intOf]; omega
                  · refine late_build 22 180 _ rfl (by rfl) rfl 23 3 (.tmp 179) rfl (.int .i64 ((((st' 0 m : Nat) : Int) + (y : Int)) % 26)) rfl (run_build_i _ _) (hx0.alloc _).g (hx0.alloc _).g.mg ?_
                    simp only [List.setIfInBounds_toArray, List.set_cons_succ, List.set_cons_zero]
                    have hx8 := hx0.alloc (.cells #[(.int .i64 ((((st' 0 m : Nat) : Int) + (y : Int)) % 26))] 3)
                    have hr2_8 := RowAt.new U 3 #[(.int .i64 ((((st' 0 m : Nat) : Int) + (y : Int)) % 26))]
                    have hu2_8 : U.heap.size ≤ U.heap.size := Nat.le_refl _
                    refine late_one 10 (by kernel_rfl) ?_
                    refine late_build 10 168 _ rfl (by rfl) rfl 23 3 (.tmp 167) rfl (.int .i64 ((((ri' 0 m : Nat) : Int) + (y : Int)) % 26)) rfl (run_build_i _ _) (hx8.alloc _).g (hx8.alloc _).g.mg ?_
                    simp only [List.setIfInBounds_toArray, List.set_cons_succ, List.set_cons_zero]
                    have hx9 := hx8.alloc (.cells #[(.int .i64 ((((ri' 0 m : Nat) : Int) + (y : Int)) % 26))] 3)
                    have hr2_9 := hr2_8.alloc (.cells #[(.int .i64 ((((ri' 0 m : Nat) : Int) + (y : Int)) % 26))] 3)
                    have hr1_9 := RowAt.new (U.alloc (.cells #[(.int .i64 ((((st' 0 m : Nat) : Int) + (y : Int)) % 26))] 3)) 3 #[(.int .i64 ((((ri' 0 m : Nat) : Int) + (y : Int)) % 26))]
                    have hu1_9 : U.heap.size ≤ (U.alloc (.cells #[(.int .i64 ((((st' 0 m : Nat) : Int) + (y : Int)) % 26))] 3)).heap.size := by simp
                    refine late_one 11 (by kernel_rfl) ?_
                    refine late_append 11 169 _ rfl (by rfl) rfl (.tmp 159) (.tmp 168) 23 rfl (q + 1) 3 i1 (.int .i64 0) 1 8 Try.underlying23 hi1 hz1 hz2 hz3 rfl (by decide) (.slice xb m cb) m (niL (fun i => (ri' 0 i + y) % 26) m) rfl hx9.ob ⟨(U.alloc (.cells #[(.int .i64 ((((st' 0 m : Nat) : Int) + (y : Int)) % 26))] 3)).heap.size, 0, none⟩ 1 1 [(.int .i64 ((((ri' 0 m : Nat) : Int) + (y : Int)) % 26))] rfl rfl (fun j u hu => by rw [Addr.add_mid, Nat.zero_add]; exact hr1_9.cell (by rw [← Array.getElem?_toList]; exact hu)) (fun u hu => by simp at hu; subst hu; rfl) (by unfold maxLen; omega) (by omega) (by have := hx9.lt; omega) (fun v1 w10 ho10 hg10 hat10 => ?_)
                    simp only [List.setIfInBounds_toArray, List.set_cons_succ, List.set_cons_zero]
                    have hx10 := hx9.growB hg10 (by rw [← E1.out] at ho10; exact ho10) hat10
                    refine ⟨hx10.g, hx10.g.mg, ?_⟩
                    refine ttake 24 182 (.pointer (some ⟨q, 1, none⟩)) rfl rfl (by kernel_rfl) (by kernel_rfl) (by kernel_rfl) rfl (fun _ _ _ _ h => h) (by rfl) (fun W hW => by clear hW; go_simp) (fun _ => hx10.g) hx10.g.mg ?_
                    simp only [List.setIfInBounds_toArray, List.set_cons_succ, List.set_cons_zero]
                    have hr2_10 : RowAt w10 U.heap.size 3 #[(.int .i64 ((((st' 0 m : Nat) : Int) + (y : Int)) % 26))] := (hg10.block _ hr2_9.lt (fun e => by have := hOB _ e.symm; have := hu2_8; omega)).trans hr2_9
                    refine late_one 23 (by kernel_rfl) ?_
                    refine late_append 23 181 _ rfl (by rfl) rfl (.tmp 171) (.tmp 180) 23 rfl (q + 1) 3 i1 (.int .i64 0) 1 8 Try.underlying23 hi1 hz1 hz2 hz3 rfl (by decide) (.slice xc m cc) m (niL (fun i => (st' 0 i + y) % 26) m) rfl hx10.oc ⟨U.heap.size, 0, none⟩ 1 1 [(.int .i64 ((((st' 0 m : Nat) : Int) + (y : Int)) % 26))] rfl rfl (fun j u hu => by rw [Addr.add_mid, Nat.zero_add]; exact hr2_10.cell (by rw [← Array.getElem?_toList]; exact hu)) (fun u hu => by simp at hu; subst hu; rfl) (by unfold maxLen; omega) (by omega) (by have := hx10.lt; omega) (fun v2 w11 ho11 hg11 hat11 => ?_)
                    simp only [List.setIfInBounds_toArray, List.set_cons_succ, List.set_cons_zero]
                    have hx11 := hx10.growC hg11 (by rw [← E2.out] at ho11; exact ho11) hat11
                    refine ⟨hx11.g, hx11.g.mg, ?_⟩
                    obtain ⟨p1, d1, rfl⟩ := own_slice hx11.ob
                    obtain ⟨p2, d2, rfl⟩ := own_slice hx11.oc
                    refine late_one 25 (by kernel_rfl) (late_store 25 _ rfl (by rfl) rfl 23 (.tmp 182) (.tmp 169) rfl v_nums1 ⟨q, 1, none⟩ rfl p1 (m + 1) d1 rfl _ (hx11.g.n.cell (mac_1 _ _ _ _ _)) (hx11.g.n.frozen 1) (by kernel_rfl) (hx11.put1 (.slice p1 (m + 1) d1)).g.mg ?_)
                    try simp only [List.setIfInBounds_toArray, List.set_cons_succ, List.set_cons_zero]
                    have hy1 := hx11.put1 (.slice p1 (m + 1) d1)
                    refine ttake 26 183 (.pointer (some ⟨q, 2, none⟩)) rfl rfl (by kernel_rfl) (by kernel_rfl) (by kernel_rfl) rfl (fun _ _ _ _ h => h) (by rfl) (fun W hW => by clear hW; go_simp) (fun h => absurd (h.symm.trans (show cleanL _ _ _ = false by kernel_rfl)) (by decide)) hy1.g.mg ?_
                    simp only [List.setIfInBounds_toArray, List.set_cons_succ, List.set_cons_zero]
                    refine late_one 27 (by kernel_rfl) (late_store 27 _ rfl (by rfl) rfl 23 (.tmp 183) (.tmp 181) rfl v_nums1 ⟨q, 2, none⟩ rfl p2 (m + 1) d2 rfl _ (hy1.g.n.cell (mac_2 _ _ _ _ _)) (hy1.g.n.frozen 2) (by kernel_rfl) (hy1.put2 (.slice p2 (m + 1) d2)).g.mg ?_)
                    try simp only [List.setIfInBounds_toArray, List.set_cons_succ, List.set_cons_zero]
                    have HY2 := (show Hid _ from hy1.put2 (.slice p2 (m + 1) d2))
                    refine late_done (by kernel_rfl) ?_ _
                    refine NoPanic.normal ?_
                    clear hi1 hz1 hz2 hz3 hOB hOC hy1 hx0
                    go_wp2_with fail
                    go_roundw
                    case rel => exact ⟨m + 1, _, _, _, _, HLT.out, by go_num, HY2.out⟩
                    case measure => have := HLT.out; simp [intOf]; omega
            · obtain rfl : m = n := by omega
              have hnn : ¬ ((m : Nat) : Int) < ((m : Nat) : Int) := by omega
              have hwv := own_wheels hg.oa hg.rows
              have hbv := own_nums hg.ob
              have hcv := own_nums hg.oc
              have hon := mac_one (rf := rf) (pl := pl) (one_wheels hwv) (one_nums hbv) (one_nums hcv)
              have HGF := (show Hid _ from hg.g)
              have HWV := (show Hid _ from hwv)
              have HBV := (show Hid _ from hbv)
              have HCV := (show Hid _ from hcv)
              clear hg hwv hbv hcv HW1 HW2 HW3 HW4 HONE
              go_wp2_with (first | refine wpList_load_row rfl 27 _ rfl q rfl 27 (mac va vb vc rf pl) (0, 0) _ HGF.out.n Try.underlying27 rfl (by rw [mac_size]; exact v_info_mac) ?_)
              refine (H4.out _ va vb vc HGF.out.mg.below HWV.out HBV.out HCV.out).mono ?_
              rintro e W9 ⟨rfl, hb9⟩
              have h9 := HGF.out.step hb9
              clear H4 HGF hb9 hon HWV HBV HCV
              have c0 := h9.f.cell (i := 0) rfl
              have c1 := h9.f.cell (i := 1) rfl
              have f0 := h9.f.frozen 0
              have f1 := h9.f.frozen 1
              have hns : (S.toList == S.toList) = true := by simp
              have HF9 := (show Hid _ from (h9.mg.below.setCell (p := ⟨qf, 0, none⟩) (by have := h9.ne; show w.heap.size ≤ qf; omega) (.int .i64 0)).setCell (p := ⟨qf, 1, none⟩) (by have := h9.ne; show w.heap.size ≤ qf; omega) (.int .i64 0))
              clear h9
              go_wp2
              go_ret
              exact ⟨rfl, HF9.out⟩
end Go.Proofs.Ytibkcgjofcfoaaa
