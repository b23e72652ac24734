/-
  BombeSound, over the contracts of Test and of the document's Scramblers.
-/
import Derived.Test.YtigamiehnjipcaaJn12
import Derived.Test.YtigamiehnjipcaaBRSc
import Derived.Test.YtigamiehnjipcaaJn14
namespace Go.Proofs.Ytigamiehnjipcaa
open Go.RowKit PK Vg

/-- What is so of a guess. -/
structure Sound (A : Nat) (b : Nat) (p : Nat → Int) (K : Nat) (X Y : Nat → Nat) (S : Nat → Nat → Nat) : Prop where
  hA : A < 26
  hB : b < 26
  ab : p A = (b : Nat)
  sym : ∀ c, c < 26 → p c = -1 ∨ ∃ k : Nat, k < 26 ∧ p c = (k : Nat) ∧ p k = (c : Nat)
  key : ∀ i, i < K → (p (X i) = -1 ∧ p (Y i) = -1) ∨ ∃ u v : Nat, u < 26 ∧ v < 26 ∧ p (X i) = (u : Nat) ∧ p (Y i) = (v : Nat) ∧ S i u = v
theorem b_zero_g28 : (Try.prog.info? 54).map (·.zero) = some (some (.agg (ints 28 fun _ => 0))) := by kernel_rfl
theorem g_0 (a b : Nat) (p : Nat → Int) : gsF a b p 0 = (a : Nat) := rfl
theorem g_1 (a b : Nat) (p : Nat → Int) : gsF a b p 1 = (b : Nat) := rfl
theorem g_2 (a b : Nat) (p : Nat → Int) (c : Nat) : gsF a b p (2 + c) = p c := by
  unfold gsF
  rw [if_neg (by omega), if_neg (by omega), show 2 + c - 2 = c by omega]
theorem g_range {W : World} {q a b : Nat} {p : Nat → Int} (h : RowAt W q 54 (ints 28 (gsF a b p))) : W.rangeAt q 2 (ints 26 p).toList := row_mid h _ _ fun i v hv => by
  obtain ⟨h1, rfl⟩ := at_ints hv
  rw [ints_get _ (by omega), g_2]
set_option maxRecDepth 100000 in
set_option maxHeartbeats 1000000 in
theorem sound_bad (a b c : Value) (rf pl : Nat → Int) (cr te : ByteArray) (E : Int) (hE : (E != 0) = true) (w : World) (HA : Hid (∀ W, Calls Try.prog 22 #[] W fun e w' => e = .returned (.bool true) ∧ Below W.heap.size W w')) (HT : Hid (∀ W, Below w.heap.size w W → Calls Try.prog 19 #[.agg (mac a b c rf pl), .string cr, .string te] W fun e w' => e = .returned (.tuple #[.slice none 0 0, .int .i64 E]) ∧ Below W.heap.size W w')) : Calls Try.prog 6 #[.agg (mac a b c rf pl), .string cr, .string te] w fun e w' => e = .returned (.bool true) ∧ Below w.heap.size w w' := by
  have h0 := MgAt.new w a b c rf pl
  go_enter Try.func6, Try.ntmps6
  go_wp2_with fail
  refine (HA.out _).mono ?_
  rintro e W1 ⟨rfl, hb⟩
  have h1 := h0.step hb
  have hmr := h1.row
  clear hb h0 HA
  go_wp2_with (first | refine wpList_load_row rfl 27 _ rfl w.heap.size rfl 27 (mac a b c rf pl) (0, 0) _ hmr Try.underlying27 rfl (by rw [mac_size]; exact v_info_mac) ?_)
  refine (HT.out _ h1.below).mono ?_
  rintro e W2 ⟨rfl, hb⟩
  have HBE := (show Hid _ from (h1.step hb).below)
  clear hb h1 HT hmr
  go_wp2
  go_ret
  exact ⟨rfl, HBE.out⟩
set_option maxRecDepth 100000 in
set_option maxHeartbeats 8000000 in
theorem sound_run (a b c : Value) (ha : a.oneCell' = true) (hb0 : b.oneCell' = true) (hc0 : c.oneCell' = true) (rf pl : Nat → Int) (cr te : ByteArray) (hcs : cr.size ≤ 32) (X Y : Nat → Nat) (hts : te.size = cr.size) (hX : ∀ i, i < cr.size → X i < 26 ∧ ∀ h : i < cr.size, (cr[i].toNat : Int) = (X i : Int) + 65) (hY : ∀ i, i < cr.size → Y i < 26 ∧ ∀ h : i < te.size, (te[i].toNat : Int) = (Y i : Int) + 65) (A : Nat) (pr : Nat → Nat → Int) (L : List Nat) (hL26 : L.length ≤ 26) (S : Nat → Nat → Nat) (hS : ∀ j, j < L.length → Sound A (L.getD j 0) (pr (L.getD j 0)) cr.size X Y S) (w : World) (HA : Hid (∀ W, Calls Try.prog 22 #[] W fun e w' => e = .returned (.bool true) ∧ Below W.heap.size W w'))
    (HT : Hid (∀ W, Below w.heap.size w W → Calls Try.prog 19 #[.agg (mac a b c rf pl), .string cr, .string te] W fun e w' => ∃ v, e = .returned (.tuple #[v, .int .i64 0]) ∧ GsAt w' v (fun b => gsF A b (pr b)) L ∧ Below W.heap.size W w'))
    (HSC : Hid (∀ W, Below w.heap.size w W → Calls Try.prog 25 #[.agg (mac a b c rf (Pm.up fun i => i)), .int .i64 (cr.size : Nat)] W fun e w' => ∃ v, e = .returned v ∧ KeysAt w' v cr.size S ∧ Below W.heap.size W w')) : Calls Try.prog 6 #[.agg (mac a b c rf pl), .string cr, .string te] w fun e w' => e = .returned (.bool true) ∧ Below w.heap.size w w' := by
  have h0 := MgAt.new w a b c rf pl
  have HS := (show Hid (∀ W, Calls Try.prog 24 #[] W fun e w' => e = .returned (.agg (ints 26 (Pm.up fun i => i))) ∧ Below W.heap.size W w') from same_any)
  have HONE : Hid ((mac a b c rf pl).all (·.oneCell') = true) := mac_one ha hb0 hc0
  have HSN := (show Hid _ from hS)
  have HX := (show Hid _ from hX)
  have HY := (show Hid _ from hY)
  have hz55 := o_zero v_zero_mac
  have hz28 := o_zero b_zero_g28
  clear ha hb0 hc0 hS hX hY
  go_enter Try.func6, Try.ntmps6
  go_wp2_with fail
  refine (HA.out _).mono ?_
  rintro e W1 ⟨rfl, hb⟩
  have h1 := h0.step hb
  have hmr := h1.row
  clear hb h0 HA
  go_wp2_with (first | refine wpList_load_row rfl 27 _ rfl w.heap.size rfl 27 (mac a b c rf pl) (0, 0) _ hmr Try.underlying27 rfl (by rw [mac_size]; exact v_info_mac) ?_)
  refine (HT.out _ h1.below).mono ?_
  rintro e W2 ⟨v, rfl, hgs, hb⟩
  have h2 := h1.step hb
  have hmr2 := h2.row
  clear hb h1 HT hmr
  go_upto_region 7 with (first | refine wpList_load_row rfl 27 _ rfl w.heap.size rfl 27 (mac a b c rf pl) (0, 0) _ hmr2 Try.underlying27 rfl (by rw [mac_size]; exact v_info_mac) ?_ | refine wpList_store_row rfl 27 _ _ rfl W2.heap.size (mac a b c rf pl) rfl rfl 27 _ (RowAt.new W2 _ _) (by rw [mac_size]; exact v_info_mac) (by simp only [mac_size]) HONE.out ?_)
  have hbx := Below.setRow ((Below.refl W2.heap.size W2).alloc (Nat.le_refl _) (.cells (mac (.slice none 0 0) (.slice none 0 0) (.slice none 0 0) (fun _ => 0) (fun _ => 0)) 27)) W2.heap.size (Nat.le_refl _) (mac a b c rf pl)
  have h3 := h2.step hbx
  have gs3 := hgs.below hbx
  have hn3 := (RowAt.new W2 27 (mac (.slice none 0 0) (.slice none 0 0) (.slice none 0 0) (fun _ => 0) (fun _ => 0))).row (mac a b c rf pl)
  have HGZ : Hid (W2.heap.size = W2.heap.size) := rfl
  obtain ⟨q9, hq⟩ : ∃ x, x = W2.heap.size := ⟨_, rfl⟩
  have HB2 := (show Hid (Below W2.heap.size W2 ((W2.alloc (.cells (mac (.slice none 0 0) (.slice none 0 0) (.slice none 0 0) (fun _ => 0) (fun _ => 0)) 27)).setRow W2.heap.size (mac a b c rf pl))) from hbx)
  have HGS := (show Hid (GsAt W2 v (fun b => gsF A b (pr b)) L) from hgs)
  have HBW2 := (show Hid (Below w.heap.size w W2) from h2.below)
  generalize (W2.alloc (.cells (mac (.slice none 0 0) (.slice none 0 0) (.slice none 0 0) (fun _ => 0) (fun _ => 0)) 27)).setRow W2.heap.size (mac a b c rf pl) = V3 at *
  have HQ9 := (show Hid (q9 = W2.heap.size) from hq)
  rw [← hq] at hn3 ⊢
  clear hq hbx h2 hgs hmr2 hz55 HONE HGZ h3 gs3
  go_wp2_with fail
  refine (HS.out _).mono ?_
  rintro e W4 ⟨rfl, hb⟩
  have hn4 := hn3.below hb hn3.lt
  have HB4 := (show Hid (Below W2.heap.size W2 W4) from HB2.out.trans (hb.mono HB2.out.size))
  clear hb hn3 HS HB2
  have hth := there_row hn4 (o := 29) (n := 26) (by rw [mac_size]; decide)
  go_upto_region 8 with (first | refine wpList_store_mid rfl 25 _ _ rfl q9 29 (ints 26 (Pm.up fun i => i)) rfl rfl (by rw [ints_size]; exact hth) (by rw [ints_size]; exact info_perm) (ints_one _ _) ?_)
  have hn5 := row_setCells (l := (ints 26 (Pm.up fun i => i)).toList) (o := 29) hn4
  rw [mac_plugs] at hn5
  have HB5 : Hid (Below W2.heap.size W2 (W4.setCells q9 29 (ints 26 (Pm.up fun i => i)).toList)) := below_setCells (by rw [HQ9.out]; exact Nat.le_refl _) HB4.out
  generalize W4.setCells q9 29 (ints 26 (Pm.up fun i => i)).toList = V5 at *
  clear hth hn4 HB4 HQ9
  go_wp2_with (first | refine wpList_load_row rfl 27 _ rfl q9 rfl 27 (mac a b c rf (Pm.up fun i => i)) (0, 0) _ hn5 Try.underlying27 rfl (by rw [mac_size]; exact v_info_mac) ?_)
  refine (HSC.out _ (HBW2.out.trans (HB5.out.mono HBW2.out.size))).mono ?_
  rintro e V ⟨vk, rfl, hks, hb⟩
  have HBV := (show Hid (Below W2.heap.size W2 V) from HB5.out.trans (hb.mono HB5.out.size))
  have hgV := HGS.out.below HBV.out
  have HBW := (show Hid (Below w.heap.size w V) from HBW2.out.trans (HBV.out.mono HBW2.out.size))
  clear hb HB5 HSC hn5 HGS HBV HBW2
  obtain ⟨av, cv, rfl, hgc⟩ := hgV
  obtain ⟨gk, ck, rfl, hkc⟩ := hks
  have HGC := (show Hid (∀ j, j < L.length → ∃ b, av = some ⟨b, 0, none⟩ ∧ V.rangeAt b (j * 28) (ints 28 (gsF A (L.getD j 0) (pr (L.getD j 0)))).toList) from hgc)
  have HKC := (show Hid (∀ i c, i < cr.size → c < 26 → V.cell? ⟨gk, i * 26 + c, none⟩ = some (.int .i64 (S i c : Nat))) from hkc)
  clear hgc hkc
  go_wp2_with fail
  go_loopw [41] (fun i W => ∃ j : Nat, j ≤ L.length ∧ i = .int .i64 (j : Nat) ∧ Below V.heap.size V W) (fun i _ => ((L.length : Int) - intOf i).toNat)
  case atStart => exact ⟨0, by omega, rfl, Below.refl _ _⟩
  case round =>
    obtain ⟨j, hj, rfl, hbe⟩ := hrel
    by_cases hlt : j < L.length
    case neg =>
      obtain rfl : j = L.length := by omega
      have hnn : ¬ ((L.length : Nat) : Int) < ((L.length : Nat) : Int) := by omega
      have HBE := (show Hid _ from HBW.out.trans (hbe.mono HBW.out.size))
      clear hbe hlt
      go_wp2
      go_ret
      exact ⟨rfl, HBE.out⟩
    have HLT : Hid (j < L.length) := hlt
    have hlt2 : (j : Int) < (L.length : Int) := by omega
    obtain ⟨bg, rfl, hrg⟩ := HGC.out j hlt
    have hsn := HSN.out j hlt
    obtain ⟨B, hB⟩ : ∃ B, B = L.getD j 0 := ⟨_, rfl⟩
    rw [← hB] at hrg hsn
    obtain ⟨p, hp⟩ : ∃ p, p = pr B := ⟨_, rfl⟩
    rw [← hp] at hrg hsn
    have HRG : Hid (wr.rangeAt bg (j * 28) (ints 28 (gsF A B p)).toList) := fun i v hv => (hbe.cell (p := ⟨bg, j * 28 + i, none⟩) (cell_block (hrg i v hv))).trans (hrg i v hv)
    have HBE := (show Hid _ from hbe)
    have HSD := (show Hid _ from hsn)
    clear hB hp hrg hbe hsn hlt
    go_upto_region 12 with (first | refine wpList_load_mid rfl 54 _ rfl bg (j * 28) rfl (ints 28 (gsF A B p)).toList _ HRG.out Try.underlying54 rfl (by rw [Array.length_toList, ints_size]; exact b_size_guess) ?_ | refine wpList_store_row rfl 54 _ _ rfl wr.heap.size (ints 28 (gsF A B p)) rfl rfl 54 _ (RowAt.new wr _ _) (by rw [ints_size]; exact b_size_guess) (by simp only [ints_size]) (ints_one _ _) ?_)
    have hr12 := (RowAt.new wr 54 (ints 28 fun _ => 0)).row (ints 28 (gsF A B p))
    have hbx := Below.setRow ((Below.refl wr.heap.size wr).alloc (Nat.le_refl _) (.cells (ints 28 fun _ => 0) 54)) wr.heap.size (Nat.le_refl _) (ints 28 (gsF A B p))
    have HBX := (show Hid _ from HBE.out.trans (hbx.mono HBE.out.size))
    generalize (wr.alloc (.cells (ints 28 fun _ => 0) 54)).setRow wr.heap.size (ints 28 (gsF A B p)) = X1 at *
    obtain ⟨q12, hq⟩ : ∃ x, x = wr.heap.size := ⟨_, rfl⟩
    rw [← hq] at hr12 ⊢
    clear hq hbx HRG HBE
    have k0 := hr12.cell (ints_get (gsF A B p) (i := 0) (by decide))
    have k1 := hr12.cell (ints_get (gsF A B p) (i := 1) (by decide))
    have k2 := hr12.cell (ints_get (gsF A B p) (i := 2 + A) (by have := HSD.out.hA; omega))
    rw [g_0] at k0
    rw [g_1] at k1
    rw [g_2, HSD.out.ab] at k2
    have a1 : ¬ (25 : Int) < (A : Int) := by have := HSD.out.hA; omega
    have a2 : (A : Int) < 26 := by omega
    have b1 : ¬ (25 : Int) < (B : Int) := by have := HSD.out.hB; omega
    have a3 : ¬ (A : Int) < 0 := by omega
    have b3 : ¬ (B : Int) < 0 := by omega
    have bb : (((B : Nat) : Int) != ((B : Nat) : Int)) = false := by simp
    go_quiet (fail)
    have hr13 : RowAt (X1.drewN nq) q12 54 (ints 28 (gsF A B p)) := hr12
    have HB13 := (show Hid (Below V.heap.size V (X1.drewN nq)) from HBX.out.trans ⟨rfl, rfl, rfl, Nat.le_refl _, fun _ _ => rfl⟩)
    generalize X1.drewN nq = X2 at *
    clear k0 k1 k2 a1 a2 b1 a3 b3 bb hr12 HBX
    have HRG2 := (show Hid _ from g_range hr13)
    have HR13 := (show Hid _ from hr13)
    clear hr13
    go_wp2_with (first | refine wpList_load_mid rfl 25 _ rfl q12 2 rfl (ints 26 p).toList _ HRG2.out Try.underlying25 rfl (by rw [Array.length_toList, ints_size]; exact info_perm) ?_)
    clear HRG2
    go_loopw [75] (fun i W => ∃ k : Nat, k ≤ 26 ∧ i = .int .i64 (k : Nat) ∧ RowAt W q12 54 (ints 28 (gsF A B p)) ∧ Below V.heap.size V W) (fun i _ => ((26 : Int) - intOf i).toNat)
    case atStart => exact ⟨0, by omega, rfl, HR13.out, HB13.out⟩
    case round =>
      clear HR13 HB13
      obtain ⟨k, hk, rfl, hr, hbe⟩ := hrel
      by_cases hlt : k < 26
      · have HLK : Hid (k < 26) := hlt
        have hltk : (k : Int) < 26 := by omega
        have hix := run_index_ints (P := Try.prog) 25 3 26 Try.underlying25 Try.underlying3 info_int p k hlt
        have HR := (show Hid _ from hr)
        have HBE := (show Hid _ from hbe)
        rcases HSD.out.sym k hlt with hp | ⟨u, hu, hp, hpu⟩
        · rw [hp] at hix
          clear hp hr hbe hlt
          go_wp2
          go_roundw
          case rel => exact ⟨k + 1, HLK.out, by go_num, HR.out, HBE.out⟩
          case measure => have := HLK.out; simp [intOf]; omega
        · rw [hp] at hix
          have cu := hr.cell (ints_get (gsF A B p) (i := 2 + u) (by omega))
          rw [g_2, hpu] at cu
          have u1 : ¬ (u : Int) < -1 := by omega
          have u2 : ¬ (25 : Int) < (u : Int) := by omega
          have u3 : (0 : Int) ≤ (u : Int) := by omega
          have u4 : (u : Int) < 26 := by omega
          have kk : (((k : Nat) : Int) != ((k : Nat) : Int)) = false := by simp
          clear hp hpu hr hbe hlt
          go_wp2
          go_roundw
          case rel => exact ⟨k + 1, HLK.out, by go_num, HR.out, HBE.out⟩
          case measure => have := HLK.out; simp [intOf]; omega
      · obtain rfl : k = 26 := by omega
        have hcv := fun w => Lib.run_convert_string_bytes (P := Try.prog) w 9 59 5 cr Try.underlying9 Try.underlying59 Try.underlying5
        clear hlt
        go_wp2_with fail
        have hbB : Below wr.heap.size wr (Lib.bytesWorld wr 5 cr) := below_bytes wr (Nat.le_refl _) 5 cr
        have hrB := hr.below hbB hr.lt
        have hbeB := hbe.trans (hbB.mono hbe.size)
        generalize Lib.bytesWorld wr 5 cr = V6 at *
        clear hcv hbB hr hbe
        go_loopw [101] (fun i W => ∃ n : Nat, n ≤ cr.size ∧ i = .int .i64 (n : Nat) ∧ RowAt W q12 54 (ints 28 (gsF A B p)) ∧ Below V.heap.size V W) (fun i _ => ((cr.size : Int) - intOf i).toNat)
        case atStart => exact ⟨0, by omega, rfl, hrB, hbeB⟩
        case round =>
          clear hrB hbeB
          obtain ⟨n, hn, rfl, hr, hbe⟩ := hrel
          by_cases hlt : n < cr.size
          · have HLN : Hid (n < cr.size) := hlt
            have hltn : (n : Int) < (cr.size : Int) := by omega
            have hltm : (n : Int) < (te.size : Int) := by omega
            obtain ⟨hxa, hxb⟩ := HX.out n hlt
            obtain ⟨hya, hyb⟩ := HY.out n hlt
            have ea := hxb hlt
            have eb := hyb (by omega)
            have hky := HSD.out.key n hlt
            have hks := HKC.out n
            obtain ⟨x, hx⟩ : ∃ x, x = X n := ⟨_, rfl⟩
            obtain ⟨y, hy⟩ : ∃ y, y = Y n := ⟨_, rfl⟩
            rw [← hx] at hxa ea hky
            rw [← hy] at hya eb hky
            have hx2 : (x : Int) < 26 := by omega
            have hy2 : (y : Int) < 26 := by omega
            have cx := hr.cell (ints_get (gsF A B p) (i := 2 + x) (by omega))
            have cy := hr.cell (ints_get (gsF A B p) (i := 2 + y) (by omega))
            rw [g_2] at cx cy
            have HR := (show Hid _ from hr)
            have HBE := (show Hid _ from hbe)
            rcases hky with ⟨e1, e2⟩ | ⟨u, v, hu, hv, e1, e2, e3⟩
            · rw [e1] at cx
              rw [e2] at cy
              clear hr hbe hxb hyb hx hy e1 e2 hks
              go_upto_region 23 with fail
              go_quiet (fail)
              have HRX : Hid (RowAt (wr.drewN nq) q12 54 (ints 28 (gsF A B p))) := HR.out
              have HBX := (show Hid (Below V.heap.size V (wr.drewN nq)) from HBE.out.trans ⟨rfl, rfl, rfl, Nat.le_refl _, fun _ _ => rfl⟩)
              generalize wr.drewN nq = X3 at *
              clear HR HBE cx cy
              go_wp2
              go_roundw
              case rel => exact ⟨n + 1, HLN.out, by go_num, HRX.out, HBX.out⟩
              case measure => have := HLN.out; simp [intOf]; omega
            · rw [e1] at cx
              rw [e2] at cy
              have ckey := hks u hlt hu
              rw [e3] at ckey
              have HCK := (show Hid (wr.cell? ⟨gk, n * 26 + u, none⟩ = some (.int .i64 (v : Nat))) from (hbe.cell (p := ⟨gk, n * 26 + u, none⟩) (cell_block ckey)).trans ckey)
              have u3 : (0 : Int) ≤ (u : Int) := by omega
              have v3 : (0 : Int) ≤ (v : Int) := by omega
              have u4 : (u : Int) < 26 := by omega
              have vv : (((v : Nat) : Int) != ((v : Nat) : Int)) = false := by simp
              clear hr hbe hxb hyb hx hy e1 e2 e3 hks ckey
              go_upto_region 23 with fail
              go_quiet (fail)
              have HRX : Hid (RowAt (wr.drewN nq) q12 54 (ints 28 (gsF A B p))) := HR.out
              have HBX := (show Hid (Below V.heap.size V (wr.drewN nq)) from HBE.out.trans ⟨rfl, rfl, rfl, Nat.le_refl _, fun _ _ => rfl⟩)
              have ckd : (wr.drewN nq).cell? ⟨gk, n * 26 + u, none⟩ = some (.int .i64 (v : Nat)) := HCK.out
              generalize wr.drewN nq = X3 at *
              clear HR HBE cx cy HCK
              go_wp2
              go_roundw
              case rel => exact ⟨n + 1, HLN.out, by go_num, HRX.out, HBX.out⟩
              case measure => have := HLN.out; simp [intOf]; omega
          · obtain rfl : n = cr.size := by omega
            have hnn : ¬ ((cr.size : Nat) : Int) < ((cr.size : Nat) : Int) := by omega
            have HBE := (show Hid _ from hbe)
            clear hr hbe hlt
            go_wp2
            go_roundw
            case rel => exact ⟨j + 1, HLT.out, by go_num, HBE.out⟩
            case measure => have := HLT.out; simp [intOf]; omega
theorem ok_mem {ok : Nat → Bool} {k j : Nat} (h : j < (okTo ok k).length) : (okTo ok k).getD j 0 < k ∧ ok ((okTo ok k).getD j 0) = true := by
  have hm : (okTo ok k).getD j 0 ∈ okTo ok k := by
    rw [List.getD_eq_getElem?_getD, List.getElem?_eq_getElem h]
    exact List.getElem_mem h
  unfold okTo at hm
  rw [List.mem_filter] at hm
  unfold okTo
  exact ⟨by simpa using hm.1, hm.2⟩
theorem res_sound {m : Bo.Mn} (hm : m.Ok) {A b : Nat} (hA : A < 26) (hb : b < 26) {p : Nat → Int} (h : Bo.Res m A b true p) : Sound A b p m.k m.x m.y m.s := by
  rcases h with ⟨_, hs, hc⟩ | ⟨h, _⟩
  · refine ⟨hA, hb, hc.base, fun c hc' => ?_, fun i hi => ?_⟩
    · rcases hs c hc' with e | ⟨k, hk, e, _⟩
      · exact .inl e
      · exact .inr ⟨k, hk, e, hc.sym c k hc' e⟩
    · rcases hs (m.x i) (hm.x i hi) with e | ⟨u, hu, e, _⟩
      · left
        refine ⟨e, ?_⟩
        rcases hs (m.y i) (hm.y i hi) with e2 | ⟨v, hv, e2, _⟩
        · exact e2
        · have := hc.bwd i v hi e2
          rw [e] at this
          omega
      · exact .inr ⟨u, m.s i u, hu, hm.s i hi u hu, e, hc.fwd i u hi e, rfl⟩
  · cases h
theorem tst_exists {g : Gm} {cr te : ByteArray} (h : bwE g cr.data.toList te.data.toList = 0) : ∃ A ok pr, Tst g cr te A ok pr := by
  obtain ⟨hm, _⟩ := mnu_ok h
  have hA := Bo.most_26 (fun c => (Bo.ml (mnu g cr te) c (mnu g cr te).k).length)
  have h1 : ∀ b : Nat, ∃ q : Bool × (Nat → Int), b < 26 → Bo.Res (mnu g cr te) (Bo.most (fun c => (Bo.ml (mnu g cr te) c (mnu g cr te).k).length) 26) b q.1 q.2 := fun b => by
    by_cases hb : b < 26
    · obtain ⟨o, p, hp⟩ := Bo.res_exists hm hA hb
      exact ⟨(o, p), fun _ => hp⟩
    · exact ⟨(false, fun _ => 0), fun h => absurd h hb⟩
  obtain ⟨q, hq⟩ := Classical.skolem.1 h1
  exact ⟨_, fun b => (q b).1, fun b => (q b).2, h, rfl, hq⟩
/-- BombeSound, of anything. -/
theorem bombesound_of (vm : Value) (g : Gm) (cr te : ByteArray) (w : World) (hm : MacAt w vm g) : Calls Try.prog 6 #[vm, .string cr, .string te] w fun e w' => e = .returned (.bool true) ∧ Below w.heap.size w w' := by
  by_cases hE : bwE g cr.data.toList te.data.toList = 0
  · obtain ⟨A, ok, pr, ht⟩ := tst_exists hE
    obtain ⟨hmo, hk32⟩ := mnu_ok hE
    have hmu := menu_of (S := chE (Om.unplugged (maOf g))) hE
    obtain ⟨hg0, _, _, hk1, _, _, _⟩ := bwE_zero hE
    have s1 := Pl.size_len cr
    have HT := fun W (hb : Below w.heap.size w W) => test_ok vm g cr te A ok pr ht W (hm.below hb)
    have hbg := gE_bare hg0
    obtain ⟨a, b, c, rfl, m1, m2, m3⟩ := hm
    have HSC := fun W (hb : Below w.heap.size w W) => rscr_any (.agg (mac a b c g.rf (Pm.up fun i => i))) (bare g) hbg cr.size (by have := hmu.le; omega) W ⟨a, b, c, rfl, m1.below hb, m2.below hb, m3.below hb⟩
    have hA : A < 26 := by rw [ht.a]; exact Bo.most_26 _
    refine sound_run a b c (one_wheels m1) (one_nums m2) (one_nums m3) g.rf g.pl cr te hmu.le _ _ hmu.sz (fun i hi => hmu.x i hi) (fun i hi => hmu.y i hi) A pr (okTo ok 26) (ok_len ok 26) (chE (Om.unplugged (maOf g))) (fun j hj => ?_) w alive10_any HT (fun W hb => (HSC W hb).mono ?_)
    · obtain ⟨h1, h2⟩ := ok_mem hj
      have h3 := ht.res _ h1
      rw [h2] at h3
      exact res_sound hmo hA h1 h3
    · rintro e w' ⟨v, h1, h2, h3⟩
      exact ⟨v, h1, keys_of_own h2 (by omega), h3⟩
  · have HT := fun W (hb : Below w.heap.size w W) => test_wrong vm g cr te W (hm.below hb) hE
    obtain ⟨a, b, c, rfl, _⟩ := hm
    exact sound_bad a b c g.rf g.pl cr te _ (by simpa using hE) w alive10_any HT
end Go.Proofs.Ytigamiehnjipcaa
