/-
  BombeComplete, over the contracts of Write and Test.
-/
import Derived.Test.YtigamiehnjipcaaLBSo
import Derived.Test.YtigamiehnjipcaaRoWt
import Derived.Test.YtigamiehnjipcaaKSig
namespace Go.Proofs.Ytigamiehnjipcaa
open Go.RowKit PK Vg

/-- What plugs make of a crib says whose partners letters are. -/
theorem der_plugs {M : Om.Ma} (hM : Om.Ok M) {m : Bo.Mn} (hm : m.Ok) (hs : ∀ i, m.s i = chE (Om.unplugged M) i) (hy : ∀ i, i < m.k → m.y i = chE M i (m.x i)) {A : Nat} (hA : A < 26) {x y : Nat} (hd : Bo.Der m A (M.pl A) x y) : M.pl x = y := by
  have hU := Om.ok_unplugged hM
  have hb := hM.pl.lt A hA
  induction hd with
  | base => rfl
  | @sym x y h1 ih => rw [← ih]; exact hM.pl2 _ (h1.lt hm hA hb).1
  | @fwd i y hi h1 ih =>
    have hx := hm.x i hi
    rw [hy i hi, chE_plugs hM i hx, ih, hs i]
    exact hM.pl2 _ ((Om.now_perm hU _).lt _ (h1.lt hm hA hb).2)
  | @bwd i y hi h1 ih =>
    have hx := hm.x i hi
    have hpx := hM.pl.lt _ hx
    have hlt : chE (Om.unplugged M) i (M.pl (m.x i)) < 26 := (Om.now_perm hU _).lt _ hpx
    rw [hy i hi, chE_plugs hM i hx, hM.pl2 _ hlt] at ih
    rw [← ih, hs i]
    exact (Om.now_now hU _ hpx).symm
theorem plugs_res {M : Om.Ma} (hM : Om.Ok M) {m : Bo.Mn} (hm : m.Ok) (hs : ∀ i, m.s i = chE (Om.unplugged M) i) (hy : ∀ i, i < m.k → m.y i = chE M i (m.x i)) {A : Nat} (hA : A < 26) {ok : Bool} {p : Nat → Int} (h : Bo.Res m A (M.pl A) ok p) : ok = true ∧ ∀ c, c < 26 → p c = -1 ∨ p c = (M.pl c : Nat) := by
  rcases h with ⟨h1, h2, _⟩ | ⟨_, ⟨x, y, z, h1, h2, h3⟩, _⟩
  · refine ⟨h1, fun c hc => ?_⟩
    rcases h2 c hc with e | ⟨y, _, e, hd⟩
    · exact .inl e
    · exact .inr (by rw [e, der_plugs hM hm hs hy hA hd])
  · exact absurd ((der_plugs hM hm hs hy hA h1).symm.trans (der_plugs hM hm hs hy hA h2)) h3
theorem ok_at {ok : Nat → Bool} {b : Nat} (hb : b < 26) (h : ok b = true) : ∃ j, j < (okTo ok 26).length ∧ (okTo ok 26).getD j 0 = b := by
  have hm : b ∈ okTo ok 26 := by
    unfold okTo
    rw [List.mem_filter]
    exact ⟨by simpa using hb, h⟩
  obtain ⟨j, hj, e⟩ := List.mem_iff_getElem.1 hm
  exact ⟨j, hj, by rw [List.getD_eq_getElem?_getD, List.getElem?_eq_getElem hj, e]; rfl⟩
/-- A machine's variable and plugs'. -/
structure CmS (w W : World) (a b c : Value) (rf pl fq : Nat → Int) : Prop where
  mg : MgAt w W a b c rf pl
  qr : RowAt W (w.heap.size + 1) 25 (ints 26 fq)
theorem CmS.step {w W W' : World} {a b c : Value} {rf pl fq : Nat → Int} (h : CmS w W a b c rf pl fq) (hb : Below W.heap.size W W') : CmS w W' a b c rf pl fq := ⟨h.mg.step hb, h.qr.below hb h.qr.lt⟩
theorem CmS.new (w : World) (a b c : Value) (rf pl fq : Nat → Int) : CmS w ((w.alloc (.cells (mac a b c rf pl) 27)).alloc (.cells (ints 26 fq) 25)) a b c rf pl fq := by
  have h := RowAt.new (w.alloc (.cells (mac a b c rf pl) 27)) 25 (ints 26 fq)
  rw [World.size_alloc] at h
  exact ⟨(MgAt.new w a b c rf pl).alloc _, h⟩
theorem cm_pl {W : World} {q : Nat} {a b c : Value} {rf pl : Nat → Int} (h : RowAt W q 27 (mac a b c rf pl)) {i : Nat} (hi : i < 26) : W.cell? ⟨q, 29 + i, none⟩ = some (.int .i64 (pl i)) := by
  have h1 := mid_pl h
  exact h1 i _ (by rw [Array.getElem?_toList, ints_get _ hi])
set_option maxRecDepth 100000 in
set_option maxHeartbeats 1000000 in
theorem complete_bad1 (a b c : Value) (rf pl fq : Nat → Int) (cr S : ByteArray) (E A : Int) (hE : (E != 0) = true) (w : World) (HA : Hid (∀ W, Calls Try.prog 22 #[] W fun e w' => e = .returned (.bool true) ∧ Below W.heap.size W w')) (H1 : Hid (∀ W, Below w.heap.size w W → Calls Try.prog 23 #[.agg (mac a b c rf pl), .string cr] W fun e w' => e = .returned (.tuple #[.string S, .agg #[.int .i64 E, .int .i64 A]]) ∧ Below W.heap.size W w')) : Calls Try.prog 5 #[.agg (mac a b c rf pl), .string cr, .agg (ints 26 fq)] w fun e w' => e = .returned (.bool true) ∧ Below w.heap.size w w' := by
  have h0 := CmS.new w a b c rf pl fq
  go_enter Try.func5, Try.ntmps5
  go_upto_region 1 with fail
  generalize (w.alloc (.cells (mac a b c rf pl) 27)).alloc (.cells (ints 26 fq) 25) = W0 at *
  go_wp2_with fail
  refine (HA.out _).mono ?_
  rintro e W1 ⟨rfl, hb⟩
  have h1 := h0.step hb
  have hmr := h1.mg.row
  clear hb h0 HA
  go_wp2_with (first | refine wpList_load_row rfl 27 _ rfl w.heap.size rfl 27 (mac a b c rf pl) (0, 0) _ hmr Try.underlying27 rfl (by rw [mac_size]; exact v_info_mac) ?_)
  refine (H1.out _ h1.mg.below).mono ?_
  rintro e W2 ⟨rfl, hb⟩
  have h2 := FmAt.new (h1.mg.step hb) (.int .i64 E) (.int .i64 A)
  have HBE := (show Hid _ from h2.mg.below)
  have c0 := h2.f.cell (i := 0) rfl
  clear hb h1 H1 h2 hmr
  go_wp2
  go_ret
  exact ⟨rfl, HBE.out⟩
set_option maxRecDepth 100000 in
set_option maxHeartbeats 2000000 in
theorem complete_bad2 (a b c : Value) (rf pl fq : Nat → Int) (cr S : ByteArray) (hcr : cr.size < 1 ∨ 32 < cr.size) (w : World) (HA : Hid (∀ W, Calls Try.prog 22 #[] W fun e w' => e = .returned (.bool true) ∧ Below W.heap.size W w')) (H1 : Hid (∀ W, Below w.heap.size w W → Calls Try.prog 23 #[.agg (mac a b c rf pl), .string cr] W fun e w' => e = .returned (.tuple #[.string S, .agg #[.int .i64 0, .int .i64 0]]) ∧ Below W.heap.size W w'))
    (HT : Hid (∀ W, Below w.heap.size w W → Calls Try.prog 19 #[.agg (mac a b c rf pl), .string cr, .string S] W fun e w' => e = .returned (.tuple #[.slice none 0 0, .int .i64 5]) ∧ Below W.heap.size W w')) : Calls Try.prog 5 #[.agg (mac a b c rf pl), .string cr, .agg (ints 26 fq)] w fun e w' => e = .returned (.bool true) ∧ Below w.heap.size w w' := by
  have h0 := CmS.new w a b c rf pl fq
  go_enter Try.func5, Try.ntmps5
  go_upto_region 1 with fail
  generalize (w.alloc (.cells (mac a b c rf pl) 27)).alloc (.cells (ints 26 fq) 25) = W0 at *
  go_wp2_with fail
  refine (HA.out _).mono ?_
  rintro e W1 ⟨rfl, hb⟩
  have h1 := h0.step hb
  have hmr := h1.mg.row
  clear hb h0 HA
  go_wp2_with (first | refine wpList_load_row rfl 27 _ rfl w.heap.size rfl 27 (mac a b c rf pl) (0, 0) _ hmr Try.underlying27 rfl (by rw [mac_size]; exact v_info_mac) ?_)
  refine (H1.out _ h1.mg.below).mono ?_
  rintro e W2 ⟨rfl, hb⟩
  have h2 := FmAt.new (h1.mg.step hb) (.int .i64 0) (.int .i64 0)
  have c0 := h2.f.cell (i := 0) rfl
  have hmr2 := h2.mg.row
  clear hb h1 H1 hmr
  go_wp2_with (first | refine wpList_load_row rfl 27 _ rfl w.heap.size rfl 27 (mac a b c rf pl) (0, 0) _ hmr2 Try.underlying27 rfl (by rw [mac_size]; exact v_info_mac) ?_)
  refine (HT.out _ h2.mg.below).mono ?_
  rintro e W3 ⟨rfl, hb⟩
  have HBE := (show Hid _ from (h2.mg.step hb).below)
  clear hb h2 HT c0 hmr2
  by_cases hl : cr.size < 1
  · have hl2 : (cr.size : Int) < 1 := by omega
    clear hcr hl
    go_wp2
    go_ret
    exact ⟨rfl, HBE.out⟩
  · have hl2 : ¬ (cr.size : Int) < 1 := by omega
    have hl3 : (32 : Int) < (cr.size : Int) := by omega
    clear hcr hl
    go_wp2
    go_ret
    exact ⟨rfl, HBE.out⟩
set_option maxRecDepth 100000 in
set_option maxHeartbeats 8000000 in
theorem complete_run (a b c : Value) (ha : a.oneCell' = true) (hb0 : b.oneCell' = true) (hc0 : c.oneCell' = true) (rf : Nat → Int) (pl : Nat → Nat) (fq : Nat → Int) (cr te T2 : ByteArray) (E2 A2 : Int) (A : Nat) (hA : A < 26) (pr : Nat → Nat → Int) (L : List Nat) (hL26 : L.length ≤ 26) (F1 : ∃ j, j < L.length ∧ L.getD j 0 = pl A) (F2 : ∀ j, j < L.length → L.getD j 0 = pl A → ∀ c, c < 26 → pr (L.getD j 0) c = -1 ∨ pr (L.getD j 0) c = (pl c : Nat)) (F3 : E2 = 0 → T2 = te → ∃ j, j < L.length ∧ fq A = (L.getD j 0 : Nat)) (w : World) (HA : Hid (∀ W, Calls Try.prog 22 #[] W fun e w' => e = .returned (.bool true) ∧ Below W.heap.size W w'))
    (H1 : Hid (∀ W, Below w.heap.size w W → Calls Try.prog 23 #[.agg (mac a b c rf (Pm.up pl)), .string cr] W fun e w' => e = .returned (.tuple #[.string te, .agg #[.int .i64 0, .int .i64 0]]) ∧ Below W.heap.size W w'))
    (HT : Hid (∀ W, Below w.heap.size w W → Calls Try.prog 19 #[.agg (mac a b c rf (Pm.up pl)), .string cr, .string te] W fun e w' => ∃ v, e = .returned (.tuple #[v, .int .i64 0]) ∧ GsAt w' v (fun b => gsF A b (pr b)) L ∧ Below W.heap.size W w'))
    (H2 : Hid (∀ W, Below w.heap.size w W → Calls Try.prog 23 #[.agg (mac a b c rf fq), .string cr] W fun e w' => e = .returned (.tuple #[.string T2, .agg #[.int .i64 E2, .int .i64 A2]]) ∧ Below W.heap.size W w')) : Calls Try.prog 5 #[.agg (mac a b c rf (Pm.up pl)), .string cr, .agg (ints 26 fq)] w fun e w' => e = .returned (.bool true) ∧ Below w.heap.size w w' := by
  have h0 := CmS.new w a b c rf (Pm.up pl) fq
  have HONE : Hid ((mac a b c rf (Pm.up pl)).all (·.oneCell') = true) := mac_one ha hb0 hc0
  have HF1 := (show Hid _ from F1)
  have HF2 := (show Hid _ from F2)
  have HF3 := (show Hid _ from F3)
  have hz28 := o_zero b_zero_g28
  have hA2 : (A : Int) < 26 := by omega
  clear F1 F2 F3 ha hb0 hc0
  go_enter Try.func5, Try.ntmps5
  go_upto_region 1 with fail
  generalize (w.alloc (.cells (mac a b c rf (Pm.up pl)) 27)).alloc (.cells (ints 26 fq) 25) = W0 at *
  go_wp2_with fail
  refine (HA.out _).mono ?_
  rintro e W1 ⟨rfl, hb⟩
  have h1 := h0.step hb
  have hmr := h1.mg.row
  clear hb h0 HA
  go_wp2_with (first | refine wpList_load_row rfl 27 _ rfl w.heap.size rfl 27 (mac a b c rf (Pm.up pl)) (0, 0) _ hmr Try.underlying27 rfl (by rw [mac_size]; exact v_info_mac) ?_)
  refine (H1.out _ h1.mg.below).mono ?_
  rintro e W2 ⟨rfl, hb⟩
  have h2 := (h1.step hb).step ((Below.refl _ _).alloc (Nat.le_refl _) (.cells #[.int .i64 0, .int .i64 0] 39))
  have f2 := RowAt.new W2 39 #[.int .i64 0, .int .i64 0]
  have l2 := (h1.step hb).qr.lt
  clear hb h1 H1 hmr
  go_upto_region 4 with fail
  generalize W2.alloc (.cells #[.int .i64 0, .int .i64 0] 39) = V2 at *
  obtain ⟨q8, hq⟩ : ∃ x, x = W2.heap.size := ⟨_, rfl⟩
  rw [← hq] at f2 l2 ⊢
  clear hq
  have c0 := f2.cell (i := 0) rfl
  have hmr2 := h2.mg.row
  go_wp2_with (first | refine wpList_load_row rfl 27 _ rfl w.heap.size rfl 27 (mac a b c rf (Pm.up pl)) (0, 0) _ hmr2 Try.underlying27 rfl (by rw [mac_size]; exact v_info_mac) ?_)
  refine (HT.out _ h2.mg.below).mono ?_
  rintro e V ⟨v, rfl, hgs, hb⟩
  have hV := h2.step hb
  have fV := f2.below hb f2.lt
  clear hb h2 HT c0 hmr2 f2
  obtain ⟨av, cv, rfl, hgc⟩ := hgs
  have HGC := (show Hid (∀ j, j < L.length → ∃ b, av = some ⟨b, 0, none⟩ ∧ V.rangeAt b (j * 28) (ints 28 (gsF A (L.getD j 0) (pr (L.getD j 0)))).toList) from hgc)
  have HV := (show Hid (CmS w V a b c rf (Pm.up pl) fq) from hV)
  have HFV := (show Hid (RowAt V q8 39 #[.int .i64 0, .int .i64 0]) from fV)
  clear hgc hV fV
  go_wp2_with fail
  go_loopw [11, 54] (fun f i W => ∃ (j : Nat) (fd : Bool), j ≤ L.length ∧ i = .int .i64 (j : Nat) ∧ f = .bool fd ∧ (fd = false → ∀ n, n < j → L.getD n 0 ≠ pl A) ∧ Below V.heap.size V W) (fun _ i _ => ((L.length : Int) - intOf i).toNat)
  case atStart => exact ⟨0, false, by omega, rfl, rfl, fun _ n hn => by omega, Below.refl _ _⟩
  case round =>
    obtain ⟨j, fd, hj, rfl, rfl, hfd, hbe⟩ := hrel
    have HFD := (show Hid _ from hfd)
    clear hfd
    by_cases hlt : j < L.length
    · have HLT : Hid (j < L.length) := hlt
      have hlt2 : (j : Int) < (L.length : Int) := by omega
      obtain ⟨bg, rfl, hrg⟩ := HGC.out j hlt
      obtain ⟨B, hB⟩ : ∃ B, B = L.getD j 0 := ⟨_, rfl⟩
      rw [← hB] at hrg
      obtain ⟨p, hp⟩ : ∃ p, p = pr B := ⟨_, rfl⟩
      rw [← hp] at hrg
      have HRG : Hid (wr.rangeAt bg (j * 28) (ints 28 (gsF A B p)).toList) := fun i v hv => (hbe.cell (p := ⟨bg, j * 28 + i, none⟩) (cell_block (hrg i v hv))).trans (hrg i v hv)
      have HBE := (show Hid _ from hbe)
      have HBJ := (show Hid _ from hB)
      have HPJ := (show Hid _ from hp)
      clear hB hp hrg hbe hlt
      go_upto_region 13 with (first | refine wpList_load_mid rfl 54 _ rfl bg (j * 28) rfl (ints 28 (gsF A B p)).toList _ HRG.out Try.underlying54 rfl (by rw [Array.length_toList, ints_size]; exact b_size_guess) ?_ | refine wpList_store_row rfl 54 _ _ rfl wr.heap.size (ints 28 (gsF A B p)) rfl rfl 54 _ (RowAt.new wr _ _) (by rw [ints_size]; exact b_size_guess) (by simp only [ints_size]) (ints_one _ _) ?_)
      have hr12 := (RowAt.new wr 54 (ints 28 fun _ => 0)).row (ints 28 (gsF A B p))
      have hbx := Below.setRow ((Below.refl wr.heap.size wr).alloc (Nat.le_refl _) (.cells (ints 28 fun _ => 0) 54)) wr.heap.size (Nat.le_refl _) (ints 28 (gsF A B p))
      have HBX := (show Hid _ from HBE.out.trans (hbx.mono HBE.out.size))
      generalize (wr.alloc (.cells (ints 28 fun _ => 0) 54)).setRow wr.heap.size (ints 28 (gsF A B p)) = X1 at *
      obtain ⟨q13, hq⟩ : ∃ x, x = wr.heap.size := ⟨_, rfl⟩
      rw [← hq] at hr12 ⊢
      clear hq hbx HRG HBE
      have k0 := hr12.cell (ints_get (gsF A B p) (i := 0) (by decide))
      have k1 := hr12.cell (ints_get (gsF A B p) (i := 1) (by decide))
      rw [g_0] at k0
      rw [g_1] at k1
      have kp := cm_pl (HV.out.step HBX.out).mg.row hA
      have HNEXT : Hid (B ≠ pl A → fd = false → ∀ n, n < j + 1 → L.getD n 0 ≠ pl A) := fun h hf n hn => by
        by_cases e : n = j
        · rw [e, ← HBJ.out]; exact h
        · exact HFD.out hf n (by omega)
      simp only [Pm.up] at kp
      by_cases hBp : pl A = B
      · have HBP := (show Hid _ from hBp)
        have hbb : (((pl A : Nat) : Int) != ((B : Nat) : Int)) = false := by rw [hBp]; simp
        clear hBp
        obtain ⟨pa, hpa⟩ : ∃ x, x = pl A := ⟨_, rfl⟩
        rw [← hpa] at kp hbb
        clear hpa
        go_quiet (fail)
        have hr14 : RowAt (X1.drewN nq) q13 54 (ints 28 (gsF A B p)) := hr12
        have HB14 := (show Hid (Below V.heap.size V (X1.drewN nq)) from HBX.out.trans ⟨rfl, rfl, rfl, Nat.le_refl _, fun _ _ => rfl⟩)
        generalize X1.drewN nq = X2 at *
        clear k0 k1 kp hr12 HBX hbb HNEXT
        have HRG2 := (show Hid _ from g_range hr14)
        clear hr14
        go_wp2_with (first | refine wpList_load_mid rfl 25 _ rfl q13 2 rfl (ints 26 p).toList _ HRG2.out Try.underlying25 rfl (by rw [Array.length_toList, ints_size]; exact info_perm) ?_)
        clear HRG2
        go_loopw [68] (fun i W => ∃ k : Nat, k ≤ 26 ∧ i = .int .i64 (k : Nat) ∧ Below V.heap.size V W) (fun i _ => ((26 : Int) - intOf i).toNat)
        case atStart => exact ⟨0, by omega, rfl, HB14.out⟩
        case round =>
          clear HB14
          obtain ⟨k, hk, rfl, hbe⟩ := hrel
          have HBE := (show Hid _ from hbe)
          by_cases hltk : k < 26
          · have HLK : Hid (k < 26) := hltk
            have hltk2 : (k : Int) < 26 := by omega
            have hix := run_index_ints (P := Try.prog) 25 3 26 Try.underlying25 Try.underlying3 info_int p k hltk
            have hf2 := HF2.out j HLT.out (by rw [← HBJ.out]; exact HBP.out.symm) k hltk
            rw [← HBJ.out, ← HPJ.out] at hf2
            have kc := cm_pl (HV.out.step hbe).mg.row hltk
            simp only [Pm.up] at kc
            rcases hf2 with e | e
            · rw [e] at hix
              clear e kc hbe hltk
              go_wp2
              go_roundw
              case rel => exact ⟨k + 1, HLK.out, by go_num, HBE.out⟩
              case measure => have := HLK.out; simp [intOf]; omega
            · rw [e] at hix
              obtain ⟨u, hu⟩ : ∃ u, u = pl k := ⟨_, rfl⟩
              rw [← hu] at hix kc
              have u3 : (0 : Int) ≤ (u : Int) := by omega
              have uu : (((u : Nat) : Int) != ((u : Nat) : Int)) = false := by simp
              clear e hbe hltk hu
              go_wp2
              go_roundw
              case rel => exact ⟨k + 1, HLK.out, by go_num, HBE.out⟩
              case measure => have := HLK.out; simp [intOf]; omega
          · obtain rfl : k = 26 := by omega
            clear hltk hbe
            go_wp2
            go_roundw
            case rel => exact ⟨j + 1, true, HLT.out, by go_num, rfl, (fun h => by cases h), HBE.out⟩
            case measure => have := HLT.out; simp [intOf]; omega
      · have HNX := (show Hid _ from HNEXT.out (fun e => hBp e.symm))
        have hbb : (((pl A : Nat) : Int) != ((B : Nat) : Int)) = true := by simp; omega
        clear hBp HNEXT
        obtain ⟨pa, hpa⟩ : ∃ x, x = pl A := ⟨_, rfl⟩
        rw [← hpa] at kp hbb
        clear hpa
        go_quiet (fail)
        have HB14 := (show Hid (Below V.heap.size V (X1.drewN nq)) from HBX.out.trans ⟨rfl, rfl, rfl, Nat.le_refl _, fun _ _ => rfl⟩)
        generalize X1.drewN nq = X2 at *
        clear k0 k1 kp hr12 HBX hbb
        go_wp2
        go_roundw
        case rel => exact ⟨j + 1, fd, HLT.out, by go_num, rfl, HNX.out, HB14.out⟩
        case measure => have := HLT.out; simp [intOf]; omega
    · obtain rfl : j = L.length := by omega
      have hnn : ¬ ((L.length : Nat) : Int) < ((L.length : Nat) : Int) := by omega
      have hfT : fd = true := by
        cases fd
        · obtain ⟨n, hn, e⟩ := HF1.out
          exact absurd e (HFD.out rfl n hn)
        · rfl
      subst hfT
      have hVr := HV.out.step hbe
      have fr := RowAt.below HFV.out hbe (RowAt.lt HFV.out)
      have hmr := hVr.mg.row
      have hz55 := o_zero v_zero_mac
      clear hlt HFD
      go_upto_region 25 with (first | refine wpList_load_row rfl 27 _ rfl w.heap.size rfl 27 (mac a b c rf (Pm.up pl)) (0, 0) _ hmr Try.underlying27 rfl (by rw [mac_size]; exact v_info_mac) ?_ | refine wpList_store_row rfl 27 _ _ rfl wr.heap.size (mac a b c rf (Pm.up pl)) rfl rfl 27 _ (RowAt.new wr _ _) (by rw [mac_size]; exact v_info_mac) (by simp only [mac_size]) HONE.out ?_)
      have hbx := Below.setRow ((Below.refl wr.heap.size wr).alloc (Nat.le_refl _) (.cells (mac (.slice none 0 0) (.slice none 0 0) (.slice none 0 0) (fun _ => 0) (fun _ => 0)) 27)) wr.heap.size (Nat.le_refl _) (mac a b c rf (Pm.up pl))
      have h3 := hVr.step hbx
      have fr3 := fr.below hbx fr.lt
      have hn3 := (RowAt.new wr 27 (mac (.slice none 0 0) (.slice none 0 0) (.slice none 0 0) (fun _ => 0) (fun _ => 0))).row (mac a b c rf (Pm.up pl))
      have hl16 : q8 < wr.heap.size := fr.lt
      have HVB := (show Hid (Below V.heap.size V ((wr.alloc (.cells (mac (.slice none 0 0) (.slice none 0 0) (.slice none 0 0) (fun _ => 0) (fun _ => 0)) 27)).setRow wr.heap.size (mac a b c rf (Pm.up pl)))) from hbe.trans (hbx.mono hbe.size))
      have HVZ := (show Hid (V.heap.size ≤ wr.heap.size) from hbe.size)
      generalize (wr.alloc (.cells (mac (.slice none 0 0) (.slice none 0 0) (.slice none 0 0) (fun _ => 0) (fun _ => 0)) 27)).setRow wr.heap.size (mac a b c rf (Pm.up pl)) = V3 at *
      obtain ⟨q16, hq⟩ : ∃ x, x = wr.heap.size := ⟨_, rfl⟩
      rw [← hq] at hn3 hl16 HVZ ⊢
      clear hq hbx hVr fr hmr hz55 HONE hbe
      have hqr := h3.qr.range
      have hth := there_row hn3 (o := 29) (n := 26) (by rw [mac_size]; decide)
      go_upto_region 26 with (first | refine wpList_load_mid rfl 25 _ rfl (w.heap.size + 1) 0 rfl (ints 26 fq).toList _ hqr Try.underlying25 rfl (by rw [Array.length_toList, ints_size]; exact info_perm) ?_ | refine wpList_store_mid rfl 25 _ _ rfl q16 29 (ints 26 fq) rfl rfl (by rw [ints_size]; exact hth) (by rw [ints_size]; exact info_perm) (ints_one _ _) ?_)
      have hn4 := row_setCells (l := (ints 26 fq).toList) (o := 29) hn3
      rw [mac_plugs] at hn4
      have HVB4 : Hid (Below V.heap.size V (V3.setCells q16 29 (ints 26 fq).toList)) := below_setCells HVZ.out HVB.out
      have h4 := HV.out.step HVB4.out
      have fr4 := RowAt.below HFV.out HVB4.out (RowAt.lt HFV.out)
      generalize V3.setCells q16 29 (ints 26 fq).toList = V4 at *
      clear hqr hth hn3 h3 fr3 HVB HVZ
      go_wp2_with (first | refine wpList_load_row rfl 27 _ rfl q16 rfl 27 (mac a b c rf fq) (0, 0) _ hn4 Try.underlying27 rfl (by rw [mac_size]; exact v_info_mac) ?_)
      refine (H2.out _ h4.mg.below).mono ?_
      rintro e W5 ⟨rfl, hb⟩
      have HVB5 : Hid (Below V.heap.size V W5) := HVB4.out.trans (hb.mono HVB4.out.size)
      have fr5 := fr4.below hb fr4.lt
      have l8 := RowAt.lt HFV.out
      have c0 := fr5.cell (i := 0) rfl
      have c1 := fr5.cell (i := 1) rfl
      have g0 := fr5.frozen 0
      have g1 := fr5.frozen 1
      have hbw5 := (HV.out.step HVB5.out).mg.below
      have HBW : Hid (Below w.heap.size w ((W5.setCell ⟨q8, 0, none⟩ (.int .i64 E2)).setCell ⟨q8, 1, none⟩ (.int .i64 A2))) := (hbw5.setCell (p := ⟨q8, 0, none⟩) (by show w.heap.size ≤ q8; omega) _).setCell (p := ⟨q8, 1, none⟩) (by show w.heap.size ≤ q8; omega) _
      have hr8 : RowAt ((W5.setCell ⟨q8, 0, none⟩ (.int .i64 E2)).setCell ⟨q8, 1, none⟩ (.int .i64 A2)) q8 39 #[.int .i64 E2, .int .i64 A2] := (fr5.set 0 (.int .i64 E2)).set 1 (.int .i64 A2)
      have hqr5 : RowAt ((W5.setCell ⟨q8, 0, none⟩ (.int .i64 E2)).setCell ⟨q8, 1, none⟩ (.int .i64 A2)) (w.heap.size + 1) 25 (ints 26 fq) := ((HV.out.step HVB5.out).qr.setOther _ _ (by show w.heap.size + 1 ≠ q8; omega)).setOther _ _ (by show w.heap.size + 1 ≠ q8; omega)
      have HGC5 : Hid (∀ j, j < L.length → ∃ b, av = some ⟨b, 0, none⟩ ∧ W5.rangeAt b (j * 28) (ints 28 (gsF A (L.getD j 0) (pr (L.getD j 0)))).toList) := fun j hj => by
        obtain ⟨b, e, h⟩ := HGC.out j hj
        exact ⟨b, e, fun i v hv => (HVB5.out.cell (p := ⟨b, j * 28 + i, none⟩) (cell_block (h i v hv))).trans (h i v hv)⟩
      have HNQ : Hid (∀ j b, j < L.length → V.rangeAt b (j * 28) (ints 28 (gsF A (L.getD j 0) (pr (L.getD j 0)))).toList → b ≠ q8) := fun j b hj h e => by
        have h1 := h 27 _ (by rw [Array.getElem?_toList, ints_get _ (by decide)])
        rw [e, cell_of_row V q8 (j * 28 + 27) _ _ _ HFV.out] at h1
        simp at h1
      have HGZ : Hid (∀ j, j < L.length → ∃ b, av = some ⟨b, 0, none⟩ ∧ ((W5.setCell ⟨q8, 0, none⟩ (.int .i64 E2)).setCell ⟨q8, 1, none⟩ (.int .i64 A2)).rangeAt b (j * 28) (ints 28 (gsF A (L.getD j 0) (pr (L.getD j 0)))).toList) := fun j hj => by
        obtain ⟨b, e, h⟩ := HGC.out j hj
        have hne := HNQ.out j b hj h
        refine ⟨b, e, fun i v hv => ?_⟩
        rw [World.cell?_setCell_other _ _ _ _ (by intro e2; have h5 := congrArg Addr.block e2; simp at h5; omega), World.cell?_setCell_other _ _ _ _ (by intro e2; have h5 := congrArg Addr.block e2; simp at h5; omega)]
        exact (HVB5.out.cell (p := ⟨b, j * 28 + i, none⟩) (cell_block (h i v hv))).trans (h i v hv)
      clear HGC5 HNQ HGC HVB5 HVB4 fr4 fr5 h4 hn4 hbw5 hb l8
      go_upto_region 27 with fail
      generalize (W5.setCell ⟨q8, 0, none⟩ (.int .i64 E2)).setCell ⟨q8, 1, none⟩ (.int .i64 A2) = Z at *
      clear c0 c1 g0 g1
      have e0 := hr8.cell (i := 0) rfl
      by_cases hE : E2 = 0
      case neg =>
        have hEb : (E2 != 0) = true := by simpa using hE
        clear hE
        go_wp2
        go_ret
        exact ⟨rfl, HBW.out⟩
      by_cases hTT : T2 = te
      case neg =>
        have hEb : (E2 != 0) = false := by simpa using hE
        have hT := ba_ne hTT
        clear hE hTT
        go_wp2
        go_ret
        exact ⟨rfl, HBW.out⟩
      have HEX := (show Hid _ from HF3.out hE hTT)
      have hEb : (E2 != 0) = false := by simpa using hE
      have hT := ba_eq hTT
      clear hE hTT
      go_wp2_with fail
      clear e0 hT hEb hr8
      have HQ5 := (show Hid (RowAt Z (w.heap.size + 1) 25 (ints 26 fq)) from hqr5)
      have HZ := (show Hid (∀ j, j < L.length → ∃ b, av = some ⟨b, 0, none⟩ ∧ Z.rangeAt b (j * 28) (ints 28 (gsF A (L.getD j 0) (pr (L.getD j 0)))).toList) from HGZ.out)
      clear hqr5 HGZ
      go_loopw [105] (fun i W => ∃ j : Nat, j ≤ L.length ∧ i = .int .i64 (j : Nat) ∧ (∀ n, n < j → fq A ≠ (L.getD n 0 : Nat)) ∧ Below Z.heap.size Z W) (fun i _ => ((L.length : Int) - intOf i).toNat)
      case atStart => exact ⟨0, by omega, rfl, fun n hn => by omega, Below.refl _ _⟩
      case round =>
        obtain ⟨j, hj, rfl, hno, hbe⟩ := hrel
        have HNO := (show Hid _ from hno)
        clear hno
        by_cases hlt : j < L.length
        case neg =>
          obtain rfl : j = L.length := by omega
          obtain ⟨n, hn, e⟩ := HEX.out
          exact absurd e (HNO.out n hn)
        have HLT : Hid (j < L.length) := hlt
        have hlt2 : (j : Int) < (L.length : Int) := by omega
        obtain ⟨bg, rfl, hrg⟩ := HZ.out j hlt
        obtain ⟨B, hB⟩ : ∃ B, B = L.getD j 0 := ⟨_, rfl⟩
        rw [← hB] at hrg
        obtain ⟨p, hp⟩ : ∃ p, p = pr B := ⟨_, rfl⟩
        rw [← hp] at hrg
        have HRG : Hid (wr.rangeAt bg (j * 28) (ints 28 (gsF A B p)).toList) := fun i v hv => (hbe.cell (p := ⟨bg, j * 28 + i, none⟩) (cell_block (hrg i v hv))).trans (hrg i v hv)
        have HBE := (show Hid _ from hbe)
        have HBJ := (show Hid _ from hB)
        have HPJ := (show Hid _ from hp)
        clear hB hp hrg hbe hlt
        go_upto_region 32 with (first | refine wpList_load_mid rfl 54 _ rfl bg (j * 28) rfl (ints 28 (gsF A B p)).toList _ HRG.out Try.underlying54 rfl (by rw [Array.length_toList, ints_size]; exact b_size_guess) ?_ | refine wpList_store_row rfl 54 _ _ rfl wr.heap.size (ints 28 (gsF A B p)) rfl rfl 54 _ (RowAt.new wr _ _) (by rw [ints_size]; exact b_size_guess) (by simp only [ints_size]) (ints_one _ _) ?_)
        have hr12 := (RowAt.new wr 54 (ints 28 fun _ => 0)).row (ints 28 (gsF A B p))
        have hbx := Below.setRow ((Below.refl wr.heap.size wr).alloc (Nat.le_refl _) (.cells (ints 28 fun _ => 0) 54)) wr.heap.size (Nat.le_refl _) (ints 28 (gsF A B p))
        have HBX := (show Hid _ from HBE.out.trans (hbx.mono HBE.out.size))
        generalize (wr.alloc (.cells (ints 28 fun _ => 0) 54)).setRow wr.heap.size (ints 28 (gsF A B p)) = X1 at *
        obtain ⟨q19, hq⟩ : ∃ x, x = wr.heap.size := ⟨_, rfl⟩
        rw [← hq] at hr12 ⊢
        clear hq hbx HRG HBE
        have k0 := hr12.cell (ints_get (gsF A B p) (i := 0) (by decide))
        have k1 := hr12.cell (ints_get (gsF A B p) (i := 1) (by decide))
        rw [g_0] at k0
        rw [g_1] at k1
        have kq := RowAt.cell (RowAt.below HQ5.out HBX.out (RowAt.lt HQ5.out)) (ints_get fq hA)
        have HBW2 := (show Hid (Below w.heap.size w X1) from HBW.out.trans (HBX.out.mono HBW.out.size))
        have HNEXT : Hid (fq A ≠ (B : Nat) → ∀ n, n < j + 1 → fq A ≠ (L.getD n 0 : Nat)) := fun h n hn => by
          by_cases e : n = j
          · rw [e, ← HBJ.out]; exact h
          · exact HNO.out n (by omega)
        obtain ⟨z, hz0⟩ : ∃ z, z = fq A := ⟨_, rfl⟩
        rw [← hz0] at kq
        have HZ0 := (show Hid _ from hz0)
        clear hz0
        by_cases hz : z = (B : Nat)
        · have hzb : (z == ((B : Nat) : Int)) = true := by simpa using hz
          clear hz HNEXT
          go_quiet (fail)
          go_wp2
          go_ret
          exact ⟨rfl, HBW2.out.trans ⟨rfl, rfl, rfl, Nat.le_refl _, fun _ _ => rfl⟩⟩
        · have hzb : (z == ((B : Nat) : Int)) = false := by simpa using hz
          have HNX := (show Hid _ from HNEXT.out (by rw [← HZ0.out]; exact hz))
          clear hz HNEXT
          go_quiet (fail)
          go_wp2
          go_roundw
          case rel => exact ⟨j + 1, HLT.out, by go_num, HNX.out, HBX.out.trans ⟨rfl, rfl, rfl, Nat.le_refl _, fun _ _ => rfl⟩⟩
          case measure => have := HLT.out; simp [intOf]; omega
theorem comp_facts {g : Gm} {cr : ByteArray} {te : ByteArray} (hE : rwE g cr.data.toList = 0) (hte : te = ⟨(rwS g cr.data.toList).toArray⟩) : gE g = 0 ∧ ckE cr.data.toList = 0 ∧ bwE g cr.data.toList te.data.toList = (if cr.data.toList.length < 1 ∨ 32 < cr.data.toList.length then 5 else 0) ∧ ∀ i, i < cr.data.toList.length → num (te.data.toList.getD i 0) = chE (maOf g) i (num (cr.data.toList.getD i 0)) := by
  obtain ⟨h1, h2⟩ := rwE_zero hE
  obtain ⟨hM, _⟩ := ok_maOf h1
  have hls : Ls cr.data.toList ∧ cr.data.toList.length ≤ 65536 := by
    rcases ck_cases cr.data.toList with ⟨_, _, h3, h4⟩ | h3
    · exact ⟨ls_of h4, h3⟩
    · rw [h2] at h3; cases h3
  have hl : te.data.toList = Om.wr (maOf g) (maOf g).st cr.data.toList := by
    rw [hte]
    unfold rwS
    rw [if_neg (fun h => h hE)]
  have hlen : te.data.toList.length = cr.data.toList.length := by rw [hl, Om.wr_length]
  have hck : ckE te.data.toList = 0 := by
    rw [hl]
    exact (ck_of_ls (Om.wr_ls hM _ hls.1) (by rw [Om.wr_length]; exact hls.2)).1
  have hat : ∀ i, i < cr.data.toList.length → te.data.toList.getD i 0 = ltr (chE (maOf g) i (num (cr.data.toList.getD i 0))) := fun i hi => by
    rw [hl, wr_at _ _ _ i hi]
    rfl
  have hnx : ∀ i, i < cr.data.toList.length → num (cr.data.toList.getD i 0) < 26 := fun i hi => num_lt (hls.1.at hi)
  have hny : ∀ i, i < cr.data.toList.length → chE (maOf g) i (num (cr.data.toList.getD i 0)) < 26 := fun i hi => (Om.now_perm hM _).lt _ (hnx i hi)
  have hnum : ∀ i, i < cr.data.toList.length → num (te.data.toList.getD i 0) = chE (maOf g) i (num (cr.data.toList.getD i 0)) := fun i hi => by rw [hat i hi, num_ltr (hny i hi)]
  refine ⟨h1, h2, ?_, hnum⟩
  have hmt : mt te.data.toList cr.data.toList 0 = false := mt_false fun i hi e => by
    rw [Nat.zero_add] at e
    have h3 := hnum i hi
    rw [e] at h3
    exact Om.now_ne hM (Om.steps (maOf g) (maOf g).st (i + 1)) (hnx i hi) h3.symm
  unfold bwE bwR
  rw [h1, h2, hck, hlen, hmt]
  simp
/-- BombeComplete, of anything. -/
theorem bombecomplete_of (vm : Value) (g : Gm) (cr : ByteArray) (fq : Nat → Int) (w : World) (hm : MacAt w vm g) : Calls Try.prog 5 #[vm, .string cr, .agg (ints 26 fq)] w fun e w' => e = .returned (.bool true) ∧ Below w.heap.size w w' := by
  have H1 := fun W (hb : Below w.heap.size w W) => write8_any vm g cr W (hm.below hb)
  by_cases hE : rwE g cr.data.toList = 0
  case neg =>
    obtain ⟨a, b, c, rfl, _⟩ := hm
    exact complete_bad1 a b c g.rf g.pl fq cr _ _ _ (by simpa using hE) w alive10_any H1
  have hAt : rwAt g cr.data.toList = 0 := by
    obtain ⟨h1, h2⟩ := rwE_zero hE
    unfold rwAt
    rcases ck_cases cr.data.toList with ⟨_, h4, _⟩ | h3
    · simp [h1, h4]
    · rw [h2] at h3; cases h3
  obtain ⟨te, hte⟩ : ∃ te : ByteArray, te = ⟨(rwS g cr.data.toList).toArray⟩ := ⟨_, rfl⟩
  obtain ⟨hg0, hck, hbw, hnum⟩ := comp_facts hE hte
  rw [← hte, hE, hAt] at H1
  have s1 := Pl.size_len cr
  by_cases hl : cr.data.toList.length < 1 ∨ 32 < cr.data.toList.length
  · rw [if_pos hl] at hbw
    have HT := fun W (hb : Below w.heap.size w W) => test_wrong vm g cr te W (hm.below hb) (by rw [hbw]; decide)
    rw [hbw] at HT
    obtain ⟨a, b, c, rfl, _⟩ := hm
    exact complete_bad2 a b c g.rf g.pl fq cr te (by omega) w alive10_any H1 HT
  rw [if_neg hl] at hbw
  obtain ⟨A, ok, pr, ht⟩ := tst_exists hbw
  obtain ⟨hmo, hk32⟩ := mnu_ok hbw
  obtain ⟨hM, _⟩ := ok_maOf hg0
  have HT := fun W (hb : Below w.heap.size w W) => test_ok vm g cr te A ok pr ht W (hm.below hb)
  have hA : A < 26 := by rw [ht.a]; exact Bo.most_26 _
  obtain ⟨a, b, c, rfl, m1, m2, m3⟩ := hm
  have hmac : mac a b c g.rf g.pl = mac a b c g.rf (Pm.up (maOf g).pl) := mac_ext (fun _ _ => rfl) (perm_toNat (gE_zero hg0).2.2.2.2.2.1).2 a b c
  have H2 := fun W (hb : Below w.heap.size w W) => write8_any (.agg (mac a b c g.rf fq)) { g with pl := fq } cr W ⟨a, b, c, rfl, m1.below hb, m2.below hb, m3.below hb⟩
  have hky : ∀ i, i < (mnu g cr te).k → (mnu g cr te).y i = chE (maOf g) i ((mnu g cr te).x i) := fun i hi => hnum i (by have : i < cr.size := hi; omega)
  have hpA := hM.pl.lt A hA
  have hpr := plugs_res hM hmo (fun i => rfl) hky hA (ht.res _ hpA)
  rw [hmac] at H1 HT ⊢
  refine complete_run a b c (one_wheels m1) (one_nums m2) (one_nums m3) g.rf (maOf g).pl fq cr te _ _ _ A hA pr (okTo ok 26) (ok_len ok 26) (ok_at hpA hpr.1) (fun j hj e => ?_) (fun hE2 hT2 => ?_) w alive10_any H1 HT H2
  · rw [e]; exact hpr.2
  · obtain ⟨hg2, _, _, hnum2⟩ := comp_facts (g := { g with pl := fq }) hE2 rfl
    obtain ⟨hM2, _⟩ := ok_maOf hg2
    have hky2 : ∀ i, i < (mnu g cr te).k → (mnu g cr te).y i = chE (maOf { g with pl := fq }) i ((mnu g cr te).x i) := fun i hi => by
      have := hnum2 i (by have : i < cr.size := hi; omega)
      rw [hT2] at this
      exact this
    have hpA2 := hM2.pl.lt A hA
    have hpr2 := plugs_res hM2 hmo (fun i => rfl) hky2 hA (ht.res _ hpA2)
    obtain ⟨j, hj, e⟩ := ok_at hpA2 hpr2.1
    refine ⟨j, hj, ?_⟩
    rw [e]
    exact (perm_toNat (gE_zero hg2).2.2.2.2.2.1).2 A hA
end Go.Proofs.Ytigamiehnjipcaa
