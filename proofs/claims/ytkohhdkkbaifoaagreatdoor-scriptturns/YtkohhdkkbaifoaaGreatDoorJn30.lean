/-
  Several texts, joined: PrH, PrI.
-/
import Derived.Test.YtkohhdkkbaifoaaGreatDoorJn29
import Derived.Test.YtkohhdkkbaifoaaGreatDoorScY
/-
  For script.Print: a machine in words: the walk.
-/
namespace Go.Proofs.YtkohhdkkbaifoaaGreatDoor
open Go.RowKit PK Vg

theorem run_b4 (a b c d : ByteArray) (w : World) : (Instr.buildSlice 51 4 #[(0, .string a), (1, .string b), (2, .string c), (3, .string d)]).run Tryz.prog w = .ok (.slice (some ⟨w.heap.size, 0, none⟩) 4 4) (w.alloc (.cells #[.string a, .string b, .string c, .string d] 9)) := by kernel_rfl
/-- What is held while the wheels are named. -/
structure MwI (w W : World) (q : Nat) (MC : Array Value) (g : Gm) (m : Nat) : Prop where
  box : RowAt W q 29 MC
  out : RowAt W (q + 1) 9 (tab g.n (wnC g m))
  old : Below w.heap.size w W
  sz : w.heap.size = q
theorem MwI.calm {w W W' : World} {q : Nat} {MC : Array Value} {g : Gm} {m : Nat} (h : MwI w W q MC g m) (hb : Below W.heap.size W W') : MwI w W' q MC g m :=
  ⟨RowAt.below h.box hb (RowAt.lt h.box), RowAt.below h.out hb (RowAt.lt h.out), h.old.trans (hb.mono h.old.size), h.sz⟩
theorem MwI.put {w W : World} {q : Nat} {MC : Array Value} {g : Gm} {m : Nat} (h : MwI w W q MC g m) : MwI w (W.setCell ⟨q + 1, m, none⟩ (.string (wnm g m))) q MC g (m + 1) := by
  refine ⟨RowAt.setOther h.box ⟨q + 1, m, none⟩ _ (by show q ≠ q + 1; omega), ?_, h.old.setCell (p := ⟨q + 1, m, none⟩) (by have := h.sz; show w.heap.size ≤ q + 1; omega) _, h.sz⟩
  have := RowAt.set h.out m (.string (wnm g m))
  rw [tab_set] at this
  unfold wnC at this ⊢
  rw [fillV_step _ _ _ _ rfl] at this
  exact this
set_option maxRecDepth 100000 in
set_option maxHeartbeats 4000000 in
theorem machineWords_any (MC : Array Value) (g : Gm) (place : Nat) (w : World) (hm : MacAt w (.agg MC) g) (hg : gE g = 0) (ho : OldAt w) : Calls Tryz.prog 100 #[.agg MC, .int .i64 (place : Int)] w fun e w' => (mcE g ≠ 0 → e = .panicked [flt 7 (place : Int)]) ∧ (mcE g = 0 → ∃ v, e = .returned v ∧ OwT w' w.heap.size v (mcW g)) ∧ Below w.heap.size w w' := by
  obtain ⟨av, bv, cv, hM0, hwh, hri, hst⟩ := hm
  have hMC := Value.agg.inj hM0
  clear hM0
  obtain ⟨ga, gc, RR, rfl, -⟩ := id hwh
  have hn4 : g.n ≤ 4 := by have := gE_zero hg; omega
  have hmk := run_make_row' (P := Tryz.prog) 51 9 (.string ⟨#[]⟩) 16 Tryz.underlying51 str3 rfl .i64 .i64 g.n (by omega) (by omega)
  rw [made_tab] at hmk
  have HSZ : Hid (MC.size = 55) := by rw [Hid, hMC, mac_size]
  have HMC : Hid _ := hMC
  have HWH : Hid (WheelsAt w (.slice ga g.n gc) g.n g.wi g.nl g.no) := hwh
  have HRI : Hid _ := hri
  have HST : Hid _ := hst
  have HO : Hid (OldAt w) := ho
  have HG : Hid _ := hg
  obtain ⟨W0, hW0⟩ : ∃ W0, W0 = w.alloc (.cells MC 29) := ⟨_, rfl⟩
  have hq0 : RowAt W0 w.heap.size 29 MC := by rw [hW0]; exact RowAt.new w _ _
  have hz0 : W0.heap.size = w.heap.size + 1 := by rw [hW0]; simp
  have hb0 : Below w.heap.size w W0 := by rw [hW0]; exact (Below.refl _ w).alloc (Nat.le_refl _) _
  have c0 : W0.cell? ⟨w.heap.size, 0, none⟩ = some (.slice ga g.n gc) := RowAt.cell hq0 (by rw [hMC]; exact mac_0 _ _ _ _ _)
  obtain ⟨W1, hW1⟩ : ∃ W1, W1 = W0.alloc (.cells (tab g.n fun _ => .string ⟨#[]⟩) 9) := ⟨_, rfl⟩
  have hI1 : MwI w W1 w.heap.size MC g 0 := by
    refine ⟨by rw [hW1]; exact RowAt.alloc hq0 _, ?_, by rw [hW1]; exact hb0.alloc (by omega) _, rfl⟩
    have h := RowAt.new W0 9 (tab g.n fun _ => .string ⟨#[]⟩)
    rw [hz0] at h
    rw [hW1, show tab g.n (wnC g 0) = tab g.n (fun _ => .string ⟨#[]⟩) from tab_ext (fun i _ => by simp [wnC, fillV])]
    exact h
  have c1 : W1.cell? ⟨w.heap.size, 0, none⟩ = some (.slice ga g.n gc) := RowAt.cell hI1.box (by rw [hMC]; exact mac_0 _ _ _ _ _)
  have HI1 : Hid _ := hI1
  have HER : Hid (∀ j, j < g.n → whF (g.wi j) (g.nl j) (g.no j) = none → (∀ i, i < j → whF (g.wi i) (g.nl i) (g.no i) ≠ none) → wnE g = 7) := fun j hj h1 h2 => by
    unfold wnE
    rw [(firV_of (f := fun i => if whF (g.wi i) (g.nl i) (g.no i) = none then 7 else 0) hj (fun i hi => if_neg (h2 i hi)) (by simp [h1])).1]
    exact if_pos h1
  generalize hn : g.n = n at *
  clear hMC hwh hri hst ho hg hq0 hb0 RR hI1
  go_enter Tryz.func100, Tryz.ntmps100
  go_upto_region 1 with fail
  rw [← hW0]
  clear hW0
  go_upto_region 2 with fail
  rw [← hz0, ← hW1]
  rw [hz0]
  clear hW1 hmk c0 hz0
  go_wp2
  clear c1
  go_loopw [22] (fun i W => ∃ m : Nat, m ≤ n ∧ i = .int .i64 m ∧ Hid (MwI w W w.heap.size MC g m) ∧ Hid (∀ j, j < m → whF (g.wi j) (g.nl j) (g.no j) ≠ none)) (fun i _ => ((n : Int) - intOf i).toNat)
  case atStart => exact ⟨0, by omega, rfl, HI1, fun j hj => by omega⟩
  case round =>
    clear HI1
    obtain ⟨m, hm, rfl, HI, HJ⟩ := hrel
    by_cases hlt : m < n
    · obtain ⟨wb, wo, R, rfl, hrg, HNU⟩ : ∃ wb wo R, ga = some ⟨wb, wo, none⟩ ∧ wr.rangeAt wb (wo + m * 27) (whl (g.wi m) R).toList ∧ Hid (NumsAt wr R (g.nl m) (g.no m)) := by
        obtain ⟨b, o, cap, R, e, h1, h2⟩ := wheels_cell (HWH.out.below HI.out.old) hlt
        cases e
        exact ⟨b, o, R, rfl, h1, h2⟩
      have hmi : (m : Int) < (n : Int) := by omega
      have hrone : R.oneCell' = true := nums_one17 HNU.out
      obtain ⟨CS, hCS⟩ : ∃ CS, CS = whl (g.wi m) R := ⟨_, rfl⟩
      have HS2 : Hid (CS.size = 27) := by rw [Hid, hCS]; exact whl_size _ _
      have HON : Hid (CS.all (·.oneCell') = true) := by rw [Hid, hCS]; exact whl_one hrone
      rw [← hCS] at hrg
      have HCS : Hid (CS = whl (g.wi m) R) := hCS
      obtain ⟨X, hX⟩ : ∃ X, X = (wr.alloc (.cells (whl (fun _ => 0) (.slice none 0 0)) 97)).setRow wr.heap.size CS := ⟨_, rfl⟩
      have hxb : Below wr.heap.size wr X := by rw [hX]; exact PK.Below.setRow ((Below.refl _ wr).alloc (Nat.le_refl _) _) wr.heap.size (Nat.le_refl _) _
      have hxr : RowAt X wr.heap.size 97 CS := by rw [hX]; exact (RowAt.new wr _ _).row _
      have HWN : Hid _ := wheelName_any (g.wi m) R (g.nl m) (g.no m) X (HNU.out.below hxb) ((HO.out.below HI.out.old).below hxb)
      rw [← hCS] at HWN
      have HIX : Hid _ := HI.out.calm hxb
      have hz27 := o_zero v_zero_whl
      clear hCS hxb HI HNU hrone
      go_upto_region 5 with (first | refine wpList_load_arr rfl 97 _ rfl wb (wo + m * 27) rfl CS _ hrg Tryz.underlying97 rfl (by rw [HS2.out]; exact v_info_whl) ?_ | refine wpList_store_row rfl 97 _ _ rfl wr.heap.size CS rfl rfl 97 _ (RowAt.new wr _ _) (by rw [HS2.out]; exact v_info_whl) (by rw [HS2.out, whl_size]) HON.out ?_)
      rw [← hX]
      clear hX hrg
      go_wp2_with (first | refine wpList_load_row rfl 97 _ rfl wr.heap.size rfl 97 CS (0, 0) _ hxr Tryz.underlying97 rfl (by rw [HS2.out]; exact v_info_whl) ?_)
      refine Calls.mono HWN.out ?_
      rintro e V ⟨hsome, hnone, hb⟩
      have HIV : Hid _ := HIX.out.calm hb
      clear hb HIX HWN hxr
      cases hf : whF (g.wi m) (g.nl m) (g.no m) with
      | none =>
        obtain rfl := hnone hf
        have HPB : Hid _ := pass_bad 7 (place : Int) (by decide) V
        have HEE : Hid (wnE g = 7) := HER.out m hlt hf HJ.out
        clear hsome hnone hf
        go_wp2_with fail
        refine Calls.mono HPB.out ?_
        rintro e V2 ⟨rfl, hV2⟩
        rw [hV2]
        exact ⟨rfl, fun _ => rfl, fun h => absurd h (by unfold mcE; rw [HEE.out, if_pos (by decide)]; decide), HIV.out.old⟩
      | some i =>
        obtain rfl := hsome i hf
        have HPO : Hid _ := pass_ok (place : Int) V
        have HNI : Hid (whN i = wnm g m) := by rw [Hid]; unfold wnm; rw [hf]; rfl
        have HJ2 : Hid (∀ j, j < m + 1 → whF (g.wi j) (g.nl j) (g.no j) ≠ none) := fun j hj => by
          by_cases e : j = m
          · rw [e, hf]; exact fun h => by cases h
          · exact HJ.out j (by omega)
        have hput := HIV.out.put
        have hco := RowAt.cell HIV.out.out (tab_get (wnC g m) (show m < g.n by omega))
        have hfo := RowAt.frozen HIV.out.out m
        rw [← HNI.out] at hput
        have HPUT : Hid _ := hput
        clear hsome hnone hf HJ hput HIV
        generalize whN i = NM at *
        generalize wnC g m m = OLDV at *
        go_wp2_with fail
        refine Calls.mono HPO.out ?_
        rintro e V2 ⟨rfl, hV2⟩
        rw [hV2]
        clear hV2 V2 HPO
        go_wp2
        go_roundw
        case rel => exact ⟨m + 1, by omega, by go_num, HPUT, HJ2⟩
        case measure => simp [intOf]; omega
    · obtain rfl : m = n := by omega
      have hmi : ¬ (m : Int) < (m : Int) := by omega
      have HWZ : Hid (wnE g = 0) := wnE_zero (fun j hj => HJ.out j (by omega))
      have r3 : wr.rangeAt w.heap.size 3 (ints 26 g.rf).toList := fun j v hv => by
        rw [Array.getElem?_toList] at hv
        have hj : j < 26 := by
          have := (Array.getElem?_eq_some_iff.1 hv).1
          rw [ints_size] at this
          exact this
        rw [ints_get _ hj] at hv
        cases hv
        exact RowAt.cell HI.out.box (by rw [HMC.out, mac_rf _ _ _ _ _ hj])
      have HMN : Hid _ := mirrorName_any g.rf wr (HO.out.below HI.out.old)
      clear HJ HER
      go_wp2_with (first | refine wpList_load_arr rfl 27 _ rfl w.heap.size 3 rfl (ints 26 g.rf) _ r3 Tryz.underlying27 rfl (by rw [ints_size]; exact info_perm) ?_)
      refine Calls.mono HMN.out ?_
      rintro e V ⟨hsome, hnone, hb⟩
      have HIV : Hid _ := HI.out.calm hb
      clear hb HI HMN r3
      cases hf : mrF g.rf with
      | none =>
        obtain rfl := hnone hf
        have HPB : Hid _ := pass_bad 7 (place : Int) (by decide) V
        have HEE : Hid (mcE g = 7) := by rw [Hid]; unfold mcE; rw [HWZ.out, hf]; rfl
        clear hsome hnone hf
        go_wp2_with fail
        refine Calls.mono HPB.out ?_
        rintro e V2 ⟨rfl, hV2⟩
        rw [hV2]
        exact ⟨rfl, fun _ => rfl, fun h => absurd h (by rw [HEE.out]; decide), HIV.out.old⟩
      | some i =>
        obtain rfl := hsome i hf
        have HPO : Hid _ := pass_ok (place : Int) V
        have HNI : Hid (mrN i = mrN ((mrF g.rf).getD 0)) := by rw [Hid, hf]; rfl
        have HEE : Hid (mcE g = 0) := by rw [Hid]; unfold mcE; rw [HWZ.out, hf]; rfl
        clear hsome hnone hf HWZ
        generalize mrN i = NM at *
        go_wp2_with fail
        refine Calls.mono HPO.out ?_
        rintro e V2 ⟨rfl, hV2⟩
        rw [hV2]
        clear hV2 V2 HPO
        go_upto_region 11 with fail
        obtain ⟨rb, rc, hrv, -⟩ := id HRI.out
        obtain ⟨sb, sc, hsv, -⟩ := id HST.out
        subst hrv hsv
        have hD : MwI w V.drew w.heap.size MC g m := ⟨HIV.out.box, HIV.out.out, ⟨HIV.out.old.os, HIV.out.old.tape, HIV.out.old.output, HIV.out.old.size, HIV.out.old.block⟩, HIV.out.sz⟩
        have HCB : Hid (∀ W, MwI w W w.heap.size MC g m → W.cell? ⟨w.heap.size, 1, none⟩ = some (.slice rb g.rl rc) ∧ W.cell? ⟨w.heap.size, 2, none⟩ = some (.slice sb g.sl sc)) := fun W hW => ⟨RowAt.cell hW.box (by rw [HMC.out]; exact mac_1 _ _ _ _ _), RowAt.cell hW.box (by rw [HMC.out]; exact mac_2 _ _ _ _ _)⟩
        have cz := HCB.out _ hD
        have HNC : Hid (∀ (j : Nat) x, (mcN g)[j]? = some x → V.drew.cell? ⟨w.heap.size + 1, 0 + j, none⟩ = some (.string x)) := fun j x hx => by
          have hj : j < g.n := by
            have := (List.getElem?_eq_some_iff.1 hx).1
            rw [mcN_len] at this
            exact this
          rw [Nat.zero_add]
          have h1 := RowAt.cell hD.out (tab_get (wnC g m) hj)
          have h2 : wnC g m j = .string x := by
            unfold wnC fillV
            rw [if_pos (by omega)]
            unfold mcN at hx
            rw [List.getElem?_map, List.getElem?_range hj] at hx
            cases hx
            rfl
          rw [h2] at h1
          exact h1
        have HLR : Hid (g.rl ≤ 65536 ∧ ∀ i, i < g.rl → 0 ≤ g.ri i ∧ g.ri i < 26) := by
          obtain ⟨h1, _, ⟨h4, h5⟩, _⟩ := gE_zero HG.out
          rw [ins_iff] at h5
          exact ⟨by omega, fun i hi => by have := h5 i hi; omega⟩
        have HLS : Hid (g.sl ≤ 65536 ∧ ∀ i, i < g.sl → 0 ≤ g.st i ∧ g.st i < 26) := by
          obtain ⟨h1, _, _, ⟨h4, h5⟩, _⟩ := gE_zero HG.out
          rw [ins_iff] at h5
          exact ⟨by omega, fun i hi => by have := h5 i hi; omega⟩
        have HD : Hid _ := hD
        clear HIV hD
        refine wp_region_noPanic ?_
        refine wp_region_held_drew (S := fun W => W.cell? ⟨w.heap.size, 1, none⟩ = some (.slice rb g.rl rc) ∧ W.cell? ⟨w.heap.size, 2, none⟩ = some (.slice sb g.sl sc)) (by kernel_rfl) cz (fun hS => ?_)
        refine vtake 0 49 (.slice (some ⟨w.heap.size + 1, 0, none⟩) m m) rfl rfl (by kernel_rfl) (by kernel_rfl) (by kernel_rfl) (fun _ _ _ _ h => h) (by rfl) (fun W hW => by clear hS hW; go_simp) hS ?_
        simp only [List.setIfInBounds_toArray, List.set_cons_succ, List.set_cons_zero]
        refine vtake 2 51 (.string NM) rfl rfl (by kernel_rfl) (by kernel_rfl) (by kernel_rfl) (fun _ _ _ _ h => h) (by rfl) (fun W hW => by clear hS hW; go_simp) hS ?_
        simp only [List.setIfInBounds_toArray, List.set_cons_succ, List.set_cons_zero]
        refine vtake 3 52 (.pointer (some ⟨w.heap.size, 1, none⟩)) rfl rfl (by kernel_rfl) (by kernel_rfl) (by kernel_rfl) (fun _ _ _ _ h => h) (by rfl) (fun W hW => by clear hS hW; go_simp) hS ?_
        simp only [List.setIfInBounds_toArray, List.set_cons_succ, List.set_cons_zero]
        refine vtake 4 53 (.slice rb g.rl rc) rfl rfl (by kernel_rfl) (by kernel_rfl) (by kernel_rfl) (fun _ _ _ _ h => h) (by rfl) (fun W hW => by have u := hW.1; clear hS hW; go_simp) hS ?_
        simp only [List.setIfInBounds_toArray, List.set_cons_succ, List.set_cons_zero]
        refine vtake 6 55 (.pointer (some ⟨w.heap.size, 2, none⟩)) rfl rfl (by kernel_rfl) (by kernel_rfl) (by kernel_rfl) (fun _ _ _ _ h => h) (by rfl) (fun W hW => by clear hS hW; go_simp) hS ?_
        simp only [List.setIfInBounds_toArray, List.set_cons_succ, List.set_cons_zero]
        refine vtake 7 56 (.slice sb g.sl sc) rfl rfl (by kernel_rfl) (by kernel_rfl) (by kernel_rfl) (fun _ _ _ _ h => h) (by rfl) (fun W hW => by have u := hW.2; clear hS hW; go_simp) hS ?_
        simp only [List.setIfInBounds_toArray, List.set_cons_succ, List.set_cons_zero]
        refine wpAnyH_ready (rs := [1]) (by kernel_rfl) (by simp) ?_
        refine AllReadyH.cons (o := _) rfl (fun K hK => ?_) AllReadyH.nil
        rw [if_pos (by rfl)]
        go_simp
        have hj := join_any (w.heap.size + 1) 0 m (mcN g) ⟨#[44]⟩ V.drew HNC.out (RowAt.lt HD.out.out) (by rw [mcN_len]; omega) (by rw [mcN_len]; omega) (by have h := mcN_join g (by omega); exact Nat.le_trans h (by decide))
        rw [mcN_len, hn] at hj
        refine Calls.mono hj ?_
        rintro e Y1 ⟨rfl, hb1⟩
        have HI1 : Hid _ := HD.out.calm hb1
        refine hK.out _ _ (HCB.out _ HI1.out) (fun hS1 => ?_)
        clear hK hS K
        have hS := hS1
        clear hS1
        clear hj hb1
        refine wpAnyH_ready (rs := [5]) (by kernel_rfl) (by simp) ?_
        refine AllReadyH.cons (o := _) rfl (fun K hK => ?_) AllReadyH.nil
        rw [if_pos (by rfl)]
        go_simp
        refine Calls.mono (spelt_any _ g.rl g.ri HLR.out.1 HLR.out.2 Y1 (NumsAt.below HRI.out HI1.out.old)) ?_
        rintro e Y2 ⟨rfl, hb1⟩
        have HI2 : Hid _ := HI1.out.calm hb1
        refine hK.out _ _ (HCB.out _ HI2.out) (fun hS1 => ?_)
        clear hK hS K
        have hS := hS1
        clear hS1
        clear hb1
        refine wpAnyH_ready (rs := [8]) (by kernel_rfl) (by simp) ?_
        refine AllReadyH.cons (o := _) rfl (fun K hK => ?_) AllReadyH.nil
        rw [if_pos (by rfl)]
        go_simp
        refine Calls.mono (spelt_any _ g.sl g.st HLS.out.1 HLS.out.2 Y2 (NumsAt.below HST.out HI2.out.old)) ?_
        rintro e Y3 ⟨rfl, hb1⟩
        have HI3 : Hid _ := HI2.out.calm hb1
        refine hK.out _ _ (HCB.out _ HI3.out) (fun hS1 => ?_)
        clear hK hS K
        have hS := hS1
        clear hS1
        clear hb1 HI1 HI2 HD
        have hb4 := run_b4
        have HI4 : Hid _ := HI3.out.calm ((Below.refl _ Y3).alloc (Nat.le_refl _) (.cells #[.string ⟨(Lib.join ((mcN g).map (·.data.toList)) [44]).toArray⟩, .string NM, .string ⟨(sptL g.rl g.ri).toArray⟩, .string ⟨(sptL g.sl g.st).toArray⟩] 9))
        refine wpAnyH_ready (rs := [9]) (by kernel_rfl) (by simp) ?_
        refine AllReadyH.cons (o := _) rfl (fun K hK => ?_) AllReadyH.nil
        rw [if_pos (by rfl)]
        go_simp
        refine hK.out _ _ (HCB.out _ HI4.out) (fun hS1 => ?_)
        clear hK hS K
        have hS := hS1
        clear hS1
        refine wpAnyH_ready (rs := [10]) (by kernel_rfl) (by simp) ?_
        refine AllReadyH.cons (o := _) rfl (fun K hK => ?_) AllReadyH.nil
        rw [if_pos (by rfl)]
        go_simp
        refine hK.out _ _ (HCB.out _ HI4.out) (fun hS1 => ?_)
        clear hK hS K
        have hS := hS1
        clear hS1
        refine wpAnyH_done (by kernel_rfl) ?_ _
        refine NoPanic.normal ?_
        have hO4 : OwT (Y3.alloc (.cells #[.string ⟨(Lib.join ((mcN g).map (·.data.toList)) [44]).toArray⟩, .string NM, .string ⟨(sptL g.rl g.ri).toArray⟩, .string ⟨(sptL g.sl g.st).toArray⟩] 9)) w.heap.size (.slice (some ⟨Y3.heap.size, 0, none⟩) 4 4) (mc4 g) := by
          unfold mc4
          rw [← HNI.out]
          exact ⟨rfl, .inr ⟨Y3.heap.size, 4, _, rfl, HI3.out.old.size, RowAt.new Y3 _ _, Nat.le_refl _, by decide, rfl, rfl⟩⟩
        have HO4 : Hid _ := hO4
        have HLO : Hid (w.heap.size ≤ Y3.heap.size) := HI3.out.old.size
        clear hO4 HI3 hb4 hS cz
        generalize Y3.alloc (.cells #[.string ⟨(Lib.join ((mcN g).map (·.data.toList)) [44]).toArray⟩, .string NM, .string ⟨(sptL g.rl g.ri).toArray⟩, .string ⟨(sptL g.sl g.st).toArray⟩] 9) = X4 at *
        have r29 : X4.rangeAt w.heap.size 29 (ints 26 g.pl).toList := fun j v hv => by
          rw [Array.getElem?_toList] at hv
          have hj : j < 26 := by
            have := (Array.getElem?_eq_some_iff.1 hv).1
            rw [ints_size] at this
            exact this
          rw [ints_get _ hj] at hv
          cases hv
          exact RowAt.cell HI4.out.box (by rw [HMC.out, mac_pl _ _ _ _ _ hj])
        have HPP : Hid _ := pl_print HG.out X4
        have HPS : Hid (mcW g = mc4 g ++ (if plS g = [] then [] else [⟨(plS g).toArray⟩])) := rfl
        obtain ⟨i0, hi0, hz0, hz1, hz2⟩ := info17 str3
        go_wp2_with (first | refine wpList_load_arr rfl 27 _ rfl w.heap.size 29 rfl (ints 26 g.pl) _ r29 Tryz.underlying27 rfl (by rw [ints_size]; exact info_perm) ?_)
        refine Calls.mono HPP.out ?_
        rintro e V5 ⟨rfl, hb5⟩
        have HB5 : Hid (Below w.heap.size w V5) := HI4.out.old.trans (hb5.mono HI4.out.old.size)
        have HO5 : Hid (OwT V5 w.heap.size (.slice (some ⟨Y3.heap.size, 0, none⟩) 4 4) (mc4 g)) := OwT.below HO4.out hb5
        clear hb5 HPP r29 HI4 HO4
        by_cases hpl : plS g = []
        · have HW : Hid (mcW g = mc4 g) := by rw [Hid, HPS.out, if_pos hpl, List.append_nil]
          rw [hpl]
          clear hpl HPS
          go_wp2
          go_ret
          exact ⟨fun h => absurd HEE.out h, fun _ => ⟨_, rfl, by rw [HW.out]; exact HO5.out⟩, HB5.out⟩
        · have HW : Hid (mcW g = mc4 g ++ [⟨(plS g).toArray⟩]) := by rw [Hid, HPS.out, if_neg hpl]
          have hpe : (plS g).isEmpty = false := by simpa using hpl
          generalize plS g = PS at *
          have hown : V5.ownsRow w.heap.size 9 1 (.slice (some ⟨Y3.heap.size, 0, none⟩) 4 4) 4 ((mc4 g).map Value.string) := HO5.out
          have hv5 : w.heap.size ≤ V5.heap.size := HB5.out.size
          clear hpl HPS HO5
          go_wp2_with (first | (at_builtin; refine wpList_append_own_at _ rfl _ _ 51 rfl w.heap.size 9 i0 (.string ⟨#[]⟩) 1 16 Tryz.underlying51 hi0 hz0 hz1 hz2 rfl (by decide) _ _ _ rfl (World.ownsRow.alloc hown _) ⟨V5.heap.size, 0, none⟩ 1 1 [.string ⟨PS.toArray⟩] rfl rfl (cell_one_new _ _ _) (fun u hu => by simp at hu; subst hu; rfl) (by decide) (by decide) (by simp; omega) ?_; intro v6 w6 hown6 hgrow6 _ _; obtain ⟨g6, c6, rfl⟩ := own_form17 hown6; have HOWN : Hid _ := hown6; have HGR : Hid _ := hgrow6; clear hown6 hgrow6))
          have hal : Below V5.heap.size V5 (V5.alloc (.cells #[.string ⟨PS.toArray⟩] 9)) := (Below.refl _ V5).alloc (Nat.le_refl _) _
          have HB6 : Hid (Below w.heap.size w w6) := (HB5.out.trans (hal.mono hv5)).grown HGR.out (by rw [World.size_alloc]; omega) (fun r e => (World.ownsRow.lt hown r e).1)
          clear hal
          go_wp2
          go_ret
          exact ⟨fun h => absurd HEE.out h, fun _ => ⟨_, rfl, by rw [HW.out]; exact HOWN.out⟩, HB6.out⟩
end Go.Proofs.YtkohhdkkbaifoaaGreatDoor

/-
  For script.Print: a step in words.
-/
namespace Go.Proofs.YtkohhdkkbaifoaaGreatDoor
open Go.RowKit PK Vg

def woE (s : Sp) : Int := if s.k = 6 then mcE s.g else 0
def woW (s : Sp) : List ByteArray := [nmO s] ++ (if s.k = 1 ∨ s.k = 3 then [dcD s.n] else if s.k = 2 ∨ s.k = 4 then [s.key] else if s.k = 5 then mwL s.r s.L s.Z s.r else mcW s.g)
set_option maxRecDepth 100000 in
set_option maxHeartbeats 4000000 in
theorem wordsOf_any (CS : Array Value) (s : Sp) (place : Nat) (w : World) (hc : SqAt w (.agg CS) s) (hs : stE s = 0) (hnm : NmAt w) (ho : OldAt w) : Calls Tryz.prog 50 #[.agg CS, .int .i64 (place : Int)] w fun e w' => (woE s ≠ 0 → e = .panicked [flt 7 (place : Int)]) ∧ (woE s = 0 → ∃ v, e = .returned v ∧ OwT w' w.heap.size v (woW s)) ∧ Below w.heap.size w w' := by
  have hc0 := hc
  obtain ⟨mv, av, bv, cv, hM0, hmv, hav, hbv, hcv⟩ := hc
  have hCS := Value.agg.inj hM0
  clear hM0
  obtain ⟨W0, hW0⟩ : ∃ W0, W0 = w.alloc (.cells CS 31) := ⟨_, rfl⟩
  have hb0 : Below w.heap.size w W0 := by rw [hW0]; exact (Below.refl _ w).alloc (Nat.le_refl _) _
  have hq0 : RowAt W0 w.heap.size 31 CS := by rw [hW0]; exact RowAt.new w _ _
  have HSZ : Hid (CS.size = 59) := by rw [Hid, hCS]; exact spA_size _ _ _ _ _ _ _ _ _
  have HNO : Hid _ := nameOf_any s hs CS W0 (hc0.below hb0) (hnm.below hb0)
  have HCS : Hid _ := hCS
  have HMV : Hid (MatAt w mv s.r s.L s.Z) := hmv
  have HMC : Hid (MacAt w (.agg (mac av bv cv s.g.rf s.g.pl)) s.g) := ⟨av, bv, cv, rfl, hav, hbv, hcv⟩
  have HOL : Hid (OldAt w) := ho
  have HQ0 : Hid _ := hq0
  have HB0 : Hid (Below w.heap.size w W0) := hb0
  obtain ⟨i0, hi0, hz0, hz1, hz2⟩ := info17 str3
  clear hc0 hmv hav hbv hcv hCS hnm ho hb0
  go_enter Tryz.func50, Tryz.ntmps50
  go_upto_region 1 with fail
  rw [← hW0]
  clear hW0
  go_wp2_with (first | refine wpList_load_row rfl 31 _ rfl w.heap.size rfl 31 CS (0, 0) _ hq0 Tryz.underlying31 rfl (by rw [HSZ.out]; exact s_info) ?_)
  refine Calls.mono HNO.out ?_
  rintro e V ⟨rfl, hb⟩
  obtain ⟨V2, hV2⟩ : ∃ V2, V2 = V.alloc (.cells #[.string (nmO s)] 9) := ⟨_, rfl⟩
  have hbv := HB0.out.trans (hb.mono HB0.out.size)
  have hb2 : Below w.heap.size w V2 := by rw [hV2]; exact hbv.alloc hbv.size _
  have hown : V2.ownsRow w.heap.size 9 1 (.slice (some ⟨V.heap.size, 0, none⟩) 1 1) 1 [.string (nmO s)] := by rw [hV2]; exact OwT.first hbv.size (nmO s)
  have hq2 : RowAt V2 w.heap.size 31 CS := by rw [hV2]; exact RowAt.alloc (RowAt.below HQ0.out hb (RowAt.lt HQ0.out)) _
  have d0 : V2.cell? ⟨w.heap.size, 0, none⟩ = some (.int .i64 s.k) := RowAt.cell hq2 (by rw [HCS.out]; exact spA_0 _ _ _ _ _ _ _ _ _)
  have d1 : V2.cell? ⟨w.heap.size, 1, none⟩ = some (.int .i64 s.n) := RowAt.cell hq2 (by rw [HCS.out]; exact spA_1 _ _ _ _ _ _ _ _ _)
  have d2 : V2.cell? ⟨w.heap.size, 2, none⟩ = some (.string s.key) := RowAt.cell hq2 (by rw [HCS.out]; exact spA_2 _ _ _ _ _ _ _ _ _)
  have d3 : V2.cell? ⟨w.heap.size, 3, none⟩ = some mv := RowAt.cell hq2 (by rw [HCS.out]; exact spA_3 _ _ _ _ _ _ _ _ _)
  have HB2 : Hid (Below w.heap.size w V2) := hb2
  have hv2 : w.heap.size ≤ V2.heap.size := hb2.size
  have HQ2 : Hid _ := hq2
  clear hb hbv hb2 hq0 hq2 HNO HQ0 HB0
  go_upto_region 2 with fail
  rw [← hV2]
  clear hV2
  have hkk := st_kinds hs
  by_cases hk : s.k = 1
  · have HE0 : Hid (woE s = 0) := by rw [Hid]; unfold woE; rw [if_neg (by omega)]
    have HWW : Hid (woW s = [nmO s] ++ [dcD s.n]) := by rw [Hid]; unfold woW; rw [if_pos (by omega)]
    obtain ⟨n, hn⟩ : ∃ n : Nat, s.n = n := ⟨s.n.toNat, by have := st_move hs hk; omega⟩
    have hn100 : n < 100 := by have := st_move hs hk; omega
    have HIT : Hid _ := itoa_any n hn100 V2
    have HDC : Hid (dcD s.n = ⟨(Lib.decDigits n).toArray⟩) := by rw [Hid, hn]; rfl
    rw [HDC.out] at HWW
    rw [hk] at d0
    rw [hn] at d1
    generalize nmO s = NO at *
    clear hs hn
    go_wp2_with fail
    refine Calls.mono HIT.out ?_
    rintro e V3 ⟨rfl, hV3⟩
    rw [hV3]
    clear hV3 V3 HIT
    go_wp2_with (first | (at_builtin; refine wpList_append_own_at _ rfl _ _ 51 rfl w.heap.size 9 i0 (.string ⟨#[]⟩) 1 16 Tryz.underlying51 hi0 hz0 hz1 hz2 rfl (by decide) _ _ _ rfl (World.ownsRow.alloc hown _) ⟨V2.heap.size, 0, none⟩ 1 1 [.string ⟨(Lib.decDigits n).toArray⟩] rfl rfl (cell_one_new _ _ _) (fun u hu => by simp at hu; subst hu; rfl) (by unfold maxLen; omega) (by omega) (by simp; omega) ?_; intro v6 w6 hown6 hgrow6 _ _; obtain ⟨g6, c6, rfl⟩ := own_form17 hown6; have HOWN : Hid _ := hown6; have HGR : Hid _ := hgrow6; clear hown6 hgrow6))
    have hal : Below V2.heap.size V2 (V2.alloc (.cells #[.string ⟨(Lib.decDigits n).toArray⟩] 9)) := (Below.refl _ V2).alloc (Nat.le_refl _) _
    have HB6 : Hid (Below w.heap.size w w6) := (HB2.out.trans (hal.mono hv2)).grown HGR.out (by rw [World.size_alloc]; omega) (fun r e => (World.ownsRow.lt hown r e).1)
    clear hal
    go_wp2
    go_ret
    exact ⟨fun h => absurd HE0.out h, fun _ => ⟨_, rfl, by rw [HWW.out]; exact HOWN.out⟩, HB6.out⟩
  by_cases hk : s.k = 3
  · have HE0 : Hid (woE s = 0) := by rw [Hid]; unfold woE; rw [if_neg (by omega)]
    have HWW : Hid (woW s = [nmO s] ++ [dcD s.n]) := by rw [Hid]; unfold woW; rw [if_pos (by omega)]
    obtain ⟨n, hn⟩ : ∃ n : Nat, s.n = n := ⟨s.n.toNat, by have := st_rail hs hk; omega⟩
    have hn100 : n < 100 := by have := st_rail hs hk; omega
    have HIT : Hid _ := itoa_any n hn100 V2
    have HDC : Hid (dcD s.n = ⟨(Lib.decDigits n).toArray⟩) := by rw [Hid, hn]; rfl
    rw [HDC.out] at HWW
    rw [hk] at d0
    rw [hn] at d1
    generalize nmO s = NO at *
    clear hs hn
    go_wp2_with fail
    refine Calls.mono HIT.out ?_
    rintro e V3 ⟨rfl, hV3⟩
    rw [hV3]
    clear hV3 V3 HIT
    go_wp2_with (first | (at_builtin; refine wpList_append_own_at _ rfl _ _ 51 rfl w.heap.size 9 i0 (.string ⟨#[]⟩) 1 16 Tryz.underlying51 hi0 hz0 hz1 hz2 rfl (by decide) _ _ _ rfl (World.ownsRow.alloc hown _) ⟨V2.heap.size, 0, none⟩ 1 1 [.string ⟨(Lib.decDigits n).toArray⟩] rfl rfl (cell_one_new _ _ _) (fun u hu => by simp at hu; subst hu; rfl) (by unfold maxLen; omega) (by omega) (by simp; omega) ?_; intro v6 w6 hown6 hgrow6 _ _; obtain ⟨g6, c6, rfl⟩ := own_form17 hown6; have HOWN : Hid _ := hown6; have HGR : Hid _ := hgrow6; clear hown6 hgrow6))
    have hal : Below V2.heap.size V2 (V2.alloc (.cells #[.string ⟨(Lib.decDigits n).toArray⟩] 9)) := (Below.refl _ V2).alloc (Nat.le_refl _) _
    have HB6 : Hid (Below w.heap.size w w6) := (HB2.out.trans (hal.mono hv2)).grown HGR.out (by rw [World.size_alloc]; omega) (fun r e => (World.ownsRow.lt hown r e).1)
    clear hal
    go_wp2
    go_ret
    exact ⟨fun h => absurd HE0.out h, fun _ => ⟨_, rfl, by rw [HWW.out]; exact HOWN.out⟩, HB6.out⟩
  by_cases hk : s.k = 2
  · have HE0 : Hid (woE s = 0) := by rw [Hid]; unfold woE; rw [if_neg (by omega)]
    have HWW : Hid (woW s = [nmO s] ++ [s.key]) := by rw [Hid]; unfold woW; rw [if_neg (by omega), if_pos (by omega)]
    rw [hk] at d0
    generalize nmO s = NO at *
    generalize s.key = KEY at *
    clear hs
    go_wp2_with (first | (at_builtin; refine wpList_append_own_at _ rfl _ _ 51 rfl w.heap.size 9 i0 (.string ⟨#[]⟩) 1 16 Tryz.underlying51 hi0 hz0 hz1 hz2 rfl (by decide) _ _ _ rfl (World.ownsRow.alloc hown _) ⟨V2.heap.size, 0, none⟩ 1 1 [.string KEY] rfl rfl (cell_one_new _ _ _) (fun u hu => by simp at hu; subst hu; rfl) (by unfold maxLen; omega) (by omega) (by simp; omega) ?_; intro v6 w6 hown6 hgrow6 _ _; obtain ⟨g6, c6, rfl⟩ := own_form17 hown6; have HOWN : Hid _ := hown6; have HGR : Hid _ := hgrow6; clear hown6 hgrow6))
    have hal : Below V2.heap.size V2 (V2.alloc (.cells #[.string KEY] 9)) := (Below.refl _ V2).alloc (Nat.le_refl _) _
    have HB6 : Hid (Below w.heap.size w w6) := (HB2.out.trans (hal.mono hv2)).grown HGR.out (by rw [World.size_alloc]; omega) (fun r e => (World.ownsRow.lt hown r e).1)
    clear hal
    go_wp2
    go_ret
    exact ⟨fun h => absurd HE0.out h, fun _ => ⟨_, rfl, by rw [HWW.out]; exact HOWN.out⟩, HB6.out⟩
  by_cases hk : s.k = 4
  · have HE0 : Hid (woE s = 0) := by rw [Hid]; unfold woE; rw [if_neg (by omega)]
    have HWW : Hid (woW s = [nmO s] ++ [s.key]) := by rw [Hid]; unfold woW; rw [if_neg (by omega), if_pos (by omega)]
    rw [hk] at d0
    generalize nmO s = NO at *
    generalize s.key = KEY at *
    clear hs
    go_wp2_with (first | (at_builtin; refine wpList_append_own_at _ rfl _ _ 51 rfl w.heap.size 9 i0 (.string ⟨#[]⟩) 1 16 Tryz.underlying51 hi0 hz0 hz1 hz2 rfl (by decide) _ _ _ rfl (World.ownsRow.alloc hown _) ⟨V2.heap.size, 0, none⟩ 1 1 [.string KEY] rfl rfl (cell_one_new _ _ _) (fun u hu => by simp at hu; subst hu; rfl) (by unfold maxLen; omega) (by omega) (by simp; omega) ?_; intro v6 w6 hown6 hgrow6 _ _; obtain ⟨g6, c6, rfl⟩ := own_form17 hown6; have HOWN : Hid _ := hown6; have HGR : Hid _ := hgrow6; clear hown6 hgrow6))
    have hal : Below V2.heap.size V2 (V2.alloc (.cells #[.string KEY] 9)) := (Below.refl _ V2).alloc (Nat.le_refl _) _
    have HB6 : Hid (Below w.heap.size w w6) := (HB2.out.trans (hal.mono hv2)).grown HGR.out (by rw [World.size_alloc]; omega) (fun r e => (World.ownsRow.lt hown r e).1)
    clear hal
    go_wp2
    go_ret
    exact ⟨fun h => absurd HE0.out h, fun _ => ⟨_, rfl, by rw [HWW.out]; exact HOWN.out⟩, HB6.out⟩
  by_cases hk : s.k = 5
  · obtain ⟨hgm, hlm⟩ := (matErr_zero _ _ _).1 (st_hill hs hk)
    have HE0 : Hid (woE s = 0) := by rw [Hid]; unfold woE; rw [if_neg (by omega)]
    have HWW : Hid (woW s = [nmO s] ++ mwL s.r s.L s.Z s.r) := by rw [Hid]; unfold woW; rw [if_neg (by omega), if_neg (by omega), if_pos hk]
    obtain ⟨ma, mc, _, rfl, -⟩ := id HMV.out
    have hr4 := hgm.le
    have HMW : Hid _ := matrixWords_any _ s.r s.L s.Z hr4 (fun r hr => by rw [hlm r hr]; exact hr4) (fun r hr c hc => by rw [hlm r hr] at hc; have := hgm.num r hr c hc; omega) V2 (HMV.out.below HB2.out)
    have hlen : (mwL s.r s.L s.Z s.r).length ≤ 17 := by have := mwL_len (n := s.r) (Z := s.Z) (L := s.L) s.r (fun r hr => by rw [hlm r hr]; exact hr4); omega
    have hne : mwL s.r s.L s.Z s.r ≠ [] := by
      cases hr0 : s.r with
      | zero => have := hgm.pos; omega
      | succ y => rw [show mwL (y + 1) s.L s.Z (y + 1) = mwL (y + 1) s.L s.Z y ++ mwR (s.Z y) (s.L y) from rfl]; have hL : s.L y = y + 1 := by rw [hlm y (by omega), hr0]
                  intro h; have := congrArg List.length h; rw [List.length_append, mwR_len, hL] at this; simp at this
    rw [hk] at d0
    clear hs hgm hlm hkk
    go_wp2_with fail
    refine Calls.mono HMW.out ?_
    rintro e V3 ⟨v', rfl, hO3, hb3⟩
    have hown3 := own_step17 hown hb3
    obtain ⟨ng, ncap, rfl, _, hng, hcap, hnc⟩ := hO3.cells hne
    have HNC : Hid _ := hnc
    have HB3 : Hid (Below w.heap.size w V3) := HB2.out.trans (hb3.mono hv2)
    have hv3 : w.heap.size ≤ V3.heap.size := HB3.out.size
    clear hO3 hnc hb3 hown hcap hng
    generalize hLL : mwL s.r s.L s.Z s.r = LL at *
    clear hLL
    go_wp2_with (first | (at_builtin; refine wpList_append_own_at _ rfl _ _ 51 rfl w.heap.size 9 i0 (.string ⟨#[]⟩) 1 16 Tryz.underlying51 hi0 hz0 hz1 hz2 rfl (by decide) _ _ _ rfl hown3 ⟨ng, 0, none⟩ LL.length ncap (LL.map Value.string) rfl (by rw [List.length_map, Nat.mul_one]) (fun j u hu => by rw [List.getElem?_map] at hu; obtain ⟨x, hx, rfl⟩ := Option.map_eq_some_iff.1 hu; rw [Addr.add_mid]; exact HNC.out j x hx) (fun u hu => by obtain ⟨x, _, rfl⟩ := List.mem_map.1 hu; rfl) (by unfold maxLen; omega) (by omega) (by omega) ?_; intro v6 w6 hown6 hgrow6 _ _; obtain ⟨g6, c6, rfl⟩ := own_form17 hown6; have HOWN : Hid _ := hown6; have HGR : Hid _ := hgrow6; clear hown6 hgrow6))
    have HB6 : Hid (Below w.heap.size w w6) := HB3.out.grown HGR.out hv3 (fun r e => (World.ownsRow.lt hown3 r e).1)
    go_wp2
    go_ret
    exact ⟨fun h => absurd HE0.out h, fun _ => ⟨_, rfl, by rw [HWW.out]; unfold OwT; rw [List.length_append, List.map_append]; exact HOWN.out⟩, HB6.out⟩
  · have hk6 : s.k = 6 := by omega
    have hge := st_rotor hs hk6
    have HMW : Hid _ := machineWords_any _ s.g place V2 (HMC.out.below HB2.out) hge (HOL.out.below HB2.out)
    have r4 : V2.rangeAt w.heap.size 4 (mac av bv cv s.g.rf s.g.pl).toList := fun j v hv => RowAt.cell HQ2.out (by rw [HCS.out, spA_mac, ← Array.getElem?_toList]; exact hv)
    have HEM : Hid (woE s = mcE s.g) := by rw [Hid]; unfold woE; rw [if_pos hk6]
    have HWW : Hid (woW s = [nmO s] ++ mcW s.g) := by rw [Hid]; unfold woW; rw [if_neg (by omega), if_neg (by omega), if_neg (by omega)]
    have HMS : Hid ((mac av bv cv s.g.rf s.g.pl).size = 55) := mac_size _ _ _ _ _
    obtain ⟨MM, hMM⟩ : ∃ MM, MM = mac av bv cv s.g.rf s.g.pl := ⟨_, rfl⟩
    rw [← hMM] at HMW r4 HMS
    rw [hk6] at d0
    clear hs hkk hk hge hMM
    go_wp2_with (first | refine wpList_load_arr rfl 29 _ rfl w.heap.size 4 rfl MM _ r4 Tryz.underlying29 rfl (by rw [HMS.out]; exact v_info_mac) ?_)
    refine Calls.mono HMW.out ?_
    rintro e V3 ⟨hbad, hgood, hb3⟩
    by_cases hE : ¬ mcE s.g = 0
    · obtain rfl := hbad hE
      exact ⟨rfl, fun _ => rfl, fun h => absurd (HEM.out.symm.trans h) hE, HB2.out.trans (hb3.mono hv2)⟩
    have hE := Decidable.not_not.1 hE
    have HE0 : Hid (woE s = 0) := HEM.out.trans hE
    obtain ⟨v', rfl, hO3⟩ := hgood hE
    have hlen : (mcW s.g).length ≤ 17 := by
      unfold mcW
      rw [List.length_append]
      have h1 : (mc4 s.g).length = 4 := rfl
      split
      · rw [h1]; decide
      · rw [h1]; simp
    have hne : mcW s.g ≠ [] := by
      unfold mcW mc4
      intro h
      cases h
    clear hbad hgood HMW HEM r4
    have hown3 := own_step17 hown hb3
    obtain ⟨ng, ncap, rfl, _, hng, hcap, hnc⟩ := hO3.cells hne
    have HNC : Hid _ := hnc
    have HB3 : Hid (Below w.heap.size w V3) := HB2.out.trans (hb3.mono hv2)
    have hv3 : w.heap.size ≤ V3.heap.size := HB3.out.size
    clear hO3 hnc hb3 hown hcap hng
    generalize hLL : mcW s.g = LL at *
    clear hLL
    go_wp2_with (first | (at_builtin; refine wpList_append_own_at _ rfl _ _ 51 rfl w.heap.size 9 i0 (.string ⟨#[]⟩) 1 16 Tryz.underlying51 hi0 hz0 hz1 hz2 rfl (by decide) _ _ _ rfl hown3 ⟨ng, 0, none⟩ LL.length ncap (LL.map Value.string) rfl (by rw [List.length_map, Nat.mul_one]) (fun j u hu => by rw [List.getElem?_map] at hu; obtain ⟨x, hx, rfl⟩ := Option.map_eq_some_iff.1 hu; rw [Addr.add_mid]; exact HNC.out j x hx) (fun u hu => by obtain ⟨x, _, rfl⟩ := List.mem_map.1 hu; rfl) (by unfold maxLen; omega) (by omega) (by omega) ?_; intro v6 w6 hown6 hgrow6 _ _; obtain ⟨g6, c6, rfl⟩ := own_form17 hown6; have HOWN : Hid _ := hown6; have HGR : Hid _ := hgrow6; clear hown6 hgrow6))
    have HB6 : Hid (Below w.heap.size w w6) := HB3.out.grown HGR.out hv3 (fun r e => (World.ownsRow.lt hown3 r e).1)
    go_wp2
    go_ret
    exact ⟨fun h => absurd HE0.out h, fun _ => ⟨_, rfl, by rw [HWW.out]; unfold OwT; rw [List.length_append, List.map_append]; exact HOWN.out⟩, HB6.out⟩
end Go.Proofs.YtkohhdkkbaifoaaGreatDoor
