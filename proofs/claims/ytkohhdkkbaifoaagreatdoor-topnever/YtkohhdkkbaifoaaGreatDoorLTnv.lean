/-
  TopNever, walked.
-/
import Derived.Test.YtkohhdkkbaifoaaGreatDoorJn29
import Derived.Test.YtkohhdkkbaifoaaGreatDoorBoSm
namespace Go.Proofs.YtkohhdkkbaifoaaGreatDoor
open Go.RowKit PK Vg

theorem never_place {t c : List UInt8} {s : Sp} (w : World) (hs : stE s = 0) (k : s.k = 6) (hc : ckE (t ++ c) = 0) : plE (one s (t ++ c)) c = 0 ∧ ∃ j, j < (plL (one s (t ++ c)) c).length ∧ (plL (one s (t ++ c)) c).getD j 0 = t.length ∧ (plL (one s (t ++ c)) c).length ≤ 65537 := by
  obtain ⟨hl, hn⟩ := ls_ck hc
  obtain ⟨h1, h2⟩ := one_right w hs hc
  have hlc : Ls c := fun x hx => hl x (List.mem_append_right _ hx)
  rw [List.length_append] at hn h2
  have h3 : ckE c = 0 := ck_ls hlc (by omega)
  have hE : plE (one s (t ++ c)) c = 0 := by unfold plE; rw [if_neg (fun e => e h1)]; exact h3
  have hL : plL (one s (t ++ c)) c = plTo (one s (t ++ c)) c (t.length + 1) := by
    unfold plL
    rw [if_neg (fun e => e hE)]
    congr 1
    unfold plN
    omega
  have hm : mt (one s (t ++ c)) c t.length = false := mt_false fun i hi => by
    rw [one_6 k]
    have h4 := Om.wr_ne (ok_maOf (st_rotor hs k)).1 (maOf s.g).st hl (t.length + i) (by rw [List.length_append]; omega)
    have h5 : (t ++ c).getD (t.length + i) 0 = c.getD i 0 := by
      simp only [List.getD]
      rw [List.getElem?_append_right (by omega), Nat.add_sub_cancel_left]
    rw [h5] at h4
    exact h4
  refine ⟨hE, (plTo (one s (t ++ c)) c t.length).length, ?_, ?_, ?_⟩
  · rw [hL, plTo_yes hm, List.length_append]; simp
  · rw [hL, plTo_yes hm]
    simp [List.getD]
  · rw [hL]
    have := plTo_len (one s (t ++ c)) c (t.length + 1)
    omega
theorem ba_app (t c : ByteArray) : (t ++ c).data.toList = t.data.toList ++ c.data.toList := by simp
set_option maxRecDepth 100000 in
set_option maxHeartbeats 4000000 in
theorem tnv_any (ch t c : ByteArray) (w : World) (hn : NmAt w) (he : ErAt w) (h1 : t.size ≤ 140737488355328) (h2 : c.size ≤ 140737488355328) : Calls Tryz.prog 8 #[.string ch, .string t, .string c] w fun e w' => e = .returned (.bool true) ∧ Below w.heap.size w w' := by
  have HA : Hid _ := alivetop_any w hn he
  have HG : Hid (NmAt w ∧ ErAt w) := ⟨hn, he⟩
  clear hn he
  go_enter Tryz.func8, Tryz.ntmps8
  go_wp2_with fail
  refine Calls.mono HA.out ?_
  rintro e W0 ⟨rfl, hb0⟩
  have HR : Hid _ := read17_any ch W0 (HG.out.1.below hb0) (HG.out.2.below hb0)
  have HB0 : Hid (Below w.heap.size w W0) := hb0
  clear hb0 HA HG
  go_wp2_with fail
  refine Calls.mono HR.out ?_
  rintro e V1 ⟨hrd, hb1⟩
  have hb01 := HB0.out.trans (hb1.mono HB0.out.size)
  clear HR hb1 HB0
  rcases hRR : rRead ch.data.toList with ⟨E, A⟩ | ⟨L, p⟩
  · rw [hRR] at hrd
    obtain rfl : e = .returned (.tuple #[.slice none 0 0, fltV E A]) := hrd
    have HB1 : Hid (Below w.heap.size w (V1.alloc (.cells #[.int .i64 E, .int .i64 (A : Int)] 35))) := hb01.alloc hb01.size _
    clear hRR hb01
    unfold fltV
    by_cases hE : E = 0
    · subst hE
      go_wp2
      go_ret
      exact ⟨rfl, HB1.out⟩
    · have hne : (E != 0) = true := by simpa using hE
      clear hE
      go_wp2
      go_ret
      exact ⟨rfl, HB1.out⟩
  rw [hRR] at hrd
  obtain ⟨v, rfl, hch⟩ := hrd
  obtain ⟨a, cap, R, rfl, hm, hrows, hsq⟩ := id hch
  obtain ⟨X1, hX1⟩ : ∃ X1, X1 = V1.alloc (.cells #[.int .i64 0, .int .i64 0] 35) := ⟨_, rfl⟩
  have hx1 : Below V1.heap.size V1 X1 := by rw [hX1]; exact (Below.refl _ V1).alloc (Nat.le_refl _) _
  have hbx1 := hb01.trans (hx1.mono hb01.size)
  have hf8 : RowAt X1 V1.heap.size 35 #[.int .i64 0, .int .i64 0] := by rw [hX1]; exact RowAt.new V1 _ _
  have c0 := RowAt.cell hf8 (i := 0) rfl
  have HBX1 : Hid (Below w.heap.size w X1) := hbx1
  have HF8 : Hid _ := hf8
  have HLO : Hid (w.heap.size ≤ V1.heap.size) := hb01.size
  have HCH : Hid (ChAt X1 (.slice a L.length cap) L.length (spD L)) := hch.below hx1
  have hmi : (L.length : Int) ≤ 9223372036854775807 := by unfold maxLen at hm; omega
  unfold fltV
  go_upto_region 4 with fail
  rw [← hX1]
  by_cases hlen : L.length = 1
  · obtain ⟨b, o, rfl, hrg⟩ := hrows 0 (by omega)
    obtain ⟨mv, qa, qb, qc, hR1, -⟩ := hsq 0 (by omega)
    have hR0 := Value.agg.inj hR1
    clear hR1
    have hcell : V1.cell? ⟨b, o, none⟩ = some (.int .i64 (spD L 0).k) := by
      have h := hrg 0 (.int .i64 (spD L 0).k) (by rw [hR0, Array.getElem?_toList]; exact spA_0 _ _ _ _ _ _ _ _ _)
      simpa using h
    have ck : X1.cell? ⟨b, o, none⟩ = some (.int .i64 (spD L 0).k) := (hx1.cell (p := ⟨b, o, none⟩) (cell_block hcell)).trans hcell
    rw [hlen]
    rw [hlen] at HCH
    generalize hl : spD L = l at *
    clear hX1 hx1 hb01 hbx1 hf8 hch hm hrows hsq hRR hrg hR0 hcell hmi hl
    by_cases hk : (l 0).k = 6
    · rw [hk] at ck
      have HK : Hid ((l 0).k = 6) := hk
      clear hk
      have HRN : Hid _ := run_any _ 1 l (t ++ c) X1 HCH.out
      rw [ba_app] at HRN
      have hmx : (t.size : Int) + (c.size : Int) ≤ 9223372036854775807 := by omega
      have HSZ : Hid (t.size + c.size = (t ++ c).size) := by rw [Hid, ByteArray.size_append]
      go_upto_region 6 with fail
      obtain ⟨TC, hTC⟩ : ∃ TC, TC = t.data.toList ++ c.data.toList := ⟨_, rfl⟩
      rw [← hTC] at HRN
      have HTC : Hid (TC = t.data.toList ++ c.data.toList) := hTC
      clear hTC ck c0
      go_wp2_with (first | refine wpList_cat rfl _ _ _ _ rfl t c rfl rfl (by omega) ?_)
      refine Calls.mono HRN.out ?_
      rintro e V2 ⟨rfl, hb2⟩
      have hf8b := RowAt.below HF8.out hb2 (RowAt.lt HF8.out)
      have hbx2 := HBX1.out.trans (hb2.mono HBX1.out.size)
      obtain ⟨X2, hX2⟩ : ∃ X2, X2 = (V2.setCell ⟨V1.heap.size, 0, none⟩ (.int .i64 (rE 1 l TC))).setCell ⟨V1.heap.size, 1, none⟩ (.int .i64 (rA 1 l TC : Int)) := ⟨_, rfl⟩
      have hg8 : RowAt X2 V1.heap.size 35 #[.int .i64 (rE 1 l TC), .int .i64 (rA 1 l TC : Int)] := by rw [hX2]; exact (RowAt.set hf8b 0 _).set 1 _
      have hbb2 : Below w.heap.size w X2 := by rw [hX2]; exact (hbx2.setCell (p := ⟨V1.heap.size, 0, none⟩) HLO.out _).setCell (p := ⟨V1.heap.size, 1, none⟩) HLO.out _
      have k0 := RowAt.cell hf8b (i := 0) rfl
      have k1 := RowAt.cell hf8b (i := 1) rfl
      have kf0 := RowAt.frozen hf8b 0
      have kf1 := RowAt.frozen hf8b 1
      have g0 := RowAt.cell hg8 (i := 0) rfl
      have HG8 : Hid _ := hg8
      have HBB2 : Hid (Below w.heap.size w X2) := hbb2
      clear HRN hf8b hbx2 hb2 hg8 hbb2 HCH
      by_cases hE : rE 1 l TC = 0
      · obtain ⟨e1, e2, -⟩ := rE_zero hE
        have hst := (chE_zero e1).2 0 (by omega)
        have hrs : rS 1 l TC = one (l 0) TC := by unfold rS; rw [if_pos hE]; rfl
        rw [hrs]
        rw [HTC.out] at e2
        obtain ⟨p1, j0, p2, p3, p4⟩ := never_place w hst HK.out e2
        rw [← HTC.out] at p1 p2 p3 p4
        generalize one (l 0) TC = S at *
        have HPL : Hid _ := places_any ⟨S.toArray⟩ c X2
        change Hid (Calls Tryz.prog 26 _ _ fun e w' => ∃ v, e = .returned (.tuple #[v, .agg #[.int .i64 (plE S c.data.toList), .int .i64 (plAt S c.data.toList)]]) ∧ OwnsN w' (X2.heap.size + 1) v (plL S c.data.toList) ∧ Below X2.heap.size X2 w') at HPL
        rw [p1] at HPL
        rw [hE] at hX2 g0 HG8 ⊢
        generalize rA 1 l TC = A2 at *
        generalize plAt S c.data.toList = A3 at *
        have HP3 : Hid ((plL S c.data.toList).getD j0 0 = t.size) := by rw [Hid, p3, Pl.size_len t]
        clear e1 e2 hst hrs hE HTC p1 p3
        generalize plL S c.data.toList = PL at *
        unfold fltV
        go_upto_region 7 with fail
        rw [← hX2]
        clear hX2 k0 k1 kf0 kf1
        go_wp2_with fail
        refine Calls.mono HPL.out ?_
        rintro e V3 ⟨v, rfl, hown, hb3⟩
        have hnu := nums_of_own hown
        have hf8c := RowAt.below HG8.out hb3 (RowAt.lt HG8.out)
        have hbx3 := HBB2.out.trans (hb3.mono HBB2.out.size)
        obtain ⟨nb, no, nc, rfl, hnm, hnc⟩ := hnu.form (by omega)
        obtain ⟨X3, hX3⟩ : ∃ X3, X3 = (V3.setCell ⟨V1.heap.size, 0, none⟩ (.int .i64 0)).setCell ⟨V1.heap.size, 1, none⟩ (.int .i64 A3) := ⟨_, rfl⟩
        have hnb : nb ≠ V1.heap.size := by
          have h1 := (World.ownsRow.lt hown nb rfl).1
          have h2 := RowAt.lt HG8.out
          omega
        have HCE : Hid (∀ i, i < PL.length → X3.cell? ⟨nb, no + i, none⟩ = some (.int .i64 ((PL.getD i 0 : Nat) : Int))) := fun i hi => by
          rw [hX3]
          exact (World.cell?_setCell_far _ ⟨V1.heap.size, 1, none⟩ ⟨nb, no + i, none⟩ _ (by simp; omega)).trans ((World.cell?_setCell_far _ ⟨V1.heap.size, 0, none⟩ ⟨nb, no + i, none⟩ _ (by simp; omega)).trans (hnc i hi))
        have HBX3 : Hid (Below w.heap.size w X3) := by rw [Hid, hX3]; exact (hbx3.setCell (p := ⟨V1.heap.size, 0, none⟩) HLO.out _).setCell (p := ⟨V1.heap.size, 1, none⟩) HLO.out _
        have hg9 : RowAt X3 V1.heap.size 35 #[.int .i64 0, .int .i64 A3] := by rw [hX3]; exact (RowAt.set hf8c 0 _).set 1 _
        have k0 := RowAt.cell hf8c (i := 0) rfl
        have k1 := RowAt.cell hf8c (i := 1) rfl
        have kf0 := RowAt.frozen hf8c 0
        have kf1 := RowAt.frozen hf8c 1
        have g9 := RowAt.cell hg9 (i := 0) rfl
        clear hown hnu hb3 hbx3 hf8c hg9 hnc hnb HPL g0 HG8
        obtain ⟨f, hf⟩ : ∃ f : Nat → Nat, f = fun i => PL.getD i 0 := ⟨_, rfl⟩
        have HCF : Hid (∀ i, i < PL.length → X3.cell? ⟨nb, no + i, none⟩ = some (.int .i64 ((f i : Nat) : Int))) := by rw [hf]; exact HCE
        have HFJ : Hid (f j0 = t.size) := by rw [hf]; exact HP3
        generalize PL.length = N at *
        clear HCE HP3 hf
        go_upto_region 10 with fail
        rw [← hX3]
        clear hX3 k0 k1 kf0 kf1
        go_wp2
        go_loopw [57] (fun i W => ∃ x : Nat, x ≤ j0 ∧ i = .int .i64 x ∧ Hid (W = X3)) (fun i _ => ((j0 : Int) + 1 - intOf i).toNat)
        case atStart => exact ⟨0, by omega, rfl, rfl⟩
        case round =>
          obtain ⟨x, hx, rfl, HW⟩ := hrel
          have hc := HCF.out x (by omega)
          have hxl : (x : Int) < (N : Int) := by omega
          rw [← HW.out] at hc
          by_cases hxe : f x = t.size
          · rw [hxe] at hc
            go_wp2
            go_ret
            exact ⟨rfl, by rw [HW.out]; exact HBX3.out⟩
          · have hxn : (((f x : Nat) : Int) == (t.size : Int)) = false := beq_false_of_ne (by omega)
            have hne : x ≠ j0 := fun e => hxe (by rw [e]; exact HFJ.out)
            go_wp2
            go_roundw
            case rel => exact ⟨x + 1, by omega, by go_num, HW⟩
            case measure => simp [intOf]; omega
      · have hne : (rE 1 l TC != 0) = true := by simpa using hE
        clear hE
        generalize rE 1 l TC = E2 at *
        generalize rA 1 l TC = A2 at *
        generalize rS 1 l TC = S2 at *
        unfold fltV
        go_upto_region 7 with fail
        rw [← hX2]
        clear hX2 k0 k1 kf0 kf1
        go_wp2
        go_ret
        exact ⟨rfl, HBB2.out⟩
    · have hkn : ((l 0).k != 6) = true := by simpa using hk
      clear hk
      go_wp2_with fail
      go_ret
      exact ⟨rfl, HBX1.out⟩
  · have hln : ((L.length : Int) != 1) = true := by simp; omega
    clear hX1 hx1 hb01 hbx1 hf8 hch hm hrows hsq hRR hlen
    generalize L.length = n at *
    go_wp2
    go_ret
    exact ⟨rfl, HBX1.out⟩
end Go.Proofs.YtkohhdkkbaifoaaGreatDoor
