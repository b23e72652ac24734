/-
  A matrix, as it is read: the walk.
-/
import Derived.Test.YtkohhdkkbaifoaaGreatDoorJn34
namespace Go.Proofs.YtkohhdkkbaifoaaGreatDoor
open Go.RowKit PK Vg

theorem rNums_at {t : List UInt8} {p m q N : Nat} {L : List Nat} {e : Int × Nat} (h : rNums t p m = .ok (L, q)) (hn : rNum t 0 25 q = .error e) (hN : m < N) : rNums t p N = .error e := by
  have h1 : rNums t p (m + 1) = .error e := by
    show rBind (rNums t p m) _ = _
    rw [h]
    show rBind (rNum t 0 25 q) _ = _
    rw [hn]
    rfl
  have := rNums_err h1 (N - (m + 1))
  rw [show m + 1 + (N - (m + 1)) = N by omega] at this
  exact this
theorem rNums_go {t : List UInt8} {p m q x q' : Nat} {L : List Nat} (h : rNums t p m = .ok (L, q)) (hn : rNum t 0 25 q = .ok (x, q')) : rNums t p (m + 1) = .ok (L ++ [x], q') := by
  show rBind (rNums t p m) _ = _
  rw [h]
  show rBind (rNum t 0 25 q) _ = _
  rw [hn]
  rfl
theorem numE_in {l : List UInt8} {lo hi : Int} (h : numE l lo hi = 0) : lo ≤ (valA 0 l : Nat) ∧ ((valA 0 l : Nat) : Int) ≤ hi := by
  unfold numE at h
  by_cases h1 : isNum l = false
  · rw [if_pos h1] at h; cases h
  · rw [if_neg h1] at h; exact inE_zero.1 h
set_option maxRecDepth 100000 in
set_option maxHeartbeats 4000000 in
theorem mat_any (b : Nat) (T : ByteArray) (p0 : Nat) (w : World) (hr : RdAt w b T p0) (hs : T.size ≤ 65536) (he : ErAt w) (hgb : gRange < b) : Calls Tryz.prog 163 #[.pointer (some ⟨b, 0, none⟩)] w fun e w' => Told (rMat T.data.toList p0) e (fun x q v => Nw w.heap.size w'.heap.size (fun W => MatAt W v x.1 (fun _ => x.1) (fun i j => ((x.2.getD (i * x.1 + j) 0 : Nat) : Int))) w' ∧ RdAt w' b T q) ∧ Fb b w w' := by
  have hbl := RowAt.lt hr
  have HWD : Hid _ := word_rz b T p0 w hr hs
  obtain ⟨RR, hRR0⟩ : ∃ RR, RR = rMat T.data.toList p0 := ⟨_, rfl⟩
  have HRM : Hid (RR = rMat T.data.toList p0) := hRR0
  rw [← hRR0]
  clear hRR0 hr
  unfold rMat rNum at HRM
  have htl := Pl.size_len T
  have HE : Hid (ErAt w) := he
  clear he
  go_enter Tryz.func163, Tryz.ntmps163
  go_wp2_with fail
  refine Calls.mono HWD.out ?_
  rintro e W1 ⟨ht, hf⟩
  rcases hw1 : rWord T.data.toList p0 with ⟨E, A⟩ | ⟨l1, p1⟩
  · rw [hw1] at ht
    obtain rfl : e = .panicked [flt E A] := ht
    have hRR : RR = .error (E, A) := by have h := HRM.out; rw [hw1] at h; exact h
    exact ⟨rfl, by rw [hRR]; rfl, hf⟩
  rw [hw1] at ht
  obtain ⟨v, rfl, rfl, hrd⟩ := ht
  obtain ⟨-, -, -, hq1, hq2, hq3, hq4⟩ := rWord_ok hw1
  have HCL : Hid _ := wnum_any l1 p0 1 4 (by omega) hq2 (by omega) W1 (HE.out.fb hf hgb)
  have hrm := HRM.out
  rw [hw1] at hrm
  change RR = rBind (rChk _ _ _) _ at hrm
  have HRM1 : Hid _ := hrm
  have HF : Hid _ := hf
  have HRD : Hid _ := hrd
  clear HRM HWD hf hrd hrm hw1 hq1 hq2 hq3 hq4
  go_wp2_with fail
  refine Calls.mono HCL.out ?_
  rintro e W2 ⟨hok, hbad, hb⟩
  have HF2 : Hid (Fb b w W2) := HF.out.trans (Fb.of hb)
  by_cases hE : ¬ numE l1 1 4 = 0
  · obtain rfl := hbad hE
    have hRR : RR = .error (numE l1 1 4, p0) := by rw [HRM1.out]; unfold rChk; rw [if_neg hE]; rfl
    exact ⟨rfl, by rw [hRR]; rfl, HF2.out⟩
  have hE := Decidable.not_not.1 hE
  obtain rfl := hok hE
  have hn := numE_in hE
  have hrm := HRM1.out
  rw [rChk, if_pos hE] at hrm
  change RR = rBind (rNums T.data.toList p1 (valA 0 l1 * valA 0 l1)) _ at hrm
  generalize valA 0 l1 = n at *
  have HRM : Hid _ := hrm
  have HRD2 : Hid (RdAt W2 b T p1) := RowAt.below HRD.out hb (RowAt.lt HRD.out)
  clear HRM1 HCL hbad hok hrm hE HRD HF hb
  obtain ⟨hn1, hn4⟩ : 1 ≤ n ∧ n ≤ 4 := by omega
  clear hn
  have hmk1 := run_make_row' (P := Tryz.prog) 23 25 (.slice none 0 0) 24 Tryz.underlying23 h_info_ints rfl .i64 .i64 n (by omega) (by omega)
  have hmk2 := run_make_row' (P := Tryz.prog) 25 3 (.int .i64 0) 8 Tryz.underlying25 h_info_int rfl .i64 .i64 n (by omega) (by omega)
  rw [made_tab] at hmk1 hmk2
  have hwz : w.heap.size ≤ W2.heap.size := HF2.out.size
  have HI0 : Hid (MtI w (W2.alloc (.cells (tab n fun _ => .slice none 0 0) 25)) b W2.heap.size n T p1 0 (fun _ => 0) []) := by
    refine ⟨?_, fun r hr => by omega, fun r s _ hs => by omega, RowAt.alloc HRD2.out _, HF2.out.trans (Fb.alloc b _ _), hbl, hwz⟩
    have := RowAt.new W2 25 (tab n fun _ => .slice none 0 0)
    rw [tab_ext (g' := fillV (fun r => .slice (some ⟨(fun _ => 0) r, 0, none⟩) n n) (.slice none 0 0) 0) (fun r _ => by simp [fillV])] at this
    exact this
  have HEr : Hid (∀ W, Fb b w W → ErAt W) := fun W hW => HE.out.fb hW hgb
  clear HE HF2 HRD2
  go_wp2
  go_loopw [12] (fun i W => ∃ (y : Nat) (G : Nat → Nat) (L : List Nat) (p : Nat), y ≤ n ∧ i = .int .i64 y ∧ Hid (L.length = y * n ∧ rNums T.data.toList p1 (y * n) = .ok (L, p)) ∧ Hid (MtI w W b W2.heap.size n T p y G L)) (fun i _ => ((n : Int) - intOf i).toNat)
  case atStart => exact ⟨0, fun _ => 0, [], p1, by omega, rfl, ⟨by simp, by simp [rNums]⟩, HI0.out⟩
  case round =>
    clear HI0
    obtain ⟨y, G, L, p, hy, rfl, HL, HI⟩ := hrel
    by_cases hlt : y < n
    · have ro1 := RowAt.alloc HI.out.box (.cells (tab n fun _ => .int .i64 0) 3)
      have hco := RowAt.cell ro1 (tab_get _ hlt)
      have hfo := RowAt.frozen ro1 y
      have hrow := HI.out.row hlt HL.out.1
      have hsz2 := RowAt.lt HI.out.box
      obtain ⟨Z1, hZ1⟩ : ∃ Z1, Z1 = (wr.setCell ⟨W2.heap.size, y, none⟩ (.slice (some ⟨wr.heap.size, 0, none⟩) n n)).alloc (.cells (tab n fun _ => .int .i64 0) 3) := ⟨_, rfl⟩
      rw [← hZ1] at hrow
      have hcz := hrow.cell hlt
      rw [upd_same] at hcz
      have HI1 : Hid _ := hrow
      clear hrow ro1 HI
      generalize hGG : upd G y wr.heap.size = G1 at *
      have HGy : Hid (G1 y = wr.heap.size) := by rw [Hid, ← hGG, upd_same]
      go_upto_region 6 with fail
      rw [← hZ1]
      clear hZ1 hco hfo
      clear hGG
      generalize wr.heap.size = gy at *
      go_wp2
      go_loopw [26] (fun i W => ∃ (x : Nat) (L : List Nat) (p : Nat), x ≤ n ∧ i = .int .i64 x ∧ Hid (L.length = y * n + x ∧ rNums T.data.toList p1 (y * n + x) = .ok (L, p)) ∧ Hid (MtI w W b W2.heap.size n T p (y + 1) G1 L)) (fun i _ => ((n : Int) - intOf i).toNat)
      case atStart => exact ⟨0, L, p, by omega, rfl, HL, HI1⟩
      case round =>
        clear hcz HI1 HL
        obtain ⟨x, L, p, hx, rfl, HL, HI⟩ := hrel
        by_cases hxl : x < n
        · have HID := HI.out.drew
          have hyx : y * n + x < n * n := by have h := Nat.mul_le_mul_right n (show y + 1 ≤ n by omega); rw [Nat.succ_mul] at h; omega
          have HWD : Hid _ := word_rz b T p _ HID.rd hs
          have cz := HID.cell hlt
          rw [HGy.out] at cz
          go_wp2
          rcases hw : rWord T.data.toList p with ⟨E, A⟩ | ⟨l2, p2⟩
          · rw [hw] at HWD
            have HRR : Hid (RR = .error (E, A)) := by
              rw [Hid, HRM.out, rNums_at HL.out.2 (e := (E, A)) (by unfold rNum; rw [hw]; rfl) hyx]; rfl
            have HWE : Hid (Calls Tryz.prog 109 #[.pointer (some ⟨b, 0, none⟩)] (World.drew _) fun e w' => e = .panicked [flt E A] ∧ Fb b _ w') := HWD.out
            have HFB : Hid _ := HID.fb
            clear HWD hw
            refine wp_region_held_drew (S := fun W => W.cell? ⟨W2.heap.size, y, none⟩ = some (.slice (some ⟨gy, 0, none⟩) n n)) (by kernel_rfl) cz (fun hS => ?_)
            refine vtakeP 0 29 (.slice (some ⟨W2.heap.size, 0, none⟩) n n) rfl rfl (by kernel_rfl) (by kernel_rfl) (by kernel_rfl) (fun _ _ _ h => h) (by rfl) (fun W hW => by clear hS hW; go_simp) hS ?_
            simp only [List.setIfInBounds_toArray, List.set_cons_succ, List.set_cons_zero]
            refine vtakeP 1 30 (.int .i64 (y : Int)) rfl rfl (by kernel_rfl) (by kernel_rfl) (by kernel_rfl) (fun _ _ _ h => h) (by rfl) (fun W hW => by clear hS hW; go_simp) hS ?_
            simp only [List.setIfInBounds_toArray, List.set_cons_succ, List.set_cons_zero]
            refine vtakeP 2 31 (.pointer (some ⟨W2.heap.size, y, none⟩)) rfl rfl (by kernel_rfl) (by kernel_rfl) (by kernel_rfl) (fun _ _ _ h => h) (by rfl) (fun W hW => by clear hS hW; go_simp) hS ?_
            simp only [List.setIfInBounds_toArray, List.set_cons_succ, List.set_cons_zero]
            refine vtakeP 3 32 (.slice (some ⟨gy, 0, none⟩) n n) rfl rfl (by kernel_rfl) (by kernel_rfl) (by kernel_rfl) (fun _ _ _ h => h) (by rfl) (fun W hW => by have u := hW; clear hS hW; go_simp) hS ?_
            simp only [List.setIfInBounds_toArray, List.set_cons_succ, List.set_cons_zero]
            refine vtakeP 4 33 (.int .i64 (x : Int)) rfl rfl (by kernel_rfl) (by kernel_rfl) (by kernel_rfl) (fun _ _ _ h => h) (by rfl) (fun W hW => by clear hS hW; go_simp) hS ?_
            simp only [List.setIfInBounds_toArray, List.set_cons_succ, List.set_cons_zero]
            refine vtakeP 5 34 (.pointer (some ⟨b, 0, none⟩)) rfl rfl (by kernel_rfl) (by kernel_rfl) (by kernel_rfl) (fun _ _ _ h => h) (by rfl) (fun W hW => by clear hS hW; go_simp) hS ?_
            simp only [List.setIfInBounds_toArray, List.set_cons_succ, List.set_cons_zero]
            refine wpAnyH_ready (rs := [6]) (by kernel_rfl) (by simp) ?_
            refine AllReadyH.cons (o := _) rfl (fun K hK => ?_) AllReadyH.nil
            rw [if_pos (by rfl)]
            go_simp
            refine Calls.mono (HWE.out) ?_
            rintro e Y ⟨rfl, hf⟩
            exact ⟨rfl, by rw [HRR.out]; rfl, HFB.out.trans hf⟩
          rw [hw] at HWD
          obtain ⟨-, -, -, hq1, hq2, hq3, hq4⟩ := rWord_ok hw
          by_cases hE : ¬ numE l2 0 25 = 0
          · have HRR : Hid (RR = .error (numE l2 0 25, p)) := by
              rw [Hid, HRM.out, rNums_at HL.out.2 (e := (numE l2 0 25, p)) (by unfold rNum; rw [hw]; show rChk _ _ _ = _; unfold rChk; rw [if_neg hE]) hyx]; rfl
            clear hw
            refine wp_region_held_drew (S := fun W => W.cell? ⟨W2.heap.size, y, none⟩ = some (.slice (some ⟨gy, 0, none⟩) n n)) (by kernel_rfl) cz (fun hS => ?_)
            refine vtakeP 0 29 (.slice (some ⟨W2.heap.size, 0, none⟩) n n) rfl rfl (by kernel_rfl) (by kernel_rfl) (by kernel_rfl) (fun _ _ _ h => h) (by rfl) (fun W hW => by clear hS hW; go_simp) hS ?_
            simp only [List.setIfInBounds_toArray, List.set_cons_succ, List.set_cons_zero]
            refine vtakeP 1 30 (.int .i64 (y : Int)) rfl rfl (by kernel_rfl) (by kernel_rfl) (by kernel_rfl) (fun _ _ _ h => h) (by rfl) (fun W hW => by clear hS hW; go_simp) hS ?_
            simp only [List.setIfInBounds_toArray, List.set_cons_succ, List.set_cons_zero]
            refine vtakeP 2 31 (.pointer (some ⟨W2.heap.size, y, none⟩)) rfl rfl (by kernel_rfl) (by kernel_rfl) (by kernel_rfl) (fun _ _ _ h => h) (by rfl) (fun W hW => by clear hS hW; go_simp) hS ?_
            simp only [List.setIfInBounds_toArray, List.set_cons_succ, List.set_cons_zero]
            refine vtakeP 3 32 (.slice (some ⟨gy, 0, none⟩) n n) rfl rfl (by kernel_rfl) (by kernel_rfl) (by kernel_rfl) (fun _ _ _ h => h) (by rfl) (fun W hW => by have u := hW; clear hS hW; go_simp) hS ?_
            simp only [List.setIfInBounds_toArray, List.set_cons_succ, List.set_cons_zero]
            refine vtakeP 4 33 (.int .i64 (x : Int)) rfl rfl (by kernel_rfl) (by kernel_rfl) (by kernel_rfl) (fun _ _ _ h => h) (by rfl) (fun W hW => by clear hS hW; go_simp) hS ?_
            simp only [List.setIfInBounds_toArray, List.set_cons_succ, List.set_cons_zero]
            refine vtakeP 5 34 (.pointer (some ⟨b, 0, none⟩)) rfl rfl (by kernel_rfl) (by kernel_rfl) (by kernel_rfl) (fun _ _ _ h => h) (by rfl) (fun W hW => by clear hS hW; go_simp) hS ?_
            simp only [List.setIfInBounds_toArray, List.set_cons_succ, List.set_cons_zero]
            refine wpAnyH_ready (rs := [6]) (by kernel_rfl) (by simp) ?_
            refine AllReadyH.cons (o := _) rfl (fun K hK => ?_) AllReadyH.nil
            rw [if_pos (by rfl)]
            go_simp
            refine Calls.mono HWD.out ?_
            rintro e V2 ⟨⟨v, rfl, rfl, hrd⟩, hf⟩
            have HI1 : Hid _ := HID.step hf hrd
            refine hK.out _ _ (by have h := HI1.out.cell hlt; rw [HGy.out] at h; exact h) (fun hS1 => ?_)
            clear hK hS K
            have hS := hS1
            clear hS1
            refine wpAnyH_ready (rs := [7]) (by kernel_rfl) (by simp) ?_
            refine AllReadyH.cons (o := _) rfl (fun K hK => ?_) AllReadyH.nil
            rw [if_pos (by rfl)]
            go_simp
            refine Calls.mono (wnum_any l2 p 0 25 (by omega) hq2 (by omega) V2 (HEr.out _ HI1.out.fb)) ?_
            rintro e X2 ⟨-, hbad, hb⟩
            obtain rfl := hbad hE
            exact ⟨rfl, by rw [HRR.out]; rfl, (HI1.out.calm hb).fb⟩
          have hE := Decidable.not_not.1 hE
          have HNX : Hid (rNums T.data.toList p1 (y * n + x + 1) = .ok (L ++ [valA 0 l2], p2)) := rNums_go HL.out.2 (by unfold rNum; rw [hw]; show rChk _ _ _ = _; unfold rChk; rw [if_pos hE])
          clear hw
          refine wp_region_noPanic ?_
          refine wp_region_held_drew (S := fun W => W.cell? ⟨W2.heap.size, y, none⟩ = some (.slice (some ⟨gy, 0, none⟩) n n)) (by kernel_rfl) cz (fun hS => ?_)
          refine vtake 0 29 (.slice (some ⟨W2.heap.size, 0, none⟩) n n) rfl rfl (by kernel_rfl) (by kernel_rfl) (by kernel_rfl) (fun _ _ _ _ h => h) (by rfl) (fun W hW => by clear hS hW; go_simp) hS ?_
          simp only [List.setIfInBounds_toArray, List.set_cons_succ, List.set_cons_zero]
          refine vtake 1 30 (.int .i64 (y : Int)) rfl rfl (by kernel_rfl) (by kernel_rfl) (by kernel_rfl) (fun _ _ _ _ h => h) (by rfl) (fun W hW => by clear hS hW; go_simp) hS ?_
          simp only [List.setIfInBounds_toArray, List.set_cons_succ, List.set_cons_zero]
          refine vtake 2 31 (.pointer (some ⟨W2.heap.size, y, none⟩)) rfl rfl (by kernel_rfl) (by kernel_rfl) (by kernel_rfl) (fun _ _ _ _ h => h) (by rfl) (fun W hW => by clear hS hW; go_simp) hS ?_
          simp only [List.setIfInBounds_toArray, List.set_cons_succ, List.set_cons_zero]
          refine vtake 3 32 (.slice (some ⟨gy, 0, none⟩) n n) rfl rfl (by kernel_rfl) (by kernel_rfl) (by kernel_rfl) (fun _ _ _ _ h => h) (by rfl) (fun W hW => by have u := hW; clear hS hW; go_simp) hS ?_
          simp only [List.setIfInBounds_toArray, List.set_cons_succ, List.set_cons_zero]
          refine vtake 4 33 (.int .i64 (x : Int)) rfl rfl (by kernel_rfl) (by kernel_rfl) (by kernel_rfl) (fun _ _ _ _ h => h) (by rfl) (fun W hW => by clear hS hW; go_simp) hS ?_
          simp only [List.setIfInBounds_toArray, List.set_cons_succ, List.set_cons_zero]
          refine vtake 5 34 (.pointer (some ⟨b, 0, none⟩)) rfl rfl (by kernel_rfl) (by kernel_rfl) (by kernel_rfl) (fun _ _ _ _ h => h) (by rfl) (fun W hW => by clear hS hW; go_simp) hS ?_
          simp only [List.setIfInBounds_toArray, List.set_cons_succ, List.set_cons_zero]
          refine wpAnyH_ready (rs := [6]) (by kernel_rfl) (by simp) ?_
          refine AllReadyH.cons (o := _) rfl (fun K hK => ?_) AllReadyH.nil
          rw [if_pos (by rfl)]
          go_simp
          refine Calls.mono HWD.out ?_
          rintro e V2 ⟨⟨v, rfl, rfl, hrd⟩, hf⟩
          have HI1 : Hid _ := HID.step hf hrd
          refine hK.out _ _ (by have h := HI1.out.cell hlt; rw [HGy.out] at h; exact h) (fun hS1 => ?_)
          clear hK hS K
          have hS := hS1
          clear hS1
          refine wpAnyH_ready (rs := [7]) (by kernel_rfl) (by simp) ?_
          refine AllReadyH.cons (o := _) rfl (fun K hK => ?_) AllReadyH.nil
          rw [if_pos (by rfl)]
          go_simp
          refine Calls.mono (wnum_any l2 p 0 25 (by omega) hq2 (by omega) V2 (HEr.out _ HI1.out.fb)) ?_
          rintro e X2 ⟨hok, -, hb⟩
          obtain rfl := hok hE
          have HI2 : Hid _ := HI1.out.calm hb
          refine hK.out _ _ (by have h := HI2.out.cell hlt; rw [HGy.out] at h; exact h) (fun hS1 => ?_)
          clear hK hS K
          have hS := hS1
          clear hS1
          generalize valA 0 l2 = nv at *
          have hput := HI2.out.put (x := x) (v := nv) HL.out.1
          have hrw := (HI2.out.rows y (by omega)).2
          rw [HGy.out] at hput hrw
          have hput2 := hput
          have c1 := RowAt.cell hrw (ints_get _ hxl)
          have f1 := RowAt.frozen hrw x
          refine vtake 8 37 (.pointer (some ⟨gy, x, none⟩)) rfl rfl (by kernel_rfl) (by kernel_rfl) (by kernel_rfl) (fun _ _ _ _ h => h) (by rfl) (fun W hW => by clear hS hW; go_simp) hS ?_
          simp only [List.setIfInBounds_toArray, List.set_cons_succ, List.set_cons_zero]
          refine wpAnyH_ready (rs := [9]) (by kernel_rfl) (by simp) ?_
          refine AllReadyH.cons (o := _) rfl (fun K hK => ?_) AllReadyH.nil
          rw [if_pos (by rfl)]
          go_simp
          refine hK.out _ _ ((by have h := hput2.cell hlt; rw [HGy.out] at h; exact h)) (fun hS1 => ?_)
          clear hK hS K
          have hS := hS1
          clear hS1
          refine wpAnyH_done (by kernel_rfl) ?_ _
          refine NoPanic.normal ?_
          have HI3 : Hid _ := hput
          have HL1 := HL.out.1
          clear HI HI1 HI2 HID HWD hb hE c1 f1 hrd hf hS cz hput hput2 hrw HL
          generalize X2.setCell ⟨gy, x, none⟩ (.int .i64 (nv : Int)) = Z3 at *
          go_wp2
          go_roundw
          case rel => exact ⟨x + 1, L ++ [nv], p2, by omega, by go_num, ⟨by rw [List.length_append, HL1]; rfl, HNX.out⟩, HI3⟩
          case measure => simp [intOf]; omega
        · have HN : Hid (x = n) := by rw [Hid]; omega
          go_wp2
          go_roundw
          case rel =>
            refine ⟨y + 1, G1, L, p, by omega, by go_num, ?_, HI⟩
            have h := HL.out
            rw [HN.out] at h
            rw [Nat.succ_mul]
            exact h
          case measure => simp [intOf]; omega
    · have HN : Hid (y = n) := by rw [Hid]; omega
      go_wp2
      go_ret
      have hI := HI.out
      have hL := HL.out
      rw [HN.out] at hI hL
      have hRR : RR = .ok ((n, L), p) := by rw [HRM.out, hL.2]; rfl
      exact ⟨by rw [hRR]; exact ⟨_, rfl, hI.fin hn4, hI.rd⟩, hI.fb⟩
end Go.Proofs.YtkohhdkkbaifoaaGreatDoor
