/-
  ScriptUndone, walked.
-/
import Derived.Test.YtkohhdkkbaifoaaGreatDoorJn34
import Derived.Test.YtkohhdkkbaifoaaGreatDoorJn35
import Derived.Test.YtkohhdkkbaifoaaGreatDoorScN
namespace Go.Proofs.YtkohhdkkbaifoaaGreatDoor
open Go.RowKit PK Vg

theorem cat_facts (w : World) {n k : Nat} {l m : Nat → Sp} {t : List UInt8} (h : rE n l t = 0) : (uE n l (rS n l t) = 0 ∨ uE n l (rS n l t) = 6) ∧ (uE n l (rS n l t) = 0 → uS n l (rS n l t) = t ∧ uE n l t = 0 ∧ rE n l (uS n l t) = 0 ∧ rS n l (uS n l t) = t) ∧ (n + k ≤ 64 → rE (n + k) (catS n l m) t = rE k m (rS n l t) ∧ (rE k m (rS n l t) = 0 → rS (n + k) (catS n l m) t = rS k m (rS n l t))) := by
  obtain ⟨hc, ht, ho⟩ := rE_zero h
  obtain ⟨hn, hst⟩ := chE_zero hc
  have hrs : rS n l t = runT l t n := by unfold rS; rw [if_pos h]
  obtain ⟨h1, h2⟩ := runT_right w hst ht n (Nat.le_refl _)
  have hu1 : uE n l (rS n l t) = firV (fun i => undE (l (n - 1 - i)) t.length) n := by
    unfold uE
    rw [hrs, if_neg (fun e => e hc), if_neg (fun e => e h1), h2]
  have hu2 : uE n l t = firV (fun i => undE (l (n - 1 - i)) t.length) n := by
    unfold uE
    rw [if_neg (fun e => e hc), if_neg (fun e => e ht)]
  refine ⟨?_, fun hz => ?_, fun hk => run_cat w h hk⟩
  · rw [hu1]
    unfold firV
    cases hf : fir (fun i => undE (l (n - 1 - i)) t.length) n with
    | none => exact .inl rfl
    | some i =>
      obtain ⟨a1, _, _⟩ := fir_some hf
      exact undE_cases _ _ (ho (n - 1 - i) (by omega))
  · rw [hu1] at hz
    have hall : ∀ i, i < n → undE (l i) t.length = 0 := fun i hi => by
      have := firV_zero hz (n - 1 - i) (by omega)
      rw [show n - 1 - (n - 1 - i) = i by omega] at this
      exact this
    have hz2 : uE n l t = 0 := hu2.trans hz
    have e1 : uS n l (rS n l t) = t := by
      have := undT_runT w hst ht hall n (Nat.le_refl _)
      rw [Nat.sub_self] at this
      unfold uS
      rw [if_pos (hu1.trans hz), hrs]
      exact this
    have e2 : uS n l t = undT l n t n := by unfold uS; rw [if_pos hz2]
    obtain ⟨h3, h4⟩ := undT_right' w hst ht n (Nat.le_refl _)
    have e3 : rE n l (undT l n t n) = 0 := by
      unfold rE
      rw [if_neg (fun e => e hc), if_neg (fun e => e h3), h4]
      exact firV_all ho
    refine ⟨e1, hz2, by rw [e2]; exact e3, ?_⟩
    rw [e2]
    have := runT_undT w hst ht hall n (Nat.le_refl _)
    rw [Nat.sub_self] at this
    unfold rS
    rw [if_pos e3]
    exact this
theorem ba_list17 (t : ByteArray) : (⟨t.data.toList.toArray⟩ : ByteArray) = t := by cases t; rfl
set_option maxRecDepth 100000 in
set_option maxHeartbeats 4000000 in
theorem sund_bad (v1 v2 : Value) (n : Nat) (l : Nat → Sp) (t : ByteArray) (w : World) (h1 : ChAt w v1 n l) (hn : NmAt w) (he : ErAt w) (hE : rE n l t.data.toList ≠ 0) : Calls Tryz.prog 5 #[v1, v2, .string t] w fun e w' => e = .returned (.bool true) ∧ Below w.heap.size w w' := by
  have HA : Hid _ := alive17_any w hn he
  have H1 : Hid (ChAt w v1 n l) := h1
  have hne : (rE n l t.data.toList == 0) = false := beq_false_of_ne hE
  clear hn he h1 hE
  go_enter Tryz.func5, Tryz.ntmps5
  go_wp2_with fail
  refine Calls.mono HA.out ?_
  rintro e W0 ⟨rfl, hb0⟩
  have HR : Hid _ := run_any v1 n l t W0 (H1.out.below hb0)
  have HB0 : Hid _ := hb0
  clear hb0
  generalize rE n l t.data.toList = E1 at *
  generalize rA n l t.data.toList = A1 at *
  generalize rS n l t.data.toList = S1 at *
  go_wp2_with fail
  refine Calls.mono HR.out ?_
  rintro e V1 ⟨rfl, hb1⟩
  have HB1 : Hid (Below w.heap.size w (V1.alloc (.cells #[.int .i64 E1, .int .i64 (A1 : Int)] 35))) := (HB0.out.trans (hb1.mono HB0.out.size)).alloc (by have := HB0.out.size; have := hb1.size; omega) _
  clear hb1
  unfold fltV
  go_wp2
  go_ret
  exact ⟨rfl, HB1.out⟩
set_option maxRecDepth 100000 in
set_option maxHeartbeats 4000000 in
theorem sund_ok (v1 v2 : Value) (n k : Nat) (l m : Nat → Sp) (t : ByteArray) (w : World) (h1 : ChAt w v1 n l) (h2 : ChAt w v2 k m) (z1 : NilOr v1 n) (z2 : NilOr v2 k) (hk : k ≤ 1099511627776) (hn : NmAt w) (he : ErAt w) (hE : rE n l t.data.toList = 0) : Calls Tryz.prog 5 #[v1, v2, .string t] w fun e w' => e = .returned (.bool true) ∧ Below w.heap.size w w' := by
  obtain ⟨hU, hU2, hCT⟩ := cat_facts (k := k) (m := m) w hE
  have hn64 := (chE_zero (rE_zero hE).1).1
  have HA : Hid _ := alive17_any w hn he
  have H1 : Hid (ChAt w v1 n l) := h1
  have H2 : Hid (ChAt w v2 k m) := h2
  have Z1 : Hid (NilOr v1 n) := z1
  have Z2 : Hid (NilOr v2 k) := z2
  have HCT : Hid _ := hCT
  have HU2 : Hid _ := hU2
  obtain ⟨a1, c1, R1, rfl, -⟩ := id h1
  obtain ⟨a2, c2, R2, rfl, -⟩ := id h2
  clear hn he h1 h2 z1 z2 hCT hU2 R1 R2
  go_enter Tryz.func5, Tryz.ntmps5
  go_wp2_with fail
  refine Calls.mono HA.out ?_
  rintro e W0 ⟨rfl, hb0⟩
  have HR : Hid _ := run_any _ n l t W0 (H1.out.below hb0)
  rw [hE] at HR
  have HB0 : Hid (Below w.heap.size w W0) := hb0
  clear hb0 HA
  obtain ⟨S1, hS1⟩ : ∃ S1, S1 = rS n l t.data.toList := ⟨_, rfl⟩
  rw [← hS1] at HR HCT HU2 hU
  generalize rA n l t.data.toList = A1 at *
  clear hS1
  have HE : Hid (rE n l t.data.toList = 0) := hE
  clear hE
  go_wp2_with fail
  refine Calls.mono HR.out ?_
  rintro e V1 ⟨rfl, hb1⟩
  have hb01 := HB0.out.trans (hb1.mono HB0.out.size)
  obtain ⟨X1, hX1⟩ : ∃ X1, X1 = V1.alloc (.cells #[.int .i64 0, .int .i64 (A1 : Int)] 35) := ⟨_, rfl⟩
  have hbx1 : Below w.heap.size w X1 := by rw [hX1]; exact hb01.alloc hb01.size _
  have hf8 : RowAt X1 V1.heap.size 35 #[.int .i64 0, .int .i64 (A1 : Int)] := by rw [hX1]; exact RowAt.new V1 _ _
  have HLO : Hid (w.heap.size ≤ V1.heap.size) := hb01.size
  have HBX1 : Hid _ := hbx1
  have HF8 : Hid _ := hf8
  have c0 := RowAt.cell hf8 (i := 0) rfl
  have HUN : Hid _ := undo_any _ n l ⟨S1.toArray⟩ X1 (H1.out.below hbx1)
  clear hb1 hb01 hbx1 hf8 HB0 HR
  change Hid (Calls Tryz.prog 13 _ _ fun e w' => e = .returned (.tuple #[.string ⟨(uS n l S1).toArray⟩, fltV (uE n l S1) (uA n l S1)]) ∧ _) at HUN
  generalize uA n l S1 = A2 at *
  unfold fltV
  go_upto_region 4 with fail
  rw [← hX1]
  clear hX1
  go_wp2_with fail
  refine Calls.mono HUN.out ?_
  rintro e V2 ⟨rfl, hb2⟩
  have hb02 := HBX1.out.trans (hb2.mono HBX1.out.size)
  have hf8b := RowAt.below HF8.out hb2 (RowAt.lt HF8.out)
  have HV12 : Hid (V1.heap.size < V2.heap.size) := RowAt.lt hf8b
  rcases hU with hU | hU
  · obtain ⟨u1, u2, u3, u4⟩ := HU2.out hU
    rw [hU, u1, ba_list17]
    obtain ⟨X2, hX2⟩ : ∃ X2, X2 = V2.alloc (.cells #[.int .i64 0, .int .i64 (A2 : Int)] 35) := ⟨_, rfl⟩
    have hbx2 : Below w.heap.size w X2 := by rw [hX2]; exact hb02.alloc hb02.size _
    have hf8d : RowAt X2 V1.heap.size 35 #[.int .i64 0, .int .i64 (A1 : Int)] := by rw [hX2]; exact RowAt.alloc hf8b _
    have hf10d : RowAt X2 V2.heap.size 35 #[.int .i64 0, .int .i64 (A2 : Int)] := by rw [hX2]; exact RowAt.new V2 _ _
    have c10 := RowAt.cell hf10d (i := 0) rfl
    have HU3 : Hid _ := undo_any _ n l t X2 (H1.out.below hbx2)
    rw [u2] at HU3
    have HRX : Hid (∀ W, Below w.heap.size w W → Calls Tryz.prog 11 #[.slice a1 n c1, .string ⟨(uS n l t.data.toList).toArray⟩] W fun e w' => e = .returned (.tuple #[.string t, fltV 0 (rA n l (uS n l t.data.toList))]) ∧ Below W.heap.size W w') := fun W hW => by
      have h := run_any _ n l ⟨(uS n l t.data.toList).toArray⟩ W (H1.out.below hW)
      change Calls Tryz.prog 11 _ _ fun e w' => e = .returned (.tuple #[.string ⟨(rS n l (uS n l t.data.toList)).toArray⟩, fltV (rE n l (uS n l t.data.toList)) (rA n l (uS n l t.data.toList))]) ∧ _ at h
      rw [u3, u4, ba_list17] at h
      exact h
    have HBX2 : Hid _ := hbx2
    have HF8D : Hid _ := hf8d
    have HF10D : Hid _ := hf10d
    generalize rA n l (uS n l t.data.toList) = A4 at *
    generalize uA n l t.data.toList = A3 at *
    generalize uS n l t.data.toList = U3 at *
    clear hb2 hb02 hf8b HUN HF8 HBX1 c0 HU2 hU u1 u2 u3 u4 hbx2 hf8d hf10d HE
    unfold fltV
    go_upto_region 7 with fail
    rw [← hX2]
    clear hX2
    go_wp2_with fail
    refine Calls.mono HU3.out ?_
    rintro e V3 ⟨rfl, hb3⟩
    have hb03 := HBX2.out.trans (hb3.mono HBX2.out.size)
    obtain ⟨X3, hX3⟩ : ∃ X3, X3 = V3.alloc (.cells #[.int .i64 0, .int .i64 (A3 : Int)] 35) := ⟨_, rfl⟩
    have hx3 : Below V3.heap.size V3 X3 := by rw [hX3]; exact (Below.refl _ V3).alloc (Nat.le_refl _) _
    have hbx3 : Below w.heap.size w X3 := hb03.trans (hx3.mono hb03.size)
    have hx23 : Below X2.heap.size X2 X3 := hb3.trans (hx3.mono hb3.size)
    have hf12 : RowAt X3 V3.heap.size 35 #[.int .i64 0, .int .i64 (A3 : Int)] := by rw [hX3]; exact RowAt.new V3 _ _
    have HR4 : Hid _ := HRX.out X3 hbx3
    have HBX3 : Hid _ := hbx3
    have HX23 : Hid _ := hx23
    have HF12 : Hid _ := hf12
    clear hb3 hb03 hx3 hbx3 hx23 hf12 HU3 HRX c10
    unfold fltV
    go_upto_region 11 with fail
    rw [← hX3]
    clear hX3
    go_wp2_with fail
    refine Calls.mono HR4.out ?_
    rintro e V4 ⟨rfl, hb4⟩
    have hb04 := HBX3.out.trans (hb4.mono HBX3.out.size)
    obtain ⟨X4, hX4⟩ : ∃ X4, X4 = V4.alloc (.cells #[.int .i64 0, .int .i64 (A4 : Int)] 35) := ⟨_, rfl⟩
    have hx4 : Below V4.heap.size V4 X4 := by rw [hX4]; exact (Below.refl _ V4).alloc (Nat.le_refl _) _
    have hx34 : Below X3.heap.size X3 X4 := hb4.trans (hx4.mono hb4.size)
    have hx24 : Below X2.heap.size X2 X4 := HX23.out.trans (hx34.mono HX23.out.size)
    have HBX : Hid (Below w.heap.size w X4) := hb04.trans (hx4.mono hb04.size)
    have hf14 : RowAt X4 V4.heap.size 35 #[.int .i64 0, .int .i64 (A4 : Int)] := by rw [hX4]; exact RowAt.new V4 _ _
    have hf12c := RowAt.below HF12.out hx34 (RowAt.lt HF12.out)
    have hf8c := RowAt.below HF8D.out hx24 (RowAt.lt HF8D.out)
    have hf10c := RowAt.below HF10D.out hx24 (RowAt.lt HF10D.out)
    have d12 := RowAt.cell hf12c (i := 0) rfl
    have d14 := RowAt.cell hf14 (i := 0) rfl
    clear hb4 hb04 hx4 hx34 hx24 HR4 hf14 hf12c HBX2 HBX3 HX23 HF12 HF8D HF10D
    unfold fltV
    go_upto_region 12 with fail
    rw [← hX4]
    clear hX4
    go_upto_region 14 with fail
    clear d12 d14
    have hbX := HBX.out
    have HRW8 : Hid (RowAt X4 V1.heap.size 35 #[.int .i64 0, .int .i64 (A1 : Int)]) := hf8c
    have HRW10 : Hid (RowAt X4 V2.heap.size 35 #[.int .i64 0, .int .i64 (A2 : Int)]) := hf10c
    clear hf8c hf10c
    by_cases h64 : 64 < n + k
    · have h64i : (64 : Int) < (n : Int) + (k : Int) := by omega
      clear h64 hbX
      go_wp2
      go_ret
      exact ⟨rfl, HBX.out⟩
    have h64i : ¬ (64 : Int) < (n : Int) + (k : Int) := by omega
    obtain ⟨q1, q2⟩ := HCT.out (by omega)
    have HQ1 : Hid _ := q1
    have HQ2 : Hid _ := q2
    have HR5 : Hid _ := run_any _ k m ⟨S1.toArray⟩ X4 (H2.out.below hbX)
    change Hid (Calls Tryz.prog 11 _ _ fun e w' => e = .returned (.tuple #[.string ⟨(rS k m S1).toArray⟩, fltV (rE k m S1) (rA k m S1)]) ∧ _) at HR5
    generalize rA k m S1 = A5 at *
    generalize rS k m S1 = S5 at *
    generalize rE k m S1 = E5 at *
    clear hbX q1 q2
    go_wp2_with fail
    refine Calls.mono HR5.out ?_
    rintro e V5 ⟨rfl, hb5⟩
    have hg8 := RowAt.below HRW8.out hb5 (RowAt.lt HRW8.out)
    have hg10 := RowAt.below HRW10.out hb5 (RowAt.lt HRW10.out)
    have hbx5 := HBX.out.trans (hb5.mono HBX.out.size)
    obtain ⟨X5, hX5⟩ : ∃ X5, X5 = (V5.setCell ⟨V1.heap.size, 0, none⟩ (.int .i64 E5)).setCell ⟨V1.heap.size, 1, none⟩ (.int .i64 (A5 : Int)) := ⟨_, rfl⟩
    have hh8 : RowAt X5 V1.heap.size 35 #[.int .i64 E5, .int .i64 (A5 : Int)] := by rw [hX5]; exact (RowAt.set hg8 0 _).set 1 _
    have hh10 : RowAt X5 V2.heap.size 35 #[.int .i64 0, .int .i64 (A2 : Int)] := by rw [hX5]; exact RowAt.setOther (RowAt.setOther hg10 ⟨V1.heap.size, 0, none⟩ _ (by show V2.heap.size ≠ V1.heap.size; have := HV12.out; omega)) ⟨V1.heap.size, 1, none⟩ _ (by show V2.heap.size ≠ V1.heap.size; have := HV12.out; omega)
    have hbb5 : Below w.heap.size w X5 := by rw [hX5]; exact (hbx5.setCell (p := ⟨V1.heap.size, 0, none⟩) HLO.out _).setCell (p := ⟨V1.heap.size, 1, none⟩) HLO.out _
    have k0 := RowAt.cell hg8 (i := 0) rfl
    have k1 := RowAt.cell hg8 (i := 1) rfl
    have kf0 := RowAt.frozen hg8 0
    have kf1 := RowAt.frozen hg8 1
    have HH8 : Hid _ := hh8
    have HH10 : Hid _ := hh10
    have HBB5 : Hid _ := hbb5
    clear hg8 hg10 hbx5 hh8 hh10 hbb5 hb5 HR5 HRW8 HRW10
    unfold fltV
    go_upto_region 17 with fail
    rw [← hX5]
    clear hX5 k0 k1 kf0 kf1
    have hbs := run_bs0
    obtain ⟨_a1, _c1, R1, hva, -, hs1, hn1, hl1, ho1⟩ := H1.out.src
    obtain ⟨_a2, _c2, R2, hvb, -, hs2, hn2, hl2, ho2⟩ := H2.out.src
    have own0 : (X5.alloc (.cells #[] 31)).ownsRow X5.heap.size 31 59 (.slice (some ⟨X5.heap.size, 0, none⟩) 0 0) 0 [] := ⟨rfl, .inr ⟨X5.heap.size, 0, #[], rfl, Nat.le_refl _, RowAt.new X5 _ _, Nat.le_refl _, by decide, rfl, rfl⟩⟩
    have hbb6 : Below w.heap.size w (X5.alloc (.cells #[] 31)) := HBB5.out.alloc HBB5.out.size _
    have HWZ : Hid (w.heap.size ≤ X5.heap.size) := HBB5.out.size
    have HS1 : Hid _ := hs1
    have HS2 : Hid _ := hs2
    have hn1' : ∀ ad c, Value.slice a1 n c1 = .slice (some ad) n c → ∀ j u, (rws R1 n)[j]? = some u → (X5.alloc (.cells #[] 31)).cell? (ad.add j) = some u := fun ad c e j u hu => by
      have h := hn1 ad (by rw [hva] at e; injection e) j u hu
      exact (hbb6.cell (p := ad.add j) (World.block_lt_of_cell? _ _ h)).trans h
    have hn2' : ∀ W, Below w.heap.size w W → ∀ ad c, Value.slice a2 k c2 = .slice (some ad) k c → ∀ j u, (rws R2 k)[j]? = some u → W.cell? (ad.add j) = some u := fun W hW ad c e j u hu => by
      have h := hn2 ad (by rw [hvb] at e; injection e) j u hu
      exact (hW.cell (p := ad.add j) (World.block_lt_of_cell? _ _ h)).trans h
    have HN2 : Hid _ := hn2'
    have HO1 : Hid _ := ho1
    have HO2 : Hid _ := ho2
    have HL1 : Hid _ := hl1
    have HL2 : Hid _ := hl2
    have HN1 : Hid _ := hn1'
    have HOW0 : Hid _ := own0
    have HBB6 : Hid _ := hbb6
    clear hva hvb hs1 hs2 hn1 hn2 hn1' hn2' ho1 ho2 hl1 hl2 own0 hbb6
    go_wp2_with (first
      | (at_builtin; refine wpList_app17 rfl _ _ rfl X5.heap.size _ 0 [] rfl HOW0.out _ n (rws R1 n) rfl Z1.out HL1.out HN1.out HO1.out (by omega) (by simp) ?_; intro v6 w6 hown6 hg6; simp only [Nat.zero_add, List.nil_append] at hown6; obtain ⟨g6, c6, rfl⟩ := own_form17 hown6; have HOW6 : Hid _ := hown6; have HG6 : Hid _ := hg6; have HB6 : Hid (Below w.heap.size w w6) := HBB6.out.grown hg6 (by have := HWZ.out; rw [World.size_alloc]; omega) (fun r e => by cases e; exact HWZ.out); clear hown6 hg6)
      | (at_builtin; refine wpList_app17 rfl _ _ rfl X5.heap.size _ n (rws R1 n) rfl HOW6.out _ k (rws R2 k) rfl Z2.out HL2.out (HN2.out _ HB6.out) HO2.out (by omega) (by have h := HG6.out.size; rw [World.size_alloc] at h; omega) ?_; intro v7 w7 hown7 hg7; obtain ⟨g7, c7, rfl⟩ := own_form17 hown7; have HOW7 : Hid _ := hown7; have HG7 : Hid _ := hg7; clear hown7 hg7))
    have hw6 : X5.heap.size ≤ w6.heap.size := by have h := HG6.out.size; rw [World.size_alloc] at h; omega
    have hb7 : Below w.heap.size w w7 := HB6.out.grown HG7.out HB6.out.size (fun r e => by have := (World.ownsRow.lt HOW6.out r e).1; have := HWZ.out; omega)
    have hj8 : RowAt w7 V1.heap.size 35 #[.int .i64 E5, .int .i64 (A5 : Int)] := (HG7.out.block _ (by have := RowAt.lt HH8.out; omega) (fun e => by have := (World.ownsRow.lt HOW6.out _ e.symm).1; have := RowAt.lt HH8.out; omega)).trans ((HG6.out.block _ (by have := RowAt.lt HH8.out; rw [World.size_alloc]; omega) (fun e => by have e2 : V1.heap.size = X5.heap.size := Option.some.inj e; have := RowAt.lt HH8.out; omega)).trans (RowAt.alloc HH8.out _))
    have hj10 : RowAt w7 V2.heap.size 35 #[.int .i64 0, .int .i64 (A2 : Int)] := (HG7.out.block _ (by have := RowAt.lt HH10.out; omega) (fun e => by have := (World.ownsRow.lt HOW6.out _ e.symm).1; have := RowAt.lt HH10.out; omega)).trans ((HG6.out.block _ (by have := RowAt.lt HH10.out; rw [World.size_alloc]; omega) (fun e => by have e2 : V2.heap.size = X5.heap.size := Option.some.inj e; have := RowAt.lt HH10.out; omega)).trans (RowAt.alloc HH10.out _))
    have hch := chat_cat (l := l) (m := m) HS1.out HS2.out hb7 HOW7.out
    refine Calls.mono (run_any _ (n + k) (catS n l m) t w7 hch) ?_
    rintro e V9 ⟨rfl, hb9⟩
    rw [HQ1.out]
    have hi8 := RowAt.below hj8 hb9 (RowAt.lt hj8)
    have hi10 := RowAt.below hj10 hb9 (RowAt.lt hj10)
    have hbb9 := hb7.trans (hb9.mono hb7.size)
    generalize rA (n + k) (catS n l m) t.data.toList = A9 at *
    have ni8 : RowAt ((V9.setCell ⟨V2.heap.size, 0, none⟩ (.int .i64 E5)).setCell ⟨V2.heap.size, 1, none⟩ (.int .i64 (A9 : Int))) V1.heap.size 35 #[.int .i64 E5, .int .i64 (A5 : Int)] := RowAt.setOther (RowAt.setOther hi8 ⟨V2.heap.size, 0, none⟩ _ (by show V1.heap.size ≠ V2.heap.size; have := HV12.out; omega)) ⟨V2.heap.size, 1, none⟩ _ (by show V1.heap.size ≠ V2.heap.size; have := HV12.out; omega)
    have ni10 : RowAt ((V9.setCell ⟨V2.heap.size, 0, none⟩ (.int .i64 E5)).setCell ⟨V2.heap.size, 1, none⟩ (.int .i64 (A9 : Int))) V2.heap.size 35 #[.int .i64 E5, .int .i64 (A9 : Int)] := (RowAt.set hi10 0 _).set 1 _
    have HB9 : Hid (Below w.heap.size w ((V9.setCell ⟨V2.heap.size, 0, none⟩ (.int .i64 E5)).setCell ⟨V2.heap.size, 1, none⟩ (.int .i64 (A9 : Int)))) := (hbb9.setCell (p := ⟨V2.heap.size, 0, none⟩) (by have := HLO.out; have := HV12.out; show w.heap.size ≤ V2.heap.size; omega) _).setCell (p := ⟨V2.heap.size, 1, none⟩) (by have := HLO.out; have := HV12.out; show w.heap.size ≤ V2.heap.size; omega) _
    have m0 := RowAt.cell hi10 (i := 0) rfl
    have m1 := RowAt.cell hi10 (i := 1) rfl
    have mf0 := RowAt.frozen hi10 0
    have mf1 := RowAt.frozen hi10 1
    obtain ⟨X9, hX9⟩ : ∃ X9, X9 = (V9.setCell ⟨V2.heap.size, 0, none⟩ (.int .i64 E5)).setCell ⟨V2.heap.size, 1, none⟩ (.int .i64 (A9 : Int)) := ⟨_, rfl⟩
    rw [← hX9] at ni8 ni10 HB9
    have r8 := RowAt.cell ni8 (i := 0) rfl
    have r10 := RowAt.cell ni10 (i := 0) rfl
    clear hi8 hi10 ni8 ni10 hb9 hb7 hbb9 hj8 hj10 hch hw6
    unfold fltV
    by_cases hE5 : E5 = 0
    · have e5 := HQ2.out hE5
      rw [e5]
      clear e5
      subst hE5
      go_upto_region 18 with fail
      rw [← hX9]
      clear hX9 m0 m1 mf0 mf1
      go_wp2
      go_ret
      exact ⟨rfl, HB9.out⟩
    · have hz5 : (E5 == 0) = false := beq_false_of_ne hE5
      clear hE5
      go_upto_region 18 with fail
      rw [← hX9]
      clear hX9 m0 m1 mf0 mf1
      go_wp2
      go_ret
      exact ⟨by simp, HB9.out⟩

  · rw [hU]
    obtain ⟨X2, hX2⟩ : ∃ X2, X2 = V2.alloc (.cells #[.int .i64 6, .int .i64 (A2 : Int)] 35) := ⟨_, rfl⟩
    have HBX : Hid (Below w.heap.size w X2) := by rw [Hid, hX2]; exact hb02.alloc hb02.size _
    have hf8c : RowAt X2 V1.heap.size 35 #[.int .i64 0, .int .i64 (A1 : Int)] := by rw [hX2]; exact RowAt.alloc hf8b _
    have hf10c : RowAt X2 V2.heap.size 35 #[.int .i64 6, .int .i64 (A2 : Int)] := by rw [hX2]; exact RowAt.new V2 _ _
    have c10 := RowAt.cell hf10c (i := 0) rfl
    clear hb2 hb02 hf8b HUN HF8 HBX1 c0 HU2 hU
    generalize uS n l S1 = U1
    unfold fltV
    go_upto_region 7 with fail
    rw [← hX2]
    clear hX2
    go_upto_region 14 with fail
    clear c10
    have hbX := HBX.out
    have HRW8 : Hid (RowAt X2 V1.heap.size 35 #[.int .i64 0, .int .i64 (A1 : Int)]) := hf8c
    have HRW10 : Hid (RowAt X2 V2.heap.size 35 #[.int .i64 6, .int .i64 (A2 : Int)]) := hf10c
    clear hf8c hf10c
    by_cases h64 : 64 < n + k
    · have h64i : (64 : Int) < (n : Int) + (k : Int) := by omega
      clear h64 hbX
      go_wp2
      go_ret
      exact ⟨rfl, HBX.out⟩
    have h64i : ¬ (64 : Int) < (n : Int) + (k : Int) := by omega
    obtain ⟨q1, q2⟩ := HCT.out (by omega)
    have HQ1 : Hid _ := q1
    have HQ2 : Hid _ := q2
    have HR5 : Hid _ := run_any _ k m ⟨S1.toArray⟩ X2 (H2.out.below hbX)
    change Hid (Calls Tryz.prog 11 _ _ fun e w' => e = .returned (.tuple #[.string ⟨(rS k m S1).toArray⟩, fltV (rE k m S1) (rA k m S1)]) ∧ _) at HR5
    generalize rA k m S1 = A5 at *
    generalize rS k m S1 = S5 at *
    generalize rE k m S1 = E5 at *
    clear hbX q1 q2
    go_wp2_with fail
    refine Calls.mono HR5.out ?_
    rintro e V5 ⟨rfl, hb5⟩
    have hg8 := RowAt.below HRW8.out hb5 (RowAt.lt HRW8.out)
    have hg10 := RowAt.below HRW10.out hb5 (RowAt.lt HRW10.out)
    have hbx5 := HBX.out.trans (hb5.mono HBX.out.size)
    obtain ⟨X5, hX5⟩ : ∃ X5, X5 = (V5.setCell ⟨V1.heap.size, 0, none⟩ (.int .i64 E5)).setCell ⟨V1.heap.size, 1, none⟩ (.int .i64 (A5 : Int)) := ⟨_, rfl⟩
    have hh8 : RowAt X5 V1.heap.size 35 #[.int .i64 E5, .int .i64 (A5 : Int)] := by rw [hX5]; exact (RowAt.set hg8 0 _).set 1 _
    have hh10 : RowAt X5 V2.heap.size 35 #[.int .i64 6, .int .i64 (A2 : Int)] := by rw [hX5]; exact RowAt.setOther (RowAt.setOther hg10 ⟨V1.heap.size, 0, none⟩ _ (by show V2.heap.size ≠ V1.heap.size; have := HV12.out; omega)) ⟨V1.heap.size, 1, none⟩ _ (by show V2.heap.size ≠ V1.heap.size; have := HV12.out; omega)
    have hbb5 : Below w.heap.size w X5 := by rw [hX5]; exact (hbx5.setCell (p := ⟨V1.heap.size, 0, none⟩) HLO.out _).setCell (p := ⟨V1.heap.size, 1, none⟩) HLO.out _
    have k0 := RowAt.cell hg8 (i := 0) rfl
    have k1 := RowAt.cell hg8 (i := 1) rfl
    have kf0 := RowAt.frozen hg8 0
    have kf1 := RowAt.frozen hg8 1
    have HH8 : Hid _ := hh8
    have HH10 : Hid _ := hh10
    have HBB5 : Hid _ := hbb5
    clear hg8 hg10 hbx5 hh8 hh10 hbb5 hb5 HR5 HRW8 HRW10
    unfold fltV
    go_upto_region 17 with fail
    rw [← hX5]
    clear hX5 k0 k1 kf0 kf1
    have hbs := run_bs0
    obtain ⟨_a1, _c1, R1, hva, -, hs1, hn1, hl1, ho1⟩ := H1.out.src
    obtain ⟨_a2, _c2, R2, hvb, -, hs2, hn2, hl2, ho2⟩ := H2.out.src
    have own0 : (X5.alloc (.cells #[] 31)).ownsRow X5.heap.size 31 59 (.slice (some ⟨X5.heap.size, 0, none⟩) 0 0) 0 [] := ⟨rfl, .inr ⟨X5.heap.size, 0, #[], rfl, Nat.le_refl _, RowAt.new X5 _ _, Nat.le_refl _, by decide, rfl, rfl⟩⟩
    have hbb6 : Below w.heap.size w (X5.alloc (.cells #[] 31)) := HBB5.out.alloc HBB5.out.size _
    have HWZ : Hid (w.heap.size ≤ X5.heap.size) := HBB5.out.size
    have HS1 : Hid _ := hs1
    have HS2 : Hid _ := hs2
    have hn1' : ∀ ad c, Value.slice a1 n c1 = .slice (some ad) n c → ∀ j u, (rws R1 n)[j]? = some u → (X5.alloc (.cells #[] 31)).cell? (ad.add j) = some u := fun ad c e j u hu => by
      have h := hn1 ad (by rw [hva] at e; injection e) j u hu
      exact (hbb6.cell (p := ad.add j) (World.block_lt_of_cell? _ _ h)).trans h
    have hn2' : ∀ W, Below w.heap.size w W → ∀ ad c, Value.slice a2 k c2 = .slice (some ad) k c → ∀ j u, (rws R2 k)[j]? = some u → W.cell? (ad.add j) = some u := fun W hW ad c e j u hu => by
      have h := hn2 ad (by rw [hvb] at e; injection e) j u hu
      exact (hW.cell (p := ad.add j) (World.block_lt_of_cell? _ _ h)).trans h
    have HN2 : Hid _ := hn2'
    have HO1 : Hid _ := ho1
    have HO2 : Hid _ := ho2
    have HL1 : Hid _ := hl1
    have HL2 : Hid _ := hl2
    have HN1 : Hid _ := hn1'
    have HOW0 : Hid _ := own0
    have HBB6 : Hid _ := hbb6
    clear hva hvb hs1 hs2 hn1 hn2 hn1' hn2' ho1 ho2 hl1 hl2 own0 hbb6
    go_wp2_with (first
      | (at_builtin; refine wpList_app17 rfl _ _ rfl X5.heap.size _ 0 [] rfl HOW0.out _ n (rws R1 n) rfl Z1.out HL1.out HN1.out HO1.out (by omega) (by simp) ?_; intro v6 w6 hown6 hg6; simp only [Nat.zero_add, List.nil_append] at hown6; obtain ⟨g6, c6, rfl⟩ := own_form17 hown6; have HOW6 : Hid _ := hown6; have HG6 : Hid _ := hg6; have HB6 : Hid (Below w.heap.size w w6) := HBB6.out.grown hg6 (by have := HWZ.out; rw [World.size_alloc]; omega) (fun r e => by cases e; exact HWZ.out); clear hown6 hg6)
      | (at_builtin; refine wpList_app17 rfl _ _ rfl X5.heap.size _ n (rws R1 n) rfl HOW6.out _ k (rws R2 k) rfl Z2.out HL2.out (HN2.out _ HB6.out) HO2.out (by omega) (by have h := HG6.out.size; rw [World.size_alloc] at h; omega) ?_; intro v7 w7 hown7 hg7; obtain ⟨g7, c7, rfl⟩ := own_form17 hown7; have HOW7 : Hid _ := hown7; have HG7 : Hid _ := hg7; clear hown7 hg7))
    have hw6 : X5.heap.size ≤ w6.heap.size := by have h := HG6.out.size; rw [World.size_alloc] at h; omega
    have hb7 : Below w.heap.size w w7 := HB6.out.grown HG7.out HB6.out.size (fun r e => by have := (World.ownsRow.lt HOW6.out r e).1; have := HWZ.out; omega)
    have hj8 : RowAt w7 V1.heap.size 35 #[.int .i64 E5, .int .i64 (A5 : Int)] := (HG7.out.block _ (by have := RowAt.lt HH8.out; omega) (fun e => by have := (World.ownsRow.lt HOW6.out _ e.symm).1; have := RowAt.lt HH8.out; omega)).trans ((HG6.out.block _ (by have := RowAt.lt HH8.out; rw [World.size_alloc]; omega) (fun e => by have e2 : V1.heap.size = X5.heap.size := Option.some.inj e; have := RowAt.lt HH8.out; omega)).trans (RowAt.alloc HH8.out _))
    have hj10 : RowAt w7 V2.heap.size 35 #[.int .i64 6, .int .i64 (A2 : Int)] := (HG7.out.block _ (by have := RowAt.lt HH10.out; omega) (fun e => by have := (World.ownsRow.lt HOW6.out _ e.symm).1; have := RowAt.lt HH10.out; omega)).trans ((HG6.out.block _ (by have := RowAt.lt HH10.out; rw [World.size_alloc]; omega) (fun e => by have e2 : V2.heap.size = X5.heap.size := Option.some.inj e; have := RowAt.lt HH10.out; omega)).trans (RowAt.alloc HH10.out _))
    have hch := chat_cat (l := l) (m := m) HS1.out HS2.out hb7 HOW7.out
    refine Calls.mono (run_any _ (n + k) (catS n l m) t w7 hch) ?_
    rintro e V9 ⟨rfl, hb9⟩
    rw [HQ1.out]
    have hi8 := RowAt.below hj8 hb9 (RowAt.lt hj8)
    have hi10 := RowAt.below hj10 hb9 (RowAt.lt hj10)
    have hbb9 := hb7.trans (hb9.mono hb7.size)
    generalize rA (n + k) (catS n l m) t.data.toList = A9 at *
    have ni8 : RowAt ((V9.setCell ⟨V2.heap.size, 0, none⟩ (.int .i64 E5)).setCell ⟨V2.heap.size, 1, none⟩ (.int .i64 (A9 : Int))) V1.heap.size 35 #[.int .i64 E5, .int .i64 (A5 : Int)] := RowAt.setOther (RowAt.setOther hi8 ⟨V2.heap.size, 0, none⟩ _ (by show V1.heap.size ≠ V2.heap.size; have := HV12.out; omega)) ⟨V2.heap.size, 1, none⟩ _ (by show V1.heap.size ≠ V2.heap.size; have := HV12.out; omega)
    have ni10 : RowAt ((V9.setCell ⟨V2.heap.size, 0, none⟩ (.int .i64 E5)).setCell ⟨V2.heap.size, 1, none⟩ (.int .i64 (A9 : Int))) V2.heap.size 35 #[.int .i64 E5, .int .i64 (A9 : Int)] := (RowAt.set hi10 0 _).set 1 _
    have HB9 : Hid (Below w.heap.size w ((V9.setCell ⟨V2.heap.size, 0, none⟩ (.int .i64 E5)).setCell ⟨V2.heap.size, 1, none⟩ (.int .i64 (A9 : Int)))) := (hbb9.setCell (p := ⟨V2.heap.size, 0, none⟩) (by have := HLO.out; have := HV12.out; show w.heap.size ≤ V2.heap.size; omega) _).setCell (p := ⟨V2.heap.size, 1, none⟩) (by have := HLO.out; have := HV12.out; show w.heap.size ≤ V2.heap.size; omega) _
    have m0 := RowAt.cell hi10 (i := 0) rfl
    have m1 := RowAt.cell hi10 (i := 1) rfl
    have mf0 := RowAt.frozen hi10 0
    have mf1 := RowAt.frozen hi10 1
    obtain ⟨X9, hX9⟩ : ∃ X9, X9 = (V9.setCell ⟨V2.heap.size, 0, none⟩ (.int .i64 E5)).setCell ⟨V2.heap.size, 1, none⟩ (.int .i64 (A9 : Int)) := ⟨_, rfl⟩
    rw [← hX9] at ni8 ni10 HB9
    have r8 := RowAt.cell ni8 (i := 0) rfl
    have r10 := RowAt.cell ni10 (i := 0) rfl
    clear hi8 hi10 ni8 ni10 hb9 hb7 hbb9 hj8 hj10 hch hw6
    unfold fltV
    by_cases hE5 : E5 = 0
    · have e5 := HQ2.out hE5
      rw [e5]
      clear e5
      subst hE5
      go_upto_region 18 with fail
      rw [← hX9]
      clear hX9 m0 m1 mf0 mf1
      go_wp2
      go_ret
      exact ⟨rfl, HB9.out⟩
    · have hz5 : (E5 == 0) = false := beq_false_of_ne hE5
      clear hE5
      go_upto_region 18 with fail
      rw [← hX9]
      clear hX9 m0 m1 mf0 mf1
      go_wp2
      go_ret
      exact ⟨by simp, HB9.out⟩
theorem sund_any (v1 v2 : Value) (n k : Nat) (l m : Nat → Sp) (t : ByteArray) (w : World) (h1 : ChAt w v1 n l) (h2 : ChAt w v2 k m) (z1 : NilOr v1 n) (z2 : NilOr v2 k) (hk : k ≤ 1099511627776) (hn : NmAt w) (he : ErAt w) : Calls Tryz.prog 5 #[v1, v2, .string t] w fun e w' => e = .returned (.bool true) ∧ Below w.heap.size w w' := by
  by_cases hE : rE n l t.data.toList = 0
  · exact sund_ok v1 v2 n k l m t w h1 h2 z1 z2 hk hn he hE
  · exact sund_bad v1 v2 n l t w h1 hn he hE
end Go.Proofs.YtkohhdkkbaifoaaGreatDoor
