/-
  ScriptTurns, walked.
-/
import Derived.Test.YtkohhdkkbaifoaaGreatDoorJn37
namespace Go.Proofs.YtkohhdkkbaifoaaGreatDoor
open Go.RowKit PK Vg

theorem i3_stepS : (Tryz.prog.info? 31).map (fun i => (i.zero, i.size, i.bytes)) = some (some (.agg (spA 0 0 ⟨#[]⟩ (.slice none 0 0) (.slice none 0 0) (.slice none 0 0) (.slice none 0 0) (fun _ => 0) (fun _ => 0))), 59, 544) := by kernel_rfl
theorem set_same17 {W : World} {b : Nat} {T : TypeId} {c : Array Value} (h : RowAt W b T c) {i : Nat} {v : Value} (hv : c[i]? = some v) : W.setCell ⟨b, i, none⟩ v = W := by
  have e : c.setIfInBounds i v = c := by
    apply Array.ext_getElem?
    intro j
    rw [Array.getElem?_setIfInBounds]
    by_cases e : i = j
    · subst e
      rw [if_pos rfl, if_pos (Array.getElem?_eq_some_iff.1 hv).1, hv]
    · rw [if_neg e]
  have h1 := h.set i v
  rw [e] at h1
  have hh : (W.setCell ⟨b, i, none⟩ v).heap = W.heap := by
    apply Array.ext_getElem?
    intro j
    by_cases ej : j = b
    · rw [ej]; exact h1.trans h.symm
    · exact heap_setCell_other W ⟨b, i, none⟩ j v ej
  unfold World.setCell at hh ⊢
  cases W
  simp only at hh ⊢
  rw [hh]
set_option maxRecDepth 100000 in
set_option maxHeartbeats 4000000 in
theorem sct_bad (v1 : Value) (n : Nat) (l : Nat → Sp) (t : ByteArray) (w : World) (h1 : ChAt w v1 n l) (hn : NmAt w) (he : ErAt w) (ho : OldAt w) (hE : prE n l ≠ 0 ∨ 65536 < (prT n l).length) : Calls Tryz.prog 4 #[v1, .string t] w fun e w' => e = .returned (.bool true) ∧ Below w.heap.size w w' := by
  have HA : Hid _ := alive17_any w hn he
  have HG : Hid (NmAt w ∧ ErAt w ∧ OldAt w) := ⟨hn, he, ho⟩
  have H1 : Hid (ChAt w v1 n l) := h1
  obtain ⟨a1, c1, R1, rfl, -⟩ := id h1
  clear hn he ho h1 R1
  obtain ⟨PB, hPB⟩ : ∃ PB : ByteArray, PB = ⟨(prT n l).toArray⟩ := ⟨_, rfl⟩
  have hsz : PB.size = (prT n l).length := by rw [hPB]; rfl
  have HPR : Hid (∀ W, Below w.heap.size w W → Calls Tryz.prog 15 #[.slice a1 n c1] W fun e w' => e = .returned (.tuple #[.string PB, fltV (prE n l) (if prE n l = 0 then 0 else prA n l : Nat)]) ∧ Below W.heap.size W w') := fun W hW => by
    rw [hPB]
    exact print17_any _ n l W (H1.out.below hW) (HG.out.1.below hW) (HG.out.2.2.below hW)
  rw [← hsz] at hE
  clear hPB hsz
  generalize (if prE n l = 0 then 0 else prA n l) = PA at *
  generalize prE n l = PE at *
  go_enter Tryz.func4, Tryz.ntmps4
  go_wp2_with fail
  refine Calls.mono HA.out ?_
  rintro e W0 ⟨rfl, hb0⟩
  have HP1 : Hid _ := HPR.out W0 hb0
  have HB0 : Hid (Below w.heap.size w W0) := hb0
  clear hb0 HA HPR
  go_wp2_with fail
  refine Calls.mono HP1.out ?_
  rintro e V1 ⟨rfl, hb1⟩
  have hb01 := HB0.out.trans (hb1.mono HB0.out.size)
  obtain ⟨VV, hVV⟩ : ∃ VV, VV = V1.alloc (.cells #[.int .i64 PE, .int .i64 (PA : Int)] 35) := ⟨_, rfl⟩
  have HBV : Hid (Below w.heap.size w VV) := by rw [Hid, hVV]; exact hb01.alloc hb01.size _
  have k1 : VV.cell? ⟨V1.heap.size, 0, none⟩ = some (.int .i64 PE) := by rw [hVV]; exact RowAt.cell (RowAt.new V1 _ _) (i := 0) rfl
  clear hb1 hb01 HB0 HP1
  unfold fltV
  go_upto_region 4 with fail
  rw [← hVV]
  clear hVV
  by_cases hPE : PE = 0
  · subst hPE
    have hbig : ¬ (PB.size : Int) ≤ 65536 := by
      rcases hE with h | h
      · exact absurd rfl h
      · omega
    clear hE
    go_upto_region 16 with fail
    have HRT : Hid _ := read17_any t VV (HG.out.1.below HBV.out) (HG.out.2.1.below HBV.out)
    go_wp2_with fail
    refine Calls.mono HRT.out ?_
    rintro e V3 ⟨hrd, hb3⟩
    have hb03 := HBV.out.trans (hb3.mono HBV.out.size)
    clear HRT hb3 HBV
    rcases hRT : rRead t.data.toList with ⟨E, A⟩ | ⟨L, p⟩
    · rw [hRT] at hrd
      obtain rfl : e = .returned (.tuple #[.slice none 0 0, fltV E A]) := hrd
      have hE := nz_read _ E A hRT
      have hne : (E != 0) = true := by simpa using hE
      have HB3 : Hid (Below w.heap.size w (V3.alloc (.cells #[.int .i64 E, .int .i64 (A : Int)] 35))) := hb03.alloc hb03.size _
      clear hRT hb03 hE
      unfold fltV
      go_wp2
      go_ret
      exact ⟨rfl, HB3.out⟩
    rw [hRT] at hrd
    obtain ⟨v4, rfl, hch⟩ := hrd
    obtain ⟨hpe, hl64, hfew, hpln⟩ := read_few hRT
    obtain ⟨a4, cap4, R4, rfl, -⟩ := id hch
    obtain ⟨X3, hX3⟩ : ∃ X3, X3 = V3.alloc (.cells #[.int .i64 0, .int .i64 0] 35) := ⟨_, rfl⟩
    have hx3 : Below V3.heap.size V3 X3 := by rw [hX3]; exact (Below.refl _ V3).alloc (Nat.le_refl _) _
    have hf3 : RowAt X3 V3.heap.size 35 #[.int .i64 0, .int .i64 0] := by rw [hX3]; exact RowAt.new V3 _ _
    have k3 := RowAt.cell hf3 (i := 0) rfl
    have HF3 : Hid (RowAt X3 V3.heap.size 35 #[.int .i64 0, .int .i64 0]) := hf3
    have HB3 : Hid (Below w.heap.size w V3) := hb03
    have HX3 : Hid (Below V3.heap.size V3 X3) := hx3
    have HC3 : Hid (ChAt V3 (.slice a4 L.length cap4) L.length (spD L)) := hch
    have hbx3 := hb03.trans (hx3.mono hb03.size)
    have HPR : Hid _ := print17_any _ L.length (spD L) X3 (hch.below hx3) (HG.out.1.below hbx3) (HG.out.2.2.below hbx3)
    have HRK : Hid ((prS L.length (spD L)).length ≤ 65536 → ∃ M q, rRead (prS L.length (spD L)) = .ok (M, q) ∧ M.length = L.length ∧ ∀ i, i < L.length → SameS (spD L i) (spD M i)) := fun hle => by
      obtain ⟨M, q, h1, h2, h3⟩ := prS_read hpe hle
      exact ⟨M, q, h1, h2, fun i hi => (hpln i hi).trans (h3 i hi).symm⟩
    have HFW : Hid (L.length ≤ 64 ∧ ∀ i, i < L.length → FewS (spD L i)) := ⟨hl64, hfew⟩
    have hpt : prT L.length (spD L) = prS L.length (spD L) := by unfold prT; rw [if_pos hpe]
    rw [hpt, hpe, if_pos rfl] at HPR
    change Hid (Calls Tryz.prog 15 _ _ fun e w' => e = .returned (.tuple #[.string ⟨(prS L.length (spD L)).toArray⟩, fltV 0 0]) ∧ _) at HPR
    generalize prS L.length (spD L) = PS at *
    obtain ⟨PB, hPB⟩ : ∃ PB : ByteArray, PB = ⟨PS.toArray⟩ := ⟨_, rfl⟩
    have HPB : Hid (PB.data.toList = PS) := by rw [Hid, hPB]
    rw [← hPB] at HPR
    have HSZ : Hid (PB.size = PS.length) := by rw [Hid, Pl.size_len PB, HPB.out]
    clear hPB hpt hpe hl64 hfew hpln hb03 hx3 hbx3 hf3 hch hRT
    unfold fltV
    go_upto_region 17 with fail
    rw [← hX3]
    clear hX3
    go_wp2_with fail
    refine Calls.mono HPR.out ?_
    rintro e V4 ⟨rfl, hb4⟩
    have hb34 := HX3.out.trans (hb4.mono HX3.out.size)
    have hf4 := RowAt.below HF3.out hb4 (RowAt.lt HF3.out)
    obtain ⟨X4, hX4⟩ : ∃ X4, X4 = (V4.setCell ⟨V3.heap.size, 0, none⟩ (.int .i64 0)).setCell ⟨V3.heap.size, 1, none⟩ (.int .i64 0) := ⟨_, rfl⟩
    have hb4x : Below V3.heap.size V3 X4 := by rw [hX4]; exact (hb34.setCell (p := ⟨V3.heap.size, 0, none⟩) (Nat.le_refl _) _).setCell (p := ⟨V3.heap.size, 1, none⟩) (Nat.le_refl _) _
    have hf4x : RowAt X4 V3.heap.size 35 #[.int .i64 0, .int .i64 0] := by rw [hX4]; exact (hf4.set 0 _).set 1 _
    have k4 := RowAt.cell hf4x (i := 0) rfl
    have d4a := RowAt.cell hf4 (i := 0) rfl
    have d4b := RowAt.cell hf4 (i := 1) rfl
    have d4c := RowAt.frozen hf4 0
    have d4d := RowAt.frozen hf4 1
    have HX4 : Hid (Below V3.heap.size V3 X4) := hb4x
    have HF4 : Hid (RowAt X4 V3.heap.size 35 #[.int .i64 0, .int .i64 0]) := hf4x
    clear hb4 hb34 hf4 hb4x hf4x HPR HF3 HX3 k3
    unfold fltV
    go_upto_region 20 with fail
    rw [← hX4]
    clear hX4 d4a d4b d4c d4d
    have hb04 := HB3.out.trans (HX4.out.mono HB3.out.size)
    have HB4 : Hid (Below w.heap.size w X4) := hb04
    by_cases hbig : 65536 < PB.size
    · have hb1 : (65536 : Int) < (PB.size : Int) := by omega
      clear hb04
      go_wp2
      go_ret
      exact ⟨rfl, HB4.out⟩
    have hb1 : ¬ (65536 : Int) < (PB.size : Int) := by omega
    have HRM : Hid _ := read17_any PB X4 (HG.out.1.below hb04) (HG.out.2.1.below hb04)
    obtain ⟨M, q, hRM, hml, hsame⟩ := HRK.out (by have := HSZ.out; omega)
    rw [HPB.out, hRM] at HRM
    have HSM : Hid (∀ i, i < L.length → SameS (spD L i) (spD M i)) := hsame
    have HML : Hid (M.length = L.length) := hml
    clear hb04 hbig hml hsame hRM HRK
    go_wp2_with fail
    refine Calls.mono HRM.out ?_
    rintro e V5 ⟨⟨v5, rfl, hch5⟩, hb5⟩
    have hb35 := HX4.out.trans (hb5.mono HX4.out.size)
    have hf5 := RowAt.below HF4.out hb5 (RowAt.lt HF4.out)
    rw [HML.out] at hch5
    obtain ⟨a5, cap5, R5, rfl, -⟩ := id hch5
    obtain ⟨X5, hX5⟩ : ∃ X5, X5 = (V5.setCell ⟨V3.heap.size, 0, none⟩ (.int .i64 0)).setCell ⟨V3.heap.size, 1, none⟩ (.int .i64 0) := ⟨_, rfl⟩
    have hb5x : Below V3.heap.size V3 X5 := by rw [hX5]; exact (hb35.setCell (p := ⟨V3.heap.size, 0, none⟩) (Nat.le_refl _) _).setCell (p := ⟨V3.heap.size, 1, none⟩) (Nat.le_refl _) _
    have hf5x : RowAt X5 V3.heap.size 35 #[.int .i64 0, .int .i64 0] := by rw [hX5]; exact (hf5.set 0 _).set 1 _
    have hc5x : ChAt X5 (.slice a5 L.length cap5) L.length (spD M) := by
      rw [hX5, set_same17 hf5 (i := 0) (v := .int .i64 0) rfl, set_same17 hf5 (i := 1) (v := .int .i64 0) rfl]
      exact hch5
    have k5 := RowAt.cell hf5x (i := 0) rfl
    have d5a := RowAt.cell hf5 (i := 0) rfl
    have d5b := RowAt.cell hf5 (i := 1) rfl
    have d5c := RowAt.frozen hf5 0
    have d5d := RowAt.frozen hf5 1
    have HSC : Hid _ := rsameC_ok _ _ L.length (spD L) (spD M) HFW.out.1 HSM.out HFW.out.2 X5 (HC3.out.below hb5x) hc5x
    have HB5 : Hid (Below w.heap.size w X5) := HB3.out.trans (hb5x.mono HB3.out.size)
    clear hb5 hb35 hf5 hb5x hf5x hc5x hch5 HRM HF4 HX4 k4
    unfold fltV
    go_upto_region 25 with fail
    rw [← hX5]
    clear hX5 d5a d5b d5c d5d
    go_wp2_with fail
    refine Calls.mono HSC.out ?_
    rintro e V6 ⟨rfl, hb6⟩
    have HB6 : Hid (Below w.heap.size w V6) := HB5.out.trans (hb6.mono HB5.out.size)
    clear hb6 HSC k5
    go_wp2
    go_ret
    exact ⟨rfl, HB6.out⟩
  · have hne : (PE == 0) = false := by simpa using hPE
    clear hPE hE
    go_upto_region 16 with fail
    have HRT : Hid _ := read17_any t VV (HG.out.1.below HBV.out) (HG.out.2.1.below HBV.out)
    go_wp2_with fail
    refine Calls.mono HRT.out ?_
    rintro e V3 ⟨hrd, hb3⟩
    have hb03 := HBV.out.trans (hb3.mono HBV.out.size)
    clear HRT hb3 HBV
    rcases hRT : rRead t.data.toList with ⟨E, A⟩ | ⟨L, p⟩
    · rw [hRT] at hrd
      obtain rfl : e = .returned (.tuple #[.slice none 0 0, fltV E A]) := hrd
      have hE := nz_read _ E A hRT
      have hne : (E != 0) = true := by simpa using hE
      have HB3 : Hid (Below w.heap.size w (V3.alloc (.cells #[.int .i64 E, .int .i64 (A : Int)] 35))) := hb03.alloc hb03.size _
      clear hRT hb03 hE
      unfold fltV
      go_wp2
      go_ret
      exact ⟨rfl, HB3.out⟩
    rw [hRT] at hrd
    obtain ⟨v4, rfl, hch⟩ := hrd
    obtain ⟨hpe, hl64, hfew, hpln⟩ := read_few hRT
    obtain ⟨a4, cap4, R4, rfl, -⟩ := id hch
    obtain ⟨X3, hX3⟩ : ∃ X3, X3 = V3.alloc (.cells #[.int .i64 0, .int .i64 0] 35) := ⟨_, rfl⟩
    have hx3 : Below V3.heap.size V3 X3 := by rw [hX3]; exact (Below.refl _ V3).alloc (Nat.le_refl _) _
    have hf3 : RowAt X3 V3.heap.size 35 #[.int .i64 0, .int .i64 0] := by rw [hX3]; exact RowAt.new V3 _ _
    have k3 := RowAt.cell hf3 (i := 0) rfl
    have HF3 : Hid (RowAt X3 V3.heap.size 35 #[.int .i64 0, .int .i64 0]) := hf3
    have HB3 : Hid (Below w.heap.size w V3) := hb03
    have HX3 : Hid (Below V3.heap.size V3 X3) := hx3
    have HC3 : Hid (ChAt V3 (.slice a4 L.length cap4) L.length (spD L)) := hch
    have hbx3 := hb03.trans (hx3.mono hb03.size)
    have HPR : Hid _ := print17_any _ L.length (spD L) X3 (hch.below hx3) (HG.out.1.below hbx3) (HG.out.2.2.below hbx3)
    have HRK : Hid ((prS L.length (spD L)).length ≤ 65536 → ∃ M q, rRead (prS L.length (spD L)) = .ok (M, q) ∧ M.length = L.length ∧ ∀ i, i < L.length → SameS (spD L i) (spD M i)) := fun hle => by
      obtain ⟨M, q, h1, h2, h3⟩ := prS_read hpe hle
      exact ⟨M, q, h1, h2, fun i hi => (hpln i hi).trans (h3 i hi).symm⟩
    have HFW : Hid (L.length ≤ 64 ∧ ∀ i, i < L.length → FewS (spD L i)) := ⟨hl64, hfew⟩
    have hpt : prT L.length (spD L) = prS L.length (spD L) := by unfold prT; rw [if_pos hpe]
    rw [hpt, hpe, if_pos rfl] at HPR
    change Hid (Calls Tryz.prog 15 _ _ fun e w' => e = .returned (.tuple #[.string ⟨(prS L.length (spD L)).toArray⟩, fltV 0 0]) ∧ _) at HPR
    generalize prS L.length (spD L) = PS at *
    obtain ⟨PB, hPB⟩ : ∃ PB : ByteArray, PB = ⟨PS.toArray⟩ := ⟨_, rfl⟩
    have HPB : Hid (PB.data.toList = PS) := by rw [Hid, hPB]
    rw [← hPB] at HPR
    have HSZ : Hid (PB.size = PS.length) := by rw [Hid, Pl.size_len PB, HPB.out]
    clear hPB hpt hpe hl64 hfew hpln hb03 hx3 hbx3 hf3 hch hRT
    unfold fltV
    go_upto_region 17 with fail
    rw [← hX3]
    clear hX3
    go_wp2_with fail
    refine Calls.mono HPR.out ?_
    rintro e V4 ⟨rfl, hb4⟩
    have hb34 := HX3.out.trans (hb4.mono HX3.out.size)
    have hf4 := RowAt.below HF3.out hb4 (RowAt.lt HF3.out)
    obtain ⟨X4, hX4⟩ : ∃ X4, X4 = (V4.setCell ⟨V3.heap.size, 0, none⟩ (.int .i64 0)).setCell ⟨V3.heap.size, 1, none⟩ (.int .i64 0) := ⟨_, rfl⟩
    have hb4x : Below V3.heap.size V3 X4 := by rw [hX4]; exact (hb34.setCell (p := ⟨V3.heap.size, 0, none⟩) (Nat.le_refl _) _).setCell (p := ⟨V3.heap.size, 1, none⟩) (Nat.le_refl _) _
    have hf4x : RowAt X4 V3.heap.size 35 #[.int .i64 0, .int .i64 0] := by rw [hX4]; exact (hf4.set 0 _).set 1 _
    have k4 := RowAt.cell hf4x (i := 0) rfl
    have d4a := RowAt.cell hf4 (i := 0) rfl
    have d4b := RowAt.cell hf4 (i := 1) rfl
    have d4c := RowAt.frozen hf4 0
    have d4d := RowAt.frozen hf4 1
    have HX4 : Hid (Below V3.heap.size V3 X4) := hb4x
    have HF4 : Hid (RowAt X4 V3.heap.size 35 #[.int .i64 0, .int .i64 0]) := hf4x
    clear hb4 hb34 hf4 hb4x hf4x HPR HF3 HX3 k3
    unfold fltV
    go_upto_region 20 with fail
    rw [← hX4]
    clear hX4 d4a d4b d4c d4d
    have hb04 := HB3.out.trans (HX4.out.mono HB3.out.size)
    have HB4 : Hid (Below w.heap.size w X4) := hb04
    by_cases hbig : 65536 < PB.size
    · have hb1 : (65536 : Int) < (PB.size : Int) := by omega
      clear hb04
      go_wp2
      go_ret
      exact ⟨rfl, HB4.out⟩
    have hb1 : ¬ (65536 : Int) < (PB.size : Int) := by omega
    have HRM : Hid _ := read17_any PB X4 (HG.out.1.below hb04) (HG.out.2.1.below hb04)
    obtain ⟨M, q, hRM, hml, hsame⟩ := HRK.out (by have := HSZ.out; omega)
    rw [HPB.out, hRM] at HRM
    have HSM : Hid (∀ i, i < L.length → SameS (spD L i) (spD M i)) := hsame
    have HML : Hid (M.length = L.length) := hml
    clear hb04 hbig hml hsame hRM HRK
    go_wp2_with fail
    refine Calls.mono HRM.out ?_
    rintro e V5 ⟨⟨v5, rfl, hch5⟩, hb5⟩
    have hb35 := HX4.out.trans (hb5.mono HX4.out.size)
    have hf5 := RowAt.below HF4.out hb5 (RowAt.lt HF4.out)
    rw [HML.out] at hch5
    obtain ⟨a5, cap5, R5, rfl, -⟩ := id hch5
    obtain ⟨X5, hX5⟩ : ∃ X5, X5 = (V5.setCell ⟨V3.heap.size, 0, none⟩ (.int .i64 0)).setCell ⟨V3.heap.size, 1, none⟩ (.int .i64 0) := ⟨_, rfl⟩
    have hb5x : Below V3.heap.size V3 X5 := by rw [hX5]; exact (hb35.setCell (p := ⟨V3.heap.size, 0, none⟩) (Nat.le_refl _) _).setCell (p := ⟨V3.heap.size, 1, none⟩) (Nat.le_refl _) _
    have hf5x : RowAt X5 V3.heap.size 35 #[.int .i64 0, .int .i64 0] := by rw [hX5]; exact (hf5.set 0 _).set 1 _
    have hc5x : ChAt X5 (.slice a5 L.length cap5) L.length (spD M) := by
      rw [hX5, set_same17 hf5 (i := 0) (v := .int .i64 0) rfl, set_same17 hf5 (i := 1) (v := .int .i64 0) rfl]
      exact hch5
    have k5 := RowAt.cell hf5x (i := 0) rfl
    have d5a := RowAt.cell hf5 (i := 0) rfl
    have d5b := RowAt.cell hf5 (i := 1) rfl
    have d5c := RowAt.frozen hf5 0
    have d5d := RowAt.frozen hf5 1
    have HSC : Hid _ := rsameC_ok _ _ L.length (spD L) (spD M) HFW.out.1 HSM.out HFW.out.2 X5 (HC3.out.below hb5x) hc5x
    have HB5 : Hid (Below w.heap.size w X5) := HB3.out.trans (hb5x.mono HB3.out.size)
    clear hb5 hb35 hf5 hb5x hf5x hc5x hch5 HRM HF4 HX4 k4
    unfold fltV
    go_upto_region 25 with fail
    rw [← hX5]
    clear hX5 d5a d5b d5c d5d
    go_wp2_with fail
    refine Calls.mono HSC.out ?_
    rintro e V6 ⟨rfl, hb6⟩
    have HB6 : Hid (Below w.heap.size w V6) := HB5.out.trans (hb6.mono HB5.out.size)
    clear hb6 HSC k5
    go_wp2
    go_ret
    exact ⟨rfl, HB6.out⟩
set_option maxRecDepth 100000 in
set_option maxHeartbeats 4000000 in
theorem sct_good (v1 : Value) (n : Nat) (l : Nat → Sp) (t : ByteArray) (w : World) (h1 : ChAt w v1 n l) (hn : NmAt w) (he : ErAt w) (ho : OldAt w) (hE : prE n l = 0 ∧ (prS n l).length ≤ 65536) : Calls Tryz.prog 4 #[v1, .string t] w fun e w' => e = .returned (.bool true) ∧ Below w.heap.size w w' := by
  have HA : Hid _ := alive17_any w hn he
  have HG : Hid (NmAt w ∧ ErAt w ∧ OldAt w) := ⟨hn, he, ho⟩
  have H1 : Hid (ChAt w v1 n l) := h1
  obtain ⟨a1, c1, R1, rfl, -⟩ := id h1
  clear hn he ho h1 R1
  obtain ⟨hPE, hPS⟩ := hE
  obtain ⟨hn1, hn64, hst⟩ := prE_parts hPE
  have HST : Hid (∀ i, i < n → stE (l i) = 0) := fun i hi => (hst i hi).1
  obtain ⟨K, q, hRK, hkl, hks⟩ := prS_read hPE hPS
  obtain ⟨_, _, hfw, _⟩ := read_few hRK
  rw [hkl] at hfw
  have HKS : Hid (∀ i, i < n → SameS (spD K i) (plnS (l i)) ∧ FewS (spD K i)) := fun i hi => ⟨hks i hi, hfw i hi⟩
  have HKL : Hid (K.length = n) := hkl
  obtain ⟨PB, hPB⟩ : ∃ PB : ByteArray, PB = ⟨(prS n l).toArray⟩ := ⟨_, rfl⟩
  have hpt : prT n l = prS n l := by unfold prT; rw [if_pos hPE]
  have HPR : Hid (∀ W, Below w.heap.size w W → Calls Tryz.prog 15 #[.slice a1 n c1] W fun e w' => e = .returned (.tuple #[.string PB, fltV 0 0]) ∧ Below W.heap.size W w') := fun W hW => by
    have h := print17_any _ n l W (H1.out.below hW) (HG.out.1.below hW) (HG.out.2.2.below hW)
    rw [hpt, ← hPB, hPE, if_pos rfl] at h
    exact h
  have hle : (PB.size : Int) ≤ 65536 := by
    have : PB.size = (prS n l).length := by rw [hPB]; rfl
    omega
  have HRD : Hid (∀ W, Below w.heap.size w W → Calls Tryz.prog 18 #[.string PB] W fun e w' => (∃ v, e = .returned (.tuple #[v, fltV 0 0]) ∧ ChAt w' v n (spD K)) ∧ Below W.heap.size W w') := fun W hW => by
    have h := read17_any PB W (HG.out.1.below hW) (HG.out.2.1.below hW)
    rw [show PB.data.toList = prS n l by rw [hPB], hRK] at h
    rw [← hkl]
    exact h
  clear hPB hpt hRK hkl hks hfw hst hPE hPS
  go_enter Tryz.func4, Tryz.ntmps4
  go_wp2_with fail
  refine Calls.mono HA.out ?_
  rintro e W0 ⟨rfl, hb0⟩
  have HP1 : Hid _ := HPR.out W0 hb0
  have HB0 : Hid (Below w.heap.size w W0) := hb0
  clear hb0 HA HPR
  go_wp2_with fail
  refine Calls.mono HP1.out ?_
  rintro e V1 ⟨rfl, hb1⟩
  have hb01 := HB0.out.trans (hb1.mono HB0.out.size)
  obtain ⟨X1, hX1⟩ : ∃ X1, X1 = V1.alloc (.cells #[.int .i64 0, .int .i64 0] 35) := ⟨_, rfl⟩
  have hbx1 : Below w.heap.size w X1 := by rw [hX1]; exact hb01.alloc hb01.size _
  have k1 : X1.cell? ⟨V1.heap.size, 0, none⟩ = some (.int .i64 0) := by rw [hX1]; exact RowAt.cell (RowAt.new V1 _ _) (i := 0) rfl
  have HBX1 : Hid (Below w.heap.size w X1) := hbx1
  have HR1 : Hid _ := HRD.out X1 hbx1
  clear hb1 hb01 HB0 HP1 hbx1 HRD
  unfold fltV
  go_upto_region 4 with fail
  rw [← hX1]
  clear hX1
  go_wp2_with fail
  refine Calls.mono HR1.out ?_
  rintro e V2 ⟨⟨v2, rfl, hc2⟩, hb2⟩
  obtain ⟨a2, cap2, R2, rfl, -⟩ := id hc2
  have hb02 := HBX1.out.trans (hb2.mono HBX1.out.size)
  obtain ⟨Y0, hY0⟩ : ∃ Y0, Y0 = V2.alloc (.cells #[.int .i64 0, .int .i64 0] 35) := ⟨_, rfl⟩
  have hy0 : Below V2.heap.size V2 Y0 := by rw [hY0]; exact (Below.refl _ V2).alloc (Nat.le_refl _) _
  have k2 : Y0.cell? ⟨V2.heap.size, 0, none⟩ = some (.int .i64 0) := by rw [hY0]; exact RowAt.cell (RowAt.new V2 _ _) (i := 0) rfl
  have HBY0 : Hid (Below w.heap.size w Y0) := hb02.trans (hy0.mono hb02.size)
  have HC2 : Hid (ChAt Y0 (.slice a2 n cap2) n (spD K)) := hc2.below hy0
  clear hb2 hb02 hy0 hc2 HR1 HBX1 k1
  unfold fltV
  go_upto_region 6 with fail
  rw [← hY0]
  clear hY0
  go_wp2_with fail
  go_loopw [9, 48] (fun v i X => ∃ (k : Nat) (R : Nat → Array Value) (sg : Option Addr) (sc : Nat), k ≤ n ∧ i = .int .i64 (k : Nat) ∧ v = .slice sg k sc ∧ Hid (WtO w X Y0.heap.size (.slice sg k sc) k (fun i => plnS (l i)) R) ∧ Hid (Below Y0.heap.size Y0 X)) (fun _ i _ => ((n : Int) - intOf i).toNat)
  case atStart => exact ⟨0, fun _ => #[], none, 0, by omega, rfl, rfl, ⟨World.ownsRow_nil _ _ _ 59, fun j hj => by omega, fun j hj => by omega⟩, Below.refl _ _⟩
  case round =>
    obtain ⟨k, R, sg, sc, hk, rfl, rfl, HO, HBY⟩ := hrel
    by_cases hlt : k < n
    · have HLT : Hid (k < n) := hlt
      have hlt2 : (k : Int) < (n : Int) := by omega
      obtain ⟨_, _, R1, hx1, _, hr1, hq1⟩ := id H1.out
      injection hx1 with hx1 _ _
      subst hx1
      obtain ⟨b1, o1, rfl, hg1⟩ := hr1 k hlt
      have hbw := HBY0.out.trans (HBY.out.mono HBY0.out.size)
      have hsk := hq1 k hlt
      have HSZ : Hid ((R1 k).size = 59) := hsk.cells.1
      have HONE : Hid ((R1 k).all (·.oneCell') = true) := hsk.cells.2
      have hrg := rangeAt_below hg1 hbw
      have hz59 := o_zero s_zero
      have HSQ : Hid (SqAt w (.agg (R1 k)) (l k)) := hsk
      generalize R1 k = CS at *
      clear hr1 hq1 hsk hg1
      obtain ⟨Y2, hY2⟩ : ∃ Y2, Y2 = (wr.alloc (.cells (spA 0 0 ⟨#[]⟩ (.slice none 0 0) (.slice none 0 0) (.slice none 0 0) (.slice none 0 0) (fun _ => 0) (fun _ => 0)) 31)).setRow wr.heap.size CS := ⟨_, rfl⟩
      have hb2 : Below wr.heap.size wr Y2 := by rw [hY2]; exact PK.Below.setRow ((Below.refl _ wr).alloc (Nat.le_refl _) _) wr.heap.size (Nat.le_refl _) _
      have hq2 : RowAt Y2 wr.heap.size 31 CS := by rw [hY2]; exact (RowAt.new wr _ _).row _
      have HB2 : Hid (Below wr.heap.size wr Y2) := hb2
      have hbw2 := hbw.trans (hb2.mono hbw.size)
      have HPL : Hid _ := plain17_ok _ (l k) (HST.out k hlt) w HSQ.out Y2
      clear hbw hb2 hbw2 hlt
      go_upto_region 12 with (first | refine wpList_load_arr rfl 31 _ rfl b1 (o1 + k * 59) rfl CS _ hrg Tryz.underlying31 rfl (by rw [HSZ.out]; exact s_info) ?_ | refine wpList_store_row rfl 31 _ _ rfl wr.heap.size CS rfl rfl 31 _ (RowAt.new wr _ _) (by rw [HSZ.out]; exact s_info) (by rw [HSZ.out, spA_size]) HONE.out ?_)
      rw [← hY2]
      clear hY2 hrg hz59
      go_wp2_with (first | refine wpList_load_row rfl 31 _ rfl wr.heap.size rfl 31 CS (0, 0) _ hq2 Tryz.underlying31 rfl (by rw [HSZ.out]; exact s_info) ?_)
      refine Calls.mono HPL.out ?_
      rintro e Y3 ⟨NC, rfl, hns, hb3⟩
      have HNS : Hid (SqAt w (.agg NC) (plnS (l k))) := hns
      have hc59 : NC.size = 59 := (sq_size hns).1
      have HC1 : Hid (NC.all (·.oneCell') = true) := (sq_size hns).2
      have hb23 := HB2.out.trans (hb3.mono HB2.out.size)
      have hown := own_step17 HO.out.own hb23
      have HOW : Hid (∀ g', (Value.slice sg k sc).ownBlock = some g' → Y0.heap.size ≤ g' ∧ g' < wr.heap.size) := fun g' hg' => World.ownsRow.lt HO.out.own g' hg'
      have HB23 : Hid (Below wr.heap.size wr Y3) := hb23
      obtain ⟨i0, hi0, hz0, hz1, hz2⟩ := info17 i3_stepS
      have hk64 : k ≤ 64 := by have := HLT.out; omega
      have hyz : Y0.heap.size ≤ Y3.heap.size := Nat.le_trans HBY.out.size HB23.out.size
      clear hns hb3 hb23 hq2 HPL HB2 HSZ HONE HSQ
      go_wp2_with (first | refine wpList_build17 rfl 22 31 _ rfl 59 (spA 0 0 ⟨#[]⟩ (.slice none 0 0) (.slice none 0 0) (.slice none 0 0) (.slice none 0 0) (fun _ => 0) (fun _ => 0)) NC rfl (by decide) (by decide) Tryz.underlying22 (spA_size _ _ _ _ _ _ _ _ _) hc59 s_zs17 ?_ | (at_builtin; refine wpList_append_own_at _ rfl _ _ 22 rfl Y0.heap.size 31 i0 (.agg (spA 0 0 ⟨#[]⟩ (.slice none 0 0) (.slice none 0 0) (.slice none 0 0) (.slice none 0 0) (fun _ => 0) (fun _ => 0))) 59 544 Tryz.underlying22 hi0 hz0 hz1 hz2 (spA_size _ _ _ _ _ _ _ _ _) (by decide) _ _ _ rfl (World.ownsRow.alloc hown _) ⟨Y3.heap.size, 0, none⟩ 1 1 NC.toList rfl (by rw [Array.length_toList, hc59]) (fun q u hu => by rw [Addr.add_mid, Nat.zero_add]; exact (RowAt.new Y3 31 NC).cell (by rw [← Array.getElem?_toList]; exact hu)) (fun u hu => by have := HC1.out; rw [← Array.all_toList] at this; exact List.all_eq_true.1 this u hu) (by unfold maxLen; omega) (by omega) (by simp; omega) ?_; intro v5 w5 hown5 hgrow5 _ hat5; obtain ⟨g5, c5, rfl⟩ := own_form17 hown5; have HOWN : Hid _ := hown5; have HGR : Hid _ := hgrow5; clear hown5 hgrow5 hat5))
      have hmore : WtO w w5 Y0.heap.size (.slice g5 (k + 1) c5) (k + 1) (fun i => plnS (l i)) (fun i => if i = k then NC else R i) := HO.out.more HNS.out HOWN.out
      have hwz := HBY.out.size
      have h33 := HB23.out.size
      have hal : Below Y0.heap.size Y0 (Y3.alloc (.cells NC 31)) := (HBY.out.trans (HB23.out.mono hwz)).alloc (by omega) _
      have hbn : Below Y0.heap.size Y0 w5 := hal.grown HGR.out (by rw [World.size_alloc]; omega) (fun r e => (HOW.out r e).1)
      have HMR : Hid _ := hmore
      have HBN : Hid _ := hbn
      clear hmore hbn hal hwz h33 hown hi0 hz0 hz1 hz2 hc59
      go_wp2
      go_roundw
      case rel => exact ⟨_, _, _, ⟨k + 1, HLT.out, rfl, _, _, _, rfl, HMR.out, HBN.out⟩, rfl, rfl, by go_num⟩
      case measure => have := HLT.out; simp [intOf]; omega
    · obtain rfl : k = n := by omega
      have hnn : ¬ ((k : Nat) : Int) < ((k : Nat) : Int) := by omega
      have hbw := HBY0.out.trans (HBY.out.mono HBY0.out.size)
      have HSC : Hid _ := rsameC_ok _ _ k (spD K) (fun i => plnS (l i)) hn64 (fun i hi => (HKS.out i hi).1) (fun i hi => (HKS.out i hi).2) wr (HC2.out.below HBY.out) (HO.out.chain hbw)
      have HBW : Hid (Below w.heap.size w wr) := hbw
      clear hbw HO HBY HC2 HKS k2
      go_wp2_with fail
      refine Calls.mono HSC.out ?_
      rintro e VV ⟨rfl, hb6⟩
      have HBV : Hid (Below w.heap.size w VV) := HBW.out.trans (hb6.mono HBW.out.size)
      clear hb6 HSC HBW
      go_upto_region 16 with fail
      have HRT : Hid _ := read17_any t VV (HG.out.1.below HBV.out) (HG.out.2.1.below HBV.out)
      go_wp2_with fail
      refine Calls.mono HRT.out ?_
      rintro e V3 ⟨hrd, hb3⟩
      have hb03 := HBV.out.trans (hb3.mono HBV.out.size)
      clear HRT hb3 HBV
      rcases hRT : rRead t.data.toList with ⟨E, A⟩ | ⟨L, p⟩
      · rw [hRT] at hrd
        obtain rfl : e = .returned (.tuple #[.slice none 0 0, fltV E A]) := hrd
        have hE := nz_read _ E A hRT
        have hne : (E != 0) = true := by simpa using hE
        have HB3 : Hid (Below w.heap.size w (V3.alloc (.cells #[.int .i64 E, .int .i64 (A : Int)] 35))) := hb03.alloc hb03.size _
        clear hRT hb03 hE
        unfold fltV
        go_wp2
        go_ret
        exact ⟨rfl, HB3.out⟩
      rw [hRT] at hrd
      obtain ⟨v4, rfl, hch⟩ := hrd
      obtain ⟨hpe, hl64, hfew, hpln⟩ := read_few hRT
      obtain ⟨a4, cap4, R4, rfl, -⟩ := id hch
      obtain ⟨X3, hX3⟩ : ∃ X3, X3 = V3.alloc (.cells #[.int .i64 0, .int .i64 0] 35) := ⟨_, rfl⟩
      have hx3 : Below V3.heap.size V3 X3 := by rw [hX3]; exact (Below.refl _ V3).alloc (Nat.le_refl _) _
      have hf3 : RowAt X3 V3.heap.size 35 #[.int .i64 0, .int .i64 0] := by rw [hX3]; exact RowAt.new V3 _ _
      have k3 := RowAt.cell hf3 (i := 0) rfl
      have HF3 : Hid (RowAt X3 V3.heap.size 35 #[.int .i64 0, .int .i64 0]) := hf3
      have HB3 : Hid (Below w.heap.size w V3) := hb03
      have HX3 : Hid (Below V3.heap.size V3 X3) := hx3
      have HC3 : Hid (ChAt V3 (.slice a4 L.length cap4) L.length (spD L)) := hch
      have hbx3 := hb03.trans (hx3.mono hb03.size)
      have HPR : Hid _ := print17_any _ L.length (spD L) X3 (hch.below hx3) (HG.out.1.below hbx3) (HG.out.2.2.below hbx3)
      have HRK : Hid ((prS L.length (spD L)).length ≤ 65536 → ∃ M q, rRead (prS L.length (spD L)) = .ok (M, q) ∧ M.length = L.length ∧ ∀ i, i < L.length → SameS (spD L i) (spD M i)) := fun hle => by
        obtain ⟨M, q, h1, h2, h3⟩ := prS_read hpe hle
        exact ⟨M, q, h1, h2, fun i hi => (hpln i hi).trans (h3 i hi).symm⟩
      have HFW : Hid (L.length ≤ 64 ∧ ∀ i, i < L.length → FewS (spD L i)) := ⟨hl64, hfew⟩
      have hpt : prT L.length (spD L) = prS L.length (spD L) := by unfold prT; rw [if_pos hpe]
      rw [hpt, hpe, if_pos rfl] at HPR
      change Hid (Calls Tryz.prog 15 _ _ fun e w' => e = .returned (.tuple #[.string ⟨(prS L.length (spD L)).toArray⟩, fltV 0 0]) ∧ _) at HPR
      generalize prS L.length (spD L) = PS at *
      obtain ⟨PB, hPB⟩ : ∃ PB : ByteArray, PB = ⟨PS.toArray⟩ := ⟨_, rfl⟩
      have HPB : Hid (PB.data.toList = PS) := by rw [Hid, hPB]
      rw [← hPB] at HPR
      have HSZ : Hid (PB.size = PS.length) := by rw [Hid, Pl.size_len PB, HPB.out]
      clear hPB hpt hpe hl64 hfew hpln hb03 hx3 hbx3 hf3 hch hRT
      unfold fltV
      go_upto_region 17 with fail
      rw [← hX3]
      clear hX3
      go_wp2_with fail
      refine Calls.mono HPR.out ?_
      rintro e V4 ⟨rfl, hb4⟩
      have hb34 := HX3.out.trans (hb4.mono HX3.out.size)
      have hf4 := RowAt.below HF3.out hb4 (RowAt.lt HF3.out)
      obtain ⟨X4, hX4⟩ : ∃ X4, X4 = (V4.setCell ⟨V3.heap.size, 0, none⟩ (.int .i64 0)).setCell ⟨V3.heap.size, 1, none⟩ (.int .i64 0) := ⟨_, rfl⟩
      have hb4x : Below V3.heap.size V3 X4 := by rw [hX4]; exact (hb34.setCell (p := ⟨V3.heap.size, 0, none⟩) (Nat.le_refl _) _).setCell (p := ⟨V3.heap.size, 1, none⟩) (Nat.le_refl _) _
      have hf4x : RowAt X4 V3.heap.size 35 #[.int .i64 0, .int .i64 0] := by rw [hX4]; exact (hf4.set 0 _).set 1 _
      have k4 := RowAt.cell hf4x (i := 0) rfl
      have d4a := RowAt.cell hf4 (i := 0) rfl
      have d4b := RowAt.cell hf4 (i := 1) rfl
      have d4c := RowAt.frozen hf4 0
      have d4d := RowAt.frozen hf4 1
      have HX4 : Hid (Below V3.heap.size V3 X4) := hb4x
      have HF4 : Hid (RowAt X4 V3.heap.size 35 #[.int .i64 0, .int .i64 0]) := hf4x
      clear hb4 hb34 hf4 hb4x hf4x HPR HF3 HX3 k3
      unfold fltV
      go_upto_region 20 with fail
      rw [← hX4]
      clear hX4 d4a d4b d4c d4d
      have hb04 := HB3.out.trans (HX4.out.mono HB3.out.size)
      have HB4 : Hid (Below w.heap.size w X4) := hb04
      by_cases hbig : 65536 < PB.size
      · have hb1 : (65536 : Int) < (PB.size : Int) := by omega
        clear hb04
        go_wp2
        go_ret
        exact ⟨rfl, HB4.out⟩
      have hb1 : ¬ (65536 : Int) < (PB.size : Int) := by omega
      have HRM : Hid _ := read17_any PB X4 (HG.out.1.below hb04) (HG.out.2.1.below hb04)
      obtain ⟨M, q, hRM, hml, hsame⟩ := HRK.out (by have := HSZ.out; omega)
      rw [HPB.out, hRM] at HRM
      have HSM : Hid (∀ i, i < L.length → SameS (spD L i) (spD M i)) := hsame
      have HML : Hid (M.length = L.length) := hml
      clear hb04 hbig hml hsame hRM HRK
      go_wp2_with fail
      refine Calls.mono HRM.out ?_
      rintro e V5 ⟨⟨v5, rfl, hch5⟩, hb5⟩
      have hb35 := HX4.out.trans (hb5.mono HX4.out.size)
      have hf5 := RowAt.below HF4.out hb5 (RowAt.lt HF4.out)
      rw [HML.out] at hch5
      obtain ⟨a5, cap5, R5, rfl, -⟩ := id hch5
      obtain ⟨X5, hX5⟩ : ∃ X5, X5 = (V5.setCell ⟨V3.heap.size, 0, none⟩ (.int .i64 0)).setCell ⟨V3.heap.size, 1, none⟩ (.int .i64 0) := ⟨_, rfl⟩
      have hb5x : Below V3.heap.size V3 X5 := by rw [hX5]; exact (hb35.setCell (p := ⟨V3.heap.size, 0, none⟩) (Nat.le_refl _) _).setCell (p := ⟨V3.heap.size, 1, none⟩) (Nat.le_refl _) _
      have hf5x : RowAt X5 V3.heap.size 35 #[.int .i64 0, .int .i64 0] := by rw [hX5]; exact (hf5.set 0 _).set 1 _
      have hc5x : ChAt X5 (.slice a5 L.length cap5) L.length (spD M) := by
        rw [hX5, set_same17 hf5 (i := 0) (v := .int .i64 0) rfl, set_same17 hf5 (i := 1) (v := .int .i64 0) rfl]
        exact hch5
      have k5 := RowAt.cell hf5x (i := 0) rfl
      have d5a := RowAt.cell hf5 (i := 0) rfl
      have d5b := RowAt.cell hf5 (i := 1) rfl
      have d5c := RowAt.frozen hf5 0
      have d5d := RowAt.frozen hf5 1
      have HSC : Hid _ := rsameC_ok _ _ L.length (spD L) (spD M) HFW.out.1 HSM.out HFW.out.2 X5 (HC3.out.below hb5x) hc5x
      have HB5 : Hid (Below w.heap.size w X5) := HB3.out.trans (hb5x.mono HB3.out.size)
      clear hb5 hb35 hf5 hb5x hf5x hc5x hch5 HRM HF4 HX4 k4
      unfold fltV
      go_upto_region 25 with fail
      rw [← hX5]
      clear hX5 d5a d5b d5c d5d
      go_wp2_with fail
      refine Calls.mono HSC.out ?_
      rintro e V6 ⟨rfl, hb6⟩
      have HB6 : Hid (Below w.heap.size w V6) := HB5.out.trans (hb6.mono HB5.out.size)
      clear hb6 HSC k5
      go_wp2
      go_ret
      exact ⟨rfl, HB6.out⟩
set_option maxRecDepth 100000 in
set_option maxHeartbeats 4000000 in
theorem sct_any (v1 : Value) (n : Nat) (l : Nat → Sp) (t : ByteArray) (w : World) (h1 : ChAt w v1 n l) (hn : NmAt w) (he : ErAt w) (ho : OldAt w) : Calls Tryz.prog 4 #[v1, .string t] w fun e w' => e = .returned (.bool true) ∧ Below w.heap.size w w' := by
  by_cases h : prE n l ≠ 0 ∨ 65536 < (prT n l).length
  · exact sct_bad v1 n l t w h1 hn he ho h
  · have h2 : prE n l = 0 := Decidable.not_not.1 fun e => h (.inl e)
    refine sct_good v1 n l t w h1 hn he ho ⟨h2, ?_⟩
    have h3 : ¬ 65536 < (prT n l).length := fun e => h (.inr e)
    unfold prT at h3
    rw [if_pos h2] at h3
    omega
end Go.Proofs.YtkohhdkkbaifoaaGreatDoor
