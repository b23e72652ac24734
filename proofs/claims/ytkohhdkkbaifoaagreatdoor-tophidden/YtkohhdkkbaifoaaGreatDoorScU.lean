/-
  What a word tells: plugs.
-/
import Derived.Test.YtkohhdkkbaifoaaGreatDoorJn28
namespace Go.Proofs.YtkohhdkkbaifoaaGreatDoor
open Go.RowKit PK Vg

/-- Is it its own undoing? -/
def selfU (f : Nat → Int) : Bool := eqI 26 (fun i => f (f i).toNat) (Pm.up fun i => i)
/-- What is wrong with plugs in words, and how far behind the word's beginning. -/
def plgE (l : List UInt8) : Int := if (readOut l).2.1 ≠ 0 then (readOut l).2.1 else if selfU (readOut l).1 = true then 0 else 1
def plgA (l : List UInt8) : Nat := if (readOut l).2.1 ≠ 0 then (readOut l).2.2 else 0
theorem run_neq_perm (f g : Nat → Int) (w : World) : (binOp .neq 27 (.agg (ints 26 f)) (.agg (ints 26 g))).run Tryz.prog w = .ok (.bool (!eqI 26 f g)) w := by
  have h : Sem.run Tryz.prog (Op.equal 27 (.agg (ints 26 f)) (.agg (ints 26 g))) w = .ok (eqI 26 f g) w := run_equalIn_ints (P := Tryz.prog) w 9998 27 3 26 Tryz.underlying27 Tryz.underlying3 info_int f g
  simp [binOp, h]
theorem rdErr_lt (t : List UInt8) : ∀ (n : Nat) (x : Int × Nat), rdErr t n = some x → x.2 < n
  | 0, x, h => by cases h
  | n + 1, x, h => by
    unfold rdErr at h
    cases hn : rdErr t n with
    | some y => rw [hn] at h; cases h; have := rdErr_lt t n _ hn; omega
    | none =>
      rw [hn] at h
      by_cases he : (rdN t n).err (t.getD n 0).toNat ≠ 0
      · simp only [if_pos he] at h; cases h; exact Nat.lt_succ_self n
      · simp only [if_neg he] at h; cases h
theorem readOut_le (t : List UInt8) : (readOut t).2.2 ≤ t.length := by
  unfold readOut
  cases hr : rdErr t t.length with
  | some x => exact Nat.le_of_lt (rdErr_lt t _ _ hr)
  | none =>
    by_cases ho : (rdN t t.length).op = true
    · simp only [if_pos ho]; exact Nat.le_refl _
    · simp only [if_neg ho]; exact Nat.zero_le _
set_option maxRecDepth 100000 in
set_option maxHeartbeats 2000000 in
theorem wplg_any (l : List UInt8) (p : Nat) (hs : l.length ≤ 65536) (hp : p ≤ 65536) (w : World) :
    Calls Tryz.prog 203 #[wdV l p] w fun e w' => (plgE l = 0 → e = .returned (.agg (ints 26 (readOut l).1))) ∧ (plgE l ≠ 0 → e = .panicked [flt (plgE l) ((p + plgA l : Nat) : Int)]) ∧ Below w.heap.size w w' := by
  obtain ⟨s, hsd⟩ : ∃ s : ByteArray, s = ⟨l.toArray⟩ := ⟨_, rfl⟩
  have hsl : s.data.toList = l := by rw [hsd]
  have hz := Pl.size_len s
  rw [hsl] at hz
  unfold wdV
  rw [← hsd]
  have hb1 : Below w.heap.size w (w.alloc (.cells #[.string s, .int .i64 (p : Int)] 137)) := (Below.refl _ w).alloc (Nat.le_refl _) _
  have hq1 := RowAt.new w 137 #[.string s, .int .i64 (p : Int)]
  have c0 := RowAt.cell hq1 (i := 0) rfl
  have c1 := RowAt.cell hq1 (i := 1) rfl
  have HB : Hid _ := hb1
  have HQ : Hid (RowAt (w.alloc (.cells #[.string s, .int .i64 (p : Int)] 137)) w.heap.size 137 #[.string s, .int .i64 (p : Int)]) := hq1
  obtain ⟨W2, hW2⟩ : ∃ W2, W2 = (w.alloc (.cells #[.string s, .int .i64 (p : Int)] 137)).alloc (.cells (ints 26 fun _ => 0) 27) := ⟨_, rfl⟩
  have hb2 : Below w.heap.size w W2 := by rw [hW2]; exact HB.out.alloc HB.out.size _
  have hq2 : RowAt W2 w.heap.size 137 #[.string s, .int .i64 (p : Int)] := by rw [hW2]; exact RowAt.alloc hq1 _
  have hr2 : RowAt W2 (w.heap.size + 1) 27 (ints 26 fun _ => 0) := by rw [hW2]; have := RowAt.new (w.alloc (.cells #[.string s, .int .i64 (p : Int)] 137)) 27 (ints 26 fun _ => 0); simpa using this
  have HM : Hid (Calls Tryz.prog 231 #[.string s] W2 fun e w' => e = .returned (.tuple #[.agg (ints 26 (readOut l).1), .agg #[.int .i64 (readOut l).2.1, .int .i64 ((readOut l).2.2 : Nat)]]) ∧ Below W2.heap.size W2 w') := by
    rw [← hsl]; exact read_any s (by unfold maxLen; omega) W2
  have u0 := RowAt.cell hq2 (i := 0) rfl
  have HQ2 : Hid (RowAt W2 w.heap.size 137 #[.string s, .int .i64 (p : Int)]) := hq2
  have HR2 : Hid (RowAt W2 (w.heap.size + 1) 27 (ints 26 fun _ => 0)) := hr2
  have HB2 : Hid _ := hb2
  have hz26 := o_zero v_zero_perm
  have HPE : Hid (plgE l = if (readOut l).2.1 ≠ 0 then (readOut l).2.1 else if selfU (readOut l).1 = true then 0 else 1) := rfl
  have HPA : Hid (plgA l = if (readOut l).2.1 ≠ 0 then (readOut l).2.2 else 0) := rfl
  have HPR : Hid ((readOut l).2.1 = 0 → ∃ q, Pm.IsPerm q ∧ (readOut l).1 = Pm.up q) := read_perm
  have HAT : Hid ((readOut l).2.2 ≤ l.length) := readOut_le l
  clear hz hsl hsd hb1 hq1 c0 c1 hb2 hq2 hr2
  generalize plgE l = E at *
  generalize plgA l = A at *
  generalize readOut l = RO at *
  obtain ⟨MP, RE, RA⟩ := RO
  simp only at HM HPE HPA HPR HAT ⊢
  have hra : RA ≤ 65536 := by have := HAT.out; omega
  go_enter Tryz.func203, Tryz.ntmps203
  go_upto_region 1 with fail
  rw [← hW2]
  clear hW2 HAT
  go_wp2_with fail
  refine Calls.mono HM.out ?_
  rintro e V ⟨rfl, hb⟩
  have hqV := RowAt.below HQ2.out hb (RowAt.lt HQ2.out)
  have hrV := RowAt.below HR2.out hb (RowAt.lt HR2.out)
  have HBV : Hid (Below w.heap.size w V) := HB2.out.trans (hb.mono HB2.out.size)
  have hbig : w.heap.size + 1 < V.heap.size := RowAt.lt hrV
  clear hb HM u0
  have hF3 : RowAt (((V.alloc (.cells (ints 26 fun _ => 0) 27)).alloc (.cells #[.int .i64 0, .int .i64 0] 35)).setRow V.heap.size (ints 26 MP)) (V.heap.size + 1) 35 #[.int .i64 0, .int .i64 0] := by
    refine RowAt.rowOther ?_ _ _ (by omega)
    have := RowAt.new (V.alloc (.cells (ints 26 fun _ => 0) 27)) 35 #[.int .i64 0, .int .i64 0]
    simpa using this
  have g0 := RowAt.cell hF3 (i := 0) rfl
  have g1 := RowAt.cell hF3 (i := 1) rfl
  have g2 := RowAt.frozen hF3 0
  have g3 := RowAt.frozen hF3 1
  have HF3 : Hid _ := hF3
  go_upto_region 2 with (first | refine wpList_store_row rfl 27 _ _ rfl V.heap.size (ints 26 MP) rfl rfl 27 _ ((RowAt.new V _ _).alloc _) (by rw [ints_size]; exact info_perm) (by rw [ints_size, ints_size]) (ints_one _ _) ?_)
  obtain ⟨W3, hW3⟩ : ∃ W3, W3 = ((((V.alloc (.cells (ints 26 fun _ => 0) 27)).alloc (.cells #[.int .i64 0, .int .i64 0] 35)).setRow V.heap.size (ints 26 MP)).setCell ⟨V.heap.size + 1, 0, none⟩ (.int .i64 RE)).setCell ⟨V.heap.size + 1, 1, none⟩ (.int .i64 (RA : Nat)) := ⟨_, rfl⟩
  have hq3 : RowAt W3 w.heap.size 137 #[.string s, .int .i64 (p : Int)] := by rw [hW3]; exact RowAt.setOther (RowAt.setOther (RowAt.rowOther (RowAt.alloc (RowAt.alloc hqV _) _) _ _ (by omega)) _ _ (by show w.heap.size ≠ V.heap.size + 1; omega)) _ _ (by show w.heap.size ≠ V.heap.size + 1; omega)
  have hr3 : RowAt W3 (w.heap.size + 1) 27 (ints 26 fun _ => 0) := by rw [hW3]; exact RowAt.setOther (RowAt.setOther (RowAt.rowOther (RowAt.alloc (RowAt.alloc hrV _) _) _ _ (by omega)) _ _ (by show w.heap.size + 1 ≠ V.heap.size + 1; omega)) _ _ (by show w.heap.size + 1 ≠ V.heap.size + 1; omega)
  have hm3 : RowAt W3 V.heap.size 27 (ints 26 MP) := by rw [hW3]; exact RowAt.setOther (RowAt.setOther (RowAt.row (RowAt.alloc (RowAt.new V _ _) _) _) _ _ (by show V.heap.size ≠ V.heap.size + 1; omega)) _ _ (by show V.heap.size ≠ V.heap.size + 1; omega)
  have hf3 : RowAt W3 (V.heap.size + 1) 35 #[.int .i64 RE, .int .i64 (RA : Nat)] := by rw [hW3]; exact RowAt.set (RowAt.set HF3.out 0 _) 1 _
  have HB3 : Hid (Below w.heap.size w W3) := by
    rw [Hid, hW3]
    exact ((PK.Below.setRow ((HBV.out.alloc HBV.out.size _).alloc (by have := HBV.out.size; simp; omega) _) _ HBV.out.size _).setCell (p := ⟨V.heap.size + 1, 0, none⟩) (by have := HBV.out.size; show _ ≤ V.heap.size + 1; omega) _).setCell (p := ⟨V.heap.size + 1, 1, none⟩) (by have := HBV.out.size; show _ ≤ V.heap.size + 1; omega) _
  rw [← hW3]
  have u1 := RowAt.cell hq3 (i := 1) rfl
  have v0 := RowAt.cell hf3 (i := 0) rfl
  have v1 := RowAt.cell hf3 (i := 1) rfl
  have hsum : (p : Int) + (RA : Int) = ((p + RA : Nat) : Int) := by omega
  have HSUM : Hid _ := hsum
  have hp3 : (p : Int) ≤ 65536 := by omega
  have hra3 : (RA : Int) ≤ 65536 := by omega
  clear hW3 hqV hrV hF3 hsum g0 g1 g2 g3 HF3
  by_cases hE : RE = 0
  · have HPP : Hid (Calls Tryz.prog 37 #[.int .i64 RE, .int .i64 ((p : Int) + (RA : Int))] W3 fun e w' => e = .returned (.tuple #[]) ∧ w' = W3) := by rw [hE]; exact pass_ok _ W3
    obtain ⟨qq, hqq, hMP⟩ := HPR.out hE
    have HPE2 : Hid (E = if selfU MP = true then 0 else 1) := by rw [Hid, HPE.out, if_neg (fun h => h hE)]
    have HPA2 : Hid (A = 0) := by rw [Hid, HPA.out, if_neg (fun h => h hE)]
    have HTH : Hid (∀ X, Calls Tryz.prog 232 #[.agg (ints 26 MP), .agg (ints 26 MP)] X fun e w' => e = .returned (.tuple #[.agg (ints 26 (Pm.up fun i => qq (qq i))), .int .i64 0]) ∧ Below X.heap.size X w') := fun X => by rw [hMP]; exact then_ok qq qq hqq hqq X
    have HSU : Hid (selfU MP = eqI 26 (Pm.up fun i => qq (qq i)) (Pm.up fun i => i)) := by
      rw [Hid, hMP]
      rfl
    clear hE hMP hqq HPE HPA HPR
    go_wp2_with fail
    refine Calls.mono HPP.out ?_
    rintro e V2 ⟨rfl, rfl⟩
    go_wp2_with (first | refine wpList_load_row rfl 27 _ rfl V.heap.size rfl 27 (ints 26 MP) (0, 0) _ hm3 Tryz.underlying27 rfl (by rw [ints_size]; exact info_perm) ?_)
    refine Calls.mono (HTH.out _) ?_
    rintro e V4 ⟨rfl, hb4⟩
    have hq4 := RowAt.below hq3 hb4 (RowAt.lt hq3)
    have hr4 := RowAt.below hr3 hb4 (RowAt.lt hr3)
    have hm4 := RowAt.below hm3 hb4 (RowAt.lt hm3)
    have HB4 : Hid (Below w.heap.size w V4) := HB3.out.trans (hb4.mono HB3.out.size)
    have hbig4 : w.heap.size + 1 < V4.heap.size ∧ V.heap.size < V4.heap.size := ⟨RowAt.lt hr4, RowAt.lt hm4⟩
    generalize hTW : (Pm.up fun i => qq (qq i)) = TW at *
    clear hb4 hTW HTH HPP hq3 hr3 hm3 hf3
    go_upto_region 4 with (first | refine wpList_store_row rfl 27 _ _ rfl V4.heap.size (ints 26 TW) rfl rfl 27 _ (RowAt.new V4 _ _) (by rw [ints_size]; exact info_perm) (by rw [ints_size, ints_size]) (ints_one _ _) ?_)
    obtain ⟨W5, hW5⟩ : ∃ W5, W5 = (V4.alloc (.cells (ints 26 fun _ => 0) 27)).setRow V4.heap.size (ints 26 TW) := ⟨_, rfl⟩
    have hq5 : RowAt W5 w.heap.size 137 #[.string s, .int .i64 (p : Int)] := by rw [hW5]; exact RowAt.rowOther (RowAt.alloc hq4 _) _ _ (by omega)
    have hr5 : RowAt W5 (w.heap.size + 1) 27 (ints 26 fun _ => 0) := by rw [hW5]; exact RowAt.rowOther (RowAt.alloc hr4 _) _ _ (by omega)
    have hm5 : RowAt W5 V.heap.size 27 (ints 26 MP) := by rw [hW5]; exact RowAt.rowOther (RowAt.alloc hm4 _) _ _ (by omega)
    have ht5 : RowAt W5 V4.heap.size 27 (ints 26 TW) := by rw [hW5]; exact RowAt.row (RowAt.new V4 _ _) _
    have HB5 : Hid (Below w.heap.size w W5) := by rw [Hid, hW5]; exact PK.Below.setRow (HB4.out.alloc HB4.out.size _) _ HB4.out.size _
    rw [← hW5]
    have hbig5 : V4.heap.size < W5.heap.size := RowAt.lt ht5
    have HQ5 : Hid (RowAt W5 w.heap.size 137 #[.string s, .int .i64 (p : Int)]) := hq5
    have HR5 : Hid (RowAt W5 (w.heap.size + 1) 27 (ints 26 fun _ => 0)) := hr5
    have HM5 : Hid (RowAt W5 V.heap.size 27 (ints 26 MP)) := hm5
    have HT5 : Hid (RowAt W5 V4.heap.size 27 (ints 26 TW)) := ht5
    have HSA : Hid (∀ X, Calls Tryz.prog 202 #[] X fun e w' => e = .returned (.agg (ints 26 (Pm.up fun i => i))) ∧ Below X.heap.size X w') := fun X => same_any X
    have hnq := run_neq_perm TW (Pm.up fun i => i)
    generalize (Pm.up fun i => i) = ID at *
    clear hW5 hq4 hr4 hm4 hq5 hr5 hm5 ht5 u1 v0 v1 hz26
    refine wp_region_noPanic ?_
    refine wp_region_held_drew (S := fun W => RowAt W V4.heap.size 27 (ints 26 TW) ∧ Below W5.heap.size W5 W) (by kernel_rfl) ⟨HT5.out, (Below.refl _ _).drew⟩ (fun hS => ?_)
    refine vtake 0 27 (.agg (ints 26 TW)) rfl rfl (by kernel_rfl) (by kernel_rfl) (by kernel_rfl) (fun _ _ _ _ h => h) (by rfl) (fun W hW => by have u := run_loadVar_row (P := Tryz.prog) W V4.heap.size 27 27 (ints 26 TW) (0, 0) _ hW.1 Tryz.underlying27 rfl (by rw [ints_size]; exact info_perm); clear hS hW; simp [execOp, Act.eval, Instr.loadAt, Instr.sureAddr, u]) hS ?_
    simp only [List.setIfInBounds_toArray, List.set_cons_succ, List.set_cons_zero]
    refine wpAnyH_ready (rs := [1]) (by kernel_rfl) (by simp) ?_
    refine AllReadyH.cons (o := _) rfl (fun K hK => ?_) AllReadyH.nil
    rw [if_pos (by rfl)]
    go_simp
    refine Calls.mono (HSA.out _) ?_
    rintro e Y ⟨rfl, hbx⟩
    refine hK.out _ _ (⟨RowAt.below hS.1 hbx (RowAt.lt hS.1), hS.2.trans (hbx.mono hS.2.size)⟩) (fun hS1 => ?_)
    clear hK hS K
    have hS := hS1
    clear hS1
    refine vtake 2 29 (.bool (!eqI 26 TW ID)) rfl rfl (by kernel_rfl) (by kernel_rfl) (by kernel_rfl) (fun _ _ _ _ h => h) (by rfl) (fun W hW => by have u := hnq; clear hS hW; go_simp) hS ?_
    simp only [List.setIfInBounds_toArray, List.set_cons_succ, List.set_cons_zero]
    refine wpAnyH_done (by kernel_rfl) ?_ _
    refine NoPanic.normal ?_
    have hbY := hS.2
    have hqY := RowAt.below HQ5.out hbY (RowAt.lt HQ5.out)
    have hrY := RowAt.below HR5.out hbY (RowAt.lt HR5.out)
    have hmY := RowAt.below HM5.out hbY (RowAt.lt HM5.out)
    have HBY : Hid (Below w.heap.size w Y) := HB5.out.trans (hbY.mono HB5.out.size)
    have y1 := RowAt.cell hqY (i := 1) rfl
    rw [HSU.out] at HPE2
    clear hS hbY hqY HQ5 HR5 HM5 HT5 hnq HSA
    cases hq : eqI 26 TW ID with
    | true =>
      have HE0 : Hid (E = 0) := by rw [Hid, HPE2.out, hq]; rfl
      have HR6 : Hid (RowAt (Y.setRow (w.heap.size + 1) (ints 26 MP)) (w.heap.size + 1) 27 (ints 26 MP)) := RowAt.row hrY _
      have HB6 : Hid (Below w.heap.size w (Y.setRow (w.heap.size + 1) (ints 26 MP))) := PK.Below.setRow HBY.out _ (by omega) _
      go_wp2_with (first | refine wpList_load_row rfl 27 _ rfl V.heap.size rfl 27 (ints 26 MP) (0, 0) _ hmY Tryz.underlying27 rfl (by rw [ints_size]; exact info_perm) ?_ | refine wpList_store_row rfl 27 _ _ rfl (w.heap.size + 1) (ints 26 MP) rfl rfl 27 _ hrY (by rw [ints_size]; exact info_perm) (by rw [ints_size, ints_size]) (ints_one _ _) ?_)
      exact ⟨rfl, _, results_c1 rfl _ _ (w.heap.size + 1) 27 (ints 26 MP) (0, 0) _ rfl HR6.out Tryz.underlying27 rfl (by rw [ints_size]; exact info_perm), fun _ => rfl, fun h => absurd HE0.out h, HB6.out⟩
    | false =>
      have HE1 : Hid (E = 1) := by rw [Hid, HPE2.out, hq]; rfl
      have HT : Hid _ := throw_any 1 p Y
      go_wp2_with fail
      refine Calls.mono HT.out ?_
      rintro e V6 ⟨rfl, rfl⟩
      exact ⟨rfl, fun h => absurd (HE1.out.symm.trans h) (by decide), fun _ => by rw [HE1.out, HPA2.out]; rfl, HBY.out⟩
  · have HPP : Hid (Calls Tryz.prog 37 #[.int .i64 RE, .int .i64 ((p : Int) + (RA : Int))] W3 fun e w' => e = .panicked [flt RE ((p + RA : Nat) : Int)] ∧ w' = W3) := by rw [HSUM.out]; exact pass_bad RE _ (by simpa using hE) W3
    have HPE2 : Hid (E = RE) := by rw [Hid, HPE.out, if_pos hE]
    have HPA2 : Hid (A = RA) := by rw [Hid, HPA.out, if_pos hE]
    have HNE : Hid (RE ≠ 0) := hE
    clear hE HPE HPA HPR
    go_wp2_with fail
    refine Calls.mono HPP.out ?_
    rintro e V2 ⟨rfl, rfl⟩
    exact ⟨rfl, fun h => absurd (HPE2.out.symm.trans h) HNE.out, fun _ => by rw [HPE2.out, HPA2.out], HB3.out⟩
end Go.Proofs.YtkohhdkkbaifoaaGreatDoor
