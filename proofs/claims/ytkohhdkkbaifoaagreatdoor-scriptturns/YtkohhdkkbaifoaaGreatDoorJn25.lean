/-
  Several texts, joined: ScU, ScZ, ScO.
-/
import Derived.Test.YtkohhdkkbaifoaaGreatDoorJn24
import Derived.Test.YtkohhdkkbaifoaaGreatDoorScY
import Derived.Test.YtkohhdkkbaifoaaGreatDoorJn19
/-
  What a word tells: plugs.
-/
namespace Go.Proofs.YtkohhdkkbaifoaaGreatDoor
open Go.RowKit PK Vg

/-- Is it its own undoing? -/
def selfU (f : Nat → Int) : Bool := eqI 26 (fun i => f (f i).toNat) (Pm.up fun i => i)
/-- What is wrong with plugs in words, and how far behind the word's beginning. -/
def plgE (l : List UInt8) : Int := if (readOut l).2.1 ≠ 0 then (readOut l).2.1 else if selfU (readOut l).1 = true then 0 else 1
def plgA (l : List UInt8) : Nat := if (readOut l).2.1 ≠ 0 then (readOut l).2.2 else 0
theorem run_neq_perm (f g : Nat → Int) (w : World) : (binOp .neq 27 (.agg (ints 26 f)) (.agg (ints 26 g))).run Tryz.prog w = .ok (.bool (!eqI 26 f g)) w := by
  have h : Sem.run Tryz.prog (Op.equal 27 (.agg (ints 26 f)) (.agg (ints 26 g))) w = .ok (eqI 26 f g) w := run_equalIn_ints (P := Tryz.prog) w 9998 27 3 26 Tryz.underlying27 Tryz.underlying3 info_int f g
  simp [binOp, h]
theorem rdErr_lt (t : List UInt8) : ∀ (n : Nat) (x : Int × Nat), rdErr t n = some x → x.2 < n
  | 0, x, h => by cases h
  | n + 1, x, h => by
    unfold rdErr at h
    cases hn : rdErr t n with
    | some y => rw [hn] at h; cases h; have := rdErr_lt t n _ hn; omega
    | none =>
      rw [hn] at h
      by_cases he : (rdN t n).err (t.getD n 0).toNat ≠ 0
      · simp only [if_pos he] at h; cases h; exact Nat.lt_succ_self n
      · simp only [if_neg he] at h; cases h
theorem readOut_le (t : List UInt8) : (readOut t).2.2 ≤ t.length := by
  unfold readOut
  cases hr : rdErr t t.length with
  | some x => exact Nat.le_of_lt (rdErr_lt t _ _ hr)
  | none =>
    by_cases ho : (rdN t t.length).op = true
    · simp only [if_pos ho]; exact Nat.le_refl _
    · simp only [if_neg ho]; exact Nat.zero_le _
set_option maxRecDepth 100000 in
set_option maxHeartbeats 2000000 in
theorem wplg_any (l : List UInt8) (p : Nat) (hs : l.length ≤ 65536) (hp : p ≤ 65536) (w : World) :
    Calls Tryz.prog 203 #[wdV l p] w fun e w' => (plgE l = 0 → e = .returned (.agg (ints 26 (readOut l).1))) ∧ (plgE l ≠ 0 → e = .panicked [flt (plgE l) ((p + plgA l : Nat) : Int)]) ∧ Below w.heap.size w w' := by
  obtain ⟨s, hsd⟩ : ∃ s : ByteArray, s = ⟨l.toArray⟩ := ⟨_, rfl⟩
  have hsl : s.data.toList = l := by rw [hsd]
  have hz := Pl.size_len s
  rw [hsl] at hz
  unfold wdV
  rw [← hsd]
  have hb1 : Below w.heap.size w (w.alloc (.cells #[.string s, .int .i64 (p : Int)] 137)) := (Below.refl _ w).alloc (Nat.le_refl _) _
  have hq1 := RowAt.new w 137 #[.string s, .int .i64 (p : Int)]
  have c0 := RowAt.cell hq1 (i := 0) rfl
  have c1 := RowAt.cell hq1 (i := 1) rfl
  have HB : Hid _ := hb1
  have HQ : Hid (RowAt (w.alloc (.cells #[.string s, .int .i64 (p : Int)] 137)) w.heap.size 137 #[.string s, .int .i64 (p : Int)]) := hq1
  obtain ⟨W2, hW2⟩ : ∃ W2, W2 = (w.alloc (.cells #[.string s, .int .i64 (p : Int)] 137)).alloc (.cells (ints 26 fun _ => 0) 27) := ⟨_, rfl⟩
  have hb2 : Below w.heap.size w W2 := by rw [hW2]; exact HB.out.alloc HB.out.size _
  have hq2 : RowAt W2 w.heap.size 137 #[.string s, .int .i64 (p : Int)] := by rw [hW2]; exact RowAt.alloc hq1 _
  have hr2 : RowAt W2 (w.heap.size + 1) 27 (ints 26 fun _ => 0) := by rw [hW2]; have := RowAt.new (w.alloc (.cells #[.string s, .int .i64 (p : Int)] 137)) 27 (ints 26 fun _ => 0); simpa using this
  have HM : Hid (Calls Tryz.prog 231 #[.string s] W2 fun e w' => e = .returned (.tuple #[.agg (ints 26 (readOut l).1), .agg #[.int .i64 (readOut l).2.1, .int .i64 ((readOut l).2.2 : Nat)]]) ∧ Below W2.heap.size W2 w') := by
    rw [← hsl]; exact read_any s (by unfold maxLen; omega) W2
  have u0 := RowAt.cell hq2 (i := 0) rfl
  have HQ2 : Hid (RowAt W2 w.heap.size 137 #[.string s, .int .i64 (p : Int)]) := hq2
  have HR2 : Hid (RowAt W2 (w.heap.size + 1) 27 (ints 26 fun _ => 0)) := hr2
  have HB2 : Hid _ := hb2
  have hz26 := o_zero v_zero_perm
  have HPE : Hid (plgE l = if (readOut l).2.1 ≠ 0 then (readOut l).2.1 else if selfU (readOut l).1 = true then 0 else 1) := rfl
  have HPA : Hid (plgA l = if (readOut l).2.1 ≠ 0 then (readOut l).2.2 else 0) := rfl
  have HPR : Hid ((readOut l).2.1 = 0 → ∃ q, Pm.IsPerm q ∧ (readOut l).1 = Pm.up q) := read_perm
  have HAT : Hid ((readOut l).2.2 ≤ l.length) := readOut_le l
  clear hz hsl hsd hb1 hq1 c0 c1 hb2 hq2 hr2
  generalize plgE l = E at *
  generalize plgA l = A at *
  generalize readOut l = RO at *
  obtain ⟨MP, RE, RA⟩ := RO
  simp only at HM HPE HPA HPR HAT ⊢
  have hra : RA ≤ 65536 := by have := HAT.out; omega
  go_enter Tryz.func203, Tryz.ntmps203
  go_upto_region 1 with fail
  rw [← hW2]
  clear hW2 HAT
  go_wp2_with fail
  refine Calls.mono HM.out ?_
  rintro e V ⟨rfl, hb⟩
  have hqV := RowAt.below HQ2.out hb (RowAt.lt HQ2.out)
  have hrV := RowAt.below HR2.out hb (RowAt.lt HR2.out)
  have HBV : Hid (Below w.heap.size w V) := HB2.out.trans (hb.mono HB2.out.size)
  have hbig : w.heap.size + 1 < V.heap.size := RowAt.lt hrV
  clear hb HM u0
  have hF3 : RowAt (((V.alloc (.cells (ints 26 fun _ => 0) 27)).alloc (.cells #[.int .i64 0, .int .i64 0] 35)).setRow V.heap.size (ints 26 MP)) (V.heap.size + 1) 35 #[.int .i64 0, .int .i64 0] := by
    refine RowAt.rowOther ?_ _ _ (by omega)
    have := RowAt.new (V.alloc (.cells (ints 26 fun _ => 0) 27)) 35 #[.int .i64 0, .int .i64 0]
    simpa using this
  have g0 := RowAt.cell hF3 (i := 0) rfl
  have g1 := RowAt.cell hF3 (i := 1) rfl
  have g2 := RowAt.frozen hF3 0
  have g3 := RowAt.frozen hF3 1
  have HF3 : Hid _ := hF3
  go_upto_region 2 with (first | refine wpList_store_row rfl 27 _ _ rfl V.heap.size (ints 26 MP) rfl rfl 27 _ ((RowAt.new V _ _).alloc _) (by rw [ints_size]; exact info_perm) (by rw [ints_size, ints_size]) (ints_one _ _) ?_)
  obtain ⟨W3, hW3⟩ : ∃ W3, W3 = ((((V.alloc (.cells (ints 26 fun _ => 0) 27)).alloc (.cells #[.int .i64 0, .int .i64 0] 35)).setRow V.heap.size (ints 26 MP)).setCell ⟨V.heap.size + 1, 0, none⟩ (.int .i64 RE)).setCell ⟨V.heap.size + 1, 1, none⟩ (.int .i64 (RA : Nat)) := ⟨_, rfl⟩
  have hq3 : RowAt W3 w.heap.size 137 #[.string s, .int .i64 (p : Int)] := by rw [hW3]; exact RowAt.setOther (RowAt.setOther (RowAt.rowOther (RowAt.alloc (RowAt.alloc hqV _) _) _ _ (by omega)) _ _ (by show w.heap.size ≠ V.heap.size + 1; omega)) _ _ (by show w.heap.size ≠ V.heap.size + 1; omega)
  have hr3 : RowAt W3 (w.heap.size + 1) 27 (ints 26 fun _ => 0) := by rw [hW3]; exact RowAt.setOther (RowAt.setOther (RowAt.rowOther (RowAt.alloc (RowAt.alloc hrV _) _) _ _ (by omega)) _ _ (by show w.heap.size + 1 ≠ V.heap.size + 1; omega)) _ _ (by show w.heap.size + 1 ≠ V.heap.size + 1; omega)
  have hm3 : RowAt W3 V.heap.size 27 (ints 26 MP) := by rw [hW3]; exact RowAt.setOther (RowAt.setOther (RowAt.row (RowAt.alloc (RowAt.new V _ _) _) _) _ _ (by show V.heap.size ≠ V.heap.size + 1; omega)) _ _ (by show V.heap.size ≠ V.heap.size + 1; omega)
  have hf3 : RowAt W3 (V.heap.size + 1) 35 #[.int .i64 RE, .int .i64 (RA : Nat)] := by rw [hW3]; exact RowAt.set (RowAt.set HF3.out 0 _) 1 _
  have HB3 : Hid (Below w.heap.size w W3) := by
    rw [Hid, hW3]
    exact ((PK.Below.setRow ((HBV.out.alloc HBV.out.size _).alloc (by have := HBV.out.size; simp; omega) _) _ HBV.out.size _).setCell (p := ⟨V.heap.size + 1, 0, none⟩) (by have := HBV.out.size; show _ ≤ V.heap.size + 1; omega) _).setCell (p := ⟨V.heap.size + 1, 1, none⟩) (by have := HBV.out.size; show _ ≤ V.heap.size + 1; omega) _
  rw [← hW3]
  have u1 := RowAt.cell hq3 (i := 1) rfl
  have v0 := RowAt.cell hf3 (i := 0) rfl
  have v1 := RowAt.cell hf3 (i := 1) rfl
  have hsum : (p : Int) + (RA : Int) = ((p + RA : Nat) : Int) := by omega
  have HSUM : Hid _ := hsum
  have hp3 : (p : Int) ≤ 65536 := by omega
  have hra3 : (RA : Int) ≤ 65536 := by omega
  clear hW3 hqV hrV hF3 hsum g0 g1 g2 g3 HF3
  by_cases hE : RE = 0
  · have HPP : Hid (Calls Tryz.prog 37 #[.int .i64 RE, .int .i64 ((p : Int) + (RA : Int))] W3 fun e w' => e = .returned (.tuple #[]) ∧ w' = W3) := by rw [hE]; exact pass_ok _ W3
    obtain ⟨qq, hqq, hMP⟩ := HPR.out hE
    have HPE2 : Hid (E = if selfU MP = true then 0 else 1) := by rw [Hid, HPE.out, if_neg (fun h => h hE)]
    have HPA2 : Hid (A = 0) := by rw [Hid, HPA.out, if_neg (fun h => h hE)]
    have HTH : Hid (∀ X, Calls Tryz.prog 232 #[.agg (ints 26 MP), .agg (ints 26 MP)] X fun e w' => e = .returned (.tuple #[.agg (ints 26 (Pm.up fun i => qq (qq i))), .int .i64 0]) ∧ Below X.heap.size X w') := fun X => by rw [hMP]; exact then_ok qq qq hqq hqq X
    have HSU : Hid (selfU MP = eqI 26 (Pm.up fun i => qq (qq i)) (Pm.up fun i => i)) := by
      rw [Hid, hMP]
      rfl
    clear hE hMP hqq HPE HPA HPR
    go_wp2_with fail
    refine Calls.mono HPP.out ?_
    rintro e V2 ⟨rfl, rfl⟩
    go_wp2_with (first | refine wpList_load_row rfl 27 _ rfl V.heap.size rfl 27 (ints 26 MP) (0, 0) _ hm3 Tryz.underlying27 rfl (by rw [ints_size]; exact info_perm) ?_)
    refine Calls.mono (HTH.out _) ?_
    rintro e V4 ⟨rfl, hb4⟩
    have hq4 := RowAt.below hq3 hb4 (RowAt.lt hq3)
    have hr4 := RowAt.below hr3 hb4 (RowAt.lt hr3)
    have hm4 := RowAt.below hm3 hb4 (RowAt.lt hm3)
    have HB4 : Hid (Below w.heap.size w V4) := HB3.out.trans (hb4.mono HB3.out.size)
    have hbig4 : w.heap.size + 1 < V4.heap.size ∧ V.heap.size < V4.heap.size := ⟨RowAt.lt hr4, RowAt.lt hm4⟩
    generalize hTW : (Pm.up fun i => qq (qq i)) = TW at *
    clear hb4 hTW HTH HPP hq3 hr3 hm3 hf3
    go_upto_region 4 with (first | refine wpList_store_row rfl 27 _ _ rfl V4.heap.size (ints 26 TW) rfl rfl 27 _ (RowAt.new V4 _ _) (by rw [ints_size]; exact info_perm) (by rw [ints_size, ints_size]) (ints_one _ _) ?_)
    obtain ⟨W5, hW5⟩ : ∃ W5, W5 = (V4.alloc (.cells (ints 26 fun _ => 0) 27)).setRow V4.heap.size (ints 26 TW) := ⟨_, rfl⟩
    have hq5 : RowAt W5 w.heap.size 137 #[.string s, .int .i64 (p : Int)] := by rw [hW5]; exact RowAt.rowOther (RowAt.alloc hq4 _) _ _ (by omega)
    have hr5 : RowAt W5 (w.heap.size + 1) 27 (ints 26 fun _ => 0) := by rw [hW5]; exact RowAt.rowOther (RowAt.alloc hr4 _) _ _ (by omega)
    have hm5 : RowAt W5 V.heap.size 27 (ints 26 MP) := by rw [hW5]; exact RowAt.rowOther (RowAt.alloc hm4 _) _ _ (by omega)
    have ht5 : RowAt W5 V4.heap.size 27 (ints 26 TW) := by rw [hW5]; exact RowAt.row (RowAt.new V4 _ _) _
    have HB5 : Hid (Below w.heap.size w W5) := by rw [Hid, hW5]; exact PK.Below.setRow (HB4.out.alloc HB4.out.size _) _ HB4.out.size _
    rw [← hW5]
    have hbig5 : V4.heap.size < W5.heap.size := RowAt.lt ht5
    have HQ5 : Hid (RowAt W5 w.heap.size 137 #[.string s, .int .i64 (p : Int)]) := hq5
    have HR5 : Hid (RowAt W5 (w.heap.size + 1) 27 (ints 26 fun _ => 0)) := hr5
    have HM5 : Hid (RowAt W5 V.heap.size 27 (ints 26 MP)) := hm5
    have HT5 : Hid (RowAt W5 V4.heap.size 27 (ints 26 TW)) := ht5
    have HSA : Hid (∀ X, Calls Tryz.prog 202 #[] X fun e w' => e = .returned (.agg (ints 26 (Pm.up fun i => i))) ∧ Below X.heap.size X w') := fun X => same_any X
    have hnq := run_neq_perm TW (Pm.up fun i => i)
    generalize (Pm.up fun i => i) = ID at *
    clear hW5 hq4 hr4 hm4 hq5 hr5 hm5 ht5 u1 v0 v1 hz26
    refine wp_region_noPanic ?_
    refine wp_region_held_drew (S := fun W => RowAt W V4.heap.size 27 (ints 26 TW) ∧ Below W5.heap.size W5 W) (by kernel_rfl) ⟨HT5.out, (Below.refl _ _).drew⟩ (fun hS => ?_)
    refine vtake 0 27 (.agg (ints 26 TW)) rfl rfl (by kernel_rfl) (by kernel_rfl) (by kernel_rfl) (fun _ _ _ _ h => h) (by rfl) (fun W hW => by have u := run_loadVar_row (P := Tryz.prog) W V4.heap.size 27 27 (ints 26 TW) (0, 0) _ hW.1 Tryz.underlying27 rfl (by rw [ints_size]; exact info_perm); clear hS hW; simp [execOp, Act.eval, Instr.loadAt, Instr.sureAddr, u]) hS ?_
    simp only [List.setIfInBounds_toArray, List.set_cons_succ, List.set_cons_zero]
    refine wpAnyH_ready (rs := [1]) (by kernel_rfl) (by simp) ?_
    refine AllReadyH.cons (o := _) rfl (fun K hK => ?_) AllReadyH.nil
    rw [if_pos (by rfl)]
    go_simp
    refine Calls.mono (HSA.out _) ?_
    rintro e Y ⟨rfl, hbx⟩
    refine hK.out _ _ (⟨RowAt.below hS.1 hbx (RowAt.lt hS.1), hS.2.trans (hbx.mono hS.2.size)⟩) (fun hS1 => ?_)
    clear hK hS K
    have hS := hS1
    clear hS1
    refine vtake 2 29 (.bool (!eqI 26 TW ID)) rfl rfl (by kernel_rfl) (by kernel_rfl) (by kernel_rfl) (fun _ _ _ _ h => h) (by rfl) (fun W hW => by have u := hnq; clear hS hW; go_simp) hS ?_
    simp only [List.setIfInBounds_toArray, List.set_cons_succ, List.set_cons_zero]
    refine wpAnyH_done (by kernel_rfl) ?_ _
    refine NoPanic.normal ?_
    have hbY := hS.2
    have hqY := RowAt.below HQ5.out hbY (RowAt.lt HQ5.out)
    have hrY := RowAt.below HR5.out hbY (RowAt.lt HR5.out)
    have hmY := RowAt.below HM5.out hbY (RowAt.lt HM5.out)
    have HBY : Hid (Below w.heap.size w Y) := HB5.out.trans (hbY.mono HB5.out.size)
    have y1 := RowAt.cell hqY (i := 1) rfl
    rw [HSU.out] at HPE2
    clear hS hbY hqY HQ5 HR5 HM5 HT5 hnq HSA
    cases hq : eqI 26 TW ID with
    | true =>
      have HE0 : Hid (E = 0) := by rw [Hid, HPE2.out, hq]; rfl
      have HR6 : Hid (RowAt (Y.setRow (w.heap.size + 1) (ints 26 MP)) (w.heap.size + 1) 27 (ints 26 MP)) := RowAt.row hrY _
      have HB6 : Hid (Below w.heap.size w (Y.setRow (w.heap.size + 1) (ints 26 MP))) := PK.Below.setRow HBY.out _ (by omega) _
      go_wp2_with (first | refine wpList_load_row rfl 27 _ rfl V.heap.size rfl 27 (ints 26 MP) (0, 0) _ hmY Tryz.underlying27 rfl (by rw [ints_size]; exact info_perm) ?_ | refine wpList_store_row rfl 27 _ _ rfl (w.heap.size + 1) (ints 26 MP) rfl rfl 27 _ hrY (by rw [ints_size]; exact info_perm) (by rw [ints_size, ints_size]) (ints_one _ _) ?_)
      exact ⟨rfl, _, results_c1 rfl _ _ (w.heap.size + 1) 27 (ints 26 MP) (0, 0) _ rfl HR6.out Tryz.underlying27 rfl (by rw [ints_size]; exact info_perm), fun _ => rfl, fun h => absurd HE0.out h, HB6.out⟩
    | false =>
      have HE1 : Hid (E = 1) := by rw [Hid, HPE2.out, hq]; rfl
      have HT : Hid _ := throw_any 1 p Y
      go_wp2_with fail
      refine Calls.mono HT.out ?_
      rintro e V6 ⟨rfl, rfl⟩
      exact ⟨rfl, fun h => absurd (HE1.out.symm.trans h) (by decide), fun _ => by rw [HE1.out, HPA2.out]; rfl, HBY.out⟩
  · have HPP : Hid (Calls Tryz.prog 37 #[.int .i64 RE, .int .i64 ((p : Int) + (RA : Int))] W3 fun e w' => e = .panicked [flt RE ((p + RA : Nat) : Int)] ∧ w' = W3) := by rw [HSUM.out]; exact pass_bad RE _ (by simpa using hE) W3
    have HPE2 : Hid (E = RE) := by rw [Hid, HPE.out, if_pos hE]
    have HPA2 : Hid (A = RA) := by rw [Hid, HPA.out, if_pos hE]
    have HNE : Hid (RE ≠ 0) := hE
    clear hE HPE HPA HPR
    go_wp2_with fail
    refine Calls.mono HPP.out ?_
    rintro e V2 ⟨rfl, rfl⟩
    exact ⟨rfl, fun h => absurd (HPE2.out.symm.trans h) HNE.out, fun _ => by rw [HPE2.out, HPA2.out], HB3.out⟩
end Go.Proofs.YtkohhdkkbaifoaaGreatDoor

/-
  What script.Read reads, as functions of the text.
-/
namespace Go.Proofs.YtkohhdkkbaifoaaGreatDoor
open Go.RowKit PK Vg

/-- What is read, and where it goes on; or what is wrong, and where. -/
abbrev Rz (α : Type) := Except (Int × Nat) (α × Nat)
def rBind {α β : Type} (r : Rz α) (f : α → Nat → Rz β) : Rz β := match r with
  | .ok (x, q) => f x q
  | .error e => .error e
def rChk {α : Type} (E : Int) (A : Nat) (r : Rz α) : Rz α := if E = 0 then r else .error (E, A)
def rWord (t : List UInt8) (p : Nat) : Rz (List UInt8) := if wE t p = 0 then .ok (wrd t p, p + (wrd t p).length + 1) else .error (2, wA t p)
def rNum (t : List UInt8) (lo hi : Int) (p : Nat) : Rz Nat := rBind (rWord t p) fun l q => rChk (numE l lo hi) p (.ok (valA 0 l, q))
def rKey (t : List UInt8) (p : Nat) : Rz (List UInt8) := rBind (rWord t p) fun l q => rChk (keyE l) p (.ok (l, q))
/-- m numbers. -/
def rNums (t : List UInt8) (p : Nat) : Nat → Rz (List Nat)
  | 0 => .ok ([], p)
  | m + 1 => rBind (rNums t p m) fun L q => rBind (rNum t 0 25 q) fun x q' => .ok (L ++ [x], q')
def rMat (t : List UInt8) (p : Nat) : Rz (Nat × List Nat) := rBind (rNum t 1 4 p) fun n q => rBind (rNums t q (n * n)) fun L q' => .ok ((n, L), q')
def gmOf (l1 l2 l3 l4 : List UInt8) (pl : Nat → Int) : Gm where
  n := pcn l1
  wi := fun r => knW (pce l1 r)
  nl := fun r => (knN (pce l1 r)).length
  no := fun r i => ((knN (pce l1 r)).getD i 0 : Nat)
  rl := pcn l1
  ri := setF l3
  sl := pcn l1
  st := setF l4
  rf := miP l2
  pl := pl
/-- The plugs, if there are any. -/
def rPlg (t : List UInt8) (p : Nat) : Rz (Nat → Int) := if t.length < p then .ok (Pm.up fun i => i, p) else rBind (rWord t p) fun l q => if l = [124] then .ok (Pm.up fun i => i, p) else rChk (plgE l) (p + plgA l) (.ok ((readOut l).1, q))
def rMach (t : List UInt8) (p : Nat) : Rz Gm :=
  rBind (rWord t p) fun l1 p1 => rChk (wsE l1) (wsA l1 p) <| rBind (rWord t p1) fun l2 p2 => rChk (miE l2) p1 <| rBind (rWord t p2) fun l3 p3 => rChk (setE l3 (pcn l1)) p2 <|
  rBind (rWord t p3) fun l4 p4 => rChk (setE l4 (pcn l1)) p3 <| rBind (rPlg t p4) fun pl p5 => .ok (gmOf l1 l2 l3 l4 pl, p5)
/-- A step by its name alone. -/
def gm0 : Gm where
  n := 0
  wi := fun _ _ => 0
  nl := fun _ => 0
  no := fun _ _ => 0
  rl := 0
  ri := fun _ => 0
  sl := 0
  st := fun _ => 0
  rf := fun _ => 0
  pl := fun _ => 0
def sp0 (k n : Nat) : Sp where
  k := k
  n := n
  key := ⟨#[]⟩
  r := 0
  L := fun _ => 0
  Z := fun _ _ => 0
  g := gm0
def rStep (t : List UInt8) (place p : Nat) : Rz Sp := rBind (rWord t p) fun l q => match nmK ⟨l.toArray⟩ with
  | none => .error (7, p)
  | some (k, n) => if 64 ≤ place then .error (5, p)
    else if k = 1 then rBind (rNum t 0 25 q) fun x q' => .ok ({ sp0 k n with n := x }, q')
    else if k = 3 then rBind (rNum t 1 64 q) fun x q' => .ok ({ sp0 k n with n := x }, q')
    else if k = 2 ∨ k = 4 then rBind (rKey t q) fun x q' => .ok ({ sp0 k n with key := ⟨x.toArray⟩ }, q')
    else if k = 5 then rBind (rMat t q) fun x q' => .ok ({ sp0 k n with r := x.1, L := fun _ => x.1, Z := fun i j => (x.2.getD (i * x.1 + j) 0 : Nat) }, q')
    else if k = 6 then rBind (rMach t q) fun x q' => .ok ({ sp0 k n with g := x }, q')
    else .ok (sp0 k n, q)
def rMore (t : List UInt8) : Nat → List Sp → Nat → Rz (List Sp)
  | 0, L, p => .ok (L, p)
  | f + 1, L, p => if t.length < p then .ok (L, p) else rBind (rWord t p) fun l q => if l = [124] then rBind (rStep t L.length q) fun s q' => rMore t f (L ++ [s]) q' else .error (2, p)
def rRead (t : List UInt8) : Rz (List Sp) := if 65536 < t.length then .error (4, 0) else rBind (rStep t 0 0) fun s q => rMore t 66 [s] q

theorem rWord_ok {t : List UInt8} {p : Nat} {l : List UInt8} {q : Nat} (h : rWord t p = .ok (l, q)) : wE t p = 0 ∧ l = wrd t p ∧ q = p + l.length + 1 ∧ p ≤ t.length ∧ l ≠ [] ∧ l.length ≤ t.length ∧ q ≤ t.length + 1 := by
  unfold rWord at h
  by_cases hE : wE t p = 0
  · rw [if_pos hE] at h
    cases h
    have h1 : p ≤ t.length := by
      by_cases hp : t.length < p
      · unfold wE at hE; rw [if_pos hp] at hE; cases hE
      · omega
    have h2 : wrd t p ≠ [] := by
      intro e
      unfold wE at hE
      rw [if_neg (by omega), if_pos e] at hE
      cases hE
    have h3 : (wrd t p).length ≤ (t.drop p).length := by unfold wrd upto; exact (List.takeWhile_sublist _).length_le
    rw [List.length_drop] at h3
    exact ⟨hE, rfl, rfl, h1, h2, by omega, by omega⟩
  · rw [if_neg hE] at h
    cases h
/-- What a call tells of what was read. -/
def Told {α : Type} (r : Rz α) (e : Ending) (ok : α → Nat → Value → Prop) : Prop := match r with
  | .ok (x, q) => ∃ v, e = .returned v ∧ ok x q v
  | .error (E, A) => e = .panicked [flt E A]
theorem word_rz (b : Nat) (T : ByteArray) (p : Nat) (w : World) (hr : RdAt w b T p) (hs : T.size ≤ 65536) : Calls Tryz.prog 109 #[.pointer (some ⟨b, 0, none⟩)] w fun e w' => Told (rWord T.data.toList p) e (fun l q v => v = wdV l p ∧ RdAt w' b T q) ∧ Fb b w w' := by
  refine Calls.mono (word_any b T p w hr hs) ?_
  rintro e w' ⟨h1, h2, h3⟩
  refine ⟨?_, h3⟩
  unfold rWord
  by_cases hE : wE T.data.toList p = 0
  · rw [if_pos hE]
    obtain ⟨h4, h5⟩ := h2 hE
    exact ⟨_, h4, rfl, h5⟩
  · rw [if_neg hE]
    exact h1 hE
end Go.Proofs.YtkohhdkkbaifoaaGreatDoor

/-
  Steps told so far: a slice of them that is the owner's.
-/
namespace Go.Proofs.YtkohhdkkbaifoaaGreatDoor
open Go.RowKit PK Vg

/-- The steps told so far. -/
structure SpO (W : World) (B : Nat) (v : Value) (k : Nat) (l : Nat → Sp) (R : Nat → Array Value) : Prop where
  own : W.ownsRow B 31 59 v k (rws R k)
  size : ∀ j, j < k → (R j).size = 59
  each : ∀ j, j < k → ∃ b e, B ≤ b ∧ e ≤ W.heap.size ∧ (∀ g, v.ownBlock = some g → g < b ∨ e ≤ g) ∧ Nw b e (fun W => SqAt W (.agg (R j)) (l j)) W
theorem sq_size {W : World} {c : Array Value} {s : Sp} (h : SqAt W (.agg c) s) : c.size = 59 ∧ c.all (·.oneCell') = true := by
  obtain ⟨mv, a, b, d, h1, h2, h3, h4, h5⟩ := h
  injection h1 with h1
  obtain ⟨_, _, _, rfl, _⟩ := h2
  obtain ⟨_, _, _, rfl, _⟩ := h3
  obtain ⟨_, _, rfl, _⟩ := h4
  obtain ⟨_, _, rfl, _⟩ := h5
  rw [h1]
  exact ⟨spA_size _ _ _ _ _ _ _ _ _, spA_one rfl rfl rfl rfl⟩
section
variable {W W' : World} {B k b : Nat} {v v' : Value} {l l' : Nat → Sp} {R R' : Nat → Array Value} {row : Option Nat}
theorem SpO.grown (h : SpO W B v k l R) (hg : W.grownBy W' row) (hr : ∀ r, row = some r → r < B) : SpO W' B v k l R := by
  refine ⟨h.own.kept hg ?_, h.size, fun j hj => ?_⟩
  · cases hv : v.ownBlock with
    | none => exact .inl rfl
    | some g =>
      right
      intro e
      have hl := World.ownsRow.lt h.own g hv
      have := hr g e.symm
      omega
  · obtain ⟨b, e, h1, h2, h3, h4⟩ := h.each j hj
    exact ⟨b, e, h1, Nat.le_trans h2 hg.size, h3, h4.grown hg (fun r hr2 => .inl (.inl (by have := hr r hr2; omega)))⟩
theorem SpO.fb (h : SpO W B v k l R) (hf : Fb b W W') (hb : b < B) : SpO W' B v k l R := by
  refine ⟨?_, h.size, fun j hj => ?_⟩
  · obtain ⟨h1, h2⟩ := h.own
    refine ⟨h1, ?_⟩
    rcases h2 with h2 | ⟨g, cap, cur, e, hB, hg, h3⟩
    · exact .inl h2
    · exact .inr ⟨g, cap, cur, e, hB, (hf.block g (Array.getElem?_eq_some_iff.1 hg).1 (by omega)).trans hg, h3⟩
  · obtain ⟨b2, e, h1, h2, h3, h4⟩ := h.each j hj
    refine ⟨b2, e, h1, Nat.le_trans h2 hf.size, h3, h4.keep fun i o x h5 _ h6 => ?_⟩
    have := hf.block i (cell_block h6) (by omega)
    simp only [World.cell?, this] at h6 ⊢
    exact h6
theorem SpO.below (h : SpO W B v k l R) (hb : Below W.heap.size W W') : SpO W' B v k l R := by
  refine ⟨own_step17 h.own hb, h.size, fun j hj => ?_⟩
  obtain ⟨b, e, h1, h2, h3, h4⟩ := h.each j hj
  exact ⟨b, e, h1, Nat.le_trans h2 hb.size, h3, h4.below hb⟩
theorem rws_congr {f g : Nat → Array Value} : ∀ {k : Nat}, (∀ j, j < k → f j = g j) → rws f k = rws g k
  | 0, _ => rfl
  | k + 1, h => by rw [rws, rws, rws_congr (fun j hj => h j (by omega)), h k (by omega)]
theorem SpO.congr (h : SpO W B v k l R) (hl : ∀ j, j < k → l' j = l j) (hR : ∀ j, j < k → R' j = R j) : SpO W B v k l' R' := by
  refine ⟨by rw [rws_congr hR]; exact h.own, fun j hj => by rw [hR j hj]; exact h.size j hj, fun j hj => ?_⟩
  rw [hR j hj, hl j hj]
  exact h.each j hj
/-- One more. -/
theorem SpO.more {c : Array Value} {s : Sp} (h : SpO W B v k l R) (hB : B ≤ b) (hvb : ∀ g, v.ownBlock = some g → g < b) (hQ : Nw b W.heap.size (fun W => SqAt W (.agg c) s) W)
    (hown : W'.ownsRow B 31 59 v' (k + 1) (rws R k ++ c.toList)) (hg : W.grownBy W' v.ownBlock) (hat : v'.ownBlock = v.ownBlock ∨ v'.ownBlock = some W.heap.size) :
    SpO W' B v' (k + 1) (fun i => if i = k then s else l i) (fun i => if i = k then c else R i) := by
  have hc := (sq_size hQ.here).1
  refine ⟨?_, fun j hj => ?_, fun j hj => ?_⟩
  · rw [rws, rws_congr (g := R) (fun j hj => if_neg (by omega)), if_pos rfl]
    exact hown
  · by_cases e : j = k
    · rw [if_pos e]; exact hc
    · rw [if_neg e]; exact h.size j (by omega)
  · by_cases ej : j = k
    · subst ej
      simp only [if_pos]
      refine ⟨b, W.heap.size, hB, hg.size, fun g hgv => ?_, hQ.grown hg (fun r hr => .inl (.inl (hvb r hr)))⟩
      rcases hat with h1 | h1
      · exact .inl (hvb g (h1 ▸ hgv))
      · rw [h1] at hgv; cases hgv; exact .inr (Nat.le_refl _)
    · obtain ⟨b2, e, h1, h2, h3, h4⟩ := h.each j (by omega)
      simp only [if_neg ej]
      refine ⟨b2, e, h1, Nat.le_trans h2 hg.size, fun g hgv => ?_, h4.grown hg (fun r hr => .inl (h3 r hr))⟩
      rcases hat with h5 | h5
      · exact h3 g (h5 ▸ hgv)
      · rw [h5] at hgv; cases hgv; exact .inr h2
/-- The first one: a slice of it alone. -/
theorem SpO.first {c : Array Value} {s : Sp} (hB : B ≤ W.heap.size) (hQ : Nw B W.heap.size (fun W => SqAt W (.agg c) s) W) : SpO (W.alloc (.cells c 31)) B (.slice (some ⟨W.heap.size, 0, none⟩) 1 1) 1 (fun _ => s) (fun _ => c) := by
  have hc := (sq_size hQ.here).1
  refine ⟨⟨?_, .inr ⟨W.heap.size, 1, c, rfl, hB, ?_, Nat.le_refl _, by decide, by rw [hc], ?_⟩⟩, fun _ _ => hc, fun j hj => ⟨B, W.heap.size, Nat.le_refl _, by rw [World.size_alloc]; omega, fun g hg => ?_, hQ.below ((Below.refl _ W).alloc (Nat.le_refl _) _)⟩⟩
  · simp [rws, hc]
  · exact RowAt.new W 31 c
  · simp only [rws, List.nil_append]
    rw [List.take_of_length_le (by rw [Array.length_toList, hc]; decide)]
  · cases hg; exact .inr (Nat.le_refl _)
/-- They are a chain, told by what was made from B on. -/
theorem SpO.chain (h : SpO W B v k l R) : Nw B W.heap.size (fun W => ChAt W v k l) W := by
  intro W' hk
  obtain ⟨a, cap, rfl, hm, hr⟩ := rws_range h.own h.size
  refine ⟨a, cap, R, rfl, hm, fun r hrk => ?_, fun r hrk => ?_⟩
  · obtain ⟨b, o, rfl, hb, hc⟩ := hr r hrk
    exact ⟨b, o, rfl, fun j v hv => hk b _ _ hb (cell_block (hc j v hv)) (hc j v hv)⟩
  · obtain ⟨b, e, h1, h2, _, h4⟩ := h.each r hrk
    exact h4 W' (fun b2 o x h5 h6 h7 => hk b2 o x (by omega) (by omega) h7)
end
theorem s_zs17 : (Tryz.prog.info? 31).map (fun i => (i.zero, i.size)) = some (some (.agg (spA 0 0 ⟨#[]⟩ (.slice none 0 0) (.slice none 0 0) (.slice none 0 0) (.slice none 0 0) (fun _ => 0) (fun _ => 0))), 59) := by kernel_rfl
section
variable {P : Program}
theorem wpList_build17 {ops : Array Oper} {rest : List Oper} {op : Oper} {a : Act} {w : World} {Q : Exit → Act → World → Prop} (hgd : op.guard = none) (t e : TypeId) (x : Operand) (ho : op.op = .buildSlice t 1 #[(0, x)])
    (n : Nat) (z c : Array Value) (hx : a.eval x = .agg c) (hn : n * 2 ≤ 2 ^ 24) (h0 : 0 < n) (hu : P.underlying t = some (.slice e)) (hzs : z.size = n) (hc : c.size = n) (hz : (P.info? e).map (fun i => (i.zero, i.size)) = some (some (.agg z), n))
    (h : wpList P ops Q rest (a.put op.dst (.slice (some ⟨w.heap.size, 0, none⟩) 1 1)) (w.alloc (.cells c e))) : wpList P ops Q (op :: rest) a w :=
  wpList_plain hgd fun _ hK => by
    unfold Oper.wp execOp
    have hm : (#[(0, x)] : Array (Nat × Operand)).map (fun (i, x) => (i, a.eval x)) = #[(0, .agg c)] := by simp [hx]
    simp only [ho, Sem.run_bind, hm, run_build17 w t e n hn h0 hu z c hzs hc hz, Result.andThen_ok]
    exact hK _ _ h
end
end Go.Proofs.YtkohhdkkbaifoaaGreatDoor
