/-
  Several texts, joined: ScT, PPm, PEq.
-/
import Derived.Test.YtkohhdkkbaifoaaGreatDoorJn22
import Derived.Test.YtkohhdkkbaifoaaGreatDoorJn23
import Derived.Test.YtkohhdkkbaifoaaGreatDoorJn1
/-
  What a word tells: rings or starts; plugs.
-/
namespace Go.Proofs.YtkohhdkkbaifoaaGreatDoor
open Go.RowKit PK Vg

/-- Numbers that lie where nobody else writes. -/
theorem NumsAt.fb {b K : Nat} {A B : World} {v : Value} {n : Nat} {f : Nat → Int} (h : NumsAt A v n f) (hb : Fb b A B) (hn : Fr0 K v) (hK : b < K) : NumsAt B v n f := by
  obtain ⟨a, cap, rfl, h2, h3⟩ := h
  refine ⟨a, cap, rfl, h2, fun c hc => ?_⟩
  obtain ⟨bb, o, e, hcell⟩ := h3 c hc
  subst e
  have h1 : K ≤ bb := hn ⟨bb, o, none⟩ n cap rfl
  have h4 := World.block_lt_of_cell? _ _ hcell
  refine ⟨bb, o, rfl, ?_⟩
  rw [← hcell]
  exact World.cell?_of_block (w := A) (hb.block bb h4 (by omega))
/-- What is wrong with Rings or Starts in words. -/
def setE (l : List UInt8) (m : Nat) : Int := if ckE l ≠ 0 then ckE l else if l.length ≠ m then 8 else 0
def setF (l : List UInt8) : Nat → Int := fun i => (Vg.num (l.getD i 0) : Nat)
def setB (l : List UInt8) (m : Nat) : Nat → Int := fun i => if i < m then (Vg.num (l.getD i 0) : Nat) else 0
theorem setB_step (l : List UInt8) (m : Nat) : upd (setB l m) m ((Vg.num (l.getD m 0) : Nat) : Int) = setB l (m + 1) := by
  funext i
  unfold upd setB
  by_cases h : i = m
  · rw [if_pos h, if_pos (by omega), h]
  · rw [if_neg h]
    by_cases h2 : i < m
    · rw [if_pos h2, if_pos (by omega)]
    · rw [if_neg h2, if_neg (by omega)]
set_option maxRecDepth 100000 in
set_option maxHeartbeats 2000000 in
theorem wset_any (l : List UInt8) (p m : Nat) (hs : l.length ≤ 65536) (hm : m ≤ 65536) (w : World) :
    Calls Tryz.prog 201 #[wdV l p, .int .i64 (m : Nat)] w fun e w' => (setE l m = 0 → ∃ v, e = .returned v ∧ NumsAt w' v m (setF l) ∧ Fr0 w.heap.size v) ∧ (setE l m ≠ 0 → e = .panicked [flt (setE l m) p]) ∧ Below w.heap.size w w' := by
  obtain ⟨s, hsd⟩ : ∃ s : ByteArray, s = ⟨l.toArray⟩ := ⟨_, rfl⟩
  have hsl : s.data.toList = l := by rw [hsd]
  have hz := Pl.size_len s
  rw [hsl] at hz
  unfold wdV
  rw [← hsd]
  have hb1 : Below w.heap.size w (w.alloc (.cells #[.string s, .int .i64 (p : Int)] 137)) := (Below.refl _ w).alloc (Nat.le_refl _) _
  have hq1 := RowAt.new w 137 #[.string s, .int .i64 (p : Int)]
  have c0 := RowAt.cell hq1 (i := 0) rfl
  have c1 := RowAt.cell hq1 (i := 1) rfl
  have HB : Hid _ := hb1
  have HQ : Hid (RowAt (w.alloc (.cells #[.string s, .int .i64 (p : Int)] 137)) w.heap.size 137 #[.string s, .int .i64 (p : Int)]) := hq1
  have HK : Hid (∀ X, Calls Tryz.prog 38 #[.string s] X fun e w' => e = .returned (.agg #[.int .i64 (ckE l), .int .i64 (ckAt l)]) ∧ Below X.heap.size X w') := fun X => by rw [← hsl]; exact check_all s X
  have HSE : Hid (setE l m = if ckE l ≠ 0 then ckE l else if l.length ≠ m then 8 else 0) := rfl
  have HLS : Hid (ckE l = 0 → Pl.Lets s.data.toList) := fun h => by rw [hsl]; exact (ck_at h).2.2
  have HSL : Hid (s.data.toList = l) := hsl
  have HSZ : Hid (s.size = l.length) := hz
  have hfd := f_field
  generalize setE l m = SE at *
  generalize hce : ckE l = CE at *
  generalize ckAt l = CA at *
  clear hz hsl hsd hb1 hq1 c0 c1 hce
  go_enter Tryz.func201, Tryz.ntmps201
  go_wp2_with fail
  by_cases hE : CE = 0
  · have HP : Hid (∀ X, Calls Tryz.prog 37 #[.int .i64 CE, .int .i64 (p : Int)] X fun e w' => e = .returned (.tuple #[]) ∧ w' = X) := fun X => by rw [hE]; exact pass_ok _ X
    have HL : Hid (Pl.Lets s.data.toList) := HLS.out hE
    have HSE2 : Hid (SE = if l.length ≠ m then 8 else 0) := by rw [Hid, HSE.out, if_neg (fun h => h hE)]
    clear hE HSE HLS
    refine wp_region_noPanic ?_
    refine wp_region_held_drew (S := fun W => RowAt W w.heap.size 137 #[.string s, .int .i64 (p : Int)] ∧ Below w.heap.size w W) (by kernel_rfl) ⟨HQ.out, HB.out.drew⟩ (fun hS => ?_)
    refine vtake 0 7 (.pointer (some ⟨w.heap.size, 0, none⟩)) rfl rfl (by kernel_rfl) (by kernel_rfl) (by kernel_rfl) (fun _ _ _ _ h => h) (by rfl) (fun W hW => by clear hS hW; go_simp) hS ?_
    simp only [List.setIfInBounds_toArray, List.set_cons_succ, List.set_cons_zero]
    refine vtake 1 8 (.string s) rfl rfl (by kernel_rfl) (by kernel_rfl) (by kernel_rfl) (fun _ _ _ _ h => h) (by rfl) (fun W hW => by have u := RowAt.cell hW.1 (i := 0) rfl; clear hS hW; go_simp) hS ?_
    simp only [List.setIfInBounds_toArray, List.set_cons_succ, List.set_cons_zero]
    refine vtake 4 11 (.pointer (some ⟨w.heap.size, 1, none⟩)) rfl rfl (by kernel_rfl) (by kernel_rfl) (by kernel_rfl) (fun _ _ _ _ h => h) (by rfl) (fun W hW => by clear hS hW; go_simp) hS ?_
    simp only [List.setIfInBounds_toArray, List.set_cons_succ, List.set_cons_zero]
    refine vtake 5 12 (.int .i64 (p : Int)) rfl rfl (by kernel_rfl) (by kernel_rfl) (by kernel_rfl) (fun _ _ _ _ h => h) (by rfl) (fun W hW => by have u := RowAt.cell hW.1 (i := 1) rfl; clear hS hW; go_simp) hS ?_
    simp only [List.setIfInBounds_toArray, List.set_cons_succ, List.set_cons_zero]
    refine wpAnyH_ready (rs := [2]) (by kernel_rfl) (by simp) ?_
    refine AllReadyH.cons (o := _) rfl (fun K hK => ?_) AllReadyH.nil
    rw [if_pos (by rfl)]
    go_simp
    refine Calls.mono (HK.out _) ?_
    rintro e Y ⟨rfl, hbx⟩
    refine hK.out _ _ (⟨RowAt.below hS.1 hbx (RowAt.lt hS.1), hS.2.trans (hbx.mono hS.2.size)⟩) (fun hS1 => ?_)
    clear hK hS K
    have hS := hS1
    clear hS1
    refine vtake 3 10 (.int .i64 CE) rfl rfl (by kernel_rfl) (by kernel_rfl) (by kernel_rfl) (fun _ _ _ _ h => h) (by rfl) (fun W hW => by have u := hfd; clear hS hW; go_simp) hS ?_
    simp only [List.setIfInBounds_toArray, List.set_cons_succ, List.set_cons_zero]
    refine wpAnyH_ready (rs := [6]) (by kernel_rfl) (by simp) ?_
    refine AllReadyH.cons (o := _) rfl (fun K hK => ?_) AllReadyH.nil
    rw [if_pos (by rfl)]
    go_simp
    refine Calls.mono (HP.out _) ?_
    rintro e Y ⟨rfl, rfl⟩
    refine hK.out _ _ (hS) (fun hS1 => ?_)
    clear hK hS K
    have hS := hS1
    clear hS1
    refine wpAnyH_done (by kernel_rfl) ?_ _
    refine NoPanic.normal ?_
    have HBY : Hid (Below w.heap.size w Y) := hS.2
    have HQY : Hid (RowAt Y w.heap.size 137 #[.string s, .int .i64 (p : Int)]) := hS.1
    have u0 := RowAt.cell hS.1 (i := 0) rfl
    have u1 := RowAt.cell hS.1 (i := 1) rfl
    clear hS
    by_cases hlm : l.length = m
    · have hsm : s.size = m := by rw [HSZ.out]; exact hlm
      have HS0 : Hid (SE = 0) := by rw [Hid, HSE2.out, if_neg (fun h => h hlm)]
      have hne : ((s.size : Int) != (m : Int)) = false := by rw [hsm]; simp
      have hmk := run_make_row' (P := Tryz.prog) 25 3 (.int .i64 0) 8 Tryz.underlying25 y_info_int rfl .i64 .i64 m (by omega) (by omega)
      rw [y_made_tab, ints_new] at hmk
      clear hlm HSE2
      go_wp2_with fail
      go_loopw [26] (fun i W => ∃ k : Nat, k ≤ m ∧ i = .int .i64 (k : Nat) ∧ RowAt W Y.heap.size 3 (ints m (setB l k)) ∧ Below Y.heap.size Y W) (fun i _ => ((m : Int) - intOf i).toNat)
      case atStart => exact ⟨0, by omega, rfl, RowAt.new Y _ _, (Below.refl _ _).alloc (Nat.le_refl _) _⟩
      case round =>
        obtain ⟨k, hk, rfl, ro, hb⟩ := hrel
        by_cases hlt : k < m
        · have hks : k < s.size := by omega
          have hlm := at_let s HL.out k hks
          have HLT : Hid (k < m) := hlt
          have hcx := RowAt.cell ro (ints_get (setB l k) hlt)
          have hfx := RowAt.frozen ro k
          have hqk := RowAt.below HQY.out hb (RowAt.lt HQY.out)
          have v0 := RowAt.cell hqk (i := 0) rfl
          have hnum : Vg.num s[k] = Vg.num (l.getD k 0) := by rw [← HSL.out, getD_byte s k hks]
          have ro2 : RowAt (wr.setCell ⟨Y.heap.size, k, none⟩ (.int .i64 (Vg.num s[k] : Nat))) Y.heap.size 3 (ints m (setB l (k + 1))) := by
            have := RowAt.set ro k (.int .i64 (Vg.num s[k] : Nat))
            rw [ints_set, hnum, setB_step] at this
            rw [hnum]
            exact this
          have hbb := hb.setCell (p := ⟨Y.heap.size, k, none⟩) (Nat.le_refl _) (.int .i64 (Vg.num s[k] : Nat))
          have HN : Hid _ := num17_any s[k] hlm wr
          clear hqk ro hb hnum hlm
          generalize Vg.num s[k] = x at *
          go_wp2_with fail
          refine Calls.mono HN.out ?_
          rintro e V ⟨rfl, rfl⟩
          go_wp2_with fail
          exact ⟨⟨k + 1, by omega, by go_num, ro2, hbb⟩, by simp [intOf]; omega⟩
        · obtain rfl : k = m := by omega
          have HNA : Hid (NumsAt wr (.slice (some ⟨Y.heap.size, 0, none⟩) k k) k (setF l)) := by
            refine ⟨_, _, rfl, by unfold maxLen; omega, fun c hc => ⟨Y.heap.size, 0, rfl, ?_⟩⟩
            rw [Nat.zero_add, RowAt.cell ro (ints_get (setB l k) hc)]
            unfold setB setF
            rw [if_pos hc]
          have HBZ : Hid (Below w.heap.size w wr) := HBY.out.trans (hb.mono HBY.out.size)
          have HFR : Hid (Fr0 w.heap.size (.slice (some ⟨Y.heap.size, 0, none⟩) k k)) := fun a n c e => by cases e; exact HBY.out.size
          clear ro hb
          go_wp2
          go_ret
          exact ⟨fun _ => ⟨_, rfl, HNA.out, HFR.out⟩, fun h => absurd HS0.out h, HBZ.out⟩
    · have HS8 : Hid (SE = 8) := by rw [Hid, HSE2.out, if_pos hlm]
      have hne : ((s.size : Int) != (m : Int)) = true := by rw [HSZ.out]; simp; omega
      have HT : Hid _ := throw_any 8 p Y
      clear hlm HSE2
      go_wp2_with fail
      refine Calls.mono HT.out ?_
      rintro e V2 ⟨rfl, rfl⟩
      exact ⟨rfl, fun h => absurd (HS8.out.symm.trans h) (by decide), fun _ => by rw [HS8.out], HBY.out⟩
  · have HNE2 : Hid (CE ≠ 0) := hE
    have HS2 : Hid (SE = CE) := by rw [Hid, HSE.out, if_pos hE]
    have HP : Hid (∀ X, Calls Tryz.prog 37 #[.int .i64 CE, .int .i64 (p : Int)] X fun e w' => e = .panicked [flt CE (p : Int)] ∧ w' = X) := fun X => pass_bad CE _ (by simpa using hE) X
    clear hE HSE HLS
    refine wp_region_held_drew (S := fun W => RowAt W w.heap.size 137 #[.string s, .int .i64 (p : Int)] ∧ Below w.heap.size w W) (by kernel_rfl) ⟨HQ.out, HB.out.drew⟩ (fun hS => ?_)
    refine vtakeP 0 7 (.pointer (some ⟨w.heap.size, 0, none⟩)) rfl rfl (by kernel_rfl) (by kernel_rfl) (by kernel_rfl) (fun _ _ _ h => h) (by rfl) (fun W hW => by clear hS hW; go_simp) hS ?_
    simp only [List.setIfInBounds_toArray, List.set_cons_succ, List.set_cons_zero]
    refine vtakeP 1 8 (.string s) rfl rfl (by kernel_rfl) (by kernel_rfl) (by kernel_rfl) (fun _ _ _ h => h) (by rfl) (fun W hW => by have u := RowAt.cell hW.1 (i := 0) rfl; clear hS hW; go_simp) hS ?_
    simp only [List.setIfInBounds_toArray, List.set_cons_succ, List.set_cons_zero]
    refine vtakeP 4 11 (.pointer (some ⟨w.heap.size, 1, none⟩)) rfl rfl (by kernel_rfl) (by kernel_rfl) (by kernel_rfl) (fun _ _ _ h => h) (by rfl) (fun W hW => by clear hS hW; go_simp) hS ?_
    simp only [List.setIfInBounds_toArray, List.set_cons_succ, List.set_cons_zero]
    refine vtakeP 5 12 (.int .i64 (p : Int)) rfl rfl (by kernel_rfl) (by kernel_rfl) (by kernel_rfl) (fun _ _ _ h => h) (by rfl) (fun W hW => by have u := RowAt.cell hW.1 (i := 1) rfl; clear hS hW; go_simp) hS ?_
    simp only [List.setIfInBounds_toArray, List.set_cons_succ, List.set_cons_zero]
    refine wpAnyH_ready (rs := [2]) (by kernel_rfl) (by simp) ?_
    refine AllReadyH.cons (o := _) rfl (fun K hK => ?_) AllReadyH.nil
    rw [if_pos (by rfl)]
    go_simp
    refine Calls.mono (HK.out _) ?_
    rintro e Y ⟨rfl, hbx⟩
    refine hK.out _ _ (⟨RowAt.below hS.1 hbx (RowAt.lt hS.1), hS.2.trans (hbx.mono hS.2.size)⟩) (fun hS1 => ?_)
    clear hK hS K
    have hS := hS1
    clear hS1
    refine vtakeP 3 10 (.int .i64 CE) rfl rfl (by kernel_rfl) (by kernel_rfl) (by kernel_rfl) (fun _ _ _ h => h) (by rfl) (fun W hW => by have u := hfd; clear hS hW; go_simp) hS ?_
    simp only [List.setIfInBounds_toArray, List.set_cons_succ, List.set_cons_zero]
    refine wpAnyH_ready (rs := [6]) (by kernel_rfl) (by simp) ?_
    refine AllReadyH.cons (o := _) rfl (fun K hK => ?_) AllReadyH.nil
    rw [if_pos (by rfl)]
    go_simp
    refine Calls.mono (HP.out _) ?_
    rintro e Y ⟨rfl, rfl⟩
    exact ⟨rfl, fun h => absurd (HS2.out.symm.trans h) HNE2.out, fun _ => by rw [HS2.out], hS.2⟩
end Go.Proofs.YtkohhdkkbaifoaaGreatDoor

/-
  What perm.Read reads is a permutation.
-/
namespace Go.Proofs.YtkohhdkkbaifoaaGreatDoor
open Go.RowKit PK

structure PInv (s : Rd) : Prop where
  perm : Pm.IsPerm s.p
  fix : ∀ i, i < 26 → s.st i = false → s.p i = i
  lst : 0 < s.long → s.last < 26 ∧ s.st s.last = true ∧ s.p s.last = s.first ∧ s.first < 26
theorem PInv.letter {s : Rd} (h : PInv s) {i : Nat} (hi : i < 26) (hs : s.st i = false) : PInv (s.letter i) := by
  have hf := h.fix i hi hs
  unfold Rd.letter
  by_cases hl : s.long = 0
  · simp only [hl, if_true]
    have hp : upd s.p i i = s.p := by
      funext j
      unfold upd
      by_cases e : j = i
      · rw [if_pos e, e, hf]
      · rw [if_neg e]
    refine ⟨?_, fun j hj hst => ?_, fun _ => ?_⟩
    · show Pm.IsPerm (upd s.p i i); rw [hp]; exact h.perm
    · show upd s.p i i j = j
      rw [hp]
      have hst' : upd s.st i true j = false := hst
      unfold upd at hst'
      by_cases e : j = i
      · rw [if_pos e] at hst'; cases hst'
      · rw [if_neg e] at hst'; exact h.fix j hj hst'
    · refine ⟨hi, ?_, ?_, hi⟩
      · show upd s.st i true i = true; unfold upd; rw [if_pos rfl]
      · show upd s.p i i i = i; unfold upd; rw [if_pos rfl]
  · simp only [if_neg hl]
    obtain ⟨h1, h2, h3, h4⟩ := h.lst (by omega)
    have hne : s.last ≠ i := fun e => by rw [e, hs] at h2; cases h2
    have hv : ∀ j, upd (upd s.p s.last i) i s.first j = if j = i then s.first else if j = s.last then i else s.p j := fun j => rfl
    refine ⟨⟨fun j hj => ?_, fun j k hj hk e => ?_⟩, fun j hj hst => ?_, fun _ => ?_⟩
    · show upd (upd s.p s.last i) i s.first j < 26
      rw [hv]
      by_cases e1 : j = i
      · rw [if_pos e1]; exact h4
      · rw [if_neg e1]
        by_cases e2 : j = s.last
        · rw [if_pos e2]; exact hi
        · rw [if_neg e2]; exact h.perm.lt j hj
    · have e' : upd (upd s.p s.last i) i s.first j = upd (upd s.p s.last i) i s.first k := e
      rw [hv, hv] at e'
      have inj := h.perm.inj
      by_cases a1 : j = i
      · by_cases b1 : k = i
        · omega
        · rw [if_pos a1, if_neg b1] at e'
          by_cases b2 : k = s.last
          · rw [if_pos b2] at e'
            have := inj s.last i h1 hi (by rw [h3, hf]; exact e')
            exact absurd this hne
          · rw [if_neg b2] at e'
            have := inj s.last k h1 hk (by rw [h3]; exact e')
            exact absurd this.symm b2
      · rw [if_neg a1] at e'
        by_cases b1 : k = i
        · rw [if_pos b1] at e'
          by_cases a2 : j = s.last
          · rw [if_pos a2] at e'
            have := inj s.last i h1 hi (by rw [h3, hf]; exact e'.symm)
            exact absurd this hne
          · rw [if_neg a2] at e'
            have := inj s.last j h1 hj (by rw [h3]; exact e'.symm)
            exact absurd this.symm a2
        · rw [if_neg b1] at e'
          by_cases a2 : j = s.last
          · by_cases b2 : k = s.last
            · omega
            · rw [if_pos a2, if_neg b2] at e'
              have := inj i k hi hk (by rw [hf]; exact e')
              exact absurd this.symm b1
          · rw [if_neg a2] at e'
            by_cases b2 : k = s.last
            · rw [if_pos b2] at e'
              have := inj j i hj hi (by rw [hf]; exact e')
              exact absurd this a1
            · rw [if_neg b2] at e'
              exact inj j k hj hk e'
    · show upd (upd s.p s.last i) i s.first j = j
      have hst' : upd s.st i true j = false := hst
      unfold upd at hst'
      by_cases e : j = i
      · rw [if_pos e] at hst'; cases hst'
      · rw [if_neg e] at hst'
        rw [hv, if_neg e, if_neg (fun e2 => by rw [e2, h2] at hst'; cases hst')]
        exact h.fix j hj hst'
    · refine ⟨hi, ?_, ?_, h4⟩
      · show upd s.st i true i = true; unfold upd; rw [if_pos rfl]
      · show upd (upd s.p s.last i) i s.first i = s.first; rw [hv, if_pos rfl]
theorem PInv.next {s : Rd} (h : PInv s) (c : Nat) : PInv (s.next c) := by
  unfold Rd.next
  by_cases h1 : s.op = false ∧ c = 40
  · rw [if_pos h1]; exact ⟨h.perm, h.fix, fun h => absurd h (Nat.lt_irrefl _)⟩
  · rw [if_neg h1]
    by_cases h2 : s.op = true ∧ 0 < s.long ∧ c = 41
    · rw [if_pos h2]; exact ⟨h.perm, h.fix, h.lst⟩
    · rw [if_neg h2]
      by_cases h3 : s.op = true ∧ 65 ≤ c ∧ c ≤ 90
      · rw [if_pos h3]
        unfold Rd.nextL
        by_cases h4 : s.st (c - 65) = true
        · rw [if_pos h4]; exact h
        · rw [if_neg h4]; exact h.letter (by omega) (by simpa using h4)
      · rw [if_neg h3]; exact h
theorem rdN_inv (t : List UInt8) : ∀ k, PInv (rdN t k)
  | 0 => ⟨⟨fun _ h => h, fun _ _ _ _ e => e⟩, fun _ _ _ => rfl, fun h => absurd h (Nat.lt_irrefl _)⟩
  | k + 1 => (rdN_inv t k).next _
/-- What is read is a permutation. -/
theorem read_perm {t : List UInt8} (h : (readOut t).2.1 = 0) : ∃ q, Pm.IsPerm q ∧ (readOut t).1 = Pm.up q := by
  unfold readOut at h ⊢
  cases hr : rdErr t t.length with
  | some x =>
    rw [hr] at h
    exfalso
    have : ∀ n, rdErr t n = some x → x.1 ≠ 0 := fun n => by
      induction n with
      | zero => intro h; cases h
      | succ n ih =>
        intro hx
        unfold rdErr at hx
        cases hn : rdErr t n with
        | some y => rw [hn] at hx; cases hx; exact ih hn
        | none =>
          rw [hn] at hx
          by_cases he : (rdN t n).err (t.getD n 0).toNat ≠ 0
          · simp only [if_pos he] at hx; cases hx; exact he
          · simp only [if_neg he] at hx; cases hx
    exact this _ hr h
  | none =>
    rw [hr] at h
    by_cases ho : (rdN t t.length).op = true
    · simp only [if_pos ho] at h; cases h
    · simp only [if_neg ho]; exact ⟨_, (rdN_inv t _).perm, rfl⟩
end Go.Proofs.YtkohhdkkbaifoaaGreatDoor

/-
  Laws of no program: '==' between two arrays of numbers.
-/
namespace Go.Proofs.YtkohhdkkbaifoaaGreatDoor.PK
open Go.RowKit
def eqI (n : Nat) (f g : Nat → Int) : Bool := (List.range n).all fun i => f i == g i
theorem eqI_iff (n : Nat) (f g : Nat → Int) : eqI n f g = true ↔ ∀ i, i < n → f i = g i := by simp [eqI]
theorem eqI_refl (n : Nat) (f : Nat → Int) : eqI n f f = true := (eqI_iff n f f).2 fun _ _ => rfl
theorem eqI_of {n : Nat} {f g : Nat → Int} (h : ∀ i, i < n → f i = g i) : eqI n f g = true := (eqI_iff n f g).2 h
theorem run_part_ints {P : Program} (w : World) (e : TypeId) (he : P.underlying e = some (.int .i64)) (n : Nat) (f : Nat → Int) (i : Nat) (hi : i < n) : (part e (ints n f) i).run P w = .ok (.int .i64 (f i)) w := by
  simp [part, isAgg, Sem.run_bind, run_underlying he, ints_get f hi]
theorem run_equalIn_ints {P : Program} (w : World) (d : Nat) (t e : TypeId) (n : Nat) (hu : P.underlying t = some (.array n e)) (he : P.underlying e = some (.int .i64)) (hs : (P.info? e).map (·.size) = some 1) (f g : Nat → Int) :
    (Op.equalIn (d + 2) t (.agg (ints n f)) (.agg (ints n g))).run P w = .ok (eqI n f g) w := by
  cases hq : P.info? e with
  | none => simp [hq] at hs
  | some i =>
    have h1 : i.size = 1 := by simpa [hq] using hs
    have hsz : ∀ W, (sizeOf e).run P W = .ok 1 W := fun W => by simp [sizeOf, typeInfo, hq, h1]
    rw [Op.equalIn]
    simp only [Sem.run_bind, run_underlying hu, Result.andThen_ok, hsz, Nat.mul_one, Std.Legacy.Range.forIn_eq_forIn_range', Std.Legacy.Range.size, Nat.sub_zero, Nat.add_sub_cancel, Nat.div_one]
    unfold eqI
    rw [List.range_eq_range']
    have hL : ∀ i ∈ List.range' 0 n, i < n := fun i hi => by simp at hi; omega
    revert hL
    generalize List.range' 0 n = L
    intro hL
    induction L with
    | nil => simp
    | cons s L ih =>
      have hs' : s < n := hL s (by simp)
      have ih' := ih fun i hi => hL i (by simp [hi])
      rw [List.forIn_cons]
      simp only [Sem.run_bind, run_part_ints w e he n f s hs', run_part_ints w e he n g s hs', Result.andThen_ok, run_equalIn_int w d e .i64 .i64 (f s) (g s) he, List.all_cons]
      cases hb : (f s == g s)
      · simp
      · simp only [Bool.not_true, Bool.false_eq_true, if_false, Sem.run_pure, Result.andThen_ok, Bool.true_and]
        exact ih'
end Go.Proofs.YtkohhdkkbaifoaaGreatDoor.PK
