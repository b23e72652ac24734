/-
  Several texts, joined: KThen, ScS.
-/
import Derived.Test.YtkohhdkkbaifoaaGreatDoorJn20
import Derived.Deep.QuietTactic
import Derived.BigQuiet
import Derived.Test.YtkohhdkkbaifoaaGreatDoorJn23
import Derived.Test.YtkohhdkkbaifoaaGreatDoorJn25
import Derived.Test.YtkohhdkkbaifoaaGreatDoorPRead
/-
  Contracts of perm.Then and perm.Conjugate.
-/
namespace Go.Proofs.YtkohhdkkbaifoaaGreatDoor
open Go.RowKit PK

def pair (f g : Nat → Int) : Nat → Nat → Int := fun k => if k = 0 then f else g
theorem pair_ok (p q : Nat → Nat) (hp : Pm.IsPerm p) (hq : Pm.IsPerm q) : Pm.firstBad (pair (Pm.up p) (Pm.up q)) 2 = 0 := by
  have h1 := Pm.firstBad_succ (pair (Pm.up p) (Pm.up q)) 0 rfl
  have h2 : Pm.firstBad (pair (Pm.up p) (Pm.up q)) 1 = 0 := h1.trans (Pm.wrong_up p hp)
  exact (Pm.firstBad_succ _ 1 h2).trans (Pm.wrong_up q hq)
set_option maxHeartbeats 2000000 in
theorem then1_any (p q : Nat → Nat) (i : Nat) (hi : i < 26) (hp : Pm.IsPerm p) (bp bq : Nat) (w : World) (hrp : RowAt w bp 27 (ints 26 (Pm.up p))) (hrq : RowAt w bq 27 (ints 26 (Pm.up q))) :
    Calls Tryz.prog 253 #[.int .i64 (i : Int), .pointer (some ⟨bq, 0, none⟩), .pointer (some ⟨bp, 0, none⟩)] w fun e w' => e = .returned (.tuple #[.int .i64 (i : Int), .int .i64 (q (p i) : Nat)]) ∧ Below w.heap.size w w' := by
  have hpi := hp.lt i hi
  have hc1 := hrp.cell (ints_get (Pm.up p) hi)
  have hc2 := hrq.cell (ints_get (Pm.up q) hpi)
  simp only [Pm.up] at hc1 hc2
  clear hrp hrq
  generalize p i = n at *
  go_enter Tryz.func253, Tryz.ntmps253
  go_wp2
  go_quiet (fail)
  go_wp2
  go_ret2
  exact ⟨rfl, rfl, rfl, rfl, Nat.le_refl _, fun _ _ => rfl⟩
set_option maxHeartbeats 2000000 in
theorem then_ok (p q : Nat → Nat) (hp : Pm.IsPerm p) (hq : Pm.IsPerm q) (w : World) :
    Calls Tryz.prog 232 #[.agg (ints 26 (Pm.up p)), .agg (ints 26 (Pm.up q))] w fun e w' => e = .returned (.tuple #[.agg (ints 26 (Pm.up (fun i => q (p i)))), .int .i64 0]) ∧ Below w.heap.size w w' := by
  have H0 : Hid (Pm.firstBad (pair (Pm.up p) (Pm.up q)) 2 = 0) := pair_ok p q hp hq
  have hmf : ∀ (fn : Fn) (first cap : Array Value) (w : World), (Instr.makeFunc fn first cap).run Tryz.prog w = .ok (.func fn first cap) w := fun _ _ _ _ => rfl
  go_enter Tryz.func232, Tryz.ntmps232
  go_wp2_with (first
    | refine wpList_load_row rfl 27 _ rfl w.heap.size rfl 27 (ints 26 (Pm.up p)) (0, 0) _ (((RowAt.new w _ _).alloc _).alloc _) Tryz.underlying27 rfl (by rw [ints_size]; exact info_perm) ?_
    | refine wpList_load_row rfl 27 _ rfl (w.heap.size + 1) rfl 27 (ints 26 (Pm.up q)) (0, 0) _ (by rw [← World.size_alloc w]; exact (RowAt.new _ _ _).alloc _) Tryz.underlying27 rfl (by rw [ints_size]; exact info_perm) ?_
    | refine wpList_build2 rfl 200 27 _ _ rfl 26 (Pm.up p) (Pm.up q) rfl rfl (by decide) Tryz.underlying200 zero_perm (by decide) ?_)
  rw [zero26]
  refine (firstWrong_any (pair (Pm.up p) (Pm.up q)) 2 (Nat.le_refl _) _ _ (by simp) (range_two (RowAt.newAt (by simp)))).mono ?_
  rintro e W1 ⟨rfl, hb0⟩
  obtain ⟨r1, r2, r3, hb1, hs1⟩ := after2 hb0
  clear hb0
  rw [H0.out]
  go_wp2_with fail
  refine (taking_any 253 #[.pointer (some ⟨w.heap.size + 1, 0, none⟩), .pointer (some ⟨w.heap.size, 0, none⟩)] (fun i => i) (Pm.up fun i => q (p i)) (fun _ h => h) _ (by intro args W; go_simp) (fun i hi W hW => then1_any p q i hi hp _ _ W (r1.below hW (by omega)) (r2.below hW (by omega)))).mono ?_
  rintro e W2 ⟨rfl, hb2⟩
  rw [fill_id]
  have hs2 := hb2.size
  have hrow := r3.below hb2 (by omega)
  go_wp2_with (refine wpList_store_row rfl 27 _ _ rfl (w.heap.size + 1 + 1) (ints 26 (Pm.up (fun i => q (p i)))) rfl rfl 27 _ hrow (by rw [ints_size]; exact info_perm) (by simp only [ints_size]) (ints_one _ _) ?_)
  exact bodyPost_ret (v := .tuple #[.agg (ints 26 (Pm.up (fun i => q (p i)))), .int .i64 0]) (results_cell_tmp2 rfl _ _ (w.heap.size + 1 + 1) 27 _ (0, 0) _ _ rfl rfl (hrow.row _) Tryz.underlying27 rfl (by rw [ints_size]; exact info_perm)) rfl ⟨rfl, Below.setRow (hb1.trans (hb2.mono (by omega))) _ (by omega) _⟩
end Go.Proofs.YtkohhdkkbaifoaaGreatDoor

/-
  What a word tells: a key, a reflector, rings or starts, plugs.
-/
namespace Go.Proofs.YtkohhdkkbaifoaaGreatDoor
open Go.RowKit PK Vg

set_option maxRecDepth 100000 in
set_option maxHeartbeats 1000000 in
theorem wkeyW_any (l : List UInt8) (p : Nat) (hs : l.length ≤ 65536) (w : World) :
    Calls Tryz.prog 162 #[wdV l p] w fun e w' => (keyE l = 0 → e = .returned (.string ⟨l.toArray⟩)) ∧ (keyE l ≠ 0 → e = .panicked [flt (keyE l) p]) ∧ Below w.heap.size w w' := by
  obtain ⟨s, hsd⟩ : ∃ s : ByteArray, s = ⟨l.toArray⟩ := ⟨_, rfl⟩
  have hsl : s.data.toList = l := by rw [hsd]
  have hz := Pl.size_len s
  rw [hsl] at hz
  unfold wdV
  rw [← hsd]
  have hb1 : Below w.heap.size w (w.alloc (.cells #[.string s, .int .i64 (p : Int)] 137)) := (Below.refl _ w).alloc (Nat.le_refl _) _
  have hq1 := RowAt.new w 137 #[.string s, .int .i64 (p : Int)]
  have c0 := RowAt.cell hq1 (i := 0) rfl
  have c1 := RowAt.cell hq1 (i := 1) rfl
  have HB : Hid _ := hb1
  have HQ : Hid (RowAt (w.alloc (.cells #[.string s, .int .i64 (p : Int)] 137)) w.heap.size 137 #[.string s, .int .i64 (p : Int)]) := hq1
  have HK : Hid (∀ X, Calls Tryz.prog 28 #[.string s] X fun e w' => e = .returned (.int .i64 (keyE l)) ∧ Below X.heap.size X w') := fun X => by rw [← hsl]; exact wkey_any s X
  generalize keyE l = E at *
  have hss : s.size ≤ 65536 := by omega
  clear hz hsl hsd hb1 hq1 c0 c1
  go_enter Tryz.func162, Tryz.ntmps162
  go_wp2_with fail
  by_cases hE : E = 0
  · have HE0 : Hid (E = 0) := hE
    have HP : Hid (∀ X, Calls Tryz.prog 37 #[.int .i64 E, .int .i64 (p : Int)] X fun e w' => e = .returned (.tuple #[]) ∧ w' = X) := fun X => by rw [hE]; exact pass_ok _ X
    clear hE
    refine wp_region_noPanic ?_
    refine wp_region_held_drew (S := fun W => RowAt W w.heap.size 137 #[.string s, .int .i64 (p : Int)] ∧ Below w.heap.size w W) (by kernel_rfl) ⟨HQ.out, HB.out.drew⟩ (fun hS => ?_)
    refine vtake 0 3 (.pointer (some ⟨w.heap.size, 0, none⟩)) rfl rfl (by kernel_rfl) (by kernel_rfl) (by kernel_rfl) (fun _ _ _ _ h => h) (by rfl) (fun W hW => by clear hS hW; go_simp) hS ?_
    simp only [List.setIfInBounds_toArray, List.set_cons_succ, List.set_cons_zero]
    refine vtake 1 4 (.string s) rfl rfl (by kernel_rfl) (by kernel_rfl) (by kernel_rfl) (fun _ _ _ _ h => h) (by rfl) (fun W hW => by have u := RowAt.cell hW.1 (i := 0) rfl; clear hS hW; go_simp) hS ?_
    simp only [List.setIfInBounds_toArray, List.set_cons_succ, List.set_cons_zero]
    refine vtake 3 6 (.pointer (some ⟨w.heap.size, 1, none⟩)) rfl rfl (by kernel_rfl) (by kernel_rfl) (by kernel_rfl) (fun _ _ _ _ h => h) (by rfl) (fun W hW => by clear hS hW; go_simp) hS ?_
    simp only [List.setIfInBounds_toArray, List.set_cons_succ, List.set_cons_zero]
    refine vtake 4 7 (.int .i64 (p : Int)) rfl rfl (by kernel_rfl) (by kernel_rfl) (by kernel_rfl) (fun _ _ _ _ h => h) (by rfl) (fun W hW => by have u := RowAt.cell hW.1 (i := 1) rfl; clear hS hW; go_simp) hS ?_
    simp only [List.setIfInBounds_toArray, List.set_cons_succ, List.set_cons_zero]
    refine wpAnyH_ready (rs := [2]) (by kernel_rfl) (by simp) ?_
    refine AllReadyH.cons (o := _) rfl (fun K hK => ?_) AllReadyH.nil
    rw [if_pos (by rfl)]
    go_simp
    refine Calls.mono (HK.out _) ?_
    rintro e Y ⟨rfl, hbx⟩
    refine hK.out _ _ (⟨RowAt.below hS.1 hbx (RowAt.lt hS.1), hS.2.trans (hbx.mono hS.2.size)⟩) (fun hS1 => ?_)
    clear hK hS K
    have hS := hS1
    clear hS1
    refine wpAnyH_ready (rs := [5]) (by kernel_rfl) (by simp) ?_
    refine AllReadyH.cons (o := _) rfl (fun K hK => ?_) AllReadyH.nil
    rw [if_pos (by rfl)]
    go_simp
    refine Calls.mono (HP.out _) ?_
    rintro e Y ⟨rfl, rfl⟩
    refine hK.out _ _ (hS) (fun hS1 => ?_)
    clear hK hS K
    have hS := hS1
    clear hS1
    refine wpAnyH_done (by kernel_rfl) ?_ _
    refine NoPanic.normal ?_
    have HY : Hid (Below w.heap.size w Y) := hS.2
    have u0 := RowAt.cell hS.1 (i := 0) rfl
    have HC : Hid _ := clone_any s hss Y
    clear hS
    go_wp2_with fail
    refine Calls.mono HC.out ?_
    rintro e V ⟨rfl, hb⟩
    go_wp2
    go_ret
    exact ⟨fun _ => rfl, fun h => absurd HE0.out h, HY.out.trans (hb.mono HY.out.size)⟩
  · have HNE2 : Hid (E ≠ 0) := hE
    have HP : Hid (∀ X, Calls Tryz.prog 37 #[.int .i64 E, .int .i64 (p : Int)] X fun e w' => e = .panicked [flt E (p : Int)] ∧ w' = X) := fun X => pass_bad E _ (by simpa using hE) X
    clear hE
    refine wp_region_held_drew (S := fun W => RowAt W w.heap.size 137 #[.string s, .int .i64 (p : Int)] ∧ Below w.heap.size w W) (by kernel_rfl) ⟨HQ.out, HB.out.drew⟩ (fun hS => ?_)
    refine vtakeP 0 3 (.pointer (some ⟨w.heap.size, 0, none⟩)) rfl rfl (by kernel_rfl) (by kernel_rfl) (by kernel_rfl) (fun _ _ _ h => h) (by rfl) (fun W hW => by clear hS hW; go_simp) hS ?_
    simp only [List.setIfInBounds_toArray, List.set_cons_succ, List.set_cons_zero]
    refine vtakeP 1 4 (.string s) rfl rfl (by kernel_rfl) (by kernel_rfl) (by kernel_rfl) (fun _ _ _ h => h) (by rfl) (fun W hW => by have u := RowAt.cell hW.1 (i := 0) rfl; clear hS hW; go_simp) hS ?_
    simp only [List.setIfInBounds_toArray, List.set_cons_succ, List.set_cons_zero]
    refine vtakeP 3 6 (.pointer (some ⟨w.heap.size, 1, none⟩)) rfl rfl (by kernel_rfl) (by kernel_rfl) (by kernel_rfl) (fun _ _ _ h => h) (by rfl) (fun W hW => by clear hS hW; go_simp) hS ?_
    simp only [List.setIfInBounds_toArray, List.set_cons_succ, List.set_cons_zero]
    refine vtakeP 4 7 (.int .i64 (p : Int)) rfl rfl (by kernel_rfl) (by kernel_rfl) (by kernel_rfl) (fun _ _ _ h => h) (by rfl) (fun W hW => by have u := RowAt.cell hW.1 (i := 1) rfl; clear hS hW; go_simp) hS ?_
    simp only [List.setIfInBounds_toArray, List.set_cons_succ, List.set_cons_zero]
    refine wpAnyH_ready (rs := [2]) (by kernel_rfl) (by simp) ?_
    refine AllReadyH.cons (o := _) rfl (fun K hK => ?_) AllReadyH.nil
    rw [if_pos (by rfl)]
    go_simp
    refine Calls.mono (HK.out _) ?_
    rintro e Y ⟨rfl, hbx⟩
    refine hK.out _ _ (⟨RowAt.below hS.1 hbx (RowAt.lt hS.1), hS.2.trans (hbx.mono hS.2.size)⟩) (fun hS1 => ?_)
    clear hK hS K
    have hS := hS1
    clear hS1
    refine wpAnyH_ready (rs := [5]) (by kernel_rfl) (by simp) ?_
    refine AllReadyH.cons (o := _) rfl (fun K hK => ?_) AllReadyH.nil
    rw [if_pos (by rfl)]
    go_simp
    refine Calls.mono (HP.out _) ?_
    rintro e Y ⟨rfl, rfl⟩
    exact ⟨rfl, fun h => absurd h HNE2.out, fun _ => rfl, hS.2⟩
set_option maxRecDepth 100000 in
set_option maxHeartbeats 1000000 in
theorem wmir_any (l : List UInt8) (p : Nat) (w : World) :
    Calls Tryz.prog 200 #[wdV l p] w fun e w' => (miE l = 0 → e = .returned (.agg (ints 26 (miP l)))) ∧ (miE l ≠ 0 → e = .panicked [flt (miE l) p]) ∧ Below w.heap.size w w' := by
  obtain ⟨s, hsd⟩ : ∃ s : ByteArray, s = ⟨l.toArray⟩ := ⟨_, rfl⟩
  have hsl : s.data.toList = l := by rw [hsd]
  have hz := Pl.size_len s
  rw [hsl] at hz
  unfold wdV
  rw [← hsd]
  have hb1 : Below w.heap.size w (w.alloc (.cells #[.string s, .int .i64 (p : Int)] 137)) := (Below.refl _ w).alloc (Nat.le_refl _) _
  have hq1 := RowAt.new w 137 #[.string s, .int .i64 (p : Int)]
  have c0 := RowAt.cell hq1 (i := 0) rfl
  have c1 := RowAt.cell hq1 (i := 1) rfl
  have HB : Hid _ := hb1
  have HQ : Hid (RowAt (w.alloc (.cells #[.string s, .int .i64 (p : Int)] 137)) w.heap.size 137 #[.string s, .int .i64 (p : Int)]) := hq1
  obtain ⟨W2, hW2⟩ : ∃ W2, W2 = (w.alloc (.cells #[.string s, .int .i64 (p : Int)] 137)).alloc (.cells (ints 26 fun _ => 0) 27) := ⟨_, rfl⟩
  have hb2 : Below w.heap.size w W2 := by rw [hW2]; exact HB.out.alloc HB.out.size _
  have hq2 : RowAt W2 w.heap.size 137 #[.string s, .int .i64 (p : Int)] := by rw [hW2]; exact RowAt.alloc hq1 _
  have hr2 : RowAt W2 (w.heap.size + 1) 27 (ints 26 fun _ => 0) := by rw [hW2]; have := RowAt.new (w.alloc (.cells #[.string s, .int .i64 (p : Int)] 137)) 27 (ints 26 fun _ => 0); simpa using this
  have HM : Hid (Calls Tryz.prog 193 #[.string s] W2 fun e w' => e = .returned (.tuple #[.agg (ints 26 (miP l)), .int .i64 (miE l)]) ∧ Below W2.heap.size W2 w') := by rw [← hsl]; exact mirror_any s W2
  have u0 := RowAt.cell hq2 (i := 0) rfl
  have HQ2 : Hid (RowAt W2 w.heap.size 137 #[.string s, .int .i64 (p : Int)]) := hq2
  have HR2 : Hid (RowAt W2 (w.heap.size + 1) 27 (ints 26 fun _ => 0)) := hr2
  have HB2 : Hid _ := hb2
  have hz26 := o_zero v_zero_perm
  clear hz hsl hsd hb1 hq1 c0 c1 hb2 hq2 hr2
  generalize miE l = E at *
  generalize miP l = MP at *
  go_enter Tryz.func200, Tryz.ntmps200
  go_upto_region 1 with fail
  rw [← hW2]
  clear hW2
  go_wp2_with fail
  refine Calls.mono HM.out ?_
  rintro e V ⟨rfl, hb⟩
  have hqV := RowAt.below HQ2.out hb (RowAt.lt HQ2.out)
  have hrV := RowAt.below HR2.out hb (RowAt.lt HR2.out)
  have HBV : Hid (Below w.heap.size w V) := HB2.out.trans (hb.mono HB2.out.size)
  have hbig : w.heap.size + 1 < V.heap.size := RowAt.lt hrV
  clear hb HM u0
  go_upto_region 2 with (first | refine wpList_store_row rfl 27 _ _ rfl V.heap.size (ints 26 MP) rfl rfl 27 _ (RowAt.new V _ _) (by rw [ints_size]; exact info_perm) (by rw [ints_size, ints_size]) (ints_one _ _) ?_)
  obtain ⟨W3, hW3⟩ : ∃ W3, W3 = (V.alloc (.cells (ints 26 fun _ => 0) 27)).setRow V.heap.size (ints 26 MP) := ⟨_, rfl⟩
  have hq3 : RowAt W3 w.heap.size 137 #[.string s, .int .i64 (p : Int)] := by rw [hW3]; exact RowAt.rowOther (RowAt.alloc hqV _) _ _ (by omega)
  have hr3 : RowAt W3 (w.heap.size + 1) 27 (ints 26 fun _ => 0) := by rw [hW3]; exact RowAt.rowOther (RowAt.alloc hrV _) _ _ (by omega)
  have hm3 : RowAt W3 V.heap.size 27 (ints 26 MP) := by rw [hW3]; exact RowAt.row (RowAt.new V _ _) _
  have HB3 : Hid (Below w.heap.size w W3) := by rw [Hid, hW3]; exact PK.Below.setRow (HBV.out.alloc HBV.out.size _) _ HBV.out.size _
  rw [← hW3]
  have u1 := RowAt.cell hq3 (i := 1) rfl
  clear hW3 hqV hrV hz26
  by_cases hE : E = 0
  · have HE0 : Hid (E = 0) := hE
    have HP : Hid (Calls Tryz.prog 37 #[.int .i64 E, .int .i64 (p : Int)] W3 fun e w' => e = .returned (.tuple #[]) ∧ w' = W3) := by rw [hE]; exact pass_ok _ W3
    clear hE
    go_wp2_with fail
    refine Calls.mono HP.out ?_
    rintro e V2 ⟨rfl, rfl⟩
    have HR4 : Hid (RowAt (V2.setRow (w.heap.size + 1) (ints 26 MP)) (w.heap.size + 1) 27 (ints 26 MP)) := RowAt.row hr3 _
    have HB4 : Hid (Below w.heap.size w (V2.setRow (w.heap.size + 1) (ints 26 MP))) := PK.Below.setRow HB3.out _ (by omega) _
    go_wp2_with (first | refine wpList_load_row rfl 27 _ rfl V.heap.size rfl 27 (ints 26 MP) (0, 0) _ hm3 Tryz.underlying27 rfl (by rw [ints_size]; exact info_perm) ?_ | refine wpList_store_row rfl 27 _ _ rfl (w.heap.size + 1) (ints 26 MP) rfl rfl 27 _ hr3 (by rw [ints_size]; exact info_perm) (by rw [ints_size, ints_size]) (ints_one _ _) ?_)
    exact ⟨rfl, _, results_c1 rfl _ _ (w.heap.size + 1) 27 (ints 26 MP) (0, 0) _ rfl HR4.out Tryz.underlying27 rfl (by rw [ints_size]; exact info_perm), fun _ => rfl, fun h => absurd HE0.out h, HB4.out⟩
  · have HNE2 : Hid (E ≠ 0) := hE
    have HP : Hid (Calls Tryz.prog 37 #[.int .i64 E, .int .i64 (p : Int)] W3 fun e w' => e = .panicked [flt E (p : Int)] ∧ w' = W3) := pass_bad E _ (by simpa using hE) W3
    clear hE
    go_wp2_with fail
    refine Calls.mono HP.out ?_
    rintro e V2 ⟨rfl, rfl⟩
    exact ⟨rfl, fun h => absurd h HNE2.out, fun _ => rfl, HB3.out⟩
end Go.Proofs.YtkohhdkkbaifoaaGreatDoor
