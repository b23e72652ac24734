/-
  Several texts, joined: ScRd, ScAl, ScAt, FMath.
-/
import Derived.Test.YtkohhdkkbaifoaaGreatDoorJn30
import Derived.Test.YtkohhdkkbaifoaaGreatDoorScI
import Derived.Laws.FloatArith
/-
  script.Read.
-/
namespace Go.Proofs.YtkohhdkkbaifoaaGreatDoor
open Go.RowKit PK Vg

theorem Nw.setc {B E : Nat} {P : World → Prop} {W : World} (h : Nw B E P W) {g o : Nat} (hg : g < B) (v : Value) : Nw B E P (W.setCell ⟨g, o, none⟩ v) := h.keep fun b o2 x h1 _ h3 => by
  have := heap_setCell_other W ⟨g, o, none⟩ b v (by show b ≠ g; omega)
  simp only [World.cell?, this] at h3 ⊢
  exact h3
theorem ent_read1 (args : Array Value) (W : World) : (callFunc 55 args).run Tryz.prog W = .ok (.enter 55 args) W := by kernel_rfl
theorem glob17 {w : World} (hn : NmAt w) (he : ErAt w) : gRange < w.heap.size ∧ 1 < w.heap.size := by
  obtain ⟨ev, h1, _⟩ := he
  exact ⟨cell_block h1, cell_block (hn.kn 0 _ rfl)⟩
theorem RdAt_new (T : ByteArray) (X : World) : RdAt (X.alloc (.cells #[.string T, .int .i64 0] 83)) X.heap.size T 0 := RowAt.new X _ _
set_option maxRecDepth 100000 in
set_option maxHeartbeats 4000000 in
theorem read1_any (q : Nat) (T : ByteArray) (X : World) (hq : RowAt X q 9 #[.string T]) (hn : NmAt X) (he : ErAt X) : Calls Tryz.prog 55 #[.pointer (some ⟨q, 0, none⟩)] X fun e w' => Told (rRead T.data.toList) e (fun L _ v => Nw X.heap.size w'.heap.size (fun W => ChAt W v L.length (spD L)) w') ∧ Below X.heap.size X w' := by
  have htl := Pl.size_len T
  have c0 := RowAt.cell hq (i := 0) rfl
  unfold rRead
  by_cases hbig : 65536 < T.data.toList.length
  · rw [if_pos hbig]
    have HTH : Hid _ := throw_any 4 0 X
    have hb : (65536 : Int) < (T.size : Int) := by omega
    clear hq hn he htl hbig
    go_enter Tryz.func55, Tryz.ntmps55
    go_wp2_with fail
    refine Calls.mono HTH.out ?_
    rintro e V ⟨rfl, rfl⟩
    exact ⟨rfl, rfl, Below.refl _ _⟩
  · rw [if_neg hbig]
    have hgl := glob17 hn he
    have hal : Below X.heap.size X (X.alloc (.cells #[.string T, .int .i64 0] 83)) := (Below.refl _ X).alloc (Nat.le_refl _) _
    have hb : ¬ (65536 : Int) < (T.size : Int) := by omega
    have HCH : Hid _ := rchain17_any X.heap.size T _ (RdAt_new T X) (by omega) (hn.below hal) (he.below hal) hgl
    have HAL : Hid (Below X.heap.size X (X.alloc (.cells #[.string T, .int .i64 0] 83))) := hal
    clear hal hq hn he htl hbig hgl
    go_enter Tryz.func55, Tryz.ntmps55
    go_wp2_with fail
    refine Calls.mono HCH.out ?_
    rintro e V ⟨ht, hf⟩
    have HB : Hid (Below X.heap.size X V) := Fb.old HAL.out hf (Nat.le_refl _)
    rcases hRR : (rBind (rStep T.data.toList 0 0) fun s q => rMore T.data.toList 66 [s] q) with ⟨E, A⟩ | ⟨L, p⟩
    · rw [hRR] at ht
      obtain rfl : e = .panicked [flt E A] := ht
      exact ⟨rfl, by rw [hRR]; rfl, HB.out⟩
    · rw [hRR] at ht
      obtain ⟨v, rfl, hnw⟩ := ht
      obtain ⟨a, cap, R, rfl, -⟩ := hnw.here
      have HNW : Hid (Nw X.heap.size V.heap.size (fun W => ChAt W (.slice a L.length cap) L.length (spD L)) V) := hnw.mono (by rw [World.size_alloc]; omega) (Nat.le_refl _)
      have HRR : Hid _ := hRR
      clear hnw hf HCH HAL hRR
      go_wp2
      go_ret
      exact ⟨by rw [HRR.out]; exact ⟨_, rfl, HNW.out⟩, HB.out⟩
/-- What script.Read answers. -/
def Rdd (r : Rz (List Sp)) (e : Ending) (w' : World) : Prop := match r with
  | .ok (L, _) => ∃ v, e = .returned (.tuple #[v, fltV 0 0]) ∧ ChAt w' v L.length (spD L)
  | .error (E, A) => e = .returned (.tuple #[.slice none 0 0, fltV E A])
set_option maxRecDepth 100000 in
set_option maxHeartbeats 4000000 in
theorem read17_any (T : ByteArray) (w : World) (hn : NmAt w) (he : ErAt w) : Calls Tryz.prog 18 #[.string T] w fun e w' => Rdd (rRead T.data.toList) e w' ∧ Below w.heap.size w w' := by
  obtain ⟨W1, hW1⟩ : ∃ W1, W1 = (w.alloc (.cells #[.string T] 9)).alloc (.cells #[.int .i64 0, .int .i64 0] 35) := ⟨_, rfl⟩
  have hsz : W1.heap.size = w.heap.size + 2 := by rw [hW1]; simp
  have h1 : Below w.heap.size w W1 := by rw [hW1]; exact ((Below.refl _ w).alloc (Nat.le_refl _) _).alloc (by simp) _
  have hbx : RowAt W1 w.heap.size 9 #[.string T] := by rw [hW1]; exact (RowAt.new w _ _).alloc _
  have h5 : RowAt W1 (w.heap.size + 1) 35 #[.int .i64 0, .int .i64 0] := by
    rw [hW1]
    have := RowAt.new (w.alloc (.cells #[.string T] 9)) 35 #[.int .i64 0, .int .i64 0]
    simpa using this
  have hF : Below W1.heap.size W1 (fbox W1) := (Below.refl _ W1).alloc (Nat.le_refl _) _
  have hF2 : Below w.heap.size w (fbox W1) := h1.trans (hF.mono h1.size)
  have hFs : (fbox W1).heap.size = W1.heap.size + 1 := by simp [fbox]
  have HR := read1_any w.heap.size T (fbox W1) (RowAt.below hbx hF (RowAt.lt hbx)) (hn.below hF2) (he.below hF2)
  have hbxF : RowAt (fbox W1) W1.heap.size 35 #[.int .i64 0, .int .i64 0] := RowAt.new W1 _ _
  have HB1 : Hid (Below w.heap.size w W1) := h1
  have hmf := mkf
  rcases hRR : rRead T.data.toList with ⟨E, A⟩ | ⟨L, p⟩
  · rw [hRR] at HR
    have HED : Hid (Calls Tryz.prog 54 #[.func (.func 55) #[] #[.pointer (some ⟨w.heap.size, 0, none⟩)]] W1 fun e w' => e = .returned (.tuple #[.slice none 0 0, fltV E A]) ∧ Below W1.heap.size W1 w') := by
      refine Calls.mono (edgeL_bad 55 _ ent_read1 W1 W1.heap.size (Nat.le_refl _) E A (fun _ => True) (Calls.mono HR ?_)) ?_
      · rintro e w' ⟨rfl, hb⟩
        exact ⟨rfl, trivial, RowAt.below hbxF hb (RowAt.lt hbxF), hb.mono (by omega)⟩
      · rintro e w' ⟨rfl, _, hb⟩
        exact ⟨rfl, hb⟩
    have H5 : Hid _ := h5
    clear HR h1 hbx h5 hF hF2 hbxF hn he hRR
    go_enter Tryz.func18, Tryz.ntmps18
    go_upto_region 1 with fail
    rw [← hW1]
    clear hW1
    go_wp2_with fail
    refine Calls.mono HED.out ?_
    rintro e V ⟨rfl, hb⟩
    have hr := RowAt.below H5.out hb (RowAt.lt H5.out)
    have c0 := hr.cell (i := 0) rfl
    have c1 := hr.cell (i := 1) rfl
    have f0 := hr.frozen 0
    have f1 := hr.frozen 1
    have HR2 : Hid (RowAt ((V.setCell ⟨w.heap.size + 1, 0, none⟩ (.int .i64 E)).setCell ⟨w.heap.size + 1, 1, none⟩ (.int .i64 A)) (w.heap.size + 1) 35 #[.int .i64 E, .int .i64 A]) := (hr.set 0 _).set 1 _
    have HB2 : Hid (Below w.heap.size w ((V.setCell ⟨w.heap.size + 1, 0, none⟩ (.int .i64 E)).setCell ⟨w.heap.size + 1, 1, none⟩ (.int .i64 A))) := ((HB1.out.trans (hb.mono (by omega))).setCell (p := ⟨w.heap.size + 1, 0, none⟩) (by show _ ≤ _ + 1; omega) _).setCell (p := ⟨w.heap.size + 1, 1, none⟩) (by show _ ≤ _ + 1; omega) _
    clear hr hb hsz hFs
    unfold fltV
    go_wp2
    exact ⟨rfl, _, results_tmp_cell rfl _ _ (w.heap.size + 1) 35 #[.int .i64 E, .int .i64 A] (0, 0) _ _ rfl rfl HR2.out Tryz.underlying35 rfl f_info, by show _ = Ending.returned (.tuple #[.slice none 0 0, fltV E A]); rfl, HB2.out⟩
  · rw [hRR] at HR
    have HED : Hid (Calls Tryz.prog 54 #[.func (.func 55) #[] #[.pointer (some ⟨w.heap.size, 0, none⟩)]] W1 fun e w' => ∃ a cap, e = .returned (.tuple #[.slice a L.length cap, fltV 0 0]) ∧ Nw (W1.heap.size + 1) w'.heap.size (fun W => ChAt W (.slice a L.length cap) L.length (spD L)) w' ∧ Below W1.heap.size W1 w') := by
      refine Calls.mono (edgeL_ok 55 _ ent_read1 W1 W1.heap.size (Nat.le_refl _) (fun v w' => Nw (W1.heap.size + 1) w'.heap.size (fun W => ChAt W v L.length (spD L)) w') (Calls.mono HR ?_)) ?_
      · rintro e w' ⟨⟨v, rfl, hnw⟩, hb⟩
        refine ⟨v, rfl, ?_, hnw.mono (by omega) (Nat.le_refl _), RowAt.below hbxF hb (RowAt.lt hbxF), hb.mono (by omega)⟩
        obtain ⟨a, cap, R, rfl, -⟩ := hnw.here
        rfl
      · rintro e w' ⟨v, rfl, ⟨w1, hnw, rfl⟩, hb⟩
        obtain ⟨a, cap, R, rfl, -⟩ := hnw.here
        refine ⟨a, cap, rfl, ?_, hb⟩
        rw [World.size_setCell, World.size_setCell]
        exact (hnw.setc (by omega) _).setc (by omega) _
    have H5 : Hid _ := h5
    clear HR h1 hbx h5 hF hF2 hbxF hn he hRR
    go_enter Tryz.func18, Tryz.ntmps18
    go_upto_region 1 with fail
    rw [← hW1]
    clear hW1
    go_wp2_with fail
    refine Calls.mono HED.out ?_
    rintro e V ⟨a, cap, rfl, hnw, hb⟩
    have hr := RowAt.below H5.out hb (RowAt.lt H5.out)
    have c0 := hr.cell (i := 0) rfl
    have c1 := hr.cell (i := 1) rfl
    have f0 := hr.frozen 0
    have f1 := hr.frozen 1
    have HR2 : Hid (RowAt ((V.setCell ⟨w.heap.size + 1, 0, none⟩ (.int .i64 0)).setCell ⟨w.heap.size + 1, 1, none⟩ (.int .i64 0)) (w.heap.size + 1) 35 #[.int .i64 0, .int .i64 0]) := (hr.set 0 _).set 1 _
    have HB2 : Hid (Below w.heap.size w ((V.setCell ⟨w.heap.size + 1, 0, none⟩ (.int .i64 0)).setCell ⟨w.heap.size + 1, 1, none⟩ (.int .i64 0))) := ((HB1.out.trans (hb.mono (by omega))).setCell (p := ⟨w.heap.size + 1, 0, none⟩) (by show _ ≤ _ + 1; omega) _).setCell (p := ⟨w.heap.size + 1, 1, none⟩) (by show _ ≤ _ + 1; omega) _
    have HCA : Hid (ChAt ((V.setCell ⟨w.heap.size + 1, 0, none⟩ (.int .i64 0)).setCell ⟨w.heap.size + 1, 1, none⟩ (.int .i64 0)) (.slice a L.length cap) L.length (spD L)) := ((hnw.setc (by omega) _).setc (by omega) _).here
    clear hr hb hnw hsz hFs
    unfold fltV
    go_wp2
    exact ⟨rfl, _, results_tmp_cell rfl _ _ (w.heap.size + 1) 35 #[.int .i64 0, .int .i64 0] (0, 0) _ _ rfl rfl HR2.out Tryz.underlying35 rfl f_info, ⟨.slice a L.length cap, rfl, HCA.out⟩, HB2.out⟩
end Go.Proofs.YtkohhdkkbaifoaaGreatDoor

/-
  The closed facts that are asked first: alive.
-/
namespace Go.Proofs.YtkohhdkkbaifoaaGreatDoor
open Go.RowKit PK Vg

def spM (x : Nat) : Sp := { sp0 1 0 with n := (x : Int) }
def spR : Sp := { sp0 6 0 with g := gmOf [73] [66] [65] [65] (Pm.up fun i => i) }
set_option maxRecDepth 100000 in
theorem read_rotor : rRead [114, 111, 116, 111, 114, 32, 73, 32, 66, 32, 65, 32, 65, 32, 124, 32, 109, 111, 118, 101, 32, 48] = .ok ([spR, spM 0], 23) := by kernel_rfl
set_option maxRecDepth 100000 in
theorem st_spR : stE spR = 0 := by kernel_rfl
end Go.Proofs.YtkohhdkkbaifoaaGreatDoor

/-
  The closed fact that the statements through the layers ask first.
-/
namespace Go.Proofs.YtkohhdkkbaifoaaGreatDoor
open Go.RowKit PK Vg

theorem mvL_zero {l : List UInt8} (h : Ls l) : mvL 0 l = l := by
  unfold mvL
  conv => rhs; rw [← List.map_id l]
  refine List.map_congr_left fun c hc => ?_
  unfold mvC
  have := num_lt (h c hc)
  rw [Nat.add_zero, Nat.mod_eq_of_lt this, ltr_num (h c hc)]
  rfl
theorem run_aaa : rE 2 (spD [spR, spM 0]) [65, 65, 65] = 0 ∧ ∃ x y z, rS 2 (spD [spR, spM 0]) [65, 65, 65] = [x, y, z] ∧ x ≠ 65 := by
  have h : rE 2 (spD [spR, spM 0]) [65, 65, 65] = 0 := by kernel_rfl
  refine ⟨h, ?_⟩
  have hL : Ls [65, 65, 65] := fun c hc => by
    simp at hc
    subst hc
    decide
  have hok := (ok_maOf (st_rotor st_spR rfl)).1
  have h1 : rS 2 (spD [spR, spM 0]) [65, 65, 65] = Om.wr (maOf spR.g) (maOf spR.g).st [65, 65, 65] := by
    unfold rS
    rw [if_pos h]
    show one (spM 0) (one spR [65, 65, 65]) = _
    rw [one_6 (s := spR) rfl, one_1 (s := spM 0) rfl]
    exact mvL_zero (Om.wr_ls hok _ hL)
  have h2 := Om.wr_length (maOf spR.g) [65, 65, 65] (maOf spR.g).st
  have h3 := Om.wr_ne hok (maOf spR.g).st hL 0 (by decide)
  rw [h1]
  generalize Om.wr (maOf spR.g) (maOf spR.g).st [65, 65, 65] = S at *
  match S, h2, h3 with
  | [x, y, z], _, h3 => exact ⟨x, y, z, rfl, h3⟩
set_option maxRecDepth 100000 in
set_option maxHeartbeats 2000000 in
theorem alivetop_any (w : World) (hn : NmAt w) (he : ErAt w) : Calls Tryz.prog 21 #[] w fun e w' => e = .returned (.bool true) ∧ Below w.heap.size w w' := by
  have HR : Hid _ := read17_any ⟨#[114, 111, 116, 111, 114, 32, 73, 32, 66, 32, 65, 32, 65, 32, 124, 32, 109, 111, 118, 101, 32, 48]⟩ w hn he
  clear hn he
  obtain ⟨r1, x, y, z, r2, hx⟩ := run_aaa
  go_enter Tryz.func21, Tryz.ntmps21
  go_wp2_with fail
  refine Calls.mono HR.out ?_
  rintro e V ⟨hrd, hb⟩
  rw [read_rotor] at hrd
  obtain ⟨v, rfl, hch⟩ := hrd
  obtain ⟨a, cap, R, rfl, -⟩ := id hch
  obtain ⟨V2, hV2⟩ : ∃ V2, V2 = V.alloc (.cells #[.int .i64 0, .int .i64 0] 35) := ⟨_, rfl⟩
  have hb2 : Below V.heap.size V V2 := by rw [hV2]; exact (Below.refl _ V).alloc (Nat.le_refl _) _
  have hf2 : RowAt V2 V.heap.size 35 #[.int .i64 0, .int .i64 0] := by rw [hV2]; exact RowAt.new V _ _
  have HRN : Hid _ := run_any _ 2 (spD [spR, spM 0]) ⟨#[65, 65, 65]⟩ V2 (hch.below hb2)
  change Hid (Calls Tryz.prog 11 _ _ fun e w' => e = .returned (.tuple #[.string ⟨(rS 2 (spD [spR, spM 0]) [65, 65, 65]).toArray⟩, fltV (rE 2 (spD [spR, spM 0]) [65, 65, 65]) (rA 2 (spD [spR, spM 0]) [65, 65, 65])]) ∧ _) at HRN
  rw [r1, r2] at HRN
  generalize rA 2 (spD [spR, spM 0]) [65, 65, 65] = RA at HRN
  have HB2 : Hid (Below w.heap.size w V2) := hb.trans (hb2.mono hb.size)
  have HF2 : Hid _ := hf2
  have HVS : Hid (w.heap.size ≤ V.heap.size) := hb.size
  have c0 := RowAt.cell hf2 (i := 0) rfl
  have hx2 : ((x.toNat : Int) == 65) = false := beq_false_of_ne (fun e => hx (by apply UInt8.toNat_inj.1; show x.toNat = 65; omega))
  clear HR hb hb2 hch hf2 r1 r2 hx
  unfold fltV
  go_upto_region 2 with fail
  rw [← hV2]
  clear hV2
  go_wp2_with fail
  refine Calls.mono HRN.out ?_
  rintro e V3 ⟨rfl, hb⟩
  have hf3 := RowAt.below HF2.out hb (RowAt.lt HF2.out)
  have c3 := RowAt.cell hf3 (i := 0) rfl
  have c4 := RowAt.cell hf3 (i := 1) rfl
  have f3 := RowAt.frozen hf3 0
  have f4 := RowAt.frozen hf3 1
  have HB3 : Hid (Below w.heap.size w ((V3.setCell ⟨V.heap.size, 0, none⟩ (.int .i64 0)).setCell ⟨V.heap.size, 1, none⟩ (.int .i64 (RA : Int)))) := ((HB2.out.trans (hb.mono HB2.out.size)).setCell (p := ⟨V.heap.size, 0, none⟩) HVS.out _).setCell (p := ⟨V.heap.size, 1, none⟩) HVS.out _
  clear hf3 hb HRN c0 HF2 HB2
  unfold fltV
  go_wp2
  go_ret
  refine ⟨?_, HB3.out⟩
  show Ending.returned (.bool ((x.toNat : Int) != 65)) = _
  rw [show ((x.toNat : Int) != 65) = true by simp only [bne, hx2, Bool.not_false]]
end Go.Proofs.YtkohhdkkbaifoaaGreatDoor

/-
  Floats of 64 bits: what is needed of them to know that sums of squares over positive numbers are never invalid, and that they can be held against each other.
-/
namespace Go.Proofs.YtkohhdkkbaifoaaGreatDoor.Fl
open Ieee

abbrev D : Format := Ieee.double
/-- A finite number; not below zero and no NaN; above zero and finite; no NaN. -/
def Num (x : Nat) : Prop := ∃ s m i, D.read x = .number s m i
def NN (x : Nat) : Prop := (∃ m i, D.read x = .number false m i) ∨ D.read x = .infinity false
def Ok (x : Nat) : Prop := Num x ∨ ∃ s, D.read x = .infinity s
theorem shl (a k : Nat) : a <<< k = a * 2 ^ k := Nat.shiftLeft_eq a k
/-- Two numbers that aren't below zero, held against each other. -/
theorem signed_pos (m k : Nat) : Ieee.signed false m k = ((m * 2 ^ k : Nat) : Int) := by unfold Ieee.signed; rw [if_neg (by decide), shl]
theorem order_num {m n : Nat} {i j : Int} (B : Int) (hi : B ≤ i) (hj : B ≤ j) : (Datum.number false m i).order (.number false n j) = some (compare ((m * 2 ^ (i - B).toNat : Nat) : Int) ((n * 2 ^ (j - B).toNat : Nat) : Int)) := by
  unfold Datum.order
  simp only [signed_pos]
  obtain ⟨K, hK⟩ : ∃ K : Nat, K = (min i j - B).toNat := ⟨_, rfl⟩
  have e1 : (i - B).toNat = (i - min i j).toNat + K := by omega
  have e2 : (j - B).toNat = (j - min i j).toNat + K := by omega
  rw [e1, e2, Nat.pow_add, Nat.pow_add, ← Nat.mul_assoc, ← Nat.mul_assoc]
  have hp := Nat.two_pow_pos K
  congr 1
  generalize m * 2 ^ (i - min i j).toNat = a
  generalize n * 2 ^ (j - min i j).toNat = b
  rw [Int.compare_eq_ite_lt, Int.compare_eq_ite_lt]
  have h1 : ((a * 2 ^ K : Nat) : Int) < ((b * 2 ^ K : Nat) : Int) ↔ (a : Int) < (b : Int) := by
    rw [Int.ofNat_lt, Int.ofNat_lt]
    exact Nat.mul_lt_mul_right hp
  have h2 : ((b * 2 ^ K : Nat) : Int) < ((a * 2 ^ K : Nat) : Int) ↔ (b : Int) < (a : Int) := by
    rw [Int.ofNat_lt, Int.ofNat_lt]
    exact Nat.mul_lt_mul_right hp
  simp only [h1, h2]
theorem mul_comm (x y : Nat) : D.mul x y = D.mul y x := by
  unfold Format.mul
  congr 1
  cases D.read x <;> cases D.read y <;> simp [Datum.product, Nat.mul_comm, Int.add_comm, Bool.xor_comm]
/-- At most as great. -/
def Le (x y : Nat) : Prop := D.order x y = some .lt ∨ D.order x y = some .eq
instance (x y : Nat) : Decidable (Le x y) := by unfold Le; infer_instance
theorem le_num {x y m n : Nat} {i j : Int} (hx : D.read x = .number false m i) (hy : D.read y = .number false n j) (B : Int) (hi : B ≤ i) (hj : B ≤ j) : Le x y ↔ m * 2 ^ (i - B).toNat ≤ n * 2 ^ (j - B).toNat := by
  unfold Le Format.order
  rw [hx, hy, order_num B hi hj]
  constructor
  · rintro (h | h)
    · have := Int.compare_eq_lt.1 (Option.some.inj h); omega
    · have := Int.compare_eq_eq.1 (Option.some.inj h); omega
  · intro h
    rcases Nat.lt_or_ge (m * 2 ^ (i - B).toNat) (n * 2 ^ (j - B).toNat) with h1 | h1
    · exact .inl (congrArg some (Int.compare_eq_lt.2 (by omega)))
    · exact .inr (congrArg some (Int.compare_eq_eq.2 (by omega)))
theorem le_top {x y : Nat} (hx : NN x) (hy : D.read y = .infinity false) : Le x y := by
  unfold Le Format.order
  rw [hy]
  rcases hx with ⟨m, i, e⟩ | e
  · rw [e]; exact .inl rfl
  · rw [e]; exact .inr rfl
theorem top_le {x y m : Nat} {i : Int} (hx : D.read x = .infinity false) (hy : D.read y = .number false m i) : ¬ Le x y := by
  unfold Le Format.order
  rw [hx, hy]
  simp [Datum.order]
theorem le_total {x y : Nat} (hx : NN x) (hy : NN y) : Le x y ∨ Le y x := by
  rcases hx with ⟨m, i, e⟩ | e
  · rcases hy with ⟨n, j, f⟩ | f
    · rw [le_num e f (min i j) (by omega) (by omega), le_num f e (min i j) (by omega) (by omega)]
      omega
    · exact .inl (le_top (.inl ⟨_, _, e⟩) f)
  · exact .inr (le_top hy e)
theorem le_refl {x : Nat} (hx : NN x) : Le x x := (le_total hx hx).elim id id
theorem le_trans {x y z : Nat} (hx : NN x) (hy : NN y) (hz : NN z) (h1 : Le x y) (h2 : Le y z) : Le x z := by
  rcases hz with ⟨p, k, g⟩ | g
  · rcases hy with ⟨n, j, f⟩ | f
    · rcases hx with ⟨m, i, e⟩ | e
      · obtain ⟨B, hB⟩ : ∃ B, B = min i (min j k) := ⟨_, rfl⟩
        rw [le_num e f B (by omega) (by omega)] at h1
        rw [le_num f g B (by omega) (by omega)] at h2
        rw [le_num e g B (by omega) (by omega)]
        omega
      · exact absurd h1 (top_le e f)
    · exact absurd h2 (top_le f g)
  · exact le_top hx g
theorem le_antisymm {x y : Nat} (hx : NN x) (hy : NN y) (h1 : Le x y) (h2 : Le y x) : D.order x y = some .eq := by
  rcases hx with ⟨m, i, e⟩ | e
  · rcases hy with ⟨n, j, f⟩ | f
    · rw [le_num e f (min i j) (by omega) (by omega)] at h1
      rw [le_num f e (min i j) (by omega) (by omega)] at h2
      unfold Format.order
      rw [e, f, order_num (min i j) (by omega) (by omega)]
      exact congrArg some (Int.compare_eq_eq.2 (by omega))
    · exact absurd h2 (top_le f e)
  · rcases hy with ⟨n, j, f⟩ | f
    · exact absurd h1 (top_le e f)
    · unfold Format.order; rw [e, f]; rfl
end Go.Proofs.YtkohhdkkbaifoaaGreatDoor.Fl
