/-
  Several texts, joined: ScQ, ScR, LdA.
-/
import Derived.Test.YtkohhdkkbaifoaaGreatDoorScP
import Derived.Test.YtkohhdkkbaifoaaGreatDoorScI
import Derived.Shelf.Strconv.AtoiAll
import Derived.Test.YtkohhdkkbaifoaaGreatDoorRows
import Derived.Stop.LaidErr
import Derived.LaidLaws
import Derived.Lay
import Derived.LaidMore
import Derived.MakeChecks
import Derived.LaidHandle
/-
  Numbers in words: isNumber, strconv.Atoi, (word).number.
-/
namespace Go.Proofs.YtkohhdkkbaifoaaGreatDoor
open Go.Shelf Go.RowKit PK Vg

/-- The number that digits spell. -/
def valA : Nat → List UInt8 → Nat
  | acc, [] => acc
  | acc, c :: r => valA (acc * 10 + (c.toNat - 48)) r
def dig (c : UInt8) : Bool := decide (48 ≤ c.toNat ∧ c.toNat ≤ 57)
def isNum (l : List UInt8) : Bool := l.all dig && (l.head? != some 48 || l == [48])
theorem valA_ge : ∀ (l : List UInt8) (acc : Nat), acc ≤ valA acc l
  | [], acc => Nat.le_refl _
  | c :: r, acc => by unfold valA; exact Nat.le_trans (by omega) (valA_ge r _)
theorem parse_val : ∀ (l : List UInt8) (acc : Nat), acc < 18446744073709551616 → l.all dig = true → Lib.parseUint10 acc l = if valA acc l < 18446744073709551616 then .ok (valA acc l) else .range
  | [], acc, h, _ => by unfold Lib.parseUint10 valA; rw [if_pos h]
  | c :: r, acc, h, hd => by
    rw [List.all_cons, Bool.and_eq_true] at hd
    have hc : 48 ≤ c.toNat ∧ c.toNat ≤ 57 := by simpa [dig] using hd.1
    unfold Lib.parseUint10 valA
    rw [if_pos hc]
    have hge := valA_ge r (acc * 10 + (c.toNat - 48))
    by_cases h1 : 1844674407370955162 ≤ acc
    · rw [if_pos h1, if_neg (by omega)]
    · rw [if_neg h1]
      by_cases h2 : 18446744073709551616 ≤ acc * 10 + (c.toNat - 48)
      · rw [if_pos h2, if_neg (by omega)]
      · rw [if_neg h2]
        exact parse_val r _ (by omega) hd.2
theorem atoi_val {l : List UInt8} (h0 : l ≠ []) (hd : l.all dig = true) : Lib.atoiAll l = if valA 0 l < 9223372036854775808 then .ok ((valA 0 l : Nat) : Int) else .range := by
  cases l with
  | nil => exact absurd rfl h0
  | cons c r =>
    have hd1 := hd
    rw [List.all_cons, Bool.and_eq_true] at hd1
    have hc : 48 ≤ c.toNat ∧ c.toNat ≤ 57 := by simpa [dig] using hd1.1
    unfold Lib.atoiAll
    simp only
    rw [if_neg (by omega)]
    unfold Lib.parseMag
    rw [if_neg h0, parse_val (c :: r) 0 (by omega) hd]
    have hn : ¬ c.toNat = 45 := by omega
    by_cases h1 : valA 0 (c :: r) < 9223372036854775808
    · rw [if_pos (by omega), if_pos h1]
      simp only
      rw [if_neg (by omega), if_neg (fun h => hn h.1), if_neg hn]
    · rw [if_neg h1]
      by_cases h2 : valA 0 (c :: r) < 18446744073709551616
      · rw [if_pos h2]
        simp only
        rw [if_pos ⟨hn, by omega⟩]
      · rw [if_neg h2]
/-- What is wrong with a number in words. -/
def numE (l : List UInt8) (lo hi : Int) : Int := if isNum l = false then 2 else inE (valA 0 l : Nat) lo hi
shelf_lay LaysC.n172 Nm 172 at Tryz as Tryz.laysAtoi
theorem fAtoi : Tryz.laysAtoi_ren.f 172 = 198 := by kernel_rfl
def gRange : Nat := Tryz.laysAtoi_ren.g 16
/-- The variable ErrRange is there. -/
def ErAt (w : World) : Prop := ∃ ev, w.cell? ⟨gRange, 0, none⟩ = some ev ∧ (ev = .nilIface ∨ ∃ te pe, ev = .iface te pe)
theorem ErAt.below {w w' : World} (h : ErAt w) (hb : Below w.heap.size w w') : ErAt w' := by
  obtain ⟨ev, h1, h2⟩ := h
  exact ⟨ev, (hb.cell (p := ⟨gRange, 0, none⟩) (World.block_lt_of_cell? _ _ h1)).trans h1, h2⟩
theorem atoi_any (s : ByteArray) (hs : s.size ≤ 65536) (w : World) (he : ErAt w) (h0 : s.data.toList ≠ []) (hd : s.data.toList.all dig = true) :
    Calls Tryz.prog 198 #[.string s] w fun e w' => (valA 0 s.data.toList < 9223372036854775808 → e = .returned (.tuple #[.int .i64 ((valA 0 s.data.toList : Nat) : Int), .nilIface])) ∧ (¬ valA 0 s.data.toList < 9223372036854775808 → ∃ x te pe, e = .returned (.tuple #[.int .i64 x, .iface te pe])) ∧ Below w.heap.size w w' := by
  by_cases h : valA 0 s.data.toList < 9223372036854775808
  · have := Any.strconv_Atoi_ok Tryz.laysAtoi s (by omega) _ (by rw [atoi_val h0 hd, if_pos h]) w
    rw [fAtoi] at this
    refine this.mono ?_
    rintro e w' ⟨rfl, hw⟩
    refine ⟨fun _ => rfl, fun h2 => absurd h h2, ?_⟩
    rcases hw with rfl | ⟨t, rfl⟩
    · exact Below.refl _ _
    · exact Lib.bytesWorld_below _ _ _
  · obtain ⟨ev, h1, h2⟩ := he
    have := Any.strconv_Atoi_range Tryz.laysAtoi s (by omega) (by rw [atoi_val h0 hd, if_neg h]) ev w h1 h2
    rw [fAtoi] at this
    refine this.mono ?_
    rintro e w' ⟨N, rfl, _, _, hb⟩
    exact ⟨fun h2 => absurd h2 h, fun _ => ⟨_, _, _, rfl⟩, hb⟩
theorem at_list (s : ByteArray) (m : Nat) (h : m < s.size) : ∃ h2 : m < s.data.toList.length, s.data.toList[m] = s[m] := ⟨by rw [← Pl.size_len s]; exact h, rfl⟩
set_option maxRecDepth 100000 in
set_option maxHeartbeats 1000000 in
theorem isnum_any (s : ByteArray) (h0 : 0 < s.size) (hs : s.size ≤ 65536) (w : World) : Calls Tryz.prog 197 #[.string s] w fun e w' => e = .returned (.bool (isNum s.data.toList)) ∧ w' = w := by
  obtain ⟨R, hR⟩ : ∃ R, R = isNum s.data.toList := ⟨_, rfl⟩
  rw [← hR]
  have HR : Hid (R = isNum s.data.toList) := hR
  have hl := Pl.size_len s
  have HL : Hid (s.size = s.data.toList.length) := hl
  clear hR hl
  go_enter Tryz.func197, Tryz.ntmps197
  go_wp2
  go_loopw [6] (fun i W => ∃ m : Nat, m ≤ s.size ∧ i = .int .i64 m ∧ Hid (∀ j, (h : j < m) → (h2 : j < s.size) → dig s[j] = true) ∧ W = w) (fun i _ => ((s.size : Int) - intOf i).toNat)
  case atStart => exact ⟨0, by omega, rfl, fun j hj => by omega, rfl⟩
  case round =>
    obtain ⟨m, hm, rfl, HJ, rfl⟩ := hrel
    by_cases hlt : m < s.size
    · have HLT : Hid (m < s.size) := hlt
      have HX : Hid (dig s[m] = false → R = false) := fun h => by
        obtain ⟨h2, e⟩ := at_list s m hlt
        rw [HR.out]
        unfold isNum
        have : s.data.toList.all dig = false := by
          rw [List.all_eq_false]
          exact ⟨s.data.toList[m], List.getElem_mem _, by rw [(congrArg dig e).trans h]; decide⟩
        rw [this]
        rfl
      have HY : Hid (dig s[m] = true → ∀ j, (h : j < m + 1) → (h2 : j < s.size) → dig s[j] = true) := fun h j hj h2 => by
        by_cases e : j = m
        · subst e; exact h
        · exact HJ.out j (by omega) h2
      have HD : Hid (dig s[m] = decide (48 ≤ s[m].toNat ∧ s[m].toNat ≤ 57)) := rfl
      by_cases h1 : s[m].toNat < 48
      · have HF : Hid (R = false) := HX.out (by rw [HD.out]; simp; omega)
        have h1' : (s[m].toNat : Int) < 48 := by omega
        go_wp2
        go_ret
        exact ⟨by rw [HF.out]; rfl, rfl⟩
      · have h1' : ¬ (s[m].toNat : Int) < 48 := by omega
        by_cases h2 : 57 < s[m].toNat
        · have HF : Hid (R = false) := HX.out (by rw [HD.out]; simp; omega)
          have h2' : 57 < (s[m].toNat : Int) := by omega
          go_wp2
          go_ret
          exact ⟨by rw [HF.out]; rfl, rfl⟩
        · have HN : Hid _ := HY.out (by rw [HD.out]; simp; omega)
          have h2' : ¬ 57 < (s[m].toNat : Int) := by omega
          clear HX HY HD HJ
          go_wp2_with fail
          go_roundw
          case rel => exact ⟨m + 1, HLT.out, by go_num, HN, by first | rfl | trivial⟩
          case measure => have := HLT.out; simp [intOf] <;> omega
    · obtain rfl : m = s.size := by omega
      have HALL : Hid (s.data.toList.all dig = true) := by
        rw [Hid, List.all_eq_true]
        intro x hx
        obtain ⟨i, hi, rfl⟩ := List.mem_iff_getElem.1 hx
        have h2 : i < s.size := by rw [HL.out]; exact hi
        exact HJ.out i h2 h2
      have HRR : Hid (R = (s[0] != 48 || s.data.toList == [48])) := by
        rw [Hid, HR.out]
        unfold isNum
        rw [HALL.out, Bool.true_and]
        obtain ⟨h2, e⟩ := at_list s 0 h0
        cases hls : s.data.toList with
        | nil => rw [hls] at h2; simp at h2
        | cons x xs =>
          have : x = s[0] := by rw [← e]; simp [hls]
          rw [this]
          by_cases hx : s[0] = 48
          · simp [hx]
          · have h1 : (s[0] != 48) = true := by simpa using hx
            have h2 : (List.head? (s[0] :: xs) != some 48) = true := by simpa using hx
            rw [h1, h2]
      by_cases hz : s[0] = 48
      · have hz2 : (s[0].toNat : Int) = 48 := by rw [hz]; rfl
        have HF : Hid (R = (s.toList == [48])) := by
          rw [Hid, HRR.out, ba_toList, hz]
          rfl
        go_wp2
        go_ret
        exact ⟨by rw [HF.out]; rfl, rfl⟩
      · have HF : Hid (R = true) := by
          have h1 : (s[0] != 48) = true := by simpa using hz
          rw [Hid, HRR.out, h1]
          rfl
        have hz2 : ¬ (s[0].toNat : Int) = 48 := fun h => hz (UInt8.toNat.inj (show s[0].toNat = UInt8.toNat 48 from (by omega : s[0].toNat = 48)))
        have hz4 : ((s[0].toNat : Int) != 48) = true := by simpa using hz2
        go_wp2
        go_ret
        exact ⟨by rw [HF.out]; rfl, rfl⟩
set_option maxRecDepth 100000 in
set_option maxHeartbeats 1000000 in
theorem wnum_any (l : List UInt8) (p : Nat) (lo hi : Int) (hhi : hi ≤ 1000) (h0 : l ≠ []) (hs : l.length ≤ 65536) (w : World) (he : ErAt w) :
    Calls Tryz.prog 161 #[wdV l p, .int .i64 lo, .int .i64 hi] w fun e w' => (numE l lo hi = 0 → e = .returned (.int .i64 ((valA 0 l : Nat) : Int))) ∧ (numE l lo hi ≠ 0 → e = .panicked [flt (numE l lo hi) p]) ∧ Below w.heap.size w w' := by
  obtain ⟨s, hsd⟩ : ∃ s : ByteArray, s = ⟨l.toArray⟩ := ⟨_, rfl⟩
  have hsl : s.data.toList = l := by rw [hsd]
  have hz := Pl.size_len s
  rw [hsl] at hz
  have hz0 : 0 < s.size := by rw [hz]; exact List.length_pos_iff.2 h0
  unfold wdV
  rw [← hsd]
  have hb1 : Below w.heap.size w (w.alloc (.cells #[.string s, .int .i64 (p : Int)] 137)) := (Below.refl _ w).alloc (Nat.le_refl _) _
  have hq1 := RowAt.new w 137 #[.string s, .int .i64 (p : Int)]
  have c0 := RowAt.cell hq1 (i := 0) rfl
  have c1 := RowAt.cell hq1 (i := 1) rfl
  have HIN : Hid _ := isnum_any s hz0 (by omega) (w.alloc (.cells #[.string s, .int .i64 (p : Int)] 137))
  rw [hsl] at HIN
  have HB : Hid _ := hb1
  have HQ : Hid (RowAt (w.alloc (.cells #[.string s, .int .i64 (p : Int)] 137)) w.heap.size 137 #[.string s, .int .i64 (p : Int)]) := hq1
  have HNE : Hid (numE l lo hi = if isNum l = false then 2 else inE (valA 0 l : Nat) lo hi) := rfl
  generalize numE l lo hi = E at *
  by_cases hn : isNum l = true
  · have hdig : l.all dig = true := by unfold isNum at hn; rw [Bool.and_eq_true] at hn; exact hn.1
    have HA := atoi_any s (by omega) (w.alloc (.cells #[.string s, .int .i64 (p : Int)] 137)) (he.below hb1) (by rw [hsl]; exact h0) (by rw [hsl]; exact hdig)
    rw [hsl] at HA
    have HE2 : Hid (E = inE (valA 0 l : Nat) lo hi) := by rw [Hid, HNE.out, hn]; rfl
    rw [hn] at HIN
    generalize valA 0 l = v at *
    by_cases hv : v < 9223372036854775808
    · have HA2 : Hid (Calls Tryz.prog 198 #[.string s] (w.alloc (.cells #[.string s, .int .i64 (p : Int)] 137)) fun e w' => e = .returned (.tuple #[.int .i64 ((v : Nat) : Int), .nilIface]) ∧ Below (w.alloc (.cells #[.string s, .int .i64 (p : Int)] 137)).heap.size (w.alloc (.cells #[.string s, .int .i64 (p : Int)] 137)) w') := Calls.mono HA (fun e w' h => ⟨h.1 hv, h.2.2⟩)
      clear HA hn hdig hz hz0 hsl hsd hb1 hq1 HNE he
      go_enter Tryz.func161, Tryz.ntmps161
      go_wp2_with fail
      refine Calls.mono HIN.out ?_
      rintro e V ⟨rfl, rfl⟩
      go_wp2_with fail
      refine Calls.mono HA2.out ?_
      rintro e V ⟨rfl, hb⟩
      have hqV := RowAt.below HQ.out hb (RowAt.lt HQ.out)
      have u1 := RowAt.cell hqV (i := 1) rfl
      have HBV : Hid (Below w.heap.size w V) := HB.out.trans (hb.mono HB.out.size)
      have hb0 := hb
      clear hb hqV c0 c1 HIN HA2
      have HQV : Hid (RowAt V w.heap.size 137 #[.string s, .int .i64 (p : Int)]) := RowAt.below HQ.out hb0 (RowAt.lt HQ.out)
      have HO : Hid (∀ X, Calls Tryz.prog 27 #[.int .i64 (v : Int), .int .i64 lo, .int .i64 hi] X fun e w' => e = .returned (.int .i64 (inE (v : Nat) lo hi)) ∧ w' = X) := fun X => out_any _ _ _ X
      rw [← HE2.out] at HO
      clear hb0
      go_wp2_with fail
      by_cases hE : E = 0
      · have HE0 : Hid (E = 0) := hE
        have HP : Hid (∀ X, Calls Tryz.prog 37 #[.int .i64 E, .int .i64 (p : Int)] X fun e w' => e = .returned (.tuple #[]) ∧ w' = X) := fun X => by rw [hE]; exact pass_ok _ X
        clear hE
        refine wp_region_noPanic ?_
        refine wp_region_held_drew (S := fun W => RowAt W w.heap.size 137 #[.string s, .int .i64 (p : Int)] ∧ Below V.heap.size V W) (by kernel_rfl) ⟨HQV.out, (Below.refl _ _).drew⟩ (fun hS => ?_)
        refine vtake 0 27 (.int .i64 (v : Int)) rfl rfl (by kernel_rfl) (by kernel_rfl) (by kernel_rfl) (fun _ _ _ _ h => h) (by rfl) (fun W hW => by clear hS hW; go_simp) hS ?_
        simp only [List.setIfInBounds_toArray, List.set_cons_succ, List.set_cons_zero]
        refine vtake 1 28 (.int .i64 lo) rfl rfl (by kernel_rfl) (by kernel_rfl) (by kernel_rfl) (fun _ _ _ _ h => h) (by rfl) (fun W hW => by clear hS hW; go_simp) hS ?_
        simp only [List.setIfInBounds_toArray, List.set_cons_succ, List.set_cons_zero]
        refine vtake 2 29 (.int .i64 hi) rfl rfl (by kernel_rfl) (by kernel_rfl) (by kernel_rfl) (fun _ _ _ _ h => h) (by rfl) (fun W hW => by clear hS hW; go_simp) hS ?_
        simp only [List.setIfInBounds_toArray, List.set_cons_succ, List.set_cons_zero]
        refine vtake 4 31 (.pointer (some ⟨w.heap.size, 1, none⟩)) rfl rfl (by kernel_rfl) (by kernel_rfl) (by kernel_rfl) (fun _ _ _ _ h => h) (by rfl) (fun W hW => by clear hS hW; go_simp) hS ?_
        simp only [List.setIfInBounds_toArray, List.set_cons_succ, List.set_cons_zero]
        refine vtake 5 32 (.int .i64 (p : Int)) rfl rfl (by kernel_rfl) (by kernel_rfl) (by kernel_rfl) (fun _ _ _ _ h => h) (by rfl) (fun W hW => by have u := RowAt.cell hW.1 (i := 1) rfl; clear hS hW; go_simp) hS ?_
        simp only [List.setIfInBounds_toArray, List.set_cons_succ, List.set_cons_zero]
        refine wpAnyH_ready (rs := [3]) (by kernel_rfl) (by simp) ?_
        refine AllReadyH.cons (o := _) rfl (fun K hK => ?_) AllReadyH.nil
        rw [if_pos (by rfl)]
        go_simp
        refine Calls.mono (HO.out _) ?_
        rintro e Y ⟨rfl, rfl⟩
        refine hK.out _ _ (hS) (fun hS1 => ?_)
        clear hK hS K
        have hS := hS1
        clear hS1
        refine wpAnyH_ready (rs := [6]) (by kernel_rfl) (by simp) ?_
        refine AllReadyH.cons (o := _) rfl (fun K hK => ?_) AllReadyH.nil
        rw [if_pos (by rfl)]
        go_simp
        refine Calls.mono (HP.out _) ?_
        rintro e Y ⟨rfl, rfl⟩
        refine hK.out _ _ (hS) (fun hS1 => ?_)
        clear hK hS K
        have hS := hS1
        clear hS1
        refine wpAnyH_done (by kernel_rfl) ?_ _
        refine NoPanic.normal ?_
        have HBY : Hid _ := HBV.out.trans (hS.2.mono HBV.out.size)
        clear hS
        go_wp2
        go_ret
        exact ⟨fun _ => rfl, fun h => absurd HE0.out h, HBY.out⟩
      · have HNE2 : Hid (E ≠ 0) := hE
        have HP : Hid (∀ X, Calls Tryz.prog 37 #[.int .i64 E, .int .i64 (p : Int)] X fun e w' => e = .panicked [flt E (p : Int)] ∧ w' = X) := fun X => pass_bad E _ (by simpa using hE) X
        clear hE
        refine wp_region_held_drew (S := fun W => RowAt W w.heap.size 137 #[.string s, .int .i64 (p : Int)] ∧ Below V.heap.size V W) (by kernel_rfl) ⟨HQV.out, (Below.refl _ _).drew⟩ (fun hS => ?_)
        refine vtakeP 0 27 (.int .i64 (v : Int)) rfl rfl (by kernel_rfl) (by kernel_rfl) (by kernel_rfl) (fun _ _ _ h => h) (by rfl) (fun W hW => by clear hS hW; go_simp) hS ?_
        simp only [List.setIfInBounds_toArray, List.set_cons_succ, List.set_cons_zero]
        refine vtakeP 1 28 (.int .i64 lo) rfl rfl (by kernel_rfl) (by kernel_rfl) (by kernel_rfl) (fun _ _ _ h => h) (by rfl) (fun W hW => by clear hS hW; go_simp) hS ?_
        simp only [List.setIfInBounds_toArray, List.set_cons_succ, List.set_cons_zero]
        refine vtakeP 2 29 (.int .i64 hi) rfl rfl (by kernel_rfl) (by kernel_rfl) (by kernel_rfl) (fun _ _ _ h => h) (by rfl) (fun W hW => by clear hS hW; go_simp) hS ?_
        simp only [List.setIfInBounds_toArray, List.set_cons_succ, List.set_cons_zero]
        refine vtakeP 4 31 (.pointer (some ⟨w.heap.size, 1, none⟩)) rfl rfl (by kernel_rfl) (by kernel_rfl) (by kernel_rfl) (fun _ _ _ h => h) (by rfl) (fun W hW => by clear hS hW; go_simp) hS ?_
        simp only [List.setIfInBounds_toArray, List.set_cons_succ, List.set_cons_zero]
        refine vtakeP 5 32 (.int .i64 (p : Int)) rfl rfl (by kernel_rfl) (by kernel_rfl) (by kernel_rfl) (fun _ _ _ h => h) (by rfl) (fun W hW => by have u := RowAt.cell hW.1 (i := 1) rfl; clear hS hW; go_simp) hS ?_
        simp only [List.setIfInBounds_toArray, List.set_cons_succ, List.set_cons_zero]
        refine wpAnyH_ready (rs := [3]) (by kernel_rfl) (by simp) ?_
        refine AllReadyH.cons (o := _) rfl (fun K hK => ?_) AllReadyH.nil
        rw [if_pos (by rfl)]
        go_simp
        refine Calls.mono (HO.out _) ?_
        rintro e Y ⟨rfl, rfl⟩
        refine hK.out _ _ (hS) (fun hS1 => ?_)
        clear hK hS K
        have hS := hS1
        clear hS1
        refine wpAnyH_ready (rs := [6]) (by kernel_rfl) (by simp) ?_
        refine AllReadyH.cons (o := _) rfl (fun K hK => ?_) AllReadyH.nil
        rw [if_pos (by rfl)]
        go_simp
        refine Calls.mono (HP.out _) ?_
        rintro e Y ⟨rfl, rfl⟩
        exact ⟨rfl, fun h => absurd h HNE2.out, fun _ => rfl, HBV.out.trans (hS.2.mono HBV.out.size)⟩
    · have HA2 : Hid (Calls Tryz.prog 198 #[.string s] (w.alloc (.cells #[.string s, .int .i64 (p : Int)] 137)) fun e w' => (∃ x te pe, e = .returned (.tuple #[.int .i64 x, .iface te pe])) ∧ Below (w.alloc (.cells #[.string s, .int .i64 (p : Int)] 137)).heap.size (w.alloc (.cells #[.string s, .int .i64 (p : Int)] 137)) w') := Calls.mono HA (fun e w' h => ⟨h.2.1 hv, h.2.2⟩)
      have HE3 : Hid (E = 3) := by rw [Hid, HE2.out]; unfold inE; rw [if_pos (.inr (by omega))]
      clear HA hn hdig hz hz0 hsl hsd hb1 hq1 HNE he hv
      go_enter Tryz.func161, Tryz.ntmps161
      go_wp2_with fail
      refine Calls.mono HIN.out ?_
      rintro e V ⟨rfl, rfl⟩
      go_wp2_with fail
      refine Calls.mono HA2.out ?_
      rintro e V ⟨⟨x, te, pe, rfl⟩, hb⟩
      have hqV := RowAt.below HQ.out hb (RowAt.lt HQ.out)
      have u1 := RowAt.cell hqV (i := 1) rfl
      have HBV : Hid (Below w.heap.size w V) := HB.out.trans (hb.mono HB.out.size)
      have HT : Hid _ := throw_any 3 p V
      clear hb hqV c0 c1 HIN HA2
      go_wp2_with fail
      refine Calls.mono HT.out ?_
      rintro e V2 ⟨rfl, rfl⟩
      exact ⟨rfl, fun h => absurd (HE3.out.symm.trans h) (by decide), fun _ => by rw [HE3.out], HBV.out⟩
  · have HE3 : Hid (E = 2) := by rw [Hid, HNE.out, if_pos (by simpa using hn)]
    have hnf : isNum l = false := by simpa using hn
    rw [hnf] at HIN
    have HT : Hid _ := throw_any 2 p (w.alloc (.cells #[.string s, .int .i64 (p : Int)] 137))
    clear hn hnf hz hz0 hsl hsd hb1 hq1 HNE he
    go_enter Tryz.func161, Tryz.ntmps161
    go_wp2_with fail
    refine Calls.mono HIN.out ?_
    rintro e V ⟨rfl, rfl⟩
    go_wp2_with fail
    refine Calls.mono HT.out ?_
    rintro e V2 ⟨rfl, rfl⟩
    exact ⟨rfl, fun h => absurd (HE3.out.symm.trans h) (by decide), fun _ => by rw [HE3.out], HB.out⟩
end Go.Proofs.YtkohhdkkbaifoaaGreatDoor

/-
  Names of steps: script.named.
-/
namespace Go.Proofs.YtkohhdkkbaifoaaGreatDoor
open Go.RowKit PK Vg

theorem run_index_strs {P : Program} (t e : TypeId) (n : Nat) (hu : P.underlying t = some (.array n e)) (he : P.underlying e = some .string) (hs : (P.info? e).map (·.size) = some 1) (f : Nat → ByteArray) (k : Nat) (hk : k < n) (w : World) :
    (Instr.index t (.agg (tab n fun i => .string (f i))) (.int .i64 (k : Int))).run P w = .ok (.string (f k)) w := by
  cases hq : P.info? e with
  | none => simp [hq] at hs
  | some i =>
    have h1 : i.size = 1 := by simpa [hq] using hs
    have h2 : ((k : Int) < (n : Int)) := by omega
    simp [Instr.index, asIntOf, Sem.run_bind, run_underlying hu, part, isAgg, run_underlying he, sizeOf, typeInfo, hq, h1, hk, tab_get (fun i => Value.string (f i)) hk]
theorem str_info : (Tryz.prog.info? 9).map (·.size) = some 1 := by kernel_rfl
/-- The names of the steps by their kinds; of the tableaux. -/
def nmN : Nat → ByteArray
  | 1 => ⟨#[109, 111, 118, 101]⟩
  | 3 => ⟨#[114, 97, 105, 108]⟩
  | 4 => ⟨#[99, 111, 108, 117, 109, 110, 115]⟩
  | 5 => ⟨#[104, 105, 108, 108]⟩
  | 6 => ⟨#[114, 111, 116, 111, 114]⟩
  | _ => ⟨#[]⟩
def tbN : Nat → ByteArray
  | 1 => ⟨#[118, 105, 103, 101, 110, 101, 114, 101]⟩
  | 2 => ⟨#[98, 101, 97, 117, 102, 111, 114, 116]⟩
  | 3 => ⟨#[118, 97, 114, 105, 97, 110, 116]⟩
  | 4 => ⟨#[97, 117, 116, 111, 107, 101, 121]⟩
  | _ => ⟨#[]⟩
def nmA : Array Value := tab 7 fun i => .string (nmN i)
def tbA : Array Value := tab 5 fun i => .string (tbN i)
/-- The two tables lie there. -/
structure NmAt (w : World) : Prop where
  kn : w.rangeAt 1 0 nmA.toList
  tb : w.rangeAt 0 0 tbA.toList
theorem NmAt.below {w w' : World} (h : NmAt w) (hb : Below w.heap.size w w') : NmAt w' := ⟨rangeAt_below h.kn hb, rangeAt_below h.tb hb⟩
/-- The first of n names that is this one. -/
def fstN (f : Nat → ByteArray) (s : ByteArray) : Nat → Option Nat
  | 0 => none
  | m + 1 => match fstN f s m with
    | some i => some i
    | none => if f m = s then some m else none
theorem fstN_none {f : Nat → ByteArray} {s : ByteArray} : ∀ {m : Nat}, (∀ j, j < m → f j ≠ s) → fstN f s m = none
  | 0, _ => rfl
  | m + 1, h => by unfold fstN; rw [fstN_none (fun j hj => h j (by omega))]; simp only [if_neg (h m (by omega))]
theorem fstN_of {f : Nat → ByteArray} {s : ByteArray} {k : Nat} (h0 : ∀ j, j < k → f j ≠ s) (h : f k = s) : ∀ {m : Nat}, k < m → fstN f s m = some k
  | 0, hk => by omega
  | m + 1, hk => by
    unfold fstN
    by_cases e : k = m
    · subst e; rw [fstN_none h0]; simp only [if_pos h]
    · rw [fstN_of h0 h (m := m) (by omega)]
/-- What a word names: a kind, and the tableau's. -/
def nmK (s : ByteArray) : Option (Nat × Nat) := match fstN nmN s 7 with
  | some k => some (k, 0)
  | none => (fstN tbN s 5).map fun n => (2, n)
/-- A step of a kind, as far as its name tells. -/
def stA (k n : Nat) : Array Value := spA k n ⟨#[]⟩ (.slice none 0 0) (.slice none 0 0) (.slice none 0 0) (.slice none 0 0) (fun _ => 0) (fun _ => 0)
theorem stA_size (k n : Nat) : (stA k n).size = 59 := spA_size _ _ _ _ _ _ _ _ _
theorem stA_one (k n : Nat) : (stA k n).all (·.oneCell') = true := spA_one rfl rfl rfl rfl
theorem built_k (k : Int) : Tryz.prog.built 31 [(0, .int .i64 k)] = some (spA k 0 ⟨#[]⟩ (.slice none 0 0) (.slice none 0 0) (.slice none 0 0) (.slice none 0 0) (fun _ => 0) (fun _ => 0)) := by kernel_rfl
theorem built_kn (k n : Int) : Tryz.prog.built 31 [(0, .int .i64 k), (1, .int .i64 n)] = some (spA k n ⟨#[]⟩ (.slice none 0 0) (.slice none 0 0) (.slice none 0 0) (.slice none 0 0) (fun _ => 0) (fun _ => 0)) := by kernel_rfl
theorem built_0 : Tryz.prog.built 31 [] = some (spA 0 0 ⟨#[]⟩ (.slice none 0 0) (.slice none 0 0) (.slice none 0 0) (.slice none 0 0) (fun _ => 0) (fun _ => 0)) := by kernel_rfl
theorem wpList_bA {P : Program} {ops : Array Oper} {rest : List Oper} {op : Oper} {a : Act} {w : World} {Q : Exit → Act → World → Prop} (hgd : op.guard = none) (t : TypeId) (xs : List (Nat × Operand)) (ho : op.op = .build t xs.toArray) (vs : List (Nat × Value)) (hv : xs.map (fun x => (x.1, a.eval x.2)) = vs)
    (cells : Array Value) (hb : P.built t vs = some cells) (h : wpList P ops Q rest (a.put op.dst (.agg cells)) w) : wpList P ops Q (op :: rest) a w := by
  refine wpList_build hgd t xs.toArray ho ?_ ?_
  · simp only [List.map_toArray]
    rw [show (List.map (fun x : Nat × Operand => (x.1, a.eval x.2)) xs) = vs from hv]
    simp [hb]
  · simp only [List.map_toArray]
    rw [show (List.map (fun x : Nat × Operand => (x.1, a.eval x.2)) xs) = vs from hv]
    simp only [hb, Option.getD_some]
    exact h
set_option maxRecDepth 100000 in
set_option maxHeartbeats 2000000 in
theorem named_any (s : ByteArray) (w : World) (hn : NmAt w) : Calls Tryz.prog 160 #[.string s] w fun e w' => (∀ k n, nmK s = some (k, n) → e = .returned (.tuple #[.agg (stA k n), .bool true])) ∧ (nmK s = none → e = .returned (.tuple #[.agg (stA 0 0), .bool false])) ∧ Below w.heap.size w w' := by
  obtain ⟨W, hW⟩ : ∃ W, W = w.alloc (.cells (spA 0 0 ⟨#[]⟩ (.slice none 0 0) (.slice none 0 0) (.slice none 0 0) (.slice none 0 0) (fun _ => 0) (fun _ => 0)) 31) := ⟨_, rfl⟩
  have hb1 : Below w.heap.size w W := by rw [hW]; exact (Below.refl _ w).alloc (Nat.le_refl _) _
  have hq1 : RowAt W w.heap.size 31 (spA 0 0 ⟨#[]⟩ (.slice none 0 0) (.slice none 0 0) (.slice none 0 0) (.slice none 0 0) (fun _ => 0) (fun _ => 0)) := by rw [hW]; exact RowAt.new w _ _
  have hkn := rangeAt_below hn.kn hb1
  have htb := rangeAt_below hn.tb hb1
  have HK : Hid (nmK s = match fstN nmN s 7 with | some k => some (k, 0) | none => (fstN tbN s 5).map fun n => (2, n)) := rfl
  have HB : Hid (Below w.heap.size w W) := hb1
  have HQ : Hid (RowAt W w.heap.size 31 (spA 0 0 ⟨#[]⟩ (.slice none 0 0) (.slice none 0 0) (.slice none 0 0) (.slice none 0 0) (fun _ => 0) (fun _ => 0))) := hq1
  have hz59 := o_zero s_zero
  go_enter Tryz.func160, Tryz.ntmps160
  go_upto_region 1 with fail
  rw [← hW]
  clear hW hb1 hq1 hz59 hn
  have hks : nmA.size = 7 := tab_size _ _
  have hts : tbA.size = 5 := tab_size _ _
  go_wp2_with (refine wpList_load_arr rfl 171 _ rfl 1 0 rfl nmA _ hkn Tryz.underlying171 rfl (by rw [hks]; kernel_rfl) ?_)
  have HIX : Hid (∀ m X, m < 7 → (Instr.index 171 (.agg nmA) (.int .i64 (m : Nat))).run Tryz.prog X = .ok (.string (nmN m)) X) := fun m X hm => run_index_strs 171 9 7 Tryz.underlying171 Tryz.underlying9 str_info nmN m hm X
  have HIT : Hid (∀ m X, m < 5 → (Instr.index 170 (.agg tbA) (.int .i64 (m : Nat))).run Tryz.prog X = .ok (.string (tbN m)) X) := fun m X hm => run_index_strs 170 9 5 Tryz.underlying170 Tryz.underlying9 str_info tbN m hm X
  generalize nmA = KA at *
  go_loopw [9] (fun i X => ∃ m : Nat, m ≤ 7 ∧ i = .int .i64 (m : Nat) ∧ Hid (∀ j, j < m → nmN j ≠ s) ∧ X = W) (fun i _ => ((7 : Int) - intOf i).toNat)
  case atStart => exact ⟨0, by omega, rfl, fun j hj => by omega, rfl⟩
  case round =>
    obtain ⟨m, hm, rfl, HJ, rfl⟩ := hrel
    by_cases hlt : m < 7
    · have hix := HIX.out m
      have hix2 := hix wr hlt
      have HLT : Hid (m < 7) := hlt
      have hlt2 : (m : Int) < 7 := by omega
      clear hix
      by_cases he : nmN m = s
      · have heq : ((nmN m).toList == s.toList) = true := ba_eq he
        have HF : Hid (nmK s = some (m, 0)) := by rw [Hid, HK.out, fstN_of HJ.out he hlt]
        generalize nmN m = NM at *
        have HQ2 := HQ.out
        clear he HJ HK
        go_wp2_with (first | refine wpList_bA rfl 31 [(0, _)] rfl [(0, .int .i64 (m : Nat))] rfl _ (built_k (m : Nat)) ?_ | refine wpList_store_row rfl 31 _ _ rfl w.heap.size (spA (m : Nat) 0 ⟨#[]⟩ (.slice none 0 0) (.slice none 0 0) (.slice none 0 0) (.slice none 0 0) (fun _ => 0) (fun _ => 0)) rfl rfl 31 _ HQ2 (by rw [spA_size]; exact s_info) (by rw [spA_size, spA_size]) (spA_one rfl rfl rfl rfl) ?_)
        exact ⟨rfl, _, results_cell_tmp2 rfl _ _ w.heap.size 31 (spA (m : Nat) 0 ⟨#[]⟩ (.slice none 0 0) (.slice none 0 0) (.slice none 0 0) (.slice none 0 0) (fun _ => 0) (fun _ => 0)) (0, 0) _ _ rfl rfl (RowAt.row HQ.out _) Tryz.underlying31 rfl (by rw [spA_size]; exact s_info), fun k n h => by rw [HF.out] at h; cases h; rfl, fun h => absurd (HF.out.symm.trans h) (by simp), PK.Below.setRow HB.out w.heap.size (Nat.le_refl _) _⟩
      · have heq : ((nmN m).toList == s.toList) = false := ba_ne he
        have HN : Hid (∀ j, j < m + 1 → nmN j ≠ s) := fun j hj => by
          by_cases e : j = m
          · rw [e]; exact he
          · exact HJ.out j (by omega)
        generalize nmN m = NM at *
        clear he HJ
        go_wp2_with fail
        go_roundw
        case rel => exact ⟨m + 1, HLT.out, by go_num, HN, by first | rfl | trivial⟩
        case measure => have := HLT.out; simp [intOf] <;> omega
    · obtain rfl : m = 7 := by omega
      have HK2 : Hid (nmK s = (fstN tbN s 5).map fun n => (2, n)) := by rw [Hid, HK.out, fstN_none HJ.out]
      clear HK HJ hm hlt hkn HIX
      go_wp2_with (refine wpList_load_arr rfl 170 _ rfl 0 0 rfl tbA _ htb Tryz.underlying170 rfl (by rw [hts]; kernel_rfl) ?_)
      generalize tbA = TA at *
      go_loopw [20] (fun i X => ∃ m : Nat, m ≤ 5 ∧ i = .int .i64 (m : Nat) ∧ Hid (∀ j, j < m → tbN j ≠ s) ∧ X = wr) (fun i _ => ((5 : Int) - intOf i).toNat)
      case atStart => exact ⟨0, by omega, rfl, fun j hj => by omega, rfl⟩
      case round =>
        obtain ⟨m, hm, rfl, HJ, rfl⟩ := hrel
        by_cases hlt : m < 5
        · have hix2 := HIT.out m wr hlt
          have HLT : Hid (m < 5) := hlt
          have hlt2 : (m : Int) < 5 := by omega
          by_cases he : tbN m = s
          · have heq : ((tbN m).toList == s.toList) = true := ba_eq he
            have HF : Hid (nmK s = some (2, m)) := by rw [Hid, HK2.out, fstN_of HJ.out he hlt]; rfl
            generalize tbN m = NM at *
            have HQ2 := HQ.out
            clear he HJ HK2
            go_wp2_with (first | refine wpList_bA rfl 31 [(0, _), (1, _)] rfl [(0, .int .i64 2), (1, .int .i64 (m : Nat))] rfl _ (built_kn 2 (m : Nat)) ?_ | refine wpList_store_row rfl 31 _ _ rfl w.heap.size (spA 2 (m : Nat) ⟨#[]⟩ (.slice none 0 0) (.slice none 0 0) (.slice none 0 0) (.slice none 0 0) (fun _ => 0) (fun _ => 0)) rfl rfl 31 _ HQ2 (by rw [spA_size]; exact s_info) (by rw [spA_size, spA_size]) (spA_one rfl rfl rfl rfl) ?_)
            exact ⟨rfl, _, results_cell_tmp2 rfl _ _ w.heap.size 31 (spA 2 (m : Nat) ⟨#[]⟩ (.slice none 0 0) (.slice none 0 0) (.slice none 0 0) (.slice none 0 0) (fun _ => 0) (fun _ => 0)) (0, 0) _ _ rfl rfl (RowAt.row HQ.out _) Tryz.underlying31 rfl (by rw [spA_size]; exact s_info), fun k n h => by rw [HF.out] at h; cases h; rfl, fun h => absurd (HF.out.symm.trans h) (by simp), PK.Below.setRow HB.out w.heap.size (Nat.le_refl _) _⟩
          · have heq : ((tbN m).toList == s.toList) = false := ba_ne he
            have HN : Hid (∀ j, j < m + 1 → tbN j ≠ s) := fun j hj => by
              by_cases e : j = m
              · rw [e]; exact he
              · exact HJ.out j (by omega)
            generalize tbN m = NM at *
            clear he HJ
            go_wp2_with fail
            go_roundw
            case rel => exact ⟨m + 1, HLT.out, by go_num, HN, by first | rfl | trivial⟩
            case measure => have := HLT.out; simp [intOf] <;> omega
        · obtain rfl : m = 5 := by omega
          have HF : Hid (nmK s = none) := by rw [Hid, HK2.out, fstN_none HJ.out]; rfl
          have HQ2 := HQ.out
          clear HJ HK2
          go_wp2_with (first | refine wpList_bA rfl 31 [] rfl [] rfl _ built_0 ?_ | refine wpList_store_row rfl 31 _ _ rfl w.heap.size (spA 0 0 ⟨#[]⟩ (.slice none 0 0) (.slice none 0 0) (.slice none 0 0) (.slice none 0 0) (fun _ => 0) (fun _ => 0)) rfl rfl 31 _ HQ2 (by rw [spA_size]; exact s_info) (by rw [spA_size]) (spA_one rfl rfl rfl rfl) ?_)
          exact ⟨rfl, _, results_cell_tmp2 rfl _ _ w.heap.size 31 (spA 0 0 ⟨#[]⟩ (.slice none 0 0) (.slice none 0 0) (.slice none 0 0) (.slice none 0 0) (fun _ => 0) (fun _ => 0)) (0, 0) _ _ rfl rfl (RowAt.row HQ.out _) Tryz.underlying31 rfl (by rw [spA_size]; exact s_info), fun k n h => absurd (HF.out.symm.trans h) (by simp), fun _ => rfl, PK.Below.setRow HB.out w.heap.size (Nat.le_refl _) _⟩
end Go.Proofs.YtkohhdkkbaifoaaGreatDoor

/-
  What the listed package-level variables give: the tables of names, and strconv's ErrRange.
-/
namespace Go.Proofs.YtkohhdkkbaifoaaGreatDoor
open Go.RowKit PK

theorem laid_range {n : String} {bs : List (List UInt8)} {r : List (String × DataW Unit)} {W : World} {g k : Nat} {t : TypeId} (h : laidMet Tryz.prog ((n, .agg (bs.map fun b => .lit (.string b))) :: r) W) (hg0 : Tryz.prog.globalNamed n = some g) (ht0 : (Tryz.prog.globals[g]?).map (·.type) = some t) (hu : Tryz.prog.underlying t = some (.array k 9)) (hk : bs.length = k) : W.rangeAt g 0 (bs.map fun b => Value.string ⟨b.toArray⟩) := by
  obtain ⟨ps, ⟨g, t, cs, fuel, p, q, hg, ht, hv, hd, _, _⟩, _, _⟩ := h
  obtain rfl := Option.some.inj (hg0.symm.trans hg)
  obtain rfl := Option.some.inj (ht0.symm.trans ht)
  obtain ⟨xs, m, _, ex, _, hl, hel⟩ := DataW.trod_array hu hd
  have c9 : Tryz.prog.cellsOf 9 = 1 := by kernel_rfl
  intro i v hvi
  have hi : i < k := by
    have := (List.getElem?_eq_some_iff.1 hvi).1
    rw [List.length_map] at this
    omega
  have hE := hel i hi
  rw [c9, Nat.mul_one, List.getElem?_eq_getElem (by omega)] at hE
  obtain ⟨z, e1, e2, _⟩ := DataW.trod_string Tryz.underlying9 hE
  have e3 : (xs.map (·.1)) = bs.map fun b => .lit (.string b) := (DataW.agg.inj (Prod.mk.inj ex).1).symm
  have e4 : (xs.map (·.1))[i]? = (bs.map fun b => (DataW.lit (.string b) : DataW Unit))[i]? := by rw [e3]
  rw [List.getElem?_map, List.getElem?_map, List.getElem?_eq_getElem (by omega : i < xs.length), List.getElem?_eq_getElem (by omega : i < bs.length), e2] at e4
  rw [List.getElem?_map, List.getElem?_eq_getElem (by omega : i < bs.length)] at hvi
  simp only [Option.map_some, Option.some.injEq, DataW.lit.injEq, Lit.string.injEq] at e4 hvi
  rw [Nat.zero_add, World.var?_cell hg hv i, ← hvi, ← e4]
  have : cs.toList[i]? = some (.string z) := by
    have h0 : ((cs.toList.drop i).take 1)[0]? = some (.string z) := by rw [e1]; rfl
    simpa using h0
  simpa using this
theorem g_kinds : Tryz.prog.globalNamed "blackroom/script.kinds" = some 1 := by kernel_rfl
theorem g_tabl : Tryz.prog.globalNamed "blackroom/script.tableaux" = some 0 := by kernel_rfl
theorem gt_kinds : (Tryz.prog.globals[1]?).map (·.type) = some 171 := by kernel_rfl
theorem gt_tabl : (Tryz.prog.globals[0]?).map (·.type) = some 170 := by kernel_rfl
theorem g_erra : Tryz.prog.globalNamed "strconv.ErrRange" = some gRange := by kernel_rfl
theorem gt_erra : (Tryz.prog.globals[gRange]?).map (·.type) = some 121 := by kernel_rfl
theorem laid_kinds {r : List (String × DataW Unit)} {W : World} (h : laidMet Tryz.prog (("blackroom/script.kinds", Rows.laid_blackroom_script_kinds) :: r) W) : W.rangeAt 1 0 nmA.toList := by
  have := laid_range (bs := [[], [109, 111, 118, 101], [], [114, 97, 105, 108], [99, 111, 108, 117, 109, 110, 115], [104, 105, 108, 108], [114, 111, 116, 111, 114]]) h g_kinds gt_kinds Tryz.underlying171 rfl
  rw [show nmA.toList = List.map (fun b : List UInt8 => Value.string ⟨b.toArray⟩) [[], [109, 111, 118, 101], [], [114, 97, 105, 108], [99, 111, 108, 117, 109, 110, 115], [104, 105, 108, 108], [114, 111, 116, 111, 114]] by kernel_rfl]
  exact this
theorem laid_tabl {r : List (String × DataW Unit)} {W : World} (h : laidMet Tryz.prog (("blackroom/script.tableaux", Rows.laid_blackroom_script_tableaux) :: r) W) : W.rangeAt 0 0 tbA.toList := by
  have := laid_range (bs := [[], [118, 105, 103, 101, 110, 101, 114, 101], [98, 101, 97, 117, 102, 111, 114, 116], [118, 97, 114, 105, 97, 110, 116], [97, 117, 116, 111, 107, 101, 121]]) h g_tabl gt_tabl Tryz.underlying170 rfl
  rw [show tbA.toList = List.map (fun b : List UInt8 => Value.string ⟨b.toArray⟩) [[], [118, 105, 103, 101, 110, 101, 114, 101], [98, 101, 97, 117, 102, 111, 114, 116], [118, 97, 114, 105, 97, 110, 116], [97, 117, 116, 111, 107, 101, 121]] by kernel_rfl]
  exact this
theorem laid_erra {r : List (String × DataW Unit)} {W : World} (h : laidMet Tryz.prog (("strconv.ErrRange", Rows.laid_strconv_ErrRange) :: r) W) : ErAt W := by
  obtain ⟨ps, ⟨g, t, cs, fuel, p, q, hg, ht, hv, hd, _, _⟩, _, _⟩ := h
  obtain rfl := Option.some.inj (g_erra.symm.trans hg)
  obtain rfl := Option.some.inj (gt_erra.symm.trans ht)
  obtain ⟨f1, u, v, e, _⟩ := iface_of_trod Tryz.underlying121 hd
  refine ⟨.iface u v, ?_, .inr ⟨u, v, rfl⟩⟩
  have := World.var?_cell g_erra hv 0
  rw [Array.eq_one_of_toList e] at this
  simpa using this
end Go.Proofs.YtkohhdkkbaifoaaGreatDoor
