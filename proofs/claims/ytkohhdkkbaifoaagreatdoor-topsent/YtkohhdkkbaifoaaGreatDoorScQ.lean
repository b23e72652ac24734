/-
  Numbers in words: isNumber, strconv.Atoi, (word).number.
-/
import Derived.Test.YtkohhdkkbaifoaaGreatDoorScP
import Derived.Test.YtkohhdkkbaifoaaGreatDoorScI
import Derived.Shelf.Strconv.AtoiAll
namespace Go.Proofs.YtkohhdkkbaifoaaGreatDoor
open Go.Shelf Go.RowKit PK Vg

/-- The number that digits spell. -/
def valA : Nat → List UInt8 → Nat
  | acc, [] => acc
  | acc, c :: r => valA (acc * 10 + (c.toNat - 48)) r
def dig (c : UInt8) : Bool := decide (48 ≤ c.toNat ∧ c.toNat ≤ 57)
def isNum (l : List UInt8) : Bool := l.all dig && (l.head? != some 48 || l == [48])
theorem valA_ge : ∀ (l : List UInt8) (acc : Nat), acc ≤ valA acc l
  | [], acc => Nat.le_refl _
  | c :: r, acc => by unfold valA; exact Nat.le_trans (by omega) (valA_ge r _)
theorem parse_val : ∀ (l : List UInt8) (acc : Nat), acc < 18446744073709551616 → l.all dig = true → Lib.parseUint10 acc l = if valA acc l < 18446744073709551616 then .ok (valA acc l) else .range
  | [], acc, h, _ => by unfold Lib.parseUint10 valA; rw [if_pos h]
  | c :: r, acc, h, hd => by
    rw [List.all_cons, Bool.and_eq_true] at hd
    have hc : 48 ≤ c.toNat ∧ c.toNat ≤ 57 := by simpa [dig] using hd.1
    unfold Lib.parseUint10 valA
    rw [if_pos hc]
    have hge := valA_ge r (acc * 10 + (c.toNat - 48))
    by_cases h1 : 1844674407370955162 ≤ acc
    · rw [if_pos h1, if_neg (by omega)]
    · rw [if_neg h1]
      by_cases h2 : 18446744073709551616 ≤ acc * 10 + (c.toNat - 48)
      · rw [if_pos h2, if_neg (by omega)]
      · rw [if_neg h2]
        exact parse_val r _ (by omega) hd.2
theorem atoi_val {l : List UInt8} (h0 : l ≠ []) (hd : l.all dig = true) : Lib.atoiAll l = if valA 0 l < 9223372036854775808 then .ok ((valA 0 l : Nat) : Int) else .range := by
  cases l with
  | nil => exact absurd rfl h0
  | cons c r =>
    have hd1 := hd
    rw [List.all_cons, Bool.and_eq_true] at hd1
    have hc : 48 ≤ c.toNat ∧ c.toNat ≤ 57 := by simpa [dig] using hd1.1
    unfold Lib.atoiAll
    simp only
    rw [if_neg (by omega)]
    unfold Lib.parseMag
    rw [if_neg h0, parse_val (c :: r) 0 (by omega) hd]
    have hn : ¬ c.toNat = 45 := by omega
    by_cases h1 : valA 0 (c :: r) < 9223372036854775808
    · rw [if_pos (by omega), if_pos h1]
      simp only
      rw [if_neg (by omega), if_neg (fun h => hn h.1), if_neg hn]
    · rw [if_neg h1]
      by_cases h2 : valA 0 (c :: r) < 18446744073709551616
      · rw [if_pos h2]
        simp only
        rw [if_pos ⟨hn, by omega⟩]
      · rw [if_neg h2]
/-- What is wrong with a number in words. -/
def numE (l : List UInt8) (lo hi : Int) : Int := if isNum l = false then 2 else inE (valA 0 l : Nat) lo hi
shelf_lay LaysC.n172 Nm 172 at Tryz as Tryz.laysAtoi
theorem fAtoi : Tryz.laysAtoi_ren.f 172 = 198 := by kernel_rfl
def gRange : Nat := Tryz.laysAtoi_ren.g 16
/-- The variable ErrRange is there. -/
def ErAt (w : World) : Prop := ∃ ev, w.cell? ⟨gRange, 0, none⟩ = some ev ∧ (ev = .nilIface ∨ ∃ te pe, ev = .iface te pe)
theorem ErAt.below {w w' : World} (h : ErAt w) (hb : Below w.heap.size w w') : ErAt w' := by
  obtain ⟨ev, h1, h2⟩ := h
  exact ⟨ev, (hb.cell (p := ⟨gRange, 0, none⟩) (World.block_lt_of_cell? _ _ h1)).trans h1, h2⟩
theorem atoi_any (s : ByteArray) (hs : s.size ≤ 65536) (w : World) (he : ErAt w) (h0 : s.data.toList ≠ []) (hd : s.data.toList.all dig = true) :
    Calls Tryz.prog 198 #[.string s] w fun e w' => (valA 0 s.data.toList < 9223372036854775808 → e = .returned (.tuple #[.int .i64 ((valA 0 s.data.toList : Nat) : Int), .nilIface])) ∧ (¬ valA 0 s.data.toList < 9223372036854775808 → ∃ x te pe, e = .returned (.tuple #[.int .i64 x, .iface te pe])) ∧ Below w.heap.size w w' := by
  by_cases h : valA 0 s.data.toList < 9223372036854775808
  · have := Any.strconv_Atoi_ok Tryz.laysAtoi s (by omega) _ (by rw [atoi_val h0 hd, if_pos h]) w
    rw [fAtoi] at this
    refine this.mono ?_
    rintro e w' ⟨rfl, hw⟩
    refine ⟨fun _ => rfl, fun h2 => absurd h h2, ?_⟩
    rcases hw with rfl | ⟨t, rfl⟩
    · exact Below.refl _ _
    · exact Lib.bytesWorld_below _ _ _
  · obtain ⟨ev, h1, h2⟩ := he
    have := Any.strconv_Atoi_range Tryz.laysAtoi s (by omega) (by rw [atoi_val h0 hd, if_neg h]) ev w h1 h2
    rw [fAtoi] at this
    refine this.mono ?_
    rintro e w' ⟨N, rfl, _, _, hb⟩
    exact ⟨fun h2 => absurd h2 h, fun _ => ⟨_, _, _, rfl⟩, hb⟩
theorem at_list (s : ByteArray) (m : Nat) (h : m < s.size) : ∃ h2 : m < s.data.toList.length, s.data.toList[m] = s[m] := ⟨by rw [← Pl.size_len s]; exact h, rfl⟩
set_option maxRecDepth 100000 in
set_option maxHeartbeats 1000000 in
theorem isnum_any (s : ByteArray) (h0 : 0 < s.size) (hs : s.size ≤ 65536) (w : World) : Calls Tryz.prog 197 #[.string s] w fun e w' => e = .returned (.bool (isNum s.data.toList)) ∧ w' = w := by
  obtain ⟨R, hR⟩ : ∃ R, R = isNum s.data.toList := ⟨_, rfl⟩
  rw [← hR]
  have HR : Hid (R = isNum s.data.toList) := hR
  have hl := Pl.size_len s
  have HL : Hid (s.size = s.data.toList.length) := hl
  clear hR hl
  go_enter Tryz.func197, Tryz.ntmps197
  go_wp2
  go_loopw [6] (fun i W => ∃ m : Nat, m ≤ s.size ∧ i = .int .i64 m ∧ Hid (∀ j, (h : j < m) → (h2 : j < s.size) → dig s[j] = true) ∧ W = w) (fun i _ => ((s.size : Int) - intOf i).toNat)
  case atStart => exact ⟨0, by omega, rfl, fun j hj => by omega, rfl⟩
  case round =>
    obtain ⟨m, hm, rfl, HJ, rfl⟩ := hrel
    by_cases hlt : m < s.size
    · have HLT : Hid (m < s.size) := hlt
      have HX : Hid (dig s[m] = false → R = false) := fun h => by
        obtain ⟨h2, e⟩ := at_list s m hlt
        rw [HR.out]
        unfold isNum
        have : s.data.toList.all dig = false := by
          rw [List.all_eq_false]
          exact ⟨s.data.toList[m], List.getElem_mem _, by rw [(congrArg dig e).trans h]; decide⟩
        rw [this]
        rfl
      have HY : Hid (dig s[m] = true → ∀ j, (h : j < m + 1) → (h2 : j < s.size) → dig s[j] = true) := fun h j hj h2 => by
        by_cases e : j = m
        · subst e; exact h
        · exact HJ.out j (by omega) h2
      have HD : Hid (dig s[m] = decide (48 ≤ s[m].toNat ∧ s[m].toNat ≤ 57)) := rfl
      by_cases h1 : s[m].toNat < 48
      · have HF : Hid (R = false) := HX.out (by rw [HD.out]; simp; omega)
        have h1' : (s[m].toNat : Int) < 48 := by omega
        go_wp2
        go_ret
        exact ⟨by rw [HF.out]; rfl, rfl⟩
      · have h1' : ¬ (s[m].toNat : Int) < 48 := by omega
        by_cases h2 : 57 < s[m].toNat
        · have HF : Hid (R = false) := HX.out (by rw [HD.out]; simp; omega)
          have h2' : 57 < (s[m].toNat : Int) := by omega
          go_wp2
          go_ret
          exact ⟨by rw [HF.out]; rfl, rfl⟩
        · have HN : Hid _ := HY.out (by rw [HD.out]; simp; omega)
          have h2' : ¬ 57 < (s[m].toNat : Int) := by omega
          clear HX HY HD HJ
          go_wp2_with fail
          go_roundw
          case rel => exact ⟨m + 1, HLT.out, by go_num, HN, by first | rfl | trivial⟩
          case measure => have := HLT.out; simp [intOf] <;> omega
    · obtain rfl : m = s.size := by omega
      have HALL : Hid (s.data.toList.all dig = true) := by
        rw [Hid, List.all_eq_true]
        intro x hx
        obtain ⟨i, hi, rfl⟩ := List.mem_iff_getElem.1 hx
        have h2 : i < s.size := by rw [HL.out]; exact hi
        exact HJ.out i h2 h2
      have HRR : Hid (R = (s[0] != 48 || s.data.toList == [48])) := by
        rw [Hid, HR.out]
        unfold isNum
        rw [HALL.out, Bool.true_and]
        obtain ⟨h2, e⟩ := at_list s 0 h0
        cases hls : s.data.toList with
        | nil => rw [hls] at h2; simp at h2
        | cons x xs =>
          have : x = s[0] := by rw [← e]; simp [hls]
          rw [this]
          by_cases hx : s[0] = 48
          · simp [hx]
          · have h1 : (s[0] != 48) = true := by simpa using hx
            have h2 : (List.head? (s[0] :: xs) != some 48) = true := by simpa using hx
            rw [h1, h2]
      by_cases hz : s[0] = 48
      · have hz2 : (s[0].toNat : Int) = 48 := by rw [hz]; rfl
        have HF : Hid (R = (s.toList == [48])) := by
          rw [Hid, HRR.out, ba_toList, hz]
          rfl
        go_wp2
        go_ret
        exact ⟨by rw [HF.out]; rfl, rfl⟩
      · have HF : Hid (R = true) := by
          have h1 : (s[0] != 48) = true := by simpa using hz
          rw [Hid, HRR.out, h1]
          rfl
        have hz2 : ¬ (s[0].toNat : Int) = 48 := fun h => hz (UInt8.toNat.inj (show s[0].toNat = UInt8.toNat 48 from (by omega : s[0].toNat = 48)))
        have hz4 : ((s[0].toNat : Int) != 48) = true := by simpa using hz2
        go_wp2
        go_ret
        exact ⟨by rw [HF.out]; rfl, rfl⟩
set_option maxRecDepth 100000 in
set_option maxHeartbeats 1000000 in
theorem wnum_any (l : List UInt8) (p : Nat) (lo hi : Int) (hhi : hi ≤ 1000) (h0 : l ≠ []) (hs : l.length ≤ 65536) (w : World) (he : ErAt w) :
    Calls Tryz.prog 161 #[wdV l p, .int .i64 lo, .int .i64 hi] w fun e w' => (numE l lo hi = 0 → e = .returned (.int .i64 ((valA 0 l : Nat) : Int))) ∧ (numE l lo hi ≠ 0 → e = .panicked [flt (numE l lo hi) p]) ∧ Below w.heap.size w w' := by
  obtain ⟨s, hsd⟩ : ∃ s : ByteArray, s = ⟨l.toArray⟩ := ⟨_, rfl⟩
  have hsl : s.data.toList = l := by rw [hsd]
  have hz := Pl.size_len s
  rw [hsl] at hz
  have hz0 : 0 < s.size := by rw [hz]; exact List.length_pos_iff.2 h0
  unfold wdV
  rw [← hsd]
  have hb1 : Below w.heap.size w (w.alloc (.cells #[.string s, .int .i64 (p : Int)] 137)) := (Below.refl _ w).alloc (Nat.le_refl _) _
  have hq1 := RowAt.new w 137 #[.string s, .int .i64 (p : Int)]
  have c0 := RowAt.cell hq1 (i := 0) rfl
  have c1 := RowAt.cell hq1 (i := 1) rfl
  have HIN : Hid _ := isnum_any s hz0 (by omega) (w.alloc (.cells #[.string s, .int .i64 (p : Int)] 137))
  rw [hsl] at HIN
  have HB : Hid _ := hb1
  have HQ : Hid (RowAt (w.alloc (.cells #[.string s, .int .i64 (p : Int)] 137)) w.heap.size 137 #[.string s, .int .i64 (p : Int)]) := hq1
  have HNE : Hid (numE l lo hi = if isNum l = false then 2 else inE (valA 0 l : Nat) lo hi) := rfl
  generalize numE l lo hi = E at *
  by_cases hn : isNum l = true
  · have hdig : l.all dig = true := by unfold isNum at hn; rw [Bool.and_eq_true] at hn; exact hn.1
    have HA := atoi_any s (by omega) (w.alloc (.cells #[.string s, .int .i64 (p : Int)] 137)) (he.below hb1) (by rw [hsl]; exact h0) (by rw [hsl]; exact hdig)
    rw [hsl] at HA
    have HE2 : Hid (E = inE (valA 0 l : Nat) lo hi) := by rw [Hid, HNE.out, hn]; rfl
    rw [hn] at HIN
    generalize valA 0 l = v at *
    by_cases hv : v < 9223372036854775808
    · have HA2 : Hid (Calls Tryz.prog 198 #[.string s] (w.alloc (.cells #[.string s, .int .i64 (p : Int)] 137)) fun e w' => e = .returned (.tuple #[.int .i64 ((v : Nat) : Int), .nilIface]) ∧ Below (w.alloc (.cells #[.string s, .int .i64 (p : Int)] 137)).heap.size (w.alloc (.cells #[.string s, .int .i64 (p : Int)] 137)) w') := Calls.mono HA (fun e w' h => ⟨h.1 hv, h.2.2⟩)
      clear HA hn hdig hz hz0 hsl hsd hb1 hq1 HNE he
      go_enter Tryz.func161, Tryz.ntmps161
      go_wp2_with fail
      refine Calls.mono HIN.out ?_
      rintro e V ⟨rfl, rfl⟩
      go_wp2_with fail
      refine Calls.mono HA2.out ?_
      rintro e V ⟨rfl, hb⟩
      have hqV := RowAt.below HQ.out hb (RowAt.lt HQ.out)
      have u1 := RowAt.cell hqV (i := 1) rfl
      have HBV : Hid (Below w.heap.size w V) := HB.out.trans (hb.mono HB.out.size)
      have hb0 := hb
      clear hb hqV c0 c1 HIN HA2
      have HQV : Hid (RowAt V w.heap.size 137 #[.string s, .int .i64 (p : Int)]) := RowAt.below HQ.out hb0 (RowAt.lt HQ.out)
      have HO : Hid (∀ X, Calls Tryz.prog 27 #[.int .i64 (v : Int), .int .i64 lo, .int .i64 hi] X fun e w' => e = .returned (.int .i64 (inE (v : Nat) lo hi)) ∧ w' = X) := fun X => out_any _ _ _ X
      rw [← HE2.out] at HO
      clear hb0
      go_wp2_with fail
      by_cases hE : E = 0
      · have HE0 : Hid (E = 0) := hE
        have HP : Hid (∀ X, Calls Tryz.prog 37 #[.int .i64 E, .int .i64 (p : Int)] X fun e w' => e = .returned (.tuple #[]) ∧ w' = X) := fun X => by rw [hE]; exact pass_ok _ X
        clear hE
        refine wp_region_noPanic ?_
        refine wp_region_held_drew (S := fun W => RowAt W w.heap.size 137 #[.string s, .int .i64 (p : Int)] ∧ Below V.heap.size V W) (by kernel_rfl) ⟨HQV.out, (Below.refl _ _).drew⟩ (fun hS => ?_)
        refine vtake 0 27 (.int .i64 (v : Int)) rfl rfl (by kernel_rfl) (by kernel_rfl) (by kernel_rfl) (fun _ _ _ _ h => h) (by rfl) (fun W hW => by clear hS hW; go_simp) hS ?_
        simp only [List.setIfInBounds_toArray, List.set_cons_succ, List.set_cons_zero]
        refine vtake 1 28 (.int .i64 lo) rfl rfl (by kernel_rfl) (by kernel_rfl) (by kernel_rfl) (fun _ _ _ _ h => h) (by rfl) (fun W hW => by clear hS hW; go_simp) hS ?_
        simp only [List.setIfInBounds_toArray, List.set_cons_succ, List.set_cons_zero]
        refine vtake 2 29 (.int .i64 hi) rfl rfl (by kernel_rfl) (by kernel_rfl) (by kernel_rfl) (fun _ _ _ _ h => h) (by rfl) (fun W hW => by clear hS hW; go_simp) hS ?_
        simp only [List.setIfInBounds_toArray, List.set_cons_succ, List.set_cons_zero]
        refine vtake 4 31 (.pointer (some ⟨w.heap.size, 1, none⟩)) rfl rfl (by kernel_rfl) (by kernel_rfl) (by kernel_rfl) (fun _ _ _ _ h => h) (by rfl) (fun W hW => by clear hS hW; go_simp) hS ?_
        simp only [List.setIfInBounds_toArray, List.set_cons_succ, List.set_cons_zero]
        refine vtake 5 32 (.int .i64 (p : Int)) rfl rfl (by kernel_rfl) (by kernel_rfl) (by kernel_rfl) (fun _ _ _ _ h => h) (by rfl) (fun W hW => by have u := RowAt.cell hW.1 (i := 1) rfl; clear hS hW; go_simp) hS ?_
        simp only [List.setIfInBounds_toArray, List.set_cons_succ, List.set_cons_zero]
        refine wpAnyH_ready (rs := [3]) (by kernel_rfl) (by simp) ?_
        refine AllReadyH.cons (o := _) rfl (fun K hK => ?_) AllReadyH.nil
        rw [if_pos (by rfl)]
        go_simp
        refine Calls.mono (HO.out _) ?_
        rintro e Y ⟨rfl, rfl⟩
        refine hK.out _ _ (hS) (fun hS1 => ?_)
        clear hK hS K
        have hS := hS1
        clear hS1
        refine wpAnyH_ready (rs := [6]) (by kernel_rfl) (by simp) ?_
        refine AllReadyH.cons (o := _) rfl (fun K hK => ?_) AllReadyH.nil
        rw [if_pos (by rfl)]
        go_simp
        refine Calls.mono (HP.out _) ?_
        rintro e Y ⟨rfl, rfl⟩
        refine hK.out _ _ (hS) (fun hS1 => ?_)
        clear hK hS K
        have hS := hS1
        clear hS1
        refine wpAnyH_done (by kernel_rfl) ?_ _
        refine NoPanic.normal ?_
        have HBY : Hid _ := HBV.out.trans (hS.2.mono HBV.out.size)
        clear hS
        go_wp2
        go_ret
        exact ⟨fun _ => rfl, fun h => absurd HE0.out h, HBY.out⟩
      · have HNE2 : Hid (E ≠ 0) := hE
        have HP : Hid (∀ X, Calls Tryz.prog 37 #[.int .i64 E, .int .i64 (p : Int)] X fun e w' => e = .panicked [flt E (p : Int)] ∧ w' = X) := fun X => pass_bad E _ (by simpa using hE) X
        clear hE
        refine wp_region_held_drew (S := fun W => RowAt W w.heap.size 137 #[.string s, .int .i64 (p : Int)] ∧ Below V.heap.size V W) (by kernel_rfl) ⟨HQV.out, (Below.refl _ _).drew⟩ (fun hS => ?_)
        refine vtakeP 0 27 (.int .i64 (v : Int)) rfl rfl (by kernel_rfl) (by kernel_rfl) (by kernel_rfl) (fun _ _ _ h => h) (by rfl) (fun W hW => by clear hS hW; go_simp) hS ?_
        simp only [List.setIfInBounds_toArray, List.set_cons_succ, List.set_cons_zero]
        refine vtakeP 1 28 (.int .i64 lo) rfl rfl (by kernel_rfl) (by kernel_rfl) (by kernel_rfl) (fun _ _ _ h => h) (by rfl) (fun W hW => by clear hS hW; go_simp) hS ?_
        simp only [List.setIfInBounds_toArray, List.set_cons_succ, List.set_cons_zero]
        refine vtakeP 2 29 (.int .i64 hi) rfl rfl (by kernel_rfl) (by kernel_rfl) (by kernel_rfl) (fun _ _ _ h => h) (by rfl) (fun W hW => by clear hS hW; go_simp) hS ?_
        simp only [List.setIfInBounds_toArray, List.set_cons_succ, List.set_cons_zero]
        refine vtakeP 4 31 (.pointer (some ⟨w.heap.size, 1, none⟩)) rfl rfl (by kernel_rfl) (by kernel_rfl) (by kernel_rfl) (fun _ _ _ h => h) (by rfl) (fun W hW => by clear hS hW; go_simp) hS ?_
        simp only [List.setIfInBounds_toArray, List.set_cons_succ, List.set_cons_zero]
        refine vtakeP 5 32 (.int .i64 (p : Int)) rfl rfl (by kernel_rfl) (by kernel_rfl) (by kernel_rfl) (fun _ _ _ h => h) (by rfl) (fun W hW => by have u := RowAt.cell hW.1 (i := 1) rfl; clear hS hW; go_simp) hS ?_
        simp only [List.setIfInBounds_toArray, List.set_cons_succ, List.set_cons_zero]
        refine wpAnyH_ready (rs := [3]) (by kernel_rfl) (by simp) ?_
        refine AllReadyH.cons (o := _) rfl (fun K hK => ?_) AllReadyH.nil
        rw [if_pos (by rfl)]
        go_simp
        refine Calls.mono (HO.out _) ?_
        rintro e Y ⟨rfl, rfl⟩
        refine hK.out _ _ (hS) (fun hS1 => ?_)
        clear hK hS K
        have hS := hS1
        clear hS1
        refine wpAnyH_ready (rs := [6]) (by kernel_rfl) (by simp) ?_
        refine AllReadyH.cons (o := _) rfl (fun K hK => ?_) AllReadyH.nil
        rw [if_pos (by rfl)]
        go_simp
        refine Calls.mono (HP.out _) ?_
        rintro e Y ⟨rfl, rfl⟩
        exact ⟨rfl, fun h => absurd h HNE2.out, fun _ => rfl, HBV.out.trans (hS.2.mono HBV.out.size)⟩
    · have HA2 : Hid (Calls Tryz.prog 198 #[.string s] (w.alloc (.cells #[.string s, .int .i64 (p : Int)] 137)) fun e w' => (∃ x te pe, e = .returned (.tuple #[.int .i64 x, .iface te pe])) ∧ Below (w.alloc (.cells #[.string s, .int .i64 (p : Int)] 137)).heap.size (w.alloc (.cells #[.string s, .int .i64 (p : Int)] 137)) w') := Calls.mono HA (fun e w' h => ⟨h.2.1 hv, h.2.2⟩)
      have HE3 : Hid (E = 3) := by rw [Hid, HE2.out]; unfold inE; rw [if_pos (.inr (by omega))]
      clear HA hn hdig hz hz0 hsl hsd hb1 hq1 HNE he hv
      go_enter Tryz.func161, Tryz.ntmps161
      go_wp2_with fail
      refine Calls.mono HIN.out ?_
      rintro e V ⟨rfl, rfl⟩
      go_wp2_with fail
      refine Calls.mono HA2.out ?_
      rintro e V ⟨⟨x, te, pe, rfl⟩, hb⟩
      have hqV := RowAt.below HQ.out hb (RowAt.lt HQ.out)
      have u1 := RowAt.cell hqV (i := 1) rfl
      have HBV : Hid (Below w.heap.size w V) := HB.out.trans (hb.mono HB.out.size)
      have HT : Hid _ := throw_any 3 p V
      clear hb hqV c0 c1 HIN HA2
      go_wp2_with fail
      refine Calls.mono HT.out ?_
      rintro e V2 ⟨rfl, rfl⟩
      exact ⟨rfl, fun h => absurd (HE3.out.symm.trans h) (by decide), fun _ => by rw [HE3.out], HBV.out⟩
  · have HE3 : Hid (E = 2) := by rw [Hid, HNE.out, if_pos (by simpa using hn)]
    have hnf : isNum l = false := by simpa using hn
    rw [hnf] at HIN
    have HT : Hid _ := throw_any 2 p (w.alloc (.cells #[.string s, .int .i64 (p : Int)] 137))
    clear hn hnf hz hz0 hsl hsd hb1 hq1 HNE he
    go_enter Tryz.func161, Tryz.ntmps161
    go_wp2_with fail
    refine Calls.mono HIN.out ?_
    rintro e V ⟨rfl, rfl⟩
    go_wp2_with fail
    refine Calls.mono HT.out ?_
    rintro e V2 ⟨rfl, rfl⟩
    exact ⟨rfl, fun h => absurd (HE3.out.symm.trans h) (by decide), fun _ => by rw [HE3.out], HB.out⟩
end Go.Proofs.YtkohhdkkbaifoaaGreatDoor
