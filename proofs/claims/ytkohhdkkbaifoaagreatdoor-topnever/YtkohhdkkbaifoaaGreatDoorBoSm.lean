/-
  Contracts of bombe.meet, of Places and of the document's Places (chapter 10).
-/
import Derived.Test.YtkohhdkkbaifoaaGreatDoorJn29
import Derived.Test.YtkohhdkkbaifoaaGreatDoorJn1
import Derived.Test.YtkohhdkkbaifoaaGreatDoorJn3
namespace Go.Proofs.YtkohhdkkbaifoaaGreatDoor
open Go.RowKit PK Vg

/-- Does the same letter stand at the same place of both, the second one laid at a place of the first one? -/
def mt (t c : List UInt8) (at' : Nat) : Bool := (List.range c.length).any fun i => t.getD (at' + i) 0 == c.getD i 0
theorem mt_false {t c : List UInt8} {a : Nat} (h : ∀ i, i < c.length → t.getD (a + i) 0 ≠ c.getD i 0) : mt t c a = false := by
  unfold mt
  rw [List.any_eq_false]
  intro i hi
  simpa using h i (by simpa using hi)
theorem mt_true {t c : List UInt8} {a i : Nat} (hi : i < c.length) (h : t.getD (a + i) 0 = c.getD i 0) : mt t c a = true := by
  unfold mt
  rw [List.any_eq_true]
  exact ⟨i, by simpa using hi, by simpa using h⟩
theorem mt_drop (t c : List UInt8) (a : Nat) : mt (t.drop a) c 0 = mt t c a := by
  unfold mt
  congr 1
  funext i
  rw [Nat.zero_add]
  simp [List.getD_eq_getElem?_getD, List.getElem?_drop]
theorem byte_ne {x y : UInt8} (h : ¬ x = y) : (((x.toNat : Nat) : Int) == ((y.toNat : Nat) : Int)) = false := by
  simp
  intro e
  exact h (UInt8.toNat_inj.1 (by omega))
set_option maxRecDepth 100000 in
set_option maxHeartbeats 1000000 in
theorem meet_any (t c : ByteArray) (hs : c.size ≤ t.size) (hc : c.size ≤ 65536) (w : World) : Calls Tryz.prog 65 #[.string t, .string c] w fun e w' => e = .returned (.bool (mt t.data.toList c.data.toList 0)) ∧ Below w.heap.size w w' := by
  have HL : Hid (c.size = c.data.toList.length) := Pl.size_len c
  go_enter Tryz.func65, Tryz.ntmps65
  go_wp2_with fail
  go_loopw [8] (fun i W => ∃ k : Nat, k ≤ c.size ∧ i = .int .i64 (k : Nat) ∧ (∀ j, j < k → t.data.toList.getD j 0 ≠ c.data.toList.getD j 0) ∧ Below w.heap.size w W) (fun i _ => ((c.size : Int) - intOf i).toNat)
  case atStart => exact ⟨0, by omega, rfl, fun j hj => by omega, Below.refl _ _⟩
  case round =>
    obtain ⟨k, hk, rfl, hn, hbe⟩ := hrel
    have HN := (show Hid _ from hn)
    have HBE := (show Hid _ from hbe)
    clear hn hbe
    by_cases hlt : k < c.size
    · have HLT : Hid (k < c.size) := hlt
      have hl1 : (k : Int) < (c.size : Int) := by omega
      have hl2 : (k : Int) < (t.size : Int) := by omega
      have hl3 : k < t.size := by omega
      have hx := (getD_byte t k hl3).symm
      have hy := (getD_byte c k hlt).symm
      have HNX : Hid (t.data.toList.getD k 0 ≠ c.data.toList.getD k 0 → ∀ j, j < k + 1 → t.data.toList.getD j 0 ≠ c.data.toList.getD j 0) := fun h j hj => by
        by_cases e : j = k
        · rw [e]; exact h
        · exact HN.out j (by omega)
      have HYES : Hid (t.data.toList.getD k 0 = c.data.toList.getD k 0 → mt t.data.toList c.data.toList 0 = true) := fun h => mt_true (i := k) (by rw [← HL.out]; exact HLT.out) (by rw [Nat.zero_add]; exact h)
      generalize t.data.toList.getD k 0 = x at *
      generalize c.data.toList.getD k 0 = y at *
      by_cases hxy : x = y
      · subst hxy
        have HT := (show Hid _ from HYES.out rfl)
        have hb : (((x.toNat : Nat) : Int) == ((x.toNat : Nat) : Int)) = true := by simp
        clear HYES HNX
        go_upto_region 4 with fail
        go_quiet (fail)
        go_wp2
        go_ret
        exact ⟨by rw [HT.out]; rfl, HBE.out.trans ⟨rfl, rfl, rfl, Nat.le_refl _, fun _ _ => rfl⟩⟩
      · have HNN := (show Hid _ from HNX.out hxy)
        have hb := byte_ne hxy
        clear HYES HNX hxy
        go_upto_region 4 with fail
        go_quiet (fail)
        go_wp2
        go_roundw
        case rel => exact ⟨k + 1, HLT.out, by go_num, HNN.out, HBE.out.trans ⟨rfl, rfl, rfl, Nat.le_refl _, fun _ _ => rfl⟩⟩
        case measure => have := HLT.out; simp [intOf]; omega
    · obtain rfl : k = c.size := by omega
      have hnn : ¬ ((c.size : Nat) : Int) < ((c.size : Nat) : Int) := by omega
      have HF : Hid (mt t.data.toList c.data.toList 0 = false) := mt_false fun i hi => by rw [Nat.zero_add]; exact HN.out i (by rw [HL.out]; exact hi)
      clear hlt
      go_wp2
      go_ret
      exact ⟨by rw [HF.out]; rfl, HBE.out⟩
/-- The first k places at which a crib may lie. -/
def plTo (t c : List UInt8) (k : Nat) : List Nat := (List.range k).filter fun a => !mt t c a
def plN (t c : List UInt8) : Nat := t.length + 1 - c.length
theorem plTo_yes {t c : List UInt8} {k : Nat} (h : mt t c k = false) : plTo t c (k + 1) = plTo t c k ++ [k] := by
  unfold plTo
  rw [List.range_succ, List.filter_append]
  simp [h]
theorem plTo_no {t c : List UInt8} {k : Nat} (h : mt t c k = true) : plTo t c (k + 1) = plTo t c k := by
  unfold plTo
  rw [List.range_succ, List.filter_append]
  simp [h]
theorem plTo_len (t c : List UInt8) (k : Nat) : (plTo t c k).length ≤ k := by
  have := List.length_filter_le (fun a => !mt t c a) (List.range k)
  unfold plTo
  simpa using this
/-- What Places says. -/
def plE (t c : List UInt8) : Int := if ckE t ≠ 0 then ckE t else ckE c
def plAt (t c : List UInt8) : Int := if ckE t ≠ 0 then ckAt t else if ckE c ≠ 0 then ckAt c else 0
def plL (t c : List UInt8) : List Nat := if plE t c ≠ 0 then [] else plTo t c (plN t c)

theorem own_stepN {W W' : World} {B : Nat} {v : Value} {l : List Nat} (h : OwnsN W B v l) (hb : Below W.heap.size W W') : OwnsN W' B v l := own_step h hb
theorem own_two {w W : World} {v : Value} {l : List Nat} {x y : Value} (h : OwnsN W (w.heap.size + 1) v l) : OwnsN ((W.setCell ⟨w.heap.size, 0, none⟩ x).setCell ⟨w.heap.size, 1, none⟩ y) (w.heap.size + 1) v l := by
  have h' : W.ownsRow (w.heap.size + 1) 3 1 v l.length (nums l) := h
  have hne : v.ownBlock = none ∨ v.ownBlock ≠ some w.heap.size := .inr fun e => by have := (World.ownsRow.lt h' _ e).1; omega
  exact World.ownsRow.kept (World.ownsRow.kept h' (grown_set W w.heap.size 0 x) hne) (grown_set _ w.heap.size 1 y) hne

set_option maxRecDepth 100000 in
set_option maxHeartbeats 2000000 in
theorem places_bad1 (t c : ByteArray) (E A : Int) (hE : (E != 0) = true) (w : World) (HT : Hid (∀ W, Calls Tryz.prog 38 #[.string t] W fun e w' => e = .returned (.agg #[.int .i64 E, .int .i64 A]) ∧ Below W.heap.size W w')) : Calls Tryz.prog 26 #[.string t, .string c] w fun e w' => e = .returned (.tuple #[.slice none 0 0, .agg #[.int .i64 E, .int .i64 A]]) ∧ Below w.heap.size w w' := by
  go_enter Tryz.func26, Tryz.ntmps26
  go_wp2_with fail
  refine (HT.out _).mono ?_
  rintro e W1 ⟨rfl, hb⟩
  have hb1 : Below (w.heap.size + 1) (w.alloc (.cells #[.int .i64 0, .int .i64 0] 35)) W1 := by simpa using hb
  have hz := hb1.size
  simp at hz
  have hb2 := hb1.alloc (by omega) (.cells #[.int .i64 E, .int .i64 A] 35)
  clear hb
  obtain ⟨c0, c1, f0, f1, hsz⟩ := Kit.two_cells hb2
  clear HT hb1
  go_wp2_with fail
  go_region
  all_goals (try go_wp2)
  have q := Kit.read_two (.int .i64 E) (.int .i64 A) c0 c1
  refine bodyPost_ret (v := .tuple #[.slice none 0 0, .agg #[.int .i64 E, .int .i64 A]]) (by simp [results, Tryz.results26, go_sem, q.1, q.2]) rfl ⟨rfl, ?_⟩
  exact (Kit.below_two hb2 _ _).drew
set_option maxRecDepth 100000 in
set_option maxHeartbeats 2000000 in
theorem places_bad2 (t c : ByteArray) (E A : Int) (hE : (E != 0) = true) (w : World) (HT : Hid (∀ W, Calls Tryz.prog 38 #[.string t] W fun e w' => e = .returned (.agg #[.int .i64 0, .int .i64 0]) ∧ Below W.heap.size W w')) (HC : Hid (∀ W, Calls Tryz.prog 38 #[.string c] W fun e w' => e = .returned (.agg #[.int .i64 E, .int .i64 A]) ∧ Below W.heap.size W w')) : Calls Tryz.prog 26 #[.string t, .string c] w fun e w' => e = .returned (.tuple #[.slice none 0 0, .agg #[.int .i64 E, .int .i64 A]]) ∧ Below w.heap.size w w' := by
  go_enter Tryz.func26, Tryz.ntmps26
  go_wp2_with fail
  refine (HT.out _).mono ?_
  rintro e W1 ⟨rfl, hb⟩
  have hb1 : Below (w.heap.size + 1) (w.alloc (.cells #[.int .i64 0, .int .i64 0] 35)) W1 := by simpa using hb
  have hz := hb1.size
  simp at hz
  have hb2 := hb1.alloc (by omega) (.cells #[.int .i64 0, .int .i64 0] 35)
  clear hb HT hb1
  go_wp2_with fail
  refine (HC.out _).mono ?_
  rintro e W2 ⟨rfl, hb⟩
  have hb3 := hb2.trans (hb.mono (by have := hb2.size; simp at this ⊢; omega))
  have hb4 := hb3.alloc (by have := hb3.size; simp at this; omega) (.cells #[.int .i64 E, .int .i64 A] 35)
  clear hb hb2 hb3 HC
  obtain ⟨c0, c1, f0, f1, hsz⟩ := Kit.two_cells hb4
  go_wp2_with fail
  go_region
  all_goals (try go_wp2)
  have q := Kit.read_two (.int .i64 E) (.int .i64 A) c0 c1
  refine bodyPost_ret (v := .tuple #[.slice none 0 0, .agg #[.int .i64 E, .int .i64 A]]) (by simp [results, Tryz.results26, go_sem, q.1, q.2]) rfl ⟨rfl, ?_⟩
  exact (Kit.below_two hb4 _ _).drew

set_option maxRecDepth 100000 in
set_option maxHeartbeats 4000000 in
theorem places_ok (t c : ByteArray) (ht : t.size ≤ 65536) (hc : c.size ≤ 65536) (w : World) (HT : Hid (∀ W, Calls Tryz.prog 38 #[.string t] W fun e w' => e = .returned (.agg #[.int .i64 0, .int .i64 0]) ∧ Below W.heap.size W w')) (HC : Hid (∀ W, Calls Tryz.prog 38 #[.string c] W fun e w' => e = .returned (.agg #[.int .i64 0, .int .i64 0]) ∧ Below W.heap.size W w')) : Calls Tryz.prog 26 #[.string t, .string c] w fun e w' => ∃ v, e = .returned (.tuple #[v, .agg #[.int .i64 0, .int .i64 0]]) ∧ OwnsN w' (w.heap.size + 1) v (plTo t.data.toList c.data.toList (plN t.data.toList c.data.toList)) ∧ Below w.heap.size w w' := by
  obtain ⟨i0, hi0, hz0, hz1, hz2⟩ := info_parts info_int3
  have HPN : Hid (plN t.data.toList c.data.toList = t.size + 1 - c.size) := by unfold plN; rw [Hid, Pl.size_len t, Pl.size_len c]
  go_enter Tryz.func26, Tryz.ntmps26
  go_wp2_with fail
  refine (HT.out _).mono ?_
  rintro e W1 ⟨rfl, hb⟩
  have hb1 : Below (w.heap.size + 1) (w.alloc (.cells #[.int .i64 0, .int .i64 0] 35)) W1 := by simpa using hb
  have hz := hb1.size
  simp at hz
  have hb2 := hb1.alloc (by omega) (.cells #[.int .i64 0, .int .i64 0] 35)
  clear hb HT hb1 hz
  go_wp2_with fail
  refine (HC.out _).mono ?_
  rintro e W2 ⟨rfl, hb⟩
  have hb3 := hb2.trans (hb.mono (by have := hb2.size; simp at this ⊢; omega))
  have hb4 := hb3.alloc (by have := hb3.size; simp at this; omega) (.cells #[.int .i64 0, .int .i64 0] 35)
  clear hb hb2 hb3 HC
  go_upto_region 8 with fail
  generalize W2.alloc (.cells #[.int .i64 0, .int .i64 0] 35) = V at *
  have hsz := (Kit.two_cells hb4).2.2.2.2
  have HVZ : Hid ((w.alloc (.cells #[.int .i64 0, .int .i64 0] 35)).heap.size = w.heap.size + 1) := by simp [Hid]
  obtain ⟨w1, hw1⟩ : ∃ x, x = w.alloc (.cells #[.int .i64 0, .int .i64 0] 35) := ⟨_, rfl⟩
  rw [← hw1] at hb4 HVZ
  have HW1 := (show Hid _ from hw1)
  clear hw1

  obtain ⟨n, hn⟩ : ∃ n, n = t.size + 1 - c.size := ⟨_, rfl⟩
  have HNE := (show Hid _ from hn)
  rw [← hn] at HPN
  have hn2 : n ≤ 65537 := by omega
  clear hn
  go_wp2_with fail
  go_loopw [8, 28] (fun o i W => ∃ (k : Nat) (v : Value), k ≤ n ∧ i = .int .i64 (k : Nat) ∧ v = o ∧ OwnsN W (w.heap.size + 1) v (plTo t.data.toList c.data.toList k) ∧ Below (w.heap.size + 1) w1 W) (fun _ i _ => ((n : Int) - intOf i).toNat)
  case atStart => exact ⟨0, _, by omega, rfl, rfl, World.ownsRow_nil _ _ _ _, hb4⟩
  case round =>
    clear hb4
    obtain ⟨k, v, hk, rfl, rfl, hown, hbe⟩ := hrel
    have hln := plTo_len t.data.toList c.data.toList k
    have hbz := hbe.size
    have HBX := (show Hid _ from hbe)
    have HOWN := (show Hid _ from hown)
    by_cases hlt : k < n
    · have HLT : Hid (k < n) := hlt
      have hlt2 : (k : Int) < (t.size : Int) - (c.size : Int) + 1 := by have := HNE.out; omega
      have hkt : k ≤ t.size := by have := HNE.out; omega
      have hkt2 : (k : Int) ≤ (t.size : Int) := by omega
      have HME := (show Hid (∀ W, Calls Tryz.prog 65 #[.string (t.extract k t.size), .string c] W fun e w' => e = .returned (.bool (mt t.data.toList c.data.toList k)) ∧ Below W.heap.size W w') from fun W => by
        have h1 := meet_any (t.extract k t.size) c (by rw [ByteArray.size_extract]; have := HNE.out; omega) hc W
        have h2 : (t.extract k t.size).data.toList = t.data.toList.drop k := by
          have h3 := Pl.size_len t
          simp [ByteArray.data_extract, List.extract_eq_take_drop]
          exact List.take_of_length_le (by rw [List.length_drop]; omega)
        rw [h2, mt_drop] at h1
        exact h1)
      clear hlt hown hbe
      go_wp2_with fail
      refine (HME.out _).mono ?_
      rintro e X ⟨rfl, hb⟩
      have hown := own_stepN HOWN.out hb
      have hbe := HBX.out.trans (hb.mono (by rw [← HVZ.out]; exact HBX.out.size))
      have hz5 : w.heap.size + 1 ≤ X.heap.size := by rw [← HVZ.out]; exact hbe.size
      clear HBX HOWN hb HME
      cases hm : mt t.data.toList c.data.toList k
      · have HPL : Hid (plTo t.data.toList c.data.toList (k + 1) = plTo t.data.toList c.data.toList k ++ [k]) := plTo_yes hm
        clear hm
        generalize plTo t.data.toList c.data.toList k = L at *
        go_wp2_with (first | (at_builtin; refine wpList_append_own _ rfl _ _ 25 rfl (w.heap.size + 1) 3 i0 (.int .i64 0) 1 8 Tryz.underlying25 hi0 hz0 hz1 hz2 rfl (by decide) _ _ _ rfl (World.ownsRow.alloc hown _) ⟨X.heap.size, 0, none⟩ 1 1 [.int .i64 (k : Nat)] rfl rfl (cell_one_new _ _ _) (fun u hu => by simp at hu; subst hu; rfl) (by unfold maxLen; omega) (by omega) (by simp; omega) ?_; intro v' w1' hown' hgrow _))
        go_roundw
        case rel =>
          refine ⟨k + 1, v', HLT.out, by go_num, rfl, ?_, ?_⟩
          · rw [HPL.out, OwnsN, nums_append, List.length_append]
            exact hown'
          · exact (hbe.alloc (by omega) _).grown hgrow (by simp; omega) (fun j hj => by have := (World.ownsRow.lt hown j hj).1; omega)
        case measure => have := HLT.out; simp [intOf]; omega
      · have HPL : Hid (plTo t.data.toList c.data.toList (k + 1) = plTo t.data.toList c.data.toList k) := plTo_no hm
        clear hm
        go_wp2
        go_roundw
        case rel => exact ⟨k + 1, v, HLT.out, by go_num, rfl, by rw [HPL.out]; exact hown, hbe⟩
        case measure => have := HLT.out; simp [intOf]; omega
    · obtain rfl : k = n := by omega
      have hnn : ¬ ((k : Nat) : Int) < (t.size : Int) - (c.size : Int) + 1 := by have := HNE.out; omega
      have HKN : Hid (k = plN t.data.toList c.data.toList) := HPN.out.symm
      clear hlt hown hbe

      have hbx := HBX.out
      rw [HW1.out] at hbx
      obtain ⟨c0, c1, f0, f1, hsz⟩ := Kit.two_cells hbx
      obtain ⟨av, cv, hev⟩ := own_slice' HOWN.out
      have HEV := (show Hid _ from hev)
      clear hev hsz hbx
      go_wp2
      have q := Kit.read_two (.int .i64 0) (.int .i64 0) c0 c1
      have hbx := HBX.out
      rw [HW1.out] at hbx
      refine bodyPost_ret (v := .tuple #[v, .agg #[.int .i64 0, .int .i64 0]]) (by simp [results, Tryz.results26, go_sem, q.1, q.2]) rfl ⟨v, rfl, ?_, Kit.below_two hbx _ _⟩
      rw [← HKN.out]
      exact own_two HOWN.out
theorem places_any (t c : ByteArray) (w : World) : Calls Tryz.prog 26 #[.string t, .string c] w fun e w' => ∃ v, e = .returned (.tuple #[v, .agg #[.int .i64 (plE t.data.toList c.data.toList), .int .i64 (plAt t.data.toList c.data.toList)]]) ∧ OwnsN w' (w.heap.size + 1) v (plL t.data.toList c.data.toList) ∧ Below w.heap.size w w' := by
  have HT := fun W => check_all t W
  have HC := fun W => check_all c W
  have s1 := Pl.size_len t
  have s2 := Pl.size_len c
  unfold plE plAt plL plE
  rcases ck_cases t.data.toList with ⟨e1, e2, e3, _⟩ | h1
  · rw [e1, e2] at HT
    rcases ck_cases c.data.toList with ⟨d1, d2, d3, _⟩ | h2
    · rw [d1, d2] at HC
      simp only [e1, e2, d1, d2, ne_eq, not_true_eq_false, if_false]
      exact places_ok t c (by omega) (by omega) w HT HC
    · have h3 : ckE c.data.toList ≠ 0 := by simpa using h2
      simp only [e1, e2, h3, ne_eq, not_true_eq_false, not_false_eq_true, if_true, if_false]
      exact (places_bad2 t c _ _ h2 w HT HC).mono fun e w' h => ⟨_, h.1, World.ownsRow_nil _ _ _ _, h.2⟩
  · have h3 : ckE t.data.toList ≠ 0 := by simpa using h1
    simp only [h3, ne_eq, not_false_eq_true, if_true]
    exact (places_bad1 t c _ _ h1 w HT).mono fun e w' h => ⟨_, h.1, World.ownsRow_nil _ _ _ _, h.2⟩
end Go.Proofs.YtkohhdkkbaifoaaGreatDoor
