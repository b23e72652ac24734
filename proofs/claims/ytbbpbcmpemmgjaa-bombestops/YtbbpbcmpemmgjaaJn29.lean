/-
  Several texts, joined: BoSm, BoSy.
-/
import Derived.Test.YtbbpbcmpemmgjaaJn23
import Derived.Test.YtbbpbcmpemmgjaaJn17
import Derived.Test.YtbbpbcmpemmgjaaJn19
import Derived.Test.YtbbpbcmpemmgjaaJn27
/-
  Contracts of bombe.meet, of Places and of the document's Places (chapter 10).
-/
namespace Go.Proofs.Ytbbpbcmpemmgjaa
open Go.RowKit PK Vg

/-- Does the same letter stand at the same place of both, the second one laid at a place of the first one? -/
def mt (t c : List UInt8) (at' : Nat) : Bool := (List.range c.length).any fun i => t.getD (at' + i) 0 == c.getD i 0
theorem mt_false {t c : List UInt8} {a : Nat} (h : ∀ i, i < c.length → t.getD (a + i) 0 ≠ c.getD i 0) : mt t c a = false := by
  unfold mt
  rw [List.any_eq_false]
  intro i hi
  simpa using h i (by simpa using hi)
theorem mt_true {t c : List UInt8} {a i : Nat} (hi : i < c.length) (h : t.getD (a + i) 0 = c.getD i 0) : mt t c a = true := by
  unfold mt
  rw [List.any_eq_true]
  exact ⟨i, by simpa using hi, by simpa using h⟩
theorem mt_drop (t c : List UInt8) (a : Nat) : mt (t.drop a) c 0 = mt t c a := by
  unfold mt
  congr 1
  funext i
  rw [Nat.zero_add]
  simp [List.getD_eq_getElem?_getD, List.getElem?_drop]
theorem byte_ne {x y : UInt8} (h : ¬ x = y) : (((x.toNat : Nat) : Int) == ((y.toNat : Nat) : Int)) = false := by
  simp
  intro e
  exact h (UInt8.toNat_inj.1 (by omega))
set_option maxRecDepth 100000 in
set_option maxHeartbeats 1000000 in
theorem meet_any (t c : ByteArray) (hs : c.size ≤ t.size) (hc : c.size ≤ 65536) (w : World) : Calls Try.prog 63 #[.string t, .string c] w fun e w' => e = .returned (.bool (mt t.data.toList c.data.toList 0)) ∧ Below w.heap.size w w' := by
  have HL : Hid (c.size = c.data.toList.length) := Pl.size_len c
  go_enter Try.func63, Try.ntmps63
  go_wp2_with fail
  go_loopw [8] (fun i W => ∃ k : Nat, k ≤ c.size ∧ i = .int .i64 (k : Nat) ∧ (∀ j, j < k → t.data.toList.getD j 0 ≠ c.data.toList.getD j 0) ∧ Below w.heap.size w W) (fun i _ => ((c.size : Int) - intOf i).toNat)
  case atStart => exact ⟨0, by omega, rfl, fun j hj => by omega, Below.refl _ _⟩
  case round =>
    obtain ⟨k, hk, rfl, hn, hbe⟩ := hrel
    have HN := (show Hid _ from hn)
    have HBE := (show Hid _ from hbe)
    clear hn hbe
    by_cases hlt : k < c.size
    · have HLT : Hid (k < c.size) := hlt
      have hl1 : (k : Int) < (c.size : Int) := by omega
      have hl2 : (k : Int) < (t.size : Int) := by omega
      have hl3 : k < t.size := by omega
      have hx := (getD_byte t k hl3).symm
      have hy := (getD_byte c k hlt).symm
      have HNX : Hid (t.data.toList.getD k 0 ≠ c.data.toList.getD k 0 → ∀ j, j < k + 1 → t.data.toList.getD j 0 ≠ c.data.toList.getD j 0) := fun h j hj => by
        by_cases e : j = k
        · rw [e]; exact h
        · exact HN.out j (by omega)
      have HYES : Hid (t.data.toList.getD k 0 = c.data.toList.getD k 0 → mt t.data.toList c.data.toList 0 = true) := fun h => mt_true (i := k) (by rw [← HL.out]; exact HLT.out) (by rw [Nat.zero_add]; exact h)
      generalize t.data.toList.getD k 0 = x at *
      generalize c.data.toList.getD k 0 = y at *
      by_cases hxy : x = y
      · subst hxy
        have HT := (show Hid _ from HYES.out rfl)
        have hb : (((x.toNat : Nat) : Int) == ((x.toNat : Nat) : Int)) = true := by simp
        clear HYES HNX
        go_upto_region 4 with fail
        go_quiet (fail)
        go_wp2
        go_ret
        exact ⟨by rw [HT.out]; rfl, HBE.out.trans ⟨rfl, rfl, rfl, Nat.le_refl _, fun _ _ => rfl⟩⟩
      · have HNN := (show Hid _ from HNX.out hxy)
        have hb := byte_ne hxy
        clear HYES HNX hxy
        go_upto_region 4 with fail
        go_quiet (fail)
        go_wp2
        go_roundw
        case rel => exact ⟨k + 1, HLT.out, by go_num, HNN.out, HBE.out.trans ⟨rfl, rfl, rfl, Nat.le_refl _, fun _ _ => rfl⟩⟩
        case measure => have := HLT.out; simp [intOf]; omega
    · obtain rfl : k = c.size := by omega
      have hnn : ¬ ((c.size : Nat) : Int) < ((c.size : Nat) : Int) := by omega
      have HF : Hid (mt t.data.toList c.data.toList 0 = false) := mt_false fun i hi => by rw [Nat.zero_add]; exact HN.out i (by rw [HL.out]; exact hi)
      clear hlt
      go_wp2
      go_ret
      exact ⟨by rw [HF.out]; rfl, HBE.out⟩
/-- The first k places at which a crib may lie. -/
def plTo (t c : List UInt8) (k : Nat) : List Nat := (List.range k).filter fun a => !mt t c a
def plN (t c : List UInt8) : Nat := t.length + 1 - c.length
theorem plTo_yes {t c : List UInt8} {k : Nat} (h : mt t c k = false) : plTo t c (k + 1) = plTo t c k ++ [k] := by
  unfold plTo
  rw [List.range_succ, List.filter_append]
  simp [h]
theorem plTo_no {t c : List UInt8} {k : Nat} (h : mt t c k = true) : plTo t c (k + 1) = plTo t c k := by
  unfold plTo
  rw [List.range_succ, List.filter_append]
  simp [h]
theorem plTo_len (t c : List UInt8) (k : Nat) : (plTo t c k).length ≤ k := by
  have := List.length_filter_le (fun a => !mt t c a) (List.range k)
  unfold plTo
  simpa using this
/-- What Places says. -/
def plE (t c : List UInt8) : Int := if ckE t ≠ 0 then ckE t else ckE c
def plAt (t c : List UInt8) : Int := if ckE t ≠ 0 then ckAt t else if ckE c ≠ 0 then ckAt c else 0
def plL (t c : List UInt8) : List Nat := if plE t c ≠ 0 then [] else plTo t c (plN t c)

theorem own_stepN {W W' : World} {B : Nat} {v : Value} {l : List Nat} (h : OwnsN W B v l) (hb : Below W.heap.size W W') : OwnsN W' B v l := own_step h hb
theorem own_two {w W : World} {v : Value} {l : List Nat} {x y : Value} (h : OwnsN W (w.heap.size + 1) v l) : OwnsN ((W.setCell ⟨w.heap.size, 0, none⟩ x).setCell ⟨w.heap.size, 1, none⟩ y) (w.heap.size + 1) v l := by
  have h' : W.ownsRow (w.heap.size + 1) 3 1 v l.length (nums l) := h
  have hne : v.ownBlock = none ∨ v.ownBlock ≠ some w.heap.size := .inr fun e => by have := (World.ownsRow.lt h' _ e).1; omega
  exact World.ownsRow.kept (World.ownsRow.kept h' (grown_set W w.heap.size 0 x) hne) (grown_set _ w.heap.size 1 y) hne

set_option maxRecDepth 100000 in
set_option maxHeartbeats 2000000 in
theorem places_bad1 (t c : ByteArray) (E A : Int) (hE : (E != 0) = true) (w : World) (HT : Hid (∀ W, Calls Try.prog 41 #[.string t] W fun e w' => e = .returned (.agg #[.int .i64 E, .int .i64 A]) ∧ Below W.heap.size W w')) : Calls Try.prog 39 #[.string t, .string c] w fun e w' => e = .returned (.tuple #[.slice none 0 0, .agg #[.int .i64 E, .int .i64 A]]) ∧ Below w.heap.size w w' := by
  go_enter Try.func39, Try.ntmps39
  go_wp2_with fail
  refine (HT.out _).mono ?_
  rintro e W1 ⟨rfl, hb⟩
  have hb1 : Below (w.heap.size + 1) (w.alloc (.cells #[.int .i64 0, .int .i64 0] 46)) W1 := by simpa using hb
  have hz := hb1.size
  simp at hz
  have hb2 := hb1.alloc (by omega) (.cells #[.int .i64 E, .int .i64 A] 46)
  clear hb
  obtain ⟨c0, c1, f0, f1, hsz⟩ := Kit.two_cells hb2
  clear HT hb1
  go_wp2_with fail
  go_region
  all_goals (try go_wp2)
  have q := Kit.read_two (.int .i64 E) (.int .i64 A) c0 c1
  refine bodyPost_ret (v := .tuple #[.slice none 0 0, .agg #[.int .i64 E, .int .i64 A]]) (by simp [results, Try.results39, go_sem, q.1, q.2]) rfl ⟨rfl, ?_⟩
  exact (Kit.below_two hb2 _ _).drew
set_option maxRecDepth 100000 in
set_option maxHeartbeats 2000000 in
theorem places_bad2 (t c : ByteArray) (E A : Int) (hE : (E != 0) = true) (w : World) (HT : Hid (∀ W, Calls Try.prog 41 #[.string t] W fun e w' => e = .returned (.agg #[.int .i64 0, .int .i64 0]) ∧ Below W.heap.size W w')) (HC : Hid (∀ W, Calls Try.prog 41 #[.string c] W fun e w' => e = .returned (.agg #[.int .i64 E, .int .i64 A]) ∧ Below W.heap.size W w')) : Calls Try.prog 39 #[.string t, .string c] w fun e w' => e = .returned (.tuple #[.slice none 0 0, .agg #[.int .i64 E, .int .i64 A]]) ∧ Below w.heap.size w w' := by
  go_enter Try.func39, Try.ntmps39
  go_wp2_with fail
  refine (HT.out _).mono ?_
  rintro e W1 ⟨rfl, hb⟩
  have hb1 : Below (w.heap.size + 1) (w.alloc (.cells #[.int .i64 0, .int .i64 0] 46)) W1 := by simpa using hb
  have hz := hb1.size
  simp at hz
  have hb2 := hb1.alloc (by omega) (.cells #[.int .i64 0, .int .i64 0] 46)
  clear hb HT hb1
  go_wp2_with fail
  refine (HC.out _).mono ?_
  rintro e W2 ⟨rfl, hb⟩
  have hb3 := hb2.trans (hb.mono (by have := hb2.size; simp at this ⊢; omega))
  have hb4 := hb3.alloc (by have := hb3.size; simp at this; omega) (.cells #[.int .i64 E, .int .i64 A] 46)
  clear hb hb2 hb3 HC
  obtain ⟨c0, c1, f0, f1, hsz⟩ := Kit.two_cells hb4
  go_wp2_with fail
  go_region
  all_goals (try go_wp2)
  have q := Kit.read_two (.int .i64 E) (.int .i64 A) c0 c1
  refine bodyPost_ret (v := .tuple #[.slice none 0 0, .agg #[.int .i64 E, .int .i64 A]]) (by simp [results, Try.results39, go_sem, q.1, q.2]) rfl ⟨rfl, ?_⟩
  exact (Kit.below_two hb4 _ _).drew

set_option maxRecDepth 100000 in
set_option maxHeartbeats 4000000 in
theorem places_ok (t c : ByteArray) (ht : t.size ≤ 65536) (hc : c.size ≤ 65536) (w : World) (HT : Hid (∀ W, Calls Try.prog 41 #[.string t] W fun e w' => e = .returned (.agg #[.int .i64 0, .int .i64 0]) ∧ Below W.heap.size W w')) (HC : Hid (∀ W, Calls Try.prog 41 #[.string c] W fun e w' => e = .returned (.agg #[.int .i64 0, .int .i64 0]) ∧ Below W.heap.size W w')) : Calls Try.prog 39 #[.string t, .string c] w fun e w' => ∃ v, e = .returned (.tuple #[v, .agg #[.int .i64 0, .int .i64 0]]) ∧ OwnsN w' (w.heap.size + 1) v (plTo t.data.toList c.data.toList (plN t.data.toList c.data.toList)) ∧ Below w.heap.size w w' := by
  obtain ⟨i0, hi0, hz0, hz1, hz2⟩ := info_parts info_int3
  have HPN : Hid (plN t.data.toList c.data.toList = t.size + 1 - c.size) := by unfold plN; rw [Hid, Pl.size_len t, Pl.size_len c]
  go_enter Try.func39, Try.ntmps39
  go_wp2_with fail
  refine (HT.out _).mono ?_
  rintro e W1 ⟨rfl, hb⟩
  have hb1 : Below (w.heap.size + 1) (w.alloc (.cells #[.int .i64 0, .int .i64 0] 46)) W1 := by simpa using hb
  have hz := hb1.size
  simp at hz
  have hb2 := hb1.alloc (by omega) (.cells #[.int .i64 0, .int .i64 0] 46)
  clear hb HT hb1 hz
  go_wp2_with fail
  refine (HC.out _).mono ?_
  rintro e W2 ⟨rfl, hb⟩
  have hb3 := hb2.trans (hb.mono (by have := hb2.size; simp at this ⊢; omega))
  have hb4 := hb3.alloc (by have := hb3.size; simp at this; omega) (.cells #[.int .i64 0, .int .i64 0] 46)
  clear hb hb2 hb3 HC
  go_upto_region 8 with fail
  generalize W2.alloc (.cells #[.int .i64 0, .int .i64 0] 46) = V at *
  have hsz := (Kit.two_cells hb4).2.2.2.2
  have HVZ : Hid ((w.alloc (.cells #[.int .i64 0, .int .i64 0] 46)).heap.size = w.heap.size + 1) := by simp [Hid]
  obtain ⟨w1, hw1⟩ : ∃ x, x = w.alloc (.cells #[.int .i64 0, .int .i64 0] 46) := ⟨_, rfl⟩
  rw [← hw1] at hb4 HVZ
  have HW1 := (show Hid _ from hw1)
  clear hw1

  obtain ⟨n, hn⟩ : ∃ n, n = t.size + 1 - c.size := ⟨_, rfl⟩
  have HNE := (show Hid _ from hn)
  rw [← hn] at HPN
  have hn2 : n ≤ 65537 := by omega
  clear hn
  go_wp2_with fail
  go_loopw [8, 28] (fun o i W => ∃ (k : Nat) (v : Value), k ≤ n ∧ i = .int .i64 (k : Nat) ∧ v = o ∧ OwnsN W (w.heap.size + 1) v (plTo t.data.toList c.data.toList k) ∧ Below (w.heap.size + 1) w1 W) (fun _ i _ => ((n : Int) - intOf i).toNat)
  case atStart => exact ⟨0, _, by omega, rfl, rfl, World.ownsRow_nil _ _ _ _, hb4⟩
  case round =>
    clear hb4
    obtain ⟨k, v, hk, rfl, rfl, hown, hbe⟩ := hrel
    have hln := plTo_len t.data.toList c.data.toList k
    have hbz := hbe.size
    have HBX := (show Hid _ from hbe)
    have HOWN := (show Hid _ from hown)
    by_cases hlt : k < n
    · have HLT : Hid (k < n) := hlt
      have hlt2 : (k : Int) < (t.size : Int) - (c.size : Int) + 1 := by have := HNE.out; omega
      have hkt : k ≤ t.size := by have := HNE.out; omega
      have hkt2 : (k : Int) ≤ (t.size : Int) := by omega
      have HME := (show Hid (∀ W, Calls Try.prog 63 #[.string (t.extract k t.size), .string c] W fun e w' => e = .returned (.bool (mt t.data.toList c.data.toList k)) ∧ Below W.heap.size W w') from fun W => by
        have h1 := meet_any (t.extract k t.size) c (by rw [ByteArray.size_extract]; have := HNE.out; omega) hc W
        have h2 : (t.extract k t.size).data.toList = t.data.toList.drop k := by
          have h3 := Pl.size_len t
          simp [ByteArray.data_extract, List.extract_eq_take_drop]
          exact List.take_of_length_le (by rw [List.length_drop]; omega)
        rw [h2, mt_drop] at h1
        exact h1)
      clear hlt hown hbe
      go_wp2_with fail
      refine (HME.out _).mono ?_
      rintro e X ⟨rfl, hb⟩
      have hown := own_stepN HOWN.out hb
      have hbe := HBX.out.trans (hb.mono (by rw [← HVZ.out]; exact HBX.out.size))
      have hz5 : w.heap.size + 1 ≤ X.heap.size := by rw [← HVZ.out]; exact hbe.size
      clear HBX HOWN hb HME
      cases hm : mt t.data.toList c.data.toList k
      · have HPL : Hid (plTo t.data.toList c.data.toList (k + 1) = plTo t.data.toList c.data.toList k ++ [k]) := plTo_yes hm
        clear hm
        generalize plTo t.data.toList c.data.toList k = L at *
        go_wp2_with (first | (at_builtin; refine wpList_append_own _ rfl _ _ 23 rfl (w.heap.size + 1) 3 i0 (.int .i64 0) 1 8 Try.underlying23 hi0 hz0 hz1 hz2 rfl (by decide) _ _ _ rfl (World.ownsRow.alloc hown _) ⟨X.heap.size, 0, none⟩ 1 1 [.int .i64 (k : Nat)] rfl rfl (cell_one_new _ _ _) (fun u hu => by simp at hu; subst hu; rfl) (by unfold maxLen; omega) (by omega) (by simp; omega) ?_; intro v' w1' hown' hgrow _))
        go_roundw
        case rel =>
          refine ⟨k + 1, v', HLT.out, by go_num, rfl, ?_, ?_⟩
          · rw [HPL.out, OwnsN, nums_append, List.length_append]
            exact hown'
          · exact (hbe.alloc (by omega) _).grown hgrow (by simp; omega) (fun j hj => by have := (World.ownsRow.lt hown j hj).1; omega)
        case measure => have := HLT.out; simp [intOf]; omega
      · have HPL : Hid (plTo t.data.toList c.data.toList (k + 1) = plTo t.data.toList c.data.toList k) := plTo_no hm
        clear hm
        go_wp2
        go_roundw
        case rel => exact ⟨k + 1, v, HLT.out, by go_num, rfl, by rw [HPL.out]; exact hown, hbe⟩
        case measure => have := HLT.out; simp [intOf]; omega
    · obtain rfl : k = n := by omega
      have hnn : ¬ ((k : Nat) : Int) < (t.size : Int) - (c.size : Int) + 1 := by have := HNE.out; omega
      have HKN : Hid (k = plN t.data.toList c.data.toList) := HPN.out.symm
      clear hlt hown hbe

      have hbx := HBX.out
      rw [HW1.out] at hbx
      obtain ⟨c0, c1, f0, f1, hsz⟩ := Kit.two_cells hbx
      obtain ⟨av, cv, hev⟩ := own_slice' HOWN.out
      have HEV := (show Hid _ from hev)
      clear hev hsz hbx
      go_wp2
      have q := Kit.read_two (.int .i64 0) (.int .i64 0) c0 c1
      have hbx := HBX.out
      rw [HW1.out] at hbx
      refine bodyPost_ret (v := .tuple #[v, .agg #[.int .i64 0, .int .i64 0]]) (by simp [results, Try.results39, go_sem, q.1, q.2]) rfl ⟨v, rfl, ?_, Kit.below_two hbx _ _⟩
      rw [← HKN.out]
      exact own_two HOWN.out
theorem places_any (t c : ByteArray) (w : World) : Calls Try.prog 39 #[.string t, .string c] w fun e w' => ∃ v, e = .returned (.tuple #[v, .agg #[.int .i64 (plE t.data.toList c.data.toList), .int .i64 (plAt t.data.toList c.data.toList)]]) ∧ OwnsN w' (w.heap.size + 1) v (plL t.data.toList c.data.toList) ∧ Below w.heap.size w w' := by
  have HT := fun W => check_all t W
  have HC := fun W => check_all c W
  have s1 := Pl.size_len t
  have s2 := Pl.size_len c
  unfold plE plAt plL plE
  rcases ck_cases t.data.toList with ⟨e1, e2, e3, _⟩ | h1
  · rw [e1, e2] at HT
    rcases ck_cases c.data.toList with ⟨d1, d2, d3, _⟩ | h2
    · rw [d1, d2] at HC
      simp only [e1, e2, d1, d2, ne_eq, not_true_eq_false, if_false]
      exact places_ok t c (by omega) (by omega) w HT HC
    · have h3 : ckE c.data.toList ≠ 0 := by simpa using h2
      simp only [e1, e2, h3, ne_eq, not_true_eq_false, not_false_eq_true, if_true, if_false]
      exact (places_bad2 t c _ _ h2 w HT HC).mono fun e w' h => ⟨_, h.1, World.ownsRow_nil _ _ _ _, h.2⟩
  · have h3 : ckE t.data.toList ≠ 0 := by simpa using h1
    simp only [h3, ne_eq, not_false_eq_true, if_true]
    exact (places_bad1 t c _ _ h1 w HT).mono fun e w' h => ⟨_, h.1, World.ownsRow_nil _ _ _ _, h.2⟩
end Go.Proofs.Ytbbpbcmpemmgjaa

/-
  Contracts of bombe.emptyBoard and (*board).say.
-/
namespace Go.Proofs.Ytbbpbcmpemmgjaa
open Go.RowKit PK Vg

/-- The 53 cells of a board. -/
def bdF (p : Nat → Int) (s : Nat → Nat) (n : Nat) : Nat → Int := fun i => if i < 26 then p i else if i < 52 then (s (i - 26) : Nat) else (n : Nat)
theorem bd_pair (p : Nat → Int) (s : Nat → Nat) (n : Nat) {x : Nat} (hx : x < 26) (v : Int) : upd (bdF p s n) x v = bdF (upd p x v) s n := funext fun i => by
  unfold upd bdF
  by_cases e : i = x
  · rw [if_pos e, if_pos (by omega)]; exact (if_pos e).symm
  · rw [if_neg e]
    by_cases h : i < 26
    · rw [if_pos h, if_pos h]; exact (if_neg e).symm
    · rw [if_neg h, if_neg h]
theorem bd_said (p : Nat → Int) (s : Nat → Nat) (n : Nat) {k : Nat} (hk : k < 26) (x : Nat) : upd (bdF p s n) (26 + k) (x : Nat) = bdF p (fun j => if j = k then x else s j) n := funext fun i => by
  unfold upd bdF
  by_cases e : i = 26 + k
  · rw [if_pos e, if_neg (by omega), if_pos (by omega)]
    show ((x : Nat) : Int) = ((if i - 26 = k then x else s (i - 26) : Nat) : Int)
    rw [if_pos (by omega)]
  · rw [if_neg e]
    by_cases h : i < 26
    · rw [if_pos h, if_pos h]
    · rw [if_neg h, if_neg h]
      by_cases h2 : i < 52
      · rw [if_pos h2, if_pos h2]
        show ((s (i - 26) : Nat) : Int) = ((if i - 26 = k then x else s (i - 26) : Nat) : Int)
        rw [if_neg (by omega)]
      · rw [if_neg h2, if_neg h2]
theorem bd_many (p : Nat → Int) (s : Nat → Nat) (n m : Nat) : ints 53 (upd (bdF p s n) 52 (m : Nat)) = ints 53 (bdF p s m) := ints_ext fun i hi => by
  unfold upd bdF
  by_cases e : i = 52
  · rw [if_pos e, if_neg (by omega), if_neg (by omega)]
  · rw [if_neg e]
    by_cases h : i < 26
    · rw [if_pos h, if_pos h]
    · rw [if_neg h, if_neg h, if_pos (by omega), if_pos (by omega)]
theorem bd_x (p : Nat → Int) (s : Nat → Nat) (n : Nat) {x : Nat} (hx : x < 26) : bdF p s n x = p x := if_pos hx
theorem bd_s (p : Nat → Int) (s : Nat → Nat) (n : Nat) {k : Nat} (hk : k < 26) : bdF p s n (26 + k) = (s k : Nat) := by
  unfold bdF
  rw [if_neg (by omega), if_pos (by omega), show 26 + k - 26 = k by omega]
theorem bd_n (p : Nat → Int) (s : Nat → Nat) (n : Nat) : bdF p s n 52 = (n : Nat) := by
  unfold bdF
  rw [if_neg (by omega), if_neg (by omega)]
theorem built_board : Try.prog.built 152 [] = some (ints 53 fun _ => 0) := by kernel_rfl
/-- A board. -/
def BdAt (W : World) (q : Nat) (p : Nat → Int) (s : Nat → Nat) (n : Nat) : Prop := RowAt W q 152 (ints 53 (bdF p s n))
set_option maxRecDepth 100000 in
set_option maxHeartbeats 2000000 in
theorem empty_any (w : World) : Calls Try.prog 89 #[] w fun e w' => ∃ q, e = .returned (.pointer (some ⟨q, 0, none⟩)) ∧ w.heap.size ≤ q ∧ BdAt w' q (fun _ => -1) (fun _ => 0) 0 ∧ Below w.heap.size w w' := by
  have hr0 : RowAt (w.alloc (.cells (ints 53 fun _ => 0) 152)) w.heap.size 152 (ints 53 (bdF (fun c => if c < 0 then -1 else 0) (fun _ => 0) 0)) := by
    have e : ints 53 (bdF (fun c => if c < 0 then -1 else 0) (fun _ => 0) 0) = ints 53 fun _ => 0 := ints_ext fun i _ => by
      unfold bdF
      by_cases h1 : i < 26
      · rw [if_pos h1]; exact if_neg (by omega)
      · rw [if_neg h1]
        by_cases h2 : i < 52
        · rw [if_pos h2]; rfl
        · rw [if_neg h2]; rfl
    rw [e]
    exact RowAt.new w _ _
  have hb0 := (Below.refl w.heap.size w).alloc (Nat.le_refl _) (.cells (ints 53 fun _ => 0) 152)
  go_enter Try.func89, Try.ntmps89
  go_upto_region 2 with (first | refine wpList_build0 rfl 152 rfl (ints 53 fun _ => 0) built_board ?_)
  generalize w.alloc (.cells (ints 53 fun _ => 0) 152) = W0 at *
  go_wp2_with fail
  go_loopw [5] (fun i W => ∃ k : Nat, k ≤ 26 ∧ i = .int .i64 (k : Nat) ∧ RowAt W w.heap.size 152 (ints 53 (bdF (fun c => if c < k then -1 else 0) (fun _ => 0) 0)) ∧ Below w.heap.size w W) (fun i _ => ((26 : Int) - intOf i).toNat)
  case atStart => exact ⟨0, by omega, rfl, hr0, hb0⟩
  case round =>
    clear hr0 hb0
    obtain ⟨k, hk, rfl, hr, hbe⟩ := hrel
    by_cases hlt : k < 26
    · have HLT : Hid (k < 26) := hlt
      have hlt2 : (k : Int) < 26 := by omega
      have hc := hr.cell (ints_get (bdF (fun c => if c < k then -1 else 0) (fun _ => 0) 0) (i := k) (by omega))
      have hf := hr.frozen k
      have HN : Hid (RowAt (wr.setCell ⟨w.heap.size, k, none⟩ (.int .i64 (-1))) w.heap.size 152 (ints 53 (bdF (fun c => if c < k + 1 then -1 else 0) (fun _ => 0) 0)) ∧ Below w.heap.size w (wr.setCell ⟨w.heap.size, k, none⟩ (.int .i64 (-1)))) := by
        refine ⟨?_, hbe.setCell (p := ⟨w.heap.size, k, none⟩) (Nat.le_refl _) _⟩
        have h1 := hr.set k (.int .i64 (-1))
        rw [ints_set, bd_pair _ _ _ hlt] at h1
        have e : upd (fun c => if c < k then (-1 : Int) else 0) k (-1) = fun c => if c < k + 1 then -1 else 0 := funext fun c => by
          unfold upd
          by_cases e1 : c = k
          · rw [if_pos e1, if_pos (by omega)]
          · rw [if_neg e1]
            show (if c < k then (-1 : Int) else 0) = if c < k + 1 then -1 else 0
            by_cases e2 : c < k
            · rw [if_pos e2, if_pos (by omega)]
            · rw [if_neg e2, if_neg (by omega)]
        rw [e] at h1
        exact h1
      generalize bdF (fun c => if c < k then -1 else 0) (fun _ => 0) 0 = F at *
      clear hlt hr hbe
      go_wp2
      go_roundw
      case rel => exact ⟨k + 1, HLT.out, by go_num, HN.out.1, HN.out.2⟩
      case measure => have := HLT.out; simp [intOf]; omega
    · obtain rfl : k = 26 := by omega
      have HR : Hid (BdAt wr w.heap.size (fun _ => -1) (fun _ => 0) 0) := by
        have e : ints 53 (bdF (fun _ => -1) (fun _ => 0) 0) = ints 53 (bdF (fun c => if c < 26 then -1 else 0) (fun _ => 0) 0) := ints_ext fun i _ => by
          unfold bdF
          by_cases h1 : i < 26
          · rw [if_pos h1, if_pos h1]; exact (if_pos h1).symm
          · rw [if_neg h1, if_neg h1]
        rw [Hid, BdAt, e]
        exact hr
      have HBE := (show Hid _ from hbe)
      clear hr hbe hlt
      go_wp2
      go_ret
      exact ⟨_, rfl, Nat.le_refl _, HR.out, HBE.out⟩
set_option maxRecDepth 100000 in
set_option maxHeartbeats 4000000 in
theorem say_any (q : Nat) (p : Nat → Int) (s : Nat → Nat) (n x y : Nat) (hx : x < 26) (hn : p x = -1 → n < 26) (w : World) (hb : BdAt w q p s n) : Calls Try.prog 90 #[.pointer (some ⟨q, 0, none⟩), .int .i64 (x : Nat), .int .i64 (y : Nat)] w fun e w' => w.grownBy w' (some q) ∧ ((p x = -1 ∧ e = .returned (.bool true) ∧ BdAt w' q (upd p x (y : Nat)) (fun j => if j = n then x else s j) (n + 1)) ∨ (p x ≠ -1 ∧ e = .returned (.bool (p x == ((y : Nat) : Int))) ∧ BdAt w' q p s n)) := by
  have hx2 : (x : Int) < 26 := by omega
  have hr : RowAt w q 152 (ints 53 (bdF p s n)) := hb
  have hc := hr.cell (ints_get (bdF p s n) (i := x) (by omega))
  rw [bd_x p s n hx] at hc
  by_cases hp : p x = -1
  · have HPX := (show Hid _ from hp)
    have hn26 := hn hp
    have hn2 : (n : Int) < 26 := by omega
    rw [hp] at hc
    have hf := hr.frozen x
    have hr1 : RowAt (w.setCell ⟨q, x, none⟩ (.int .i64 (y : Nat))) q 152 (ints 53 (bdF (upd p x (y : Nat)) s n)) := by
      have h1 := hr.set x (.int .i64 (y : Nat))
      rw [ints_set, bd_pair _ _ _ hx] at h1
      exact h1
    have hg1 := grown_set w q x (.int .i64 (y : Nat))
    clear hr hb hp hn
    go_enter Try.func90, Try.ntmps90
    go_upto_region 3 with fail
    generalize w.setCell ⟨q, x, none⟩ (.int .i64 (y : Nat)) = W1 at *
    clear hc hf
    have hSd : ∃ s', (s' = s ∨ s' = fun j => if j = n then x else s j) ∧ RowAt W1.drew q 152 (ints 53 (bdF (upd p x (y : Nat)) s' n)) := ⟨s, .inl rfl, hr1⟩
    have hr1d : RowAt W1.drew q 152 (ints 53 (bdF (upd p x (y : Nat)) s n)) := hr1
    have hg1d : w.grownBy W1.drew (some q) := ⟨hg1.os, hg1.tape, hg1.output, hg1.size, hg1.block⟩
    clear hr1 hg1
    refine wp_region_noPanic ?_
    refine wp_region_held_drew (S := fun W => ∃ s', (s' = s ∨ s' = fun j => if j = n then x else s j) ∧ RowAt W q 152 (ints 53 (bdF (upd p x (y : Nat)) s' n))) (by kernel_rfl) hSd (fun hS => ?_)
    clear hSd
    obtain ⟨U, hU⟩ : ∃ x, x = W1.drew := ⟨_, rfl⟩
    rw [← hU] at hS hr1d hg1d ⊢
    clear hU
    refine vtake 0 20 (.pointer (some ⟨q, 0, none⟩)) rfl rfl (by kernel_rfl) (by kernel_rfl) (by kernel_rfl) (fun _ _ _ _ h => h) (by rfl) (fun W hW => by clear hS hW; go_simp) hS ?_
    simp only [List.setIfInBounds_toArray, List.set_cons_succ, List.set_cons_zero]
    refine vtake 1 21 (.pointer (some ⟨q, 0, none⟩)) rfl rfl (by kernel_rfl) (by kernel_rfl) (by kernel_rfl) (fun _ _ _ _ h => h) (by rfl) (fun W hW => by clear hS hW; go_simp) hS ?_
    simp only [List.setIfInBounds_toArray, List.set_cons_succ, List.set_cons_zero]
    refine vtake 2 22 (.pointer (some ⟨q, 0, none⟩)) rfl rfl (by kernel_rfl) (by kernel_rfl) (by kernel_rfl) (fun _ _ _ _ h => h) (by rfl) (fun W hW => by clear hS hW; go_simp) hS ?_
    simp only [List.setIfInBounds_toArray, List.set_cons_succ, List.set_cons_zero]
    refine vtake 3 23 (.pointer (some ⟨q, 52, none⟩)) rfl rfl (by kernel_rfl) (by kernel_rfl) (by kernel_rfl) (fun _ _ _ _ h => h) (by rfl) (fun W hW => by clear hS hW; go_simp) hS ?_
    simp only [List.setIfInBounds_toArray, List.set_cons_succ, List.set_cons_zero]
    refine vtake 4 24 (.int .i64 (n : Nat)) rfl rfl (by kernel_rfl) (by kernel_rfl) (by kernel_rfl) (fun _ _ _ _ h => h) (by rfl) (fun W hW => by obtain ⟨s', _, hW⟩ := hW; have u := hW.cell (ints_get (bdF (upd p x (y : Nat)) s' n) (i := 52) (by omega)); rw [bd_n] at u; clear hS hW; go_simp) hS ?_
    simp only [List.setIfInBounds_toArray, List.set_cons_succ, List.set_cons_zero]
    refine vtake 5 25 (.int .i64 (x : Nat)) rfl rfl (by kernel_rfl) (by kernel_rfl) (by kernel_rfl) (fun _ _ _ _ h => h) (by rfl) (fun W hW => by clear hS hW; go_simp) hS ?_
    simp only [List.setIfInBounds_toArray, List.set_cons_succ, List.set_cons_zero]
    refine vtake 6 26 (.pointer (some ⟨q, 0, none⟩)) rfl rfl (by kernel_rfl) (by kernel_rfl) (by kernel_rfl) (fun _ _ _ _ h => h) (by rfl) (fun W hW => by clear hS hW; go_simp) hS ?_
    simp only [List.setIfInBounds_toArray, List.set_cons_succ, List.set_cons_zero]
    refine vtake 7 27 (.pointer (some ⟨q, 26, none⟩)) rfl rfl (by kernel_rfl) (by kernel_rfl) (by kernel_rfl) (fun _ _ _ _ h => h) (by rfl) (fun W hW => by clear hS hW; go_simp) hS ?_
    simp only [List.setIfInBounds_toArray, List.set_cons_succ, List.set_cons_zero]
    refine vtake 8 28 (.pointer (some ⟨q, 26 + n, none⟩)) rfl rfl (by kernel_rfl) (by kernel_rfl) (by kernel_rfl) (fun _ _ _ _ h => h) (by rfl) (fun W hW => by clear hS hW; go_simp) hS ?_
    simp only [List.setIfInBounds_toArray, List.set_cons_succ, List.set_cons_zero]
    refine wpAnyH_ready (rs := [9]) (by kernel_rfl) (by simp) ?_
    refine AllReadyH.cons (o := _) rfl (fun K hK => ?_) AllReadyH.nil
    rw [if_pos (by rfl)]
    have hc1 := hr1d.cell (ints_get (bdF (upd p x (y : Nat)) s n) (i := 26 + n) (by omega))
    have hf1 := hr1d.frozen (26 + n)
    have hr2 : RowAt (U.setCell ⟨q, 26 + n, none⟩ (.int .i64 (x : Nat))) q 152 (ints 53 (bdF (upd p x (y : Nat)) (fun j => if j = n then x else s j) n)) := by
      have h1 := hr1d.set (26 + n) (.int .i64 (x : Nat))
      rw [ints_set, bd_said _ _ _ hn26] at h1
      exact h1
    have hg2 := grown_trans hg1d (grown_set U q (26 + n) (.int .i64 (x : Nat)))
    generalize bdF (upd p x (y : Nat)) s n = F0 at *
    go_simp
    refine hK.out _ _ ⟨_, .inr rfl, hr2⟩ (fun _ => ?_)
    clear hK K hS hr1d hc1 hf1 hg1d
    refine wpAnyH_done (by kernel_rfl) ?_ _
    refine NoPanic.normal ?_
    generalize U.setCell ⟨q, 26 + n, none⟩ (.int .i64 (x : Nat)) = U2 at *
    have c2 := hr2.cell (ints_get (bdF (upd p x (y : Nat)) (fun j => if j = n then x else s j) n) (i := 52) (by omega))
    rw [bd_n] at c2
    have f2 := hr2.frozen 52
    have hr3 : RowAt (U2.setCell ⟨q, 52, none⟩ (.int .i64 ((n : Int) + 1))) q 152 (ints 53 (bdF (upd p x (y : Nat)) (fun j => if j = n then x else s j) (n + 1))) := by
      have h1 := hr2.set 52 (.int .i64 ((n : Int) + 1))
      have e : ((n : Int) + 1) = ((n + 1 : Nat) : Int) := by omega
      rw [ints_set, e, bd_many] at h1
      rw [e]
      exact h1
    have hg3 := grown_trans hg2 (grown_set U2 q 52 (.int .i64 ((n : Int) + 1)))
    have c3 := hr3.cell (ints_get (bdF (upd p x (y : Nat)) (fun j => if j = n then x else s j) (n + 1)) (i := x) (by omega))
    rw [bd_x _ _ _ hx, upd_same] at c3
    have HR3 := (show Hid _ from hr3)
    have HG3 := (show Hid _ from hg3)
    have hyy : (((y : Nat) : Int) == ((y : Nat) : Int)) = true := by simp
    clear hr2 hg2 hr3 hg3
    go_wp2
    go_ret
    exact ⟨HG3.out, .inl ⟨HPX.out, rfl, HR3.out⟩⟩
  · have HPX := (show Hid _ from hp)
    have HR := (show Hid _ from hr)
    have hpb : (p x == -1) = false := by simpa using hp
    clear hb hn hr hp
    generalize p x = v at *
    go_enter Try.func90, Try.ntmps90
    go_wp2
    go_ret
    exact ⟨World.grownBy.refl _ _, .inr ⟨HPX.out, rfl, HR.out⟩⟩
end Go.Proofs.Ytbbpbcmpemmgjaa
