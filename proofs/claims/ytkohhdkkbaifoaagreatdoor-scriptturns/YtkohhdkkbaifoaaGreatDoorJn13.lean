/-
  Several texts, joined: YRail, YCol.
-/
import Derived.Test.YtkohhdkkbaifoaaGreatDoorJn12
import Derived.Test.YtkohhdkkbaifoaaGreatDoorJn9
import Derived.Test.YtkohhdkkbaifoaaGreatDoorJn10
/-
  Contracts of rails.railOf, Rail and the statements' alive.
-/
namespace Go.Proofs.YtkohhdkkbaifoaaGreatDoor
open Go.RowKit PK Sm

set_option maxHeartbeats 1000000 in
theorem railOf_any (i R : Nat) (hi : i ≤ 65536) (h1 : 1 ≤ R) (h64 : R ≤ 64) (w : World) : Calls Tryz.prog 171 #[.int .i64 (i : Nat), .int .i64 (R : Nat)] w fun e w' => e = .returned (.int .i64 (railK R i : Nat)) ∧ w' = w := by
  by_cases h : R = 1
  · subst h
    have HV : Hid ((railK 1 i : Nat) = 0) := by rw [Hid]; unfold railK; rw [if_pos rfl]
    go_enter Tryz.func171, Tryz.ntmps171
    go_wp2
    go_ret
    exact ⟨by rw [HV.out]; rfl, rfl⟩
  · obtain ⟨s, hs⟩ : ∃ s, s = 2 * (R - 1) := ⟨_, rfl⟩
    obtain ⟨r, hr⟩ : ∃ r, r = i % s := ⟨_, rfl⟩
    have HV : Hid ((railK R i : Nat) = min r (s - r)) := by rw [Hid, hr, hs]; unfold railK; rw [if_neg h]
    have hne : (((R : Nat) : Int) == 1) = false := by simp; omega
    have e1 : (2 : Int) * (((R : Nat) : Int) - 1) = ((s : Nat) : Int) := by omega
    have hs0 : (((s : Nat) : Int) == 0) = false := by simp; omega
    have e2 : ((i : Nat) : Int) % ((s : Nat) : Int) = ((r : Nat) : Int) := by rw [hr]; omega
    have hrs : r < s := by rw [hr]; exact Nat.mod_lt _ (by omega)
    have hsb : s ≤ 126 := by omega
    obtain ⟨q, hq⟩ : ∃ q, q = s - r := ⟨_, rfl⟩
    have e3 : ((s : Nat) : Int) - ((r : Nat) : Int) = ((q : Nat) : Int) := by omega
    rw [← hq] at HV
    clear hs hr hq h
    by_cases hlt : r ≤ q
    · rw [Nat.min_eq_left hlt] at HV
      go_enter Tryz.func171, Tryz.ntmps171
      go_wp2
      go_ret
      exact ⟨by rw [HV.out]; rfl, rfl⟩
    · rw [Nat.min_eq_right (by omega)] at HV
      go_enter Tryz.func171, Tryz.ntmps171
      go_wp2
      go_ret
      exact ⟨by rw [HV.out]; rfl, rfl⟩
def tlB (n : Int) : Bool := decide (0 ≤ n ∧ n ≤ 65536)
theorem textLong_any (n : Int) (w : World) : Calls Tryz.prog 168 #[.int .i64 n] w fun e w' => e = .returned (.bool (tlB n)) ∧ w = w' := by
  by_cases h1 : 0 ≤ n
  · by_cases h2 : n ≤ 65536
    · have HV : Hid (tlB n = true) := by rw [Hid]; unfold tlB; simp [h1, h2]
      go_enter Tryz.func168, Tryz.ntmps168
      go_wp2
      go_ret
      exact ⟨ret_bool HV.out.symm, rfl⟩
    · have HV : Hid (tlB n = false) := by rw [Hid]; unfold tlB; simp [h1, h2]
      go_enter Tryz.func168, Tryz.ntmps168
      go_wp2
      go_ret
      exact ⟨ret_bool HV.out.symm, rfl⟩
  · have HV : Hid (tlB n = false) := by rw [Hid]; unfold tlB; simp [h1]
    go_enter Tryz.func168, Tryz.ntmps168
    go_wp2
    go_ret
    exact ⟨ret_bool HV.out.symm, rfl⟩
def railKey (R : Nat) : Int → Int := fun z => (railK R z.toNat : Nat)
set_option maxHeartbeats 1000000 in
theorem railKey_ok (R B n : Nat) (hn : n ≤ 65536) (h1 : 1 ≤ R) (h64 : R ≤ 64) (w : World) (hB : w.cell? ⟨B, 0, none⟩ = some (.int .i64 (R : Nat))) : KeyOKI 170 #[.pointer (some ⟨B, 0, none⟩)] (railKey R) n w := by
  intro W hW x hx0 hx1
  obtain ⟨i, rfl⟩ : ∃ i : Nat, x = i := ⟨x.toNat, by omega⟩
  have hc := (hW.cell (p := ⟨B, 0, none⟩) (World.block_lt_of_cell? _ _ hB)).trans hB
  have HC := (show Hid (Calls Tryz.prog 171 #[.int .i64 (i : Nat), .int .i64 (R : Nat)] W fun e w' => e = .returned (.int .i64 (railK R i : Nat)) ∧ w' = W) from railOf_any i R (by omega) h1 h64 W)
  show Calls Tryz.prog 170 #[.int .i64 (i : Nat), .pointer (some ⟨B, 0, none⟩)] W _
  clear hB hW
  go_enter Tryz.func170, Tryz.ntmps170
  go_wp2_with fail
  refine Calls.mono HC.out ?_
  rintro e W1 ⟨rfl, rfl⟩
  go_wp2
  go_ret
  exact ⟨rfl, 0, rfl⟩
set_option maxRecDepth 100000 in
set_option maxHeartbeats 1000000 in
theorem rail_ok (n R : Nat) (hn : n ≤ 65536) (h1 : 1 ≤ R) (h64 : R ≤ 64) (w : World) :
    Calls Tryz.prog 124 #[.int .i64 (n : Nat), .int .i64 (R : Nat)] w fun e w' => ∃ (G : Nat) (d : Nat → Int), e = .returned (.tuple #[.slice (some ⟨G, 0, none⟩) n n, .int .i64 0]) ∧ RowAt w' G 3 (ints n d) ∧ Below w.heap.size w w' ∧ w.heap.size ≤ G ∧ Order n d ∧ Srt (railKey R) d 0 n := by
  have hmf : ∀ (fn : Fn) (first cap : Array Value) (w : World), (Instr.makeFunc fn first cap).run Tryz.prog w = .ok (.func fn first cap) w := fun _ _ _ _ => rfl
  have HT := (show Hid (∀ W, Calls Tryz.prog 168 #[.int .i64 (n : Nat)] W fun e w' => e = .returned (.bool true) ∧ W = w') from fun W => by
    have := textLong_any (n : Int) W
    rw [show tlB (n : Int) = true by unfold tlB; simp; omega] at this
    exact this)
  have HS := (show Hid (Calls Tryz.prog 169 #[.int .i64 (n : Nat), .func (.func 170) #[] #[.pointer (some ⟨w.heap.size, 0, none⟩)]] (w.alloc (.cells #[.int .i64 (R : Nat)] 3)) fun e w' => ∃ d', e = .returned (.slice (some ⟨(w.alloc (.cells #[.int .i64 (R : Nat)] 3)).heap.size + 1, 0, none⟩) n n) ∧ RowAt w' ((w.alloc (.cells #[.int .i64 (R : Nat)] 3)).heap.size + 1) 3 (ints n d') ∧ Below (w.alloc (.cells #[.int .i64 (R : Nat)] 3)).heap.size (w.alloc (.cells #[.int .i64 (R : Nat)] 3)) w' ∧ Order n d' ∧ Srt (railKey R) d' 0 n) from sortedByI_any _ _ _ (by intro args W; go_simp) n hn _ (railKey_ok R w.heap.size n hn h1 h64 _ (by simp)))
  go_enter Tryz.func124, Tryz.ntmps124
  go_wp2_with (go_at_call 168; refine (HT.out _).mono ?_; rintro e W0 ⟨rfl, rfl⟩)
  refine Calls.mono HS.out ?_
  rintro e W1 ⟨d', rfl, ro, hb, ho, hs⟩
  go_wp2
  go_ret2
  exact ⟨(w.alloc (.cells #[.int .i64 (R : Nat)] 3)).heap.size + 1, d', by simp, ro, ((Below.refl _ _).alloc (Nat.le_refl _) _).trans (hb.mono (by simp)), by simp; omega, ho, hs⟩
end Go.Proofs.YtkohhdkkbaifoaaGreatDoor

/-
  Contracts of rails.Columns and its closures.
-/
namespace Go.Proofs.YtkohhdkkbaifoaaGreatDoor
open Go.RowKit PK Sm

/-- A key's letter, as a key to sort by. -/
def keyL (l : List UInt8) : Int → Int := fun z => ((l.getD z.toNat 0).toNat : Nat)
/-- A column's turn, as a key to sort by. -/
def turnK (L : Nat) (t : Nat → Int) : Int → Int := fun z => t (z.toNat % L)
set_option maxHeartbeats 1000000 in
theorem colKey1_ok (s : ByteArray) (_ : s.size ≤ 65536) (B : Nat) (w : World) (hB : w.cell? ⟨B, 0, none⟩ = some (.string s)) : KeyOKB 173 #[.pointer (some ⟨B, 0, none⟩)] (keyL s.data.toList) s.size w := by
  intro W hW x hx0 hx1
  obtain ⟨i, rfl⟩ : ∃ i : Nat, x = i := ⟨x.toNat, by omega⟩
  have hc := (hW.cell (p := ⟨B, 0, none⟩) (World.block_lt_of_cell? _ _ hB)).trans hB
  have hi : i < s.size := by omega
  have HV : Hid (keyL s.data.toList (i : Int) = (s[i].toNat : Nat)) := by rw [Hid]; unfold keyL; rw [Int.toNat_natCast, getD_byte s i hi]
  show Calls Tryz.prog 173 #[.int .i64 (i : Nat), .pointer (some ⟨B, 0, none⟩)] W _
  clear hB hW
  go_enter Tryz.func173, Tryz.ntmps173
  go_wp2
  go_ret
  exact ⟨ret_int HV.out.symm, 0, rfl⟩
set_option maxRecDepth 100000 in
set_option maxHeartbeats 2000000 in
theorem colKey2_ok (s : ByteArray) (hs0 : 1 ≤ s.size) (hs : s.size ≤ 65536) (n : Nat) (_ : n ≤ 65536) (Bt Bk G : Nat) (t : Nat → Int) (w : World) (hk : w.cell? ⟨Bk, 0, none⟩ = some (.string s)) (ht : w.cell? ⟨Bt, 0, none⟩ = some (.slice (some ⟨G, 0, none⟩) s.size s.size)) (hr : RowAt w G 3 (ints s.size t)) :
    KeyOKI 174 #[.pointer (some ⟨Bt, 0, none⟩), .pointer (some ⟨Bk, 0, none⟩)] (turnK s.size t) n w := by
  intro W hW x hx0 hx1
  obtain ⟨i, rfl⟩ : ∃ i : Nat, x = i := ⟨x.toNat, by omega⟩
  have hck := (hW.cell (p := ⟨Bk, 0, none⟩) (World.block_lt_of_cell? _ _ hk)).trans hk
  have hct := (hW.cell (p := ⟨Bt, 0, none⟩) (World.block_lt_of_cell? _ _ ht)).trans ht
  obtain ⟨r, hr'⟩ : ∃ r, r = i % s.size := ⟨_, rfl⟩
  have hrs : r < s.size := by rw [hr']; exact Nat.mod_lt _ (by omega)
  have hrI : (r : Int) < (s.size : Int) := by omega
  have e1 : ((i : Nat) : Int) % ((s.size : Nat) : Int) = ((r : Nat) : Int) := by rw [hr']; omega
  have hne : (((s.size : Nat) : Int) == 0) = false := beq_eq_false_iff_ne.2 (by omega)
  have hcr := (hr.below hW hr.lt).cell (ints_get t hrs)
  have HV : Hid (turnK s.size t (i : Int) = t r) := by rw [Hid]; unfold turnK; rw [Int.toNat_natCast, ← hr']
  show Calls Tryz.prog 174 #[.int .i64 (i : Nat), .pointer (some ⟨Bt, 0, none⟩), .pointer (some ⟨Bk, 0, none⟩)] W _
  clear hk ht hr hW hr'
  go_enter Tryz.func174, Tryz.ntmps174
  go_wp2_with fail
  go_quiet (fail)
  go_wp2
  go_ret
  exact ⟨ret_int HV.out.symm, nq, rfl⟩
/-- What is wrong with a number of letters and a key. -/
def colE (n : Int) (l : List UInt8) : Int := if tlB n = false then 3 else if ckE l ≠ 0 then ckE l else if l.length < 1 ∨ 256 < l.length then 5 else 0
set_option maxRecDepth 100000 in
set_option maxHeartbeats 2000000 in
theorem col_bad (n : Int) (s : ByteArray) (hE : colE n s.data.toList ≠ 0) (w : World) :
    Calls Tryz.prog 125 #[.int .i64 n, .string s] w fun e w' => e = .returned (.tuple #[.slice none 0 0, .int .i64 (colE n s.data.toList)]) ∧ Below w.heap.size w w' := by
  have HT := (show Hid (∀ W, Calls Tryz.prog 168 #[.int .i64 n] W fun e w' => e = .returned (.bool (tlB n)) ∧ W = w') from fun W => textLong_any n W)
  have HCK := (show Hid (∀ W, Calls Tryz.prog 38 #[.string s] W fun e w' => e = .returned (.agg #[.int .i64 (ckE s.data.toList), .int .i64 (ckAt s.data.toList)]) ∧ Below W.heap.size W w') from fun W => check_all s W)
  have HF : Hid (colE n s.data.toList = if tlB n = false then 3 else if ckE s.data.toList ≠ 0 then ckE s.data.toList else if s.size < 1 ∨ 256 < s.size then 5 else 0) := by rw [Hid, Pl.size_len s]; rfl
  cases ht : tlB n with
  | false =>
    rw [ht] at HT
    have HV : Hid (colE n s.data.toList = 3) := by rw [Hid, HF.out, ht]; rfl
    clear hE ht HF
    go_enter Tryz.func125, Tryz.ntmps125
    go_wp2_with (go_at_call 168; refine (HT.out _).mono ?_; rintro e W0 ⟨rfl, rfl⟩)
    go_ret2
    exact ⟨by rw [HV.out]; rfl, (Below.refl _ _).alloc (Nat.le_refl _) _⟩
  | true =>
    rw [ht] at HT
    rcases ck_cases s.data.toList with ⟨h3, h4, _, _⟩ | h3
    · rw [h3, h4] at HCK
      have HV0 : Hid (colE n s.data.toList = if s.size < 1 ∨ 256 < s.size then 5 else 0) := by rw [Hid, HF.out, ht, h3]; simp
      have h6 : s.size < 1 ∨ 256 < s.size := by
        apply Classical.byContradiction
        intro hno
        rw [HV0.out, if_neg hno] at hE
        exact hE rfl
      have HV : Hid (colE n s.data.toList = 5) := by rw [Hid, HV0.out, if_pos h6]
      clear hE ht HF HV0 h3 h4
      rcases h6 with h6 | h6
      · have h7 : (s.size : Int) < 1 := by omega
        go_enter Tryz.func125, Tryz.ntmps125
        go_wp2_with (first | (go_at_call 168; refine (HT.out _).mono ?_; rintro e W0 ⟨rfl, rfl⟩) | (go_at_call 38; refine (HCK.out _).mono ?_; rintro e W1 ⟨rfl, hb⟩; have hb0 : Below (w.heap.size + 1) (w.alloc (.cells #[.string s] 9)) W1 := (by simpa using hb); have hcs := (hb0.cell (p := ⟨w.heap.size, 0, none⟩) (by simp)); have hcs2 : w.heap.size < W1.heap.size := (by have := hb0.size; simp at this; omega); simp at hcs))
        go_ret2
        exact ⟨by rw [HV.out]; rfl, (((Below.refl _ _).alloc (Nat.le_refl _) _).trans (hb0.mono (by omega))).alloc (by omega) _⟩
      · have h7 : ¬ (s.size : Int) < 1 := by omega
        have h8 : (256 : Int) < (s.size : Int) := by omega
        go_enter Tryz.func125, Tryz.ntmps125
        go_wp2_with (first | (go_at_call 168; refine (HT.out _).mono ?_; rintro e W0 ⟨rfl, rfl⟩) | (go_at_call 38; refine (HCK.out _).mono ?_; rintro e W1 ⟨rfl, hb⟩; have hb0 : Below (w.heap.size + 1) (w.alloc (.cells #[.string s] 9)) W1 := (by simpa using hb); have hcs := (hb0.cell (p := ⟨w.heap.size, 0, none⟩) (by simp)); have hcs2 : w.heap.size < W1.heap.size := (by have := hb0.size; simp at this; omega); simp at hcs))
        go_ret2
        exact ⟨by rw [HV.out]; rfl, (((Below.refl _ _).alloc (Nat.le_refl _) _).trans (hb0.mono (by omega))).alloc (by omega) _⟩
    · have HV : Hid (colE n s.data.toList = ckE s.data.toList) := by rw [Hid, HF.out, ht, if_neg (by simp), if_pos (by simpa using h3)]
      generalize ckE s.data.toList = E2 at *
      generalize ckAt s.data.toList = A2 at *
      clear hE ht HF
      go_enter Tryz.func125, Tryz.ntmps125
      go_wp2_with (first | (go_at_call 168; refine (HT.out _).mono ?_; rintro e W0 ⟨rfl, rfl⟩) | (go_at_call 38; refine (HCK.out _).mono ?_; rintro e W1 ⟨rfl, hb⟩; have hb0 : Below (w.heap.size + 1) (w.alloc (.cells #[.string s] 9)) W1 := (by simpa using hb); have hcs := (hb0.cell (p := ⟨w.heap.size, 0, none⟩) (by simp)); have hcs2 : w.heap.size < W1.heap.size := (by have := hb0.size; simp at this; omega); simp at hcs))
      go_region
      all_goals go_wp2
      go_ret2
      exact ⟨by rw [HV.out]; rfl, ((((Below.refl _ _).alloc (Nat.le_refl _) _).trans (hb0.mono (by omega))).alloc (by omega) _).drew⟩
/-- What a column's turn is told by. -/
structure Turns (l : List UInt8) (L : Nat) (t : Nat → Int) : Prop where
  ex : ∃ d, Order L d ∧ Srt (keyL l) d 0 L ∧ ∀ x, t x = backF d L x
set_option maxRecDepth 100000 in
set_option maxHeartbeats 4000000 in
theorem col_ok (n : Nat) (s : ByteArray) (hn : n ≤ 65536) (hck : ckE s.data.toList = 0) (hcat : ckAt s.data.toList = 0) (hs0 : 1 ≤ s.size) (hs : s.size ≤ 256) (w : World) :
    Calls Tryz.prog 125 #[.int .i64 (n : Nat), .string s] w fun e w' => ∃ (G : Nat) (d t : Nat → Int), e = .returned (.tuple #[.slice (some ⟨G, 0, none⟩) n n, .int .i64 0]) ∧ RowAt w' G 3 (ints n d) ∧ Below w.heap.size w w' ∧ w.heap.size ≤ G ∧ Order n d ∧ Srt (turnK s.size t) d 0 n ∧ Turns s.data.toList s.size t := by
  have hmf : ∀ (fn : Fn) (first cap : Array Value) (w : World), (Instr.makeFunc fn first cap).run Tryz.prog w = .ok (.func fn first cap) w := fun _ _ _ _ => rfl
  have HT := (show Hid (∀ W, Calls Tryz.prog 168 #[.int .i64 (n : Nat)] W fun e w' => e = .returned (.bool true) ∧ W = w') from fun W => by
    have := textLong_any (n : Int) W
    rw [show tlB (n : Int) = true by unfold tlB; simp; omega] at this
    exact this)
  have HCK := (show Hid (∀ W, Calls Tryz.prog 38 #[.string s] W fun e w' => e = .returned (.agg #[.int .i64 0, .int .i64 0]) ∧ Below W.heap.size W w') from fun W => by
    have := check_all s W
    rw [hck, hcat] at this
    exact this)
  have h7 : ¬ (s.size : Int) < 1 := by omega
  have h8 : ¬ (256 : Int) < (s.size : Int) := by omega
  clear hck hcat
  go_enter Tryz.func125, Tryz.ntmps125
  go_wp2_with (first | (go_at_call 168; refine (HT.out _).mono ?_; rintro e W0 ⟨rfl, rfl⟩) | (go_at_call 38; refine (HCK.out _).mono ?_; rintro e W1 ⟨rfl, hb⟩; have hb0 : Below (w.heap.size + 1) (w.alloc (.cells #[.string s] 9)) W1 := (by simpa using hb); have hcs := (hb0.cell (p := ⟨w.heap.size, 0, none⟩) (by simp)); have hcs2 : w.heap.size < W1.heap.size := (by have := hb0.size; simp at this; omega); simp at hcs))
  have hbw : Below w.heap.size w (W1.alloc (.cells #[.int .i64 0, .int .i64 0] 35)) := (((Below.refl _ _).alloc (Nat.le_refl _) _).trans (hb0.mono (by omega))).alloc (by omega) _
  have hcx : (W1.alloc (.cells #[.int .i64 0, .int .i64 0] 35)).cell? ⟨w.heap.size, 0, none⟩ = some (.string s) := (((Below.refl W1.heap.size W1).alloc (Nat.le_refl _) _).cell (p := ⟨w.heap.size, 0, none⟩) hcs2).trans hcs
  have hxs : w.heap.size < (W1.alloc (.cells #[.int .i64 0, .int .i64 0] 35)).heap.size := by simp; omega
  clear hb hb0 HT HCK hcs hcs2
  generalize W1.alloc (.cells #[.int .i64 0, .int .i64 0] 35) = X at *
  refine Calls.mono (sortedByB_any 173 #[.pointer (some ⟨w.heap.size, 0, none⟩)] (keyL s.data.toList) (by intro args W; go_simp) s.size (by omega) X (colKey1_ok s (by omega) w.heap.size X hcx)) ?_
  rintro e W2 ⟨d1, rfl, ro1, hb2, ho1, hs1⟩
  have hz2 := hb2.size
  have hcx2 := (hb2.cell (p := ⟨w.heap.size, 0, none⟩) hxs).trans hcx
  have hbw2 := hbw.trans (hb2.mono hbw.size)
  have hg1 : GoodO s.size d1 := GoodO.of_order ho1 (by omega)
  have HBK := (show Hid (Calls Tryz.prog 145 #[.slice (some ⟨X.heap.size + 1, 0, none⟩) s.size s.size] W2 fun e w' => e = .returned (.slice (some ⟨W2.heap.size, 0, none⟩) s.size s.size) ∧ RowAt w' W2.heap.size 3 (ints s.size (backF d1 s.size)) ∧ Below W2.heap.size W2 w') from back_any _ s.size d1 W2 (NumsAt.of_row ro1 (by unfold maxLen; omega)) hg1.lt hg1.le)
  have HTN := (show Hid (Turns s.data.toList s.size (backF d1 s.size)) from ⟨d1, ho1, hs1, fun _ => rfl⟩)
  clear hcx hbw hb2 ho1 hs1 hg1 ro1
  go_wp2_with fail
  refine Calls.mono HBK.out ?_
  rintro e W3 ⟨rfl, ro2, hb3⟩
  have hz3 := hb3.size
  have hbw3 := hbw2.trans (hb3.mono hbw2.size)
  have hcx3 := (hb3.cell (p := ⟨w.heap.size, 0, none⟩) (show w.heap.size < W2.heap.size by omega)).trans hcx2
  generalize backF d1 s.size = t at *
  have hlt := ro2.lt
  have ro3 := ro2.alloc (.cells #[.slice (some ⟨W2.heap.size, 0, none⟩) s.size s.size] 25)
  have hcx4 : (W3.alloc (.cells #[.slice (some ⟨W2.heap.size, 0, none⟩) s.size s.size] 25)).cell? ⟨w.heap.size, 0, none⟩ = some (.string s) := (((Below.refl W3.heap.size W3).alloc (Nat.le_refl _) _).cell (p := ⟨w.heap.size, 0, none⟩) (show w.heap.size < W3.heap.size by omega)).trans hcx3
  have hct : (W3.alloc (.cells #[.slice (some ⟨W2.heap.size, 0, none⟩) s.size s.size] 25)).cell? ⟨W3.heap.size, 0, none⟩ = some (.slice (some ⟨W2.heap.size, 0, none⟩) s.size s.size) := by simp
  have hbw4 := hbw3.alloc (by omega) (.cells #[.slice (some ⟨W2.heap.size, 0, none⟩) s.size s.size] 25)
  have HS := (show Hid (Calls Tryz.prog 169 #[.int .i64 (n : Nat), .func (.func 174) #[] #[.pointer (some ⟨W3.heap.size, 0, none⟩), .pointer (some ⟨w.heap.size, 0, none⟩)]] (W3.alloc (.cells #[.slice (some ⟨W2.heap.size, 0, none⟩) s.size s.size] 25)) fun e w' => ∃ d', e = .returned (.slice (some ⟨(W3.alloc (.cells #[.slice (some ⟨W2.heap.size, 0, none⟩) s.size s.size] 25)).heap.size + 1, 0, none⟩) n n) ∧ RowAt w' ((W3.alloc (.cells #[.slice (some ⟨W2.heap.size, 0, none⟩) s.size s.size] 25)).heap.size + 1) 3 (ints n d') ∧ Below (W3.alloc (.cells #[.slice (some ⟨W2.heap.size, 0, none⟩) s.size s.size] 25)).heap.size (W3.alloc (.cells #[.slice (some ⟨W2.heap.size, 0, none⟩) s.size s.size] 25)) w' ∧ Order n d' ∧ Srt (turnK s.size t) d' 0 n) from sortedByI_any _ _ _ (by intro args W; go_simp) n hn _ (colKey2_ok s hs0 (by omega) n hn W3.heap.size w.heap.size W2.heap.size t _ hcx4 hct ro3))
  clear ro2 ro3 hcx4 hct hcx3 hcx2 HBK hb3 hbw2 hbw3
  go_wp2_with fail
  refine Calls.mono HS.out ?_
  rintro e W5 ⟨d, rfl, ro5, hb5, ho, hsd⟩
  have hz4 := hbw4.size
  have hbw5 := hbw4.trans (hb5.mono hz4)
  clear hb5 HS hbw4
  go_wp2
  go_ret2
  exact ⟨(W3.alloc (.cells #[.slice (some ⟨W2.heap.size, 0, none⟩) s.size s.size] 25)).heap.size + 1, d, t, by simp, ro5, hbw5, by omega, ho, hsd, HTN.out⟩
end Go.Proofs.YtkohhdkkbaifoaaGreatDoor
