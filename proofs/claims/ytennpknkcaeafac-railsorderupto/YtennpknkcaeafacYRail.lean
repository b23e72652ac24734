/-
  Contracts of rails.railOf, Rail and the statements' alive.
-/
import Derived.Test.YtennpknkcaeafacSBy
import Derived.Test.YtennpknkcaeafacRMath
namespace Go.Proofs.Ytennpknkcaeafac
open Go.RowKit PK Sm

set_option maxHeartbeats 1000000 in
theorem railOf_any (i R : Nat) (hi : i ≤ 65536) (h1 : 1 ≤ R) (h64 : R ≤ 64) (w : World) : Calls Try.prog 27 #[.int .i64 (i : Nat), .int .i64 (R : Nat)] w fun e w' => e = .returned (.int .i64 (railK R i : Nat)) ∧ w' = w := by
  by_cases h : R = 1
  · subst h
    have HV : Hid ((railK 1 i : Nat) = 0) := by rw [Hid]; unfold railK; rw [if_pos rfl]
    go_enter Try.func27, Try.ntmps27
    go_wp2
    go_ret
    exact ⟨by rw [HV.out]; rfl, rfl⟩
  · obtain ⟨s, hs⟩ : ∃ s, s = 2 * (R - 1) := ⟨_, rfl⟩
    obtain ⟨r, hr⟩ : ∃ r, r = i % s := ⟨_, rfl⟩
    have HV : Hid ((railK R i : Nat) = min r (s - r)) := by rw [Hid, hr, hs]; unfold railK; rw [if_neg h]
    have hne : (((R : Nat) : Int) == 1) = false := by simp; omega
    have e1 : (2 : Int) * (((R : Nat) : Int) - 1) = ((s : Nat) : Int) := by omega
    have hs0 : (((s : Nat) : Int) == 0) = false := by simp; omega
    have e2 : ((i : Nat) : Int) % ((s : Nat) : Int) = ((r : Nat) : Int) := by rw [hr]; omega
    have hrs : r < s := by rw [hr]; exact Nat.mod_lt _ (by omega)
    have hsb : s ≤ 126 := by omega
    obtain ⟨q, hq⟩ : ∃ q, q = s - r := ⟨_, rfl⟩
    have e3 : ((s : Nat) : Int) - ((r : Nat) : Int) = ((q : Nat) : Int) := by omega
    rw [← hq] at HV
    clear hs hr hq h
    by_cases hlt : r ≤ q
    · rw [Nat.min_eq_left hlt] at HV
      go_enter Try.func27, Try.ntmps27
      go_wp2
      go_ret
      exact ⟨by rw [HV.out]; rfl, rfl⟩
    · rw [Nat.min_eq_right (by omega)] at HV
      go_enter Try.func27, Try.ntmps27
      go_wp2
      go_ret
      exact ⟨by rw [HV.out]; rfl, rfl⟩
def tlB (n : Int) : Bool := decide (0 ≤ n ∧ n ≤ 65536)
theorem tlB_true {n : Int} (h : tlB n = true) : 0 ≤ n ∧ n ≤ 65536 := of_decide_eq_true h
theorem tlB_false {n : Int} (h : tlB n = false) : ¬ (0 ≤ n ∧ n ≤ 65536) := of_decide_eq_false h
theorem textLong_any (n : Int) (w : World) : Calls Try.prog 24 #[.int .i64 n] w fun e w' => e = .returned (.bool (tlB n)) ∧ w = w' := by
  by_cases h1 : 0 ≤ n
  · by_cases h2 : n ≤ 65536
    · have HV : Hid (tlB n = true) := by rw [Hid]; unfold tlB; simp [h1, h2]
      go_enter Try.func24, Try.ntmps24
      go_wp2
      go_ret
      exact ⟨ret_bool HV.out.symm, rfl⟩
    · have HV : Hid (tlB n = false) := by rw [Hid]; unfold tlB; simp [h1, h2]
      go_enter Try.func24, Try.ntmps24
      go_wp2
      go_ret
      exact ⟨ret_bool HV.out.symm, rfl⟩
  · have HV : Hid (tlB n = false) := by rw [Hid]; unfold tlB; simp [h1]
    go_enter Try.func24, Try.ntmps24
    go_wp2
    go_ret
    exact ⟨ret_bool HV.out.symm, rfl⟩
def railKey (R : Nat) : Int → Int := fun z => (railK R z.toNat : Nat)
set_option maxHeartbeats 1000000 in
theorem railKey_ok (R B n : Nat) (hn : n ≤ 65536) (h1 : 1 ≤ R) (h64 : R ≤ 64) (w : World) (hB : w.cell? ⟨B, 0, none⟩ = some (.int .i64 (R : Nat))) : KeyOKI 26 #[.pointer (some ⟨B, 0, none⟩)] (railKey R) n w := by
  intro W hW x hx0 hx1
  obtain ⟨i, rfl⟩ : ∃ i : Nat, x = i := ⟨x.toNat, by omega⟩
  have hc := (hW.cell (p := ⟨B, 0, none⟩) (World.block_lt_of_cell? _ _ hB)).trans hB
  have HC := (show Hid (Calls Try.prog 27 #[.int .i64 (i : Nat), .int .i64 (R : Nat)] W fun e w' => e = .returned (.int .i64 (railK R i : Nat)) ∧ w' = W) from railOf_any i R (by omega) h1 h64 W)
  show Calls Try.prog 26 #[.int .i64 (i : Nat), .pointer (some ⟨B, 0, none⟩)] W _
  clear hB hW
  go_enter Try.func26, Try.ntmps26
  go_wp2_with fail
  refine Calls.mono HC.out ?_
  rintro e W1 ⟨rfl, rfl⟩
  go_wp2
  go_ret
  exact ⟨rfl, 0, rfl⟩
set_option maxRecDepth 100000 in
set_option maxHeartbeats 1000000 in
theorem rail_ok (n R : Nat) (hn : n ≤ 65536) (h1 : 1 ≤ R) (h64 : R ≤ 64) (w : World) :
    Calls Try.prog 8 #[.int .i64 (n : Nat), .int .i64 (R : Nat)] w fun e w' => ∃ (G : Nat) (d : Nat → Int), e = .returned (.tuple #[.slice (some ⟨G, 0, none⟩) n n, .int .i64 0]) ∧ RowAt w' G 3 (ints n d) ∧ Below w.heap.size w w' ∧ w.heap.size ≤ G ∧ Order n d ∧ Srt (railKey R) d 0 n := by
  have hmf : ∀ (fn : Fn) (first cap : Array Value) (w : World), (Instr.makeFunc fn first cap).run Try.prog w = .ok (.func fn first cap) w := fun _ _ _ _ => rfl
  have HT := (show Hid (∀ W, Calls Try.prog 24 #[.int .i64 (n : Nat)] W fun e w' => e = .returned (.bool true) ∧ W = w') from fun W => by
    have := textLong_any (n : Int) W
    rw [show tlB (n : Int) = true by unfold tlB; simp; omega] at this
    exact this)
  have HS := (show Hid (Calls Try.prog 25 #[.int .i64 (n : Nat), .func (.func 26) #[] #[.pointer (some ⟨w.heap.size, 0, none⟩)]] (w.alloc (.cells #[.int .i64 (R : Nat)] 3)) fun e w' => ∃ d', e = .returned (.slice (some ⟨(w.alloc (.cells #[.int .i64 (R : Nat)] 3)).heap.size + 1, 0, none⟩) n n) ∧ RowAt w' ((w.alloc (.cells #[.int .i64 (R : Nat)] 3)).heap.size + 1) 3 (ints n d') ∧ Below (w.alloc (.cells #[.int .i64 (R : Nat)] 3)).heap.size (w.alloc (.cells #[.int .i64 (R : Nat)] 3)) w' ∧ Order n d' ∧ Srt (railKey R) d' 0 n) from sortedByI_any _ _ _ (by intro args W; go_simp) n hn _ (railKey_ok R w.heap.size n hn h1 h64 _ (by simp)))
  go_enter Try.func8, Try.ntmps8
  go_wp2_with (go_at_call 24; refine (HT.out _).mono ?_; rintro e W0 ⟨rfl, rfl⟩)
  refine Calls.mono HS.out ?_
  rintro e W1 ⟨d', rfl, ro, hb, ho, hs⟩
  go_wp2
  go_ret2
  exact ⟨(w.alloc (.cells #[.int .i64 (R : Nat)] 3)).heap.size + 1, d', by simp, ro, ((Below.refl _ _).alloc (Nat.le_refl _) _).trans (hb.mono (by simp)), by simp; omega, ho, hs⟩
theorem rail_bad (n R : Int) (h : ¬ ((0 ≤ n ∧ n ≤ 65536) ∧ 1 ≤ R ∧ R ≤ 64)) (w : World) :
    Calls Try.prog 8 #[.int .i64 n, .int .i64 R] w fun e w' => e = .returned (.tuple #[.slice none 0 0, .int .i64 3]) ∧ Below w.heap.size w w' := by
  have HT := (show Hid (∀ W, Calls Try.prog 24 #[.int .i64 n] W fun e w' => e = .returned (.bool (tlB n)) ∧ W = w') from fun W => textLong_any n W)
  cases ht : tlB n with
  | false =>
    rw [ht] at HT
    clear h ht
    go_enter Try.func8, Try.ntmps8
    go_wp2_with (go_at_call 24; refine (HT.out _).mono ?_; rintro e W0 ⟨rfl, rfl⟩)
    go_ret2
    exact ⟨rfl, (Below.refl _ _).alloc (Nat.le_refl _) _⟩
  | true =>
    rw [ht] at HT
    have h2 := tlB_true ht
    by_cases h3 : R < 1
    · clear h ht h2
      go_enter Try.func8, Try.ntmps8
      go_wp2_with (go_at_call 24; refine (HT.out _).mono ?_; rintro e W0 ⟨rfl, rfl⟩)
      go_ret2
      exact ⟨rfl, (Below.refl _ _).alloc (Nat.le_refl _) _⟩
    · have h4 : 64 < R := by omega
      clear h ht h2
      go_enter Try.func8, Try.ntmps8
      go_wp2_with (go_at_call 24; refine (HT.out _).mono ?_; rintro e W0 ⟨rfl, rfl⟩)
      go_ret2
      exact ⟨rfl, (Below.refl _ _).alloc (Nat.le_refl _) _⟩
/-- What is sorted by rails is the rails, one behind the other. -/
theorem rail_list {n R : Nat} (h1 : 1 ≤ R) {d : Nat → Int} (ho : Order n d) (hs : Srt (railKey R) d 0 n) : (byKey (railK R) R n).length = n ∧ ∀ i, i < n → d i = (((byKey (railK R) R n).getD i 0 : Nat) : Int) := by
  have h := of_list (K := railKey R) (byKey_pw (railK R) R n) (fun x => byKey_mem (fun i _ => railK_lt h1 i) x)
  exact ⟨h.1, fun i hi => srt_unique ho h.2.1 hs h.2.2 i hi⟩
theorem rail42 {d : Nat → Int} (ho : Order 4 d) (hs : Srt (railKey 2) d 0 4) : d 1 = 2 := by
  rw [(rail_list (by omega) ho hs).2 1 (by omega)]
  decide
set_option maxRecDepth 100000 in
set_option maxHeartbeats 1000000 in
theorem alive_any (w : World) : Calls Try.prog 23 #[] w fun e w' => e = .returned (.bool true) ∧ Below w.heap.size w w' := by
  have HR := (show Hid (Calls Try.prog 8 #[.int .i64 4, .int .i64 2] w fun e w' => ∃ (G : Nat) (d : Nat → Int), e = .returned (.tuple #[.slice (some ⟨G, 0, none⟩) 4 4, .int .i64 0]) ∧ RowAt w' G 3 (ints 4 d) ∧ Below w.heap.size w w' ∧ w.heap.size ≤ G ∧ Order 4 d ∧ Srt (railKey 2) d 0 4) from rail_ok 4 2 (by omega) (by omega) (by omega) w)
  go_enter Try.func23, Try.ntmps23
  go_wp2_with fail
  refine Calls.mono HR.out ?_
  rintro e W1 ⟨G, d, rfl, ro, hb, hG, ho, hs⟩
  have hc := ro.cell (ints_get d (show 1 < 4 by omega))
  rw [rail42 ho hs] at hc
  go_wp2
  go_ret
  exact ⟨rfl, hb⟩
end Go.Proofs.Ytennpknkcaeafac
