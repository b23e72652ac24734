/-
  Contracts of tableau's small functions; rows of bytes.
-/
import Derived.Test.YteomoeaoboaclaeZKit
import Derived.Test.YteomoeaoboaclaeHKit
import Derived.Deep.OwnRows
import Derived.Lib.SmallJoins
import Derived.Deep.QuietTactic
import Derived.BigQuiet
import Derived.Laws.EntriesVeiled
namespace Go.Proofs.Yteomoeaoboaclae
open Go.RowKit PK Vg

set_option maxHeartbeats 400000 in
theorem number_any (c : UInt8) (h : 65 ≤ c.toNat ∧ c.toNat ≤ 90) (w : World) : Calls Try.prog 37 #[.int .u8 c.toNat] w fun e w' => e = .returned (.int .i64 (num c : Nat)) ∧ w = w' := by
  have h1 : (c.toNat : Int) - 65 = ((num c : Nat) : Int) := by unfold num; omega
  have H1 : Hid ((c.toNat : Int) - 65 = ((num c : Nat) : Int)) := h1
  clear h1
  obtain ⟨h2, h3⟩ := h
  go_enter Try.func37, Try.ntmps37
  go_wp2
  go_ret
  exact ⟨ret_int H1.out, rfl⟩
set_option maxHeartbeats 400000 in
theorem letter_any (n : Nat) (h : n < 26) (w : World) : Calls Try.prog 36 #[.int .i64 n] w fun e w' => e = .returned (.int .u8 (ltr n).toNat) ∧ w = w' := by
  rw [ltr_toNat h]
  go_enter Try.func36, Try.ntmps36
  go_wp2
  go_ret
  exact ⟨ret_int (by omega), rfl⟩
set_option maxHeartbeats 400000 in
theorem sum_any (a b : Nat) (ha : a < 26) (hb : b < 26) (w : World) : Calls Try.prog 43 #[.int .i64 a, .int .i64 b] w fun e w' => e = .returned (.int .i64 ((a + b) % 26 : Nat)) ∧ w = w' := by
  go_enter Try.func43, Try.ntmps43
  go_wp2
  go_ret
  exact ⟨ret_int (by omega), rfl⟩
set_option maxHeartbeats 400000 in
theorem less_any (a b : Nat) (ha : a < 26) (hb : b < 26) (w : World) : Calls Try.prog 44 #[.int .i64 a, .int .i64 b] w fun e w' => e = .returned (.int .i64 ((a + 26 - b) % 26 : Nat)) ∧ w = w' := by
  go_enter Try.func44, Try.ntmps44
  go_wp2
  go_ret
  exact ⟨ret_int (by omega), rfl⟩
set_option maxHeartbeats 400000 in
theorem lack_any (a b : Nat) (ha : a < 26) (hb : b < 26) (w : World) : Calls Try.prog 45 #[.int .i64 a, .int .i64 b] w fun e w' => e = .returned (.int .i64 ((b + 26 - a) % 26 : Nat)) ∧ w = w' := by
  go_enter Try.func45, Try.ntmps45
  go_wp2_with (first | (go_at_call 44; refine (less_any b a hb ha _).mono ?_; rintro e W1 ⟨rfl, rfl⟩))
  go_ret
  exact ⟨rfl, rfl⟩
/-- Which functions a kind has: there, back, between. -/
def fn0 (k : Nat) : Nat := if k = 2 then 45 else if k = 3 then 44 else 43
def fn1 (k : Nat) : Nat := if k = 2 then 45 else if k = 3 then 43 else 44
def fn2 (k : Nat) : Nat := if k = 2 then 43 else if k = 3 then 44 else 45
theorem fn0_any (k a b : Nat) (ha : a < 26) (hb : b < 26) (w : World) : Calls Try.prog (fn0 k) #[.int .i64 a, .int .i64 b] w fun e w' => e = .returned (.int .i64 (there k a b : Nat)) ∧ w = w' := by
  unfold fn0 there
  by_cases h2 : k = 2
  · rw [if_pos h2, if_pos h2]; exact lack_any a b ha hb w
  · rw [if_neg h2, if_neg h2]
    by_cases h3 : k = 3
    · rw [if_pos h3, if_pos h3]; exact less_any a b ha hb w
    · rw [if_neg h3, if_neg h3]; exact sum_any a b ha hb w
theorem fn1_any (k a b : Nat) (ha : a < 26) (hb : b < 26) (w : World) : Calls Try.prog (fn1 k) #[.int .i64 a, .int .i64 b] w fun e w' => e = .returned (.int .i64 (back k a b : Nat)) ∧ w = w' := by
  unfold fn1 back
  by_cases h2 : k = 2
  · rw [if_pos h2, if_pos h2]; exact lack_any a b ha hb w
  · rw [if_neg h2, if_neg h2]
    by_cases h3 : k = 3
    · rw [if_pos h3, if_pos h3]; exact sum_any a b ha hb w
    · rw [if_neg h3, if_neg h3]; exact less_any a b ha hb w
theorem fn2_any (k a b : Nat) (ha : a < 26) (hb : b < 26) (w : World) : Calls Try.prog (fn2 k) #[.int .i64 a, .int .i64 b] w fun e w' => e = .returned (.int .i64 (betw k a b : Nat)) ∧ w = w' := by
  unfold fn2 betw
  by_cases h2 : k = 2
  · rw [if_pos h2, if_pos h2]; exact sum_any a b ha hb w
  · rw [if_neg h2, if_neg h2]
    by_cases h3 : k = 3
    · rw [if_pos h3, if_pos h3]; exact less_any a b ha hb w
    · rw [if_neg h3, if_neg h3]; exact lack_any a b ha hb w
theorem ent_sum (args : Array Value) (W : World) : (callFunc 43 args).run Try.prog W = .ok (.enter 43 args) W := by rfl
theorem ent_less (args : Array Value) (W : World) : (callFunc 44 args).run Try.prog W = .ok (.enter 44 args) W := by rfl
theorem ent_lack (args : Array Value) (W : World) : (callFunc 45 args).run Try.prog W = .ok (.enter 45 args) W := by rfl
theorem ent0 (k : Nat) (args : Array Value) (W : World) : (callFunc (fn0 k) args).run Try.prog W = .ok (.enter (fn0 k) args) W := by
  unfold fn0; split
  · exact ent_lack args W
  · split
    · exact ent_less args W
    · exact ent_sum args W
theorem ent1 (k : Nat) (args : Array Value) (W : World) : (callFunc (fn1 k) args).run Try.prog W = .ok (.enter (fn1 k) args) W := by
  unfold fn1; split
  · exact ent_lack args W
  · split
    · exact ent_sum args W
    · exact ent_less args W
theorem ent2 (k : Nat) (args : Array Value) (W : World) : (callFunc (fn2 k) args).run Try.prog W = .ok (.enter (fn2 k) args) W := by
  unfold fn2; split
  · exact ent_sum args W
  · split
    · exact ent_less args W
    · exact ent_lack args W
/-- A kind's table. -/
def tbl (k : Nat) : Array Value := #[.func (.func (fn0 k)) #[] #[], .func (.func (fn1 k)) #[] #[], .func (.func (fn2 k)) #[] #[], .bool (decide (k = 4))]
def tbl0 : Array Value := #[.nilFunc, .nilFunc, .nilFunc, .bool false]
set_option maxHeartbeats 400000 in
theorem tableOf_bad (k : Int) (h : k < 1 ∨ 4 < k) (w : World) : Calls Try.prog 42 #[.int .i64 k] w fun e w' => e = .returned (.tuple #[.agg tbl0, .bool false]) ∧ Below w.heap.size w w' := by
  have h1 : (k == 1) = false := by simp; omega
  have h2 : (k == 2) = false := by simp; omega
  have h3 : (k == 3) = false := by simp; omega
  have h4 : (k == 4) = false := by simp; omega
  go_enter Try.func42, Try.ntmps42
  go_wp2
  refine bodyPost_ret (v := .tuple #[.agg tbl0, .bool false]) (by simp [results, Try.results42, go_sem, tbl0]) rfl ⟨rfl, ?_⟩
  exact (Below.refl _ _).alloc (Nat.le_refl _) _
set_option maxHeartbeats 400000 in
theorem tableOf_ok (k : Nat) (h : 1 ≤ k ∧ k ≤ 4) (w : World) : Calls Try.prog 42 #[.int .i64 k] w fun e w' => e = .returned (.tuple #[.agg (tbl k), .bool true]) ∧ Below w.heap.size w w' := by
  rcases (by omega : k = 1 ∨ k = 2 ∨ k = 3 ∨ k = 4) with rfl | rfl | rfl | rfl
  · go_enter Try.func42, Try.ntmps42
    go_wp2
    refine bodyPost_ret (v := .tuple #[.agg (tbl 1), .bool true]) (by simp [results, Try.results42, go_sem, tbl, fn0, fn1, fn2]) rfl ⟨rfl, ?_⟩
    exact (Below.refl _ _).alloc (Nat.le_refl _) _
  · go_enter Try.func42, Try.ntmps42
    go_wp2
    refine bodyPost_ret (v := .tuple #[.agg (tbl 2), .bool true]) (by simp [results, Try.results42, go_sem, tbl, fn0, fn1, fn2]) rfl ⟨rfl, ?_⟩
    exact (Below.refl _ _).alloc (Nat.le_refl _) _
  · go_enter Try.func42, Try.ntmps42
    go_wp2
    refine bodyPost_ret (v := .tuple #[.agg (tbl 3), .bool true]) (by simp [results, Try.results42, go_sem, tbl, fn0, fn1, fn2]) rfl ⟨rfl, ?_⟩
    exact (Below.refl _ _).alloc (Nat.le_refl _) _
  · go_enter Try.func42, Try.ntmps42
    go_wp2
    refine bodyPost_ret (v := .tuple #[.agg (tbl 4), .bool true]) (by simp [results, Try.results42, go_sem, tbl, fn0, fn1, fn2]) rfl ⟨rfl, ?_⟩
    exact (Below.refl _ _).alloc (Nat.le_refl _) _
end Go.Proofs.Yteomoeaoboaclae
