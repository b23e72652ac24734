/-
  Contract of hill.Find where something is wrong.
-/
import Derived.Test.YtlgjgppojdamiabWFind
namespace Go.Proofs.Ytlgjgppojdamiab
open Go.RowKit PK

set_option maxHeartbeats 1000000 in
theorem find_n (N : Int) (hN : N < 1 ∨ 4 < N) (s t : ByteArray) (w : World) : Calls Try.prog 28 #[.int .i64 N, .string s, .string t] w fun e w' => e = .returned (.tuple #[.slice none 0 0, .int .i64 5]) ∧ Below w.heap.size w w' := by
  have hN' : N < 1 ∨ (¬ N < 1 ∧ 4 < N) := by omega
  clear hN
  rcases hN' with h | ⟨h, h'⟩
  · go_enter Try.func28, Try.ntmps28
    go_wp2
    go_ret2
    exact ⟨rfl, Below.refl _ _⟩
  · go_enter Try.func28, Try.ntmps28
    go_wp2
    go_ret2
    exact ⟨rfl, Below.refl _ _⟩
set_option maxRecDepth 100000 in
set_option maxHeartbeats 2000000 in
theorem find_s (n : Nat) (h1 : 1 ≤ n) (h4 : n ≤ 4) (s t : ByteArray) (hE : (ckE s.data.toList != 0) = true) (w : World) : Calls Try.prog 28 #[.int .i64 (n : Nat), .string s, .string t] w fun e w' => e = .returned (.tuple #[.slice none 0 0, .int .i64 (ckE s.data.toList)]) ∧ Below w.heap.size w w' := by
  have HC1 := (show Hid (∀ W, Calls Try.prog 53 #[.string s] W fun e w' => e = .returned (.agg #[.int .i64 (ckE s.data.toList), .int .i64 (ckAt s.data.toList)]) ∧ Below W.heap.size W w') from check_all s)
  generalize ckE s.data.toList = E at *
  generalize ckAt s.data.toList = A at *
  have hn1 : ¬ ((n : Nat) : Int) < 1 := by omega
  have hn4 : ¬ (4 : Int) < ((n : Nat) : Int) := by omega
  go_enter Try.func28, Try.ntmps28
  go_wp2
  have qs := RowAt.new w 9 #[.string s, .string t]
  have hb0 : Below w.heap.size w (w.alloc (.cells #[.string s, .string t] 9)) := (Below.refl _ _).alloc (Nat.le_refl _) _
  generalize w.alloc (.cells #[.string s, .string t] 9) = W0 at *
  go_loopw [23] (fun i W => i = .int .i64 0 ∧ RowAt W w.heap.size 9 #[.string s, .string t] ∧ Below w.heap.size w W) (fun i _ => (2 - intOf i).toNat)
  case atStart => exact ⟨rfl, qs, hb0⟩
  case round =>
    clear qs hb0
    obtain ⟨rfl, qs, hb⟩ := hrel
    have hz := hb.size
    have c0 := qs.cell (i := 0) rfl
    go_wp2_with fail
    refine Calls.mono (HC1.out _) ?_
    rintro e W1 ⟨rfl, hc⟩
    have hz1 := hc.size
    go_wp2
    go_quiet (fail)
    go_wp2
    go_ret2
    have hf := (hb.trans (hc.mono hz)).alloc (by omega) (.cells #[.int .i64 E, .int .i64 A] 37)
    exact ⟨rfl, ⟨hf.os, hf.tape, hf.output, hf.size, hf.block⟩⟩
set_option maxRecDepth 100000 in
set_option maxHeartbeats 2000000 in
theorem find_t (n : Nat) (h1 : 1 ≤ n) (h4 : n ≤ 4) (s t : ByteArray) (hs1 : ckE s.data.toList = 0) (hs2 : ckAt s.data.toList = 0) (hE : (ckE t.data.toList != 0) = true) (w : World) : Calls Try.prog 28 #[.int .i64 (n : Nat), .string s, .string t] w fun e w' => e = .returned (.tuple #[.slice none 0 0, .int .i64 (ckE t.data.toList)]) ∧ Below w.heap.size w w' := by
  have HC1 := (show Hid (∀ W, Calls Try.prog 53 #[.string s] W fun e w' => e = .returned (.agg #[.int .i64 0, .int .i64 0]) ∧ Below W.heap.size W w') from check_ok0 s hs1 hs2)
  have HC2 := (show Hid (∀ W, Calls Try.prog 53 #[.string t] W fun e w' => e = .returned (.agg #[.int .i64 (ckE t.data.toList), .int .i64 (ckAt t.data.toList)]) ∧ Below W.heap.size W w') from check_all t)
  generalize ckE t.data.toList = E at *
  generalize ckAt t.data.toList = A at *
  clear hs1 hs2
  have hn1 : ¬ ((n : Nat) : Int) < 1 := by omega
  have hn4 : ¬ (4 : Int) < ((n : Nat) : Int) := by omega
  go_enter Try.func28, Try.ntmps28
  go_wp2
  have qs := RowAt.new w 9 #[.string s, .string t]
  have hb0 : Below w.heap.size w (w.alloc (.cells #[.string s, .string t] 9)) := (Below.refl _ _).alloc (Nat.le_refl _) _
  generalize w.alloc (.cells #[.string s, .string t] 9) = W0 at *
  go_loopw [23] (fun i W => ∃ m : Nat, m ≤ 1 ∧ i = .int .i64 m ∧ RowAt W w.heap.size 9 #[.string s, .string t] ∧ Below w.heap.size w W) (fun i _ => (2 - intOf i).toNat)
  case atStart => exact ⟨0, by omega, rfl, qs, hb0⟩
  case round =>
    clear qs hb0
    obtain ⟨m, hm, rfl, qs, hb⟩ := hrel
    have hz := hb.size
    have hql := qs.lt
    obtain rfl | rfl : m = 0 ∨ m = 1 := by omega
    · have c0 := qs.cell (i := 0) rfl
      go_wp2_with fail
      refine Calls.mono (HC1.out _) ?_
      rintro e W1 ⟨rfl, hc⟩
      have hz1 := hc.size
      go_wp2
      go_roundw
      case rel => exact ⟨1, by omega, rfl, (qs.below hc hql).alloc _, (hb.trans (hc.mono hz)).alloc (by omega) _⟩
      case measure => simp [intOf]
    · have c0 := qs.cell (i := 1) rfl
      go_wp2_with fail
      refine Calls.mono (HC2.out _) ?_
      rintro e W1 ⟨rfl, hc⟩
      have hz1 := hc.size
      go_wp2
      go_quiet (fail)
      go_wp2
      go_ret2
      have hf := (hb.trans (hc.mono hz)).alloc (by omega) (.cells #[.int .i64 E, .int .i64 A] 37)
      exact ⟨rfl, ⟨hf.os, hf.tape, hf.output, hf.size, hf.block⟩⟩
set_option maxRecDepth 100000 in
set_option maxHeartbeats 2000000 in
theorem find_few (n : Nat) (h1 : 1 ≤ n) (h4 : n ≤ 4) (s t : ByteArray) (hs1 : ckE s.data.toList = 0) (hs2 : ckAt s.data.toList = 0) (ht1 : ckE t.data.toList = 0) (ht2 : ckAt t.data.toList = 0) (hfew : s.size < n * n ∨ t.size < n * n) (w : World) :
    Calls Try.prog 28 #[.int .i64 (n : Nat), .string s, .string t] w fun e w' => e = .returned (.tuple #[.slice none 0 0, .int .i64 5]) ∧ Below w.heap.size w w' := by
  have HC1 := (show Hid (∀ W, Calls Try.prog 53 #[.string s] W fun e w' => e = .returned (.agg #[.int .i64 0, .int .i64 0]) ∧ Below W.heap.size W w') from check_ok0 s hs1 hs2)
  have HC2 := (show Hid (∀ W, Calls Try.prog 53 #[.string t] W fun e w' => e = .returned (.agg #[.int .i64 0, .int .i64 0]) ∧ Below W.heap.size W w') from check_ok0 t ht1 ht2)
  obtain ⟨p, hp⟩ : ∃ p, p = n * n := ⟨_, rfl⟩
  have hpw : IntKind.i64.wrap (((n : Nat) : Int) * ((n : Nat) : Int)) = ((p : Nat) : Int) := by
    have : n * n ≤ 16 := Nat.mul_le_mul h4 h4
    rw [← Int.natCast_mul, ← hp, IntKind.wrap_i64]; omega
  rw [← hp] at hfew
  clear hp hs1 hs2 ht1 ht2
  have hn1 : ¬ ((n : Nat) : Int) < 1 := by omega
  have hn4 : ¬ (4 : Int) < ((n : Nat) : Int) := by omega
  go_enter Try.func28, Try.ntmps28
  go_wp2
  have qs := RowAt.new w 9 #[.string s, .string t]
  have hb0 : Below w.heap.size w (w.alloc (.cells #[.string s, .string t] 9)) := (Below.refl _ _).alloc (Nat.le_refl _) _
  generalize w.alloc (.cells #[.string s, .string t] 9) = W0 at *
  go_loopw [23] (fun i W => ∃ m : Nat, m ≤ 2 ∧ i = .int .i64 m ∧ RowAt W w.heap.size 9 #[.string s, .string t] ∧ Below w.heap.size w W) (fun i _ => (2 - intOf i).toNat)
  case atStart => exact ⟨0, by omega, rfl, qs, hb0⟩
  case round =>
    clear qs hb0
    obtain ⟨m, hm, rfl, qs, hb⟩ := hrel
    have hz := hb.size
    have hql := qs.lt
    obtain rfl | rfl | rfl : m = 0 ∨ m = 1 ∨ m = 2 := by omega
    · have c0 := qs.cell (i := 0) rfl
      go_wp2_with fail
      refine Calls.mono (HC1.out _) ?_
      rintro e W1 ⟨rfl, hc⟩
      have hz1 := hc.size
      go_wp2
      go_roundw
      case rel => exact ⟨1, by omega, rfl, (qs.below hc hql).alloc _, (hb.trans (hc.mono hz)).alloc (by omega) _⟩
      case measure => simp [intOf]
    · have c0 := qs.cell (i := 1) rfl
      go_wp2_with fail
      refine Calls.mono (HC2.out _) ?_
      rintro e W1 ⟨rfl, hc⟩
      have hz1 := hc.size
      go_wp2
      go_roundw
      case rel => exact ⟨2, by omega, rfl, (qs.below hc hql).alloc _, (hb.trans (hc.mono hz)).alloc (by omega) _⟩
      case measure => simp [intOf]
    · have hmin : min ((s.size : Nat) : Int) ((t.size : Nat) : Int) < ((p : Nat) : Int) := by omega
      clear HC1 HC2 hfew
      go_wp2
      go_ret2
      exact ⟨rfl, hb⟩
end Go.Proofs.Ytlgjgppojdamiab
