/-
  Contract of tableau.Key where something is wrong.
-/
import Derived.Test.YtlgijlfojkpeaacVBt
import Derived.LoopN
namespace Go.Proofs.Ytlgijlfojkpeaac
open Go.RowKit PK Vg

set_option maxRecDepth 100000 in
set_option maxHeartbeats 2000000 in
theorem key_auto (n : Int) (t s : ByteArray) (w : World) :
    Calls Try.prog 29 #[.int .i64 4, .int .i64 n, .string t, .string s] w fun e w' => e = .returned (.tuple #[.string ⟨#[]⟩, .agg #[.int .i64 1, .int .i64 0]]) ∧ Below w.heap.size w w' := by
  go_enter Try.func29, Try.ntmps29
  go_wp2
  refine bodyPost_ret (v := .tuple #[.string ⟨#[]⟩, .agg #[.int .i64 1, .int .i64 0]]) (by simp [results, Try.results29, go_sem]) rfl ⟨rfl, ?_⟩
  exact (Below.refl _ _).alloc (Nat.le_refl _) _
set_option maxRecDepth 100000 in
set_option maxHeartbeats 2000000 in
theorem key_long (k n : Int) (hk : ¬ k = 4) (hn : n < 1 ∨ 256 < n) (t s : ByteArray) (w : World) :
    Calls Try.prog 29 #[.int .i64 k, .int .i64 n, .string t, .string s] w fun e w' => e = .returned (.tuple #[.string ⟨#[]⟩, .agg #[.int .i64 5, .int .i64 0]]) ∧ Below w.heap.size w w' := by
  have hk2 : (k == 4) = false := beq_false_of_ne hk
  rcases hn with hn | hn
  · go_enter Try.func29, Try.ntmps29
    go_wp2
    refine bodyPost_ret (v := .tuple #[.string ⟨#[]⟩, .agg #[.int .i64 5, .int .i64 0]]) (by simp [results, Try.results29, go_sem]) rfl ⟨rfl, ?_⟩
    exact (Below.refl _ _).alloc (Nat.le_refl _) _
  · have hn2 : ¬ n < 1 := by omega
    go_enter Try.func29, Try.ntmps29
    go_wp2
    refine bodyPost_ret (v := .tuple #[.string ⟨#[]⟩, .agg #[.int .i64 5, .int .i64 0]]) (by simp [results, Try.results29, go_sem]) rfl ⟨rfl, ?_⟩
    exact (Below.refl _ _).alloc (Nat.le_refl _) _
set_option maxRecDepth 100000 in
set_option maxHeartbeats 2000000 in
theorem key_kind (k n : Int) (hk : k < 1 ∨ 4 < k) (hn : 1 ≤ n ∧ n ≤ 256) (t s : ByteArray) (w : World) :
    Calls Try.prog 29 #[.int .i64 k, .int .i64 n, .string t, .string s] w fun e w' => e = .returned (.tuple #[.string ⟨#[]⟩, .agg #[.int .i64 1, .int .i64 0]]) ∧ Below w.heap.size w w' := by
  have hk2 : (k == 4) = false := beq_false_of_ne (by omega)
  have hn2 : ¬ n < 1 := by omega
  have hn3 : ¬ 256 < n := by omega
  have HT := (show Hid (∀ W, Calls Try.prog 56 #[.int .i64 k] W fun e w' => e = .returned (.tuple #[.agg #[.nilFunc, .nilFunc, .nilFunc, .bool false], .bool false]) ∧ Below W.heap.size W w') from fun W => tableOf_bad k hk W)
  clear hk
  go_enter Try.func29, Try.ntmps29
  go_wp2_with fail
  refine (HT.out _).mono ?_
  rintro e W1 ⟨rfl, hb⟩
  have hb1 : Below (w.heap.size + 1) (w.alloc (.cells #[.int .i64 0, .int .i64 0] 42)) W1 := by simpa using hb
  have hz := hb1.size
  simp at hz
  have hb2 := hb1.alloc (by omega) (.cells #[.nilFunc, .nilFunc, .nilFunc, .bool false] 61)
  clear hb
  obtain ⟨c0, c1, f0, f1, hsz⟩ := Kit.two_cells hb2
  clear HT hb1
  go_wp2
  have q := Kit.read_two (.int .i64 1) (.int .i64 0) c0 c1
  refine bodyPost_ret (v := .tuple #[.string ⟨#[]⟩, .agg #[.int .i64 1, .int .i64 0]]) (by simp [results, Try.results29, go_sem, q.1, q.2]) rfl ⟨rfl, ?_⟩
  exact Kit.below_two hb2 _ _
set_option maxRecDepth 100000 in
set_option maxHeartbeats 2000000 in
theorem key_text (k : Nat) (h : 1 ≤ k ∧ k ≤ 3) (n : Nat) (hn : 1 ≤ n ∧ n ≤ 256) (t s : ByteArray) (w : World) (hE : (ckE t.data.toList != 0) = true) :
    Calls Try.prog 29 #[.int .i64 (k : Nat), .int .i64 (n : Nat), .string t, .string s] w fun e w' => e = .returned (.tuple #[.string ⟨#[]⟩, .agg #[.int .i64 (ckE t.data.toList), .int .i64 (ckAt t.data.toList)]]) ∧ Below w.heap.size w w' := by
  have hk2 : ((k : Int) == 4) = false := beq_false_of_ne (by omega)
  have hn2 : ¬ (n : Int) < 1 := by omega
  have hn3 : ¬ 256 < (n : Int) := by omega
  have h' : 1 ≤ k ∧ k ≤ 4 := by omega
  have HT := (show Hid (∀ W, Calls Try.prog 56 #[.int .i64 (k : Nat)] W fun e w' => e = .returned (.tuple #[.agg #[.func (.func (fn0 k)) #[] #[], .func (.func (fn1 k)) #[] #[], .func (.func (fn2 k)) #[] #[], .bool (decide (k = 4))], .bool true]) ∧ Below W.heap.size W w') from fun W => tableOf_ok k h' W)
  have HCt := (show Hid (∀ W, Calls Try.prog 35 #[.string t] W fun e w' => e = .returned (.agg #[.int .i64 (ckE t.data.toList), .int .i64 (ckAt t.data.toList)]) ∧ Below W.heap.size W w') from fun W => check_all t W)
  generalize ckE t.data.toList = E at *
  generalize ckAt t.data.toList = A at *
  generalize fn0 k = F0 at *
  generalize fn1 k = F1 at *
  generalize fn2 k = F2 at *
  generalize decide (k = 4) = B at *
  clear h h'
  go_enter Try.func29, Try.ntmps29
  go_wp2_with fail
  refine (HT.out _).mono ?_
  rintro e W1 ⟨rfl, hb⟩
  have hb1 : Below (w.heap.size + 1) (w.alloc (.cells #[.int .i64 0, .int .i64 0] 42)) W1 := by simpa using hb
  have hz := hb1.size
  simp at hz
  have hb2 := hb1.alloc (by omega) (.cells #[.func (.func F0) #[] #[], .func (.func F1) #[] #[], .func (.func F2) #[] #[], .bool B] 61)
  have hb3 := hb2.alloc (by simp; omega) (.cells #[.string t, .string s] 9)
  have r10 := (RowAt.new W1 61 #[.func (.func F0) #[] #[], .func (.func F1) #[] #[], .func (.func F2) #[] #[], .bool B]).alloc (.cells #[.string t, .string s] 9)
  have r38 := RowAt.new (W1.alloc (.cells #[.func (.func F0) #[] #[], .func (.func F1) #[] #[], .func (.func F2) #[] #[], .bool B] 61)) 9 #[.string t, .string s]
  simp only [World.size_alloc] at r38
  clear hb HT hb1 hb2 hz
  have z0 := r38.cell (i := 0) rfl
  have z1 := r38.cell (i := 1) rfl
  go_wp2_with fail
  refine wp_loop_rounds 3 ?_
  rw [rounds_succ]
  go_wp2_with fail
  refine (HCt.out _).mono ?_
  rintro e X4 ⟨rfl, hc4⟩
  have hb4 := (hb3.trans (hc4.mono (by have := hb3.size; simp at this ⊢; omega))).alloc (by have := hb3.size; have := hc4.size; simp at *; omega) (.cells #[.int .i64 E, .int .i64 A] 42)
  have r104 := (r10.below hc4 r10.lt).alloc (.cells #[.int .i64 E, .int .i64 A] 42)
  have r384 := (r38.below hc4 r38.lt).alloc (.cells #[.int .i64 E, .int .i64 A] 42)
  clear hc4 hb3 r10 r38
  obtain ⟨c0, c1, f0, f1, hsz⟩ := Kit.two_cells hb4
  go_wp2_with fail
  go_region
  all_goals (try go_wp2)
  have q := Kit.read_two (.int .i64 E) (.int .i64 A) c0 c1
  refine bodyPost_ret (v := .tuple #[.string ⟨#[]⟩, .agg #[.int .i64 E, .int .i64 A]]) (by simp [results, Try.results29, go_sem, q.1, q.2]) rfl ⟨rfl, ?_⟩
  exact (Kit.below_two hb4 _ _).drew
set_option maxRecDepth 100000 in
set_option maxHeartbeats 2000000 in
theorem key_told (k : Nat) (h : 1 ≤ k ∧ k ≤ 3) (n : Nat) (hn : 1 ≤ n ∧ n ≤ 256) (t s : ByteArray) (w : World) (ht : ckE t.data.toList = 0 ∧ ckAt t.data.toList = 0) (hE : (ckE s.data.toList != 0) = true) :
    Calls Try.prog 29 #[.int .i64 (k : Nat), .int .i64 (n : Nat), .string t, .string s] w fun e w' => e = .returned (.tuple #[.string ⟨#[]⟩, .agg #[.int .i64 (ckE s.data.toList), .int .i64 (ckAt s.data.toList)]]) ∧ Below w.heap.size w w' := by
  have hk2 : ((k : Int) == 4) = false := beq_false_of_ne (by omega)
  have hn2 : ¬ (n : Int) < 1 := by omega
  have hn3 : ¬ 256 < (n : Int) := by omega
  have h' : 1 ≤ k ∧ k ≤ 4 := by omega
  have HT := (show Hid (∀ W, Calls Try.prog 56 #[.int .i64 (k : Nat)] W fun e w' => e = .returned (.tuple #[.agg #[.func (.func (fn0 k)) #[] #[], .func (.func (fn1 k)) #[] #[], .func (.func (fn2 k)) #[] #[], .bool (decide (k = 4))], .bool true]) ∧ Below W.heap.size W w') from fun W => tableOf_ok k h' W)
  have HCt := (show Hid (∀ W, Calls Try.prog 35 #[.string t] W fun e w' => e = .returned (.agg #[.int .i64 0, .int .i64 0]) ∧ Below W.heap.size W w') from fun W => by have := check_all t W; rw [ht.1, ht.2] at this; exact this)
  have HCs := (show Hid (∀ W, Calls Try.prog 35 #[.string s] W fun e w' => e = .returned (.agg #[.int .i64 (ckE s.data.toList), .int .i64 (ckAt s.data.toList)]) ∧ Below W.heap.size W w') from fun W => check_all s W)
  generalize ckE s.data.toList = E at *
  generalize ckAt s.data.toList = A at *
  generalize fn0 k = F0 at *
  generalize fn1 k = F1 at *
  generalize fn2 k = F2 at *
  generalize decide (k = 4) = B at *
  clear h h' ht
  go_enter Try.func29, Try.ntmps29
  go_wp2_with fail
  refine (HT.out _).mono ?_
  rintro e W1 ⟨rfl, hb⟩
  have hb1 : Below (w.heap.size + 1) (w.alloc (.cells #[.int .i64 0, .int .i64 0] 42)) W1 := by simpa using hb
  have hz := hb1.size
  simp at hz
  have hb2 := hb1.alloc (by omega) (.cells #[.func (.func F0) #[] #[], .func (.func F1) #[] #[], .func (.func F2) #[] #[], .bool B] 61)
  have hb3 := hb2.alloc (by simp; omega) (.cells #[.string t, .string s] 9)
  have r10 := (RowAt.new W1 61 #[.func (.func F0) #[] #[], .func (.func F1) #[] #[], .func (.func F2) #[] #[], .bool B]).alloc (.cells #[.string t, .string s] 9)
  have r38 := RowAt.new (W1.alloc (.cells #[.func (.func F0) #[] #[], .func (.func F1) #[] #[], .func (.func F2) #[] #[], .bool B] 61)) 9 #[.string t, .string s]
  simp only [World.size_alloc] at r38
  clear hb HT hb1 hb2 hz
  have z0 := r38.cell (i := 0) rfl
  have z1 := r38.cell (i := 1) rfl
  go_wp2_with fail
  refine wp_loop_rounds 3 ?_
  rw [rounds_succ]
  go_wp2_with fail
  refine (HCt.out _).mono ?_
  rintro e X4 ⟨rfl, hc4⟩
  have hb4 := (hb3.trans (hc4.mono (by have := hb3.size; simp at this ⊢; omega))).alloc (by have := hb3.size; have := hc4.size; simp at *; omega) (.cells #[.int .i64 0, .int .i64 0] 42)
  have r104 := (r10.below hc4 r10.lt).alloc (.cells #[.int .i64 0, .int .i64 0] 42)
  have r384 := (r38.below hc4 r38.lt).alloc (.cells #[.int .i64 0, .int .i64 0] 42)
  clear hc4 hb3 r10 r38
  clear z0 z1
  have z0 := r384.cell (i := 0) rfl
  have z1 := r384.cell (i := 1) rfl
  go_wp2_with fail
  rw [rounds_succ]
  go_wp2_with fail
  refine (HCs.out _).mono ?_
  rintro e X5 ⟨rfl, hc5⟩
  have hb5 := (hb4.trans (hc5.mono (by have := hb4.size; simp at this ⊢; omega))).alloc (by have := hb4.size; have := hc5.size; simp at *; omega) (.cells #[.int .i64 E, .int .i64 A] 42)
  have r105 := (r104.below hc5 r104.lt).alloc (.cells #[.int .i64 E, .int .i64 A] 42)
  have r385 := (r384.below hc5 r384.lt).alloc (.cells #[.int .i64 E, .int .i64 A] 42)
  clear hc5 hb4 r104 r384
  obtain ⟨c0, c1, f0, f1, hsz⟩ := Kit.two_cells hb5
  go_wp2_with fail
  go_region
  all_goals (try go_wp2)
  have q := Kit.read_two (.int .i64 E) (.int .i64 A) c0 c1
  refine bodyPost_ret (v := .tuple #[.string ⟨#[]⟩, .agg #[.int .i64 E, .int .i64 A]]) (by simp [results, Try.results29, go_sem, q.1, q.2]) rfl ⟨rfl, ?_⟩
  exact (Kit.below_two hb5 _ _).drew
end Go.Proofs.Ytlgijlfojkpeaac
