/-
  Contract of the document's Key where something is wrong.
-/
import Derived.Test.YtlgijlfojkpeaacXRd
namespace Go.Proofs.Ytlgijlfojkpeaac
open Go.RowKit PK Vg

theorem ck_A : ckE [65] = 0 ∧ ckAt [65] = 0 := ck_of_ls (by unfold Ls; decide) (by decide)
theorem lk_A (k : Int) (t : List UInt8) (hk : 1 ≤ k ∧ k ≤ 4) : lkE k [65] t = ckE t ∧ lkAt k [65] t = ckAt t := by
  unfold lkE lkAt
  have h1 : ¬ (k < 1 ∨ 4 < k) := by omega
  have h2 : ¬ (ckE [65] ≠ 0) := fun h => h ck_A.1
  have h3 : ¬ (([65] : List UInt8).length < 1 ∨ 256 < ([65] : List UInt8).length) := by decide
  rw [if_neg h1, if_neg h1, if_neg h2, if_neg h2, if_neg h3, if_neg h3]
  exact ⟨rfl, rfl⟩
theorem lk_K (k : Int) (t : List UInt8) (hk : k < 1 ∨ 4 < k) : lkE k [65] t = 1 ∧ lkAt k [65] t = 0 := by
  unfold lkE lkAt
  rw [if_pos hk, if_pos hk]
  exact ⟨rfl, rfl⟩
set_option maxRecDepth 100000 in
set_option maxHeartbeats 4000000 in
theorem rky_auto (n : Int) (t s : ByteArray) (w : World) :
    Calls Try.prog 30 #[.int .i64 4, .int .i64 n, .string t, .string s] w fun e w' => e = .returned (.tuple #[.string ⟨#[]⟩, .agg #[.int .i64 1, .int .i64 0]]) ∧ Below w.heap.size w w' := by
  go_enter Try.func30, Try.ntmps30
  go_wp2
  refine bodyPost_ret (v := .tuple #[.string ⟨#[]⟩, .agg #[.int .i64 1, .int .i64 0]]) (by simp [results, Try.results30, go_sem]) rfl ⟨rfl, ?_⟩
  exact (Below.refl _ _).alloc (Nat.le_refl _) _
set_option maxRecDepth 100000 in
set_option maxHeartbeats 4000000 in
theorem rky_long (k n : Int) (hk : ¬ k = 4) (hn : n < 1 ∨ 256 < n) (t s : ByteArray) (w : World) :
    Calls Try.prog 30 #[.int .i64 k, .int .i64 n, .string t, .string s] w fun e w' => e = .returned (.tuple #[.string ⟨#[]⟩, .agg #[.int .i64 5, .int .i64 0]]) ∧ Below w.heap.size w w' := by
  have hk2 : (k == 4) = false := beq_false_of_ne hk
  rcases hn with hn | hn
  · go_enter Try.func30, Try.ntmps30
    go_wp2
    refine bodyPost_ret (v := .tuple #[.string ⟨#[]⟩, .agg #[.int .i64 5, .int .i64 0]]) (by simp [results, Try.results30, go_sem]) rfl ⟨rfl, ?_⟩
    exact (Below.refl _ _).alloc (Nat.le_refl _) _
  · have hn2 : ¬ n < 1 := by omega
    go_enter Try.func30, Try.ntmps30
    go_wp2
    refine bodyPost_ret (v := .tuple #[.string ⟨#[]⟩, .agg #[.int .i64 5, .int .i64 0]]) (by simp [results, Try.results30, go_sem]) rfl ⟨rfl, ?_⟩
    exact (Below.refl _ _).alloc (Nat.le_refl _) _
set_option maxRecDepth 100000 in
set_option maxHeartbeats 4000000 in
theorem rky_look (k n : Int) (hk : ¬ k = 4) (hn : 1 ≤ n ∧ n ≤ 256) (t s : ByteArray) (w : World) (hE : (lkE k [65] t.data.toList != 0) = true) :
    Calls Try.prog 30 #[.int .i64 k, .int .i64 n, .string t, .string s] w fun e w' => e = .returned (.tuple #[.string ⟨#[]⟩, .agg #[.int .i64 (lkE k [65] t.data.toList), .int .i64 (lkAt k [65] t.data.toList)]]) ∧ Below w.heap.size w w' := by
  have HL := (show Hid (∀ W, Calls Try.prog 53 #[.int .i64 k, .string ⟨#[65]⟩, .string t] W fun e w' => e = .returned (.agg #[.int .i64 (lkE k [65] t.data.toList), .int .i64 (lkAt k [65] t.data.toList)]) ∧ Below W.heap.size W w') from fun W => rlook_any k ⟨#[65]⟩ t W)
  generalize lkE k [65] t.data.toList = E at *
  generalize lkAt k [65] t.data.toList = A at *
  have hk2 : (k == 4) = false := beq_false_of_ne hk
  have hn2 : ¬ n < 1 := by omega
  have hn3 : ¬ 256 < n := by omega
  go_enter Try.func30, Try.ntmps30
  go_wp2_with fail
  refine (HL.out _).mono ?_
  rintro e W1 ⟨rfl, hb⟩
  have hb1 : Below (w.heap.size + 1) (w.alloc (.cells #[.int .i64 0, .int .i64 0] 42)) W1 := by simpa using hb
  have hz := hb1.size
  simp at hz
  have hb2 := hb1.alloc (by omega) (.cells #[.int .i64 E, .int .i64 A] 42)
  clear hb hb1 HL
  obtain ⟨c0, c1, f0, f1, hsz⟩ := Kit.two_cells hb2
  go_wp2_with fail
  go_region
  all_goals (try go_wp2)
  have q := Kit.read_two (.int .i64 E) (.int .i64 A) c0 c1
  refine bodyPost_ret (v := .tuple #[.string ⟨#[]⟩, .agg #[.int .i64 E, .int .i64 A]]) (by simp [results, Try.results30, go_sem, q.1, q.2]) rfl ⟨rfl, ?_⟩
  exact (Kit.below_two hb2 _ _).drew
set_option maxRecDepth 100000 in
set_option maxHeartbeats 4000000 in
theorem rky_told (k n : Int) (hk : ¬ k = 4) (hn : 1 ≤ n ∧ n ≤ 256) (t s : ByteArray) (w : World) (hl : lkE k [65] t.data.toList = 0 ∧ lkAt k [65] t.data.toList = 0) (hE : (ckE s.data.toList != 0) = true) :
    Calls Try.prog 30 #[.int .i64 k, .int .i64 n, .string t, .string s] w fun e w' => e = .returned (.tuple #[.string ⟨#[]⟩, .agg #[.int .i64 (ckE s.data.toList), .int .i64 (ckAt s.data.toList)]]) ∧ Below w.heap.size w w' := by
  have HL := (show Hid (∀ W, Calls Try.prog 53 #[.int .i64 k, .string ⟨#[65]⟩, .string t] W fun e w' => e = .returned (.agg #[.int .i64 0, .int .i64 0]) ∧ Below W.heap.size W w') from fun W => by have := rlook_any k ⟨#[65]⟩ t W; rw [show (⟨#[65]⟩ : ByteArray).data.toList = [65] from rfl, hl.1, hl.2] at this; exact this)
  have HC := (show Hid (∀ W, Calls Try.prog 40 #[.string s] W fun e w' => e = .returned (.agg #[.int .i64 (ckE s.data.toList), .int .i64 (ckAt s.data.toList)]) ∧ Below W.heap.size W w') from fun W => rcheck_all s W)
  generalize ckE s.data.toList = E at *
  generalize ckAt s.data.toList = A at *
  clear hl
  have hk2 : (k == 4) = false := beq_false_of_ne hk
  have hn2 : ¬ n < 1 := by omega
  have hn3 : ¬ 256 < n := by omega
  go_enter Try.func30, Try.ntmps30
  go_wp2_with fail
  refine (HL.out _).mono ?_
  rintro e W1 ⟨rfl, hb⟩
  have hb1 : Below (w.heap.size + 1) (w.alloc (.cells #[.int .i64 0, .int .i64 0] 42)) W1 := by simpa using hb
  have hz := hb1.size
  simp at hz
  have hb2 := hb1.alloc (by omega) (.cells #[.int .i64 0, .int .i64 0] 42)
  clear hb hb1 HL
  go_wp2_with fail
  refine (HC.out _).mono ?_
  rintro e W2 ⟨rfl, hc⟩
  have hb3 := (hb2.trans (hc.mono (by have := hb2.size; simp at this ⊢; omega))).alloc (by have := hb2.size; have := hc.size; simp at *; omega) (.cells #[.int .i64 E, .int .i64 A] 42)
  clear hc hb2 HC
  obtain ⟨c0, c1, f0, f1, hsz⟩ := Kit.two_cells hb3
  go_wp2_with fail
  go_region
  all_goals (try go_wp2)
  have q := Kit.read_two (.int .i64 E) (.int .i64 A) c0 c1
  refine bodyPost_ret (v := .tuple #[.string ⟨#[]⟩, .agg #[.int .i64 E, .int .i64 A]]) (by simp [results, Try.results30, go_sem, q.1, q.2]) rfl ⟨rfl, ?_⟩
  exact (Kit.below_two hb3 _ _).drew
set_option maxRecDepth 100000 in
set_option maxHeartbeats 4000000 in
theorem rky_fit (k n : Int) (hk : ¬ k = 4) (hn : 1 ≤ n ∧ n ≤ 256) (t s : ByteArray) (w : World) (hl : lkE k [65] t.data.toList = 0 ∧ lkAt k [65] t.data.toList = 0) (hs : ckE s.data.toList = 0 ∧ ckAt s.data.toList = 0) (hf : ¬ t.size = s.size ∨ (t.size : Int) < n) :
    Calls Try.prog 30 #[.int .i64 k, .int .i64 n, .string t, .string s] w fun e w' => e = .returned (.tuple #[.string ⟨#[]⟩, .agg #[.int .i64 8, .int .i64 0]]) ∧ Below w.heap.size w w' := by
  have HL := (show Hid (∀ W, Calls Try.prog 53 #[.int .i64 k, .string ⟨#[65]⟩, .string t] W fun e w' => e = .returned (.agg #[.int .i64 0, .int .i64 0]) ∧ Below W.heap.size W w') from fun W => by have := rlook_any k ⟨#[65]⟩ t W; rw [show (⟨#[65]⟩ : ByteArray).data.toList = [65] from rfl, hl.1, hl.2] at this; exact this)
  have HC := (show Hid (∀ W, Calls Try.prog 40 #[.string s] W fun e w' => e = .returned (.agg #[.int .i64 0, .int .i64 0]) ∧ Below W.heap.size W w') from fun W => by have := rcheck_all s W; rw [hs.1, hs.2] at this; exact this)
  clear hl hs
  have hk2 : (k == 4) = false := beq_false_of_ne hk
  have hn2 : ¬ n < 1 := by omega
  have hn3 : ¬ 256 < n := by omega
  go_enter Try.func30, Try.ntmps30
  go_wp2_with fail
  refine (HL.out _).mono ?_
  rintro e W1 ⟨rfl, hb⟩
  have hb1 : Below (w.heap.size + 1) (w.alloc (.cells #[.int .i64 0, .int .i64 0] 42)) W1 := by simpa using hb
  have hz := hb1.size
  simp at hz
  have hb2 := hb1.alloc (by omega) (.cells #[.int .i64 0, .int .i64 0] 42)
  clear hb hb1 HL
  go_wp2_with fail
  refine (HC.out _).mono ?_
  rintro e W2 ⟨rfl, hc⟩
  have hb3 := (hb2.trans (hc.mono (by have := hb2.size; simp at this ⊢; omega))).alloc (by have := hb2.size; have := hc.size; simp at *; omega) (.cells #[.int .i64 0, .int .i64 0] 42)
  clear hc hb2 HC
  obtain ⟨c0, c1, f0, f1, hsz⟩ := Kit.two_cells hb3
  by_cases hf1 : t.size = s.size
  · have hf6 : (s.size : Int) < n := by omega
    clear hf
    go_wp2
    have q := Kit.read_two (.int .i64 8) (.int .i64 0) c0 c1
    refine bodyPost_ret (v := .tuple #[.string ⟨#[]⟩, .agg #[.int .i64 8, .int .i64 0]]) (by simp [results, Try.results30, go_sem, q.1, q.2]) rfl ⟨rfl, ?_⟩
    exact Kit.below_two hb3 _ _
  · have hf3 : ((t.size : Int) == (s.size : Int)) = false := beq_false_of_ne (by omega)
    clear hf
    go_wp2
    have q := Kit.read_two (.int .i64 8) (.int .i64 0) c0 c1
    refine bodyPost_ret (v := .tuple #[.string ⟨#[]⟩, .agg #[.int .i64 8, .int .i64 0]]) (by simp [results, Try.results30, go_sem, q.1, q.2]) rfl ⟨rfl, ?_⟩
    exact Kit.below_two hb3 _ _
end Go.Proofs.Ytlgijlfojkpeaac
