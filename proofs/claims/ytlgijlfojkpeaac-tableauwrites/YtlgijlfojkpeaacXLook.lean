/-
  Contract of the document's Look.
-/
import Derived.Test.YtlgijlfojkpeaacXCell
namespace Go.Proofs.Ytlgijlfojkpeaac
open Go.RowKit PK Vg

set_option maxRecDepth 100000 in
set_option maxHeartbeats 2000000 in
theorem rlook_any (k : Int) (key t : ByteArray) (w : World) : Calls Try.prog 53 #[.int .i64 k, .string key, .string t] w fun e w' => e = .returned (.agg #[.int .i64 (lkE k key.data.toList t.data.toList), .int .i64 (lkAt k key.data.toList t.data.toList)]) ∧ Below w.heap.size w w' := by
  have hks := Pl.size_len key
  have HC := (show Hid (∀ W, Calls Try.prog 40 #[.string key] W fun e w' => e = .returned (.agg #[.int .i64 (ckE key.data.toList), .int .i64 (ckAt key.data.toList)]) ∧ Below W.heap.size W w') from fun W => rcheck_all key W)
  have HD := (show Hid (∀ W, Calls Try.prog 40 #[.string t] W fun e w' => e = .returned (.agg #[.int .i64 (ckE t.data.toList), .int .i64 (ckAt t.data.toList)]) ∧ Below W.heap.size W w') from fun W => rcheck_all t W)
  unfold lkE lkAt
  rw [← hks]
  generalize ckE key.data.toList = E1 at *
  generalize ckAt key.data.toList = A1 at *
  generalize ckE t.data.toList = E2 at *
  generalize ckAt t.data.toList = A2 at *
  clear hks
  by_cases h1 : k < 1 ∨ 4 < k
  · rw [if_pos h1, if_pos h1]
    rcases h1 with h1 | h1
    · go_enter Try.func53, Try.ntmps53
      go_wp2
      refine bodyPost_ret (v := .agg #[.int .i64 1, .int .i64 0]) (by simp [results, Try.results53, go_sem]) rfl ⟨rfl, ?_⟩
      exact (Below.refl _ _).alloc (Nat.le_refl _) _
    · have h2 : ¬ k < 1 := by omega
      go_enter Try.func53, Try.ntmps53
      go_wp2
      refine bodyPost_ret (v := .agg #[.int .i64 1, .int .i64 0]) (by simp [results, Try.results53, go_sem]) rfl ⟨rfl, ?_⟩
      exact (Below.refl _ _).alloc (Nat.le_refl _) _
  · rw [if_neg h1, if_neg h1]
    have h2 : ¬ k < 1 := by omega
    have h3 : ¬ 4 < k := by omega
    clear h1
    by_cases h4 : E1 = 0
    · have h5 : ¬ (E1 ≠ 0) := fun h => h h4
      rw [if_neg h5, if_neg h5]
      subst h4
      clear h5
      by_cases h6 : key.size < 1 ∨ 256 < key.size
      · rw [if_pos h6, if_pos h6]
        rcases h6 with h6 | h6
        · have h7 : (key.size : Int) < 1 := by omega
          go_enter Try.func53, Try.ntmps53
          go_wp2_with fail
          refine (HC.out _).mono ?_
          rintro e W1 ⟨rfl, hb⟩
          have hb1 : Below (w.heap.size + 1) (w.alloc (.cells #[.int .i64 0, .int .i64 0] 42)) W1 := by simpa using hb
          have hz := hb1.size
          simp at hz
          have hb2 := hb1.alloc (by omega) (.cells #[.int .i64 0, .int .i64 A1] 42)
          clear hb hb1 HC HD
          obtain ⟨c0, c1, f0, f1, hsz⟩ := Kit.two_cells hb2
          go_wp2
          have q := Kit.read_two (.int .i64 5) (.int .i64 0) c0 c1
          refine bodyPost_ret (v := .agg #[.int .i64 5, .int .i64 0]) (by simp [results, Try.results53, go_sem, q.1, q.2]) rfl ⟨rfl, ?_⟩
          exact Kit.below_two hb2 _ _
        · have h7 : ¬ (key.size : Int) < 1 := by omega
          have h8 : (256 : Int) < (key.size : Int) := by omega
          go_enter Try.func53, Try.ntmps53
          go_wp2_with fail
          refine (HC.out _).mono ?_
          rintro e W1 ⟨rfl, hb⟩
          have hb1 : Below (w.heap.size + 1) (w.alloc (.cells #[.int .i64 0, .int .i64 0] 42)) W1 := by simpa using hb
          have hz := hb1.size
          simp at hz
          have hb2 := hb1.alloc (by omega) (.cells #[.int .i64 0, .int .i64 A1] 42)
          clear hb hb1 HC HD
          obtain ⟨c0, c1, f0, f1, hsz⟩ := Kit.two_cells hb2
          go_wp2
          have q := Kit.read_two (.int .i64 5) (.int .i64 0) c0 c1
          refine bodyPost_ret (v := .agg #[.int .i64 5, .int .i64 0]) (by simp [results, Try.results53, go_sem, q.1, q.2]) rfl ⟨rfl, ?_⟩
          exact Kit.below_two hb2 _ _
      · rw [if_neg h6, if_neg h6]
        have h7 : ¬ (key.size : Int) < 1 := by omega
        have h8 : ¬ (256 : Int) < (key.size : Int) := by omega
        clear h6
        go_enter Try.func53, Try.ntmps53
        go_wp2_with fail
        refine (HC.out _).mono ?_
        rintro e W1 ⟨rfl, hb⟩
        have hb1 : Below (w.heap.size + 1) (w.alloc (.cells #[.int .i64 0, .int .i64 0] 42)) W1 := by simpa using hb
        have hz := hb1.size
        simp at hz
        have hb2 := hb1.alloc (by omega) (.cells #[.int .i64 0, .int .i64 A1] 42)
        clear hb hb1 HC
        go_wp2_with fail
        refine (HD.out _).mono ?_
        rintro e W2 ⟨rfl, hb3⟩
        have hb4 := hb2.trans (hb3.mono (by have := hb2.size; simp at this; simp; omega))
        obtain ⟨c0, c1, f0, f1, hsz⟩ := Kit.two_cells hb4
        clear hb2 hb3 HD
        go_wp2
        have q := Kit.read_two (.int .i64 E2) (.int .i64 A2) c0 c1
        refine bodyPost_ret (v := .agg #[.int .i64 E2, .int .i64 A2]) (by simp [results, Try.results53, go_sem, q.1, q.2]) rfl ⟨rfl, ?_⟩
        exact Kit.below_two hb4 _ _
    · rw [if_pos h4, if_pos h4]
      have h5 : (E1 == 0) = false := beq_false_of_ne h4
      go_enter Try.func53, Try.ntmps53
      go_wp2_with fail
      refine (HC.out _).mono ?_
      rintro e W1 ⟨rfl, hb⟩
      have hb1 : Below (w.heap.size + 1) (w.alloc (.cells #[.int .i64 0, .int .i64 0] 42)) W1 := by simpa using hb
      have hz := hb1.size
      simp at hz
      have hb2 := hb1.alloc (by omega) (.cells #[.int .i64 E1, .int .i64 A1] 42)
      clear hb hb1 HC HD
      obtain ⟨c0, c1, f0, f1, hsz⟩ := Kit.two_cells hb2
      go_wp2
      have q := Kit.read_two (.int .i64 E1) (.int .i64 A1) c0 c1
      refine bodyPost_ret (v := .agg #[.int .i64 E1, .int .i64 A1]) (by simp [results, Try.results53, go_sem, q.1, q.2]) rfl ⟨rfl, ?_⟩
      exact Kit.below_two hb2 _ _
end Go.Proofs.Ytlgijlfojkpeaac
