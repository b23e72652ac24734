/-
  What tableau.Repeats answers, whatever it is asked.
-/
import Derived.Test.YtlgijlfojkpeaadVRepW
namespace Go.Proofs.Ytlgijlfojkpeaad
open Go.RowKit PK Vg

def rpS (t : List UInt8) (n : Int) : List (Nat × Nat) := if rpE t n = 0 then rpL t n.toNat else []
set_option maxRecDepth 100000 in
set_option maxHeartbeats 2000000 in
theorem vrep_bad1 (t : ByteArray) (n : Int) (hE : (ckE t.data.toList != 0) = true) (w : World) : Calls Try.prog 6 #[.string t, .int .i64 n] w fun e w' => e = .returned (.tuple #[.slice none 0 0, .agg #[.int .i64 (ckE t.data.toList), .int .i64 (ckAt t.data.toList)]]) ∧ Below w.heap.size w w' := by
  have HC := (show Hid (∀ W, Calls Try.prog 15 #[.string t] W fun e w' => e = .returned (.agg #[.int .i64 (ckE t.data.toList), .int .i64 (ckAt t.data.toList)]) ∧ Below W.heap.size W w') from fun W => check_all t W)
  generalize ckE t.data.toList = E at *
  generalize ckAt t.data.toList = A at *
  go_enter Try.func6, Try.ntmps6
  go_wp2_with fail
  refine (HC.out _).mono ?_
  rintro e W1 ⟨rfl, hb⟩
  have hb1 : Below (w.heap.size + 1) (w.alloc (.cells #[.int .i64 0, .int .i64 0] 25)) W1 := by simpa using hb
  have hz := hb1.size
  simp at hz
  have hb2 := hb1.alloc (by omega) (.cells #[.int .i64 E, .int .i64 A] 25)
  clear hb hb1 HC
  obtain ⟨c0, c1, f0, f1, hsz⟩ := Kit.two_cells hb2
  go_wp2_with fail
  go_region
  all_goals (try go_wp2)
  have q := Kit.read_two (.int .i64 E) (.int .i64 A) c0 c1
  refine bodyPost_ret (v := .tuple #[.slice none 0 0, .agg #[.int .i64 E, .int .i64 A]]) (by simp [results, Try.results6, go_sem, q.1, q.2]) rfl ⟨rfl, ?_⟩
  exact (Kit.below_two hb2 _ _).drew
set_option maxRecDepth 100000 in
set_option maxHeartbeats 2000000 in
theorem vrep_bad2 (t : ByteArray) (n : Int) (hk : ckE t.data.toList = 0) (hk2 : ckAt t.data.toList = 0) (hs : 4096 < t.size) (w : World) : Calls Try.prog 6 #[.string t, .int .i64 n] w fun e w' => e = .returned (.tuple #[.slice none 0 0, .agg #[.int .i64 4, .int .i64 0]]) ∧ Below w.heap.size w w' := by
  have HC := (show Hid (∀ W, Calls Try.prog 15 #[.string t] W fun e w' => e = .returned (.agg #[.int .i64 0, .int .i64 0]) ∧ Below W.heap.size W w') from fun W => by have := check_all t W; rw [hk, hk2] at this; exact this)
  have hs2 : (4096 : Int) < (t.size : Int) := by omega
  clear hk hk2
  go_enter Try.func6, Try.ntmps6
  go_wp2_with fail
  refine (HC.out _).mono ?_
  rintro e W1 ⟨rfl, hb⟩
  have hb1 : Below (w.heap.size + 1) (w.alloc (.cells #[.int .i64 0, .int .i64 0] 25)) W1 := by simpa using hb
  have hz := hb1.size
  simp at hz
  have hb2 := hb1.alloc (by omega) (.cells #[.int .i64 0, .int .i64 0] 25)
  clear hb hb1 HC
  obtain ⟨c0, c1, f0, f1, hsz⟩ := Kit.two_cells hb2
  go_wp2
  have q := Kit.read_two (.int .i64 4) (.int .i64 0) c0 c1
  refine bodyPost_ret (v := .tuple #[.slice none 0 0, .agg #[.int .i64 4, .int .i64 0]]) (by simp [results, Try.results6, go_sem, q.1, q.2]) rfl ⟨rfl, ?_⟩
  exact Kit.below_two hb2 _ _
set_option maxRecDepth 100000 in
set_option maxHeartbeats 2000000 in
theorem vrep_bad3 (t : ByteArray) (n : Int) (hk : ckE t.data.toList = 0) (hk2 : ckAt t.data.toList = 0) (hs : t.size ≤ 4096) (hn : n < 1) (w : World) : Calls Try.prog 6 #[.string t, .int .i64 n] w fun e w' => e = .returned (.tuple #[.slice none 0 0, .agg #[.int .i64 3, .int .i64 0]]) ∧ Below w.heap.size w w' := by
  have HC := (show Hid (∀ W, Calls Try.prog 15 #[.string t] W fun e w' => e = .returned (.agg #[.int .i64 0, .int .i64 0]) ∧ Below W.heap.size W w') from fun W => by have := check_all t W; rw [hk, hk2] at this; exact this)
  have hs2 : (t.size : Int) ≤ 4096 := by omega
  clear hk hk2
  go_enter Try.func6, Try.ntmps6
  go_wp2_with fail
  refine (HC.out _).mono ?_
  rintro e W1 ⟨rfl, hb⟩
  have hb1 : Below (w.heap.size + 1) (w.alloc (.cells #[.int .i64 0, .int .i64 0] 25)) W1 := by simpa using hb
  have hz := hb1.size
  simp at hz
  have hb2 := hb1.alloc (by omega) (.cells #[.int .i64 0, .int .i64 0] 25)
  clear hb hb1 HC
  obtain ⟨c0, c1, f0, f1, hsz⟩ := Kit.two_cells hb2
  go_wp2
  have q := Kit.read_two (.int .i64 3) (.int .i64 0) c0 c1
  refine bodyPost_ret (v := .tuple #[.slice none 0 0, .agg #[.int .i64 3, .int .i64 0]]) (by simp [results, Try.results6, go_sem, q.1, q.2]) rfl ⟨rfl, ?_⟩
  exact Kit.below_two hb2 _ _
/-- What the program answers. -/
theorem vrep_any (t : ByteArray) (n : Int) (hn : n ≤ 9223372036854775807) (w : World) : Calls Try.prog 6 #[.string t, .int .i64 n] w fun e w' => ∃ v, e = .returned (.tuple #[v, .agg #[.int .i64 (rpE t.data.toList n), .int .i64 (rpAt t.data.toList)]]) ∧ PairsAt w' v (rpS t.data.toList n).length (fun k => (((rpS t.data.toList n).getD k (0, 0)).1 : Nat)) (fun k => (((rpS t.data.toList n).getD k (0, 0)).2 : Nat)) ∧ Below w.heap.size w w' := by
  have hsl := Pl.size_len t
  unfold rpS rpE rpAt
  rcases ck_cases t.data.toList with ⟨b1, b2, b3, b4⟩ | b1
  · have b0 : ¬ (ckE t.data.toList ≠ 0) := fun h => h b1
    simp only [if_neg b0]
    by_cases h1 : 4096 < t.data.toList.length
    · simp only [if_pos h1]
      rw [if_neg (by decide)]
      refine (vrep_bad2 t n b1 b2 (by omega) w).mono ?_
      rintro e W ⟨rfl, hb⟩
      exact ⟨_, rfl, PairsAt.nil _ _ _, hb⟩
    · simp only [if_neg h1]
      by_cases h2 : n < 1
      · simp only [if_pos h2]
        rw [if_neg (by decide)]
        refine (vrep_bad3 t n b1 b2 (by omega) h2 w).mono ?_
        rintro e W ⟨rfl, hb⟩
        exact ⟨_, rfl, PairsAt.nil _ _ _, hb⟩
      · simp only [if_neg h2]
        obtain ⟨m, rfl⟩ : ∃ m : Nat, n = m := ⟨n.toNat, by omega⟩
        rw [if_pos trivial, Int.toNat_natCast]
        exact vrep_ok t m (by omega) (by omega) b1 b2 (by omega) w
  · have b0 : ckE t.data.toList ≠ 0 := by simpa using b1
    simp only [if_pos b0]
    rw [if_neg b0]
    refine (vrep_bad1 t n b1 w).mono ?_
    rintro e W ⟨rfl, hb⟩
    exact ⟨_, rfl, PairsAt.nil _ _ _, hb⟩
end Go.Proofs.Ytlgijlfojkpeaad
