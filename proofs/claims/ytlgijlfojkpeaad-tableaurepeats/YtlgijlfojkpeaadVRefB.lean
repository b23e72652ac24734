/-
  What the document's Repeats answers where something is wrong.
-/
import Derived.Test.YtlgijlfojkpeaadVRepA
namespace Go.Proofs.Ytlgijlfojkpeaad
open Go.RowKit PK Vg

set_option maxRecDepth 100000 in
set_option maxHeartbeats 2000000 in
theorem rrep_bad1 (t : ByteArray) (n : Int) (hE : (ckE t.data.toList != 0) = true) (w : World) : Calls Try.prog 7 #[.string t, .int .i64 n] w fun e w' => e = .returned (.tuple #[.slice none 0 0, .agg #[.int .i64 (ckE t.data.toList), .int .i64 (ckAt t.data.toList)]]) ∧ Below w.heap.size w w' := by
  have HC := (show Hid (∀ W, Calls Try.prog 17 #[.string t] W fun e w' => e = .returned (.agg #[.int .i64 (ckE t.data.toList), .int .i64 (ckAt t.data.toList)]) ∧ Below W.heap.size W w') from fun W => rcheck_all t W)
  generalize ckE t.data.toList = E at *
  generalize ckAt t.data.toList = A at *
  go_enter Try.func7, Try.ntmps7
  go_wp2_with fail
  refine (HC.out _).mono ?_
  rintro e W1 ⟨rfl, hb⟩
  have hb1 : Below (w.heap.size + 1) (w.alloc (.cells #[.int .i64 0, .int .i64 0] 25)) W1 := by simpa using hb
  have hz := hb1.size
  simp at hz
  have hb2 := hb1.alloc (by omega) (.cells #[.int .i64 E, .int .i64 A] 25)
  clear hb hb1 HC
  obtain ⟨c0, c1, f0, f1, hsz⟩ := Kit.two_cells hb2
  go_wp2_with fail
  go_region
  all_goals (try go_wp2)
  have q := Kit.read_two (.int .i64 E) (.int .i64 A) c0 c1
  refine bodyPost_ret (v := .tuple #[.slice none 0 0, .agg #[.int .i64 E, .int .i64 A]]) (by simp [results, Try.results7, go_sem, q.1, q.2]) rfl ⟨rfl, ?_⟩
  exact (Kit.below_two hb2 _ _).drew
set_option maxRecDepth 100000 in
set_option maxHeartbeats 2000000 in
theorem rrep_bad2 (t : ByteArray) (n : Int) (hk : ckE t.data.toList = 0) (hk2 : ckAt t.data.toList = 0) (hs : 4096 < t.size) (w : World) : Calls Try.prog 7 #[.string t, .int .i64 n] w fun e w' => e = .returned (.tuple #[.slice none 0 0, .agg #[.int .i64 4, .int .i64 0]]) ∧ Below w.heap.size w w' := by
  have HC := (show Hid (∀ W, Calls Try.prog 17 #[.string t] W fun e w' => e = .returned (.agg #[.int .i64 0, .int .i64 0]) ∧ Below W.heap.size W w') from fun W => by have := rcheck_all t W; rw [hk, hk2] at this; exact this)
  have hs2 : (4096 : Int) < (t.size : Int) := by omega
  clear hk hk2
  go_enter Try.func7, Try.ntmps7
  go_wp2_with fail
  refine (HC.out _).mono ?_
  rintro e W1 ⟨rfl, hb⟩
  have hb1 : Below (w.heap.size + 1) (w.alloc (.cells #[.int .i64 0, .int .i64 0] 25)) W1 := by simpa using hb
  have hz := hb1.size
  simp at hz
  have hb2 := hb1.alloc (by omega) (.cells #[.int .i64 0, .int .i64 0] 25)
  clear hb hb1 HC
  obtain ⟨c0, c1, f0, f1, hsz⟩ := Kit.two_cells hb2
  go_wp2
  have q := Kit.read_two (.int .i64 4) (.int .i64 0) c0 c1
  refine bodyPost_ret (v := .tuple #[.slice none 0 0, .agg #[.int .i64 4, .int .i64 0]]) (by simp [results, Try.results7, go_sem, q.1, q.2]) rfl ⟨rfl, ?_⟩
  exact Kit.below_two hb2 _ _
set_option maxRecDepth 100000 in
set_option maxHeartbeats 2000000 in
theorem rrep_bad3 (t : ByteArray) (n : Int) (hk : ckE t.data.toList = 0) (hk2 : ckAt t.data.toList = 0) (hs : t.size ≤ 4096) (hn : n < 1) (w : World) : Calls Try.prog 7 #[.string t, .int .i64 n] w fun e w' => e = .returned (.tuple #[.slice none 0 0, .agg #[.int .i64 3, .int .i64 0]]) ∧ Below w.heap.size w w' := by
  have HC := (show Hid (∀ W, Calls Try.prog 17 #[.string t] W fun e w' => e = .returned (.agg #[.int .i64 0, .int .i64 0]) ∧ Below W.heap.size W w') from fun W => by have := rcheck_all t W; rw [hk, hk2] at this; exact this)
  have hs2 : (t.size : Int) ≤ 4096 := by omega
  clear hk hk2
  go_enter Try.func7, Try.ntmps7
  go_wp2_with fail
  refine (HC.out _).mono ?_
  rintro e W1 ⟨rfl, hb⟩
  have hb1 : Below (w.heap.size + 1) (w.alloc (.cells #[.int .i64 0, .int .i64 0] 25)) W1 := by simpa using hb
  have hz := hb1.size
  simp at hz
  have hb2 := hb1.alloc (by omega) (.cells #[.int .i64 0, .int .i64 0] 25)
  clear hb hb1 HC
  obtain ⟨c0, c1, f0, f1, hsz⟩ := Kit.two_cells hb2
  go_wp2
  have q := Kit.read_two (.int .i64 3) (.int .i64 0) c0 c1
  refine bodyPost_ret (v := .tuple #[.slice none 0 0, .agg #[.int .i64 3, .int .i64 0]]) (by simp [results, Try.results7, go_sem, q.1, q.2]) rfl ⟨rfl, ?_⟩
  exact Kit.below_two hb2 _ _
end Go.Proofs.Ytlgijlfojkpeaad
