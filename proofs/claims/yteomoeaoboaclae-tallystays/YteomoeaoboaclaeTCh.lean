/-
  Contracts of tally.Chi and tally.Shift, where something is wrong.
-/
import Derived.Test.YteomoeaoboaclaeTUw
import Derived.Test.YteomoeaoboaclaeTFa
import Derived.Test.YteomoeaoboaclaeTCn
namespace Go.Proofs.Yteomoeaoboaclae
open Go.RowKit PK Vg Tl Fl

set_option maxRecDepth 100000 in
set_option maxHeartbeats 2000000 in
theorem tchi_bad (t : ByteArray) (F : Nat → Nat) (E A : Int) (hE : (E != 0) = true) (HT : Hid (∀ W, Calls Try.prog 30 #[.string t, .agg (flts F)] W fun e w' => e = .returned (.agg #[.int .i64 E, .int .i64 A]) ∧ Below W.heap.size W w')) (w : World) : Calls Try.prog 13 #[.string t, .agg (flts F)] w fun e w' => e = .returned (.tuple #[.float .f64 0, .agg #[.int .i64 E, .int .i64 A]]) ∧ Below w.heap.size w w' := by
  have h0 := WgAt.new w F
  go_enter Try.func13, Try.ntmps13
  go_wp2_with (first | refine wpList_load_row rfl 36 _ rfl w.heap.size rfl 36 (flts F) (0, 0) _ h0.row Try.underlying36 rfl (by rw [flts_size]; exact v_size_w) ?_)
  refine (HT.out _).mono ?_
  rintro e W1 ⟨rfl, hb⟩
  have h2 := (h0.step hb).alloc (.cells #[.int .i64 E, .int .i64 A] 25)
  have c0 := h2.res.cell (i := 0) rfl
  have c1 := h2.res.cell (i := 1) rfl
  have f0 := h2.res.frozen 0
  have f1 := h2.res.frozen 1
  clear hb HT h0
  go_wp2_with fail
  go_region
  all_goals (try go_wp2)
  have q := Kit.read_two (.int .i64 E) (.int .i64 A) c0 c1
  exact bodyPost_ret (v := .tuple #[.float .f64 0, .agg #[.int .i64 E, .int .i64 A]]) (by simp [results, Try.results13, go_sem, q.1, q.2]) rfl ⟨rfl, (h2.done _ _).drew⟩
set_option maxRecDepth 100000 in
set_option maxHeartbeats 2000000 in
theorem tsh_bad (t : ByteArray) (F : Nat → Nat) (E A : Int) (hE : (E != 0) = true) (HT : Hid (∀ W, Calls Try.prog 30 #[.string t, .agg (flts F)] W fun e w' => e = .returned (.agg #[.int .i64 E, .int .i64 A]) ∧ Below W.heap.size W w')) (w : World) : Calls Try.prog 16 #[.string t, .agg (flts F)] w fun e w' => e = .returned (.tuple #[.int .i64 0, .agg #[.int .i64 E, .int .i64 A]]) ∧ Below w.heap.size w w' := by
  have h0 := WgAt.new w F
  go_enter Try.func16, Try.ntmps16
  go_wp2_with (first | refine wpList_load_row rfl 36 _ rfl w.heap.size rfl 36 (flts F) (0, 0) _ h0.row Try.underlying36 rfl (by rw [flts_size]; exact v_size_w) ?_)
  refine (HT.out _).mono ?_
  rintro e W1 ⟨rfl, hb⟩
  have h2 := (h0.step hb).alloc (.cells #[.int .i64 E, .int .i64 A] 25)
  have c0 := h2.res.cell (i := 0) rfl
  have c1 := h2.res.cell (i := 1) rfl
  have f0 := h2.res.frozen 0
  have f1 := h2.res.frozen 1
  clear hb HT h0
  go_wp2_with fail
  go_region
  all_goals (try go_wp2)
  have q := Kit.read_two (.int .i64 E) (.int .i64 A) c0 c1
  exact bodyPost_ret (v := .tuple #[.int .i64 0, .agg #[.int .i64 E, .int .i64 A]]) (by simp [results, Try.results16, go_sem, q.1, q.2]) rfl ⟨rfl, (h2.done _ _).drew⟩
end Go.Proofs.Yteomoeaoboaclae
