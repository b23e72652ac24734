/-
  The statements' closed fact, asked first.
-/
import Derived.Test.YtlgjgppojdamiaaPRead
namespace Go.Proofs.Ytlgjgppojdamiaa
open Go.RowKit PK

theorem abc_read : ∃ f, readOut [40, 65, 66, 67, 41] = (f, 0, 0) ∧ f 0 = 1 ∧ f 2 = 0 ∧ f 3 = 3 := ⟨(readOut [40, 65, 66, 67, 41]).1, Prod.ext rfl (Prod.ext (by decide +kernel) (by decide +kernel)), by decide +kernel, by decide +kernel, by decide +kernel⟩

set_option maxHeartbeats 2000000 in
theorem alive_any (w : World) : Calls Try.prog 36 #[] w fun e w' => e = .returned (.bool true) ∧ Below w.heap.size w w' := by
  obtain ⟨f, hf, h0, h2, h3⟩ := abc_read
  have HR : ∀ W : World, Calls Try.prog 33 #[.string ⟨#[40, 65, 66, 67, 41]⟩] W fun e w' => e = .returned (.tuple #[.agg (ints 26 f), .agg #[.int .i64 0, .int .i64 0]]) ∧ Below W.heap.size W w' := fun W => by
    have := read_any ⟨#[40, 65, 66, 67, 41]⟩ (by decide) W
    have e : (⟨#[40, 65, 66, 67, 41]⟩ : ByteArray).data.toList = [40, 65, 66, 67, 41] := rfl
    rw [e, hf] at this
    exact this
  have HQ : Hid (∀ W : World, Calls Try.prog 33 #[.string ⟨#[40, 65, 66, 67, 41]⟩] W fun e w' => e = .returned (.tuple #[.agg (ints 26 f), .agg #[.int .i64 0, .int .i64 0]]) ∧ Below W.heap.size W w') := HR
  clear HR hf
  go_enter Try.func36, Try.ntmps36
  go_wp2_with fail
  refine (HQ.out _).mono ?_
  rintro e W1 ⟨rfl, hb1⟩
  have hs1 := hb1.size
  have c0 : (ints 26 f)[0]? = some (.int .i64 1) := by rw [← h0]; exact ints_get f (by decide)
  have c2 : (ints 26 f)[2]? = some (.int .i64 0) := by rw [← h2]; exact ints_get f (by decide)
  have c3 : (ints 26 f)[3]? = some (.int .i64 3) := by rw [← h3]; exact ints_get f (by decide)
  clear h0 h2 h3
  go_wp2_with (first
    | (refine wpList_store_row rfl 35 _ _ rfl W1.heap.size (ints 26 f) rfl rfl 35 _ ((RowAt.new W1 _ _).alloc _) (by rw [ints_size]; exact info_perm) (by rw [ints_size]; rfl) (ints_one _ _) ?_; rw [setRow_under])
    | (refine wpList_store_row rfl 26 _ _ rfl (W1.heap.size + 1) #[.int .i64 0, .int .i64 0] rfl rfl 26 _ (RowAt.newAt (by simp)) info_fault rfl (two_one _ _) ?_; rw [setRow_top]))
  go_ret
  exact ⟨rfl, (hb1.alloc hs1 _).alloc (by simp; omega) _⟩
end Go.Proofs.Ytlgjgppojdamiaa
