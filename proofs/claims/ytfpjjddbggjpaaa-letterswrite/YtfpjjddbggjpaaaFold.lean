/-
  The contract of letters.Fold.
-/
import Derived.Test.YtfpjjddbggjpaaaAppend
namespace Go.Proofs.Ytfpjjddbggjpaaa
open Go.RowKit

set_option maxHeartbeats 400000 in
theorem fold_much (s : ByteArray) (w : World) (h : 65536 < s.size) :
    Calls Try.prog 6 #[.string s] w fun e w' => e = .returned (.tuple #[.string ⟨#[]⟩, .int .i64 4]) ∧ w = w' := by
  go_enter Try.func6, Try.ntmps6
  go_wp2
  go_ret2
  exact ⟨rfl, rfl⟩

theorem fold_step (s : ByteArray) (pos : Nat) (hp : pos < s.size) (acc : List UInt8) (HS : acc ++ Pl.fold (s.data.toList.drop pos) = Pl.fold s.data.toList) (hacc : acc.length ≤ pos) :
    1 ≤ (Utf8.decode s pos).2 ∧ pos + (Utf8.decode s pos).2 ≤ s.size ∧ (acc ++ Pl.foldRune (Utf8.decode s pos).1) ++ Pl.fold (s.data.toList.drop (pos + (Utf8.decode s pos).2)) = Pl.fold s.data.toList ∧ (acc ++ Pl.foldRune (Utf8.decode s pos).1).length ≤ pos + (Utf8.decode s pos).2 := by
  have hL := Pl.size_len s
  have hne : s.data.toList.drop pos ≠ [] := by
    intro e
    have := congrArg List.length e
    rw [List.length_drop, List.length_nil] at this
    omega
  rw [Pl.decode_eq]
  have h1 := Pl.decL_pos (s.data.toList.drop pos)
  have h2 := Pl.decL_le _ hne
  have h3 := Pl.decL_short (s.data.toList.drop pos)
  have h4 := Pl.fold_drop s.data.toList pos (by omega)
  rw [List.length_drop] at h2
  refine ⟨h1, by omega, ?_, ?_⟩
  · rw [List.append_assoc, ← h4, HS]
  · rw [List.length_append]
    omega

set_option maxHeartbeats 1000000 in
theorem fold_ok (s : ByteArray) (w : World) (h : s.size ≤ 65536) :
    Calls Try.prog 6 #[.string s] w fun e w' => e = .returned (.tuple #[.string ⟨(Pl.fold s.data.toList).toArray⟩, .int .i64 0]) ∧ Below w.heap.size w w' := by
  obtain ⟨i0, hi, hz0, hz1, hz2⟩ := info_parts Try.info5
  have hb : decide (65536 < (s.size : Int)) = false := by simp; omega
  have hL := Pl.size_len s
  have HL : Hid (s.size = s.data.toList.length) := hL
  clear hL
  go_enter Try.func6, Try.ntmps6
  go_wp2_with (first
    | (at_make; refine wpList_make_own _ rfl _ _ 34 rfl w.heap.size 5 i0 (.int .u8 0) 1 Try.underlying34 hi hz0 hz1 _ _ _ s.size rfl rfl rfl (by rw [hz2]; omega) (by unfold maxLen; omega) (Nat.le_refl _) ?_; intro w1 hown1 hgrow1))
  have hlt1 : w.heap.size < w1.heap.size := (World.ownsRow.lt hown1 _ rfl).2
  have hown0 : Kit.Owns (w1.iter s 0) w.heap.size 5 (.slice (some ⟨w.heap.size, 0, none⟩) 0 s.size) [] := World.ownsRow.alloc hown1 _
  have hbel0 : Below w.heap.size w (w1.iter s 0) := ((Below.refl _ w).grown hgrow1 (Nat.le_refl _) (fun k hk => by cases hk)).alloc (by omega) _
  clear hi hz0 hz1 hz2 hown1 hgrow1
  go_loopw [4] (fun v wr => ∃ (pos : Nat) (acc : List UInt8), pos ≤ s.size ∧ wr.heap[w1.heap.size]? = some (.stringIter s pos) ∧ Kit.Owns wr w.heap.size 5 v acc ∧ Below w.heap.size w wr ∧ Hid (acc ++ Pl.fold (s.data.toList.drop pos) = Pl.fold s.data.toList) ∧ acc.length ≤ pos)
    (fun _ wr => s.size - wr.iterPos w1.heap.size)
  case atStart => exact ⟨0, [], Nat.zero_le _, World.iter_heap w1 s 0, hown0, hbel0, rfl, Nat.le_refl _⟩
  case round =>
    obtain ⟨pos, acc, hps, hk, hown, hbel, HS, hacc⟩ := hrel
    clear hown0 hbel0
    have hmu : Hid (wr.iterPos w1.heap.size = pos) := iterPos_of hk
    by_cases hp : pos < s.size
    · have R := fold_step s pos hp acc HS.out hacc
      have hcle := decode_le s pos
      have hnext : ∀ ty, (Instr.next (.pointer (some ⟨w1.heap.size, 0, none⟩)) true ty).run Try.prog wr = _ := fun ty => Lib.run_next_any_at wr w1.heap.size s pos ty hk hp
      have hown1 := hown.iterAt hk (pos + (Utf8.decode s pos).2)
      have hk1 := Lib.iterAt_heap wr w1.heap.size s pos (pos + (Utf8.decode s pos).2) hk
      have hbel1 : Below w.heap.size w (wr.iterAt w1.heap.size s (pos + (Utf8.decode s pos).2)) := Lib.below_iterAt hbel (by omega) s _
      generalize wr.iterAt w1.heap.size s (pos + (Utf8.decode s pos).2) = W1 at hnext hown1 hk1 hbel1
      generalize (Utf8.decode s pos).1 = c at R hcle hnext
      generalize (Utf8.decode s pos).2 = n at R hk1
      obtain ⟨r1, r2, r3, r4⟩ := R
      have HR : Hid ((acc ++ Pl.foldRune c) ++ Pl.fold (s.data.toList.drop (pos + n)) = Pl.fold s.data.toList) := r3
      have hBs : w.heap.size ≤ W1.heap.size := hbel1.size
      clear r3 hk hown hbel HS
      go_wp2_with (go_at_call 15; refine (appendFolded_any w.heap.size _ acc _ W1 hown1 hBs (by omega) (by omega) (by omega)).mono ?_; rintro e W2 ⟨v2, rfl, hown2, hbel2, hkept⟩)
      have hk2 := Kit.kept_iter hkept hk1
      go_roundw
      case rel => exact ⟨pos + n, acc ++ Pl.foldRune c, r2, hk2, hown2, hbel1.trans hbel2, HR, r4⟩
      case measure =>
        rw [hmu.out, iterPos_of hk2]
        omega
    · have hnext : ∀ ty, (Instr.next (.pointer (some ⟨w1.heap.size, 0, none⟩)) true ty).run Try.prog wr = _ := fun ty => Lib.run_next_end_at wr w1.heap.size s pos ty hk hp
      have hc := Kit.run_string_of_own (P := Try.prog) wr 34 9 5 Try.underlying34 Try.underlying5 Try.underlying9 hown
      have e : Hid (acc = Pl.fold s.data.toList) := by
        have h1 := HS.out
        rw [List.drop_of_length_le (by have := HL.out; omega), Pl.fold_nil, List.append_nil] at h1
        exact h1
      clear hown hk HS
      go_wp2
      go_ret2
      exact ⟨by rw [← e.out]; rfl, hbel⟩
end Go.Proofs.Ytfpjjddbggjpaaa
