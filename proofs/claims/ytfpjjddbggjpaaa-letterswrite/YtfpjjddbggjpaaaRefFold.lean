/-
  The contract of the document's own Fold: it answers as the program's.
-/
import Derived.Test.YtfpjjddbggjpaaaSpelt
import Derived.Test.YtfpjjddbggjpaaaFold
namespace Go.Proofs.Ytfpjjddbggjpaaa
open Go.RowKit

theorem owns_below {w W : World} {B : Nat} {e : TypeId} {v : Value} {l : List UInt8} (h : Kit.Owns w B e v l) (hb : Below w.heap.size w W) : Kit.Owns W B e v l := by
  obtain ⟨h1, h2⟩ := h
  refine ⟨h1, ?_⟩
  rcases h2 with h2 | ⟨g, cap, cur, a, b, c, d⟩
  · exact .inl h2
  · exact .inr ⟨g, cap, cur, a, b, (hb.block g (Array.getElem?_eq_some_iff.1 c).1).trans c, d⟩

set_option maxHeartbeats 400000 in
theorem rfold_much (s : ByteArray) (w : World) (h : 65536 < s.size) :
    Calls Try.prog 7 #[.string s] w fun e w' => e = .returned (.tuple #[.string ⟨#[]⟩, .int .i64 4]) ∧ w = w' := by
  go_enter Try.func7, Try.ntmps7
  go_wp2
  go_ret2
  exact ⟨rfl, rfl⟩

set_option maxHeartbeats 1000000 in
theorem rfold_ok (s : ByteArray) (w : World) (h : s.size ≤ 65536) :
    Calls Try.prog 7 #[.string s] w fun e w' => e = .returned (.tuple #[.string ⟨(Pl.fold s.data.toList).toArray⟩, .int .i64 0]) ∧ Below w.heap.size w w' := by
  obtain ⟨i0, hi, hz0, hz1, hz2⟩ := info_parts Try.info5
  have hu9 : Try.prog.underlying 9 = some .string := Try.underlying9
  have hb : decide (65536 < (s.size : Int)) = false := by simp; omega
  have HL : Hid (s.size = s.data.toList.length) := Pl.size_len s
  go_enter Try.func7, Try.ntmps7
  go_wp2
  go_loopw [4] (fun v wr => ∃ (pos : Nat) (acc : List UInt8), pos ≤ s.size ∧ wr.heap[w.heap.size]? = some (.stringIter s pos) ∧ Kit.Owns wr w.heap.size 5 v acc ∧ Below w.heap.size w wr ∧ Hid (acc ++ Pl.fold (s.data.toList.drop pos) = Pl.fold s.data.toList) ∧ acc.length ≤ pos)
    (fun _ wr => s.size - wr.iterPos w.heap.size)
  case atStart => exact ⟨0, [], Nat.zero_le _, World.iter_heap w s 0, Kit.Owns.nil _ _ _, (Below.refl _ _).alloc (Nat.le_refl _) _, rfl, Nat.le_refl _⟩
  case round =>
    obtain ⟨pos, acc, hps, hk, hown, hbel, HS, hacc⟩ := hrel
    have hmu : Hid (wr.iterPos w.heap.size = pos) := iterPos_of hk
    by_cases hp : pos < s.size
    · have R := fold_step s pos hp acc HS.out hacc
      have hcle := decode_le s pos
      have hnext : ∀ ty, (Instr.next (.pointer (some ⟨w.heap.size, 0, none⟩)) true ty).run Try.prog wr = _ := fun ty => Lib.run_next_any_at wr w.heap.size s pos ty hk hp
      have hown1 := hown.iterAt hk (pos + (Utf8.decode s pos).2)
      have hk1 := Lib.iterAt_heap wr w.heap.size s pos (pos + (Utf8.decode s pos).2) hk
      have hbel1 : Below w.heap.size w (wr.iterAt w.heap.size s (pos + (Utf8.decode s pos).2)) := Lib.below_iterAt hbel (by omega) s _
      generalize wr.iterAt w.heap.size s (pos + (Utf8.decode s pos).2) = W1 at hnext hown1 hk1 hbel1
      generalize (Utf8.decode s pos).1 = c at R hcle hnext
      generalize (Utf8.decode s pos).2 = n at R hk1
      obtain ⟨r1, r2, r3, r4⟩ := R
      have HR : Hid ((acc ++ Pl.foldRune c) ++ Pl.fold (s.data.toList.drop (pos + n)) = Pl.fold s.data.toList) := r3
      have hsp := Pl.foldRune_two c
      have hsz : (⟨(Pl.foldRune c).toArray⟩ : ByteArray).size = (Pl.foldRune c).length := by show (Pl.foldRune c).toArray.size = _; simp
      have hcells : Hid (Lib.strCells ⟨(Pl.foldRune c).toArray⟩ = Lib.byteCells (Pl.foldRune c)) := rfl
      have hBs : w.heap.size ≤ W1.heap.size := hbel1.size
      clear r3 hk hown hbel HS
      have HZ : Hid ((⟨(Pl.foldRune c).toArray⟩ : ByteArray).size = (Pl.foldRune c).length) := hsz
      clear hsz
      go_wp2_with (first
        | (go_at_call 16
           refine (spelt_any _ W1 (by omega) (by omega)).mono ?_
           rintro e W2 ⟨rfl, hb2⟩
           have hown2 := owns_below hown1 hb2
           have hB2 : w.heap.size ≤ W2.heap.size := Nat.le_trans hBs hb2.size
           have hbel2 := hbel1.trans (hb2.mono hBs)
           have hk2 : W2.heap[w.heap.size]? = some (.stringIter s (pos + n)) := (hb2.block _ (Array.getElem?_eq_some_iff.1 hk1).1).trans hk1
           clear hown1 hbel1 hk1 hb2 hnext)
        | (at_builtin; refine Lib.wpList_append_own_string _ rfl _ _ 34 9 rfl w.heap.size 5 i0 Try.underlying34 hu9 hi hz0 hz1 hz2 _ _ _ rfl hown2 _ rfl (by rw [HZ.out]; unfold maxLen; omega) (by rw [HZ.out]; omega) hB2 ?_; intro v3 w3 hown3 hgrow3 _))
      have G := Kit.Owns.grown (w := W2) (m := Pl.foldRune c) hown2 hB2 (Below.refl _ _) (Lib.OthersKept.refl 5 none _) hown3 (by rw [HZ.out]; simp) (by rw [hcells.out, Lib.byteCells_append]) hgrow3
      have hk3 := Kit.kept_iter G.2.2 hk2
      go_roundw
      case rel => exact ⟨pos + n, acc ++ Pl.foldRune c, r2, hk3, G.1, hbel2.trans G.2.1, HR, r4⟩
      case measure =>
        rw [hmu.out, iterPos_of hk3]
        omega
    · have hnext : ∀ ty, (Instr.next (.pointer (some ⟨w.heap.size, 0, none⟩)) true ty).run Try.prog wr = _ := fun ty => Lib.run_next_end_at wr w.heap.size s pos ty hk hp
      have hlen := Kit.run_len_own (P := Try.prog) wr 34 3 5 Try.underlying34 hown
      have hc := Kit.run_string_of_own (P := Try.prog) wr 34 9 5 Try.underlying34 Try.underlying5 Try.underlying9 hown
      have e : Hid (acc = Pl.fold s.data.toList) := by
        have h1 := HS.out
        rw [List.drop_of_length_le (by have := HL.out; omega), Pl.fold_nil, List.append_nil] at h1
        exact h1
      have hb2 : decide (65536 < (acc.length : Int)) = false := by simp; omega
      clear hown hk HS
      go_wp2
      go_ret2
      exact ⟨by rw [← e.out]; rfl, hbel⟩
end Go.Proofs.Ytfpjjddbggjpaaa
