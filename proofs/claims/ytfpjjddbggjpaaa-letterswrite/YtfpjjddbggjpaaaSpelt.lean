/-
  The contract of the document's own answer at one rune: it is written as the program writes it.
-/
import Derived.Test.YtfpjjddbggjpaaaSmall
import Derived.Test.YtfpjjddbggjpaaaKit
import Derived.Test.YtfpjjddbggjpaaaRunes
namespace Go.Proofs.Ytfpjjddbggjpaaa
open Go.RowKit

theorem encode_low (r : Int) (h0 : 0 ≤ r) (h1 : r < 128) : Utf8.encode r = ⟨[UInt8.ofNat r.toNat].toArray⟩ := by
  have hv : Utf8.valid r = true := by simp [Utf8.valid]; omega
  unfold Utf8.encode
  simp only [hv, if_true]
  rw [if_pos (by omega)]

def bigCells : Array Value := #[Value.string ⟨#[195, 132, 195, 164, 195, 134, 195, 166]⟩, Value.string ⟨#[65, 69]⟩, Value.string ⟨#[195, 150, 195, 182, 195, 152, 195, 184, 197, 146, 197, 147]⟩, Value.string ⟨#[79, 69]⟩, Value.string ⟨#[195, 156, 195, 188]⟩, Value.string ⟨#[85, 69]⟩, Value.string ⟨#[195, 159]⟩, Value.string ⟨#[83, 83]⟩, Value.string ⟨#[195, 133, 195, 165]⟩, Value.string ⟨#[65, 65]⟩, Value.string ⟨#[195, 137, 195, 169, 195, 136, 195, 168, 195, 138, 195, 170]⟩, Value.string ⟨#[69]⟩, Value.string ⟨#[195, 128, 195, 160, 195, 130, 195, 162, 196, 132, 196, 133]⟩, Value.string ⟨#[65]⟩, Value.string ⟨#[195, 135, 195, 167, 196, 134, 196, 135]⟩, Value.string ⟨#[67]⟩, Value.string ⟨#[197, 129, 197, 130]⟩, Value.string ⟨#[76]⟩, Value.string ⟨#[197, 131, 197, 132, 195, 145, 195, 177]⟩, Value.string ⟨#[78]⟩, Value.string ⟨#[197, 154, 197, 155]⟩, Value.string ⟨#[83]⟩, Value.string ⟨#[197, 185, 197, 186, 197, 187, 197, 188]⟩, Value.string ⟨#[90]⟩, Value.string ⟨#[46, 63, 33]⟩, Value.string ⟨#[88]⟩]
def fst (k : Nat) : ByteArray := ⟨(Pl.rows.getD k ([], [])).1.toArray⟩
def snd (k : Nat) : ByteArray := ⟨(Pl.rows.getD k ([], [])).2.toArray⟩
theorem big_at (k : Nat) (hk : k < 13) : bigCells[k * 2]? = some (.string (fst k)) ∧ bigCells[k * 2 + 1]? = some (.string (snd k)) := by
  rcases (show k = 0 ∨ k = 1 ∨ k = 2 ∨ k = 3 ∨ k = 4 ∨ k = 5 ∨ k = 6 ∨ k = 7 ∨ k = 8 ∨ k = 9 ∨ k = 10 ∨ k = 11 ∨ k = 12 by omega) with rfl | rfl | rfl | rfl | rfl | rfl | rfl | rfl | rfl | rfl | rfl | rfl | rfl <;> exact ⟨rfl, rfl⟩
theorem big_cell {w W : World} (h : Below (w.heap.size + 1) (w.alloc (.cells bigCells 39)) W) (k : Nat) (hk : k < 13) :
    W.cell? ⟨w.heap.size, k * 2, none⟩ = some (.string (fst k)) ∧ W.cell? ⟨w.heap.size, k * 2 + 1, none⟩ = some (.string (snd k)) := by
  rw [h.cell (p := ⟨w.heap.size, k * 2, none⟩) (by simp), h.cell (p := ⟨w.heap.size, k * 2 + 1, none⟩) (by simp)]
  have := big_at k hk
  simp [this.1, this.2]
def lft (r : Int) (k : Nat) : List UInt8 := if k < 13 then Pl.left r k 0 else []

theorem fst_data (k : Nat) : (fst k).data.toList = (Pl.rows.getD k ([], [])).1 := by simp [fst]
theorem fst_size (k : Nat) : (fst k).size = (Pl.rows.getD k ([], [])).1.length := by rw [Pl.size_len, fst_data]
theorem spelt_round (r : Int) (k pos : Nat) (hp : pos < (fst k).size) :
    1 ≤ (Utf8.decode (fst k) pos).2 ∧ pos + (Utf8.decode (fst k) pos).2 ≤ (fst k).size ∧ ((((Utf8.decode (fst k) pos).1 : Int) == r) = true → Pl.left r k pos = (Pl.rows.getD k ([], [])).2) ∧
      ((((Utf8.decode (fst k) pos).1 : Int) == r) = false → Pl.left r k pos = Pl.left r k (pos + (Utf8.decode (fst k) pos).2)) := by
  rw [fst_size] at hp
  rw [Pl.decode_eq, fst_data, fst_size]
  have hne : (Pl.rows.getD k ([], [])).1.drop pos ≠ [] := by
    intro e
    have := congrArg List.length e
    rw [List.length_drop, List.length_nil] at this
    omega
  have h2 := Pl.decL_le _ hne
  rw [List.length_drop] at h2
  exact ⟨Pl.decL_pos _, by omega, Pl.left_hit r k pos hp, Pl.left_miss r k pos hp⟩
theorem spelt_next (r : Int) (k pos : Nat) (hk : k < 13) (hp : ¬ pos < (fst k).size) : Pl.left r k pos = lft r (k + 1) := by
  rw [fst_size] at hp
  rw [Pl.left_next r k pos hk hp, lft]

set_option maxHeartbeats 4000000 in
theorem spelt_any (r : Int) (w : World) (hr0 : 0 ≤ r) (hr1 : r ≤ 2147483647) :
    Calls Try.prog 16 #[.int .i32 r] w fun e w' => e = .returned (.string ⟨(Pl.foldRune r).toArray⟩) ∧ Below w.heap.size w w' := by
  by_cases h1 : 65 ≤ r ∧ r ≤ 90
  · have hf : Hid (Pl.foldRune r = [UInt8.ofNat r.toNat]) := if_pos h1
    obtain ⟨h1a, h1b⟩ := h1
    have he := encode_low r hr0 (by omega)
    go_enter Try.func16, Try.ntmps16
    go_wp2
    go_ret
    exact ⟨by rw [hf.out]; rfl, Below.refl _ _⟩
  · by_cases h2 : 97 ≤ r ∧ r ≤ 122
    · have hf : Hid (Pl.foldRune r = [UInt8.ofNat (r - 32).toNat]) := by show _ = _; unfold Pl.foldRune; rw [if_neg h1, if_pos h2]
      obtain ⟨h2a, h2b⟩ := h2
      clear h1
      have he := encode_low (r - 32) (by omega) (by omega)
      go_enter Try.func16, Try.ntmps16
      go_wp2
      go_ret
      exact ⟨by rw [hf.out]; rfl, Below.refl _ _⟩
    · have hf : Hid (Pl.foldRune r = Pl.spell r) := by show _ = _; unfold Pl.foldRune; rw [if_neg h1, if_neg h2]
      have hcases : (65 ≤ r ∧ 90 < r ∧ 97 ≤ r ∧ 122 < r ∧ decide (r ≤ 90) = false ∧ decide (r ≤ 122) = false) ∨ (65 ≤ r ∧ 90 < r ∧ r < 97 ∧ decide (r ≤ 90) = false) ∨ r < 65 := by
        simp only [decide_eq_false_iff_not]
        omega
      clear h1 h2
      rcases hcases with ⟨g1, g2, g3, g4, g5, g6⟩ | ⟨g1, g2, g3, g5⟩ | g1
      all_goals
        go_enter Try.func16, Try.ntmps16
        go_wp2
        go_loopw [39] (fun i wr => ∃ k : Nat, k ≤ 13 ∧ i = .int .i64 k ∧ Below (w.heap.size + 1) (w.alloc (.cells bigCells 39)) wr ∧ Hid (lft r k = Pl.spell r)) (fun i _ => 13 - (intOf i).toNat)
        case atStart => exact ⟨0, by omega, rfl, Below.refl _ _, Pl.left_start r⟩
        case round =>
          obtain ⟨k, hk, rfl, hbel, HS⟩ := hrel
          by_cases hlt : k < 13
          · obtain ⟨c0, c1⟩ := big_cell hbel k hlt
            obtain ⟨wo, rfl⟩ : ∃ wo : World, wo = wr := ⟨_, rfl⟩
            have hB1 : w.heap.size + 1 ≤ wo.heap.size := by have := hbel.size; simp at this; omega
            have hlk : decide ((k : Int) < 13) = true := by simp; omega
            have HL : Hid (Pl.left r k 0 = Pl.spell r) := by
              have := HS.out
              rw [lft, if_pos hlt] at this
              exact this
            go_wp2
            clear HS c0 c1
            go_loopw [6] (fun _ wi => ∃ pos : Nat, pos ≤ (fst k).size ∧ wi.heap[wo.heap.size + 1]? = some (.stringIter (fst k) pos) ∧ Below (wo.heap.size + 1) (wo.alloc (Obj.cells #[Value.string (fst k), Value.string (snd k)] 39)) wi ∧ Hid (Pl.left r k pos = Pl.spell r)) (fun _ wi => (fst k).size - wi.iterPos (wo.heap.size + 1))
            case atStart => exact ⟨0, Nat.zero_le _, by simpa using World.iter_heap (wo.alloc (Obj.cells #[Value.string (fst k), Value.string (snd k)] 39)) (fst k) 0, (Below.refl _ _).alloc (by simp) _, HL⟩
            case round =>
              obtain ⟨pos, hps, hit, hbi, HI⟩ := hrel
              have hmu : Hid (wr.iterPos (wo.heap.size + 1) = pos) := iterPos_of hit
              by_cases hp : pos < (fst k).size
              · obtain ⟨r1, r2, r3, r4⟩ := spelt_round r k pos hp
                have R3 : Hid _ := r3
                have R4 : Hid _ := r4
                have hnext : ∀ ty, (Instr.next (.pointer (some ⟨wo.heap.size + 1, 0, none⟩)) true ty).run Try.prog wr = _ := fun ty => Lib.run_next_any_at wr (wo.heap.size + 1) (fst k) pos ty hit hp
                have hit1 := Lib.iterAt_heap wr (wo.heap.size + 1) (fst k) pos (pos + (Utf8.decode (fst k) pos).2) hit
                have hbi1 : Below (wo.heap.size + 1) (wo.alloc (Obj.cells #[Value.string (fst k), Value.string (snd k)] 39)) (wr.iterAt (wo.heap.size + 1) (fst k) (pos + (Utf8.decode (fst k) pos).2)) := Lib.below_iterAt hbi (by omega) _ _
                generalize wr.iterAt (wo.heap.size + 1) (fst k) (pos + (Utf8.decode (fst k) pos).2) = W1 at hnext hit1 hbi1
                generalize (Utf8.decode (fst k) pos).1 = c at R3 R4 hnext
                generalize (Utf8.decode (fst k) pos).2 = n at R4 hit1 r1 r2
                obtain ⟨c0, c1, f0, f1, hsz⟩ := Kit.two_cells hbi1
                clear r3 r4 hit hbi f0 f1
                cases hc : ((c : Int) == r)
                · go_wp2
                  go_roundw
                  case rel => exact ⟨pos + n, r2, hit1, hbi1, by show _ = _; rw [← R4.out hc]; exact HI.out⟩
                  case measure =>
                    rw [hmu.out, iterPos_of hit1]
                    omega
                · have hbf : Below w.heap.size w W1 := (((Below.refl _ w).alloc (Nat.le_refl _) _).trans (hbel.mono (by omega))).trans (((Below.refl _ wo).alloc (by omega) _).trans (hbi1.mono (by omega)))
                  go_wp2
                  go_ret
                  refine ⟨?_, hbf⟩
                  rw [hf.out, ← HI.out, R3.out hc]
                  rfl
              · have hnext : ∀ ty, (Instr.next (.pointer (some ⟨wo.heap.size + 1, 0, none⟩)) true ty).run Try.prog wr = _ := fun ty => Lib.run_next_end_at wr (wo.heap.size + 1) (fst k) pos ty hit hp
                have hbn : Below (w.heap.size + 1) (w.alloc (.cells bigCells 39)) wr := hbel.trans (((Below.refl _ wo).alloc hB1 _).trans (hbi.mono (by omega)))
                have HN : Hid (lft r (k + 1) = Pl.spell r) := by
                  show _ = _
                  rw [← spelt_next r k pos hlt hp]
                  exact HI.out
                clear hit hbi HI
                go_wp2
                go_roundw
                case rel => exact ⟨k + 1, by omega, by go_num, hbn, HN⟩
                case measure => simp [intOf]; omega
          · go_wp2
            go_ret
            refine ⟨?_, ?_⟩
            · have := HS.out
              rw [hf.out, ← this, lft, if_neg hlt]
              rfl
            · exact ((Below.refl _ w).alloc (Nat.le_refl _) _).trans (hbel.mono (by omega))
end Go.Proofs.Ytfpjjddbggjpaaa
