/-
  Contracts of the document's In, Column and Pairs (chapter 7).
-/
import Derived.Test.YteomoeaoboaclaeNMath
import Derived.Test.YteomoeaoboaclaeZKit
namespace Go.Proofs.Yteomoeaoboaclae
open Go.RowKit PK Vg Tl

theorem sumTo_bound {f : Nat → Nat} {B : Nat} : ∀ {n : Nat}, (∀ k, k < n → f k ≤ B) → sumTo f n ≤ n * B
  | 0, _ => by simp [sumTo]
  | n + 1, h => by
    show sumTo f n + f n ≤ (n + 1) * B
    have h1 := sumTo_bound (n := n) fun k hk => h k (by omega)
    have h2 := h n (by omega)
    rw [Nat.add_mul, Nat.one_mul]
    omega
theorem sub_one_int (n : Nat) : (n : Int) * ((n : Int) - 1) = ((n * (n - 1) : Nat) : Int) := by
  cases n with
  | zero => rfl
  | succ n =>
    rw [show n + 1 - 1 = n by omega, Int.natCast_mul]
    congr 1
    omega
set_option maxRecDepth 100000 in
set_option maxHeartbeats 1000000 in
theorem in_any (t : ByteArray) (ht : Ls t.data.toList) (hs : t.size ≤ 1000000) (c : Nat) (w : World) : Calls Try.prog 24 #[.string t, .int .i64 (c : Nat)] w fun e w' => e = .returned (.int .i64 (cnt t.data.toList c : Nat)) ∧ w = w' := by
  have HLE : Hid (∀ k, cnt (t.data.toList.take k) c ≤ k) := fun k => Nat.le_trans (cnt_le _ _) (by rw [List.length_take]; omega)
  have HALL : Hid (cnt (t.data.toList.take t.size) c = cnt t.data.toList c) := by rw [Hid, Pl.size_len, List.take_length]
  go_enter Try.func24, Try.ntmps24
  go_wp2_with fail
  go_loopw [5, 6] (fun n i W => ∃ k : Nat, k ≤ t.size ∧ i = .int .i64 (k : Nat) ∧ n = .int .i64 (cnt (t.data.toList.take k) c : Nat) ∧ w = W) (fun _ i _ => ((t.size : Int) - intOf i).toNat)
  case atStart => exact ⟨0, by omega, rfl, rfl, rfl⟩
  case round =>
    obtain ⟨k, hk, rfl, rfl, rfl⟩ := hrel
    by_cases hlt : k < t.size
    · have hlt2 : (k : Int) < (t.size : Int) := by omega
      have hxl := ht.at (getD_size hlt)
      have hix := (getD_byte t k hlt).symm
      have HN := (show Hid (cnt (t.data.toList.take (k + 1)) c = cnt (t.data.toList.take k) c + if num (t.data.toList.getD k 0) = c then 1 else 0) from cnt_take_succ _ (getD_size hlt) c)
      have hle := HLE.out k
      generalize t.data.toList.getD k 0 = x at *
      generalize cnt (t.data.toList.take k) c = N at *
      have hnum : (x.toNat : Int) - 65 = ((num x : Nat) : Int) := by unfold num; omega
      have hx1 : (65 : Int) ≤ x.toNat := by omega
      have hx2 : (x.toNat : Int) ≤ 90 := by omega
      by_cases hc : num x = c
      · rw [if_pos hc] at HN
        have hc2 : (((x.toNat : Int) - 65) == (c : Int)) = true := by rw [hnum]; simp [hc]
        clear hc
        go_wp2_with fail
        go_roundw
        case rel => exact ⟨k + 1, by omega, by go_num, by rw [HN.out]; go_num, by first | rfl | trivial⟩
        case measure => simp [intOf]; omega
      · rw [if_neg hc] at HN
        have hc2 : (((x.toNat : Int) - 65) == (c : Int)) = false := by rw [hnum]; exact beq_false_of_ne (by omega)
        clear hc
        go_wp2_with fail
        go_roundw
        case rel => exact ⟨k + 1, by omega, by go_num, by rw [HN.out]; go_num, by first | rfl | trivial⟩
        case measure => simp [intOf]; omega
    · obtain rfl : k = t.size := by omega
      go_wp2
      go_ret
      exact ⟨by rw [← HALL.out]; rfl, rfl⟩
set_option maxRecDepth 100000 in
set_option maxHeartbeats 1000000 in
theorem column_any (t : ByteArray) (hs : t.size ≤ 1000000) (c n : Nat) (hn : 0 < n) (hn2 : n ≤ 1000) (w : World) : Calls Try.prog 41 #[.string t, .int .i64 (c : Nat), .int .i64 (n : Nat)] w fun e w' => e = .returned (.string ⟨(col t.data.toList n c).toArray⟩) ∧ Below w.heap.size w w' := by
  obtain ⟨i0, hi0, hz0, hz1, hz2⟩ := x_info_parts v_info_byte
  have HALL : Hid (colTo t.data.toList n c t.size = col t.data.toList n c) := by rw [Hid, Pl.size_len]; rfl
  have hn3 : (n : Int) ≠ 0 := by omega
  have hn4 : ((n : Int) == 0) = false := beq_false_of_ne hn3
  go_enter Try.func41, Try.ntmps41
  go_wp2_with fail
  go_loopw [7, 8] (fun o i W => ∃ (k : Nat) (v : Value), k ≤ t.size ∧ i = .int .i64 (k : Nat) ∧ v = o ∧ Kit.Owns W w.heap.size 5 v (colTo t.data.toList n c k) ∧ Below w.heap.size w W) (fun _ i _ => ((t.size : Int) - intOf i).toNat)
  case atStart => exact ⟨0, _, by omega, rfl, rfl, Kit.Owns.nil _ _ _, Below.refl _ _⟩
  case round =>
    obtain ⟨k, v, hk, rfl, rfl, hown, hbv⟩ := hrel
    have hzv := hbv.size
    by_cases hlt : k < t.size
    · have hlt2 : (k : Int) < (t.size : Int) := by omega
      have hix := (getD_byte t k hlt).symm
      have HN := (show Hid (colTo t.data.toList n c (k + 1) = if k % n = c then colTo t.data.toList n c k ++ [t.data.toList.getD k 0] else colTo t.data.toList n c k) from colTo_succ _ _ _ _)
      have HLL : Hid ((colTo t.data.toList n c k).length ≤ k) := colTo_le _ _ _ _
      generalize t.data.toList.getD k 0 = x at *
      generalize colTo t.data.toList n c k = l at *
      have hmod : (k : Int) % (n : Int) = ((k % n : Nat) : Int) := by omega
      have htm : (k : Int).tmod (n : Int) = ((k % n : Nat) : Int) := by rw [Int.tmod_eq_emod_of_nonneg (by omega), hmod]
      by_cases hc : k % n = c
      · rw [if_pos hc] at HN
        have hc2 : ((k : Int) % (n : Int) == (c : Int)) = true := by rw [hmod]; simp [hc]
        have hc3 : ((k : Int).tmod (n : Int) == (c : Int)) = true := by rw [htm]; simp [hc]
        clear hc hmod htm
        go_wp2_with (first | (at_builtin; refine wpList_append_own _ rfl _ _ 46 rfl w.heap.size 5 i0 (.int .u8 0) 1 1 Try.underlying46 hi0 hz0 hz1 hz2 rfl (by decide) _ _ _ rfl (World.ownsRow.alloc hown _) ⟨wr.heap.size, 0, none⟩ 1 1 [.int .u8 (x.toNat : Int)] rfl rfl (cell_one_new _ _ _) (fun u hu => by simp at hu; subst hu; rfl) (by have := HLL.out; unfold maxLen; omega) (by have := HLL.out; omega) (by simp; omega) ?_; intro v5 w5 hown5 hgrow5 _))
        have hbY := (hbv.alloc (by omega) (.cells #[.int .u8 (x.toNat : Int)] 5)).grown hgrow5 (by simp; omega) (fun k hk => (World.ownsRow.lt hown k hk).1)
        go_roundw
        case rel =>
          refine ⟨k + 1, _, by omega, by go_num, rfl, ?_, hbY⟩
          rw [HN.out]
          unfold Kit.Owns
          rw [← v_cells_byte, List.length_append]
          exact hown5
        case measure => simp [intOf]; omega
      · rw [if_neg hc] at HN
        have hc2 : ((k : Int) % (n : Int) == (c : Int)) = false := by rw [hmod]; exact beq_false_of_ne (by omega)
        have hc3 : ((k : Int).tmod (n : Int) == (c : Int)) = false := by rw [htm]; exact beq_false_of_ne (by omega)
        clear hc hmod htm
        go_wp2_with fail
        go_roundw
        case rel => exact ⟨k + 1, _, by omega, by go_num, rfl, by rw [HN.out]; exact hown, hbv⟩
        case measure => simp [intOf]; omega
    · obtain rfl : k = t.size := by omega
      rw [HALL.out] at hown
      have hst := Kit.run_string_of_own (P := Try.prog) wr 46 9 5 Try.underlying46 Try.underlying5 Try.underlying9 hown
      clear hown
      go_wp2
      go_ret
      exact ⟨rfl, hbv⟩
end Go.Proofs.Yteomoeaoboaclae
