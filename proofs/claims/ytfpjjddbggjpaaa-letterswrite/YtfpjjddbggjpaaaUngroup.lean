/-
  The contract of letters.Ungroup.
-/
import Derived.Test.YtfpjjddbggjpaaaAppend
import Derived.Test.YtfpjjddbggjpaaaCheck
namespace Go.Proofs.Ytfpjjddbggjpaaa
open Go.RowKit

set_option maxHeartbeats 400000 in
theorem ungroup_much (s : ByteArray) (w : World) (h : 131072 < s.size) :
    Calls Try.prog 12 #[.string s] w fun e w' => e = .returned (.tuple #[.string ⟨#[]⟩, .agg #[.int .i64 4, .int .i64 0]]) ∧ Below w.heap.size w w' := by
  go_enter Try.func12, Try.ntmps12
  go_wp2
  exact bodyPost_ret (v := .tuple #[.string ⟨#[]⟩, .agg #[.int .i64 4, .int .i64 0]]) (by simp [results, Try.results12, go_sem]) rfl ⟨rfl, (Below.refl _ _).alloc (Nat.le_refl _) _⟩

def ungV (l : List UInt8) : Value := .tuple #[.string ⟨(Pl.ungS l).toArray⟩, .agg #[.int .i64 (Pl.ungE l), .int .i64 (Pl.ungAt l)]]

set_option maxHeartbeats 2000000 in
theorem ungroup_ok (s : ByteArray) (w : World) (h : s.size ≤ 131072) :
    Calls Try.prog 12 #[.string s] w fun e w' => e = .returned (ungV s.data.toList) ∧ Below w.heap.size w w' := by
  obtain ⟨i0, hi, hz0, hz1, hz2⟩ := info_parts Try.info5
  have hb : decide (131072 < (s.size : Int)) = false := by simp; omega
  have HL : Hid (s.size = s.data.toList.length) := Pl.size_len s
  go_enter Try.func12, Try.ntmps12
  go_wp2_with (first
    | (at_make; refine wpList_make_own _ rfl _ _ 34 rfl (w.heap.size + 1) 5 i0 (.int .u8 0) 1 Try.underlying34 hi hz0 hz1 _ _ _ s.size rfl rfl rfl (by rw [hz2]; omega) (by unfold maxLen; omega) (by simp) ?_; intro w1 hown1 hgrow1))
  have hown0 : Kit.Owns w1 (w.heap.size + 1) 5 (.slice (some ⟨w.heap.size + 1, 0, none⟩) 0 s.size) [] := by simpa [Kit.Owns, Lib.byteCells] using hown1
  have hbel0 : Below (w.heap.size + 1) (w.alloc (Obj.cells #[Value.int IntKind.i64 0, Value.int IntKind.i64 0] 26)) w1 := (Below.refl _ _).grown hgrow1 (by simp) (fun k hk => by cases hk)
  clear hown1 hgrow1
  go_loopw [4, 16] (fun v i wr => ∃ k : Nat, k ≤ s.size ∧ i = .int .i64 k ∧ Kit.Owns wr (w.heap.size + 1) 5 v ((s.data.toList.take k).filter Pl.isLb) ∧ Below (w.heap.size + 1) (w.alloc (Obj.cells #[Value.int IntKind.i64 0, Value.int IntKind.i64 0] 26)) wr ∧ Hid (∀ j (_ : j < k) (hj : j < s.data.toList.length), Pl.badU s.data.toList[j] = false))
    (fun _ i _ => s.size - (intOf i).toNat)
  case atStart => exact ⟨0, Nat.zero_le _, rfl, hown0, hbel0, fun j hj => by omega⟩
  case round =>
    obtain ⟨k, hk, rfl, hown, hbel, HA⟩ := hrel
    clear hown0 hbel0
    obtain ⟨c0, c1, f0, f1, hsz⟩ := Kit.two_cells hbel
    by_cases hlt : k < s.size
    · have hk' : k < s.data.toList.length := by have := HL.out; omega
      have hle : ((s.data.toList.take k).filter Pl.isLb).length ≤ k := Nat.le_trans (List.length_filter_le _ _) (List.length_take_le _ _)
      have HF : Hid ((s.data.toList.take (k + 1)).filter Pl.isLb = (s.data.toList.take k).filter Pl.isLb ++ (if Pl.isL (s[k].toNat : Int) = true then [s[k]] else [])) := Pl.filter_snoc _ k hk'
      have HB : Hid (∀ x, Pl.badU s[k] = x → (x = false → ∀ j (_ : j < k + 1) (hj : j < s.data.toList.length), Pl.badU s.data.toList[j] = false) ∧ (x = true → s.data.toList.findIdx? Pl.badU = some k)) := by
        intro x hx
        refine ⟨?_, ?_⟩
        · rintro rfl j hj hj'
          rcases Nat.lt_or_ge j k with h1 | h1
          · exact HA.out j h1 hj'
          · have : j = k := by omega
            subst this
            exact hx
        · rintro rfl
          exact Pl.find_at _ _ k hk' HA.out hx
      have hkB : w.heap.size + 1 ≤ wr.heap.size := by omega
      cases hl : Pl.isL (s[k].toNat : Int)
      · have HF' : Hid ((s.data.toList.take (k + 1)).filter Pl.isLb = (s.data.toList.take k).filter Pl.isLb) := by
          show _ = _
          rw [HF.out, hl]
          simp
        by_cases hg : s[k].toNat = 32
        · have HX : Hid _ := (HB.out false (by simp [Pl.badU, Pl.isLb, Pl.gapB, hg])).1 rfl
          have hq : ((s[k].toNat : Int) != 32) = false := by simp [hg]
          clear HA HB hg hi hz0 hz1 hz2 HF
          go_wp2_with (go_at_call 17; refine (isLetter_any _ _).mono ?_; rintro e w' ⟨rfl, rfl⟩)
          exact ⟨⟨k + 1, by omega, by go_num, by rw [HF'.out]; exact hown, hbel, HX⟩, by simp [intOf]; omega⟩
        · have hq : ((s[k].toNat : Int) != 32) = true := by simp; omega
          by_cases hg2 : s[k].toNat = 10
          · have HX : Hid _ := (HB.out false (by simp [Pl.badU, Pl.isLb, Pl.gapB, hg2])).1 rfl
            have hq2 : ((s[k].toNat : Int) != 10) = false := by simp [hg2]
            clear HA HB hg hg2 hi hz0 hz1 hz2 HF
            go_wp2_with (go_at_call 17; refine (isLetter_any _ _).mono ?_; rintro e w' ⟨rfl, rfl⟩)
            exact ⟨⟨k + 1, by omega, by go_num, by rw [HF'.out]; exact hown, hbel, HX⟩, by simp [intOf]; omega⟩
          · have HX : Hid _ := (HB.out true (by simp [Pl.badU, Pl.isLb, Pl.gapB, hl, hg, hg2])).2 rfl
            have hq2 : ((s[k].toNat : Int) != 10) = true := by simp; omega
            have q := Kit.read_two (.int .i64 2) (.int .i64 k) c0 c1
            have hbf := Kit.below_two hbel (.int .i64 2) (.int .i64 k)
            clear HA HB hg hg2 hi hz0 hz1 hz2 HF HF'
            go_wp2_with (go_at_call 17; refine (isLetter_any _ _).mono ?_; rintro e w' ⟨rfl, rfl⟩)
            refine bodyPost_ret (v := .tuple #[.string ⟨#[]⟩, .agg #[.int .i64 2, .int .i64 k]]) (by simp [results, Try.results12, go_sem, q.1, q.2]) rfl ⟨?_, hbf⟩
            have := Pl.ung_bad _ _ HX.out
            unfold ungV
            rw [this.1, this.2.1, this.2.2]
      · have HF' : Hid ((s.data.toList.take (k + 1)).filter Pl.isLb = (s.data.toList.take k).filter Pl.isLb ++ [s[k]]) := by
          show _ = _
          rw [HF.out, hl]
          simp
        have HX : Hid _ := (HB.out false (by simp [Pl.badU, Pl.isLb, hl])).1 rfl
        clear HA HB HF
        generalize (s.data.toList.take k).filter Pl.isLb = acc at hown hle HF'
        go_wp2_with (first
          | (go_at_call 17; refine (isLetter_any _ _).mono ?_; rintro e w' ⟨rfl, rfl⟩)
          | (at_builtin; refine wpList_append_own _ rfl _ _ 34 rfl (w.heap.size + 1) 5 i0 (.int .u8 0) 1 1 Try.underlying34 hi hz0 hz1 hz2 rfl (by decide) _ _ _ rfl (World.ownsRow.alloc hown _) ⟨wr.heap.size, 0, none⟩ 1 1 [.int .u8 (s[k].toNat : Int)] rfl rfl (cell_one_new _ _ _) (fun u hu => by simp at hu; subst hu; rfl) (by unfold maxLen; omega) (by omega) (by simp; omega) ?_; intro v' w2 hown' hgrow _))
        have G := Kit.Owns.grownB (w := w.alloc (Obj.cells #[Value.int IntKind.i64 0, Value.int IntKind.i64 0] 26)) (m := [s[k]]) (World.ownsRow.alloc hown _) (by simp; omega) (hbel.alloc hkB _) hown' (by simp) (by simp [Lib.byteCells]) hgrow
        exact ⟨⟨k + 1, by omega, by go_num, by rw [HF'.out]; exact G.1, G.2, HX⟩, by simp [intOf]; omega⟩
    · have hlen := Kit.run_len_own (P := Try.prog) wr 34 3 5 Try.underlying34 hown
      have hstr := Kit.run_string_of_own (P := Try.prog) wr 34 9 5 Try.underlying34 Try.underlying5 Try.underlying9 hown
      have hN : s.data.toList.findIdx? Pl.badU = none := Pl.find_all _ _ fun j hj => HA.out j (by have := HL.out; omega) hj
      have hT : s.data.toList.take k = s.data.toList := List.take_of_length_le (by have := HL.out; omega)
      rw [hT] at hlen hstr
      have HC : Hid _ := Pl.ung_long _ hN
      have HD : Hid _ := Pl.ung_fit _ hN
      clear hN hT hown HA
      generalize hF : (s.data.toList.filter Pl.isLb) = F at hlen hstr HC HD
      clear hF
      by_cases h6 : 65536 < F.length
      · have q := Kit.read_two (.int .i64 4) (.int .i64 0) c0 c1
        have hbf := Kit.below_two hbel (.int .i64 4) (.int .i64 0)
        go_wp2
        refine bodyPost_ret (v := .tuple #[.string ⟨#[]⟩, .agg #[.int .i64 4, .int .i64 0]]) (by simp [results, Try.results12, go_sem, q.1, q.2]) rfl ⟨?_, hbf⟩
        have := HC.out h6
        unfold ungV
        rw [this.1, this.2.1, this.2.2]
      · have q := Kit.read_two (.int .i64 0) (.int .i64 0) c0 c1
        have hbf := Kit.below_two hbel (.int .i64 0) (.int .i64 0)
        go_wp2
        refine bodyPost_ret (v := .tuple #[.string ⟨F.toArray⟩, .agg #[.int .i64 0, .int .i64 0]]) (by simp [results, Try.results12, go_sem, q.1, q.2]) rfl ⟨?_, hbf⟩
        have := HD.out h6
        unfold ungV
        rw [this.1, this.2.1, this.2.2]
end Go.Proofs.Ytfpjjddbggjpaaa
