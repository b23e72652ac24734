/-
  The contract of the document's own Ungroup: it answers as the program's.
-/
import Derived.Test.YtfpjjddbggjpaaaUngroup
import Derived.Test.YtfpjjddbggjpaaaRefCheck
namespace Go.Proofs.Ytfpjjddbggjpaaa
open Go.RowKit

set_option maxHeartbeats 400000 in
theorem rungroup_much (s : ByteArray) (w : World) (h : 131072 < s.size) :
    Calls Try.prog 13 #[.string s] w fun e w' => e = .returned (.tuple #[.string ⟨#[]⟩, .agg #[.int .i64 4, .int .i64 0]]) ∧ Below w.heap.size w w' := by
  go_enter Try.func13, Try.ntmps13
  go_wp2
  exact bodyPost_ret (v := .tuple #[.string ⟨#[]⟩, .agg #[.int .i64 4, .int .i64 0]]) (by simp [results, Try.results13, go_sem]) rfl ⟨rfl, (Below.refl _ _).alloc (Nat.le_refl _) _⟩

set_option maxHeartbeats 2000000 in
theorem rungroup_ok (s : ByteArray) (w : World) (h : s.size ≤ 131072) :
    Calls Try.prog 13 #[.string s] w fun e w' => e = .returned (ungV s.data.toList) ∧ Below w.heap.size w w' := by
  obtain ⟨i0, hi, hz0, hz1, hz2⟩ := info_parts Try.info5
  have hb : decide (131072 < (s.size : Int)) = false := by simp; omega
  have HL : Hid (s.size = s.data.toList.length) := Pl.size_len s
  have hcv := fun w => Lib.run_convert_string_bytes (P := Try.prog) w 9 34 5 s Try.underlying9 Try.underlying34 Try.underlying5
  go_enter Try.func13, Try.ntmps13
  go_wp2
  have hbel0 : Below (w.heap.size + 1) (w.alloc (Obj.cells #[Value.int IntKind.i64 0, Value.int IntKind.i64 0] 26)) (Lib.bytesWorld (w.alloc (Obj.cells #[Value.int IntKind.i64 0, Value.int IntKind.i64 0] 26)) 5 s) := below_bytes _ (by simp) 5 s
  have HC : Hid (∀ k (hk : k < s.size), (Lib.bytesWorld (w.alloc (Obj.cells #[Value.int IntKind.i64 0, Value.int IntKind.i64 0] 26)) 5 s).cell? ⟨w.heap.size + 1, k, none⟩ = some (.int .u8 s[k].toNat)) := fun k hk => by simpa using bytes_cell (w.alloc (Obj.cells #[Value.int IntKind.i64 0, Value.int IntKind.i64 0] 26)) 5 s k hk
  have hz : w.heap.size + 2 ≤ (Lib.bytesWorld (w.alloc (Obj.cells #[Value.int IntKind.i64 0, Value.int IntKind.i64 0] 26)) 5 s).heap.size := by rw [Lib.bytesWorld_size]; simp
  clear hcv
  generalize Lib.bytesWorld (w.alloc (Obj.cells #[Value.int IntKind.i64 0, Value.int IntKind.i64 0] 26)) 5 s = W0 at hbel0 HC hz
  have hcap : s.size ≤ grownCap (w.alloc (Obj.cells #[Value.int IntKind.i64 0, Value.int IntKind.i64 0] 26)) s.size 0 5 := grownCap_ge _ _ _ _
  generalize grownCap (w.alloc (Obj.cells #[Value.int IntKind.i64 0, Value.int IntKind.i64 0] 26)) s.size 0 5 = cap at hcap
  go_loopw [4, 14] (fun v i wr => ∃ k : Nat, k ≤ s.size ∧ i = .int .i64 k ∧ Kit.Owns wr (w.heap.size + 2) 5 v ((s.data.toList.take k).filter Pl.isLb) ∧ Below (w.heap.size + 2) W0 wr ∧ Hid (∀ j (_ : j < k) (hj : j < s.data.toList.length), Pl.badU s.data.toList[j] = false))
    (fun _ i _ => s.size - (intOf i).toNat)
  case atStart => exact ⟨0, Nat.zero_le _, rfl, Kit.Owns.nil _ _ _, Below.refl _ _, fun j hj => by omega⟩
  case round =>
    obtain ⟨k, hk, rfl, hown, hbe2, HA⟩ := hrel
    have hbel := hbel0.trans (hbe2.mono (by omega))
    obtain ⟨c0, c1, f0, f1, hsz⟩ := Kit.two_cells hbel
    have hkB : w.heap.size + 2 ≤ wr.heap.size := Nat.le_trans hz hbe2.size
    by_cases hlt : k < s.size
    · have hcell : wr.cell? ⟨w.heap.size + 1, k, none⟩ = some (.int .u8 s[k].toNat) := (hbe2.cell (p := ⟨w.heap.size + 1, k, none⟩) (by simp)).trans (HC.out k hlt)
      have hk' : k < s.data.toList.length := by have := HL.out; omega
      have hle : ((s.data.toList.take k).filter Pl.isLb).length ≤ k := Nat.le_trans (List.length_filter_le _ _) (List.length_take_le _ _)
      have HF : Hid ((s.data.toList.take (k + 1)).filter Pl.isLb = (s.data.toList.take k).filter Pl.isLb ++ (if Pl.isL (s[k].toNat : Int) = true then [s[k]] else [])) := Pl.filter_snoc _ k hk'
      have HB : Hid (∀ x, Pl.badU s[k] = x → (x = false → ∀ j (_ : j < k + 1) (hj : j < s.data.toList.length), Pl.badU s.data.toList[j] = false) ∧ (x = true → s.data.toList.findIdx? Pl.badU = some k)) := by
        intro x hx
        refine ⟨?_, ?_⟩
        · rintro rfl j hj hj'
          rcases Nat.lt_or_ge j k with h1 | h1
          · exact HA.out j h1 hj'
          · have : j = k := by omega
            subst this
            exact hx
        · rintro rfl
          exact Pl.find_at _ _ k hk' HA.out hx
      clear HC HA
      by_cases hg : s[k].toNat = 32 ∨ s[k].toNat = 10
      · have HF' : Hid ((s.data.toList.take (k + 1)).filter Pl.isLb = (s.data.toList.take k).filter Pl.isLb) := by
          show _ = _
          rw [HF.out]
          have : Pl.isL (s[k].toNat : Int) = false := by rcases hg with hg | hg <;> rw [hg] <;> rfl
          rw [this]
          simp
        have HX : Hid _ := (HB.out false (by rcases hg with hg | hg <;> simp [Pl.badU, Pl.isLb, Pl.gapB, hg])).1 rfl
        have hq : ((s[k].toNat : Int) == 32) = true ∨ (((s[k].toNat : Int) == 32) = false ∧ ((s[k].toNat : Int) == 10) = true) := by
          rcases hg with hg | hg <;> simp [hg]
        clear HB hg hi hz0 hz1 hz2 HF
        rcases hq with hq | ⟨hq, hq2⟩
        all_goals
          go_wp2
          exact ⟨⟨k + 1, by omega, by go_num, by rw [HF'.out]; exact hown, hbe2, HX⟩, by simp [intOf]; omega⟩
      · have hq : ((s[k].toNat : Int) == 32) = false := by simp; omega
        have hq2 : ((s[k].toNat : Int) == 10) = false := by simp; omega
        cases hl : Pl.isL (s[k].toNat : Int)
        · have HX : Hid _ := (HB.out true (by
            have h1 : ¬ s[k].toNat = 32 := by omega
            have h2 : ¬ s[k].toNat = 10 := by omega
            simp [Pl.badU, Pl.isLb, Pl.gapB, hl, h1, h2])).2 rfl
          have hn : (s[k].toNat : Int) < 65 ∨ (65 ≤ (s[k].toNat : Int) ∧ 90 < (s[k].toNat : Int)) := by
            have := of_decide_eq_false (show decide _ = false from hl)
            omega
          have q := Kit.read_two (.int .i64 2) (.int .i64 k) c0 c1
          have hbf := Kit.below_two hbel (.int .i64 2) (.int .i64 k)
          clear HB hg hl hi hz0 hz1 hz2 HF
          rcases hn with hn | ⟨hn, hn2⟩
          all_goals
            go_wp2
            refine bodyPost_ret (v := .tuple #[.string ⟨#[]⟩, .agg #[.int .i64 2, .int .i64 k]]) (by simp [results, Try.results13, go_sem, q.1, q.2]) rfl ⟨?_, hbf⟩
            have := Pl.ung_bad _ _ HX.out
            unfold ungV
            rw [this.1, this.2.1, this.2.2]
        · have HF' : Hid ((s.data.toList.take (k + 1)).filter Pl.isLb = (s.data.toList.take k).filter Pl.isLb ++ [s[k]]) := by
            show _ = _
            rw [HF.out, hl]
            simp
          have HX : Hid _ := (HB.out false (by simp [Pl.badU, Pl.isLb, hl])).1 rfl
          obtain ⟨hn, hn2⟩ := of_decide_eq_true (show decide _ = true from hl)
          have hd1 : decide ((s[k].toNat : Int) < 65) = false := by simp; omega
          have hd2 : decide (90 < (s[k].toNat : Int)) = false := by simp; omega
          clear HB HF hl hg
          generalize (s.data.toList.take k).filter Pl.isLb = acc at hown hle HF'
          go_wp2_with (first
            | (at_builtin; refine wpList_append_own _ rfl _ _ 34 rfl (w.heap.size + 2) 5 i0 (.int .u8 0) 1 1 Try.underlying34 hi hz0 hz1 hz2 rfl (by decide) _ _ _ rfl (World.ownsRow.alloc hown _) ⟨wr.heap.size, 0, none⟩ 1 1 [.int .u8 (s[k].toNat : Int)] rfl rfl (cell_one_new _ _ _) (fun u hu => by simp at hu; subst hu; rfl) (by unfold maxLen; omega) (by omega) (by simp; omega) ?_; intro v' w2 hown' hgrow _))
          have G := Kit.Owns.grownB (w := W0) (m := [s[k]]) (World.ownsRow.alloc hown _) (by simp; omega) (hbe2.alloc hkB _) hown' (by simp) (by simp [Lib.byteCells]) hgrow
          exact ⟨⟨k + 1, by omega, by go_num, by rw [HF'.out]; exact G.1, G.2, HX⟩, by simp [intOf]; omega⟩
    · have hlen := Kit.run_len_own (P := Try.prog) wr 34 3 5 Try.underlying34 hown
      have hstr := Kit.run_string_of_own (P := Try.prog) wr 34 9 5 Try.underlying34 Try.underlying5 Try.underlying9 hown
      have hN : s.data.toList.findIdx? Pl.badU = none := Pl.find_all _ _ fun j hj => HA.out j (by have := HL.out; omega) hj
      have hT : s.data.toList.take k = s.data.toList := List.take_of_length_le (by have := HL.out; omega)
      rw [hT] at hlen hstr
      have HC1 : Hid _ := Pl.ung_long _ hN
      have HD : Hid _ := Pl.ung_fit _ hN
      clear hN hT hown HA HC
      generalize hF : (s.data.toList.filter Pl.isLb) = F at hlen hstr HC1 HD
      clear hF
      by_cases h6 : 65536 < F.length
      · have q := Kit.read_two (.int .i64 4) (.int .i64 0) c0 c1
        have hbf := Kit.below_two hbel (.int .i64 4) (.int .i64 0)
        go_wp2
        refine bodyPost_ret (v := .tuple #[.string ⟨#[]⟩, .agg #[.int .i64 4, .int .i64 0]]) (by simp [results, Try.results13, go_sem, q.1, q.2]) rfl ⟨?_, hbf⟩
        have := HC1.out h6
        unfold ungV
        rw [this.1, this.2.1, this.2.2]
      · have q := Kit.read_two (.int .i64 0) (.int .i64 0) c0 c1
        have hbf := Kit.below_two hbel (.int .i64 0) (.int .i64 0)
        go_wp2
        refine bodyPost_ret (v := .tuple #[.string ⟨F.toArray⟩, .agg #[.int .i64 0, .int .i64 0]]) (by simp [results, Try.results13, go_sem, q.1, q.2]) rfl ⟨?_, hbf⟩
        have := HD.out h6
        unfold ungV
        rw [this.1, this.2.1, this.2.2]
end Go.Proofs.Ytfpjjddbggjpaaa
