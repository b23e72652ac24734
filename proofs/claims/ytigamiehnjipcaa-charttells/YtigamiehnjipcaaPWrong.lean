/-
  Contract of perm.Wrong.
-/
import Derived.Test.YtigamiehnjipcaaChecked
import Derived.Test.YtigamiehnjipcaaPKit
import Derived.Test.YtigamiehnjipcaaPMath
namespace Go.Proofs.Ytigamiehnjipcaa
open Go.RowKit PK

theorem info_perm : (Try.prog.info? 25).map (·.size) = some 26 := by kernel_rfl
theorem info_int : (Try.prog.info? 3).map (·.size) = some 1 := by kernel_rfl

/-- One letter more has been met. -/
theorem met_step (f : Nat → Int) (k n : Nat) (h : f k = (n : Int)) : bools 26 (upd (Pm.seen f k) n true) = bools 26 (Pm.seen f (k + 1)) := bools_ext fun i _ => by
  rw [Pm.seen_succ, h]
  by_cases e : i = n
  · subst e; simp
  · rw [upd_other _ _ e]
    have : (n : Int) ≠ (i : Int) := by omega
    simp [this]

set_option maxHeartbeats 1000000 in
theorem wrong_any (f : Nat → Int) (w : World) : Calls Try.prog 76 #[.agg (ints 26 f)] w fun e w' => e = .returned (.int .i64 (Pm.wrong f)) ∧ Below w.heap.size w w' := by
  go_enter Try.func76, Try.ntmps76
  go_wp2_with (refine wpList_load_row rfl 25 _ rfl w.heap.size rfl 25 (ints 26 f) (0, 0) _ ((RowAt.new w _ _).alloc _) Try.underlying25 rfl (by rw [ints_size]; exact info_perm) ?_)
  rw [none26]
  go_loopw [7] (fun i W => ∃ k : Nat, k ≤ 26 ∧ i = .int .i64 k ∧ Hid (Pm.wrongN f k = 0) ∧ RowAt W (w.heap.size + 1) 87 (bools 26 (Pm.seen f k)) ∧ Below w.heap.size w W) (fun i _ => (26 - intOf i).toNat)
  case atStart =>
    refine ⟨0, by omega, rfl, rfl, ?_, ((Below.refl _ _).alloc (Nat.le_refl _) _).alloc (by simp) _⟩
    have := RowAt.new (w.alloc (Obj.cells (ints 26 f) 25)) 87 (bools 26 fun x => false)
    rw [World.size_alloc] at this
    exact this
  case round =>
    obtain ⟨k, hk, rfl, HN, hrow, hb⟩ := hrel
    by_cases hlt : k < 26
    · have hg := run_index_ints 25 3 26 Try.underlying25 Try.underlying3 info_int f k hlt
      by_cases hr : f k < 0 ∨ 26 ≤ f k
      · have H : Hid (Pm.wrong f = 3) := by rw [Hid, Pm.wrong_stop f k HN.out (by rw [Pm.bad_range f k hr]; decide) hlt, Pm.bad_range f k hr]
        rcases hr with hr | hr
        · go_wp2
          go_ret
          exact ⟨ret_int H.out.symm, hb⟩
        · have hr0 : ¬ f k < 0 := by omega
          go_wp2
          go_ret
          exact ⟨ret_int H.out.symm, hb⟩
      · obtain ⟨n, hn⟩ : ∃ n : Nat, f k = n := ⟨(f k).toNat, by omega⟩
        have hn26 : n < 26 := by omega
        have HM : Hid (f k = n) := hn
        rw [hn] at hg
        clear hr hn
        have hc := hrow.cell (bools_get (Pm.seen f k) hn26)
        have hf := hrow.frozen n
        cases hs : Pm.seen f k n
        · rw [hs] at hc
          have HS : Hid (Pm.seen f k n = false) := hs
          clear hs
          go_wp2
          go_roundw
          case rel =>
            refine ⟨k + 1, by omega, by go_num, ?_, ?_, ?_⟩
            · rw [Hid, Pm.wrongN_succ f k HN.out, Pm.bad_ok f k n HM.out hn26 HS.out]
            · rw [← met_step f k n HM.out, ← bools_set]
              exact hrow.set n _
            · exact hb.setCell (by simp) _
          case measure => simp [intOf]; omega
        · rw [hs] at hc
          have HS : Hid (Pm.wrong f = 8) := by
            have h8 := Pm.bad_fit f k n HM.out hn26 hs
            rw [Hid, Pm.wrong_stop f k HN.out (by rw [h8]; decide) hlt, h8]
          clear hs
          go_wp2
          go_ret
          exact ⟨ret_int HS.out.symm, hb⟩
    · have HK : Hid (k = 26) := by rw [Hid]; omega
      go_wp2
      go_ret
      exact ⟨ret_int (Pm.wrong_end f k HN.out HK.out).symm, hb⟩
end Go.Proofs.Ytigamiehnjipcaa
