/-
  The contract of letters.appendFolded: what is owned grows by what the rune is written as.
-/
import Derived.Test.YtfpjjddbggjpaaaSmall
import Derived.Test.YtfpjjddbggjpaaaKit
namespace Go.Proofs.Ytfpjjddbggjpaaa
open Go.RowKit

theorem Try.info5 : (Try.prog.info? 5).map (fun i => (i.zero, i.size, i.bytes)) = some (some (.int .u8 0), 1, 1) := by kernel_rfl

theorem cells_up {r : Int} (h0 : 0 ≤ r) (h : r < 256) (xs : List UInt8) : Lib.byteCells xs ++ [.int .u8 r] = Lib.byteCells (xs ++ [UInt8.ofNat r.toNat]) := by
  rw [Lib.byteCells_append, Kit.byteCells_ofNat _ (by omega), Int.toNat_of_nonneg h0]

set_option maxHeartbeats 400000 in
theorem appendFolded_any (B : Nat) (v : Value) (xs : List UInt8) (r : Int) (w : World) (hown : Kit.Owns w B 5 v xs) (hB : B ≤ w.heap.size) (hlen : xs.length ≤ 1048576) (hr0 : 0 ≤ r) (hr1 : r ≤ 2147483647) :
    Calls Try.prog 15 #[v, .int .i32 r] w fun e w' => ∃ v', e = .returned v' ∧ Kit.Owns w' B 5 v' (xs ++ Pl.foldRune r) ∧ Below B w w' ∧ Lib.OthersKept 5 none w w' := by
  obtain ⟨i0, hi, hz0, hz1, hz2⟩ := info_parts Try.info5
  by_cases h1 : 65 ≤ r ∧ r ≤ 90
  · have hf : Hid (Pl.foldRune r = [UInt8.ofNat r.toNat]) := if_pos h1
    obtain ⟨h1a, h1b⟩ := h1
    go_enter Try.func15, Try.ntmps15
    go_wp2_with (first
      | (at_builtin; refine wpList_append_own _ rfl _ _ 34 rfl B 5 i0 (.int .u8 0) 1 1 Try.underlying34 hi hz0 hz1 hz2 rfl (by decide) _ _ _ rfl (World.ownsRow.alloc hown _) ⟨w.heap.size, 0, none⟩ 1 1 [.int .u8 r] rfl rfl (cell_one_new _ _ _) (fun u hu => by simp at hu; subst hu; rfl) (by unfold maxLen; omega) (by omega) (by simp; omega) ?_; intro v' w1 hown' hgrow _))
    go_ret
    refine ⟨_, rfl, ?_⟩
    rw [hf.out]
    exact Kit.Owns.grown (World.ownsRow.alloc hown _) (by simp; omega) ((Below.refl B w).alloc hB _) ((Lib.OthersKept.refl 5 none w).alloc _) hown' (by simp) (cells_up hr0 (by omega) xs) hgrow
  · by_cases h2 : 97 ≤ r ∧ r ≤ 122
    · have hf : Hid (Pl.foldRune r = [UInt8.ofNat (r - 32).toNat]) := by show _ = _; unfold Pl.foldRune; rw [if_neg h1, if_pos h2]
      obtain ⟨h2a, h2b⟩ := h2
      clear h1
      go_enter Try.func15, Try.ntmps15
      go_wp2_with (first
        | (at_builtin; refine wpList_append_own _ rfl _ _ 34 rfl B 5 i0 (.int .u8 0) 1 1 Try.underlying34 hi hz0 hz1 hz2 rfl (by decide) _ _ _ rfl (World.ownsRow.alloc hown _) ⟨w.heap.size, 0, none⟩ 1 1 [.int .u8 (r - 97 + 65)] rfl rfl (cell_one_new _ _ _) (fun u hu => by simp at hu; subst hu; rfl) (by unfold maxLen; omega) (by omega) (by simp; omega) ?_; intro v' w1 hown' hgrow _))
      go_ret
      refine ⟨_, rfl, ?_⟩
      rw [hf.out]
      exact Kit.Owns.grown (World.ownsRow.alloc hown _) (by simp; omega) ((Below.refl B w).alloc hB _) ((Lib.OthersKept.refl 5 none w).alloc _) hown' (by simp) (by rw [show r - 97 + 65 = r - 32 by omega]; exact cells_up (by omega) (by omega) xs) hgrow
    · have hf : Hid (Pl.foldRune r = Pl.spell r) := by show _ = _; unfold Pl.foldRune; rw [if_neg h1, if_neg h2]
      have hsp := Pl.spell_two r
      have hu9 : Try.prog.underlying 9 = some .string := Try.underlying9
      have hsz : (⟨(Pl.spell r).toArray⟩ : ByteArray).size = (Pl.spell r).length := by show (Pl.spell r).toArray.size = _; simp
      by_cases g1 : 65 ≤ r
      · have g2 : 90 < r := by omega
        by_cases g3 : 97 ≤ r
        · have g4 : 122 < r := by omega
          clear h1 h2
          go_enter Try.func15, Try.ntmps15
          go_wp2_with (first
            | (go_at_call 19; refine (spelling_any _ _).mono ?_; rintro e w' ⟨rfl, rfl⟩)
            | (at_builtin; refine Lib.wpList_append_own_string _ rfl _ _ 34 9 rfl B 5 i0 Try.underlying34 hu9 hi hz0 hz1 hz2 _ _ _ rfl hown _ rfl (by rw [hsz]; unfold maxLen; omega) (by rw [hsz]; omega) hB ?_; intro v' w1 hown' hgrow _))
          go_ret
          refine ⟨_, rfl, ?_⟩
          rw [hf.out]
          exact Kit.Owns.grown hown hB (Below.refl B _) (Lib.OthersKept.refl 5 none _) hown' (by rw [hsz]; simp) (by rw [Lib.byteCells_append]; rfl) hgrow
        · clear h1 h2
          go_enter Try.func15, Try.ntmps15
          go_wp2_with (first
            | (go_at_call 19; refine (spelling_any _ _).mono ?_; rintro e w' ⟨rfl, rfl⟩)
            | (at_builtin; refine Lib.wpList_append_own_string _ rfl _ _ 34 9 rfl B 5 i0 Try.underlying34 hu9 hi hz0 hz1 hz2 _ _ _ rfl hown _ rfl (by rw [hsz]; unfold maxLen; omega) (by rw [hsz]; omega) hB ?_; intro v' w1 hown' hgrow _))
          go_ret
          refine ⟨_, rfl, ?_⟩
          rw [hf.out]
          exact Kit.Owns.grown hown hB (Below.refl B _) (Lib.OthersKept.refl 5 none _) hown' (by rw [hsz]; simp) (by rw [Lib.byteCells_append]; rfl) hgrow
      · have g3 : ¬ 97 ≤ r := by omega
        clear h1 h2
        go_enter Try.func15, Try.ntmps15
        go_wp2_with (first
          | (go_at_call 19; refine (spelling_any _ _).mono ?_; rintro e w' ⟨rfl, rfl⟩)
          | (at_builtin; refine Lib.wpList_append_own_string _ rfl _ _ 34 9 rfl B 5 i0 Try.underlying34 hu9 hi hz0 hz1 hz2 _ _ _ rfl hown _ rfl (by rw [hsz]; unfold maxLen; omega) (by rw [hsz]; omega) hB ?_; intro v' w1 hown' hgrow _))
        go_ret
        refine ⟨_, rfl, ?_⟩
        rw [hf.out]
        exact Kit.Owns.grown hown hB (Below.refl B _) (Lib.OthersKept.refl 5 none _) hown' (by rw [hsz]; simp) (by rw [Lib.byteCells_append]; rfl) hgrow
end Go.Proofs.Ytfpjjddbggjpaaa
