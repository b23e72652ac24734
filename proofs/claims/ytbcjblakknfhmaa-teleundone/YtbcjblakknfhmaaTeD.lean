/-
  Contracts of the document's Delta and of tele's (chapter 13).
-/
import Derived.Test.YtbcjblakknfhmaaTeS
import Derived.Test.YtbcjblakknfhmaaTeSu
namespace Go.Proofs.Ytbcjblakknfhmaa
open Go.RowKit PK Tl

theorem p_made_tab (z : Value) (n : Nat) : madeCells #[z] n = tab n fun _ => z := by
  unfold madeCells tab
  apply Array.ext
  · simp
  · intro i h1 h2
    simp [Nat.mod_one]
/-- The first m changes, as numbers. -/
def dlL (f : Nat → Int) (m : Nat) : List Nat := (List.range m).map fun i => (f i).toNat ^^^ (f (i + 1)).toNat
theorem dlL_len (f : Nat → Int) (m : Nat) : (dlL f m).length = m := by simp [dlL]
theorem dlL_succ (f : Nat → Int) (m : Nat) : dlL f (m + 1) = dlL f m ++ [(f m).toNat ^^^ (f (m + 1)).toNat] := by
  unfold dlL
  rw [List.range_succ, List.map_append]
  rfl
theorem dlL_get (f : Nat → Int) {n i : Nat} (h : i < n) : (((dlL f n).getD i 0 : Nat) : Int) = dlN f i := by
  unfold dlL dlN
  simp only [List.getD_eq_getElem?_getD, List.getElem?_map, List.getElem?_range h, Option.map_some, Option.getD_some]
set_option maxRecDepth 100000 in
set_option maxHeartbeats 2000000 in
theorem rdl_bad (v : Value) (n : Nat) (f : Nat → Int) (hE : faE n f ≠ 0) (w : World) (hv : NumsAt w v n f) : Calls Try.prog 16 #[v] w fun e w' => e = .returned (.tuple #[.slice none 0 0, .int .i64 (faE n f)]) ∧ Below w.heap.size w w' := by
  have HC := (show Hid _ from rfair_any v n f w hv)
  have hz2 : (faE n f != 0) = true := by simpa using hE
  obtain ⟨a, cap, rfl, _⟩ := hv
  obtain ⟨E, hEE⟩ : ∃ E, E = faE n f := ⟨_, rfl⟩
  have HEE := (show Hid (E = faE n f) from hEE)
  rw [← hEE] at HC hz2
  clear hE hEE
  go_enter Try.func16, Try.ntmps16
  go_wp2_with fail
  refine Calls.mono HC.out ?_
  rintro e Y ⟨rfl, rfl⟩
  clear HC
  go_wp2
  go_ret2
  exact ⟨by rw [← HEE.out]; rfl, Below.refl _ _⟩
set_option maxRecDepth 100000 in
set_option maxHeartbeats 4000000 in
theorem rdl_ok (v : Value) (n : Nat) (f : Nat → Int) (hE : faE n f = 0) (w : World) (hv : NumsAt w v n f) : Calls Try.prog 16 #[v] w fun e w' => ∃ v', e = .returned (.tuple #[v', .int .i64 0]) ∧ OwnsL w' w.heap.size v' (dlL f (n - 1)) ∧ Below w.heap.size w w' := by
  obtain ⟨i0, hi0, hz0, hz1, hz2⟩ := x_info_parts g_info_int
  have HC := (show Hid (Calls Try.prog 27 #[v] w fun e w' => e = .returned (.int .i64 0) ∧ w = w') from by have := rfair_any v n f w hv; rw [hE] at this; exact this)
  obtain ⟨hn, hf⟩ := faE_zero hE
  obtain ⟨a, cap, rfl, _, hca⟩ := hv
  have HA := (show Hid (∀ c, c < n → ∃ b o, a = some ⟨b, o, none⟩ ∧ w.cell? ⟨b, o + c, none⟩ = some (.int .i64 (f c))) from hca)
  have HF := (show Hid _ from hf)
  clear hca hf hE
  go_enter Try.func16, Try.ntmps16
  go_wp2_with fail
  refine Calls.mono HC.out ?_
  rintro e Y ⟨rfl, rfl⟩
  clear HC
  go_wp2_with fail
  go_loopw [5, 6] (fun o x W => ∃ (i : Nat) (u : Value), i ≤ n - 1 ∧ x = .int .i64 (i : Nat) ∧ u = o ∧ OwnsL W w.heap.size u (dlL f i) ∧ Below w.heap.size w W) (fun _ x _ => ((n : Int) - intOf x).toNat)
  case atStart => exact ⟨0, _, by omega, rfl, rfl, OwnsL.nil _ _, Below.refl _ _⟩
  case round =>
    obtain ⟨i, u, hi, rfl, rfl, hown, hbe⟩ := hrel
    by_cases hlt : i + 1 < n
    case neg =>
      obtain rfl : i = n - 1 := by omega
      have hnn : ¬ ((n - 1 : Nat) : Int) + 1 < (n : Int) := by omega
      have HOWN := (show Hid _ from hown)
      have HB := (show Hid _ from hbe)
      obtain ⟨m, hmm⟩ : ∃ m, m = n - 1 := ⟨_, rfl⟩
      rw [← hmm] at hnn HOWN ⊢
      have HMM := (show Hid (m = n - 1) from hmm)
      have hm6 : m ≤ 65536 := by omega
      clear hmm hi
      clear hown hbe hlt
      go_wp2
      go_ret2
      exact ⟨u, by first | rfl | trivial, by rw [← HMM.out]; exact HOWN.out, HB.out⟩
    have HLT : Hid (i + 1 < n) := hlt
    have hlt2 : (i : Int) + 1 < (n : Int) := by omega
    have hlt3 : (i : Int) < (n : Int) := by omega
    have hlen := dlL_len f i
    have HNX := (show Hid _ from dlL_succ f i)
    obtain ⟨b1, o1, e1, c1⟩ := HA.out i (by omega)
    obtain ⟨b2, o2, e2, c2⟩ := HA.out (i + 1) (by omega)
    subst e1
    cases e2
    have d1 := (hbe.cell (p := ⟨b1, o1 + i, none⟩) (cell_block c1)).trans c1
    have d2 := (hbe.cell (p := ⟨b1, o1 + (i + 1), none⟩) (cell_block c2)).trans c2
    have hf1 := HF.out i (by omega)
    have hf2 := HF.out (i + 1) (by omega)
    obtain ⟨x, hx⟩ : ∃ x : Nat, x = (f i).toNat := ⟨_, rfl⟩
    obtain ⟨y, hy⟩ : ∃ y : Nat, y = (f (i + 1)).toNat := ⟨_, rfl⟩
    rw [show f i = ((x : Nat) : Int) by omega] at d1
    rw [show f (i + 1) = ((y : Nat) : Int) by omega] at d2
    rw [← hx, ← hy] at HNX
    have hx32 : x < 32 := by omega
    have hy32 : y < 32 := by omega
    have HCA := (show Hid (∀ W, Calls Try.prog 28 #[.int .i64 (x : Nat), .int .i64 (y : Nat)] W fun e w' => e = .returned (.int .i64 ((x ^^^ y : Nat) : Int)) ∧ Below W.heap.size W w') from fun W => rsum_any x y hx32 hy32 W)
    have hxy := xor_lt32 hx32 hy32
    generalize x ^^^ y = z at *
    have HOWN := (show Hid (OwnsL wr w.heap.size u (dlL f i)) from hown)
    have HB := (show Hid (Below w.heap.size w wr) from hbe)
    have C1 := (show Hid _ from c1)
    have C2 := (show Hid _ from c2)
    rw [show f i = ((x : Nat) : Int) by omega] at C1
    rw [show f (i + 1) = ((y : Nat) : Int) by omega] at C2
    clear hlt hown hbe c1 c2 hx hy hf1 hf2 HA HF
    go_upto_region 8 with fail
    refine wp_region_noPanic ?_
    refine wp_region_held_drew (S := fun W => Below w.heap.size w W) (by kernel_rfl) HB.out.drew (fun hS => ?_)
    have HOW := (show Hid (OwnsL wr.drew w.heap.size u (dlL f i)) from own_drew HOWN.out)
    obtain ⟨U, hU⟩ : ∃ x, x = wr.drew := ⟨_, rfl⟩
    rw [← hU] at hS HOW ⊢
    clear hU d1 d2
    refine vtake 0 19 (u) rfl rfl (by kernel_rfl) (by kernel_rfl) (by kernel_rfl) (fun _ _ _ _ h => h) (by rfl) (fun W hW => by clear hS hW; go_simp) hS ?_
    simp only [List.setIfInBounds_toArray, List.set_cons_succ, List.set_cons_zero]
    refine vtake 1 20 (.slice (some ⟨b1, o1, none⟩) n cap) rfl rfl (by kernel_rfl) (by kernel_rfl) (by kernel_rfl) (fun _ _ _ _ h => h) (by rfl) (fun W hW => by clear hS hW; go_simp) hS ?_
    simp only [List.setIfInBounds_toArray, List.set_cons_succ, List.set_cons_zero]
    refine vtake 2 21 (.int .i64 (i : Nat)) rfl rfl (by kernel_rfl) (by kernel_rfl) (by kernel_rfl) (fun _ _ _ _ h => h) (by rfl) (fun W hW => by clear hS hW; go_simp) hS ?_
    simp only [List.setIfInBounds_toArray, List.set_cons_succ, List.set_cons_zero]
    refine vtake 3 22 (.pointer (some ⟨b1, o1 + i, none⟩)) rfl rfl (by kernel_rfl) (by kernel_rfl) (by kernel_rfl) (fun _ _ _ _ h => h) (by rfl) (fun W hW => by clear hS hW; go_simp) hS ?_
    simp only [List.setIfInBounds_toArray, List.set_cons_succ, List.set_cons_zero]
    refine vtake 4 23 (.int .i64 (x : Nat)) rfl rfl (by kernel_rfl) (by kernel_rfl) (by kernel_rfl) (fun _ _ _ _ h => h) (by rfl) (fun W hW => by have d1 := (hW.cell (p := ⟨b1, o1 + i, none⟩) (cell_block C1.out)).trans C1.out; clear hS hW; go_simp) hS ?_
    simp only [List.setIfInBounds_toArray, List.set_cons_succ, List.set_cons_zero]
    refine vtake 5 24 (.slice (some ⟨b1, o1, none⟩) n cap) rfl rfl (by kernel_rfl) (by kernel_rfl) (by kernel_rfl) (fun _ _ _ _ h => h) (by rfl) (fun W hW => by clear hS hW; go_simp) hS ?_
    simp only [List.setIfInBounds_toArray, List.set_cons_succ, List.set_cons_zero]
    refine vtake 6 25 (.int .i64 (i : Nat)) rfl rfl (by kernel_rfl) (by kernel_rfl) (by kernel_rfl) (fun _ _ _ _ h => h) (by rfl) (fun W hW => by clear hS hW; go_simp) hS ?_
    simp only [List.setIfInBounds_toArray, List.set_cons_succ, List.set_cons_zero]
    refine vtake 7 26 (.int .i64 ((i + 1 : Nat) : Int)) rfl rfl (by kernel_rfl) (by kernel_rfl) (by kernel_rfl) (fun _ _ _ _ h => h) (by rfl) (fun W hW => by have u1 : IntKind.i64.wrap ((i : Int) + 1) = (i : Int) + 1 := (by rw [IntKind.wrap_i64]; omega); clear hS hW; go_simp) hS ?_
    simp only [List.setIfInBounds_toArray, List.set_cons_succ, List.set_cons_zero]
    refine vtake 8 27 (.pointer (some ⟨b1, o1 + (i + 1), none⟩)) rfl rfl (by kernel_rfl) (by kernel_rfl) (by kernel_rfl) (fun _ _ _ _ h => h) (by rfl) (fun W hW => by have u1 : ((i + 1 : Nat) : Int) < (n : Int) := (by omega); have u2 : ¬ ((i : Int) + 1 < 0) := (by omega); clear hS hW; go_simp) hS ?_
    simp only [List.setIfInBounds_toArray, List.set_cons_succ, List.set_cons_zero]
    refine vtake 9 28 (.int .i64 (y : Nat)) rfl rfl (by kernel_rfl) (by kernel_rfl) (by kernel_rfl) (fun _ _ _ _ h => h) (by rfl) (fun W hW => by have d2 := (hW.cell (p := ⟨b1, o1 + (i + 1), none⟩) (cell_block C2.out)).trans C2.out; clear hS hW; go_simp) hS ?_
    simp only [List.setIfInBounds_toArray, List.set_cons_succ, List.set_cons_zero]
    refine wpAnyH_ready (rs := [10]) (by kernel_rfl) (by simp) ?_
    refine AllReadyH.cons (o := _) rfl (fun K hK => ?_) AllReadyH.nil
    rw [if_pos (by rfl)]
    go_simp
    refine Calls.mono (HCA.out _) ?_
    rintro e Y ⟨rfl, hb8⟩
    refine hK.out _ _ (hS.trans (hb8.mono hS.size)) (fun hS1 => ?_)
    have HOY := OwnsL.below HOW.out hb8
    clear hK hS K HOW hb8
    have hS := hS1
    clear hS1
    have HOZ := World.ownsRow.alloc HOY (.cells #[.int .i64 (z : Nat)] 3)
    refine wpAnyH_ready (rs := [11]) (by kernel_rfl) (by simp) ?_
    refine AllReadyH.cons (o := _) rfl (fun K hK => ?_) AllReadyH.nil
    rw [if_pos (by rfl)]
    go_simp
    refine hK.out _ _ (hS.alloc hS.size (.cells #[.int .i64 (z : Nat)] 3)) (fun hS1 => ?_)
    clear hK hS K
    have hS := hS1
    clear hS1
    refine wpAnyH_ready (rs := [12]) (by kernel_rfl) (by simp) ?_
    refine AllReadyH.cons (o := _) rfl (fun K hK => ?_) AllReadyH.nil
    rw [if_pos (by rfl)]
    refine wp_append_own (Y.alloc (.cells #[.int .i64 (z : Nat)] 3)) _ _ 28 rfl w.heap.size 3 i0 (.int .i64 0) 1 8 Try.underlying28 hi0 hz0 hz1 hz2 rfl (by decide) _ _ _ rfl HOZ ⟨Y.heap.size, 0, none⟩ 1 1 [.int .i64 (z : Nat)] rfl rfl (cell_one_new _ _ _) (fun u hu => by simp at hu; subst hu; rfl) (by unfold maxLen; omega) (by omega) hS.size ?_
    intro v' w1 hown' hgrow _
    refine hK.out _ _ (hS.grown hgrow hS.size (fun p hp => (World.ownsRow.lt HOZ p hp).1)) (fun hS1 => ?_)
    clear hK hS K
    have hS := hS1
    clear hS1
    simp only [Act.put]
    refine vtake 13 5 (v') rfl rfl (by kernel_rfl) (by kernel_rfl) (by kernel_rfl) (fun _ _ _ _ h => h) (by rfl) (fun W hW => by clear hS hW; go_simp) hS ?_
    simp only [List.setIfInBounds_toArray, List.set_cons_succ, List.set_cons_zero]
    refine wpAnyH_done (by kernel_rfl) ?_ _
    refine NoPanic.normal ?_
    have HBN := (show Hid _ from hS)
    have HON : Hid (OwnsL w1 w.heap.size v' (dlL f (i + 1))) := by
      rw [Hid, HNX.out, OwnsL, nnums_append, List.length_append]
      exact hown'
    clear hS hown' hgrow HOZ HOY
    go_wp2
    go_roundw
    case rel => exact ⟨i + 1, v', by have := HLT.out; omega, by go_num, by first | rfl | trivial, HON.out, HBN.out⟩
    case measure => have := HLT.out; simp [intOf]; omega
set_option maxRecDepth 100000 in
set_option maxHeartbeats 2000000 in
theorem pdl_bad (v : Value) (n : Nat) (f : Nat → Int) (hE : faE n f ≠ 0) (w : World) (hv : NumsAt w v n f) : Calls Try.prog 15 #[v] w fun e w' => e = .returned (.tuple #[.slice none 0 0, .int .i64 (faE n f)]) ∧ Below w.heap.size w w' := by
  have HC := (show Hid _ from ptx_any v n f w hv)
  have hz2 : (faE n f != 0) = true := by simpa using hE
  obtain ⟨a, cap, rfl, _⟩ := hv
  obtain ⟨E, hEE⟩ : ∃ E, E = faE n f := ⟨_, rfl⟩
  have HEE := (show Hid (E = faE n f) from hEE)
  rw [← hEE] at HC hz2
  clear hE hEE
  go_enter Try.func15, Try.ntmps15
  go_wp2_with fail
  refine Calls.mono HC.out ?_
  rintro e Y ⟨rfl, rfl⟩
  clear HC
  go_wp2
  go_ret2
  exact ⟨by rw [← HEE.out]; rfl, Below.refl _ _⟩
/-- The first m are told. -/
def dlF (f : Nat → Int) (m : Nat) : Nat → Int := fun k => if k < m then dlN f k else 0
theorem dlF_start (f : Nat → Int) (n : Nat) : (ints n fun _ => 0) = ints n (dlF f 0) := ints_ext fun i _ => by unfold dlF; rw [if_neg (by omega)]
theorem dlF_next (f : Nat → Int) (n m : Nat) : ints n (upd (dlF f m) m (dlN f m)) = ints n (dlF f (m + 1)) := ints_ext fun i hi => by
  unfold upd
  by_cases e : i = m
  · rw [if_pos e]
    unfold dlF
    rw [if_pos (by omega), e]
  · rw [if_neg e]
    unfold dlF
    by_cases e2 : i < m
    · rw [if_pos e2, if_pos (by omega)]
    · rw [if_neg e2, if_neg (by omega)]
theorem dlF_all (f : Nat → Int) (n : Nat) : ints n (dlF f n) = ints n (dlN f) := ints_ext fun i hi => by
  unfold dlF
  rw [if_pos hi]
set_option maxRecDepth 100000 in
set_option maxHeartbeats 4000000 in
theorem pdl_ok (v : Value) (n : Nat) (f : Nat → Int) (hE : faE n f = 0) (w : World) (hv : NumsAt w v n f) : Calls Try.prog 15 #[v] w fun e w' => ∃ g, e = .returned (.tuple #[.slice (some ⟨g, 0, none⟩) (n - 1) (n - 1), .int .i64 0]) ∧ RowAt w' g 3 (ints (n - 1) (dlN f)) ∧ Below w.heap.size w w' := by
  have HC := (show Hid (Calls Try.prog 26 #[v] w fun e w' => e = .returned (.int .i64 0) ∧ w = w') from by have := ptx_any v n f w hv; rw [hE] at this; exact this)
  obtain ⟨hn, hf⟩ := faE_zero hE
  obtain ⟨a, cap, rfl, _, hca⟩ := hv
  have HA := (show Hid (∀ c, c < n → ∃ b o, a = some ⟨b, o, none⟩ ∧ w.cell? ⟨b, o + c, none⟩ = some (.int .i64 (f c))) from hca)
  have HF := (show Hid _ from hf)
  obtain ⟨m, hm⟩ : ∃ m, m = n - 1 := ⟨_, rfl⟩
  have HM := (show Hid (m = n - 1) from hm)
  have hmx : (if (n : Int) - 1 < 0 then 0 else (n : Int) - 1) = (m : Int) := by split <;> omega
  have hm65 : m ≤ 65536 := by omega
  have hmk := run_make_row' (P := Try.prog) 28 3 (.int .i64 0) 8 Try.underlying28 g_info_int rfl .i64 .i64 m (by omega) (by omega)
  rw [p_made_tab] at hmk
  have h2 : RowAt (w.alloc (.cells (tab m fun _ => .int .i64 0) 3)) w.heap.size 3 (ints m fun _ => 0) := RowAt.new w _ _
  rw [dlF_start f] at h2
  have hb2 := (Below.refl w.heap.size w).alloc (Nat.le_refl _) (.cells (tab m fun _ => .int .i64 0) 3)
  clear hca hf hE hm
  go_enter Try.func15, Try.ntmps15
  go_wp2_with fail
  refine Calls.mono HC.out ?_
  rintro e Y ⟨rfl, rfl⟩
  clear HC
  go_upto_region 5 with fail
  generalize w.alloc (.cells (tab m fun _ => .int .i64 0) 3) = W2 at *
  clear hmk hmx
  go_wp2_with fail
  go_loopw [19] (fun x W => ∃ i : Nat, i ≤ m ∧ x = .int .i64 (i : Nat) ∧ RowAt W w.heap.size 3 (ints m (dlF f i)) ∧ Below w.heap.size w W) (fun x _ => ((m : Int) - intOf x).toNat)
  case atStart => exact ⟨0, by omega, rfl, h2, hb2⟩
  case round =>
    clear h2 hb2
    obtain ⟨i, hi, rfl, hro, hbe⟩ := hrel
    by_cases hlt : i < m
    case neg =>
      obtain rfl : i = m := by omega
      have hnn : ¬ ((i : Nat) : Int) < ((i : Nat) : Int) := by omega
      rw [dlF_all] at hro
      have HRO := (show Hid (RowAt wr w.heap.size 3 (ints (n - 1) (dlN f))) from by rw [Hid, ← HM.out]; exact hro)
      have HBE := (show Hid _ from hbe)
      clear hro hbe hlt
      go_wp2
      go_ret2
      exact ⟨w.heap.size, by rw [← HM.out]; rfl, HRO.out, HBE.out⟩
    have HLT : Hid (i < m) := hlt
    have hlt2 : (i : Int) < (m : Int) := by omega
    have hin : i + 1 < n := by have := HM.out; omega
    have hlt3 : (i : Int) < (n : Int) := by omega
    have hlt4 : (i : Int) + 1 < (n : Int) := by omega
    obtain ⟨b1, o1, e1, c1⟩ := HA.out i (by omega)
    obtain ⟨b2, o2, e2, c2⟩ := HA.out (i + 1) (by omega)
    subst e1
    cases e2
    have d1 := (hbe.cell (p := ⟨b1, o1 + i, none⟩) (cell_block c1)).trans c1
    have d2 := (hbe.cell (p := ⟨b1, o1 + (i + 1), none⟩) (cell_block c2)).trans c2
    have hf1 := HF.out i (by omega)
    have hf2 := HF.out (i + 1) (by omega)
    have HST := (show Hid _ from dlF_next f m i)
    have hde : dlN f i = (((f i).toNat ^^^ (f (i + 1)).toNat : Nat) : Int) := rfl
    obtain ⟨x, hx⟩ : ∃ x : Nat, x = (f i).toNat := ⟨_, rfl⟩
    obtain ⟨y, hy⟩ : ∃ y : Nat, y = (f (i + 1)).toNat := ⟨_, rfl⟩
    rw [show f i = ((x : Nat) : Int) by omega] at d1
    rw [show f (i + 1) = ((y : Nat) : Int) by omega] at d2
    rw [hde, ← hx, ← hy] at HST
    have hbx := bits_xor (a := x) (b := y) (by omega) (by omega)
    generalize x ^^^ y = z at *
    have hcell := hro.cell (ints_get (dlF f i) hlt)
    have hfz := hro.frozen i
    have HN : Hid (∀ V, RowAt V w.heap.size 3 (ints m (dlF f i)) → Below w.heap.size w V → RowAt (V.setCell ⟨w.heap.size, i, none⟩ (.int .i64 (z : Nat))) w.heap.size 3 (ints m (dlF f (i + 1))) ∧ Below w.heap.size w (V.setCell ⟨w.heap.size, i, none⟩ (.int .i64 (z : Nat)))) := fun V hro hbe => by
      refine ⟨?_, hbe.setCell (p := ⟨w.heap.size, i, none⟩) (Nat.le_refl _) _⟩
      have h1 := hro.set i (.int .i64 (z : Nat))
      rw [ints_set, HST.out] at h1
      exact h1
    have HRO := (show Hid (RowAt wr w.heap.size 3 (ints m (dlF f i))) from hro)
    have HBE := (show Hid (Below w.heap.size w wr) from hbe)
    generalize dlF f i i = oc at *
    clear hlt c1 c2 hx hy hf1 hf2 hde HST hro hbe HA HF
    go_wp2_with fail
    go_region
    all_goals (try go_wp2)
    all_goals go_roundw
    case rel => exact ⟨i + 1, HLT.out, by go_num, (HN.out _ HRO.out.drew HBE.out.drew).1, (HN.out _ HRO.out.drew HBE.out.drew).2⟩
    case measure => have := HLT.out; simp [intOf]; omega
end Go.Proofs.Ytbcjblakknfhmaa
