/-
  Contracts of bombe.emptyBoard and (*board).say.
-/
import Derived.Test.YtigamiehnjipcaaBoM
import Derived.Test.YtigamiehnjipcaaBoSm
namespace Go.Proofs.Ytigamiehnjipcaa
open Go.RowKit PK Vg

/-- The 53 cells of a board. -/
def bdF (p : Nat → Int) (s : Nat → Nat) (n : Nat) : Nat → Int := fun i => if i < 26 then p i else if i < 52 then (s (i - 26) : Nat) else (n : Nat)
theorem bd_pair (p : Nat → Int) (s : Nat → Nat) (n : Nat) {x : Nat} (hx : x < 26) (v : Int) : upd (bdF p s n) x v = bdF (upd p x v) s n := funext fun i => by
  unfold upd bdF
  by_cases e : i = x
  · rw [if_pos e, if_pos (by omega)]; exact (if_pos e).symm
  · rw [if_neg e]
    by_cases h : i < 26
    · rw [if_pos h, if_pos h]; exact (if_neg e).symm
    · rw [if_neg h, if_neg h]
theorem bd_said (p : Nat → Int) (s : Nat → Nat) (n : Nat) {k : Nat} (hk : k < 26) (x : Nat) : upd (bdF p s n) (26 + k) (x : Nat) = bdF p (fun j => if j = k then x else s j) n := funext fun i => by
  unfold upd bdF
  by_cases e : i = 26 + k
  · rw [if_pos e, if_neg (by omega), if_pos (by omega)]
    show ((x : Nat) : Int) = ((if i - 26 = k then x else s (i - 26) : Nat) : Int)
    rw [if_pos (by omega)]
  · rw [if_neg e]
    by_cases h : i < 26
    · rw [if_pos h, if_pos h]
    · rw [if_neg h, if_neg h]
      by_cases h2 : i < 52
      · rw [if_pos h2, if_pos h2]
        show ((s (i - 26) : Nat) : Int) = ((if i - 26 = k then x else s (i - 26) : Nat) : Int)
        rw [if_neg (by omega)]
      · rw [if_neg h2, if_neg h2]
theorem bd_many (p : Nat → Int) (s : Nat → Nat) (n m : Nat) : ints 53 (upd (bdF p s n) 52 (m : Nat)) = ints 53 (bdF p s m) := ints_ext fun i hi => by
  unfold upd bdF
  by_cases e : i = 52
  · rw [if_pos e, if_neg (by omega), if_neg (by omega)]
  · rw [if_neg e]
    by_cases h : i < 26
    · rw [if_pos h, if_pos h]
    · rw [if_neg h, if_neg h, if_pos (by omega), if_pos (by omega)]
theorem bd_x (p : Nat → Int) (s : Nat → Nat) (n : Nat) {x : Nat} (hx : x < 26) : bdF p s n x = p x := if_pos hx
theorem bd_s (p : Nat → Int) (s : Nat → Nat) (n : Nat) {k : Nat} (hk : k < 26) : bdF p s n (26 + k) = (s k : Nat) := by
  unfold bdF
  rw [if_neg (by omega), if_pos (by omega), show 26 + k - 26 = k by omega]
theorem bd_n (p : Nat → Int) (s : Nat → Nat) (n : Nat) : bdF p s n 52 = (n : Nat) := by
  unfold bdF
  rw [if_neg (by omega), if_neg (by omega)]
theorem built_board : Try.prog.built 132 [] = some (ints 53 fun _ => 0) := by kernel_rfl
theorem b_info_board : (Try.prog.info? 132).map (·.size) = some 53 := by kernel_rfl
/-- A board. -/
def BdAt (W : World) (q : Nat) (p : Nat → Int) (s : Nat → Nat) (n : Nat) : Prop := RowAt W q 132 (ints 53 (bdF p s n))
set_option maxRecDepth 100000 in
set_option maxHeartbeats 2000000 in
theorem empty_any (w : World) : Calls Try.prog 81 #[] w fun e w' => ∃ q, e = .returned (.pointer (some ⟨q, 0, none⟩)) ∧ w.heap.size ≤ q ∧ BdAt w' q (fun _ => -1) (fun _ => 0) 0 ∧ Below w.heap.size w w' := by
  have hr0 : RowAt (w.alloc (.cells (ints 53 fun _ => 0) 132)) w.heap.size 132 (ints 53 (bdF (fun c => if c < 0 then -1 else 0) (fun _ => 0) 0)) := by
    have e : ints 53 (bdF (fun c => if c < 0 then -1 else 0) (fun _ => 0) 0) = ints 53 fun _ => 0 := ints_ext fun i _ => by
      unfold bdF
      by_cases h1 : i < 26
      · rw [if_pos h1]; exact if_neg (by omega)
      · rw [if_neg h1]
        by_cases h2 : i < 52
        · rw [if_pos h2]; rfl
        · rw [if_neg h2]; rfl
    rw [e]
    exact RowAt.new w _ _
  have hb0 := (Below.refl w.heap.size w).alloc (Nat.le_refl _) (.cells (ints 53 fun _ => 0) 132)
  go_enter Try.func81, Try.ntmps81
  go_upto_region 2 with (first | refine wpList_build0 rfl 132 rfl (ints 53 fun _ => 0) built_board ?_)
  generalize w.alloc (.cells (ints 53 fun _ => 0) 132) = W0 at *
  go_wp2_with fail
  go_loopw [5] (fun i W => ∃ k : Nat, k ≤ 26 ∧ i = .int .i64 (k : Nat) ∧ RowAt W w.heap.size 132 (ints 53 (bdF (fun c => if c < k then -1 else 0) (fun _ => 0) 0)) ∧ Below w.heap.size w W) (fun i _ => ((26 : Int) - intOf i).toNat)
  case atStart => exact ⟨0, by omega, rfl, hr0, hb0⟩
  case round =>
    clear hr0 hb0
    obtain ⟨k, hk, rfl, hr, hbe⟩ := hrel
    by_cases hlt : k < 26
    · have HLT : Hid (k < 26) := hlt
      have hlt2 : (k : Int) < 26 := by omega
      have hc := hr.cell (ints_get (bdF (fun c => if c < k then -1 else 0) (fun _ => 0) 0) (i := k) (by omega))
      have hf := hr.frozen k
      have HN : Hid (RowAt (wr.setCell ⟨w.heap.size, k, none⟩ (.int .i64 (-1))) w.heap.size 132 (ints 53 (bdF (fun c => if c < k + 1 then -1 else 0) (fun _ => 0) 0)) ∧ Below w.heap.size w (wr.setCell ⟨w.heap.size, k, none⟩ (.int .i64 (-1)))) := by
        refine ⟨?_, hbe.setCell (p := ⟨w.heap.size, k, none⟩) (Nat.le_refl _) _⟩
        have h1 := hr.set k (.int .i64 (-1))
        rw [ints_set, bd_pair _ _ _ hlt] at h1
        have e : upd (fun c => if c < k then (-1 : Int) else 0) k (-1) = fun c => if c < k + 1 then -1 else 0 := funext fun c => by
          unfold upd
          by_cases e1 : c = k
          · rw [if_pos e1, if_pos (by omega)]
          · rw [if_neg e1]
            show (if c < k then (-1 : Int) else 0) = if c < k + 1 then -1 else 0
            by_cases e2 : c < k
            · rw [if_pos e2, if_pos (by omega)]
            · rw [if_neg e2, if_neg (by omega)]
        rw [e] at h1
        exact h1
      generalize bdF (fun c => if c < k then -1 else 0) (fun _ => 0) 0 = F at *
      clear hlt hr hbe
      go_wp2
      go_roundw
      case rel => exact ⟨k + 1, HLT.out, by go_num, HN.out.1, HN.out.2⟩
      case measure => have := HLT.out; simp [intOf]; omega
    · obtain rfl : k = 26 := by omega
      have HR : Hid (BdAt wr w.heap.size (fun _ => -1) (fun _ => 0) 0) := by
        have e : ints 53 (bdF (fun _ => -1) (fun _ => 0) 0) = ints 53 (bdF (fun c => if c < 26 then -1 else 0) (fun _ => 0) 0) := ints_ext fun i _ => by
          unfold bdF
          by_cases h1 : i < 26
          · rw [if_pos h1, if_pos h1]; exact (if_pos h1).symm
          · rw [if_neg h1, if_neg h1]
        rw [Hid, BdAt, e]
        exact hr
      have HBE := (show Hid _ from hbe)
      clear hr hbe hlt
      go_wp2
      go_ret
      exact ⟨_, rfl, Nat.le_refl _, HR.out, HBE.out⟩
set_option maxRecDepth 100000 in
set_option maxHeartbeats 4000000 in
theorem say_any (q : Nat) (p : Nat → Int) (s : Nat → Nat) (n x y : Nat) (hx : x < 26) (hn : p x = -1 → n < 26) (w : World) (hb : BdAt w q p s n) : Calls Try.prog 82 #[.pointer (some ⟨q, 0, none⟩), .int .i64 (x : Nat), .int .i64 (y : Nat)] w fun e w' => w.grownBy w' (some q) ∧ ((p x = -1 ∧ e = .returned (.bool true) ∧ BdAt w' q (upd p x (y : Nat)) (fun j => if j = n then x else s j) (n + 1)) ∨ (p x ≠ -1 ∧ e = .returned (.bool (p x == ((y : Nat) : Int))) ∧ BdAt w' q p s n)) := by
  have hx2 : (x : Int) < 26 := by omega
  have hr : RowAt w q 132 (ints 53 (bdF p s n)) := hb
  have hc := hr.cell (ints_get (bdF p s n) (i := x) (by omega))
  rw [bd_x p s n hx] at hc
  by_cases hp : p x = -1
  · have HPX := (show Hid _ from hp)
    have hn26 := hn hp
    have hn2 : (n : Int) < 26 := by omega
    rw [hp] at hc
    have hf := hr.frozen x
    have hr1 : RowAt (w.setCell ⟨q, x, none⟩ (.int .i64 (y : Nat))) q 132 (ints 53 (bdF (upd p x (y : Nat)) s n)) := by
      have h1 := hr.set x (.int .i64 (y : Nat))
      rw [ints_set, bd_pair _ _ _ hx] at h1
      exact h1
    have hg1 := grown_set w q x (.int .i64 (y : Nat))
    clear hr hb hp hn
    go_enter Try.func82, Try.ntmps82
    go_upto_region 3 with fail
    generalize w.setCell ⟨q, x, none⟩ (.int .i64 (y : Nat)) = W1 at *
    clear hc hf
    have hSd : ∃ s', (s' = s ∨ s' = fun j => if j = n then x else s j) ∧ RowAt W1.drew q 132 (ints 53 (bdF (upd p x (y : Nat)) s' n)) := ⟨s, .inl rfl, hr1⟩
    have hr1d : RowAt W1.drew q 132 (ints 53 (bdF (upd p x (y : Nat)) s n)) := hr1
    have hg1d : w.grownBy W1.drew (some q) := ⟨hg1.os, hg1.tape, hg1.output, hg1.size, hg1.block⟩
    clear hr1 hg1
    refine wp_region_noPanic ?_
    refine wp_region_held_drew (S := fun W => ∃ s', (s' = s ∨ s' = fun j => if j = n then x else s j) ∧ RowAt W q 132 (ints 53 (bdF (upd p x (y : Nat)) s' n))) (by kernel_rfl) hSd (fun hS => ?_)
    clear hSd
    obtain ⟨U, hU⟩ : ∃ x, x = W1.drew := ⟨_, rfl⟩
    rw [← hU] at hS hr1d hg1d ⊢
    clear hU
    refine vtake 0 20 (.pointer (some ⟨q, 0, none⟩)) rfl rfl (by kernel_rfl) (by kernel_rfl) (by kernel_rfl) (fun _ _ _ _ h => h) (by rfl) (fun W hW => by clear hS hW; go_simp) hS ?_
    simp only [List.setIfInBounds_toArray, List.set_cons_succ, List.set_cons_zero]
    refine vtake 1 21 (.pointer (some ⟨q, 0, none⟩)) rfl rfl (by kernel_rfl) (by kernel_rfl) (by kernel_rfl) (fun _ _ _ _ h => h) (by rfl) (fun W hW => by clear hS hW; go_simp) hS ?_
    simp only [List.setIfInBounds_toArray, List.set_cons_succ, List.set_cons_zero]
    refine vtake 2 22 (.pointer (some ⟨q, 0, none⟩)) rfl rfl (by kernel_rfl) (by kernel_rfl) (by kernel_rfl) (fun _ _ _ _ h => h) (by rfl) (fun W hW => by clear hS hW; go_simp) hS ?_
    simp only [List.setIfInBounds_toArray, List.set_cons_succ, List.set_cons_zero]
    refine vtake 3 23 (.pointer (some ⟨q, 52, none⟩)) rfl rfl (by kernel_rfl) (by kernel_rfl) (by kernel_rfl) (fun _ _ _ _ h => h) (by rfl) (fun W hW => by clear hS hW; go_simp) hS ?_
    simp only [List.setIfInBounds_toArray, List.set_cons_succ, List.set_cons_zero]
    refine vtake 4 24 (.int .i64 (n : Nat)) rfl rfl (by kernel_rfl) (by kernel_rfl) (by kernel_rfl) (fun _ _ _ _ h => h) (by rfl) (fun W hW => by obtain ⟨s', _, hW⟩ := hW; have u := hW.cell (ints_get (bdF (upd p x (y : Nat)) s' n) (i := 52) (by omega)); rw [bd_n] at u; clear hS hW; go_simp) hS ?_
    simp only [List.setIfInBounds_toArray, List.set_cons_succ, List.set_cons_zero]
    refine vtake 5 25 (.int .i64 (x : Nat)) rfl rfl (by kernel_rfl) (by kernel_rfl) (by kernel_rfl) (fun _ _ _ _ h => h) (by rfl) (fun W hW => by clear hS hW; go_simp) hS ?_
    simp only [List.setIfInBounds_toArray, List.set_cons_succ, List.set_cons_zero]
    refine vtake 6 26 (.pointer (some ⟨q, 0, none⟩)) rfl rfl (by kernel_rfl) (by kernel_rfl) (by kernel_rfl) (fun _ _ _ _ h => h) (by rfl) (fun W hW => by clear hS hW; go_simp) hS ?_
    simp only [List.setIfInBounds_toArray, List.set_cons_succ, List.set_cons_zero]
    refine vtake 7 27 (.pointer (some ⟨q, 26, none⟩)) rfl rfl (by kernel_rfl) (by kernel_rfl) (by kernel_rfl) (fun _ _ _ _ h => h) (by rfl) (fun W hW => by clear hS hW; go_simp) hS ?_
    simp only [List.setIfInBounds_toArray, List.set_cons_succ, List.set_cons_zero]
    refine vtake 8 28 (.pointer (some ⟨q, 26 + n, none⟩)) rfl rfl (by kernel_rfl) (by kernel_rfl) (by kernel_rfl) (fun _ _ _ _ h => h) (by rfl) (fun W hW => by clear hS hW; go_simp) hS ?_
    simp only [List.setIfInBounds_toArray, List.set_cons_succ, List.set_cons_zero]
    refine wpAnyH_ready (rs := [9]) (by kernel_rfl) (by simp) ?_
    refine AllReadyH.cons (o := _) rfl (fun K hK => ?_) AllReadyH.nil
    rw [if_pos (by rfl)]
    have hc1 := hr1d.cell (ints_get (bdF (upd p x (y : Nat)) s n) (i := 26 + n) (by omega))
    have hf1 := hr1d.frozen (26 + n)
    have hr2 : RowAt (U.setCell ⟨q, 26 + n, none⟩ (.int .i64 (x : Nat))) q 132 (ints 53 (bdF (upd p x (y : Nat)) (fun j => if j = n then x else s j) n)) := by
      have h1 := hr1d.set (26 + n) (.int .i64 (x : Nat))
      rw [ints_set, bd_said _ _ _ hn26] at h1
      exact h1
    have hg2 := grown_trans hg1d (grown_set U q (26 + n) (.int .i64 (x : Nat)))
    generalize bdF (upd p x (y : Nat)) s n = F0 at *
    go_simp
    refine hK.out _ _ ⟨_, .inr rfl, hr2⟩ (fun _ => ?_)
    clear hK K hS hr1d hc1 hf1 hg1d
    refine wpAnyH_done (by kernel_rfl) ?_ _
    refine NoPanic.normal ?_
    generalize U.setCell ⟨q, 26 + n, none⟩ (.int .i64 (x : Nat)) = U2 at *
    have c2 := hr2.cell (ints_get (bdF (upd p x (y : Nat)) (fun j => if j = n then x else s j) n) (i := 52) (by omega))
    rw [bd_n] at c2
    have f2 := hr2.frozen 52
    have hr3 : RowAt (U2.setCell ⟨q, 52, none⟩ (.int .i64 ((n : Int) + 1))) q 132 (ints 53 (bdF (upd p x (y : Nat)) (fun j => if j = n then x else s j) (n + 1))) := by
      have h1 := hr2.set 52 (.int .i64 ((n : Int) + 1))
      have e : ((n : Int) + 1) = ((n + 1 : Nat) : Int) := by omega
      rw [ints_set, e, bd_many] at h1
      rw [e]
      exact h1
    have hg3 := grown_trans hg2 (grown_set U2 q 52 (.int .i64 ((n : Int) + 1)))
    have c3 := hr3.cell (ints_get (bdF (upd p x (y : Nat)) (fun j => if j = n then x else s j) (n + 1)) (i := x) (by omega))
    rw [bd_x _ _ _ hx, upd_same] at c3
    have HR3 := (show Hid _ from hr3)
    have HG3 := (show Hid _ from hg3)
    have hyy : (((y : Nat) : Int) == ((y : Nat) : Int)) = true := by simp
    clear hr2 hg2 hr3 hg3
    go_wp2
    go_ret
    exact ⟨HG3.out, .inl ⟨HPX.out, rfl, HR3.out⟩⟩
  · have HPX := (show Hid _ from hp)
    have HR := (show Hid _ from hr)
    have hpb : (p x == -1) = false := by simpa using hp
    clear hb hn hr hp
    generalize p x = v at *
    go_enter Try.func82, Try.ntmps82
    go_wp2
    go_ret
    exact ⟨World.grownBy.refl _ _, .inr ⟨HPX.out, rfl, HR.out⟩⟩
end Go.Proofs.Ytigamiehnjipcaa
