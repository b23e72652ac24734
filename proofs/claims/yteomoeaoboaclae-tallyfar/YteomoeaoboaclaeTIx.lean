/-
  Contract of tally.Index.
-/
import Derived.Test.YteomoeaoboaclaeTAl
import Derived.RegionTactic
namespace Go.Proofs.Yteomoeaoboaclae
open Go.RowKit PK Vg Tl

set_option maxRecDepth 100000 in
set_option maxHeartbeats 2000000 in
theorem tix_bad (t : ByteArray) (n : Int) (E A : Int) (hE : (E != 0) = true) (HT : Hid (∀ W, Calls Try.prog 25 #[.string t, .int .i64 n] W fun e w' => e = .returned (.agg #[.int .i64 E, .int .i64 A]) ∧ Below W.heap.size W w')) (w : World) : Calls Try.prog 9 #[.string t, .int .i64 n] w fun e w' => e = .returned (.tuple #[.agg #[.int .i64 0, .int .i64 0], .agg #[.int .i64 E, .int .i64 A]]) ∧ Below w.heap.size w w' := by
  go_enter Try.func9, Try.ntmps9
  go_wp2_with fail
  refine (HT.out _).mono ?_
  rintro e W1 ⟨rfl, hb⟩
  have h2 := ((TwoAt.new w 29).step hb).alloc (.cells #[.int .i64 E, .int .i64 A] 25)
  obtain ⟨⟨c0, c1, f0, f1⟩, d0, d1, g0, g1⟩ := h2.cells
  have l1 : w.heap.size + 2 ≤ W1.heap.size := by have := hb.size; simpa using this
  have n0 : ¬ W1.heap.size = w.heap.size := by omega
  have n1 : ¬ W1.heap.size = w.heap.size + 1 := by omega
  have n2 : ¬ w.heap.size = W1.heap.size := by omega
  have n3 : ¬ w.heap.size + 1 = W1.heap.size := by omega
  clear hb HT
  go_wp2_with fail
  go_region
  all_goals (try go_wp2)
  have q := h2.drew.done (.int .i64 0) (.int .i64 0) (.int .i64 E) (.int .i64 A)
  exact bodyPost_ret (v := .tuple #[.agg #[.int .i64 0, .int .i64 0], .agg #[.int .i64 E, .int .i64 A]]) (results_cells2 Try.results9 _ _ _ _ _ _ _ _ _ _ _ _ rfl rfl q.1 q.2.1 Try.underlying29 rfl v_info_ratio Try.underlying25 rfl v_info_fault) rfl ⟨rfl, (h2.done (.int .i64 0) (.int .i64 0) (.int .i64 E) (.int .i64 A)).2.2.drew⟩
set_option maxRecDepth 100000 in
set_option maxHeartbeats 2000000 in
theorem tix_none (t : ByteArray) (n A : Nat) (HT : Hid (∀ W, Calls Try.prog 25 #[.string t, .int .i64 (n : Nat)] W fun e w' => e = .returned (.agg #[.int .i64 0, .int .i64 0]) ∧ Below W.heap.size W w')) (HP : Hid (∀ W, Calls Try.prog 26 #[.string t, .int .i64 (n : Nat)] W fun e w' => e = .returned (.agg #[.int .i64 (A : Nat), .int .i64 0]) ∧ Below W.heap.size W w')) (w : World) : Calls Try.prog 9 #[.string t, .int .i64 (n : Nat)] w fun e w' => e = .returned (.tuple #[.agg #[.int .i64 0, .int .i64 0], .agg #[.int .i64 5, .int .i64 0]]) ∧ Below w.heap.size w w' := by
  go_enter Try.func9, Try.ntmps9
  go_wp2_with fail
  refine (HT.out _).mono ?_
  rintro e W1 ⟨rfl, hb⟩
  have h2 := ((TwoAt.new w 29).step hb).alloc (.cells #[.int .i64 0, .int .i64 0] 25)
  clear hb HT
  go_wp2_with fail
  refine (HP.out _).mono ?_
  rintro e W2 ⟨rfl, hb⟩
  have h5 := (h2.step hb).alloc (.cells #[.int .i64 (A : Nat), .int .i64 0] 29)
  obtain ⟨⟨c0, c1, f0, f1⟩, d0, d1, g0, g1⟩ := h5.cells
  clear hb HP h2
  have q := h5.done (.int .i64 0) (.int .i64 0) (.int .i64 5) (.int .i64 0)
  go_wp2
  exact bodyPost_ret (v := .tuple #[.agg #[.int .i64 0, .int .i64 0], .agg #[.int .i64 5, .int .i64 0]]) (results_cells2 Try.results9 _ _ _ _ _ _ _ _ _ _ _ _ rfl rfl q.1 q.2.1 Try.underlying29 rfl v_info_ratio Try.underlying25 rfl v_info_fault) rfl ⟨rfl, q.2.2⟩
set_option maxRecDepth 100000 in
set_option maxHeartbeats 2000000 in
theorem tix_ok (t : ByteArray) (n U D : Nat) (hU : U ≤ 4294967296) (hD : D ≤ 4294967296) (h0 : 0 < D) (HT : Hid (∀ W, Calls Try.prog 25 #[.string t, .int .i64 (n : Nat)] W fun e w' => e = .returned (.agg #[.int .i64 0, .int .i64 0]) ∧ Below W.heap.size W w')) (HP : Hid (∀ W, Calls Try.prog 26 #[.string t, .int .i64 (n : Nat)] W fun e w' => e = .returned (.agg #[.int .i64 (U : Nat), .int .i64 (D : Nat)]) ∧ Below W.heap.size W w')) (w : World) : Calls Try.prog 9 #[.string t, .int .i64 (n : Nat)] w fun e w' => e = .returned (.tuple #[.agg #[.int .i64 ((U / Nat.gcd U D : Nat) : Int), .int .i64 ((D / Nat.gcd U D : Nat) : Int)], .agg #[.int .i64 0, .int .i64 0]]) ∧ Below w.heap.size w w' := by
  have h5 : ((D : Int) == 0) = false := beq_false_of_ne (by omega)
  have HG := (show Hid (∀ W, Calls Try.prog 27 #[.int .i64 (U : Nat), .int .i64 (D : Nat)] W fun e w' => e = .returned (.int .i64 (Nat.gcd U D : Nat)) ∧ Below W.heap.size W w') from fun W => tdiv_any U D hU hD W)
  have hgp : 0 < Nat.gcd U D := Nat.gcd_pos_of_pos_right _ h0
  have HWU : Hid (wrap64 ((U : Int) / ((Nat.gcd U D : Nat) : Int)) = ((U / Nat.gcd U D : Nat) : Int)) := wrap_div hU rfl
  have HWD : Hid (wrap64 ((D : Int) / ((Nat.gcd U D : Nat) : Int)) = ((D / Nat.gcd U D : Nat) : Int)) := wrap_div hD rfl
  obtain ⟨y, hy⟩ : ∃ y, y = Nat.gcd U D := ⟨_, rfl⟩
  rw [← hy] at HG hgp HWU HWD
  have HY : Hid (y = Nat.gcd U D) := hy
  rw [← hy]
  clear hy
  have hy1 : ((y : Int) == 0) = false := beq_false_of_ne (by omega)
  have hy2 : (y : Int) ≠ 0 := by omega
  go_enter Try.func9, Try.ntmps9
  go_wp2_with fail
  refine (HT.out _).mono ?_
  rintro e W1 ⟨rfl, hb⟩
  have h6 := ((TwoAt.new w 29).step hb).alloc (.cells #[.int .i64 0, .int .i64 0] 25)
  clear hb HT
  go_wp2_with fail
  refine (HP.out _).mono ?_
  rintro e W2 ⟨rfl, hb⟩
  have h7 := (h6.step hb).alloc (.cells #[.int .i64 (U : Nat), .int .i64 (D : Nat)] 29)
  have hrr := RowAt.new W2 29 #[.int .i64 (U : Nat), .int .i64 (D : Nat)]
  have l1 : w.heap.size + 2 ≤ W2.heap.size := by have h1 := h6.f.lt; have h2 := hb.size; simp at h1 h2; omega
  have u0 := hrr.cell (i := 0) rfl
  have u1 := hrr.cell (i := 1) rfl
  clear hb HP h6
  go_wp2_with fail
  refine (HG.out _).mono ?_
  rintro e W3 ⟨rfl, hb⟩
  have h8 := h7.step hb
  have hr8 := hrr.below hb hrr.lt
  clear hb HG h7 hrr u0 u1
  have u0 := hr8.cell (i := 0) rfl
  have u1 := hr8.cell (i := 1) rfl
  obtain ⟨⟨c0, c1, f0, f1⟩, d0, d1, g0, g1⟩ := h8.cells
  have n0 : ¬ W2.heap.size = w.heap.size := by omega
  have n1 : ¬ W2.heap.size = w.heap.size + 1 := by omega
  have n2 : ¬ w.heap.size = W2.heap.size := by omega
  have n3 : ¬ w.heap.size + 1 = W2.heap.size := by omega
  have q := h8.drew.done (.int .i64 (wrap64 ((U : Int) / (y : Int)))) (.int .i64 (wrap64 ((D : Int) / (y : Int)))) (.int .i64 0) (.int .i64 0)
  go_wp2_with fail
  go_region
  all_goals (try go_wp2)
  all_goals
    generalize wrap64 ((U : Int) / (y : Int)) = X1 at *
    generalize wrap64 ((D : Int) / (y : Int)) = X2 at *
    exact bodyPost_ret (v := .tuple #[.agg #[.int .i64 X1, .int .i64 X2], .agg #[.int .i64 0, .int .i64 0]]) (results_cells2 Try.results9 _ _ _ _ _ _ _ _ _ _ _ _ rfl rfl q.1 q.2.1 Try.underlying29 rfl v_info_ratio Try.underlying25 rfl v_info_fault) rfl ⟨by rw [HWU.out, HWD.out], (h8.done (.int .i64 X1) (.int .i64 X2) (.int .i64 0) (.int .i64 0)).2.2.drew⟩
theorem tix_any (t : ByteArray) (n : Int) (w : World) : Calls Try.prog 9 #[.string t, .int .i64 n] w fun e w' => e = .returned (.tuple #[.agg #[.int .i64 (ixU t.data.toList n : Nat), .int .i64 (ixD t.data.toList n : Nat)], .agg #[.int .i64 (ixE t.data.toList n), .int .i64 (ixAt t.data.toList)]]) ∧ Below w.heap.size w w' := by
  have hsz := Pl.size_len t
  have HW := fun W => twrong_any t n W
  by_cases hw : wnE t.data.toList n = 0
  · have hk : ckE t.data.toList = 0 := by
      by_cases h : ckE t.data.toList = 0
      · exact h
      · unfold wnE at hw; rw [if_pos h] at hw; exact absurd hw h
    have h0 : ¬ ckE t.data.toList ≠ 0 := fun h => h hk
    have hn : ¬ (n < 1 ∨ 64 < n) := fun h => by unfold wnE at hw; rw [if_neg h0, if_pos h] at hw; cases hw
    have hat : ixAt t.data.toList = 0 := by unfold ixAt; rw [if_neg h0]
    rcases ck_cases t.data.toList with ⟨_, k1, k2, k3⟩ | k1
    · obtain ⟨m, rfl⟩ : ∃ m : Nat, n = m := ⟨n.toNat, by omega⟩
      rw [hw, hat] at HW
      have hp := fun W => tal_any t (ls_of k3) (by omega) m (by omega) W
      have e2 := halfP_two t.data.toList m
      have e1 := halfA_two t.data.toList m
      unfold ixU ixD
      rw [hat]
      by_cases hz : allP t.data.toList m = 0
      · have e : ixE t.data.toList (m : Int) = 5 := by unfold ixE; rw [if_neg h0, if_neg hn, Int.toNat_natCast, if_pos hz]
        rw [e, if_pos (by decide), if_pos (by decide)]
        rw [show halfP t.data.toList m = 0 by omega] at hp
        exact tix_none t m _ HW hp w
      · have e : ixE t.data.toList (m : Int) = 0 := by unfold ixE; rw [if_neg h0, if_neg hn, Int.toNat_natCast, if_neg hz]
        rw [e, if_neg (by decide), if_neg (by decide), Int.toNat_natCast, ← e1, ← e2, half_div, half_div2]
        have hb := halfP_le k2 (m := m) (by omega)
        have ha := halfA_le (ls_of k3) m
        exact tix_ok t m _ _ (by omega) (by omega) (by omega) HW hp w
    · rw [hk] at k1; cases k1
  · have e : ixE t.data.toList n = wnE t.data.toList n := by
      unfold wnE at hw ⊢
      unfold ixE
      by_cases h : ckE t.data.toList ≠ 0
      · rw [if_pos h, if_pos h]
      · rw [if_neg h] at hw ⊢
        by_cases hn : n < 1 ∨ 64 < n
        · rw [if_neg h, if_pos hn, if_pos hn]
        · rw [if_neg hn] at hw; exact absurd rfl hw
    unfold ixU ixD
    rw [e, if_pos hw, if_pos hw]
    exact tix_bad t n _ _ (by simpa using hw) HW w
end Go.Proofs.Yteomoeaoboaclae
