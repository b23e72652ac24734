/-
  Contract of tally.Period.
-/
import Derived.Test.YteomoeaoboaclaeTAl
import Derived.RegionTactic
import Derived.BigRegion
namespace Go.Proofs.Yteomoeaoboaclae
open Go.RowKit PK Vg Tl

set_option maxRecDepth 100000 in
set_option maxHeartbeats 2000000 in
theorem tpe_bad (t : ByteArray) (n : Int) (E A : Int) (hE : (E != 0) = true) (HT : Hid (∀ W, Calls Try.prog 25 #[.string t, .int .i64 n] W fun e w' => e = .returned (.agg #[.int .i64 E, .int .i64 A]) ∧ Below W.heap.size W w')) (w : World) : Calls Try.prog 11 #[.string t, .int .i64 n] w fun e w' => e = .returned (.tuple #[.int .i64 0, .agg #[.int .i64 E, .int .i64 A]]) ∧ Below w.heap.size w w' := by
  go_enter Try.func11, Try.ntmps11
  go_wp2_with fail
  refine (HT.out _).mono ?_
  rintro e W1 ⟨rfl, hb⟩
  have hb1 : Below (w.heap.size + 1) (w.alloc (.cells #[.int .i64 0, .int .i64 0] 25)) W1 := by simpa using hb
  have hz := hb1.size
  simp at hz
  have hb2 := hb1.alloc (by omega) (.cells #[.int .i64 E, .int .i64 A] 25)
  clear hb
  obtain ⟨c0, c1, f0, f1, hsz⟩ := Kit.two_cells hb2
  clear HT hb1
  go_wp2_with fail
  go_region
  all_goals (try go_wp2)
  have q := Kit.read_two (.int .i64 E) (.int .i64 A) c0 c1
  exact bodyPost_ret (v := .tuple #[.int .i64 0, .agg #[.int .i64 E, .int .i64 A]]) (by simp [results, Try.results11, go_sem, q.1, q.2]) rfl ⟨rfl, (Kit.below_two hb2 _ _).drew⟩
/-- The result's variable, and the greatest ratio so far. -/
structure PeAt (w W : World) (g : Nat) (u d : Value) : Prop where
  r : RowAt W w.heap.size 25 #[.int .i64 0, .int .i64 0]
  o : RowAt W g 29 #[u, d]
  ne : w.heap.size < g
  below : Below w.heap.size w W
theorem PeAt.step {w W W' : World} {g : Nat} {u d : Value} (h : PeAt w W g u d) (hb : Below W.heap.size W W') : PeAt w W' g u d := ⟨h.r.below hb h.r.lt, h.o.below hb h.o.lt, h.ne, h.below.trans (hb.mono h.below.size)⟩
theorem PeAt.alloc {w W : World} {g : Nat} {u d : Value} (h : PeAt w W g u d) (o : Obj) : PeAt w (W.alloc o) g u d := ⟨h.r.alloc o, h.o.alloc o, h.ne, h.below.alloc h.below.size o⟩
theorem PeAt.drew {w W : World} {g : Nat} {u d : Value} (h : PeAt w W g u d) : PeAt w W.drew g u d := ⟨h.r, h.o, h.ne, h.below.drew⟩
theorem PeAt.set {w W : World} {g : Nat} {u d : Value} (h : PeAt w W g u d) (x y : Value) : PeAt w ((W.setCell ⟨g, 0, none⟩ x).setCell ⟨g, 1, none⟩ y) g x y := by
  have := h.ne
  exact ⟨(h.r.setOther _ _ (by simp; omega)).setOther _ _ (by simp; omega), (h.o.set 0 x).set 1 y, h.ne, (h.below.setCell (p := ⟨g, 0, none⟩) (by simp; omega) _).setCell (p := ⟨g, 1, none⟩) (by simp; omega) _⟩
theorem PeAt.done {w W : World} {g : Nat} {u d : Value} (h : PeAt w W g u d) (x y : Value) : Below w.heap.size w ((W.setCell ⟨w.heap.size, 0, none⟩ x).setCell ⟨w.heap.size, 1, none⟩ y) := (h.below.setCell (p := ⟨w.heap.size, 0, none⟩) (Nat.le_refl _) _).setCell (p := ⟨w.heap.size, 1, none⟩) (Nat.le_refl _) _
theorem PeAt.new {w W : World} {E A x y : Value} (hb : Below (w.heap.size + 1) (w.alloc (.cells #[.int .i64 0, .int .i64 0] 25)) W) : PeAt w ((W.alloc (.cells #[E, A] 25)).alloc (.cells #[x, y] 29)) (W.heap.size + 1) x y := by
  have hz := hb.size
  simp at hz
  have h1 := (((RowAt.new w 25 #[.int .i64 0, .int .i64 0]).below hb (by omega)).alloc (.cells #[E, A] 25)).alloc (.cells #[x, y] 29)
  have h2 := RowAt.new (W.alloc (.cells #[E, A] 25)) 29 #[x, y]
  rw [World.size_alloc] at h2
  have h3 : Below w.heap.size w W := ((Below.refl _ w).alloc (Nat.le_refl _) _).trans (hb.mono (by omega))
  exact ⟨h1, h2, by omega, (h3.alloc (by omega) _).alloc (by simp only [World.size_alloc]; omega) _⟩
set_option maxRecDepth 100000 in
set_option maxHeartbeats 4000000 in
theorem tpe_run (t : ByteArray) (most : Nat) (h1 : 1 ≤ most) (h2 : most ≤ 64) (A B : Nat → Nat) (hA0 : A 0 = 0) (hB0 : B 0 = 0) (hP : ∀ m n, 1 ≤ m → 1 ≤ n → A m * B n < 9223372036854775807) (r : Nat) (E : Int)
    (HR : Hid ((∃ b, BestTo A B most b) → BestTo A B most r ∧ E = 0)) (HN : Hid (¬ (∃ b, BestTo A B most b) → r = 0 ∧ E = 5))
    (HT : Hid (∀ W, Calls Try.prog 25 #[.string t, .int .i64 (most : Nat)] W fun e w' => e = .returned (.agg #[.int .i64 0, .int .i64 0]) ∧ Below W.heap.size W w')) (HPR : Hid (∀ n, 1 ≤ n → n ≤ 64 → ∀ W, Calls Try.prog 26 #[.string t, .int .i64 (n : Nat)] W fun e w' => e = .returned (.agg #[.int .i64 (A n : Nat), .int .i64 (B n : Nat)]) ∧ Below W.heap.size W w')) (w : World) : Calls Try.prog 11 #[.string t, .int .i64 (most : Nat)] w fun e w' => e = .returned (.tuple #[.int .i64 (r : Nat), .agg #[.int .i64 E, .int .i64 0]]) ∧ Below w.heap.size w w' := by
  go_enter Try.func11, Try.ntmps11
  go_wp2_with fail
  refine (HT.out _).mono ?_
  rintro e W1 ⟨rfl, hb⟩
  have hb1 : Below (w.heap.size + 1) (w.alloc (.cells #[.int .i64 0, .int .i64 0] 25)) W1 := by simpa using hb
  have hg0 := PeAt.new (E := .int .i64 0) (A := .int .i64 0) (x := .int .i64 0) (y := .int .i64 0) hb1
  clear hb HT hb1
  go_wp2_with fail
  obtain ⟨g, hgg⟩ : ∃ g, g = W1.heap.size + 1 := ⟨_, rfl⟩
  rw [← hgg] at hg0 ⊢
  clear hgg
  go_loopw [9, 7] (fun i x W => ∃ c b : Nat, 1 ≤ c ∧ c ≤ most + 1 ∧ b < c ∧ i = .int .i64 (c : Nat) ∧ x = .int .i64 (b : Nat) ∧ Hid ((b = 0 ∧ ∀ k, 1 ≤ k → k ≤ c - 1 → B k = 0) ∨ BestTo A B (c - 1) b) ∧ PeAt w W g (.int .i64 (A b : Nat)) (.int .i64 (B b : Nat))) (fun i _ _ => ((most : Int) + 1 - intOf i).toNat)
  case atStart => exact ⟨1, 0, by omega, by omega, by omega, rfl, rfl, .inl ⟨rfl, fun k _ _ => by omega⟩, by rw [hA0, hB0]; exact hg0⟩
  case round =>
    clear hg0
    obtain ⟨c, b, hc1, hc2, hbc, rfl, rfl, HB, hg⟩ := hrel
    obtain ⟨c', rfl⟩ : ∃ c', c = c' + 1 := ⟨c - 1, by omega⟩
    rw [Nat.add_sub_cancel] at HB
    by_cases hlt : c' + 1 ≤ most
    · have hlt2 : ((c' + 1 : Nat) : Int) ≤ (most : Int) := by omega
      have HP1 := (show Hid _ from HPR.out (c' + 1) hc1 (by omega))
      go_wp2_with fail
      refine (HP1.out _).mono ?_
      rintro e W2 ⟨rfl, hb3⟩
      have hg2 := (hg.step hb3).alloc (.cells #[.int .i64 (A (c' + 1) : Nat), .int .i64 (B (c' + 1) : Nat)] 29)
      have hrr := RowAt.new W2 29 #[.int .i64 (A (c' + 1) : Nat), .int .i64 (B (c' + 1) : Nat)]
      have l1 : g < W2.heap.size := (hg.o.below hb3 hg.o.lt).lt
      have l2 := hg.ne
      have n0 : ¬ W2.heap.size = g := by omega
      have n2 : ¬ g = W2.heap.size := by omega
      clear hb3 HP1 hg
      by_cases h0 : 0 < B (c' + 1)
      · have h01 : (0 : Int) < (B (c' + 1) : Int) := by omega
        by_cases hb0 : b = 0
        · have HX : Hid (BestTo A B (c' + 1) (c' + 1)) := by
            rcases HB.out with h | h
            · exact best_first h.2 h0
            · have := h.pos; omega
          have hb1 : ((b : Int) == 0) = true := by rw [hb0]; rfl
          have hg3 := hg2
          clear hb0 h0 hg2
          go_wp2_with fail
          generalize W2.alloc (.cells #[.int .i64 (A (c' + 1) : Nat), .int .i64 (B (c' + 1) : Nat)] 29) = V at *
          have u0 := hrr.cell (i := 0) rfl
          have u1 := hrr.cell (i := 1) rfl
          have c0 := hg3.o.cell (i := 0) rfl
          have c1 := hg3.o.cell (i := 1) rfl
          have f0 := hg3.o.frozen 0
          have f1 := hg3.o.frozen 1
          go_region
          all_goals (try go_wp2)
          all_goals
            go_roundw
            case rel => exact ⟨c' + 1 + 1, c' + 1, by omega, by omega, by omega, by go_num, rfl, by rw [Nat.add_sub_cancel]; exact .inr HX.out, hg3.drew.set _ _⟩
            case measure => simp [intOf] <;> omega
        · have hb1 : ((b : Int) == 0) = false := beq_false_of_ne (by omega)
          have HBT : Hid (BestTo A B c' b) := by
            rcases HB.out with h | h
            · exact absurd h.1 hb0
            · exact h
          have HGR := (show Hid (∀ W, Calls Try.prog 29 #[.agg #[.int .i64 (A (c' + 1) : Nat), .int .i64 (B (c' + 1) : Nat)], .agg #[.int .i64 (A b : Nat), .int .i64 (B b : Nat)]] W fun e w' => e = .returned (.bool (decide (A b * B (c' + 1) < A (c' + 1) * B b))) ∧ Below W.heap.size W w') from fun W => tgr_any _ _ _ _ (hP _ _ (by omega) (by omega)) (hP _ _ (by omega) (by omega)) W)
          have HXT : Hid (A b * B (c' + 1) < A (c' + 1) * B b → BestTo A B (c' + 1) (c' + 1)) := fun h => best_take HBT.out h0 h
          have HXK : Hid (¬ A b * B (c' + 1) < A (c' + 1) * B b → BestTo A B (c' + 1) b) := fun h => best_keep HBT.out fun _ => Nat.le_of_not_lt h
          have c0 := hg2.o.cell (i := 0) rfl
          have c1 := hg2.o.cell (i := 1) rfl
          clear h0
          go_wp2_with fail
          refine (HGR.out _).mono ?_
          rintro e W3 ⟨rfl, hb4⟩
          have hg3 := hg2.step hb4
          have hr3 := hrr.below hb4 hrr.lt
          clear hb4 hrr hg2 c0 c1 HGR
          have u0 := hr3.cell (i := 0) rfl
          have u1 := hr3.cell (i := 1) rfl
          have c0 := hg3.o.cell (i := 0) rfl
          have c1 := hg3.o.cell (i := 1) rfl
          have f0 := hg3.o.frozen 0
          have f1 := hg3.o.frozen 1
          by_cases hcmp : A b * B (c' + 1) < A (c' + 1) * B b
          · have HX : Hid (BestTo A B (c' + 1) (c' + 1)) := HXT.out hcmp
            rw [decide_eq_true hcmp]
            clear hcmp
            go_wp2_with fail
            go_region
            all_goals (try go_wp2)
            all_goals
              go_roundw
              case rel => exact ⟨c' + 1 + 1, c' + 1, by omega, by omega, by omega, by go_num, rfl, by rw [Nat.add_sub_cancel]; exact .inr HX.out, hg3.drew.set _ _⟩
              case measure => simp [intOf] <;> omega
          · have HX : Hid (BestTo A B (c' + 1) b) := HXK.out hcmp
            rw [decide_eq_false hcmp]
            clear hcmp
            go_wp2_with fail
            go_roundw
            case rel => exact ⟨c' + 1 + 1, b, by omega, by omega, by omega, by go_num, rfl, by rw [Nat.add_sub_cancel]; exact .inr HX.out, hg3⟩
            case measure => simp [intOf] <;> omega
      · have h01 : ¬ (0 : Int) < (B (c' + 1) : Int) := by omega
        have HX : Hid ((b = 0 ∧ ∀ k, 1 ≤ k → k ≤ c' + 1 → B k = 0) ∨ BestTo A B (c' + 1) b) := by
          rcases HB.out with h | h
          · exact .inl ⟨h.1, fun k k1 k2 => by
              by_cases e : k = c' + 1
              · rw [e]; omega
              · exact h.2 k k1 (by omega)⟩
          · exact .inr (best_keep h fun h => absurd h h0)
        clear h0
        go_wp2_with fail
        go_roundw
        case rel => exact ⟨c' + 1 + 1, b, by omega, by omega, by omega, by go_num, rfl, by rw [Nat.add_sub_cancel]; exact HX.out, hg2⟩
        case measure => simp [intOf] <;> omega
    · obtain rfl : c' = most := by omega
      have hlt2 : ¬ ((c' + 1 : Nat) : Int) ≤ (c' : Int) := by omega
      have hlt3 : ¬ ((c' : Int) + 1) ≤ (c' : Int) := by omega
      have c0 := hg.r.cell (i := 0) rfl
      have c1 := hg.r.cell (i := 1) rfl
      have f0 := hg.r.frozen 0
      have f1 := hg.r.frozen 1
      by_cases hb0 : b = 0
      · have hb1 : ((b : Int) == 0) = true := by rw [hb0]; rfl
        have HX : Hid (r = 0 ∧ E = 5) := HN.out (fun ⟨k, hk⟩ => by
          rcases HB.out with h | h
          · have := h.2 k hk.pos hk.le; have := hk.ok; omega
          · have := h.pos; omega)
        clear hb0
        go_wp2
        have q := Kit.read_two (.int .i64 5) (.int .i64 0) c0 c1
        exact bodyPost_ret (v := .tuple #[.int .i64 0, .agg #[.int .i64 5, .int .i64 0]]) (by simp [results, Try.results11, go_sem, q.1, q.2]) rfl ⟨by rw [HX.out.1, HX.out.2]; rfl, hg.done _ _⟩
      · have hb1 : ((b : Int) == 0) = false := beq_false_of_ne (by omega)
        have HX : Hid (b = r ∧ E = 0) := by
          rcases HB.out with h | h
          · exact absurd h.1 hb0
          · obtain ⟨h5, h6⟩ := HR.out ⟨b, h⟩
            exact ⟨best_unique h h5, h6⟩
        clear hb0
        go_wp2
        have q := Kit.read_two (.int .i64 0) (.int .i64 0) c0 c1
        exact bodyPost_ret (v := .tuple #[.int .i64 (b : Nat), .agg #[.int .i64 0, .int .i64 0]]) (by simp [results, Try.results11, go_sem, q.1, q.2]) rfl ⟨by rw [← HX.out.1, HX.out.2], hg.done _ _⟩
theorem tpe_any (t : ByteArray) (n : Int) (w : World) : Calls Try.prog 11 #[.string t, .int .i64 n] w fun e w' => e = .returned (.tuple #[.int .i64 (peN t.data.toList n : Nat), .agg #[.int .i64 (peE t.data.toList n), .int .i64 (ixAt t.data.toList)]]) ∧ Below w.heap.size w w' := by
  have hsz := Pl.size_len t
  have HW := fun W => twrong_any t n W
  by_cases hw : wnE t.data.toList n = 0
  · have hk : ckE t.data.toList = 0 := by
      by_cases h : ckE t.data.toList = 0
      · exact h
      · unfold wnE at hw; rw [if_pos h] at hw; exact absurd hw h
    have h0 : ¬ ckE t.data.toList ≠ 0 := fun h => h hk
    have hn : ¬ (n < 1 ∨ 64 < n) := fun h => by unfold wnE at hw; rw [if_neg h0, if_pos h] at hw; cases hw
    have hat : ixAt t.data.toList = 0 := by unfold ixAt; rw [if_neg h0]
    rcases ck_cases t.data.toList with ⟨_, k1, k2, k3⟩ | k1
    · obtain ⟨m, rfl⟩ : ∃ m : Nat, n = m := ⟨n.toNat, by omega⟩
      rw [hw, hat] at HW
      have hbest : ∀ b, BestTo (halfA t.data.toList) (halfP t.data.toList) m b ↔ BestTo (alike t.data.toList) (allP t.data.toList) m b := fun b => best_half (halfA_two _) (halfP_two _)
      unfold peN peE
      rw [hat, if_neg h0, if_neg h0, if_neg hn, if_neg hn, Int.toNat_natCast]
      refine tpe_run t m (by omega) (by omega) (halfA t.data.toList) (halfP t.data.toList) rfl rfl (fun a b ha hb => half_mul (Nat.le_trans (halfA_le (ls_of k3) a) (halfP_le k2 ha)) (halfP_le k2 hb)) _ _ (fun h => ?_) (fun h => ?_) HW (fun a _ hb W => tal_any t (ls_of k3) (by omega) a hb W) w
      · have h' : ∃ b, BestTo (alike t.data.toList) (allP t.data.toList) m b := h.imp fun b hb => (hbest b).1 hb
        rw [if_pos h', if_pos h']
        exact ⟨(hbest _).2 (best_spec h'), rfl⟩
      · have h' : ¬ ∃ b, BestTo (alike t.data.toList) (allP t.data.toList) m b := fun ⟨b, hb⟩ => h ⟨b, (hbest b).2 hb⟩
        rw [if_neg h', if_neg h']
        exact ⟨rfl, rfl⟩
    · rw [hk] at k1; cases k1
  · have e : peE t.data.toList n = wnE t.data.toList n ∧ peN t.data.toList n = 0 := by
      unfold wnE at hw ⊢
      unfold peE peN
      by_cases h : ckE t.data.toList ≠ 0
      · rw [if_pos h, if_pos h, if_pos h]; exact ⟨rfl, rfl⟩
      · rw [if_neg h] at hw ⊢
        rw [if_neg h, if_neg h]
        by_cases hn : n < 1 ∨ 64 < n
        · rw [if_pos hn, if_pos hn, if_pos hn]; exact ⟨rfl, rfl⟩
        · rw [if_neg hn] at hw; exact absurd rfl hw
    rw [e.1, e.2]
    exact tpe_bad t n _ _ (by simpa using hw) HW w
end Go.Proofs.Yteomoeaoboaclae
