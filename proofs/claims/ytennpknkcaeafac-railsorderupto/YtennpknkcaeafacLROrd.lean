/-
  RailsOrder, walked.
-/
import Derived.Test.YtennpknkcaeafacYRGri
import Derived.Test.YtennpknkcaeafacYRRail
import Derived.Test.YtennpknkcaeafacYRCol2
namespace Go.Proofs.Ytennpknkcaeafac
open Go.RowKit PK Sm

/-- A call answers numbers g, m of them, and errno E. -/
def Answers (fn : Nat) (args : Array Value) (W : World) (m : Nat) (g : Nat → Int) (E : Int) : Prop :=
  Calls Try.prog fn args W fun e w' => ∃ v, e = .returned (.tuple #[v, .int .i64 E]) ∧ NumsAt w' v m g ∧ Below W.heap.size W w'
theorem nums_nil (w : World) (g : Nat → Int) : NumsAt w (.slice none 0 0) 0 g := ⟨none, 0, rfl, by decide, fun c hc => by omega⟩
theorem alike_rail (n R : Int) : ∃ (m : Nat) (g : Nat → Int) (E : Int), m ≤ 1048576 ∧ ∀ W, Answers 8 #[.int .i64 n, .int .i64 R] W m g E ∧ Answers 9 #[.int .i64 n, .int .i64 R] W m g E := by
  by_cases h : (0 ≤ n ∧ n ≤ 65536) ∧ 1 ≤ R ∧ R ≤ 64
  · obtain ⟨n', rfl⟩ : ∃ n' : Nat, n = n' := ⟨n.toNat, by omega⟩
    obtain ⟨R', rfl⟩ : ∃ R' : Nat, R = R' := ⟨R.toNat, by omega⟩
    refine ⟨n', fun i => (((byKey (railK R') R' n').getD i 0 : Nat) : Int), 0, by omega, fun W => ⟨?_, ?_⟩⟩
    · refine (rail_ok n' R' (by omega) (by omega) (by omega) W).mono ?_
      rintro e w' ⟨G, d, rfl, ro, hb, _, ho, hs⟩
      exact ⟨_, rfl, (NumsAt.of_row ro (by unfold maxLen; omega)).congr (rail_list (by omega) ho hs).2, hb⟩
    · refine (rrail_ok n' R' (by omega) (by omega) (by omega) W).mono ?_
      rintro e w' ⟨v, B, rfl, hown, hb⟩
      have hl := (of_list (K := railKey R') (byKey_pw (railK R') R' n') (fun x => byKey_mem (fun i _ => railK_lt (by omega) i) x)).1
      have hnm := hown.nums
      rw [hl] at hnm
      exact ⟨v, rfl, hnm, hb⟩
  · refine ⟨0, fun _ => 0, 3, by omega, fun W => ⟨?_, ?_⟩⟩
    · refine (rail_bad n R h W).mono ?_
      rintro e w' ⟨rfl, hb⟩
      exact ⟨_, rfl, nums_nil _ _, hb⟩
    · refine (rrail_bad n R h W).mono ?_
      rintro e w' ⟨rfl, hb⟩
      exact ⟨_, rfl, nums_nil _ _, hb⟩
theorem alike_col (n : Int) (s : ByteArray) : ∃ (m : Nat) (g : Nat → Int) (E : Int), m ≤ 1048576 ∧ ∀ W, Answers 11 #[.int .i64 n, .string s] W m g E ∧ Answers 12 #[.int .i64 n, .string s] W m g E := by
  by_cases h : colE n s.data.toList = 0
  · obtain ⟨hn, hk1, hk2, hlet, hl1, hl2⟩ := colE_zero h
    obtain ⟨n', rfl⟩ : ∃ n' : Nat, n = n' := ⟨n.toNat, by omega⟩
    have hsl := Pl.size_len s
    refine ⟨n', fun i => (((allL s.data.toList n' s.size 26).getD i 0 : Nat) : Int), 0, by omega, fun W => ⟨?_, ?_⟩⟩
    · refine (col_ok n' s (by omega) hk1 hk2 (by omega) (by omega) W).mono ?_
      rintro e w' ⟨G, d, t, rfl, ro, hb, _, ho, hs, ht⟩
      exact ⟨_, rfl, (NumsAt.of_row ro (by unfold maxLen; omega)).congr (col_list (by omega) (by omega) hsl.symm hlet ht ho hs).2, hb⟩
    · have hl : (allL s.data.toList n' s.size 26).length = n' := allL_length (by omega) (by omega) hsl.symm hlet
      refine (rcol_ok n' s (by omega) hk1 hk2 hlet (by omega) (by omega) W).mono ?_
      rintro e w' ⟨v, B, rfl, hown, hb⟩
      have hnm := hown.nums
      rw [hl] at hnm
      exact ⟨v, rfl, hnm, hb⟩
  · refine ⟨0, fun _ => 0, colE n s.data.toList, by omega, fun W => ⟨?_, ?_⟩⟩
    · refine (col_bad n s h W).mono ?_
      rintro e w' ⟨rfl, hb⟩
      exact ⟨_, rfl, nums_nil _ _, hb⟩
    · refine (rcol_bad n s h W).mono ?_
      rintro e w' ⟨rfl, hb⟩
      exact ⟨_, rfl, nums_nil _ _, hb⟩
theorem alike_gri (sd : Int) (v : Value) (n : Nat) (hn : n ≤ 1048576) (f : Nat → Int) (w : World) (hv : NumsAt w v n f) (hv0 : ∀ m c, v = .slice none m c → c = 0) : ∃ (m : Nat) (g : Nat → Int) (E : Int), m ≤ 1048576 ∧ ∀ W, Below w.heap.size w W → Answers 13 #[.int .i64 sd, v] W m g E ∧ Answers 14 #[.int .i64 sd, v] W m g E := by
  by_cases hside : sd < 2 ∨ 16 < sd ∨ sd % 2 ≠ 0
  · refine ⟨0, fun _ => 0, 3, by omega, fun W hW => ⟨?_, ?_⟩⟩
    · refine (grille_side sd hside v n f W (hv.below hW)).mono ?_
      rintro e w' ⟨rfl, hb⟩
      exact ⟨_, rfl, nums_nil _ _, hb⟩
    · refine (rgrille_side sd hside v n f W (hv.below hW)).mono ?_
      rintro e w' ⟨rfl, hb⟩
      exact ⟨_, rfl, nums_nil _ _, hb⟩
  · obtain ⟨s, rfl⟩ : ∃ s : Nat, sd = s := ⟨sd.toNat, by omega⟩
    have h2 : 2 ≤ s := by omega
    have h16 : s ≤ 16 := by omega
    have hev : s % 2 = 0 := by omega
    have hS : s * s ≤ 256 := Nat.mul_le_mul h16 h16
    have P := fun W (hW : Below w.heap.size w W) => grille_any v n f s h2 h16 hev W (hv.below hW)
    have D := fun W (hW : Below w.heap.size w W) => rgrille_any v n hn f s h2 h16 hev W (hv.below hW) hv0
    by_cases hbad : ∃ j, j < n ∧ (f j < 0 ∨ ((s * s : Nat) : Int) ≤ f j)
    · have hno : ¬ ∀ j, j < n → 0 ≤ f j ∧ f j < ((s * s : Nat) : Int) := fun hall => by
        obtain ⟨j, hj, h⟩ := hbad
        have := hall j hj
        omega
      refine ⟨0, fun _ => 0, 3, by omega, fun W hW => ⟨?_, ?_⟩⟩
      · refine (P W hW).mono ?_
        rintro e w' ⟨⟨rfl, _⟩ | ⟨hall, _⟩, hb⟩
        · exact ⟨_, rfl, nums_nil _ _, hb⟩
        · exact absurd hall hno
      · refine (D W hW).mono ?_
        rintro e w' ⟨⟨rfl, _⟩ | ⟨hall, _⟩, hb⟩
        · exact ⟨_, rfl, nums_nil _ _, hb⟩
        · exact absurd hall hno
    · have hall : ∀ j, j < n → natF f j < s * s := fun j hj => by
        have : ¬ (f j < 0 ∨ ((s * s : Nat) : Int) ≤ f j) := fun h => hbad ⟨j, hj, h⟩
        unfold natF
        omega
      by_cases hR : Gm.Right s (natF f) n
      · obtain ⟨r1, r2, r3⟩ := Gm.right_list hall hR
        refine ⟨s * s, fun i => (((Gm.outL s (natF f) n 4).getD i 0 : Nat) : Int), 0, by omega, fun W hW => ⟨?_, ?_⟩⟩
        · refine (P W hW).mono ?_
          rintro e w' ⟨⟨_, h⟩ | ⟨_, ⟨h, _⟩ | ⟨_, G, d, rfl, ro, _, ho, hs⟩⟩, hb⟩
          · exact absurd h hbad
          · exact absurd hR h
          · exact ⟨_, rfl, (NumsAt.of_row ro (by unfold maxLen; omega)).congr (fun i hi => srt_unique ho r2 hs r3 i hi), hb⟩
        · refine (D W hW).mono ?_
          rintro e w' ⟨⟨_, h⟩ | ⟨_, ⟨h, _⟩ | ⟨_, u, B, rfl, hown⟩⟩, hb⟩
          · exact absurd h hbad
          · exact absurd hR h
          · have hnm := hown.nums
            rw [r1] at hnm
            exact ⟨u, rfl, hnm, hb⟩
      · refine ⟨0, fun _ => 0, 8, by omega, fun W hW => ⟨?_, ?_⟩⟩
        · refine (P W hW).mono ?_
          rintro e w' ⟨⟨_, h⟩ | ⟨_, ⟨_, rfl⟩ | ⟨h, _⟩⟩, hb⟩
          · exact absurd h hbad
          · exact ⟨_, rfl, nums_nil _ _, hb⟩
          · exact absurd h hR
        · refine (D W hW).mono ?_
          rintro e w' ⟨⟨_, h⟩ | ⟨_, ⟨_, rfl⟩ | ⟨h, _⟩⟩, hb⟩
          · exact absurd h hbad
          · exact ⟨_, rfl, nums_nil _ _, hb⟩
          · exact absurd h hR
theorem same_any (u v : Value) (n : Nat) (hn : n ≤ 1048576) (g : Nat → Int) (w : World) (hu : NumsAt w u n g) (hv : NumsAt w v n g) :
    Calls Try.prog 10 #[u, v] w fun e w' => e = .returned (.bool true) ∧ Below w.heap.size w w' := same_ok u v n hn g g (fun _ _ => rfl) w hu hv
set_option maxRecDepth 100000 in
set_option maxHeartbeats 4000000 in
theorem law_rord (n R : Int) (s : ByteArray) (sd : Int) (v : Value) (k : Nat) (hk : k ≤ 1048576) (f : Nat → Int) (w : World) (hv : NumsAt w v k f) (hv0 : ∀ m c, v = .slice none m c → c = 0) :
    Calls Try.prog 3 #[.int .i64 n, .int .i64 R, .string s, .int .i64 sd, v] w fun e w' => e = .returned (.bool true) ∧ Below w.heap.size w w' := by
  obtain ⟨m1, g1, E1, hm1, A1⟩ := alike_rail n R
  obtain ⟨m2, g2, E2, hm2, A2⟩ := alike_col n s
  obtain ⟨m3, g3, E3, hm3, A3⟩ := alike_gri sd v k hk f w hv hv0
  have H1 := (show Hid (∀ W, Calls Try.prog 8 #[.int .i64 n, .int .i64 R] W fun e w' => ∃ v, e = .returned (.tuple #[v, .int .i64 E1]) ∧ NumsAt w' v m1 g1 ∧ Below W.heap.size W w') from fun W => (A1 W).1)
  have H2 := (show Hid (∀ W, Calls Try.prog 9 #[.int .i64 n, .int .i64 R] W fun e w' => ∃ v, e = .returned (.tuple #[v, .int .i64 E1]) ∧ NumsAt w' v m1 g1 ∧ Below W.heap.size W w') from fun W => (A1 W).2)
  have H3 := (show Hid (∀ W, Calls Try.prog 11 #[.int .i64 n, .string s] W fun e w' => ∃ v, e = .returned (.tuple #[v, .int .i64 E2]) ∧ NumsAt w' v m2 g2 ∧ Below W.heap.size W w') from fun W => (A2 W).1)
  have H4 := (show Hid (∀ W, Calls Try.prog 12 #[.int .i64 n, .string s] W fun e w' => ∃ v, e = .returned (.tuple #[v, .int .i64 E2]) ∧ NumsAt w' v m2 g2 ∧ Below W.heap.size W w') from fun W => (A2 W).2)
  have H5 := (show Hid (∀ W, Below w.heap.size w W → Calls Try.prog 13 #[.int .i64 sd, v] W fun e w' => ∃ v, e = .returned (.tuple #[v, .int .i64 E3]) ∧ NumsAt w' v m3 g3 ∧ Below W.heap.size W w') from fun W hW => (A3 W hW).1)
  have H6 := (show Hid (∀ W, Below w.heap.size w W → Calls Try.prog 14 #[.int .i64 sd, v] W fun e w' => ∃ v, e = .returned (.tuple #[v, .int .i64 E3]) ∧ NumsAt w' v m3 g3 ∧ Below W.heap.size W w') from fun W hW => (A3 W hW).2)
  clear A1 A2 A3 hv hv0
  go_enter Try.func3, Try.ntmps3
  go_wp2_with fail
  refine Calls.mono (H1.out _) ?_
  rintro e W1 ⟨v1, rfl, n1, b1⟩
  go_wp2_with fail
  refine Calls.mono (H2.out _) ?_
  rintro e W2 ⟨v2, rfl, n2, b2'⟩
  have n1b := n1.below b2'
  have b2 := b1.trans (b2'.mono b1.size)
  go_wp2_with fail
  refine Calls.mono (same_any v1 v2 m1 hm1 g1 W2 n1b n2) ?_
  rintro e W3 ⟨rfl, b3'⟩
  have b3 := b2.trans (b3'.mono b2.size)
  clear n1 n1b n2 b1 b2' b2 b3' H1 H2
  go_wp2_with fail
  refine Calls.mono (H3.out _) ?_
  rintro e W4 ⟨v3, rfl, n3, b4'⟩
  have b4 := b3.trans (b4'.mono b3.size)
  go_wp2_with fail
  refine Calls.mono (H4.out _) ?_
  rintro e W5 ⟨v4, rfl, n4, b5'⟩
  have n3b := n3.below b5'
  have b5 := b4.trans (b5'.mono b4.size)
  go_wp2_with fail
  refine Calls.mono (same_any v3 v4 m2 hm2 g2 W5 n3b n4) ?_
  rintro e W6 ⟨rfl, b6'⟩
  have b6 := b5.trans (b6'.mono b5.size)
  clear n3 n3b n4 b3 b4 b4' b5' b5 b6' H3 H4
  go_wp2_with fail
  refine Calls.mono (H5.out _ b6) ?_
  rintro e W7 ⟨v5, rfl, n5, b7'⟩
  have b7 := b6.trans (b7'.mono b6.size)
  go_wp2_with fail
  refine Calls.mono (H6.out _ b7) ?_
  rintro e W8 ⟨v6, rfl, n6, b8'⟩
  have n5b := n5.below b8'
  have b8 := b7.trans (b8'.mono b7.size)
  go_wp2_with fail
  refine Calls.mono (same_any v5 v6 m3 hm3 g3 W8 n5b n6) ?_
  rintro e W9 ⟨rfl, b9'⟩
  have b9 := b8.trans (b9'.mono b8.size)
  go_wp2
  go_ret
  exact ⟨rfl, b9⟩
end Go.Proofs.Ytennpknkcaeafac
