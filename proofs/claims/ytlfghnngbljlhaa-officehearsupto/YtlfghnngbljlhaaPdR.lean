/-
  Contracts of the document's On, inside, Two, Weights, Join and Secret (chapter 14).
-/
import Derived.Test.YtlfghnngbljlhaaPdJ
namespace Go.Proofs.Ytlfghnngbljlhaa
open Go.RowKit PK Pd

/-- One sign further on. -/
theorem mod_next {N x : Nat} (h : 0 < N) : (x + 1) % N = if x % N + 1 = N then 0 else x % N + 1 := by
  have h1 := Nat.mod_lt x h
  rw [← mod_add_one]
  by_cases e : x % N + 1 = N
  · rw [if_pos e, e, Nat.mod_self]
  · rw [if_neg e, Nat.mod_eq_of_lt (by omega)]
set_option maxRecDepth 100000 in
set_option maxHeartbeats 4000000 in
theorem ron_any (N x b : Nat) (h1 : 2 ≤ N) (h2 : N ≤ 64) (hx : x < N) (hb : b ≤ 64) (w : World) : Calls Try.prog 26 #[.int .i64 (N : Nat), .int .i64 (x : Nat), .int .i64 (b : Nat)] w fun e w' => w = w' ∧ e = .returned (.int .i64 (((x + b) % N : Nat) : Int)) := by
  have HX : Hid ((x + 0) % N = x) := by rw [Hid, Nat.add_zero]; exact Nat.mod_eq_of_lt hx
  have HS := (show Hid (∀ k, (x + (k + 1)) % N = if (x + k) % N + 1 = N then 0 else (x + k) % N + 1) from fun k => mod_next (x := x + k) (by omega))
  have HL := (show Hid (∀ k, (x + k) % N < N) from fun k => Nat.mod_lt _ (by omega))
  obtain ⟨R, hR⟩ : ∃ R, R = (x + b) % N := ⟨_, rfl⟩
  rw [← hR]
  have HR := (show Hid _ from hR)
  clear hR
  go_enter Try.func26, Try.ntmps26
  go_wp2_with fail
  go_loopw [1, 7] (fun y i W => ∃ k : Nat, k ≤ b ∧ i = .int .i64 (k : Nat) ∧ y = .int .i64 (((x + k) % N : Nat) : Int) ∧ w = W) (fun _ i _ => ((b : Int) - intOf i).toNat)
  case atStart => exact ⟨0, by omega, rfl, by rw [HX.out], rfl⟩
  case round =>
    obtain ⟨k, hk, rfl, rfl, rfl⟩ := hrel
    have hl := HL.out k
    by_cases hlt : k < b
    · have HLT : Hid (k < b) := hlt
      have hlt2 : (k : Int) < (b : Int) := by omega
      have hs := HS.out k
      obtain ⟨z, hz⟩ : ∃ z, z = (x + (k + 1)) % N := ⟨_, rfl⟩
      have HZ := (show Hid _ from hz)
      rw [← hz] at hs
      clear hz hlt
      generalize (x + k) % N = y at *
      by_cases e : y + 1 = N
      · rw [if_pos e] at hs
        have e2 : ((y : Int) + 1 == (N : Int)) = true := by simp; omega
        have HZ0 : Hid ((x + (k + 1)) % N = 0) := by rw [Hid, ← HZ.out]; exact hs
        clear e hs
        go_wp2
        go_roundw
        case rel => exact ⟨k + 1, HLT.out, by go_num, by rw [HZ0.out]; rfl, trivial⟩
        case measure => have := HLT.out; simp [intOf]; omega
      · rw [if_neg e] at hs
        have e2 : ((y : Int) + 1 == (N : Int)) = false := by simp; omega
        have HZ0 : Hid ((x + (k + 1)) % N = y + 1) := by rw [Hid, ← HZ.out]; exact hs
        clear e hs
        go_wp2
        go_roundw
        case rel => exact ⟨k + 1, HLT.out, by go_num, by rw [HZ0.out]; go_num, trivial⟩
        case measure => have := HLT.out; simp [intOf]; omega
    · obtain rfl : k = b := by omega
      have hnn : ¬ ((k : Nat) : Int) < ((k : Nat) : Int) := by omega
      obtain ⟨y, hy⟩ : ∃ y, y = (x + k) % N := ⟨_, rfl⟩
      have HY := (show Hid _ from hy)
      rw [← hy] at hl ⊢
      clear hlt hy
      go_wp2
      go_ret
      exact ⟨rfl, by rw [HR.out.trans HY.out.symm]; rfl⟩
set_option maxRecDepth 100000 in
set_option maxHeartbeats 4000000 in
theorem rin_any (n : Int) (v : Value) (m : Nat) (f : Nat → Int) (w : World) (hv : NumsAt w v m f) : Calls Try.prog 30 #[.int .i64 n, v] w fun e w' => w = w' ∧ e = .returned (.bool (inB n m f)) := by
  obtain ⟨a, c, rfl, hm, hc⟩ := hv
  have HC := (show Hid _ from hc)
  unfold maxLen at hm
  clear hc
  obtain ⟨B, hB⟩ : ∃ B, B = inB n m f := ⟨_, rfl⟩
  rw [← hB]
  have HB := (show Hid _ from hB)
  clear hB
  go_enter Try.func30, Try.ntmps30
  go_wp2_with fail
  go_loopw [9] (fun i W => ∃ k : Nat, k ≤ m ∧ i = .int .i64 (k : Nat) ∧ (∀ r, r < k → 0 ≤ f r ∧ f r < n) ∧ w = W) (fun i _ => ((m : Int) - intOf i).toNat)
  case atStart => exact ⟨0, by omega, rfl, fun r hr => by omega, rfl⟩
  case round =>
    obtain ⟨k, hk, rfl, hin, rfl⟩ := hrel
    have HIN := (show Hid _ from hin)
    clear hin
    by_cases hlt : k < m
    · have HLT : Hid (k < m) := hlt
      have hlt2 : (k : Int) < (m : Int) := by omega
      obtain ⟨b, o, rfl, h3⟩ := HC.out k hlt
      clear hlt
      by_cases hz : 0 ≤ f k ∧ f k < n
      · obtain ⟨hz1, hz2⟩ := hz
        have HNX : Hid (∀ r, r < k + 1 → 0 ≤ f r ∧ f r < n) := fun r hr => by
          by_cases e : r = k
          · rw [e]; exact ⟨hz1, hz2⟩
          · exact HIN.out r (by omega)
        have hz3 : ¬ f k < 0 := by omega
        have hz4 : ¬ n ≤ f k := by omega
        generalize f k = z at *
        go_wp2
        go_roundw
        case rel => exact ⟨k + 1, HLT.out, by go_num, HNX.out, trivial⟩
        case measure => have := HLT.out; simp [intOf]; omega
      · have HF : Hid (B = false) := by rw [Hid, HB.out]; exact inB_false HLT.out hz
        by_cases hz1 : f k < 0
        · generalize f k = z at *
          clear hz
          go_wp2
          go_ret
          exact ⟨rfl, by rw [HF.out]; rfl⟩
        · have hz2 : n ≤ f k := by omega
          generalize f k = z at *
          clear hz
          go_wp2
          go_ret
          exact ⟨rfl, by rw [HF.out]; rfl⟩
    · obtain rfl : k = m := by omega
      have hnn : ¬ ((k : Nat) : Int) < ((k : Nat) : Int) := by omega
      have HF : Hid (B = true) := by rw [Hid, HB.out]; exact (inB_iff _ _ _).2 HIN.out
      clear hlt
      go_wp2
      go_ret
      exact ⟨rfl, by rw [HF.out]; rfl⟩
set_option maxRecDepth 100000 in
set_option maxHeartbeats 4000000 in
theorem rtwo_any (n : Int) (vt vp : Value) (nt np : Nat) (ft fp : Nat → Int) (w : World) (ht : NumsAt w vt nt ft) (hp : NumsAt w vp np fp) : Calls Try.prog 25 #[.int .i64 n, vt, vp] w fun e w' => w = w' ∧ e = .returned (.int .i64 (txE n nt np ft fp)) := by
  have H1 := (show Hid (Calls Try.prog 30 #[.int .i64 n, vt] w fun e w' => w = w' ∧ e = .returned (.bool (inB n nt ft))) from rin_any n vt nt ft w ht)
  have H2 := (show Hid (Calls Try.prog 30 #[.int .i64 n, vp] w fun e w' => w = w' ∧ e = .returned (.bool (inB n np fp))) from rin_any n vp np fp w hp)
  obtain ⟨at', ct, rfl, hmt, _⟩ := ht
  obtain ⟨ap, cp, rfl, hmp, _⟩ := hp
  unfold maxLen at hmt hmp
  by_cases h1 : n < 2
  · have HE : Hid (txE n nt np ft fp = 1) := by unfold txE; rw [Hid, if_pos (.inl h1)]
    clear H1 H2
    go_enter Try.func25, Try.ntmps25
    go_wp2
    go_ret
    exact ⟨rfl, by rw [HE.out]; rfl⟩
  by_cases h1b : 64 < n
  · have HE : Hid (txE n nt np ft fp = 1) := by unfold txE; rw [Hid, if_pos (.inr h1b)]
    clear H1 H2
    go_enter Try.func25, Try.ntmps25
    go_wp2
    go_ret
    exact ⟨rfl, by rw [HE.out]; rfl⟩
  have hk : ¬ (n < 2 ∨ 64 < n) := by omega
  cases h2 : inB n nt ft
  · have HE : Hid (txE n nt np ft fp = 3) := by unfold txE; rw [Hid, if_neg hk, if_pos (.inl h2)]
    rw [h2] at H1
    clear H2 h2 hk
    go_enter Try.func25, Try.ntmps25
    go_wp2_with fail
    refine H1.out.mono ?_
    rintro e W1 ⟨rfl, rfl⟩
    clear H1
    go_wp2
    go_ret
    exact ⟨rfl, by rw [HE.out]; rfl⟩
  cases h3 : inB n np fp
  · have HE : Hid (txE n nt np ft fp = 3) := by unfold txE; rw [Hid, if_neg hk, if_pos (.inr h3)]
    rw [h2] at H1
    rw [h3] at H2
    clear h2 h3 hk
    go_enter Try.func25, Try.ntmps25
    go_wp2_with fail
    refine H1.out.mono ?_
    rintro e W1 ⟨rfl, rfl⟩
    clear H1
    go_wp2_with fail
    refine H2.out.mono ?_
    rintro e W1 ⟨rfl, rfl⟩
    clear H2
    go_wp2
    go_ret
    exact ⟨rfl, by rw [HE.out]; rfl⟩
  have hn2 : ¬ (inB n nt ft = false ∨ inB n np fp = false) := by rw [h2, h3]; simp
  rw [h2] at H1
  rw [h3] at H2
  clear h2 h3
  by_cases h3 : 65536 < nt
  · have HE : Hid (txE n nt np ft fp = 5) := by unfold txE; rw [Hid, if_neg hk, if_neg hn2, if_pos h3]
    have h4 : (65536 : Int) < (nt : Int) := by omega
    clear hk hn2 h3
    go_enter Try.func25, Try.ntmps25
    go_wp2_with fail
    refine H1.out.mono ?_
    rintro e W1 ⟨rfl, rfl⟩
    clear H1
    go_wp2_with fail
    refine H2.out.mono ?_
    rintro e W1 ⟨rfl, rfl⟩
    clear H2
    go_wp2
    go_ret
    exact ⟨rfl, by rw [HE.out]; rfl⟩
  have h4 : ¬ (65536 : Int) < (nt : Int) := by omega
  by_cases h5 : np < nt
  · have HE : Hid (txE n nt np ft fp = 10) := by unfold txE; rw [Hid, if_neg hk, if_neg hn2, if_neg h3, if_pos h5]
    have h6 : (np : Int) < (nt : Int) := by omega
    clear hk hn2 h3 h5
    go_enter Try.func25, Try.ntmps25
    go_wp2_with fail
    refine H1.out.mono ?_
    rintro e W1 ⟨rfl, rfl⟩
    clear H1
    go_wp2_with fail
    refine H2.out.mono ?_
    rintro e W1 ⟨rfl, rfl⟩
    clear H2
    go_wp2
    go_ret
    exact ⟨rfl, by rw [HE.out]; rfl⟩
  have HE : Hid (txE n nt np ft fp = 0) := by unfold txE; rw [Hid, if_neg hk, if_neg hn2, if_neg h3, if_neg h5]
  have h6 : ¬ (np : Int) < (nt : Int) := by omega
  clear hk hn2 h3 h5
  go_enter Try.func25, Try.ntmps25
  go_wp2_with fail
  refine H1.out.mono ?_
  rintro e W1 ⟨rfl, rfl⟩
  clear H1
  go_wp2_with fail
  refine H2.out.mono ?_
  rintro e W1 ⟨rfl, rfl⟩
  clear H2
  go_wp2
  go_ret
  exact ⟨rfl, by rw [HE.out]; rfl⟩
end Go.Proofs.Ytlfghnngbljlhaa
