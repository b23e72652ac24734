/-
  Contracts of the document's On, inside, Two, Weights, Join and Secret (chapter 14).
-/
import Derived.Test.YtccdbghhjcdcfaaPdJ
namespace Go.Proofs.Ytccdbghhjcdcfaa
open Go.RowKit PK Pd

/-- One sign further on. -/
theorem mod_next {N x : Nat} (h : 0 < N) : (x + 1) % N = if x % N + 1 = N then 0 else x % N + 1 := by
  have h1 := Nat.mod_lt x h
  rw [← mod_add_one]
  by_cases e : x % N + 1 = N
  · rw [if_pos e, e, Nat.mod_self]
  · rw [if_neg e, Nat.mod_eq_of_lt (by omega)]
set_option maxRecDepth 100000 in
set_option maxHeartbeats 4000000 in
theorem ron_any (N x b : Nat) (h1 : 2 ≤ N) (h2 : N ≤ 64) (hx : x < N) (hb : b ≤ 64) (w : World) : Calls Try.prog 25 #[.int .i64 (N : Nat), .int .i64 (x : Nat), .int .i64 (b : Nat)] w fun e w' => w = w' ∧ e = .returned (.int .i64 (((x + b) % N : Nat) : Int)) := by
  have HX : Hid ((x + 0) % N = x) := by rw [Hid, Nat.add_zero]; exact Nat.mod_eq_of_lt hx
  have HS := (show Hid (∀ k, (x + (k + 1)) % N = if (x + k) % N + 1 = N then 0 else (x + k) % N + 1) from fun k => mod_next (x := x + k) (by omega))
  have HL := (show Hid (∀ k, (x + k) % N < N) from fun k => Nat.mod_lt _ (by omega))
  obtain ⟨R, hR⟩ : ∃ R, R = (x + b) % N := ⟨_, rfl⟩
  rw [← hR]
  have HR := (show Hid _ from hR)
  clear hR
  go_enter Try.func25, Try.ntmps25
  go_wp2_with fail
  go_loopw [1, 7] (fun y i W => ∃ k : Nat, k ≤ b ∧ i = .int .i64 (k : Nat) ∧ y = .int .i64 (((x + k) % N : Nat) : Int) ∧ w = W) (fun _ i _ => ((b : Int) - intOf i).toNat)
  case atStart => exact ⟨0, by omega, rfl, by rw [HX.out], rfl⟩
  case round =>
    obtain ⟨k, hk, rfl, rfl, rfl⟩ := hrel
    have hl := HL.out k
    by_cases hlt : k < b
    · have HLT : Hid (k < b) := hlt
      have hlt2 : (k : Int) < (b : Int) := by omega
      have hs := HS.out k
      obtain ⟨z, hz⟩ : ∃ z, z = (x + (k + 1)) % N := ⟨_, rfl⟩
      have HZ := (show Hid _ from hz)
      rw [← hz] at hs
      clear hz hlt
      generalize (x + k) % N = y at *
      by_cases e : y + 1 = N
      · rw [if_pos e] at hs
        have e2 : ((y : Int) + 1 == (N : Int)) = true := by simp; omega
        have HZ0 : Hid ((x + (k + 1)) % N = 0) := by rw [Hid, ← HZ.out]; exact hs
        clear e hs
        go_wp2
        go_roundw
        case rel => exact ⟨k + 1, HLT.out, by go_num, by rw [HZ0.out]; rfl, trivial⟩
        case measure => have := HLT.out; simp [intOf]; omega
      · rw [if_neg e] at hs
        have e2 : ((y : Int) + 1 == (N : Int)) = false := by simp; omega
        have HZ0 : Hid ((x + (k + 1)) % N = y + 1) := by rw [Hid, ← HZ.out]; exact hs
        clear e hs
        go_wp2
        go_roundw
        case rel => exact ⟨k + 1, HLT.out, by go_num, by rw [HZ0.out]; go_num, trivial⟩
        case measure => have := HLT.out; simp [intOf]; omega
    · obtain rfl : k = b := by omega
      have hnn : ¬ ((k : Nat) : Int) < ((k : Nat) : Int) := by omega
      obtain ⟨y, hy⟩ : ∃ y, y = (x + k) % N := ⟨_, rfl⟩
      have HY := (show Hid _ from hy)
      rw [← hy] at hl ⊢
      clear hlt hy
      go_wp2
      go_ret
      exact ⟨rfl, by rw [HR.out.trans HY.out.symm]; rfl⟩
set_option maxRecDepth 100000 in
set_option maxHeartbeats 4000000 in
theorem rin_any (n : Int) (v : Value) (m : Nat) (f : Nat → Int) (w : World) (hv : NumsAt w v m f) : Calls Try.prog 30 #[.int .i64 n, v] w fun e w' => w = w' ∧ e = .returned (.bool (inB n m f)) := by
  obtain ⟨a, c, rfl, hm, hc⟩ := hv
  have HC := (show Hid _ from hc)
  unfold maxLen at hm
  clear hc
  obtain ⟨B, hB⟩ : ∃ B, B = inB n m f := ⟨_, rfl⟩
  rw [← hB]
  have HB := (show Hid _ from hB)
  clear hB
  go_enter Try.func30, Try.ntmps30
  go_wp2_with fail
  go_loopw [9] (fun i W => ∃ k : Nat, k ≤ m ∧ i = .int .i64 (k : Nat) ∧ (∀ r, r < k → 0 ≤ f r ∧ f r < n) ∧ w = W) (fun i _ => ((m : Int) - intOf i).toNat)
  case atStart => exact ⟨0, by omega, rfl, fun r hr => by omega, rfl⟩
  case round =>
    obtain ⟨k, hk, rfl, hin, rfl⟩ := hrel
    have HIN := (show Hid _ from hin)
    clear hin
    by_cases hlt : k < m
    · have HLT : Hid (k < m) := hlt
      have hlt2 : (k : Int) < (m : Int) := by omega
      obtain ⟨b, o, rfl, h3⟩ := HC.out k hlt
      clear hlt
      by_cases hz : 0 ≤ f k ∧ f k < n
      · obtain ⟨hz1, hz2⟩ := hz
        have HNX : Hid (∀ r, r < k + 1 → 0 ≤ f r ∧ f r < n) := fun r hr => by
          by_cases e : r = k
          · rw [e]; exact ⟨hz1, hz2⟩
          · exact HIN.out r (by omega)
        have hz3 : ¬ f k < 0 := by omega
        have hz4 : ¬ n ≤ f k := by omega
        generalize f k = z at *
        go_wp2
        go_roundw
        case rel => exact ⟨k + 1, HLT.out, by go_num, HNX.out, trivial⟩
        case measure => have := HLT.out; simp [intOf]; omega
      · have HF : Hid (B = false) := by rw [Hid, HB.out]; exact inB_false HLT.out hz
        by_cases hz1 : f k < 0
        · generalize f k = z at *
          clear hz
          go_wp2
          go_ret
          exact ⟨rfl, by rw [HF.out]; rfl⟩
        · have hz2 : n ≤ f k := by omega
          generalize f k = z at *
          clear hz
          go_wp2
          go_ret
          exact ⟨rfl, by rw [HF.out]; rfl⟩
    · obtain rfl : k = m := by omega
      have hnn : ¬ ((k : Nat) : Int) < ((k : Nat) : Int) := by omega
      have HF : Hid (B = true) := by rw [Hid, HB.out]; exact (inB_iff _ _ _).2 HIN.out
      clear hlt
      go_wp2
      go_ret
      exact ⟨rfl, by rw [HF.out]; rfl⟩
set_option maxRecDepth 100000 in
set_option maxHeartbeats 4000000 in
theorem rtwo_any (n : Int) (vt vp : Value) (nt np : Nat) (ft fp : Nat → Int) (w : World) (ht : NumsAt w vt nt ft) (hp : NumsAt w vp np fp) : Calls Try.prog 24 #[.int .i64 n, vt, vp] w fun e w' => w = w' ∧ e = .returned (.int .i64 (txE n nt np ft fp)) := by
  have H1 := (show Hid (Calls Try.prog 30 #[.int .i64 n, vt] w fun e w' => w = w' ∧ e = .returned (.bool (inB n nt ft))) from rin_any n vt nt ft w ht)
  have H2 := (show Hid (Calls Try.prog 30 #[.int .i64 n, vp] w fun e w' => w = w' ∧ e = .returned (.bool (inB n np fp))) from rin_any n vp np fp w hp)
  obtain ⟨at', ct, rfl, hmt, _⟩ := ht
  obtain ⟨ap, cp, rfl, hmp, _⟩ := hp
  unfold maxLen at hmt hmp
  by_cases h1 : n < 2
  · have HE : Hid (txE n nt np ft fp = 1) := by unfold txE; rw [Hid, if_pos (.inl h1)]
    clear H1 H2
    go_enter Try.func24, Try.ntmps24
    go_wp2
    go_ret
    exact ⟨rfl, by rw [HE.out]; rfl⟩
  by_cases h1b : 64 < n
  · have HE : Hid (txE n nt np ft fp = 1) := by unfold txE; rw [Hid, if_pos (.inr h1b)]
    clear H1 H2
    go_enter Try.func24, Try.ntmps24
    go_wp2
    go_ret
    exact ⟨rfl, by rw [HE.out]; rfl⟩
  have hk : ¬ (n < 2 ∨ 64 < n) := by omega
  cases h2 : inB n nt ft
  · have HE : Hid (txE n nt np ft fp = 3) := by unfold txE; rw [Hid, if_neg hk, if_pos (.inl h2)]
    rw [h2] at H1
    clear H2 h2 hk
    go_enter Try.func24, Try.ntmps24
    go_wp2_with fail
    refine H1.out.mono ?_
    rintro e W1 ⟨rfl, rfl⟩
    clear H1
    go_wp2
    go_ret
    exact ⟨rfl, by rw [HE.out]; rfl⟩
  cases h3 : inB n np fp
  · have HE : Hid (txE n nt np ft fp = 3) := by unfold txE; rw [Hid, if_neg hk, if_pos (.inr h3)]
    rw [h2] at H1
    rw [h3] at H2
    clear h2 h3 hk
    go_enter Try.func24, Try.ntmps24
    go_wp2_with fail
    refine H1.out.mono ?_
    rintro e W1 ⟨rfl, rfl⟩
    clear H1
    go_wp2_with fail
    refine H2.out.mono ?_
    rintro e W1 ⟨rfl, rfl⟩
    clear H2
    go_wp2
    go_ret
    exact ⟨rfl, by rw [HE.out]; rfl⟩
  have hn2 : ¬ (inB n nt ft = false ∨ inB n np fp = false) := by rw [h2, h3]; simp
  rw [h2] at H1
  rw [h3] at H2
  clear h2 h3
  by_cases h3 : 65536 < nt
  · have HE : Hid (txE n nt np ft fp = 5) := by unfold txE; rw [Hid, if_neg hk, if_neg hn2, if_pos h3]
    have h4 : (65536 : Int) < (nt : Int) := by omega
    clear hk hn2 h3
    go_enter Try.func24, Try.ntmps24
    go_wp2_with fail
    refine H1.out.mono ?_
    rintro e W1 ⟨rfl, rfl⟩
    clear H1
    go_wp2_with fail
    refine H2.out.mono ?_
    rintro e W1 ⟨rfl, rfl⟩
    clear H2
    go_wp2
    go_ret
    exact ⟨rfl, by rw [HE.out]; rfl⟩
  have h4 : ¬ (65536 : Int) < (nt : Int) := by omega
  by_cases h5 : np < nt
  · have HE : Hid (txE n nt np ft fp = 10) := by unfold txE; rw [Hid, if_neg hk, if_neg hn2, if_neg h3, if_pos h5]
    have h6 : (np : Int) < (nt : Int) := by omega
    clear hk hn2 h3 h5
    go_enter Try.func24, Try.ntmps24
    go_wp2_with fail
    refine H1.out.mono ?_
    rintro e W1 ⟨rfl, rfl⟩
    clear H1
    go_wp2_with fail
    refine H2.out.mono ?_
    rintro e W1 ⟨rfl, rfl⟩
    clear H2
    go_wp2
    go_ret
    exact ⟨rfl, by rw [HE.out]; rfl⟩
  have HE : Hid (txE n nt np ft fp = 0) := by unfold txE; rw [Hid, if_neg hk, if_neg hn2, if_neg h3, if_neg h5]
  have h6 : ¬ (np : Int) < (nt : Int) := by omega
  clear hk hn2 h3 h5
  go_enter Try.func24, Try.ntmps24
  go_wp2_with fail
  refine H1.out.mono ?_
  rintro e W1 ⟨rfl, rfl⟩
  clear H1
  go_wp2_with fail
  refine H2.out.mono ?_
  rintro e W1 ⟨rfl, rfl⟩
  clear H2
  go_wp2
  go_ret
  exact ⟨rfl, by rw [HE.out]; rfl⟩
set_option maxRecDepth 100000 in
set_option maxHeartbeats 4000000 in
theorem rwt_any (n s : Int) (v : Value) (m : Nat) (f : Nat → Int) (w : World) (hv : NumsAt w v m f) : Calls Try.prog 29 #[.int .i64 n, v, .int .i64 s] w fun e w' => w = w' ∧ e = .returned (.int .i64 (wtE n s m f)) := by
  obtain ⟨a, c, rfl, hm, hc⟩ := hv
  have HC := (show Hid _ from hc)
  unfold maxLen at hm
  clear hc
  by_cases h1 : n < 2
  · have HE : Hid (wtE n s m f = 1) := by unfold wtE; rw [Hid, if_pos (.inl h1)]
    go_enter Try.func29, Try.ntmps29
    go_wp2
    go_ret
    exact ⟨rfl, by rw [HE.out]; rfl⟩
  by_cases h1b : 64 < n
  · have HE : Hid (wtE n s m f = 1) := by unfold wtE; rw [Hid, if_pos (.inr h1b)]
    go_enter Try.func29, Try.ntmps29
    go_wp2
    go_ret
    exact ⟨rfl, by rw [HE.out]; rfl⟩
  by_cases h2 : s < 0
  · have HE : Hid (wtE n s m f = 3) := by unfold wtE; rw [Hid, if_neg (by omega), if_pos (.inl h2)]
    go_enter Try.func29, Try.ntmps29
    go_wp2
    go_ret
    exact ⟨rfl, by rw [HE.out]; rfl⟩
  by_cases h2b : n ≤ s
  · have HE : Hid (wtE n s m f = 3) := by unfold wtE; rw [Hid, if_neg (by omega), if_pos (.inr h2b)]
    go_enter Try.func29, Try.ntmps29
    go_wp2
    go_ret
    exact ⟨rfl, by rw [HE.out]; rfl⟩
  by_cases h3 : (m : Int) = n
  case neg =>
    have h4 : ((m : Int) != n) = true := by simp [h3]
    have HE : Hid (wtE n s m f = 8) := by unfold wtE; rw [Hid, if_neg (by omega), if_neg (by omega), if_pos h3]
    clear h3
    go_enter Try.func29, Try.ntmps29
    go_wp2
    go_ret
    exact ⟨rfl, by rw [HE.out]; rfl⟩
  have h4 : ((m : Int) != n) = false := by simp [h3]
  have HF : Hid (wtE n s m f = if wB m f = false then 3 else 0) := by unfold wtE; rw [Hid, if_neg (by omega), if_neg (by omega), if_neg (by simp [h3])]
  obtain ⟨E, hE⟩ : ∃ E, E = wtE n s m f := ⟨_, rfl⟩
  rw [← hE] at HF ⊢
  clear h3 hE
  go_enter Try.func29, Try.ntmps29
  go_wp2_with fail
  go_loopw [28] (fun i W => ∃ k : Nat, k ≤ m ∧ i = .int .i64 (k : Nat) ∧ (∀ r, r < k → 0 ≤ f r ∧ f r ≤ 65536) ∧ w = W) (fun i _ => ((m : Int) - intOf i).toNat)
  case atStart => exact ⟨0, by omega, rfl, fun r hr => by omega, rfl⟩
  case round =>
    obtain ⟨k, hk, rfl, hin, rfl⟩ := hrel
    have HIN := (show Hid _ from hin)
    clear hin
    by_cases hlt : k < m
    · have HLT : Hid (k < m) := hlt
      have hlt2 : (k : Int) < (m : Int) := by omega
      obtain ⟨b, o, rfl, h3⟩ := HC.out k hlt
      clear hlt
      by_cases hz : 0 ≤ f k ∧ f k ≤ 65536
      · obtain ⟨hz1, hz2⟩ := hz
        have HNX : Hid (∀ r, r < k + 1 → 0 ≤ f r ∧ f r ≤ 65536) := fun r hr => by
          by_cases e : r = k
          · rw [e]; exact ⟨hz1, hz2⟩
          · exact HIN.out r (by omega)
        have hz3 : ¬ f k < 0 := by omega
        have hz4 : ¬ 65536 < f k := by omega
        generalize f k = z at *
        go_wp2
        go_roundw
        case rel => exact ⟨k + 1, HLT.out, by go_num, HNX.out, trivial⟩
        case measure => have := HLT.out; simp [intOf]; omega
      · have HG : Hid (E = 3) := by rw [Hid, HF.out, if_pos (wB_false HLT.out hz)]
        by_cases hz1 : f k < 0
        · generalize f k = z at *
          clear hz
          go_wp2
          go_ret
          exact ⟨rfl, by rw [HG.out]; rfl⟩
        · have hz2 : 65536 < f k := by omega
          generalize f k = z at *
          clear hz
          go_wp2
          go_ret
          exact ⟨rfl, by rw [HG.out]; rfl⟩
    · obtain rfl : k = m := by omega
      have hnn : ¬ ((k : Nat) : Int) < ((k : Nat) : Int) := by omega
      have HG : Hid (E = 0) := by rw [Hid, HF.out, if_neg (by rw [(wB_iff _ _).2 HIN.out]; simp)]
      clear hlt
      go_wp2
      go_ret
      exact ⟨rfl, by rw [HG.out]; rfl⟩
set_option maxRecDepth 100000 in
set_option maxHeartbeats 4000000 in
theorem rjo_any (n : Int) (v : Value) (m : Nat) (f : Nat → Int) (w : World) (hv : NumsAt w v m f) : Calls Try.prog 20 #[.int .i64 n, v] w fun e w' => w = w' ∧ e = .returned (.tuple #[.int .i64 (joN n m f), .int .i64 (joE n m f)]) := by
  have H1 := (show Hid (Calls Try.prog 30 #[.int .i64 n, v] w fun e w' => w = w' ∧ e = .returned (.bool (inB n m f))) from rin_any n v m f w hv)
  have HJ := (show Hid (joN n m f = if joE n m f = 0 then ((sm n.toNat (fun i => (f i).toNat) m : Nat) : Int) else 0) from rfl)
  obtain ⟨a, c, rfl, hm, hc⟩ := hv
  have HC := (show Hid _ from hc)
  unfold maxLen at hm
  clear hc
  obtain ⟨J, hJ⟩ : ∃ J, J = joN n m f := ⟨_, rfl⟩
  rw [← hJ] at HJ ⊢
  clear hJ
  by_cases h1 : n < 2
  · have HE : Hid (joE n m f = 1) := by unfold joE; rw [Hid, if_pos (.inl h1)]
    have HJ0 : Hid (J = 0) := by rw [Hid, HJ.out, HE.out, if_neg (by decide)]
    clear H1
    go_enter Try.func20, Try.ntmps20
    go_wp2
    go_ret2
    exact ⟨rfl, by rw [HE.out, HJ0.out]; rfl⟩
  by_cases h1b : 64 < n
  · have HE : Hid (joE n m f = 1) := by unfold joE; rw [Hid, if_pos (.inr h1b)]
    have HJ0 : Hid (J = 0) := by rw [Hid, HJ.out, HE.out, if_neg (by decide)]
    clear H1
    go_enter Try.func20, Try.ntmps20
    go_wp2
    go_ret2
    exact ⟨rfl, by rw [HE.out, HJ0.out]; rfl⟩
  have hk : ¬ (n < 2 ∨ 64 < n) := by omega
  cases h2 : inB n m f
  · have HE : Hid (joE n m f = 3) := by unfold joE; rw [Hid, if_neg hk, if_pos h2]
    have HJ0 : Hid (J = 0) := by rw [Hid, HJ.out, HE.out, if_neg (by decide)]
    rw [h2] at H1
    clear h2 hk
    go_enter Try.func20, Try.ntmps20
    go_wp2_with fail
    refine H1.out.mono ?_
    rintro e W1 ⟨rfl, rfl⟩
    clear H1
    go_wp2
    go_ret2
    exact ⟨rfl, by rw [HE.out, HJ0.out]; rfl⟩
  have hn2 : ¬ (inB n m f = false) := by rw [h2]; simp
  rw [h2] at H1
  clear h2
  by_cases h3 : m < 1
  · have HE : Hid (joE n m f = 5) := by unfold joE; rw [Hid, if_neg hk, if_neg hn2, if_pos (.inl h3)]
    have HJ0 : Hid (J = 0) := by rw [Hid, HJ.out, HE.out, if_neg (by decide)]
    have h4 : (m : Int) < 1 := by omega
    clear hk hn2 h3
    go_enter Try.func20, Try.ntmps20
    go_wp2_with fail
    refine H1.out.mono ?_
    rintro e W1 ⟨rfl, rfl⟩
    clear H1
    go_wp2
    go_ret2
    exact ⟨rfl, by rw [HE.out, HJ0.out]; rfl⟩
  have h4 : ¬ (m : Int) < 1 := by omega
  by_cases h5 : 16 < m
  · have HE : Hid (joE n m f = 5) := by unfold joE; rw [Hid, if_neg hk, if_neg hn2, if_pos (.inr h5)]
    have HJ0 : Hid (J = 0) := by rw [Hid, HJ.out, HE.out, if_neg (by decide)]
    have h6 : (16 : Int) < (m : Int) := by omega
    clear hk hn2 h3 h5
    go_enter Try.func20, Try.ntmps20
    go_wp2_with fail
    refine H1.out.mono ?_
    rintro e W1 ⟨rfl, rfl⟩
    clear H1
    go_wp2
    go_ret2
    exact ⟨rfl, by rw [HE.out, HJ0.out]; rfl⟩
  have h6 : ¬ (16 : Int) < (m : Int) := by omega
  have HE : Hid (joE n m f = 0) := by unfold joE; rw [Hid, if_neg hk, if_neg hn2, if_neg (by omega)]
  obtain ⟨k1, k2, k3, k4, k5⟩ := joE_zero HE.out
  clear hk hn2 h3 h5
  obtain ⟨N, rfl⟩ : ∃ N : Nat, n = (N : Int) := ⟨n.toNat, by omega⟩
  have hN1 : 2 ≤ N := by omega
  have hN2 : N ≤ 64 := by omega
  have HF : Hid (∀ i, i < m → f i = (((f i).toNat : Nat) : Int) ∧ (f i).toNat < N) := fun i hi => by have := k3 i hi; omega
  have HJ0 : Hid (J = ((sm N (fun i => (f i).toNat) m : Nat) : Int)) := by rw [Hid, HJ.out, HE.out, if_pos rfl, Int.toNat_natCast]
  have HS := (show Hid (∀ k, sm N (fun i => (f i).toNat) (k + 1) = (sm N (fun i => (f i).toNat) k + (f k).toNat) % N) from fun _ => rfl)
  have HL := (show Hid (∀ k, sm N (fun i => (f i).toNat) k < N) from fun k => sm_lt (by omega) _ k)
  have HZ : Hid (sm N (fun i => (f i).toNat) 0 = 0) := rfl
  generalize sm N (fun i => (f i).toNat) = S at *
  clear k1 k2 k3 k4 k5 HJ
  go_enter Try.func20, Try.ntmps20
  go_wp2_with fail
  refine H1.out.mono ?_
  rintro e W1 ⟨rfl, rfl⟩
  clear H1
  go_wp2_with fail
  go_loopw [6, 29] (fun y i W => ∃ k : Nat, k ≤ m ∧ i = .int .i64 (k : Nat) ∧ y = .int .i64 ((S k : Nat) : Int) ∧ w = W) (fun _ i _ => ((m : Int) - intOf i).toNat)
  case atStart => exact ⟨0, by omega, rfl, by rw [HZ.out]; rfl, rfl⟩
  case round =>
    obtain ⟨k, hk, rfl, rfl, rfl⟩ := hrel
    have hl := HL.out k
    by_cases hlt : k < m
    · have HLT : Hid (k < m) := hlt
      have hlt2 : (k : Int) < (m : Int) := by omega
      obtain ⟨b, o, rfl, h3⟩ := HC.out k hlt
      obtain ⟨hf1, hf2⟩ := HF.out k hlt
      have HSK := (show Hid _ from HS.out k)
      obtain ⟨x, hx⟩ : ∃ x, x = (f k).toNat := ⟨_, rfl⟩
      rw [← hx] at hf1 hf2 HSK
      rw [hf1] at h3
      clear hlt hx hf1
      obtain ⟨y, hy⟩ : ∃ y, y = S k := ⟨_, rfl⟩
      rw [← hy] at hl HSK ⊢
      clear hy
      go_wp2_with fail
      refine (ron_any N y x hN1 hN2 hl (by omega) w).mono ?_
      rintro e W2 ⟨rfl, rfl⟩
      rw [← HSK.out]
      go_wp2
      go_roundw
      case rel => exact ⟨k + 1, HLT.out, by go_num, rfl, trivial⟩
      case measure => have := HLT.out; simp [intOf]; omega
    · obtain rfl : k = m := by omega
      have hnn : ¬ ((k : Nat) : Int) < ((k : Nat) : Int) := by omega
      obtain ⟨y, hy⟩ : ∃ y, y = S k := ⟨_, rfl⟩
      rw [← hy] at hl HJ0 ⊢
      clear hlt hy
      go_wp2
      go_ret2
      exact ⟨rfl, by rw [HE.out, HJ0.out]; rfl⟩
set_option maxRecDepth 100000 in
set_option maxHeartbeats 4000000 in
theorem rse_any (n : Int) (v : Value) (m : Nat) (f : Nat → Int) (w : World) (hv : NumsAt w v m f) : Calls Try.prog 16 #[.int .i64 n, v] w fun e w' => e = .returned (.tuple #[.bool (seB n m f), .int .i64 (wtE n 0 m f)]) ∧ Below w.heap.size w w' := by
  have HW := (show Hid (Calls Try.prog 29 #[.int .i64 n, v, .int .i64 0] w fun e w' => w = w' ∧ e = .returned (.int .i64 (wtE n 0 m f))) from rwt_any n 0 v m f w hv)
  obtain ⟨a, c, rfl, hm, hc⟩ := hv
  have HC := (show Hid _ from hc)
  unfold maxLen at hm
  clear hc
  have HS := (show Hid (seB n m f = if wtE n 0 m f = 0 then evB m f else false) from rfl)
  obtain ⟨B, hB⟩ : ∃ B, B = seB n m f := ⟨_, rfl⟩
  rw [← hB] at HS ⊢
  clear hB
  obtain ⟨E, hE⟩ : ∃ E, E = wtE n 0 m f := ⟨_, rfl⟩
  rw [← hE] at HW HS ⊢
  have HE := (show Hid _ from hE)
  clear hE
  by_cases hS : E = 0
  case neg =>
    have hE1 : (E != 0) = true := by simp [hS]
    have HR : Hid (B = false) := by rw [Hid, HS.out, if_neg hS]
    clear hS HC HE HS
    go_enter Try.func16, Try.ntmps16
    go_wp2_with fail
    refine HW.out.mono ?_
    rintro e W1 ⟨rfl, rfl⟩
    clear HW
    go_wp2
    go_ret2
    exact ⟨by rw [HR.out]; rfl, Below.refl _ _⟩
  subst hS
  obtain ⟨h1, h2, h3, h4, h5, _⟩ := wtE_zero HE.out.symm
  have HB : Hid (B = evB m f) := by rw [Hid, HS.out, if_pos rfl]
  clear HE HS
  obtain ⟨b0, o0, hab, c0⟩ := HC.out 0 (by omega)
  subst hab
  rw [Nat.add_zero] at c0
  have hm0 : 0 < m := by omega
  clear h1 h2 h3 h4 h5
  go_enter Try.func16, Try.ntmps16
  go_wp2_with fail
  refine HW.out.mono ?_
  rintro e W1 ⟨rfl, rfl⟩
  clear HW
  go_wp2_with fail
  go_loopw [17] (fun y W => ∃ i : Nat, i ≤ m ∧ y = .int .i64 (i : Nat) ∧ (∀ j, j < i → f j = f 0) ∧ w = W) (fun y _ => ((m : Int) - intOf y).toNat)
  case atStart => exact ⟨0, by omega, rfl, fun j hj => by omega, rfl⟩
  case round =>
    obtain ⟨i, hi, rfl, hin, rfl⟩ := hrel
    have HIN := (show Hid _ from hin)
    clear hin
    by_cases hlt : i < m
    · have HLT : Hid (i < m) := hlt
      have hlt2 : (i : Int) < (m : Int) := by omega
      obtain ⟨b1, o1, e1, c1⟩ := HC.out i hlt
      cases e1
      clear hlt
      by_cases hz : f i = f 0
      · have HNX : Hid (∀ j, j < i + 1 → f j = f 0) := fun j hj => by
          by_cases e : j = i
          · rw [e]; exact hz
          · exact HIN.out j (by omega)
        rw [hz] at c1
        have hz1 : (f 0 != f 0) = false := by simp
        clear hz
        generalize f 0 = z at *
        go_wp2
        go_roundw
        case rel => exact ⟨i + 1, HLT.out, by go_num, HNX.out, trivial⟩
        case measure => have := HLT.out; simp [intOf]; omega
      · have HF : Hid (B = false) := by rw [Hid, HB.out]; exact evB_false HLT.out hz
        have hz1 : (f i != f 0) = true := by simp [hz]
        clear hz
        generalize f i = z at *
        generalize f 0 = z0 at *
        go_wp2
        go_ret2
        exact ⟨by rw [HF.out]; rfl, Below.refl _ _⟩
    · obtain rfl : i = m := by omega
      have hnn : ¬ ((i : Nat) : Int) < ((i : Nat) : Int) := by omega
      have HF : Hid (B = true) := by rw [Hid, HB.out]; exact (evB_iff _ _).2 HIN.out
      clear hlt
      go_wp2
      go_ret2
      exact ⟨by rw [HF.out]; rfl, Below.refl _ _⟩
end Go.Proofs.Ytccdbghhjcdcfaa
