/-
  Contracts of pad's small functions (chapter 14).
-/
import Derived.Test.YtlfghnngbljlhaaPdM
namespace Go.Proofs.Ytlfghnngbljlhaa
open Go.RowKit PK Pd

/-- A slice of n numbers, with room for them. -/
def Ans (w : World) (v : Value) (n : Nat) (f : Nat → Int) : Prop := (∃ a cap, v = .slice a n cap ∧ n ≤ cap ∧ (a = none → cap = 0)) ∧ NumsAt w v n f
theorem Ans.nil (w : World) (f : Nat → Int) : Ans w (.slice none 0 0) 0 f := ⟨⟨none, 0, rfl, Nat.le_refl _, fun _ => rfl⟩, none, 0, rfl, by decide, fun c hc => by omega⟩
theorem Ans.below {w w' : World} {v : Value} {n : Nat} {f : Nat → Int} (h : Ans w v n f) (hb : Below w.heap.size w w') : Ans w' v n f := ⟨h.1, h.2.below hb⟩
theorem OwnsL.ans {w : World} {B : Nat} {v : Value} {l : List Nat} (h : OwnsL w B v l) : Ans w v l.length (fun c => ((l.getD c 0 : Nat) : Int)) := by
  refine ⟨?_, h.nums⟩
  rcases h.2 with ⟨rfl, h0⟩ | ⟨g, cap, cur, rfl, _, _, hnc, _⟩
  · exact ⟨none, 0, by rw [h0], by omega, fun _ => rfl⟩
  · exact ⟨_, cap, rfl, hnc, fun h => by cases h⟩
/-- How many there are: none behind an error. -/
def rl (E : Int) (n : Nat) : Nat := if E = 0 then n else 0
set_option maxRecDepth 100000 in
set_option maxHeartbeats 1000000 in
theorem popp_any (N s : Nat) (h1 : 2 ≤ N) (h2 : N ≤ 64) (h3 : s < N) (w : World) : Calls Try.prog 29 #[.int .i64 (N : Nat), .int .i64 (s : Nat)] w fun e w' => w = w' ∧ e = .returned (.int .i64 (((N - s) % N : Nat) : Int)) := by
  have hx : ((N : Int) - (s : Int)).tmod (N : Int) = (((N - s) % N : Nat) : Int) := by
    rw [Int.tmod_eq_emod_of_nonneg (by omega), Int.natCast_emod]
    congr 1; omega
  have hb : (N - s) % N < N := Nat.mod_lt _ (by omega)
  have hn0 : ¬ (N : Int) = 0 := by omega
  obtain ⟨q, hq⟩ : ∃ q, q = (N - s) % N := ⟨_, rfl⟩
  rw [← hq] at hx hb ⊢
  clear hq
  go_enter Try.func29, Try.ntmps29
  go_wp2
  go_ret
  exact ⟨rfl, rfl⟩
set_option maxRecDepth 100000 in
set_option maxHeartbeats 1000000 in
theorem padd_any (N : Nat) (h1 : 2 ≤ N) (h2 : N ≤ 64) (v : Value) (m : Nat) (t : Nat → Nat) (hf : ∀ i, i < m → t i < N) (w : World) (hv : NumsAt w v m fun i => (t i : Nat)) : Calls Try.prog 28 #[.int .i64 (N : Nat), v] w fun e w' => w = w' ∧ e = .returned (.int .i64 ((sm N t m : Nat) : Int)) := by
  obtain ⟨a, c, rfl, hm, hc⟩ := hv
  have HC := (show Hid _ from hc)
  have HF := (show Hid _ from hf)
  have HS := (show Hid (∀ k, sm N t (k + 1) = (sm N t k + t k) % N) from fun _ => rfl)
  have HL := (show Hid (∀ k, sm N t k < N) from fun k => sm_lt (by omega) t k)
  have hn0 : ¬ (N : Int) = 0 := by omega
  unfold maxLen at hm
  clear hc hf
  go_enter Try.func28, Try.ntmps28
  go_wp2_with fail
  go_loopw [5, 10] (fun x i W => ∃ k : Nat, k ≤ m ∧ i = .int .i64 (k : Nat) ∧ x = .int .i64 ((sm N t k : Nat) : Int) ∧ w = W) (fun _ i _ => ((m : Int) - intOf i).toNat)
  case atStart => exact ⟨0, by omega, rfl, rfl, rfl⟩
  case round =>
    obtain ⟨k, hk, rfl, rfl, rfl⟩ := hrel
    by_cases hlt : k < m
    · have HLT : Hid (k < m) := hlt
      have hlt2 : (k : Int) < (m : Int) := by omega
      obtain ⟨b, o, rfl, h3⟩ := HC.out k hlt
      have h4 := HF.out k hlt
      have h5 := HL.out k
      have hx : ((sm N t k : Int) + (t k : Int)).tmod (N : Int) = ((sm N t (k + 1) : Nat) : Int) := by
        rw [Int.tmod_eq_emod_of_nonneg (by omega), HS.out k, Int.natCast_emod]
        congr 1
      obtain ⟨q, hq⟩ : ∃ q, q = sm N t (k + 1) := ⟨_, rfl⟩
      have h6 := HL.out (k + 1)
      rw [← hq] at hx h6
      have HQ := (show Hid _ from hq)
      obtain ⟨x, hx2⟩ : ∃ x, x = t k := ⟨_, rfl⟩
      have h3' : w.cell? ⟨b, o + k, none⟩ = some (.int .i64 (x : Nat)) := by rw [hx2]; exact h3
      rw [← hx2] at hx h4
      generalize sm N t k = y at *
      clear hlt hq hx2 h3
      go_wp2
      go_roundw
      case rel => exact ⟨k + 1, HLT.out, by go_num, by rw [HQ.out], trivial⟩
      case measure => have := HLT.out; simp [intOf]; omega
    · obtain rfl : k = m := by omega
      have hnn : ¬ ((k : Nat) : Int) < ((k : Nat) : Int) := by omega
      have h5 := HL.out k
      clear hlt HS HL
      obtain ⟨y, hy⟩ : ∃ y, y = sm N t k := ⟨_, rfl⟩
      have HY := (show Hid _ from hy)
      rw [← hy] at h5 ⊢
      clear hy
      go_wp2
      go_ret
      exact ⟨rfl, by rw [← HY.out]; rfl⟩
set_option maxRecDepth 100000 in
set_option maxHeartbeats 2000000 in
theorem psig_any (n : Int) (v : Value) (m : Nat) (L : Nat → Nat) (Z : Nat → Nat → Int) (w : World) (hv : MatAt w v m L Z) : Calls Try.prog 31 #[.int .i64 n, v] w fun e w' => w = w' ∧ e = .returned (.int .i64 (sgE n m L Z)) := by
  obtain ⟨a, c, R, rfl, hm, hc, hR⟩ := hv
  have HC := (show Hid _ from hc)
  have HR := (show Hid _ from hR)
  unfold maxLen at hm
  clear hc hR
  by_cases h1 : n < 2
  · have HE : Hid (sgE n m L Z = 1) := by unfold sgE; rw [Hid, if_pos (.inl h1)]
    go_enter Try.func31, Try.ntmps31
    go_wp2
    go_ret
    exact ⟨rfl, by rw [HE.out]; rfl⟩
  by_cases h2 : 64 < n
  · have HE : Hid (sgE n m L Z = 1) := by unfold sgE; rw [Hid, if_pos (.inr h2)]
    go_enter Try.func31, Try.ntmps31
    go_wp2
    go_ret
    exact ⟨rfl, by rw [HE.out]; rfl⟩
  have HE : Hid (sgE n m L Z = if (List.range m).all (fun r => inB n (L r) (Z r)) then 0 else 3) := by unfold sgE; rw [Hid, if_neg (by omega)]
  go_enter Try.func31, Try.ntmps31
  go_wp2_with fail
  go_loopw [17] (fun i W => ∃ k : Nat, k ≤ m ∧ i = .int .i64 (k : Nat) ∧ (∀ r, r < k → inB n (L r) (Z r) = true) ∧ w = W) (fun i _ => ((m : Int) - intOf i).toNat)
  case atStart => exact ⟨0, by omega, rfl, fun r hr => by omega, rfl⟩
  case round =>
    obtain ⟨k, hk, rfl, hin, rfl⟩ := hrel
    have HIN := (show Hid _ from hin)
    clear hin
    by_cases hlt : k < m
    · have HLT : Hid (k < m) := hlt
      have hlt2 : (k : Int) < (m : Int) := by omega
      obtain ⟨b, o, rfl, h3⟩ := HC.out k hlt
      obtain ⟨a2, c2, e2, hm2, hc2⟩ := HR.out k hlt
      rw [e2] at h3
      have HZ := (show Hid _ from hc2)
      obtain ⟨l, hl⟩ : ∃ l, l = L k := ⟨_, rfl⟩
      have HL := (show Hid _ from hl)
      rw [← hl] at HZ h3 hm2
      unfold maxLen at hm2
      clear hlt hc2 hl e2
      go_wp2_with fail
      go_loopw [23] (fun i W => ∃ j : Nat, j ≤ l ∧ i = .int .i64 (j : Nat) ∧ (∀ r, r < j → 0 ≤ Z k r ∧ Z k r < n) ∧ w = W) (fun i _ => ((l : Int) - intOf i).toNat)
      case atStart => exact ⟨0, by omega, rfl, fun r hr => by omega, rfl⟩
      case round =>
        obtain ⟨j, hj, rfl, hjn, rfl⟩ := hrel
        have HJN := (show Hid _ from hjn)
        clear hjn
        by_cases hlt : j < l
        · have HLJ : Hid (j < l) := hlt
          have hltj : (j : Int) < (l : Int) := by omega
          obtain ⟨b2, o2, rfl, h4⟩ := HZ.out j hlt
          clear hlt
          by_cases hz : 0 ≤ Z k j ∧ Z k j < n
          · obtain ⟨hz1, hz2⟩ := hz
            have HNX : Hid (∀ r, r < j + 1 → 0 ≤ Z k r ∧ Z k r < n) := fun r hr => by
              by_cases e : r = j
              · rw [e]; exact ⟨hz1, hz2⟩
              · exact HJN.out r (by omega)
            have hz3 : ¬ Z k j < 0 := by omega
            have hz4 : ¬ n ≤ Z k j := by omega
            generalize Z k j = z at *
            go_wp2
            go_roundw
            case rel => exact ⟨j + 1, HLJ.out, by go_num, HNX.out, trivial⟩
            case measure => have := HLJ.out; simp [intOf]; omega
          · have HF : Hid (sgE n m L Z = 3) := by
              rw [Hid, HE.out, if_neg]
              intro hq
              rw [List.all_eq_true] at hq
              have h5 := hq k (by simpa using HLT.out)
              rw [inB_false (by rw [← HL.out]; exact HLJ.out) hz] at h5
              cases h5
            by_cases hz1 : Z k j < 0
            · generalize Z k j = z at *
              clear hz
              go_wp2
              go_ret
              exact ⟨rfl, by rw [HF.out]; rfl⟩
            · have hz2 : n ≤ Z k j := by omega
              generalize Z k j = z at *
              clear hz
              go_wp2
              go_ret
              exact ⟨rfl, by rw [HF.out]; rfl⟩
        · obtain rfl : j = l := by omega
          have hnn : ¬ ((j : Nat) : Int) < ((j : Nat) : Int) := by omega
          have HNX : Hid (∀ r, r < k + 1 → inB n (L r) (Z r) = true) := fun r hr => by
            by_cases e : r = k
            · rw [e, ← HL.out]; exact (inB_iff _ _ _).2 HJN.out
            · exact HIN.out r (by omega)
          clear hlt
          go_wp2
          go_roundw
          case rel => exact ⟨k + 1, HLT.out, by go_num, HNX.out, trivial⟩
          case measure => have := HLT.out; simp [intOf]; omega
    · obtain rfl : k = m := by omega
      have hnn : ¬ ((k : Nat) : Int) < ((k : Nat) : Int) := by omega
      have HF : Hid (sgE n k L Z = 0) := by
        rw [Hid, HE.out, if_pos]
        rw [List.all_eq_true]
        intro r hr
        exact HIN.out r (by simpa using hr)
      clear hlt
      go_wp2
      go_ret
      exact ⟨rfl, by rw [HF.out]; rfl⟩
end Go.Proofs.Ytlfghnngbljlhaa
