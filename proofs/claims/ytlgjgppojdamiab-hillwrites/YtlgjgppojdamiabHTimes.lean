/-
  Contracts of hill.past, hill.reciprocal, hill.times, hill.made.
-/
import Derived.Test.YtlgjgppojdamiabHWrong
import Derived.Deep.RegionHeld3
import Derived.Deep.OwnRows
namespace Go.Proofs.Ytlgjgppojdamiab
open Go.RowKit PK

theorem past_any (i g : Nat) (hi : i ≤ 1000) (w : World) : Calls Try.prog 67 #[.int .i64 (i : Nat), .int .i64 (g : Nat)] w fun e w' => e = .returned (.int .i64 ((if i < g then i else i + 1 : Nat) : Int)) ∧ w = w' := by
  by_cases h : i < g
  · rw [if_pos h]
    go_enter Try.func67, Try.ntmps67
    go_wp2
    go_ret
    exact ⟨rfl, rfl⟩
  · rw [if_neg h]
    go_enter Try.func67, Try.ntmps67
    go_wp2
    go_ret
    exact ⟨ret_int (by omega), rfl⟩
/-- The sum of row times what it is multiplied by, as far as n. -/
def sumTo (f g : Nat → Int) : Nat → Int
  | 0 => 0
  | k + 1 => sumTo f g k + f k * g k
theorem prod_bound {a b : Int} (ha : 0 ≤ a ∧ a < 26) (hb : 0 ≤ b ∧ b < 26) : 0 ≤ a * b ∧ a * b ≤ 625 := by
  refine ⟨Int.mul_nonneg ha.1 hb.1, ?_⟩
  have h1 : a * b ≤ 25 * b := Int.mul_le_mul_of_nonneg_right (by omega) hb.1
  omega
theorem sumTo_bound (f g : Nat → Int) : ∀ n, (∀ k, k < n → (0 ≤ f k ∧ f k < 26) ∧ 0 ≤ g k ∧ g k < 26) → 0 ≤ sumTo f g n ∧ sumTo f g n ≤ 625 * n
  | 0, _ => by simp [sumTo]
  | n + 1, h => by
    have ih := sumTo_bound f g n fun k hk => h k (by omega)
    have h1 := prod_bound (h n (by omega)).1 (h n (by omega)).2
    show 0 ≤ sumTo f g n + f n * g n ∧ sumTo f g n + f n * g n ≤ 625 * ((n + 1 : Nat) : Int)
    omega
theorem sumTo_ext {f g f' g' : Nat → Int} : ∀ n, (∀ k, k < n → f k = f' k ∧ g k = g' k) → sumTo f g n = sumTo f' g' n
  | 0, _ => rfl
  | n + 1, h => by
    show sumTo f g n + f n * g n = sumTo f' g' n + f' n * g' n
    rw [sumTo_ext n fun k hk => h k (by omega), (h n (by omega)).1, (h n (by omega)).2]
set_option maxHeartbeats 1000000 in
theorem times_any (v : Value) (n : Nat) (hn : n ≤ 4) (f g : Nat → Int) (m : Nat) (cap : Array Value) (w : World) (hv : NumsAt w v n f) (hent : ∀ (args : Array Value) (W : World), (callFunc m args).run Try.prog W = .ok (.enter m args) W)
    (hb : ∀ k, k < n → (0 ≤ f k ∧ f k < 26) ∧ 0 ≤ g k ∧ g k < 26)
    (hp : ∀ k, k < n → ∀ W : World, Below w.heap.size w W → Calls Try.prog m (#[.int .i64 (k : Nat)] ++ cap) W fun e w' => e = .returned (.int .i64 (g k)) ∧ Below W.heap.size W w') :
    Calls Try.prog 50 #[v, .func (.func m) #[] cap] w fun e w' => e = .returned (.int .i64 (sumTo f g n % 26)) ∧ Below w.heap.size w w' := by
  have HB : Hid (∀ k, k < n → (0 ≤ f k ∧ f k < 26) ∧ 0 ≤ g k ∧ g k < 26) := hb
  have HP : Hid (∀ k, k < n → ∀ W : World, Below w.heap.size w W → Calls Try.prog m (#[.int .i64 (k : Nat)] ++ cap) W fun e w' => e = .returned (.int .i64 (g k)) ∧ Below W.heap.size W w') := hp
  clear hb hp
  have HV : Hid (NumsAt w v n f) := hv
  obtain ⟨a, cp, rfl, _⟩ := hv.len
  clear hv
  go_enter Try.func50, Try.ntmps50
  go_wp2
  go_loopw [10, 5] (fun i s W => ∃ k : Nat, k ≤ n ∧ i = .int .i64 k ∧ s = .int .i64 (sumTo f g k) ∧ Below w.heap.size w W) (fun i _ _ => ((n : Int) - intOf i).toNat)
  case atStart => exact ⟨0, by omega, rfl, rfl, Below.refl _ _⟩
  case round =>
    obtain ⟨k, hk, rfl, rfl, hb⟩ := hrel
    have HSB : Hid _ := sumTo_bound f g k fun j hj => HB.out j (by omega)
    by_cases hlt : k < n
    · obtain ⟨b, o, cp', e, _, hc⟩ := HV.out.form (by omega)
      cases e
      have hck := (hb.cell (p := ⟨b, o + k, none⟩) (cell_block (hc k hlt))).trans (hc k hlt)
      clear hc
      have HC : Hid (Calls Try.prog m (#[.int .i64 (k : Nat)] ++ cap) wr fun e w' => e = .returned (.int .i64 (g k)) ∧ Below wr.heap.size wr w') := HP.out k hlt wr hb
      have hsb := HSB.out
      have hfg := prod_bound (HB.out k hlt).1 (HB.out k hlt).2
      have HS : Hid (sumTo f g (k + 1) = sumTo f g k + f k * g k) := rfl
      generalize sumTo f g k = s at *
      have HS0 : Hid (sumTo f g (k + 1) = sumTo f g (k + 1)) := rfl
      obtain ⟨s', hs'⟩ : ∃ s', s' = sumTo f g (k + 1) := ⟨_, rfl⟩
      rw [← hs'] at HS
      replace HS0 : Hid (sumTo f g (k + 1) = s') := hs'.symm
      clear hs'
      generalize g k = y at *
      generalize f k = x at *
      obtain ⟨p, hp⟩ : ∃ p, p = x * y := ⟨_, rfl⟩
      rw [← hp] at hfg HS
      have hpw : IntKind.i64.wrap (x * y) = p := by rw [← hp, IntKind.wrap_i64]; omega
      clear hp
      go_wp2_with fail
      refine Calls.mono HC.out ?_
      rintro e w1 ⟨rfl, hb1⟩
      go_wp2
      go_roundw
      case rel => exact ⟨k + 1, by omega, by go_num, by rw [HS0.out, HS.out], hb.trans (hb1.mono hb.size)⟩
      case measure => simp [intOf]; omega
    · have hkn : k = n := by omega
      subst hkn
      have hsb := HSB.out
      go_wp2
      go_ret
      exact ⟨rfl, hb⟩
/-- What makes 1 of d, and 0; or 0 and ErrNone. -/
def recOf (d : Int) : Int × Int := match (List.range 26).find? fun (v : Nat) => (d * (v : Int)) % 26 == 1 with | some v => ((v : Int), 0) | none => (0, 6)
theorem find_first' (q : Nat → Bool) (k : Nat) : ∀ n, k < n → q k = true → (∀ j, j < k → q j = false) → (List.range n).find? q = some k := fun n hk h1 h2 => by
  induction n with
  | zero => omega
  | succ n ih =>
    rw [List.range_succ, List.find?_append]
    by_cases h : k < n
    · rw [ih h]; rfl
    · have : k = n := by omega
      subst this
      have : (List.range k).find? q = none := by
        rw [List.find?_eq_none]
        intro x hx
        simp at hx
        rw [h2 x hx]
        simp
      rw [this]
      simp [h1]
set_option maxHeartbeats 1000000 in
theorem recip_any (d : Int) (hd : 0 ≤ d ∧ d < 26) (w : World) : Calls Try.prog 43 #[.int .i64 d] w fun e w' => e = .returned (.tuple #[.int .i64 (recOf d).1, .int .i64 (recOf d).2]) ∧ w = w' := by
  go_enter Try.func43, Try.ntmps43
  go_wp2
  go_loop [5] (fun i => ∃ m : Nat, m ≤ 26 ∧ i = .int .i64 m ∧ Hid (∀ j, j < m → ((d * ((j : Nat) : Int)) % 26 == 1) = false)) (fun i => (26 - intOf i).toNat)
  case atStart => exact ⟨0, by omega, rfl, fun j hj => by omega⟩
  case round =>
    obtain ⟨m, hm, rfl, HS⟩ := hrel
    by_cases hlt : m < 26
    · obtain ⟨p, hp⟩ : ∃ p, p = d * (m : Int) := ⟨_, rfl⟩
      have hb := prod_bound hd (b := (m : Int)) (by omega)
      rw [← hp] at hb
      have hpw : IntKind.i64.wrap (d * (m : Int)) = p := by rw [← hp, IntKind.wrap_i64]; omega
      by_cases he : (p % 26 == 1) = true
      · have HE : Hid (recOf d = ((m : Int), 0)) := by
          rw [Hid]
          unfold recOf
          rw [find_first' _ m 26 hlt (by rw [← hp]; exact he) HS.out]
        clear hp
        go_wp2
        go_ret2
        rw [HE.out]
        exact ⟨rfl, rfl⟩
      · have he' : (p % 26 == 1) = false := by simpa using he
        have HE : Hid (((d * (m : Int)) % 26 == 1) = false) := by rw [Hid, ← hp]; exact he'
        clear hp he
        go_wp2
        exact ⟨⟨m + 1, by omega, by go_num, fun j hj => by
          rcases Nat.lt_or_eq_of_le (Nat.le_of_lt_succ hj) with h | rfl
          · exact HS.out j h
          · exact HE.out⟩, by simp [intOf]; omega⟩
    · have hm26 : m = 26 := by omega
      subst hm26
      have HE : Hid (recOf d = (0, 6)) := by
        rw [Hid]
        unfold recOf
        have : (List.range 26).find? (fun (v : Nat) => (d * (v : Int)) % 26 == 1) = none := by
          rw [List.find?_eq_none]
          intro x hx
          rw [HS.out x (by simpa using hx)]
          simp
        rw [this]
      go_wp2
      go_ret2
      rw [HE.out]
      exact ⟨rfl, rfl⟩
end Go.Proofs.Ytlgjgppojdamiab
