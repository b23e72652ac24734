/-
  Plain mathematics of no program: a sheet that is turned, and what is seen through its holes.
-/
import Derived.Test.YtennpknkcaeafacRMath
import Derived.Test.YtennpknkcaeafacQMath
import Derived.Test.YtennpknkcaeafacPKit
namespace Go.Proofs.Ytennpknkcaeafac.Gm
open PK

/-- Where place p of a sheet of s rows comes to by a quarter to the right. -/
def tn (s p : Nat) : Nat := (p % s) * s + (s - 1 - p / s)
theorem dm {s : Nat} (y x : Nat) (hx : x < s) : (y * s + x) / s = y ∧ (y * s + x) % s = x := by
  have h0 : 0 < s := by omega
  constructor
  · rw [Nat.mul_comm, Nat.mul_add_div h0, Nat.div_eq_of_lt hx, Nat.add_zero]
  · rw [Nat.mul_comm, Nat.mul_add_mod, Nat.mod_eq_of_lt hx]
theorem tn_yx {s : Nat} (y x : Nat) (hx : x < s) : tn s (y * s + x) = x * s + (s - 1 - y) := by
  unfold tn
  rw [(dm y x hx).1, (dm y x hx).2]
theorem place_lt {s y x : Nat} (hy : y < s) (hx : x < s) : y * s + x < s * s := by
  have : (y + 1) * s ≤ s * s := Nat.mul_le_mul_right s hy
  rw [Nat.succ_mul] at this
  omega
theorem place_yx {s p : Nat} (hp : p < s * s) : p / s < s ∧ p % s < s ∧ p = p / s * s + p % s := by
  have h0 : 0 < s := by
    apply Nat.pos_of_ne_zero
    intro e
    subst e
    omega
  refine ⟨(Nat.div_lt_iff_lt_mul h0).2 hp, Nat.mod_lt _ h0, ?_⟩
  have := Nat.div_add_mod p s
  rw [Nat.mul_comm] at this
  exact this.symm
theorem tn_lt {s p : Nat} (hp : p < s * s) : tn s p < s * s := by
  obtain ⟨h1, h2, h3⟩ := place_yx hp
  have h4 : s - 1 - p / s < s := by generalize p / s = y at *; omega
  exact place_lt h2 h4
theorem it_lt {s p : Nat} (hp : p < s * s) : ∀ t, Qm.it (tn s) t p < s * s
  | 0 => hp
  | t + 1 => tn_lt (it_lt hp t)
theorem tn4 {s p : Nat} (hp : p < s * s) : tn s (tn s (tn s (tn s p))) = p := by
  obtain ⟨h1, h2, h3⟩ := place_yx hp
  generalize p / s = y at *
  generalize p % s = x at *
  subst h3
  rw [tn_yx y x h2, tn_yx x (s - 1 - y) (by omega), tn_yx (s - 1 - y) (s - 1 - x) (by omega), tn_yx (s - 1 - x) (s - 1 - (s - 1 - y)) (by omega)]
  have a : s - 1 - (s - 1 - y) = y := by omega
  have b : s - 1 - (s - 1 - x) = x := by omega
  rw [a, b]
/-- A place is seen through h after t turns just if h is seen through it after the other ones. -/
theorem seen_iff {s p h : Nat} (hp : p < s * s) (hh : h < s * s) :
    (tn s h = p ↔ h = tn s (tn s (tn s p))) ∧ (tn s (tn s h) = p ↔ h = tn s (tn s p)) ∧ (tn s (tn s (tn s h)) = p ↔ h = tn s p) := by
  refine ⟨⟨fun e => ?_, fun e => ?_⟩, ⟨fun e => ?_, fun e => ?_⟩, ⟨fun e => ?_, fun e => ?_⟩⟩
  · rw [← e, tn4 hh]
  · rw [e, tn4 hp]
  · rw [← e, tn4 hh]
  · rw [e, tn4 hp]
  · rw [← e, tn4 hh]
  · rw [e, tn4 hp]
/-- Number m of what is seen: hole by hole, each in four ways. -/
def vis (s : Nat) (h : Nat → Nat) (m : Nat) : Nat := Qm.it (tn s) (m % 4) (h (m / 4))
/-- In which way each place was seen (from 1 on), after m looks. -/
def wy (s : Nat) (h : Nat → Nat) : Nat → Nat → Int
  | 0 => fun _ => 0
  | m + 1 => upd (wy s h m) (vis s h m) ((m % 4 + 1 : Nat) : Int)
/-- How often place p was seen, after m looks. -/
def cn (s : Nat) (h : Nat → Nat) (p : Nat) : Nat → Nat
  | 0 => 0
  | m + 1 => cn s h p m + (if vis s h m = p then 1 else 0)
theorem cn_mono (s : Nat) (h : Nat → Nat) (p : Nat) {m : Nat} : ∀ m', m ≤ m' → cn s h p m ≤ cn s h p m' := fun m' hm => by
  induction hm with
  | refl => exact Nat.le_refl _
  | step _ ih => exact Nat.le_trans ih (Nat.le_add_right _ _)
theorem wy_zero (s : Nat) (h : Nat → Nat) (p : Nat) : ∀ m, wy s h m p = 0 ↔ cn s h p m = 0
  | 0 => ⟨fun _ => rfl, fun _ => rfl⟩
  | m + 1 => by
    show upd (wy s h m) (vis s h m) ((m % 4 + 1 : Nat) : Int) p = 0 ↔ cn s h p m + (if vis s h m = p then 1 else 0) = 0
    by_cases e : p = vis s h m
    · rw [e, upd_same, if_pos rfl]; omega
    · rw [upd_other _ _ e, if_neg (fun e2 => e e2.symm), wy_zero s h p m]; omega
/-- A sheet is right. -/
def Right (s : Nat) (h : Nat → Nat) (n : Nat) : Prop := (∀ m, m < 4 * n → wy s h m (vis s h m) = 0) ∧ ∀ p, p < s * s → wy s h (4 * n) p ≠ 0
theorem right_iff {s n : Nat} {h : Nat → Nat} (hh : ∀ j, j < n → h j < s * s) : Right s h n ↔ ∀ p, p < s * s → cn s h p (4 * n) = 1 := by
  constructor
  · rintro ⟨h1, h2⟩ p hp
    have hle : ∀ m, m ≤ 4 * n → cn s h p m ≤ 1 := fun m => by
      induction m with
      | zero => intro _; show 0 ≤ 1; omega
      | succ m ih =>
        intro hm
        show cn s h p m + (if vis s h m = p then 1 else 0) ≤ 1
        by_cases e : vis s h m = p
        · have := (wy_zero s h (vis s h m) m).1 (h1 m (by omega))
          rw [e] at this
          rw [if_pos e]; omega
        · rw [if_neg e]; have := ih (by omega); omega
    have hne : cn s h p (4 * n) ≠ 0 := fun e => h2 p hp ((wy_zero s h p _).2 e)
    have := hle _ (Nat.le_refl _)
    omega
  · intro hc
    refine ⟨fun m hm => ?_, fun p hp e => ?_⟩
    · have hlt : vis s h m < s * s := it_lt (hh (m / 4) (by omega)) _
      have h1 : cn s h (vis s h m) (m + 1) ≤ 1 := by
        have := cn_mono s h (vis s h m) _ (show m + 1 ≤ 4 * n from hm)
        rw [hc _ hlt] at this
        exact this
      have h2 : cn s h (vis s h m) (m + 1) = cn s h (vis s h m) m + 1 := by
        show cn s h (vis s h m) m + (if vis s h m = vis s h m then 1 else 0) = _
        rw [if_pos rfl]
      exact (wy_zero s h _ m).2 (by omega)
    · have := (wy_zero s h p _).1 e
      rw [hc p hp] at this
      cases this
/-- How many of the first j holes are at q. -/
def ch (h : Nat → Nat) (q : Nat) : Nat → Nat
  | 0 => 0
  | j + 1 => ch h q j + (if h j = q then 1 else 0)
theorem ch_le (h : Nat → Nat) (q : Nat) : ∀ j, ch h q j ≤ j
  | 0 => Nat.le_refl _
  | j + 1 => by
    have := ch_le h q j
    show ch h q j + _ ≤ _
    by_cases e : h j = q
    · rw [if_pos e]; omega
    · rw [if_neg e]; omega
/-- How many holes come to p, turn by turn. -/
def ct (s : Nat) (h : Nat → Nat) (n p : Nat) : Nat → Nat
  | 0 => 0
  | t + 1 => ct s h n p t + ch h (Qm.it (tn s) t p) n
theorem ct_le (s : Nat) (h : Nat → Nat) (n p : Nat) : ∀ t, ct s h n p t ≤ t * n
  | 0 => by show 0 ≤ _; omega
  | t + 1 => by
    have := ct_le s h n p t
    have := ch_le h (Qm.it (tn s) t p) n
    show ct s h n p t + ch h (Qm.it (tn s) t p) n ≤ _
    rw [Nat.succ_mul]; omega
theorem cn_ct {s : Nat} {h : Nat → Nat} {p : Nat} (hp : p < s * s) : ∀ n, (∀ j, j < n → h j < s * s) → cn s h p (4 * n) = ct s h n p 4
  | 0, _ => by
    have := ct_le s h 0 p 4
    show 0 = ct s h 0 p 4
    omega
  | n + 1, hh => by
    have ih := cn_ct hp n fun j hj => hh j (by omega)
    have hn := hh n (by omega)
    obtain ⟨s1, s2, s3⟩ := seen_iff hp hn
    have e1 : cn s h p (4 * (n + 1)) = cn s h p (4 * n) + (if h n = p then 1 else 0) + (if tn s (h n) = p then 1 else 0) + (if tn s (tn s (h n)) = p then 1 else 0) + (if tn s (tn s (tn s (h n))) = p then 1 else 0) := by
      have v0 : vis s h (4 * n) = h n := by unfold vis; rw [show 4 * n % 4 = 0 by omega, show 4 * n / 4 = n by omega]; rfl
      have v1 : vis s h (4 * n + 1) = tn s (h n) := by unfold vis; rw [show (4 * n + 1) % 4 = 1 by omega, show (4 * n + 1) / 4 = n by omega]; rfl
      have v2 : vis s h (4 * n + 2) = tn s (tn s (h n)) := by unfold vis; rw [show (4 * n + 2) % 4 = 2 by omega, show (4 * n + 2) / 4 = n by omega]; rfl
      have v3 : vis s h (4 * n + 3) = tn s (tn s (tn s (h n))) := by unfold vis; rw [show (4 * n + 3) % 4 = 3 by omega, show (4 * n + 3) / 4 = n by omega]; rfl
      rw [show 4 * (n + 1) = 4 * n + 3 + 1 by omega]
      show cn s h p (4 * n) + (if vis s h (4 * n) = p then 1 else 0) + (if vis s h (4 * n + 1) = p then 1 else 0) + (if vis s h (4 * n + 2) = p then 1 else 0) + (if vis s h (4 * n + 3) = p then 1 else 0) = _
      rw [v0, v1, v2, v3]
    have e2 : ct s h (n + 1) p 4 = ct s h n p 4 + (if h n = p then 1 else 0) + (if h n = tn s p then 1 else 0) + (if h n = tn s (tn s p) then 1 else 0) + (if h n = tn s (tn s (tn s p)) then 1 else 0) := by
      show 0 + (ch h p n + (if h n = p then 1 else 0)) + (ch h (tn s p) n + (if h n = tn s p then 1 else 0)) + (ch h (tn s (tn s p)) n + (if h n = tn s (tn s p) then 1 else 0)) + (ch h (tn s (tn s (tn s p))) n + (if h n = tn s (tn s (tn s p)) then 1 else 0)) = 0 + ch h p n + ch h (tn s p) n + ch h (tn s (tn s p)) n + ch h (tn s (tn s (tn s p))) n + _ + _ + _ + _
      omega
    rw [e1, e2, ih]
    have q1 : (if tn s (h n) = p then 1 else 0) = (if h n = tn s (tn s (tn s p)) then 1 else (0 : Nat)) := by
      by_cases c : tn s (h n) = p
      · rw [if_pos c, if_pos (s1.1 c)]
      · rw [if_neg c, if_neg (fun e => c (s1.2 e))]
    have q2 : (if tn s (tn s (h n)) = p then 1 else 0) = (if h n = tn s (tn s p) then 1 else (0 : Nat)) := by
      by_cases c : tn s (tn s (h n)) = p
      · rw [if_pos c, if_pos (s2.1 c)]
      · rw [if_neg c, if_neg (fun e => c (s2.2 e))]
    have q3 : (if tn s (tn s (tn s (h n))) = p then 1 else 0) = (if h n = tn s p then 1 else (0 : Nat)) := by
      by_cases c : tn s (tn s (tn s (h n))) = p
      · rw [if_pos c, if_pos (s3.1 c)]
      · rw [if_neg c, if_neg (fun e => c (s3.2 e))]
    rw [q1, q2, q3]
    omega
theorem right_ct {s n : Nat} {h : Nat → Nat} (hh : ∀ j, j < n → h j < s * s) : Right s h n ↔ ∀ p, p < s * s → ct s h n p 4 = 1 := by
  rw [right_iff hh]
  exact ⟨fun hc p hp => by rw [← cn_ct hp n hh]; exact hc p hp, fun hc p hp => by rw [cn_ct hp n hh]; exact hc p hp⟩
end Go.Proofs.Ytennpknkcaeafac.Gm
