/-
  Plain mathematics: rows are settled from the last tap on; what is read off is the first solution, or there is none.
-/
import Derived.Test.YtflehdigikdhmaaRgM
namespace Go.Proofs.Ytflehdigikdhmaa.Rg

/-- Row r holds of x. -/
def Holds (A : Nat → Nat → Bool) (L r : Nat) (x : Nat → Bool) : Prop := (sx L fun c => A r c && x c) = A r L
/-- All rows hold. -/
def Sol (A : Nat → Nat → Bool) (L m : Nat) (x : Nat → Bool) : Prop := ∀ r, r < m → Holds A L r x
/-- Row i, added to all others that have a bit at k. -/
def elim (A : Nat → Nat → Bool) (i k : Nat) : Nat → Nat → Bool := fun r c => if r ≠ i ∧ A r k = true then xor (A r c) (A i c) else A r c
theorem elim_holds {A : Nat → Nat → Bool} {L i k r : Nat} {x : Nat → Bool} (hi : Holds A L i x) : Holds (elim A i k) L r x ↔ Holds A L r x := by
  unfold Holds elim
  by_cases h : r ≠ i ∧ A r k = true
  · simp only [h, and_self, if_true, not_false_eq_true, ne_eq]
    have e : (sx L fun c => (xor (A r c) (A i c)) && x c) = xor (sx L fun c => A r c && x c) (sx L fun c => A i c && x c) := by
      rw [← sx_xor]
      refine sx_congr L fun c _ => ?_
      cases A r c <;> cases A i c <;> cases x c <;> rfl
    rw [e]
    unfold Holds at hi
    rw [hi]
    cases (sx L fun c => A r c && x c) <;> cases A i L <;> cases A r L <;> simp
  · simp only [h, if_false]
theorem elim_self {A : Nat → Nat → Bool} {i k : Nat} (c : Nat) : elim A i k i c = A i c := by
  unfold elim
  rw [if_neg (fun h => h.1 rfl)]
theorem elim_sol {A : Nat → Nat → Bool} {L m i k : Nat} (hi : i < m) {x : Nat → Bool} : Sol (elim A i k) L m x ↔ Sol A L m x := by
  constructor
  · intro h
    have h1 : Holds A L i x := by
      have := h i hi
      unfold Holds at this ⊢
      simp only [elim_self] at this
      exact this
    exact fun r hr => (elim_holds h1).1 (h r hr)
  · intro h
    exact fun r hr => (elim_holds (h i hi)).2 (h r hr)
/-- What stands when the columns from k on are settled. -/
structure Inv (A0 A : Nat → Nat → Bool) (L m k : Nat) (used : Nat → Bool) (st : Nat → Option Nat) : Prop where
  sol : ∀ x, Sol A L m x ↔ Sol A0 L m x
  piv : ∀ c i, k ≤ c → c < L → st c = some i → i < m ∧ used i = true ∧ A i c = true ∧ ∀ r, r < m → r ≠ i → A r c = false
  no : ∀ c, k ≤ c → c < L → st c = none → ∀ r, r < m → (used r = false ∨ ∃ c', k ≤ c' ∧ c' < c ∧ st c' = some r) → A r c = false
  has : ∀ r, r < m → used r = true → ∃ c, k ≤ c ∧ c < L ∧ st c = some r
  rest : ∀ c, c < k → st c = none
  inj : ∀ c d i, c < L → d < L → st c = some i → st d = some i → c = d
theorem Inv.start (A : Nat → Nat → Bool) (L m : Nat) : Inv A A L m L (fun _ => false) (fun _ => none) :=
  ⟨fun _ => Iff.rfl, fun c i h1 h2 => by omega, fun c h1 h2 => by omega, fun r _ h => by simp at h, fun _ _ => rfl, fun c d i _ _ h => by cases h⟩
theorem Inv.skip {A0 A : Nat → Nat → Bool} {L m k : Nat} {used : Nat → Bool} {st : Nat → Option Nat} (h : Inv A0 A L m (k + 1) used st) (hn : ∀ r, r < m → used r = true ∨ A r k = false) : Inv A0 A L m k used st := by
  have hk : st k = none := h.rest k (by omega)
  refine ⟨h.sol, fun c i h1 h2 h3 => ?_, fun c h1 h2 h3 r hr h4 => ?_, fun r hr hu => ?_, fun c hc => h.rest c (by omega), h.inj⟩
  · have : c ≠ k := fun e => by rw [e, hk] at h3; cases h3
    exact h.piv c i (by omega) h2 h3
  · by_cases e : c = k
    · subst e
      rcases h4 with h4 | ⟨c', h5, h6, _⟩
      · rcases hn r hr with h7 | h7
        · rw [h4] at h7; cases h7
        · exact h7
      · omega
    · refine h.no c (by omega) h2 h3 r hr ?_
      rcases h4 with h4 | ⟨c', h5, h6, h7⟩
      · exact .inl h4
      · have : c' ≠ k := fun e => by rw [e, hk] at h7; cases h7
        exact .inr ⟨c', by omega, h6, h7⟩
  · obtain ⟨c, h1, h2, h3⟩ := h.has r hr hu
    exact ⟨c, by omega, h2, h3⟩
theorem Inv.take {A0 A : Nat → Nat → Bool} {L m k : Nat} {used : Nat → Bool} {st : Nat → Option Nat} (h : Inv A0 A L m (k + 1) used st) (hk : k < L) {i : Nat} (hi : i < m) (hu : used i = false) (hb : A i k = true) : Inv A0 (elim A i k) L m k (fun r => if r = i then true else used r) (fun c => if c = k then some i else st c) := by
  have hic : ∀ c, k + 1 ≤ c → c < L → A i c = false := fun c h1 h2 => by
    cases hs : st c with
    | none => exact h.no c h1 h2 hs i hi (.inl hu)
    | some i' =>
      obtain ⟨_, h4, _, h6⟩ := h.piv c i' h1 h2 hs
      exact h6 i hi (fun e => by rw [e, h4] at hu; cases hu)
  have hel : ∀ r c, k + 1 ≤ c → c < L → elim A i k r c = A r c := fun r c h1 h2 => by
    unfold elim
    by_cases e : r ≠ i ∧ A r k = true
    · rw [if_pos e, hic c h1 h2]
      cases A r c <;> rfl
    · rw [if_neg e]
  refine ⟨fun x => (elim_sol hi).trans (h.sol x), fun c i' h1 h2 h3 => ?_, fun c h1 h2 h3 r hr h4 => ?_, fun r hr hu' => ?_, fun c hc => ?_, fun c d i' hc hd h1 h2 => ?_⟩
  · by_cases e : c = k
    · subst e
      have h3' : (if c = c then some i else st c) = some i' := h3
      rw [if_pos rfl] at h3'
      cases h3'
      refine ⟨hi, if_pos rfl, by rw [elim_self]; exact hb, fun r hr hne => ?_⟩
      unfold elim
      by_cases e2 : r ≠ i ∧ A r c = true
      · rw [if_pos e2, e2.2, hb]; rfl
      · rw [if_neg e2]
        cases hq : A r c
        · rfl
        · exact absurd ⟨hne, hq⟩ e2
    · have h3' : (if c = k then some i else st c) = some i' := h3
      rw [if_neg e] at h3'
      obtain ⟨g1, g2, g3, g4⟩ := h.piv c i' (by omega) h2 h3'
      refine ⟨g1, ?_, by rw [hel _ _ (by omega) h2]; exact g3, fun r hr hne => by rw [hel _ _ (by omega) h2]; exact g4 r hr hne⟩
      show (if i' = i then true else used i') = true
      by_cases e2 : i' = i
      · rw [if_pos e2]
      · rw [if_neg e2]; exact g2
  · have e : c ≠ k := fun e => by
      have h3' : (if c = k then some i else st c) = none := h3
      rw [if_pos e] at h3'
      cases h3'
    have h3' : (if c = k then some i else st c) = none := h3
    rw [if_neg e] at h3'
    rw [hel _ _ (by omega) h2]
    rcases h4 with h4 | ⟨c', h5, h6, h7⟩
    · have h4' : (if r = i then true else used r) = false := h4
      by_cases e2 : r = i
      · rw [if_pos e2] at h4'; cases h4'
      · rw [if_neg e2] at h4'
        exact h.no c (by omega) h2 h3' r hr (.inl h4')
    · have h7' : (if c' = k then some i else st c') = some r := h7
      by_cases e2 : c' = k
      · rw [if_pos e2] at h7'
        cases h7'
        exact hic c (by omega) h2
      · rw [if_neg e2] at h7'
        exact h.no c (by omega) h2 h3' r hr (.inr ⟨c', by omega, h6, h7'⟩)
  · have hu2 : (if r = i then true else used r) = true := hu'
    by_cases e : r = i
    · exact ⟨k, Nat.le_refl _, hk, by show (if k = k then some i else st k) = some r; rw [if_pos rfl, e]⟩
    · rw [if_neg e] at hu2
      obtain ⟨c, h1, h2, h3⟩ := h.has r hr hu2
      exact ⟨c, by omega, h2, by show (if c = k then some i else st c) = some r; rw [if_neg (by omega)]; exact h3⟩
  · show (if c = k then some i else st c) = none
    rw [if_neg (by omega)]
    exact h.rest c (by omega)
  · have h1' : (if c = k then some i else st c) = some i' := h1
    have h2' : (if d = k then some i else st d) = some i' := h2
    have hno : ∀ c, c < L → st c = some i → False := fun c hc hs => by
      by_cases e : c < k + 1
      · rw [h.rest c e] at hs; cases hs
      · have := (h.piv c i (by omega) hc hs).2.1
        rw [hu] at this
        cases this
    by_cases e1 : c = k <;> by_cases e2 : d = k
    · omega
    · rw [if_pos e1] at h1'
      rw [if_neg e2] at h2'
      cases h1'
      exact (hno d hd h2').elim
    · rw [if_neg e1] at h1'
      rw [if_pos e2] at h2'
      cases h2'
      exact (hno c hc h1').elim
    · rw [if_neg e1] at h1'
      rw [if_neg e2] at h2'
      exact h.inj c d i' hc hd h1' h2'
/-- What is read off. -/
def off (A : Nat → Nat → Bool) (L : Nat) (st : Nat → Option Nat) : Nat → Bool := fun c => match st c with | some i => A i L | none => false
theorem Inv.fails {A0 A : Nat → Nat → Bool} {L m : Nat} {used : Nat → Bool} {st : Nat → Option Nat} (h : Inv A0 A L m 0 used st) {r : Nat} (hr : r < m) (hu : used r = false) (hb : A r L = true) (x : Nat → Bool) : ¬ Sol A0 L m x := by
  intro hs
  have h1 := (h.sol x).2 hs r hr
  unfold Holds at h1
  have h2 : (sx L fun c => A r c && x c) = sx L fun _ => false := sx_congr L fun c hc => by
    have : A r c = false := by
      cases hs : st c with
      | none => exact h.no c (Nat.zero_le _) hc hs r hr (.inl hu)
      | some i =>
        obtain ⟨_, h4, _, h6⟩ := h.piv c i (Nat.zero_le _) hc hs
        exact h6 r hr (fun e => by rw [← e, hu] at h4; cases h4)
    rw [this]; rfl
  rw [h2, sx_false, hb] at h1
  cases h1
/-- The sum of a settled row. -/
theorem sx_one {f : Nat → Bool} {L c : Nat} (hc : c < L) (h : ∀ k, k < L → k ≠ c → f k = false) : sx L f = f c := by
  have h1 : sx L f = sx (c + 1) f := sx_le (by omega) fun k h2 h3 => h k h3 (by omega)
  have h4 : sx c f = sx c fun _ => false := sx_congr c fun k hk => h k (by omega) (by omega)
  rw [h1]
  show xor (sx c f) (f c) = f c
  rw [h4, sx_false]
  cases f c <;> rfl
theorem Inv.solves {A0 A : Nat → Nat → Bool} {L m : Nat} {used : Nat → Bool} {st : Nat → Option Nat} (h : Inv A0 A L m 0 used st) (hz : ∀ r, r < m → used r = false → A r L = false) : Sol A0 L m (off A L st) := by
  refine (h.sol _).1 fun r hr => ?_
  unfold Holds
  cases hu : used r
  · have h2 : (sx L fun c => A r c && off A L st c) = sx L fun _ => false := sx_congr L fun c hc => by
      have : A r c = false := by
        cases hs : st c with
        | none => exact h.no c (Nat.zero_le _) hc hs r hr (.inl hu)
        | some i =>
          obtain ⟨_, h4, _, h6⟩ := h.piv c i (Nat.zero_le _) hc hs
          exact h6 r hr (fun e => by rw [← e, hu] at h4; cases h4)
      rw [this]; rfl
    rw [h2, sx_false, hz r hr hu]
  · obtain ⟨c0, _, h2, h3⟩ := h.has r hr hu
    obtain ⟨_, _, h5, _⟩ := h.piv c0 r (Nat.zero_le _) h2 h3
    rw [sx_one h2 fun k hk hne => ?_]
    · show (A r c0 && off A L st c0) = A r L
      rw [h5]
      unfold off
      rw [h3]
      rfl
    · show (A r k && off A L st k) = false
      cases hs : st k with
      | none =>
        have : off A L st k = false := by unfold off; rw [hs]
        rw [this]
        cases A r k <;> rfl
      | some i =>
        obtain ⟨_, _, _, h6⟩ := h.piv k i (Nat.zero_le _) hk hs
        by_cases e : r = i
        · subst e
          exact absurd (h.inj k c0 r hk h2 hs h3) hne
        · rw [h6 r hr e]; rfl
/-- It is the first of all. -/
theorem Inv.first {A0 A : Nat → Nat → Bool} {L m : Nat} {used : Nat → Bool} {st : Nat → Option Nat} (h : Inv A0 A L m 0 used st) (hz : ∀ r, r < m → used r = false → A r L = false) {y : Nat → Bool} (hy : Sol A0 L m y) {j : Nat} (hj : j < L) (hs : ∀ c, c < j → y c = off A L st c) (hne : y j ≠ off A L st j) : off A L st j = false ∧ y j = true := by
  have hx := (h.sol _).2 (h.solves hz)
  have hy' := (h.sol _).2 hy
  cases hst : st j with
  | none =>
    have : off A L st j = false := by unfold off; rw [hst]
    refine ⟨this, ?_⟩
    rw [this] at hne
    cases hq : y j
    · exact absurd hq hne
    · rfl
  | some i =>
    exfalso
    obtain ⟨g1, _, g3, _⟩ := h.piv j i (Nat.zero_le _) hj hst
    have hrow : ∀ z : Nat → Bool, (sx L fun c => A i c && z c) = xor (sx j fun c => A i c && z c) (z j) := fun z => by
      have e1 : (sx L fun c => A i c && z c) = sx (j + 1) fun c => A i c && z c := sx_le (by omega) fun k h2 h3 => by
        have : A i k = false := by
          cases hk : st k with
          | none => exact h.no k (Nat.zero_le _) h3 hk i g1 (.inr ⟨j, Nat.zero_le _, by omega, hst⟩)
          | some i' =>
            obtain ⟨_, _, _, g6⟩ := h.piv k i' (Nat.zero_le _) h3 hk
            refine g6 i g1 fun e => ?_
            subst e
            have := h.inj k j i h3 hj hk hst
            omega
        rw [this]; rfl
      rw [e1]
      show xor (sx j fun c => A i c && z c) (A i j && z j) = _
      rw [g3]
      rfl
    have k1 := hx i g1
    have k2 := hy' i g1
    unfold Holds at k1 k2
    rw [hrow] at k1 k2
    have e2 : (sx j fun c => A i c && y c) = sx j fun c => A i c && off A L st c := sx_congr j fun c hc => by rw [hs c hc]
    rw [e2] at k2
    rw [← k1] at k2
    apply hne
    revert k2
    cases (sx j fun c => A i c && off A L st c) <;> cases y j <;> cases off A L st j <;> simp
end Go.Proofs.Ytflehdigikdhmaa.Rg
