/-
  Plain mathematics: the document's own Between, one letter on.
-/
import Derived.Test.YtlgjgppojdamiaaRTaken
namespace Go.Proofs.Ytlgjgppojdamiaa
open Go.RowKit PK

/-- T is the least letter from m on of which g holds, or -1. -/
def Least (g : Nat → Bool) (m : Nat) (T : Int) : Prop := (T = -1 ∧ ∀ k, m ≤ k → k < 26 → g k = false) ∨ ∃ t : Nat, T = t ∧ m ≤ t ∧ t < 26 ∧ g t = true ∧ ∀ k, m ≤ k → k < t → g k = false
theorem Least.top (g : Nat → Bool) : Least g 26 (-1) := .inl ⟨rfl, fun k h1 h2 => by omega⟩
theorem Least.take {g : Nat → Bool} {m : Nat} (hm : m < 26) (hg : g m = true) : Least g m (m : Nat) := .inr ⟨m, rfl, Nat.le_refl _, hm, hg, fun k h1 h2 => by omega⟩
theorem Least.skip {g : Nat → Bool} {m : Nat} {T : Int} (hg : g m = false) (h : Least g (m + 1) T) : Least g m T := by
  have key : ∀ k, m ≤ k → k = m ∨ m + 1 ≤ k := fun k h => by omega
  rcases h with ⟨e, h⟩ | ⟨t, e, h1, h2, h3, h4⟩
  · exact .inl ⟨e, fun k a b => (key k a).elim (fun c => by rw [c]; exact hg) (fun c => h k c b)⟩
  · exact .inr ⟨t, e, by omega, h2, h3, fun k a b => (key k a).elim (fun c => by rw [c]; exact hg) (fun c => h4 k c b)⟩
theorem good_iff {p q : Nat → Nat} (hp : Pm.IsPerm p) (hq : Pm.IsPerm q) (i : Nat) (hi : i < 26) (s : List (List Nat) × (Nat → Int)) (HL : layI p q i = some s) (k : Nat) (hk : k < 26) :
    (!(tk s.2 (k : Nat)) && (Pm.len q k == Pm.len p i)) = true ↔ k ∈ s.1.flatten ∧ Pm.len q k = Pm.len p i := by
  have h3 := (layI_facts hp hq i (by omega) s HL).2.2 k hk
  have h4 : tk s.2 (k : Nat) = true ↔ ∃ a, a < 26 ∧ s.2 a = (k : Nat) := ⟨fun h => by
    unfold tk at h
    obtain ⟨j, hj, e⟩ := List.any_eq_true.1 h
    exact ⟨j, by simpa using hj, by simpa using e⟩, fun ⟨a, ha, e⟩ => tk_true a ha e⟩
  rw [h3] at h4
  cases h5 : tk s.2 (k : Nat) with
  | true => simp [h4.1 h5]
  | false =>
    have : k ∈ s.1.flatten := Classical.byContradiction fun hn => by rw [h4.2 hn] at h5; cases h5
    simp [this]
theorem next_none {p q : Nat → Nat} (hp : Pm.IsPerm p) (hq : Pm.IsPerm q) (i : Nat) (hi : i < 26) (s : List (List Nat) × (Nat → Int)) (HL : layI p q i = some s) (HM : Pm.met p i i = false)
    (h : ∀ k, k < 26 → (!(tk s.2 (k : Nat)) && (Pm.len q k == Pm.len p i)) = false) : betw p q = none := by
  have hsub := lay_sub _ _ _ _ s HL
  have h1 : layI p q (i + 1) = none := by
    rw [layI_new p q i HM, HL]
    show layStep s (Pm.cyc p i) = none
    unfold layStep
    rw [Pm.cyc_length]
    cases h2 : s.1.find? (fun d => d.length == Pm.len p i) with
    | none => rfl
    | some d =>
      obtain ⟨b, hb, _, hb2, hb3, _⟩ := (first_left hq s.1 hsub (Pm.len p i)).2 d h2
      have := (good_iff hp hq i hi s HL b hb).2 ⟨hb2, hb3⟩
      rw [h b hb] at this
      cases this
  have h2 := layI_none_mono (i + 1) h1 (26 - (i + 1))
  rw [show i + 1 + (26 - (i + 1)) = 26 by omega] at h2
  rcases layI_all (q := q) hp with ⟨_, h3⟩ | ⟨s', y, h3, _⟩
  · exact h3
  · rw [h2] at h3; cases h3
theorem next_some {p q : Nat → Nat} (hp : Pm.IsPerm p) (hq : Pm.IsPerm q) (i : Nat) (hi : i < 26) (s : List (List Nat) × (Nat → Int)) (HL : layI p q i = some s) (HM : Pm.met p i i = false) (t : Nat) (ht : t < 26)
    (h1 : (!(tk s.2 (t : Nat)) && (Pm.len q t == Pm.len p i)) = true) (h2 : ∀ k, k < t → (!(tk s.2 (k : Nat)) && (Pm.len q k == Pm.len p i)) = false) :
    layI p q (i + 1) = some (s.1.erase (Pm.cyc q t), assignTo s.2 (Pm.cyc p i) (Pm.cyc q t) (Pm.len p i)) := by
  have hsub := lay_sub _ _ _ _ s HL
  have hg := (good_iff hp hq i hi s HL t ht).1 h1
  rw [layI_new p q i HM, HL]
  show layStep s (Pm.cyc p i) = _
  unfold layStep
  rw [Pm.cyc_length]
  have hf := first_left hq s.1 hsub (Pm.len p i)
  cases h3 : s.1.find? (fun d => d.length == Pm.len p i) with
  | none => exact absurd hg.2 (hf.1 h3 t hg.1)
  | some d =>
    obtain ⟨b, hb, e, hb2, hb3, hb4⟩ := hf.2 d h3
    have hbt := hb4 t hg.1 hg.2
    have : b = t := Classical.byContradiction fun hne => by
      have := h2 b (by omega)
      rw [(good_iff hp hq i hi s HL b hb).2 ⟨hb2, hb3⟩] at this
      cases this
    subst this
    rw [e]
theorem not_met {p : Nat → Nat} (hp : Pm.IsPerm p) (i : Nat) (hi : i < 26) (HM : Pm.met p i i = false) (m : Nat) : Pm.met p i (Pm.iter p m i) = false := by
  rw [Bool.eq_false_iff]
  intro h
  obtain ⟨j, hj, hjm⟩ := (Pm.met_iff p i _).1 h
  have hx : Pm.iter p m i ∈ Pm.cyc p i := (Pm.mem_cyc hp i hi _).2 ⟨m, rfl⟩
  have h1 := Pm.cyc_symm hp _ i hi hx
  have h2 := Pm.cyc_trans hp _ j i (Pm.iter_lt hp i hi m) (by omega) hjm h1
  rw [(Pm.met_iff p i i).2 ⟨j, hj, h2⟩] at HM
  cases HM
/-- How many of the first n are below 0. -/
def negs (f : Nat → Int) : Nat → Nat
  | 0 => 0
  | n + 1 => negs f n + if f n < 0 then 1 else 0
theorem negs_upd (f : Nat → Int) (a : Nat) (v : Int) (h1 : f a < 0) (h2 : 0 ≤ v) : ∀ n, negs (upd f a v) n + (if a < n then 1 else 0) = negs f n
  | 0 => rfl
  | n + 1 => by
    have ih := negs_upd f a v h1 h2 n
    show negs (upd f a v) n + (if upd f a v n < 0 then 1 else 0) + (if a < n + 1 then 1 else 0) = negs f n + if f n < 0 then 1 else 0
    by_cases e : n = a
    · subst e
      rw [upd_same, if_neg (by omega), if_pos (by omega), if_pos h1]
      rw [if_neg (by omega)] at ih
      omega
    · rw [upd_other f v e]
      by_cases e2 : a < n
      · rw [if_pos e2] at ih
        rw [if_pos (show a < n + 1 by omega)]
        omega
      · rw [if_neg e2] at ih
        rw [if_neg (show ¬ a < n + 1 by omega)]
        omega
theorem negs_ext {f g : Nat → Int} : ∀ n, (∀ i, i < n → f i = g i) → negs f n = negs g n
  | 0, _ => rfl
  | n + 1, h => by
    show negs f n + _ = negs g n + _
    rw [negs_ext n (fun i hi => h i (by omega)), h n (by omega)]
def negW (b : Nat) (W : World) : Nat := match W.heap[b]? with
  | some (.cells c _ _) => negs (fun i => intOf (c.getD i (.int .i64 0))) 26
  | _ => 0
theorem negW_row {b : Nat} {W : World} {T : TypeId} {f : Nat → Int} (h : RowAt W b T (ints 26 f)) : negW b W = negs f 26 := by
  unfold negW
  rw [h]
  exact negs_ext 26 fun i hi => by
    have := ints_get f hi
    simp [Array.getD_eq_getD_getElem?, this, intOf]
theorem assign_new {p : Nat → Nat} (hp : Pm.IsPerm p) (i : Nat) (hi : i < 26) (x : Nat → Int) (d : List Nat) (m : Nat) (hm : m < Pm.len p i) : assignTo x (Pm.cyc p i) d m (Pm.iter p m i) = x (Pm.iter p m i) := by
  have hl := Pm.cyc_length p i
  have hn := Pm.cyc_nodup hp i hi
  have hg : ∀ j, j < Pm.len p i → (Pm.cyc p i).getD j 0 = Pm.iter p j i := fun j hj => cyc_getD p i j hj
  refine assign_out x _ d _ m fun j hj e => ?_
  rw [← hg m hm] at e
  have h1 : (Pm.cyc p i)[j]? = (Pm.cyc p i)[m]? := by
    rw [List.getD_eq_getElem?_getD, List.getD_eq_getElem?_getD, List.getElem?_eq_getElem (by omega), List.getElem?_eq_getElem (by omega)] at e
    rw [List.getElem?_eq_getElem (by omega), List.getElem?_eq_getElem (by omega)]
    simpa using e
  have := (List.getElem?_inj (by omega) hn).1 h1
  omega
end Go.Proofs.Ytlgjgppojdamiaa
