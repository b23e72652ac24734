/-
  Plain mathematics: the document's own Between, letter after letter, is the lay.
-/
import Derived.Test.YtlgjgppojdamiaaCFirst
import Derived.Test.YtlgjgppojdamiaaPBetween
namespace Go.Proofs.Ytlgjgppojdamiaa
open Go.RowKit PK

theorem lay_app (P R T : List (List Nat)) (x0 : Nat → Int) : ∀ k, k ≤ P.length → layN (P ++ R) T x0 k = layN P T x0 k
  | 0, _ => rfl
  | k + 1, hk => by
    unfold layN
    rw [lay_app P R T x0 k (by omega)]
    have : (P ++ R).getD k [] = P.getD k [] := by simp [List.getD, List.getElem?_append_left (show k < P.length by omega)]
    rw [this]
/-- What has been laid ahead of letter i. -/
def layI (p q : Nat → Nat) (i : Nat) : Option (List (List Nat) × (Nat → Int)) := layN (Pm.cycs p i) (Pm.cycs q 26) (fun _ => -1) (Pm.cycs p i).length
theorem layI_zero (p q : Nat → Nat) : layI p q 0 = some (Pm.cycs q 26, fun _ => -1) := rfl
theorem layI_met (p q : Nat → Nat) (i : Nat) (h : Pm.met p i i = true) : layI p q (i + 1) = layI p q i := by
  unfold layI
  have : Pm.cycs p (i + 1) = Pm.cycs p i := by
    show (if Pm.met p i i = true then _ else _) = _
    rw [if_pos h]
  rw [this]
theorem layI_new (p q : Nat → Nat) (i : Nat) (h : Pm.met p i i = false) : layI p q (i + 1) = (layI p q i).bind fun s => layStep s (Pm.cyc p i) := by
  unfold layI
  have : Pm.cycs p (i + 1) = Pm.cycs p i ++ [Pm.cyc p i] := by
    show (if Pm.met p i i = true then _ else _) = _
    rw [if_neg (by rw [h]; simp)]
  rw [this, List.length_append]
  show (layN (Pm.cycs p i ++ [Pm.cyc p i]) _ _ (Pm.cycs p i).length).bind (fun s => layStep s ((Pm.cycs p i ++ [Pm.cyc p i]).getD (Pm.cycs p i).length [])) = _
  rw [lay_app _ _ _ _ _ (Nat.le_refl _)]
  simp [List.getD]
theorem lay_out (P T : List (List Nat)) (x0 : Nat → Int) (a : Nat) (ha : a ∉ P.flatten) : ∀ k, k ≤ P.length → ∀ s, layN P T x0 k = some s → s.2 a = x0 a
  | 0, _, s, h => by
    simp [layN] at h
    subst h
    rfl
  | k + 1, hk, s, h => by
    unfold layN at h
    cases h1 : layN P T x0 k with
    | none => rw [h1] at h; simp at h
    | some s0 =>
      rw [h1] at h
      simp only [Option.bind_some] at h
      unfold layStep at h
      cases h2 : s0.1.find? (fun d => d.length == (P.getD k []).length) with
      | none => rw [h2] at h; simp at h
      | some d =>
        rw [h2] at h
        simp at h
        subst h
        show assignTo s0.2 (P.getD k []) d (P.getD k []).length a = _
        rw [assign_out s0.2 _ d a _ (fun j hj e => ha (List.mem_flatten.2 ⟨P.getD k [], getD_memL P k (by omega), by rw [← e]; exact getD_mem _ j hj⟩))]
        exact lay_out P T x0 a ha k (by omega) s0 h1
theorem flat_place (P : List (List Nat)) (a : Nat) (h : a ∈ P.flatten) : ∃ j m, j < P.length ∧ m < (P.getD j []).length ∧ (P.getD j []).getD m 0 = a := by
  obtain ⟨l, hl, hal⟩ := List.mem_flatten.1 h
  obtain ⟨j, hj, e⟩ := List.getElem_of_mem hl
  obtain ⟨m, hm, e2⟩ := List.getElem_of_mem hal
  have e1 : P.getD j [] = l := by simp [List.getD, hj, e]
  exact ⟨j, m, hj, by rw [e1]; exact hm, by rw [e1]; simp [List.getD, hm, e2]⟩
theorem place_flat (P : List (List Nat)) (j m : Nat) (hj : j < P.length) (hm : m < (P.getD j []).length) : (P.getD j []).getD m 0 ∈ P.flatten :=
  List.mem_flatten.2 ⟨P.getD j [], getD_memL P j hj, getD_mem _ m hm⟩
theorem cycs_flat_lt {p : Nat → Nat} (hp : Pm.IsPerm p) (i : Nat) (hi : i ≤ 26) (a : Nat) (h : a ∈ (Pm.cycs p i).flatten) : a < 26 := by
  obtain ⟨l, hl, hal⟩ := List.mem_flatten.1 h
  obtain ⟨j, hj, rfl, _⟩ := Pm.mem_cycs p i l hl
  exact Pm.cyc_lt hp j (by omega) a hal
/-- Where nothing is laid stands -1; a letter is taken just if it is in no cycle that is left. -/
theorem layI_facts {p q : Nat → Nat} (hp : Pm.IsPerm p) (hq : Pm.IsPerm q) (i : Nat) (hi : i ≤ 26) (s : List (List Nat) × (Nat → Int)) (h : layI p q i = some s) :
    (∀ a, Pm.met p i a = false → s.2 a = -1) ∧ (∀ a, Pm.met p i a = true → ∃ b : Nat, b < 26 ∧ s.2 a = b) ∧ (∀ k, k < 26 → ((∃ a, a < 26 ∧ s.2 a = (k : Nat)) ↔ k ∉ s.1.flatten)) := by
  obtain ⟨D, hD⟩ := lay_laid _ _ (Pm.flat_nodup hp i hi) _ _ (Nat.le_refl _) s h
  have hperm := hD.perm.flatten
  rw [List.flatten_append] at hperm
  have hnd := hperm.nodup_iff.1 (Pm.flat_nodup hq 26 (Nat.le_refl _))
  rw [List.nodup_append] at hnd
  have hin : ∀ j m, j < (Pm.cycs p i).length → m < ((Pm.cycs p i).getD j []).length → (D.getD j []).getD m 0 ∈ D.flatten := fun j m hj hm => place_flat D j m (by rw [hD.len]; exact hj) (by rw [hD.same j hj]; exact hm)
  have hD26 : ∀ b, b ∈ D.flatten → b < 26 := fun b hb => (Pm.flat_all hq b).1 (hperm.mem_iff.2 (List.mem_append.2 (.inl hb)))
  refine ⟨fun a ha => lay_out _ _ _ a (fun hm => by rw [Pm.mem_flat hp i hi, ha] at hm; cases hm) _ (Nat.le_refl _) s h, fun a ha => ?_, fun k hk => ⟨?_, fun hn => ?_⟩⟩
  · obtain ⟨j, m, hj, hm, rfl⟩ := flat_place _ a ((Pm.mem_flat hp i hi a).2 ha)
    exact ⟨_, hD26 _ (hin j m hj hm), hD.val j m hj hm⟩
  · rintro ⟨a, ha, e⟩ hks
    by_cases hm : a ∈ (Pm.cycs p i).flatten
    · obtain ⟨j, m, hj, hm', rfl⟩ := flat_place _ a hm
      rw [hD.val j m hj hm'] at e
      have e2 : (D.getD j []).getD m 0 = k := by omega
      exact hnd.2.2 _ (hin j m hj hm') k hks e2
    · rw [lay_out _ _ _ a hm _ (Nat.le_refl _) s h] at e
      omega
  · have h1 : k ∈ D.flatten ++ s.1.flatten := hperm.mem_iff.1 ((Pm.flat_all hq k).2 hk)
    rcases List.mem_append.1 h1 with h2 | h2
    · obtain ⟨j, m, hj, hm, rfl⟩ := flat_place D k h2
      rw [hD.len] at hj
      have hm2 : m < ((Pm.cycs p i).getD j []).length := by rw [← hD.same j hj]; exact hm
      exact ⟨_, cycs_flat_lt hp i hi _ (place_flat _ j m hj hm2), hD.val j m hj hm2⟩
    · exact absurd h2 hn
/-- The least letter left in a cycle of length n is the head of the first cycle left of that length. -/
theorem first_left {q : Nat → Nat} (hq : Pm.IsPerm q) (L : List (List Nat)) (hL : L.Sublist (Pm.cycs q 26)) (n : Nat) :
    (L.find? (fun d => d.length == n) = none → ∀ k, k ∈ L.flatten → Pm.len q k ≠ n) ∧
    (∀ d, L.find? (fun d => d.length == n) = some d → ∃ b, b < 26 ∧ d = Pm.cyc q b ∧ b ∈ L.flatten ∧ Pm.len q b = n ∧ ∀ k, k ∈ L.flatten → Pm.len q k = n → b ≤ k) := by
  have hh := cycs_head hq 26 (Nat.le_refl _)
  have cyl : ∀ c ∈ L, ∀ k ∈ c, Pm.len q k = c.length := fun c hc k hk => by
    obtain ⟨j, hj, rfl, _⟩ := Pm.mem_cycs q 26 c (hL.subset hc)
    rw [Pm.cyc_length, Pm.len_of_mem hq k j hj hk]
  constructor
  · intro h k hk e
    obtain ⟨c, hc, hkc⟩ := List.mem_flatten.1 hk
    have := List.find?_eq_none.1 h c hc
    rw [cyl c hc k hkc] at e
    simp at this
    exact this e
  · intro d hd
    have hm := List.mem_of_find?_eq_some hd
    have hl : d.length = n := by have := List.find?_some hd; simpa using this
    obtain ⟨b, hb, e, _⟩ := Pm.mem_cycs q 26 d (hL.subset hm)
    have hbd : b ∈ d := by rw [e]; exact Pm.cyc_self hq b hb
    refine ⟨b, hb, e, List.mem_flatten.2 ⟨d, hm, hbd⟩, by rw [cyl d hm b hbd, hl], fun k hk hkn => ?_⟩
    obtain ⟨c, hc, hkc⟩ := List.mem_flatten.1 hk
    rw [cyl c hc k hkc] at hkn
    have h1 := (hh.2 c (hL.subset hc)).2 k hkc
    have h2 : d.getD 0 0 = b := by rw [e]; exact cyc_head hq b hb
    rcases find_first _ L (List.Pairwise.sublist hL hh.1) d c hd hc (by simpa using hkn) with e3 | e3
    · subst e3; omega
    · omega
/-- What the lay begins with doesn't show in what has been laid. -/
theorem lay_two (P T : List (List Nat)) (hP : P.flatten.Nodup) (x0 x1 : Nat → Int) : ∀ k, k ≤ P.length →
    (layN P T x0 k = none ∧ layN P T x1 k = none) ∨ ∃ s s', layN P T x0 k = some s ∧ layN P T x1 k = some s' ∧ s.1 = s'.1 ∧ ∀ a, (∃ j m, j < k ∧ m < (P.getD j []).length ∧ (P.getD j []).getD m 0 = a) ∨ x0 a = x1 a → s.2 a = s'.2 a
  | 0, _ => .inr ⟨_, _, rfl, rfl, rfl, fun a h => by
    rcases h with ⟨j, m, hj, _⟩ | h
    · omega
    · exact h⟩
  | k + 1, hk => by
    rcases lay_two P T hP x0 x1 k (by omega) with ⟨h1, h2⟩ | ⟨s, s', h1, h2, h3, h4⟩
    · exact .inl ⟨by unfold layN; rw [h1]; rfl, by unfold layN; rw [h2]; rfl⟩
    · unfold layN
      rw [h1, h2]
      simp only [Option.bind_some]
      unfold layStep
      rw [← h3]
      cases h5 : s.1.find? (fun d => d.length == (P.getD k []).length) with
      | none => exact .inl ⟨rfl, rfl⟩
      | some d =>
        have hck : (P.getD k []).Nodup := List.Pairwise.sublist (List.sublist_flatten_of_mem (getD_memL P k (by omega))) hP
        refine .inr ⟨_, _, rfl, rfl, rfl, fun a h => ?_⟩
        show assignTo s.2 (P.getD k []) d (P.getD k []).length a = assignTo s'.2 (P.getD k []) d (P.getD k []).length a
        by_cases hin : ∃ m, m < (P.getD k []).length ∧ (P.getD k []).getD m 0 = a
        · obtain ⟨m, hm, rfl⟩ := hin
          rw [assign_at _ _ _ hck _ (Nat.le_refl _) m hm, assign_at _ _ _ hck _ (Nat.le_refl _) m hm]
        · have hno : ∀ m, m < (P.getD k []).length → (P.getD k []).getD m 0 ≠ a := fun m hm e => hin ⟨m, hm, e⟩
          rw [assign_out _ _ _ _ _ hno, assign_out _ _ _ _ _ hno]
          refine h4 a ?_
          rcases h with ⟨j, m, hj, hm, e⟩ | h
          · have : j ≠ k := fun e2 => by subst e2; exact hno m hm e
            exact .inl ⟨j, m, by omega, hm, e⟩
          · exact .inr h
/-- The lay of all letters, begun with -1 or with 0. -/
theorem layI_all {p q : Nat → Nat} (hp : Pm.IsPerm p) : (layI p q 26 = none ∧ betw p q = none) ∨ ∃ s y, layI p q 26 = some s ∧ betw p q = some y ∧ ∀ a, a < 26 → s.2 a = y a := by
  rcases lay_two (Pm.cycs p 26) (Pm.cycs q 26) (Pm.flat_nodup hp 26 (Nat.le_refl _)) (fun _ => -1) (fun _ => 0) _ (Nat.le_refl _) with ⟨h1, h2⟩ | ⟨s, s', h1, h2, _, h4⟩
  · exact .inl ⟨h1, by unfold betw; rw [h2]; rfl⟩
  · refine .inr ⟨s, s'.2, h1, by unfold betw; rw [h2]; rfl, fun a ha => h4 a (.inl ?_)⟩
    exact flat_place _ a ((Pm.flat_all hp a).2 ha)
theorem layI_none_mono {p q : Nat → Nat} (i : Nat) (h : layI p q i = none) : ∀ n, layI p q (i + n) = none
  | 0 => h
  | n + 1 => by
    have ih := layI_none_mono i h n
    show layI p q (i + n + 1) = none
    cases hm : Pm.met p (i + n) (i + n) with
    | true => rw [layI_met p q _ hm, ih]
    | false => rw [layI_new p q _ hm, ih]; rfl
end Go.Proofs.Ytlgjgppojdamiaa
