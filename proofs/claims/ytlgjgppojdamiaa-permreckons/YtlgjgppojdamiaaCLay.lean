/-
  Plain mathematics: what the lay makes is a permutation, and makes the one the other's conjugate.
-/
import Derived.Test.YtlgjgppojdamiaaCMath
namespace Go.Proofs.Ytlgjgppojdamiaa
open Go.RowKit PK

theorem nodup_get (c : List Nat) (hc : c.Nodup) (i j : Nat) (hi : i < c.length) (hj : j < c.length) (e : c[i] = c[j]) : i = j := by
  have hp := List.pairwise_iff_getElem.1 hc
  rcases Nat.lt_trichotomy i j with h | h | h
  · exact absurd e (hp i j hi hj h)
  · exact h
  · exact absurd e.symm (hp j i hj hi h)
theorem assign_out (x : Nat → Int) (c d : List Nat) (y : Nat) : ∀ m, (∀ j, j < m → c.getD j 0 ≠ y) → assignTo x c d m y = x y
  | 0, _ => rfl
  | m + 1, h => by
    show upd (assignTo x c d m) (c.getD m 0) (d.getD m 0 : Nat) y = x y
    rw [upd_other _ _ (fun e => h m (by omega) e.symm)]
    exact assign_out x c d y m (fun j hj => h j (by omega))
theorem assign_at (x : Nat → Int) (c d : List Nat) (hc : c.Nodup) : ∀ m, m ≤ c.length → ∀ j, j < m → assignTo x c d m (c.getD j 0) = (d.getD j 0 : Nat)
  | 0, _, j, h => by omega
  | m + 1, hm, j, h => by
    show upd (assignTo x c d m) (c.getD m 0) (d.getD m 0 : Nat) (c.getD j 0) = _
    by_cases e : j = m
    · subst e; rw [upd_same]
    · have hne : c.getD j 0 ≠ c.getD m 0 := fun e2 => by
        have h1 : c.getD j 0 = c[j]'(by omega) := by simp [List.getD, (by omega : j < c.length)]
        have h2 : c.getD m 0 = c[m]'(by omega) := by simp [List.getD, (by omega : m < c.length)]
        rw [h1, h2] at e2
        exact e (nodup_get c hc j m (by omega) (by omega) e2)
      rw [upd_other _ _ hne]
      exact assign_at x c d hc m (by omega) j (by omega)
theorem getD_mem (c : List Nat) (j : Nat) (h : j < c.length) : c.getD j 0 ∈ c := by
  have : c.getD j 0 = c[j] := by simp [List.getD, h]
  rw [this]
  exact List.getElem_mem h
theorem getD_memL (P : List (List Nat)) (j : Nat) (h : j < P.length) : P.getD j [] ∈ P := by
  have : P.getD j [] = P[j] := by simp [List.getD, h]
  rw [this]
  exact List.getElem_mem h
/-- In lists without a letter twice a letter stands at one place alone. -/
theorem flat_inj : ∀ (P : List (List Nat)), P.flatten.Nodup → ∀ j j' m m', j < P.length → j' < P.length → m < (P.getD j []).length → m' < (P.getD j' []).length → (P.getD j []).getD m 0 = (P.getD j' []).getD m' 0 → j = j' ∧ m = m'
  | [], _, j, _, _, _, h, _, _, _, _ => by simp at h
  | c :: P, hn, j, j', m, m', hj, hj', hm, hm', e => by
    rw [List.flatten_cons, List.nodup_append] at hn
    obtain ⟨hc, hP, hdis⟩ := hn
    have hin : ∀ j m, j < P.length → m < (P.getD j []).length → (P.getD j []).getD m 0 ∈ P.flatten := fun j m hj hm => List.mem_flatten.2 ⟨P.getD j [], getD_memL P j hj, getD_mem _ m hm⟩
    cases j with
    | zero =>
      cases j' with
      | zero =>
        simp only [List.getD_cons_zero] at hm hm' e
        have h1 : c.getD m 0 = c[m] := by simp [List.getD, hm]
        have h2 : c.getD m' 0 = c[m'] := by simp [List.getD, hm']
        rw [h1, h2] at e
        exact ⟨rfl, nodup_get c hc m m' hm hm' e⟩
      | succ j' =>
        simp only [List.getD_cons_zero, List.getD_cons_succ] at hm hm' e
        exact absurd e (hdis _ (getD_mem c m hm) _ (hin j' m' (by simpa using hj') hm'))
    | succ j =>
      cases j' with
      | zero =>
        simp only [List.getD_cons_zero, List.getD_cons_succ] at hm hm' e
        exact absurd e.symm (hdis _ (getD_mem c m' hm') _ (hin j m (by simpa using hj) hm))
      | succ j' =>
        simp only [List.getD_cons_succ] at hm hm' e
        have := flat_inj P hP j j' m m' (by simpa using hj) (by simpa using hj') hm hm' e
        exact ⟨by rw [this.1], this.2⟩
structure Laid (P T : List (List Nat)) (k : Nat) (s : List (List Nat) × (Nat → Int)) (D : List (List Nat)) : Prop where
  len : D.length = k
  perm : T.Perm (D ++ s.1)
  same : ∀ j, j < k → (D.getD j []).length = (P.getD j []).length
  val : ∀ j m, j < k → m < (P.getD j []).length → s.2 ((P.getD j []).getD m 0) = ((D.getD j []).getD m 0 : Nat)
theorem lay_laid (P T : List (List Nat)) (hP : P.flatten.Nodup) (x0 : Nat → Int) : ∀ k, k ≤ P.length → ∀ s, layN P T x0 k = some s → ∃ D, Laid P T k s D
  | 0, _, s, h => by
    simp [layN] at h
    subst h
    exact ⟨[], rfl, by simp, fun j hj => by omega, fun j m hj => by omega⟩
  | k + 1, hk, s, h => by
    unfold layN at h
    cases h1 : layN P T x0 k with
    | none => rw [h1] at h; simp at h
    | some s0 =>
      rw [h1] at h
      simp only [Option.bind_some] at h
      obtain ⟨D, ih⟩ := lay_laid P T hP x0 k (by omega) s0 h1
      unfold layStep at h
      cases h2 : s0.1.find? (fun d => d.length == (P.getD k []).length) with
      | none => rw [h2] at h; simp at h
      | some d =>
        rw [h2] at h
        simp at h
        subst h
        have hd := List.mem_of_find?_eq_some h2
        have hl : d.length = (P.getD k []).length := by have := List.find?_some h2; simpa using this
        have hDk : ∀ j, j < k → (D ++ [d]).getD j [] = D.getD j [] := fun j hj => by simp [List.getD, List.getElem?_append_left (by rw [ih.len]; exact hj)]
        have hDd : (D ++ [d]).getD k [] = d := by rw [← ih.len]; simp [List.getD]
        have hck : (P.getD k []).Nodup := by
          have hsub : (P.getD k []).Sublist P.flatten := List.sublist_flatten_of_mem (getD_memL P k (by omega))
          exact List.Pairwise.sublist hsub hP
        refine ⟨D ++ [d], by simp [ih.len], ?_, fun j hj => ?_, fun j m hj hm => ?_⟩
        · refine ih.perm.trans ?_
          rw [List.append_assoc]
          exact List.Perm.append_left D (List.perm_cons_erase hd)
        · by_cases e : j = k
          · subst e; rw [hDd, hl]
          · rw [hDk j (by omega)]; exact ih.same j (by omega)
        · show assignTo s0.2 (P.getD k []) d (P.getD k []).length ((P.getD j []).getD m 0) = _
          by_cases e : j = k
          · subst e
            rw [hDd]
            exact assign_at s0.2 _ d hck _ (Nat.le_refl _) m hm
          · rw [hDk j (by omega), assign_out s0.2 _ d _ _ (fun m' hm' e2 => by
              have := flat_inj P hP k j m' m (by omega) (by omega) hm' hm e2
              omega)]
            exact ih.val j m (by omega) hm

/-- Where a letter stands among the cycles. -/
theorem place {p : Nat → Nat} (hp : Pm.IsPerm p) (i : Nat) (hi : i < 26) : ∃ j m, j < (Pm.cycs p 26).length ∧ m < ((Pm.cycs p 26).getD j []).length ∧ ((Pm.cycs p 26).getD j []).getD m 0 = i := by
  obtain ⟨l, hl, hil⟩ := List.mem_flatten.1 ((Pm.flat_all hp i).2 hi)
  obtain ⟨j, hj, e⟩ := List.mem_iff_getElem.1 hl
  obtain ⟨m, hm, e2⟩ := List.mem_iff_getElem.1 hil
  have h1 : (Pm.cycs p 26).getD j [] = l := by simp [List.getD, hj, e]
  refine ⟨j, m, hj, by rw [h1]; exact hm, ?_⟩
  rw [h1]
  simp [List.getD, hm, e2]
theorem cyc_getD (p : Nat → Nat) (a m : Nat) (hm : m < Pm.len p a) : (Pm.cyc p a).getD m 0 = Pm.iter p m a := by
  simp [List.getD, Pm.cyc, hm]
/-- The next one of a cycle. -/
theorem cyc_next {p : Nat → Nat} (hp : Pm.IsPerm p) (a m : Nat) (ha : a < 26) (hm : m < Pm.len p a) : p ((Pm.cyc p a).getD m 0) = (Pm.cyc p a).getD (if m + 1 = Pm.len p a then 0 else m + 1) 0 := by
  have hl := Pm.len_is hp a ha
  rw [cyc_getD p a m hm]
  by_cases e : m + 1 = Pm.len p a
  · rw [if_pos e, cyc_getD p a 0 hl.pos]
    show Pm.iter p (m + 1) a = a
    rw [e]; exact hl.ret
  · rw [if_neg e, cyc_getD p a (m + 1) (by omega)]
    rfl
/-- What the lay makes. -/
theorem lay_perm {p q : Nat → Nat} (hp : Pm.IsPerm p) (hq : Pm.IsPerm q) (x0 : Nat → Int) (s : List (List Nat) × (Nat → Int)) (h : layN (Pm.cycs p 26) (Pm.cycs q 26) x0 (Pm.cycs p 26).length = some s) :
    ∃ y, Pm.IsPerm y ∧ (∀ i, i < 26 → s.2 i = (y i : Nat)) ∧ ∀ i, i < 26 → y (p i) = q (y i) := by
  obtain ⟨D, hD⟩ := lay_laid (Pm.cycs p 26) (Pm.cycs q 26) (Pm.flat_nodup hp 26 (Nat.le_refl _)) x0 _ (Nat.le_refl _) s h
  have hDmem : ∀ d ∈ D, d ∈ Pm.cycs q 26 := fun d hd => hD.perm.mem_iff.2 (List.mem_append.2 (.inl hd))
  have hDn : D.flatten.Nodup := by
    have h1 := (hD.perm.flatten).nodup_iff.1 (Pm.flat_nodup hq 26 (Nat.le_refl _))
    rw [List.flatten_append, List.nodup_append] at h1
    exact h1.1
  have hDj : ∀ j, j < (Pm.cycs p 26).length → ∃ b, b < 26 ∧ D.getD j [] = Pm.cyc q b := fun j hj => by
    obtain ⟨b, hb, e, _⟩ := Pm.mem_cycs q 26 _ (hDmem _ (getD_memL D j (by rw [hD.len]; exact hj)))
    exact ⟨b, hb, e⟩
  have hPj : ∀ j, j < (Pm.cycs p 26).length → ∃ a, a < 26 ∧ (Pm.cycs p 26).getD j [] = Pm.cyc p a := fun j hj => by
    obtain ⟨a, ha, e, _⟩ := Pm.mem_cycs p 26 _ (getD_memL _ j hj)
    exact ⟨a, ha, e⟩
  have hval : ∀ j m, j < (Pm.cycs p 26).length → m < ((Pm.cycs p 26).getD j []).length → (s.2 (((Pm.cycs p 26).getD j []).getD m 0)).toNat = (D.getD j []).getD m 0 := fun j m hj hm => by
    rw [hD.val j m hj hm]
    simp
  refine ⟨fun i => (s.2 i).toNat, ⟨fun i hi => ?_, fun i i' hi hi' e => ?_⟩, fun i hi => ?_, fun i hi => ?_⟩
  · obtain ⟨j, m, hj, hm, rfl⟩ := place hp i hi
    show (s.2 _).toNat < 26
    rw [hval j m hj hm]
    obtain ⟨b, hb, e⟩ := hDj j hj
    have hm' : m < (D.getD j []).length := by rw [hD.same j hj]; exact hm
    rw [e] at hm' ⊢
    exact Pm.cyc_lt hq b hb _ (getD_mem _ m hm')
  · obtain ⟨j, m, hj, hm, rfl⟩ := place hp i hi
    obtain ⟨j', m', hj', hm', rfl⟩ := place hp i' hi'
    have e' : (s.2 (((Pm.cycs p 26).getD j []).getD m 0)).toNat = (s.2 (((Pm.cycs p 26).getD j' []).getD m' 0)).toNat := e
    rw [hval j m hj hm, hval j' m' hj' hm'] at e'
    have := flat_inj D hDn j j' m m' (by rw [hD.len]; exact hj) (by rw [hD.len]; exact hj') (by rw [hD.same j hj]; exact hm) (by rw [hD.same j' hj']; exact hm') e'
    rw [this.1, this.2]
  · obtain ⟨j, m, hj, hm, rfl⟩ := place hp i hi
    show s.2 _ = (((s.2 _).toNat : Nat) : Int)
    rw [hD.val j m hj hm]
    simp
  · obtain ⟨j, m, hj, hm, rfl⟩ := place hp i hi
    obtain ⟨a, ha, ea⟩ := hPj j hj
    obtain ⟨b, hb, eb⟩ := hDj j hj
    have hs := hD.same j hj
    show (s.2 (p (((Pm.cycs p 26).getD j []).getD m 0))).toNat = q ((s.2 (((Pm.cycs p 26).getD j []).getD m 0)).toNat)
    rw [hval j m hj hm]
    have hla : ((Pm.cycs p 26).getD j []).length = Pm.len p a := by rw [ea, Pm.cyc_length]
    have hlb : (D.getD j []).length = Pm.len q b := by rw [eb, Pm.cyc_length]
    have hab : Pm.len q b = Pm.len p a := by omega
    have hma : m < Pm.len p a := by omega
    have h1 := cyc_next hp a m ha hma
    have h2 := cyc_next hq b m hb (by omega)
    rw [← ea] at h1
    rw [← eb, hab] at h2
    rw [h1, h2]
    have hpos := (Pm.len_is hp a ha).pos
    exact hval j _ hj (by rw [hla]; split <;> omega)
end Go.Proofs.Ytlgjgppojdamiaa
