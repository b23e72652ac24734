/-
  Plain mathematics: what the lay makes is the first of all that make the one the other's conjugate.
-/
import Derived.Test.YtlgjgppojdamiaaCLay
import Derived.Test.YtlgjgppojdamiaaPLaid
namespace Go.Proofs.Ytlgjgppojdamiaa
open Go.RowKit PK

theorem cyc_head {q : Nat → Nat} (hq : Pm.IsPerm q) (a : Nat) (ha : a < 26) : (Pm.cyc q a).getD 0 0 = a := cyc_getD q a 0 (Pm.len_is hq a ha).pos
theorem cycs_head {q : Nat → Nat} (hq : Pm.IsPerm q) : ∀ k, k ≤ 26 → (Pm.cycs q k).Pairwise (fun c c' => c.getD 0 0 < c'.getD 0 0) ∧ ∀ c ∈ Pm.cycs q k, c.getD 0 0 < k ∧ ∀ x ∈ c, c.getD 0 0 ≤ x
  | 0, _ => ⟨by simp [Pm.cycs], fun c hc => by simp [Pm.cycs] at hc⟩
  | k + 1, hk => by
    obtain ⟨h1, h2⟩ := cycs_head hq k (by omega)
    unfold Pm.cycs
    split
    · exact ⟨h1, fun c hc => ⟨by have := (h2 c hc).1; omega, (h2 c hc).2⟩⟩
    · rename_i hm
      refine ⟨?_, fun c hc => ?_⟩
      · rw [List.pairwise_append]
        refine ⟨h1, by simp, fun c hc c' hc' => ?_⟩
        simp at hc'
        subst hc'
        rw [cyc_head hq k (by omega)]
        exact (h2 c hc).1
      · rcases List.mem_append.1 hc with hc | hc
        · exact ⟨by have := (h2 c hc).1; omega, (h2 c hc).2⟩
        · simp at hc
          subst hc
          rw [cyc_head hq k (by omega)]
          refine ⟨by omega, fun x hx => Nat.le_of_not_lt fun hlt => hm ((Pm.met_iff q k k).2 ⟨x, hlt, Pm.cyc_symm hq x k (by omega) hx⟩)⟩
theorem lay_sub (P T : List (List Nat)) (x0 : Nat → Int) : ∀ k s, layN P T x0 k = some s → s.1.Sublist T
  | 0, s, h => by simp [layN] at h; subst h; exact List.Sublist.refl _
  | k + 1, s, h => by
    unfold layN at h
    cases h1 : layN P T x0 k with
    | none => rw [h1] at h; simp at h
    | some s0 =>
      rw [h1] at h
      simp only [Option.bind_some] at h
      unfold layStep at h
      cases h2 : s0.1.find? (fun d => d.length == (P.getD k []).length) with
      | none => rw [h2] at h; simp at h
      | some d =>
        rw [h2] at h
        simp at h
        subst h
        exact List.erase_sublist.trans (lay_sub P T x0 k s0 h1)
/-- What is laid stays as it is laid. -/
theorem lay_keep (P T : List (List Nat)) (hP : P.flatten.Nodup) (x0 : Nat → Int) (k : Nat) (sk : List (List Nat) × (Nat → Int)) (hk : layN P T x0 k = some sk) : ∀ n, k ≤ n → n ≤ P.length → ∀ s, layN P T x0 n = some s → ∀ j m, j < k → m < (P.getD j []).length → s.2 ((P.getD j []).getD m 0) = sk.2 ((P.getD j []).getD m 0)
  | 0, h0, _, s, h, j, m, hj, _ => by omega
  | n + 1, h0, hn, s, h, j, m, hj, hm => by
    by_cases e : k = n + 1
    · subst e
      rw [hk] at h
      rw [Option.some.inj h]
    · unfold layN at h
      cases h1 : layN P T x0 n with
      | none => rw [h1] at h; simp at h
      | some s0 =>
        rw [h1] at h
        simp only [Option.bind_some] at h
        have ih := lay_keep P T hP x0 k sk hk n (by omega) (by omega) s0 h1 j m hj hm
        unfold layStep at h
        cases h2 : s0.1.find? (fun d => d.length == (P.getD n []).length) with
        | none => rw [h2] at h; simp at h
        | some d =>
          rw [h2] at h
          simp at h
          subst h
          show assignTo s0.2 (P.getD n []) d (P.getD n []).length _ = _
          rw [assign_out s0.2 _ d _ _ (fun m' hm' e2 => by
            have := flat_inj P hP n j m' m (by omega) (by omega) hm' hm e2
            omega)]
          exact ih
theorem find_first {R : List Nat → List Nat → Prop} (f : List Nat → Bool) : ∀ (l : List (List Nat)), l.Pairwise R → ∀ d d', l.find? f = some d → d' ∈ l → f d' = true → d = d' ∨ R d d'
  | [], _, d, d', h, _, _ => by simp at h
  | c :: l, hp, d, d', h, hm, hf => by
    rw [List.pairwise_cons] at hp
    rw [List.find?_cons] at h
    cases hc : f c with
    | true =>
      rw [hc] at h
      simp at h
      subst h
      rcases List.mem_cons.1 hm with e | e
      · exact .inl e.symm
      · exact .inr (hp.1 d' e)
    | false =>
      rw [hc] at h
      rcases List.mem_cons.1 hm with e | e
      · subst e; rw [hc] at hf; cases hf
      · exact find_first f l hp.2 d d' h e hf
theorem iter_conj {p q x : Nat → Nat} (hp : Pm.IsPerm p) (hc : ∀ i, i < 26 → x (p i) = q (x i)) (a : Nat) (ha : a < 26) : ∀ k, x (Pm.iter p k a) = Pm.iter q k (x a)
  | 0 => rfl
  | k + 1 => by
    show x (p (Pm.iter p k a)) = q (Pm.iter q k (x a))
    rw [hc _ (Pm.iter_lt hp a ha k), iter_conj hp hc a ha k]
theorem lay_first {p q : Nat → Nat} (hp : Pm.IsPerm p) (hq : Pm.IsPerm q) (x0 : Nat → Int) (s : List (List Nat) × (Nat → Int)) (h : layN (Pm.cycs p 26) (Pm.cycs q 26) x0 (Pm.cycs p 26).length = some s)
    (y : Nat → Nat) (hsy : ∀ i, i < 26 → s.2 i = (y i : Nat)) (hyc : ∀ i, i < 26 → y (p i) = q (y i)) (x : Nat → Nat) (hx : Pm.IsPerm x) (hxc : ∀ i, i < 26 → x (p i) = q (x i))
    (i : Nat) (hi : i < 26) (hne : x i ≠ y i) (hbe : ∀ j, j < i → x j = y j) : y i < x i := by
  have hPn := Pm.flat_nodup hp 26 (Nat.le_refl _)
  have hhp := cycs_head hp 26 (Nat.le_refl _)
  have hhq := cycs_head hq 26 (Nat.le_refl _)
  obtain ⟨j, m, hj, hm, hpl⟩ := place hp i hi
  obtain ⟨a, ha, ea, _⟩ := Pm.mem_cycs p 26 _ (getD_memL _ j hj)
  have hla : ((Pm.cycs p 26).getD j []).length = Pm.len p a := by rw [ea, Pm.cyc_length]
  have hai : i = Pm.iter p m a := by rw [← hpl, ea]; exact cyc_getD p a m (by omega)
  have hale : a ≤ i := by
    have h1 := (hhp.2 _ (getD_memL _ j hj)).2 i (by rw [← hpl]; exact getD_mem _ m hm)
    rw [ea, cyc_head hp a ha] at h1
    exact h1
  have hia : i = a := by
    rcases Nat.lt_or_ge a i with c | c
    · have h1 := hbe a c
      have h2 := iter_conj hp hxc a ha m
      have h3 := iter_conj hp hyc a ha m
      rw [h1, ← h3, ← hai] at h2
      exact absurd h2 hne
    · omega
  have hm0 : m = 0 := by
    have h1 := Pm.cyc_nodup hp a ha
    have h2 : (Pm.cyc p a).getD m 0 = (Pm.cyc p a).getD 0 0 := by rw [cyc_head hp a ha, ← ea, hpl, hia]
    have hpos := (Pm.len_is hp a ha).pos
    have hl2 := Pm.cyc_length p a
    have e1 : (Pm.cyc p a).getD m 0 = (Pm.cyc p a)[m]'(by omega) := by simp [List.getD, (by omega : m < (Pm.cyc p a).length)]
    have e2 : (Pm.cyc p a).getD 0 0 = (Pm.cyc p a)[0]'(by omega) := by simp [List.getD, (by omega : 0 < (Pm.cyc p a).length)]
    rw [e1, e2] at h2
    exact nodup_get _ h1 m 0 (by omega) (by omega) h2
  subst hm0
  obtain ⟨sj, hsj⟩ := lay_pre _ _ x0 _ j (by omega) s h
  obtain ⟨sj1, hsj1⟩ := lay_pre _ _ x0 _ (j + 1) (by omega) s h
  have hstep : layStep sj ((Pm.cycs p 26).getD j []) = some sj1 := by
    unfold layN at hsj1
    rw [hsj] at hsj1
    simpa using hsj1
  obtain ⟨d, hfind, hse⟩ : ∃ d, sj.1.find? (fun d => d.length == ((Pm.cycs p 26).getD j []).length) = some d ∧ sj1 = (sj.1.erase d, assignTo sj.2 ((Pm.cycs p 26).getD j []) d ((Pm.cycs p 26).getD j []).length) := by
    unfold layStep at hstep
    cases h4 : sj.1.find? (fun d => d.length == ((Pm.cycs p 26).getD j []).length) with
    | none => rw [h4] at hstep; simp at hstep
    | some d =>
      rw [h4] at hstep
      simp at hstep
      exact ⟨d, rfl, hstep.symm⟩
  have hck : ((Pm.cycs p 26).getD j []).Nodup := List.Pairwise.sublist (List.sublist_flatten_of_mem (getD_memL _ j hj)) hPn
  have hyi : y i = d.getD 0 0 := by
    have h1 := lay_keep _ _ hPn x0 (j + 1) sj1 hsj1 _ (by omega) (Nat.le_refl _) s h j 0 (by omega) hm
    rw [hpl, hsy i hi, hse] at h1
    have h2 := assign_at sj.2 ((Pm.cycs p 26).getD j []) d hck _ (Nat.le_refl _) 0 hm
    rw [hpl] at h2
    have h3 := h1.trans h2
    omega
  obtain ⟨D, hD⟩ := lay_laid _ _ hPn x0 j (by omega) sj hsj
  have hxi := hx.lt i hi
  have hxT : x i ∈ (D ++ sj.1).flatten := (hD.perm.flatten.mem_iff).1 ((Pm.flat_all hq (x i)).2 hxi)
  rw [List.flatten_append, List.mem_append] at hxT
  rcases hxT with hxT | hxT
  · obtain ⟨dd, hdd, hxd⟩ := List.mem_flatten.1 hxT
    obtain ⟨j', hj', e1⟩ := List.mem_iff_getElem.1 hdd
    obtain ⟨m', hm', e2⟩ := List.mem_iff_getElem.1 hxd
    have hDj : D.getD j' [] = dd := by simp [List.getD, hj', e1]
    have hj'j : j' < j := by rw [← hD.len]; exact hj'
    have hmm : m' < ((Pm.cycs p 26).getD j' []).length := by rw [← hD.same j' hj'j, hDj]; exact hm'
    have hv := hD.val j' m' hj'j hmm
    rw [hDj] at hv
    have hkp := lay_keep _ _ hPn x0 j sj hsj _ (by omega) (Nat.le_refl _) s h j' m' hj'j hmm
    obtain ⟨a', ha', ea', _⟩ := Pm.mem_cycs p 26 _ (getD_memL (Pm.cycs p 26) j' (by omega))
    have hla' : ((Pm.cycs p 26).getD j' []).length = Pm.len p a' := by rw [ea', Pm.cyc_length]
    have hz : ((Pm.cycs p 26).getD j' []).getD m' 0 = Pm.iter p m' a' := by rw [ea']; exact cyc_getD p a' m' (by omega)
    have haa : a' < i := by
      have h1 := List.pairwise_iff_getElem.1 hhp.1 j' j (by omega) hj hj'j
      have g1 : (Pm.cycs p 26)[j'] = Pm.cyc p a' := by rw [← ea']; simp [List.getD, (by omega : j' < (Pm.cycs p 26).length)]
      have g2 : (Pm.cycs p 26)[j] = Pm.cyc p a := by rw [← ea]; simp [List.getD, hj]
      rw [g1, g2, cyc_head hp a' ha', cyc_head hp a ha] at h1
      omega
    have hxy := hbe a' haa
    have h2 := iter_conj hp hxc a' ha' m'
    have h3 := iter_conj hp hyc a' ha' m'
    rw [hxy, ← h3] at h2
    have hit := Pm.iter_lt hp a' ha' m'
    have hzlt : ((Pm.cycs p 26).getD j' []).getD m' 0 < 26 := by rw [hz]; exact hit
    have h6 := hsy _ hzlt
    have h7 : dd.getD m' 0 = x i := by rw [← e2]; simp [List.getD, hm']
    rw [hkp, hv, h7] at h6
    have h5 : x (((Pm.cycs p 26).getD j' []).getD m' 0) = x i := by
      have h9 : x (((Pm.cycs p 26).getD j' []).getD m' 0) = y (((Pm.cycs p 26).getD j' []).getD m' 0) := by rw [hz]; exact h2
      omega
    have h8 := hx.inj _ _ hzlt hi h5
    rw [← hpl] at h8
    have := flat_inj _ hPn j' j m' 0 (by omega) hj hmm hm h8
    omega
  · obtain ⟨dd, hdd, hxd⟩ := List.mem_flatten.1 hxT
    have hsub := lay_sub _ _ x0 j sj hsj
    obtain ⟨b, hb, eb, _⟩ := Pm.mem_cycs q 26 dd (hsub.subset hdd)
    have hl1 : dd.length = Pm.len q (x i) := by rw [eb, Pm.cyc_length]; rw [eb] at hxd; exact (Pm.len_of_mem hq (x i) b hb hxd).symm
    have hl2 : Pm.len q (x i) = Pm.len p i := by
      have h1 := Pm.len_is hq (x i) hxi
      have h2 := Pm.len_is hp i hi
      have h3 : Pm.IsLen q (x i) (Pm.len p i) := ⟨h2.pos, h2.le, by rw [← iter_conj hp hxc i hi, h2.ret], fun t a b e => by
        rw [← iter_conj hp hxc i hi] at e
        exact h2.min t a b (hx.inj _ _ (Pm.iter_lt hp i hi t) hi e)⟩
      exact h1.uniq h3
    have hf : (dd.length == ((Pm.cycs p 26).getD j []).length) = true := by rw [hl1, hl2, hla, hia]; simp
    have hpw := List.Pairwise.sublist hsub hhq.1
    have hdle : d.getD 0 0 ≤ dd.getD 0 0 := by
      rcases find_first _ _ hpw d dd hfind hdd hf with e | e
      · rw [e]; exact Nat.le_refl _
      · omega
    have hmin := (hhq.2 dd (hsub.subset hdd)).2 (x i) hxd
    omega
end Go.Proofs.Ytlgjgppojdamiaa
