/-
  Plain mathematics: rules; the way of Berlekamp and Massey; the first one of the shortest registers.
-/
import Derived.Test.YtflehdigikdhmaaRgC
namespace Go.Proofs.Ytflehdigikdhmaa.Rg

/-- Nothing from place N on. -/
def Sup (r : Nat → Bool) (N : Nat) : Prop := ∀ k, N ≤ k → r k = false
theorem Sup.mono {r : Nat → Bool} {N M : Nat} (h : Sup r N) (hm : N ≤ M) : Sup r M := fun k hk => h k (by omega)
/-- The sum of a rule at bit i. -/
def rs (r s : Nat → Bool) (N i : Nat) : Bool := sx N fun k => r k && s (i - k)
theorem rs_sup {r s : Nat → Bool} {N M i : Nat} (h : Sup r N) (hm : N ≤ M) : rs r s M i = rs r s N i := sx_le hm fun k h1 _ => by rw [h k h1]; rfl
/-- One rule and, moved on by d, another one. -/
def ad (a b : Nat → Bool) (d : Nat) : Nat → Bool := fun k => xor (a k) (if k < d then false else b (k - d))
theorem ad_sup {a b : Nat → Bool} {N M d : Nat} (ha : Sup a N) (hb : Sup b M) : Sup (ad a b d) (max N (M + d)) := fun k hk => by
  unfold ad
  rw [ha k (by omega)]
  by_cases h : k < d
  · rw [if_pos h]; rfl
  · rw [if_neg h, hb (k - d) (by omega)]; rfl
theorem sx_moved (f : Nat → Bool) (d : Nat) : ∀ M, sx (d + M) (fun k => if k < d then false else f (k - d)) = sx M f
  | 0 => by
    have h := sx_le (f := fun k => if k < d then false else f (k - d)) (n := 0) (m := d + 0) (Nat.zero_le _) (fun k _ h2 => by show (if k < d then false else f (k - d)) = false; rw [if_pos (by omega)])
    rw [h]
    rfl
  | M + 1 => by
    show xor (sx (d + M) fun k => if k < d then false else f (k - d)) (if d + M < d then false else f (d + M - d)) = xor (sx M f) (f M)
    rw [sx_moved f d M, if_neg (by omega), show d + M - d = M by omega]
theorem rs_ad {a b s : Nat → Bool} {N M d K i : Nat} (ha : Sup a N) (hb : Sup b M) (h1 : N ≤ K) (h2 : M + d ≤ K) : rs (ad a b d) s K i = xor (rs a s N i) (rs b s M (i - d)) := by
  unfold rs
  have e1 : (sx K fun k => ad a b d k && s (i - k)) = sx K fun k => xor (a k && s (i - k)) (if k < d then false else b (k - d) && s (i - d - (k - d))) := sx_congr K fun k hk => by
    unfold ad
    by_cases h : k < d
    · simp only [h, if_true]
      cases a k <;> cases s (i - k) <;> rfl
    · simp only [h, if_false]
      rw [show i - d - (k - d) = i - k by omega]
      cases a k <;> cases b (k - d) <;> cases s (i - k) <;> rfl
  rw [e1, sx_xor]
  congr 1
  · exact rs_sup ha h1
  · rw [sx_le (n := d + M) (by omega) (fun k h3 _ => by
      show (if k < d then false else b (k - d) && s (i - d - (k - d))) = false
      rw [if_neg (by omega), hb (k - d) (by omega)]; rfl)]
    exact sx_moved (fun k => b k && s (i - d - k)) d M
theorem sx_head (f : Nat → Bool) : ∀ n, sx (n + 1) f = xor (f 0) (sx n fun k => f (k + 1))
  | 0 => by show xor false (f 0) = xor (f 0) false; cases f 0 <;> rfl
  | n + 1 => by
    show xor (sx (n + 1) f) (f (n + 1)) = xor (f 0) (xor (sx n fun k => f (k + 1)) (f (n + 1)))
    rw [sx_head f n]
    cases f 0 <;> cases (sx n fun k => f (k + 1)) <;> cases f (n + 1) <;> rfl
theorem at_iff {r s : Nat → Bool} {L i : Nat} (h0 : r 0 = true) : At (fun k => r (k + 1)) L s i ↔ rs r s (L + 1) i = false := by
  unfold At rs
  rw [sx_head]
  have e : (sx L fun k => r (k + 1) && s (i - (k + 1))) = sx L fun k => r (k + 1) && s (i - 1 - k) := sx_congr L fun k _ => by rw [show i - (k + 1) = i - 1 - k by omega]
  rw [h0, e]
  show s i = _ ↔ xor (true && s (i - 0)) _ = false
  rw [Nat.sub_zero]
  cases s i <;> cases (sx L fun k => r (k + 1) && s (i - 1 - k)) <;> simp
theorem makes_iff {r s : Nat → Bool} {L n : Nat} (h0 : r 0 = true) : Makes (fun k => r (k + 1)) L s n ↔ ∀ i, L ≤ i → i < n → rs r s (L + 1) i = false :=
  ⟨fun h i h1 h2 => (at_iff h0).1 (h i h1 h2), fun h i h1 h2 => (at_iff h0).2 (h i h1 h2)⟩
/-- What is known behind n bits: a shortest register's rule, and the one that was too short when it grew last. -/
structure Fdr (s : Nat → Bool) (n L : Nat) (R B : Nat → Bool) (lr lb d : Nat) : Prop where
  r0 : R 0 = true
  rsup : Sup R lr
  rlo : 1 ≤ lr
  rhi : lr ≤ L + 1
  makes : ∀ i, L ≤ i → i < n → rs R s (L + 1) i = false
  least : Least s n L
  b0 : B 0 = true
  bsup : Sup B lb
  blo : 1 ≤ lb
  dlo : 1 ≤ d
  last : (L = 0 ∧ lb = 1 ∧ d = n + 1 ∧ ∀ i, i < n → s i = false) ∨ ∃ m M, m < n ∧ M ≤ m ∧ d + m = n ∧ lb ≤ M + 1 ∧ L + M = m + 1 ∧ Least s m M ∧ (∀ i, M ≤ i → i < m → rs B s (M + 1) i = false) ∧ rs B s (M + 1) m = true
theorem Fdr.start (s : Nat → Bool) : Fdr s 0 0 (fun k => decide (k = 0)) (fun k => decide (k = 0)) 1 1 1 where
  r0 := rfl
  rsup := fun k hk => by simp; omega
  rlo := Nat.le_refl _
  rhi := Nat.le_refl _
  makes := fun i _ h => by omega
  least := ⟨⟨fun _ => false, fun i _ h2 => by omega⟩, fun M _ => Nat.zero_le _⟩
  b0 := rfl
  bsup := fun k hk => by simp; omega
  blo := Nat.le_refl _
  dlo := Nat.le_refl _
  last := .inl ⟨rfl, rfl, rfl, fun i hi => by omega⟩
theorem Fdr.lr_le {s : Nat → Bool} {n L : Nat} {R B : Nat → Bool} {lr lb d : Nat} (h : Fdr s n L R B lr lb d) : lr ≤ n + 1 := by
  have := h.least.le
  have := h.rhi
  omega
/-- How far the other one reaches. -/
theorem Fdr.reach {s : Nat → Bool} {n L : Nat} {R B : Nat → Bool} {lr lb d : Nat} (h : Fdr s n L R B lr lb d) : lb + d ≤ n + 2 := by
  rcases h.last with ⟨_, h1, h2, _⟩ | ⟨m, M, h1, h2, h3, h4, h5, _⟩ <;> omega
/-- The next bit is the register's. -/
theorem Fdr.keep {s : Nat → Bool} {n L : Nat} {R B : Nat → Bool} {lr lb d : Nat} (h : Fdr s n L R B lr lb d) (hs : rs R s lr n = false) : Fdr s (n + 1) L R B lr lb (d + 1) := by
  have hs2 : rs R s (L + 1) n = false := by rw [rs_sup h.rsup h.rhi]; exact hs
  have hm : ∀ i, L ≤ i → i < n + 1 → rs R s (L + 1) i = false := fun i h1 h2 => by
    by_cases e : i = n
    · rw [e]; exact hs2
    · exact h.makes i h1 (by omega)
  refine ⟨h.r0, h.rsup, h.rlo, h.rhi, hm, ⟨⟨_, (makes_iff h.r0).2 hm⟩, fun M ⟨c, hc⟩ => h.least.2 M ⟨c, hc.mono (by omega)⟩⟩, h.b0, h.bsup, h.blo, by omega, ?_⟩
  rcases h.last with ⟨h1, h2, h3, h4⟩ | ⟨m, M, h1, h2, h3, h4, h5⟩
  · left
    refine ⟨h1, h2, by omega, fun i hi => ?_⟩
    by_cases e : i = n
    · subst e
      have hr := hm i (by omega) (by omega)
      rw [h1] at hr
      have e2 : rs R s (0 + 1) i = s i := by
        show xor false (R 0 && s (i - 0)) = s i
        rw [h.r0]
        cases s i <;> rfl
      rw [e2] at hr
      exact hr
    · exact h4 i (by omega)
  · exact .inr ⟨m, M, by omega, h2, by omega, h4, h5⟩
/-- The next bit is not: the rule is mended. -/
theorem Fdr.mend {s : Nat → Bool} {n L : Nat} {R B : Nat → Bool} {lr lb d : Nat} (h : Fdr s n L R B lr lb d) (hs : rs R s lr n = true) :
    max lr (lb + d) ≤ max L (n + 1 - L) + 1 ∧ (∀ i, max L (n + 1 - L) ≤ i → i < n + 1 → rs (ad R B d) s (max L (n + 1 - L) + 1) i = false) ∧ Least s (n + 1) (max L (n + 1 - L)) := by
  have hs2 : rs R s (L + 1) n = true := by rw [rs_sup h.rsup h.rhi]; exact hs
  have hrhi := h.rhi
  have hle := h.least.le
  have hd := h.dlo
  have r0' : ad R B d 0 = true := by
    unfold ad
    rw [if_pos (by omega), h.r0]
    rfl
  have h1 : max lr (lb + d) ≤ max L (n + 1 - L) + 1 := by
    rcases h.last with ⟨a1, a2, a3, _⟩ | ⟨m, M, a1, a2, a3, a4, a5, _⟩ <;> omega
  have h2 : ∀ i, max L (n + 1 - L) ≤ i → i < n + 1 → rs (ad R B d) s (max L (n + 1 - L) + 1) i = false := fun i i1 i2 => by
    rcases h.last with ⟨a1, a2, a3, _⟩ | ⟨m, M, a1, a2, a3, a4, a5, _, a6, a7⟩
    · omega
    · rw [rs_ad h.rsup h.bsup (by omega) (by omega)]
      rw [rs_sup h.bsup a4] at a7
      by_cases e : i = n
      · subst e
        rw [hs, show i - d = m by omega, a7]
        rfl
      · have b1 := h.makes i (by omega) (by omega)
        rw [rs_sup h.rsup h.rhi] at b1
        have b2 := a6 (i - d) (by omega) (by omega)
        rw [rs_sup h.bsup a4] at b2
        rw [b1, b2]
        rfl
  refine ⟨h1, h2, ⟨_, (makes_iff r0').2 h2⟩, fun M ⟨c, hc⟩ => ?_⟩
  have b1 := h.least.2 M ⟨c, hc.mono (by omega)⟩
  have b2 := massey ((makes_iff h.r0).2 h.makes) hc (fun ha => by rw [(at_iff h.r0).1 ha] at hs2; cases hs2)
  omega
theorem ad_zero {a b : Nat → Bool} {d : Nat} (hd : 1 ≤ d) (h : a 0 = true) : ad a b d 0 = true := by
  unfold ad
  rw [if_pos (by omega), h]
  rfl
theorem Fdr.grow {s : Nat → Bool} {n L : Nat} {R B : Nat → Bool} {lr lb d : Nat} (h : Fdr s n L R B lr lb d) (hs : rs R s lr n = true) (hg : L < n + 1 - L) : Fdr s (n + 1) (n + 1 - L) (ad R B d) R (max lr (lb + d)) lr 1 := by
  obtain ⟨h1, h2, h3⟩ := h.mend hs
  have eK : max L (n + 1 - L) = n + 1 - L := Nat.max_eq_right (by omega)
  rw [eK] at h1 h2 h3
  have hlo := h.rlo
  have hle := h.least.le
  refine ⟨ad_zero h.dlo h.r0, ad_sup h.rsup h.bsup, by omega, h1, h2, h3, h.r0, h.rsup, h.rlo, Nat.le_refl _, .inr ⟨n, L, by omega, hle, by omega, h.rhi, by omega, h.least, h.makes, ?_⟩⟩
  rw [rs_sup h.rsup h.rhi]
  exact hs
theorem Fdr.stay {s : Nat → Bool} {n L : Nat} {R B : Nat → Bool} {lr lb d : Nat} (h : Fdr s n L R B lr lb d) (hs : rs R s lr n = true) (hg : ¬ L < n + 1 - L) : Fdr s (n + 1) L (ad R B d) B (max lr (lb + d)) lb (d + 1) := by
  obtain ⟨h1, h2, h3⟩ := h.mend hs
  have eK : max L (n + 1 - L) = L := Nat.max_eq_left (by omega)
  rw [eK] at h1 h2 h3
  have hlo := h.rlo
  refine ⟨ad_zero h.dlo h.r0, ad_sup h.rsup h.bsup, by omega, h1, h2, h3, h.b0, h.bsup, h.blo, by omega, ?_⟩
  rcases h.last with ⟨a1, a2, a3, _⟩ | ⟨m, M, a1, a2, a3, a4⟩
  · omega
  · exact .inr ⟨m, M, by omega, a2, by omega, a4⟩
/-- The taps that are free are made 0, one by one: i of them. -/
structure Fre (s : Nat → Bool) (n L d : Nat) (R : Nat → Bool) (lr i : Nat) : Prop where
  r0 : R 0 = true
  rsup : Sup R lr
  rlo : 1 ≤ lr
  rhi : lr ≤ L + 1
  makes : ∀ i, L ≤ i → i < n → rs R s (L + 1) i = false
  none : ∀ j, d ≤ j → j < d + i → R j = false
theorem Fdr.fre {s : Nat → Bool} {n L : Nat} {R B : Nat → Bool} {lr lb d : Nat} (h : Fdr s n L R B lr lb d) : Fre s n L d R lr 0 := ⟨h.r0, h.rsup, h.rlo, h.rhi, h.makes, fun j _ _ => by omega⟩
theorem Fre.skip {s : Nat → Bool} {n L d : Nat} {R : Nat → Bool} {lr i : Nat} (h : Fre s n L d R lr i) (h0 : R (d + i) = false) : Fre s n L d R lr (i + 1) := ⟨h.r0, h.rsup, h.rlo, h.rhi, h.makes, fun j h1 h2 => by
  by_cases e : j = d + i
  · rw [e]; exact h0
  · exact h.none j h1 (by omega)⟩
theorem Fdr.bound {s : Nat → Bool} {n L : Nat} {R B : Nat → Bool} {lr lb d : Nat} (h : Fdr s n L R B lr lb d) {i : Nat} (hi : i < 2 * L - n) : lb + (d + i) ≤ L + 1 := by
  rcases h.last with ⟨a1, a2, a3, _⟩ | ⟨m, M, a1, a2, a3, a4, a5, _⟩ <;> omega
theorem Fre.next {s : Nat → Bool} {n L : Nat} {R0 B : Nat → Bool} {lr0 lb d : Nat} (hF : Fdr s n L R0 B lr0 lb d) {R : Nat → Bool} {lr i : Nat} (h : Fre s n L d R lr i) (hi : i < 2 * L - n) (h1 : R (d + i) = true) : Fre s n L d (ad R B (d + i)) (max lr (lb + (d + i))) (i + 1) := by
  have hb := hF.bound hi
  have hlo := h.rlo
  have hhi := h.rhi
  have hd := hF.dlo
  refine ⟨ad_zero (by omega) h.r0, ad_sup h.rsup hF.bsup, by omega, by omega, fun q q1 q2 => ?_, fun j j1 j2 => ?_⟩
  · rw [rs_ad h.rsup hF.bsup (by omega) hb]
    have b1 := h.makes q q1 q2
    rw [rs_sup h.rsup h.rhi] at b1
    rcases hF.last with ⟨a1, a2, a3, _⟩ | ⟨m, M, a1, a2, a3, a4, a5, _, a6, a7⟩
    · omega
    · have b2 := a6 (q - (d + i)) (by omega) (by omega)
      rw [rs_sup hF.bsup a4] at b2
      rw [b1, b2]
      rfl
  · unfold ad
    by_cases e : j = d + i
    · rw [e, if_neg (by omega), Nat.sub_self, hF.b0, h1]
      rfl
    · rw [if_pos (by omega), h.none j j1 (by omega)]
      rfl
theorem rs_con {y s : Nat → Bool} {L i : Nat} (h : At y L s i) : rs (con y L) s (L + 1) i = false := by
  unfold rs
  rw [sx_con y L (fun k => s (i - k))]
  have e : (sx L fun k => y k && s (i - (k + 1))) = sx L fun k => y k && s (i - 1 - k) := sx_congr L fun k _ => by rw [show i - (k + 1) = i - 1 - k by omega]
  show xor (s (i - 0)) (sx L fun k => y k && s (i - (k + 1))) = false
  rw [e, Nat.sub_zero]
  unfold At at h
  rw [← h]
  cases s i <;> rfl
theorem Fre.first {s : Nat → Bool} {n L : Nat} {R0 B : Nat → Bool} {lr0 lb d : Nat} (hF : Fdr s n L R0 B lr0 lb d) {R : Nat → Bool} {lr : Nat} (h : Fre s n L d R lr (2 * L - n)) : First s L n fun k => R (k + 1) := by
  refine ⟨(makes_iff h.r0).2 h.makes, fun y hy j hj hc hne => ?_⟩
  have hhi := h.rhi
  have hle := hF.least.le
  have hd := hF.dlo
  have hx : R (j + 1) = false := by
    rcases hF.last with ⟨a1, _⟩ | ⟨m, M, a1, a2, a3, a4, a5, aL, a6, a7⟩
    · omega
    obtain ⟨D, hD⟩ : ∃ D : Nat → Bool, D = fun k => xor (R (k + (j + 1))) (con y L (k + (j + 1))) := ⟨_, rfl⟩
    have hDs : Sup D (L - j) := fun k hk => by
      rw [hD]
      show xor (R (k + (j + 1))) (con y L (k + (j + 1))) = false
      rw [h.rsup _ (by omega)]
      unfold con
      rw [if_neg (by omega)]
      simp
      omega
    have hD0 : D 0 = true := by
      rw [hD]
      show xor (R (0 + (j + 1))) (con y L (0 + (j + 1))) = true
      unfold con
      rw [if_neg (by omega), show 0 + (j + 1) = j + 1 by omega, show j + 1 - 1 = j by omega]
      simp only [show j + 1 ≤ L by omega, decide_true, Bool.true_and]
      have hne' : y j ≠ R (j + 1) := hne
      cases hq1 : y j <;> cases hq2 : R (j + 1) <;> rw [hq1, hq2] at hne' <;> simp at hne' ⊢
    have hZ : ∀ k, ad (fun _ => false) D (j + 1) k = xor (R k) (con y L k) := fun k => by
      unfold ad
      by_cases e : k < j + 1
      · rw [if_pos e]
        by_cases e0 : k = 0
        · rw [e0, h.r0]; rfl
        · have h1 : y (k - 1) = R (k - 1 + 1) := hc (k - 1) (by omega)
          rw [show k - 1 + 1 = k by omega] at h1
          unfold con
          rw [if_neg e0, h1]
          simp only [show k ≤ L by omega, decide_true, Bool.true_and]
          cases R k <;> rfl
      · rw [if_neg e, hD]
        show xor false (xor (R (k - (j + 1) + (j + 1))) (con y L (k - (j + 1) + (j + 1)))) = _
        rw [show k - (j + 1) + (j + 1) = k by omega]
        cases xor (R k) (con y L k) <;> rfl
    have hmk : ∀ q, L - (j + 1) ≤ q → q < n - (j + 1) → rs D s (L - (j + 1) + 1) q = false := fun q q1 q2 => by
      have b1 := h.makes (q + (j + 1)) (by omega) (by omega)
      have b2 := rs_con (hy (q + (j + 1)) (by omega) (by omega))
      have b3 := rs_ad (s := s) (a := fun _ => false) (N := 0) (K := L + 1) (i := q + (j + 1)) (d := j + 1) (fun _ _ => rfl) hDs (by omega) (by omega)
      have b4 : rs (ad (fun _ => false) D (j + 1)) s (L + 1) (q + (j + 1)) = xor (rs R s (L + 1) (q + (j + 1))) (rs (con y L) s (L + 1) (q + (j + 1))) := by
        unfold rs
        rw [← sx_xor]
        refine sx_congr _ fun k _ => ?_
        rw [hZ k]
        cases R k <;> cases con y L k <;> cases s (q + (j + 1) - k) <;> rfl
      rw [b4, b1, b2, show q + (j + 1) - (j + 1) = q by omega] at b3
      rw [show L - (j + 1) + 1 = L - j by omega]
      have b5 : rs (fun _ => false) s 0 (q + (j + 1)) = false := rfl
      rw [b5] at b3
      cases hq : rs D s (L - j) q
      · rfl
      · rw [hq] at b3; cases b3
    have hDm : Makes (fun k => D (k + 1)) (L - (j + 1)) s (n - (j + 1)) := (makes_iff hD0).2 hmk
    have bz : B 0 = true := hF.b0
    have hBm : Makes (fun k => B (k + 1)) M s m := (makes_iff bz).2 a6
    have hBf : ¬ At (fun k => B (k + 1)) M s m := fun ha => by rw [(at_iff bz).1 ha] at a7; cases a7
    have c1 : d ≤ j + 1 := by
      by_cases e : d ≤ j + 1
      · exact e
      · have := massey hBm (hDm.mono (by omega)) hBf
        omega
    have c2 : j + 1 < d + (2 * L - n) := by
      by_cases e : j + 1 < d + (2 * L - n)
      · exact e
      · exfalso
        have hall : ∀ q, n - (j + 1) ≤ q → q ≤ m → Makes (fun k => D (k + 1)) (L - (j + 1)) s q := fun q => by
          induction q with
          | zero => intro h1 _; exact hDm.mono (by omega)
          | succ q ih =>
            intro h1 h2
            by_cases e2 : n - (j + 1) ≤ q
            · have h3 := ih e2 (by omega)
              refine h3.succ fun _ => ?_
              by_cases e3 : At (fun k => D (k + 1)) (L - (j + 1)) s q
              · exact e3
              · have := massey h3 (hBm.mono (by omega)) e3
                omega
            · exact hDm.mono (by omega)
        have := aL.2 _ ⟨_, hall m (by omega) (Nat.le_refl _)⟩
        omega
    exact h.none (j + 1) c1 c2
  refine ⟨hx, ?_⟩
  have hne' : y j ≠ R (j + 1) := hne
  rw [hx] at hne'
  cases hq : y j
  · exact absurd hq hne'
  · rfl
end Go.Proofs.Ytflehdigikdhmaa.Rg
