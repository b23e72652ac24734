/-
  The plain mathematics of what Group writes, read again.
-/
import Derived.Test.YtfpjjddbggjpaaaPlain
namespace Go.Proofs.Ytfpjjddbggjpaaa.Pl

/-! ### What is grouped, read again -/
def step (st : Int × Int) (c : UInt8) : Int × Int := if c.toNat = 10 then (1, 0) else if c.toNat = 32 then (st.1 + 1, 0) else (st.1, st.2 + 1)
def scan (l : List UInt8) : Int × Int := l.foldl step (1, 0)
theorem scan_snoc (l : List UInt8) (c : UInt8) : scan (l ++ [c]) = step (scan l) c := by simp [scan]
theorem scan_bd (l : List UInt8) : 1 ≤ (scan l).1 ∧ (scan l).1 ≤ l.length + 1 ∧ 0 ≤ (scan l).2 ∧ (scan l).2 ≤ l.length := by
  have H : ∀ (l : List UInt8) (st : Int × Int), 1 ≤ st.1 → 0 ≤ st.2 → 1 ≤ (l.foldl step st).1 ∧ (l.foldl step st).1 ≤ st.1 + l.length ∧ 0 ≤ (l.foldl step st).2 ∧ (l.foldl step st).2 ≤ st.2 + l.length := by
    intro l
    induction l with
    | nil => intro st h1 h2; simp; omega
    | cons c t ih =>
      intro st h1 h2
      have hs : 1 ≤ (step st c).1 ∧ (step st c).1 ≤ st.1 + 1 ∧ 0 ≤ (step st c).2 ∧ (step st c).2 ≤ st.2 + 1 := by
        unfold step
        split
        · simp; omega
        · split
          · simp; omega
          · simp; omega
      have := ih (step st c) hs.1 hs.2.2.1
      simp only [List.foldl_cons, List.length_cons]
      omega
  have := H l (1, 0) (by simp) (by simp)
  unfold scan
  simp at this
  omega
/-- Behind k letters: the last one's place. -/
def Inv (L W : Int) (k : Nat) (st : Int × Int) : Prop :=
  (k = 0 ∧ st = (1, 0)) ∨ ∃ q r a b : Int, 0 < k ∧ (k : Int) = L * q + r + 1 ∧ 0 ≤ r ∧ r < L ∧ q = W * a + b ∧ 0 ≤ b ∧ b < W ∧ st = (b + 1, r + 1)
def Fine (L W : Int) (st : Int × Int) : Prop := st.1 ≤ W ∧ st.2 ≤ L
theorem step_letter (st : Int × Int) (c : UInt8) (h : isL c.toNat = true) : step st c = (st.1, st.2 + 1) := by
  have := of_decide_eq_true (show decide _ = true from h)
  unfold step
  rw [if_neg (by omega), if_neg (by omega)]
theorem inv_step (L W : Int) (hL : 1 ≤ L) (hW : 1 ≤ W) (k : Nat) (X : List UInt8) (c : UInt8) (hc : isL c.toNat = true) (h : Inv L W k (scan X)) :
    Inv L W (k + 1) (scan (X ++ gapL L W k ++ [c])) ∧ Fine L W (scan (X ++ gapL L W k)) ∧ Fine L W (scan (X ++ gapL L W k ++ [c])) := by
  rw [scan_snoc, step_letter _ c hc]
  rcases h with ⟨rfl, hst⟩ | ⟨q, r, a, b, hk0, hk, hr0, hrL, hq, hb0, hbW, hst⟩
  · rw [gapL_no L W 0 (by omega), List.append_nil, hst]
    refine ⟨.inr ⟨0, 0, 0, 0, by omega, by simp, by omega, by omega, by simp, by omega, by omega, by simp⟩, ⟨hW, by simp; omega⟩, ⟨hW, by simp; omega⟩⟩
  · have hmul : L * (q + 1) = L * q + L := by rw [Int.mul_add, Int.mul_one]
    have hmulW : W * (a + 1) = W * a + W := by rw [Int.mul_add, Int.mul_one]
    by_cases hr : r + 1 = L
    · have hkk : (k : Int) = L * (q + 1) := by omega
      have hmod : (k : Int) % L = 0 := by rw [hkk]; exact Int.mul_emod_right _ _
      have hdiv : (k : Int) / L = q + 1 := by rw [hkk]; exact Int.mul_ediv_cancel_left _ (by omega)
      by_cases hb : b + 1 = W
      · have hg : gapL L W k = [10] := by
          unfold gapL
          rw [if_pos ⟨hk0, hmod⟩, hdiv, if_pos]
          rw [show q + 1 = W * (a + 1) by omega]
          exact Int.mul_emod_right _ _
        rw [hg, scan_snoc]
        have hs : step (scan X) 10 = (1, 0) := rfl
        rw [hs]
        refine ⟨.inr ⟨q + 1, 0, a + 1, 0, by omega, by simp only [Int.natCast_add]; omega, by omega, by omega, by omega, by omega, by omega, by simp⟩, ⟨hW, by simp; omega⟩, ⟨hW, by simp; omega⟩⟩
      · have hg : gapL L W k = [32] := by
          unfold gapL
          rw [if_pos ⟨hk0, hmod⟩, hdiv, if_neg]
          rw [show q + 1 = (b + 1) + W * a by omega, Int.add_mul_emod_self_left, Int.emod_eq_of_lt (by omega) (by omega)]
          omega
        rw [hg, scan_snoc, hst]
        have hs : step (b + 1, r + 1) 32 = (b + 1 + 1, 0) := rfl
        rw [hs]
        refine ⟨.inr ⟨q + 1, 0, a, b + 1, by omega, by simp only [Int.natCast_add]; omega, by omega, by omega, by omega, by omega, by omega, by simp⟩, ⟨by simp; omega, by simp; omega⟩, ⟨by simp; omega, by simp; omega⟩⟩
    · have hmod : ¬ (k : Int) % L = 0 := by
        rw [show (k : Int) = (r + 1) + L * q by omega, Int.add_mul_emod_self_left, Int.emod_eq_of_lt (by omega) (by omega)]
        omega
      rw [gapL_no L W k (fun h => hmod h.2), List.append_nil, hst]
      refine ⟨.inr ⟨q, r + 1, a, b, by omega, by simp only [Int.natCast_add]; omega, by omega, by omega, by omega, by omega, by omega, rfl⟩, ⟨by simp; omega, by simp; omega⟩, ⟨by simp; omega, by simp; omega⟩⟩
theorem Inv.fine {L W : Int} {k : Nat} {st : Int × Int} (hL : 1 ≤ L) (hW : 1 ≤ W) (h : Inv L W k st) : Fine L W st := by
  rcases h with ⟨_, rfl⟩ | ⟨q, r, a, b, _, _, _, _, _, _, _, rfl⟩
  · exact ⟨hW, by simp; omega⟩
  · exact ⟨by simp; omega, by simp; omega⟩
theorem at_letter (l : List UInt8) (h : Lets l) (k : Nat) (hk : k < l.length) : isL (l.getD k 0).toNat = true := by
  rw [List.getD, List.getElem?_eq_getElem hk]
  exact h _ (List.getElem_mem hk)
theorem grp_inv (L W : Int) (hL : 1 ≤ L) (hW : 1 ≤ W) (l : List UInt8) (h : Lets l) : ∀ k, k ≤ l.length → Inv L W k (scan (grp L W l k))
  | 0, _ => .inl ⟨rfl, rfl⟩
  | k + 1, hk => (inv_step L W hL hW k _ _ (at_letter l h k hk) (grp_inv L W hL hW l h k (by omega))).1
/-- However far it is read, no line has more groups, and no group more letters, than it is to. -/
theorem grp_fine (L W : Int) (hL : 1 ≤ L) (hW : 1 ≤ W) (l : List UInt8) (h : Lets l) : ∀ k, k ≤ l.length → ∀ m, Fine L W (scan ((grp L W l k).take m))
  | 0, _, m => by
    simp only [grp, List.take_nil]
    exact ⟨hW, by simp [scan]; omega⟩
  | k + 1, hk, m => by
    have hi := grp_inv L W hL hW l h k (by omega)
    have hs := inv_step L W hL hW k _ _ (at_letter l h k hk) hi
    have hg := gapL_one L W k
    rcases Nat.lt_or_ge m ((grp L W l k).length + 1) with h1 | h1
    · rw [grp, List.append_assoc, List.take_append_of_le_length (by omega)]
      exact grp_fine L W hL hW l h k (by omega) m
    · rcases Nat.lt_or_ge m (grp L W l (k + 1)).length with h2 | h2
      · have : m = (grp L W l k ++ gapL L W k).length := by
          simp only [grp, List.length_append, List.length_cons, List.length_nil] at h2
          rw [List.length_append]
          omega
        rw [grp, this, List.take_left]
        exact hs.2.1
      · rw [List.take_of_length_le h2, grp]
        exact hs.2.2
/-! ### .. and ungrouped -/
theorem gapL_gap (L W : Int) (i : Nat) : ∀ c ∈ gapL L W i, isLb c = false ∧ gapB c = true := by
  intro c hc
  unfold gapL at hc
  split at hc
  · split at hc
    · simp at hc
      subst hc
      decide
    · simp at hc
      subst hc
      decide
  · simp at hc
theorem grp_ok (L W : Int) (l : List UInt8) (h : Lets l) : ∀ k, k ≤ l.length → ∀ c ∈ grp L W l k, badU c = false
  | 0, _, c, hc => by simp [grp] at hc
  | k + 1, hk, c, hc => by
    simp only [grp, List.mem_append, List.mem_singleton] at hc
    rcases hc with (hc | hc) | hc
    · exact grp_ok L W l h k (by omega) c hc
    · have := gapL_gap L W k c hc
      simp [badU, this.1, this.2]
    · subst hc
      have hb : isLb (l.getD k 0) = true := at_letter l h k hk
      unfold badU
      rw [hb]
      rfl
theorem grp_filter (L W : Int) (l : List UInt8) (h : Lets l) : ∀ k, k ≤ l.length → (grp L W l k).filter isLb = l.take k
  | 0, _ => by simp [grp]
  | k + 1, hk => by
    have hg : (gapL L W k).filter isLb = [] := by
      rw [List.filter_eq_nil_iff]
      intro c hc
      simp [(gapL_gap L W k c hc).1]
    have hl : isLb (l.getD k 0) = true := at_letter l h k hk
    rw [grp, List.filter_append, List.filter_append, hg, grp_filter L W l h k (by omega), List.append_nil, take_snoc l k hk]
    congr 1
    rw [List.filter_cons_of_pos hl, List.filter_nil, List.getD, List.getElem?_eq_getElem hk]
    rfl
theorem grp_ungroup (L W : Int) (l : List UInt8) (h : Lets l) (hl : l.length ≤ 65536) : ungE (grp L W l l.length) = 0 ∧ ungAt (grp L W l l.length) = 0 ∧ ungS (grp L W l l.length) = l := by
  have h1 : (grp L W l l.length).findIdx? badU = none := by
    rw [List.findIdx?_eq_none_iff]
    exact grp_ok L W l h l.length (Nat.le_refl _)
  have h2 := grp_filter L W l h l.length (Nat.le_refl _)
  rw [List.take_length] at h2
  have := ung_fit _ h1 (by rw [h2]; omega)
  rw [h2] at this
  exact this
end Go.Proofs.Ytfpjjddbggjpaaa.Pl
