/-
  Plain mathematics: what is enciphered twice tells the chart.
-/
import Derived.Test.YtigamiehnjipcaaChSg
import Derived.Test.YtigamiehnjipcaaJn14
namespace Go.Proofs.Ytigamiehnjipcaa
open Go.RowKit PK Vg

structure LkI (A B p : Nat → Nat) (k : Nat) : Prop where
  yes : ∀ c, (∃ j, j < k ∧ A j = c) → (lk A B k).1 c = (p c : Nat) + 1
  no : ∀ c, (¬ ∃ j, j < k ∧ A j = c) → (lk A B k).1 c = 0
  fr : ∀ d, (¬ ∃ j, j < k ∧ B j = d) → (lk A B k).2 d = 0
  ok : lkOk A B k
theorem lk_perm {A B p : Nat → Nat} {n : Nat} (hp : Pm.IsPerm p) (hA : ∀ j, j < n → A j < 26) (hB : ∀ j, j < n → B j = p (A j)) : ∀ k, k ≤ n → LkI A B p k
  | 0, _ => ⟨fun c ⟨j, hj, _⟩ => by omega, fun _ _ => rfl, fun _ _ => rfl, fun i hi => by omega⟩
  | k + 1, hk => by
    have ih := lk_perm hp hA hB k (by omega)
    have hak := hA k (by omega)
    have hbk := hB k (by omega)
    have hsuc : lk A B (k + 1) = if (lk A B k).1 (A k) = 0 ∧ (lk A B k).2 (B k) = 0 then (upd (lk A B k).1 (A k) ((B k : Nat) + 1), upd (lk A B k).2 (B k) ((A k : Nat) + 1)) else lk A B k := rfl
    by_cases h : ∃ j, j < k ∧ A j = A k
    · have h1 := ih.yes (A k) h
      have e : lk A B (k + 1) = lk A B k := by rw [hsuc, if_neg (fun h2 => by rw [h1] at h2; omega)]
      have hsame : ∀ c, (∃ j, j < k + 1 ∧ A j = c) → ∃ j, j < k ∧ A j = c := fun c ⟨j, hj, hc⟩ => by
        by_cases e2 : j = k
        · obtain ⟨j2, hj2, h3⟩ := h
          exact ⟨j2, hj2, by rw [h3, ← e2]; exact hc⟩
        · exact ⟨j, by omega, hc⟩
      refine ⟨fun c hc => by rw [e]; exact ih.yes c (hsame c hc), fun c hc => by rw [e]; exact ih.no c (fun ⟨j, hj, h3⟩ => hc ⟨j, by omega, h3⟩), fun d hd => by rw [e]; exact ih.fr d (fun ⟨j, hj, h3⟩ => hd ⟨j, by omega, h3⟩), fun i hi => ?_⟩
      by_cases e2 : i = k
      · rw [e2, e, h1, hbk]
      · exact ih.ok i (by omega)
    · have h1 := ih.no (A k) h
      have h2 : (lk A B k).2 (B k) = 0 := ih.fr (B k) (fun ⟨j, hj, h3⟩ => by
        rw [hB j (by omega), hbk] at h3
        exact h ⟨j, hj, hp.inj _ _ (hA j (by omega)) hak h3⟩)
      have e : lk A B (k + 1) = (upd (lk A B k).1 (A k) ((B k : Nat) + 1), upd (lk A B k).2 (B k) ((A k : Nat) + 1)) := by rw [hsuc, if_pos ⟨h1, h2⟩]
      refine ⟨fun c hc => ?_, fun c hc => ?_, fun d hd => ?_, fun i hi => ?_⟩
      · rw [e]
        show upd (lk A B k).1 (A k) ((B k : Nat) + 1) c = _
        unfold upd
        by_cases e2 : c = A k
        · rw [if_pos e2, e2, hbk]
        · rw [if_neg e2]
          obtain ⟨j, hj, h3⟩ := hc
          exact ih.yes c ⟨j, by
            by_cases e3 : j = k
            · rw [e3] at h3; exact absurd h3.symm e2
            · omega, h3⟩
      · rw [e]
        show upd (lk A B k).1 (A k) ((B k : Nat) + 1) c = 0
        unfold upd
        rw [if_neg (fun e2 => hc ⟨k, by omega, e2.symm⟩)]
        exact ih.no c (fun ⟨j, hj, h3⟩ => hc ⟨j, by omega, h3⟩)
      · rw [e]
        show upd (lk A B k).2 (B k) ((A k : Nat) + 1) d = 0
        unfold upd
        rw [if_neg (fun e2 => hd ⟨k, by omega, e2.symm⟩)]
        exact ih.fr d (fun ⟨j, hj, h3⟩ => hd ⟨j, by omega, h3⟩)
      · by_cases e2 : i = k
        · rw [e2, e]
          show upd (lk A B k).1 (A k) ((B k : Nat) + 1) (A k) = _
          simp
        · exact ih.ok i (by omega)
theorem lkE_cases {A B p : Nat → Nat} {n : Nat} (hp : Pm.IsPerm p) (hA : ∀ j, j < n → A j < 26) (hB : ∀ j, j < n → B j = p (A j)) : ((∃ c, c < 26 ∧ ¬ ∃ j, j < n ∧ A j = c) ∧ lkE A B n = 6) ∨ (lkE A B n = 0 ∧ ∀ c, c < 26 → lkP A B n c = p c) := by
  have h := lk_perm hp hA hB n (Nat.le_refl _)
  by_cases hz : ∃ c, c < 26 ∧ (lk A B n).1 c = 0
  · refine .inl ⟨?_, lkE_none h.ok hz⟩
    obtain ⟨c, hc, h0⟩ := hz
    exact ⟨c, hc, fun hex => by have := h.yes c hex; omega⟩
  · refine .inr ⟨lkE_zero h.ok hz, fun c hc => ?_⟩
    have hex : ∃ j, j < n ∧ A j = c := Classical.byContradiction fun hn => hz ⟨c, hc, h.no c hn⟩
    have := h.yes c hex
    unfold lkP
    omega
/-- A letter of what is written. -/
theorem wr_at (M : Om.Ma) : ∀ (l : List UInt8) (at' : Nat → Nat) (i : Nat), i < l.length → (Om.wr M at' l).getD i 0 = ltr (Om.now M (Om.steps M at' (i + 1)) (num (l.getD i 0)))
  | [], _, i, h => by simp at h
  | c :: l, at', 0, _ => rfl
  | c :: l, at', i + 1, h => by
    have ih := wr_at M l (Om.step M at') i (by simpa using h)
    rw [Om.steps_step] at ih
    exact ih
/-- A key, enciphered twice. -/
def enc2 (M : Om.Ma) (key : List UInt8) : ByteArray := ⟨(Om.wr M M.st (key ++ key)).toArray⟩
theorem enc2_list (M : Om.Ma) (key : List UInt8) : (enc2 M key).data.toList = Om.wr M M.st (key ++ key) := rfl
theorem enc2_ok {M : Om.Ma} (hM : Om.Ok M) {key : List UInt8} (hk : Ls key) (h3 : key.length = 3) : sgE (enc2 M key).data.toList = 0 := by
  have hl : Ls (key ++ key) := fun c hc => by
    rcases List.mem_append.1 hc with h | h
    · exact hk c h
    · exact hk c h
  have hw := Om.wr_ls hM M.st hl
  have hn : (Om.wr M M.st (key ++ key)).length = 6 := by rw [Om.wr_length, List.length_append, h3]
  have hc := ck_of_ls hw (by omega)
  rw [enc2_list]
  unfold sgE
  rw [hc.1, if_neg (fun h => h rfl), hn, if_neg (by decide)]
theorem enc2_at {M : Om.Ma} (hM : Om.Ok M) {key : List UInt8} (hk : Ls key) (h3 : key.length = 3) {i : Nat} (hi : i < 3) : num ((enc2 M key).data.toList.getD i 0) = chE M i (num (key.getD i 0)) ∧ num ((enc2 M key).data.toList.getD (i + 3) 0) = chE M (i + 3) (num (key.getD i 0)) := by
  have hx : num (key.getD i 0) < 26 := num_lt (hk.at (by omega))
  have e1 : (key ++ key).getD i 0 = key.getD i 0 := by
    rw [List.getD_eq_getElem?_getD, List.getD_eq_getElem?_getD, List.getElem?_append_left (by omega)]
  have e2 : (key ++ key).getD (i + 3) 0 = key.getD i 0 := by
    rw [List.getD_eq_getElem?_getD, List.getD_eq_getElem?_getD, List.getElem?_append_right (by omega), show i + 3 - key.length = i by omega]
  rw [enc2_list, wr_at M _ _ i (by rw [List.length_append]; omega), wr_at M _ _ (i + 3) (by rw [List.length_append]; omega), e1, e2]
  exact ⟨num_ltr ((Om.now_perm hM _).lt _ hx), num_ltr ((Om.now_perm hM _).lt _ hx)⟩
/-- Messages of a day tell its chart, or not enough. -/
theorem day_tells {M : Om.Ma} (hM : Om.Ok M) {T : Nat → ByteArray} {K : Nat → List UInt8} {n : Nat} (hT : ∀ j, j < n → T j = enc2 M (K j) ∧ Ls (K j) ∧ (K j).length = 3) :
    (sgErr T n = 6 ∧ ∃ i, i < 3 ∧ ∃ c, c < 26 ∧ ¬ ∃ j, j < n ∧ chE M i (num ((K j).getD i 0)) = c) ∨ (sgErr T n = 0 ∧ sgArr T n = ints 78 (flat (chC M))) := by
  have hk : ∀ k, k ≤ n → sgK T k = 0 := fun k => by
    induction k with
    | zero => intro _; rfl
    | succ k ih =>
      intro hk
      have h := hT k (by omega)
      show (if sgK T k ≠ 0 then sgK T k else sgE (T k).data.toList) = 0
      rw [if_neg (fun e => e (ih (by omega))), h.1]
      exact enc2_ok hM h.2.1 h.2.2
  have hper : ∀ i, i < 3 → (∀ j, j < n → sgL T i j < 26) ∧ (∀ j, j < n → sgL T (i + 3) j = chC M i (sgL T i j)) ∧ ∀ j, j < n → sgL T i j = chE M i (num ((K j).getD i 0)) := fun i hi => by
    have one : ∀ j, j < n → sgL T i j = chE M i (num ((K j).getD i 0)) ∧ sgL T (i + 3) j = chE M (i + 3) (num ((K j).getD i 0)) ∧ num ((K j).getD i 0) < 26 := fun j hj => by
      have h := hT j hj
      have h2 := enc2_at hM h.2.1 h.2.2 hi
      unfold sgL
      rw [h.1]
      exact ⟨h2.1, h2.2, num_lt (h.2.1.at (by rw [h.2.2]; exact hi))⟩
    refine ⟨fun j hj => ?_, fun j hj => ?_, fun j hj => (one j hj).1⟩
    · rw [(one j hj).1]; exact (Om.now_perm hM _).lt _ (one j hj).2.2
    · rw [(one j hj).1, (one j hj).2.1]
      show chE M (i + 3) _ = chE M (i + 3) (chE M i (chE M i _))
      unfold chE
      rw [Om.now_now hM _ (one j hj).2.2]
  have hlk : ∀ i, i < 3 → ((∃ c, c < 26 ∧ ¬ ∃ j, j < n ∧ chE M i (num ((K j).getD i 0)) = c) ∧ lkE (sgL T i) (sgL T (i + 3)) n = 6) ∨ (lkE (sgL T i) (sgL T (i + 3)) n = 0 ∧ ∀ c, c < 26 → sgP T n i c = chC M i c) := fun i hi => by
    obtain ⟨a1, a2, a3⟩ := hper i hi
    rcases lkE_cases (p := chC M i) ((Om.now_perm hM _).comp (Om.now_perm hM _)) a1 a2 with ⟨⟨c, hc, h1⟩, h2⟩ | h
    · exact .inl ⟨⟨c, hc, fun ⟨j, hj, h3⟩ => h1 ⟨j, hj, by rw [a3 j hj]; exact h3⟩⟩, h2⟩
    · exact .inr h
  have h0 : sgErr T n = sg3 T n 3 := by unfold sgErr; rw [if_neg (fun h => h (hk n (Nat.le_refl _)))]
  have hs : ∀ i, i < 3 → sg3 T n (i + 1) = if sg3 T n i ≠ 0 then sg3 T n i else lkE (sgL T i) (sgL T (i + 3)) n := fun i _ => rfl
  have key : ∀ k, k ≤ 3 → (sg3 T n k = 6 ∧ ∃ i, i < 3 ∧ ∃ c, c < 26 ∧ ¬ ∃ j, j < n ∧ chE M i (num ((K j).getD i 0)) = c) ∨ (sg3 T n k = 0 ∧ ∀ i, i < k → ∀ c, c < 26 → sgP T n i c = chC M i c) := fun k => by
    induction k with
    | zero => intro _; exact .inr ⟨rfl, fun i hi => by omega⟩
    | succ k ih =>
      intro hk
      rw [hs k (by omega)]
      rcases ih (by omega) with ⟨h1, h2⟩ | ⟨h1, h2⟩
      · rw [h1, if_pos (by decide)]
        exact .inl ⟨rfl, h2⟩
      · rw [h1, if_neg (fun h => h rfl)]
        rcases hlk k (by omega) with ⟨h3, h4⟩ | ⟨h3, h4⟩
        · exact .inl ⟨h4, k, by omega, h3⟩
        · refine .inr ⟨h3, fun i hi => ?_⟩
          by_cases e : i = k
          · rw [e]; exact h4
          · exact h2 i (by omega)
  rcases key 3 (Nat.le_refl _) with ⟨h1, h2⟩ | ⟨h1, h2⟩
  · exact .inl ⟨by rw [h0, h1], h2⟩
  · refine .inr ⟨by rw [h0, h1], ?_⟩
    unfold sgArr
    rw [h0, h1, if_neg (fun h => h rfl)]
    exact ints_ext fun i hi => by
      unfold flat
      rw [h2 (i / 26) (by omega) (i % 26) (by omega)]
/-- Letters at each place of the 26 keys. -/
theorem all_there {M : Om.Ma} (hM : Om.Ok M) {K : Nat → List UInt8} (r : Int) (h0 : ∀ k, k < 26 → num ((K k).getD 0 0) = k) (h1 : ∀ k, k < 26 → ((num ((K k).getD 1 0) : Nat) : Int) = ((k : Int) * 3 + r + 26) % 26) (h2 : ∀ k, k < 26 → num ((K k).getD 2 0) = 25 - k) {i c : Nat} (hi : i < 3) (hc : c < 26) : ∃ j, j < 26 ∧ chE M i (num ((K j).getD i 0)) = c := by
  have hx : chE M i c < 26 := (Om.now_perm hM _).lt c hc
  have hxx : chE M i (chE M i c) = c := Om.now_now hM _ hc
  obtain ⟨k, hk, e⟩ : ∃ k, k < 26 ∧ num ((K k).getD i 0) = chE M i c := by
    generalize chE M i c = x at hx
    rcases (by omega : i = 0 ∨ i = 1 ∨ i = 2) with rfl | rfl | rfl
    · exact ⟨x, hx, h0 x hx⟩
    · have hk : ((9 * ((x : Int) - r)) % 26).toNat < 26 := by omega
      refine ⟨((9 * ((x : Int) - r)) % 26).toNat, hk, ?_⟩
      have := h1 _ hk
      omega
    · exact ⟨25 - x, by omega, by rw [h2 _ (by omega)]; omega⟩
  exact ⟨k, hk, by rw [e]; exact hxx⟩
end Go.Proofs.Ytigamiehnjipcaa
