/-
  Plain mathematics: what is written as cycles is read; the lengths of the cycles.
-/
import Derived.Test.YtlgjgppojdamiaaPPrint
import Derived.Test.YtlgjgppojdamiaaPRead
namespace Go.Proofs.Ytlgjgppojdamiaa
open Go.RowKit PK

def runOK : Rd → List UInt8 → Prop
  | _, [] => True
  | s, b :: t => s.err b.toNat = 0 ∧ runOK (s.next b.toNat) t
def runS : Rd → List UInt8 → Rd
  | s, [] => s
  | s, b :: t => runS (s.next b.toNat) t
theorem runOK_append : ∀ (a b : List UInt8) (s : Rd), runOK s (a ++ b) ↔ runOK s a ∧ runOK (runS s a) b
  | [], b, s => by simp [runOK, runS]
  | x :: a, b, s => by
    show (s.err x.toNat = 0 ∧ runOK (s.next x.toNat) (a ++ b)) ↔ (s.err x.toNat = 0 ∧ runOK (s.next x.toNat) a) ∧ runOK (runS (s.next x.toNat) a) b
    rw [runOK_append a b, and_assoc]
theorem runS_append : ∀ (a b : List UInt8) (s : Rd), runS s (a ++ b) = runS (runS s a) b
  | [], _, _ => rfl
  | x :: a, b, s => runS_append a b (s.next x.toNat)
theorem take_getD (t : List UInt8) (k : Nat) (h : k < t.length) : t.take (k + 1) = t.take k ++ [t.getD k 0] := by
  rw [List.take_succ_eq_append_getElem h]
  simp [List.getD, h]
theorem rd_run (t : List UInt8) (h : runOK rd0 t) : ∀ k, k ≤ t.length → rdErr t k = none ∧ rdN t k = runS rd0 (t.take k)
  | 0, _ => ⟨rfl, rfl⟩
  | k + 1, hk => by
    have ih := rd_run t h k (by omega)
    have hs : t = t.take (k + 1) ++ t.drop (k + 1) := (List.take_append_drop _ _).symm
    rw [hs, runOK_append, take_getD t k (by omega), runOK_append] at h
    have he : (rdN t k).err (t.getD k 0).toNat = 0 := by rw [ih.2]; exact h.1.2.1
    refine ⟨rdErr_succ t k ih.1 he, ?_⟩
    show (rdN t k).next (t.getD k 0).toNat = _
    rw [take_getD t k (by omega), runS_append, ih.2]
    rfl
theorem rd_out (t : List UInt8) (h : runOK rd0 t) (ho : (runS rd0 t).op = false) : readOut t = (Pm.up (runS rd0 t).p, 0, 0) := by
  have h1 := rd_run t h t.length (Nat.le_refl _)
  rw [List.take_length] at h1
  unfold readOut
  rw [h1.1, h1.2]
  simp [ho]
/-- The cycles 'done' have been read. -/
structure Read1 (P : Nat → Nat) (done : List Nat) (s : Rd) : Prop where
  op : s.op = false
  st : ∀ x, s.st x = done.contains x
  p : ∀ x, s.p x = if x ∈ done then P x else x
/-- j letters of a cycle have been read besides. -/
structure Read2 (P : Nat → Nat) (i : Nat) (done : List Nat) (j : Nat) (s : Rd) : Prop where
  op : s.op = true
  long : s.long = j
  first : 0 < j → s.first = i
  last : 0 < j → s.last = Pm.iter P (j - 1) i
  st : ∀ x, s.st x = (done.contains x || (List.range j).any fun k => Pm.iter P k i == x)
  p1 : 0 < j → s.p (Pm.iter P (j - 1) i) = i
  p2 : ∀ k, k + 1 < j → s.p (Pm.iter P k i) = P (Pm.iter P k i)
  p3 : ∀ x, (∀ k, k < j → Pm.iter P k i ≠ x) → s.p x = if x ∈ done then P x else x
theorem iter_ne {P : Nat → Nat} (hp : Pm.IsPerm P) (i : Nat) (hi : i < 26) (a b : Nat) (hab : a < b) (hb : b < Pm.len P i) : Pm.iter P a i ≠ Pm.iter P b i := fun e =>
  (Pm.len_is hp i hi).min (b - a) (by omega) (by omega) (Pm.iter_back hp i hi a b (by omega) e)
theorem letters_run {P : Nat → Nat} (hp : Pm.IsPerm P) (i : Nat) (hi : i < 26) (done : List Nat) (hf : ∀ x ∈ Pm.cyc P i, x ∉ done) (s : Rd) (h0 : Read2 P i done 0 s) :
    ∀ j, j ≤ Pm.len P i → runOK s ((List.range j).map fun k => lb (Pm.iter P k i)) ∧ Read2 P i done j (runS s ((List.range j).map fun k => lb (Pm.iter P k i)))
  | 0, _ => ⟨trivial, h0⟩
  | j + 1, hj => by
    obtain ⟨ih1, ih2⟩ := letters_run hp i hi done hf s h0 j (by omega)
    rw [List.range_succ, List.map_append, runOK_append, runS_append]
    generalize hs : runS s ((List.range j).map fun k => lb (Pm.iter P k i)) = s' at ih2
    have hx := Pm.iter_lt hp i hi j
    have hb : (lb (Pm.iter P j i)).toNat = 65 + Pm.iter P j i := lb_toNat _ hx
    have hne : ∀ k, k < j → Pm.iter P k i ≠ Pm.iter P j i := fun k hk => iter_ne hp i hi k j hk (by omega)
    have hst : s'.st (Pm.iter P j i) = false := by
      rw [ih2.st]
      have h1 : Pm.iter P j i ∉ done := hf _ ((Pm.mem_cyc hp i hi _).2 ⟨j, rfl⟩)
      simp [h1]
      intro k hk
      exact hne k hk
    have hsub : 65 + Pm.iter P j i - 65 = Pm.iter P j i := by omega
    have herr : s'.err (65 + Pm.iter P j i) = 0 := by
      unfold Rd.err
      rw [if_neg (by simp [ih2.op]), if_neg (by omega), if_pos ⟨ih2.op, by omega, by omega⟩, hsub, Rd.errL, if_neg (by simp [hst])]
    have hnext : s'.next (65 + Pm.iter P j i) = s'.letter (Pm.iter P j i) := by
      unfold Rd.next
      rw [if_neg (by simp [ih2.op]), if_neg (by omega), if_pos ⟨ih2.op, by omega, by omega⟩, hsub, Rd.nextL, if_neg (by simp [hst])]
    refine ⟨⟨ih1, ?_, trivial⟩, ?_⟩
    · rw [hb]; exact herr
    · show Read2 P i done (j + 1) (s'.next (lb (Pm.iter P j i)).toNat)
      rw [hb, hnext]
      have hany : ∀ x, ((List.range (j + 1)).any fun k => Pm.iter P k i == x) = (((List.range j).any fun k => Pm.iter P k i == x) || Pm.iter P j i == x) := fun x => by simp [List.range_succ, List.any_append]
      have hstx : ∀ x, upd s'.st (Pm.iter P j i) true x = (done.contains x || (List.range (j + 1)).any fun k => Pm.iter P k i == x) := fun x => by
        rw [hany, ← Bool.or_assoc, ← ih2.st x]
        by_cases e : x = Pm.iter P j i
        · subst e; simp
        · rw [upd_other _ _ e]
          have : (Pm.iter P j i == x) = false := by simp; exact fun h => e h.symm
          simp [this]
      by_cases h0j : j = 0
      · subst h0j
        have hl : s'.long = 0 := ih2.long
        have e1 : s'.letter (Pm.iter P 0 i) = { s' with st := upd s'.st i true, first := i, p := upd s'.p i i, last := i, long := 1 } := by simp [Rd.letter, hl, Pm.iter]
        rw [e1]
        refine ⟨ih2.op, rfl, fun _ => rfl, fun _ => rfl, hstx, fun _ => by simp [Pm.iter], fun k hk => by omega, fun x hx' => ?_⟩
        have hxi : x ≠ i := fun e => hx' 0 (by omega) e.symm
        show upd s'.p i i x = _
        rw [upd_other _ _ hxi]
        exact ih2.p3 x (fun k hk => by omega)
      · have hl : ¬ (s'.long = 0) := by rw [ih2.long]; exact h0j
        have e1 : s'.letter (Pm.iter P j i) = { s' with st := upd s'.st (Pm.iter P j i) true, p := upd (upd s'.p s'.last (Pm.iter P j i)) (Pm.iter P j i) s'.first, last := Pm.iter P j i, long := s'.long + 1 } := by simp [Rd.letter, hl]
        rw [e1]
        have hj0 : 0 < j := by omega
        refine ⟨ih2.op, by show s'.long + 1 = j + 1; rw [ih2.long], fun _ => ih2.first hj0, fun _ => by simp, hstx, fun _ => ?_, fun k hk => ?_, fun x hx' => ?_⟩
        · show upd (upd s'.p s'.last (Pm.iter P j i)) (Pm.iter P j i) s'.first (Pm.iter P (j + 1 - 1) i) = i
          rw [Nat.add_sub_cancel, upd_same]
          exact ih2.first hj0
        · show upd (upd s'.p s'.last (Pm.iter P j i)) (Pm.iter P j i) s'.first (Pm.iter P k i) = _
          rw [upd_other _ _ (hne k (by omega)), ih2.last hj0]
          by_cases e : k = j - 1
          · subst e
            rw [upd_same]
            have : j = (j - 1) + 1 := by omega
            rw (occs := .pos [1]) [this]
            rfl
          · rw [upd_other _ _ (iter_ne hp i hi k (j - 1) (by omega) (by omega))]
            exact ih2.p2 k (by omega)
        · show upd (upd s'.p s'.last (Pm.iter P j i)) (Pm.iter P j i) s'.first x = _
          rw [upd_other _ _ (fun e => hx' j (by omega) e.symm), ih2.last hj0, upd_other _ _ (fun e => hx' (j - 1) (by omega) e.symm)]
          exact ih2.p3 x (fun k hk => hx' k (by omega))
theorem cycle_run {P : Nat → Nat} (hp : Pm.IsPerm P) (i : Nat) (hi : i < 26) (done : List Nat) (hf : ∀ x ∈ Pm.cyc P i, x ∉ done) (s : Rd) (h : Read1 P done s) :
    runOK s (wr1 (Pm.cyc P i)) ∧ Read1 P (done ++ Pm.cyc P i) (runS s (wr1 (Pm.cyc P i))) := by
  have hl := Pm.len_is hp i hi
  have e40 : (40 : UInt8).toNat = 40 := rfl
  have e41 : (41 : UInt8).toNat = 41 := rfl
  have hmap : (Pm.cyc P i).map lb = (List.range (Pm.len P i)).map fun k => lb (Pm.iter P k i) := by simp [Pm.cyc]
  have n40 : s.next 40 = { s with op := true, long := 0 } := by unfold Rd.next; rw [if_pos ⟨h.op, rfl⟩]
  have h2 : Read2 P i done 0 (s.next 40) := by
    rw [n40]
    exact ⟨rfl, rfl, fun c => by omega, fun c => by omega, fun x => by simp [h.st x], fun c => by omega, fun k hk => by omega, fun x _ => h.p x⟩
  obtain ⟨a, b⟩ := letters_run hp i hi done hf (s.next 40) h2 (Pm.len P i) (Nat.le_refl _)
  unfold wr1
  rw [hmap, List.cons_append]
  generalize hs : runS (s.next 40) ((List.range (Pm.len P i)).map fun k => lb (Pm.iter P k i)) = s' at b
  have herr : s'.err 41 = 0 := by
    unfold Rd.err
    rw [if_neg (by simp), if_pos ⟨b.op, by rw [b.long]; exact hl.pos, rfl⟩]
  have hnext : s'.next 41 = { s' with op := false } := by
    unfold Rd.next
    rw [if_neg (by simp), if_pos ⟨b.op, by rw [b.long]; exact hl.pos, rfl⟩]
  refine ⟨⟨?_, ?_⟩, ?_⟩
  · rw [e40]; unfold Rd.err; rw [if_pos ⟨h.op, rfl⟩]
  · rw [e40, runOK_append, hs]
    exact ⟨a, by rw [e41]; exact herr, trivial⟩
  · show Read1 P _ (runS (s.next (40 : UInt8).toNat) (_ ++ [41]))
    rw [e40, runS_append, hs]
    show Read1 P _ (s'.next (41 : UInt8).toNat)
    rw [e41, hnext]
    refine ⟨rfl, fun x => ?_, fun x => ?_⟩
    · show s'.st x = _
      rw [b.st x]
      have : ((List.range (Pm.len P i)).any fun k => Pm.iter P k i == x) = (Pm.cyc P i).contains x := by
        rw [Bool.eq_iff_iff]
        simp [Pm.cyc]
      rw [this]
      simp
    · show s'.p x = _
      by_cases hx : x ∈ Pm.cyc P i
      · rw [if_pos (by simp [hx])]
        obtain ⟨k, hk, e⟩ := List.mem_map.1 hx
        simp at hk
        by_cases ek : k = Pm.len P i - 1
        · have h5 := b.p1 hl.pos
          rw [← ek, e] at h5
          rw [h5]
          have h6 := hl.ret
          have h7 : Pm.len P i = k + 1 := by omega
          rw [h7] at h6
          rw [← e]
          exact h6.symm
        · rw [← e]
          exact b.p2 k (by omega)
      · rw [b.p3 x (fun k hk e => hx ((Pm.mem_cyc hp i hi x).2 ⟨k, e⟩))]
        by_cases hd : x ∈ done
        · simp [hd]
        · simp [hd, hx]
theorem all_run {P : Nat → Nat} (hp : Pm.IsPerm P) : ∀ (ls : List (List Nat)) (done : List Nat) (s : Rd), (∀ l ∈ ls, ∃ i, i < 26 ∧ l = Pm.cyc P i) → (done ++ ls.flatten).Nodup → Read1 P done s →
    runOK s (wrAll ls) ∧ Read1 P (done ++ (ls.filter fun l => decide (1 < l.length)).flatten) (runS s (wrAll ls))
  | [], done, s, _, _, h => ⟨trivial, by simpa [wrAll, runS] using h⟩
  | l :: ls, done, s, hc, hd, h => by
    obtain ⟨i, hi, rfl⟩ := hc l (by simp)
    have hc' : ∀ l ∈ ls, ∃ i, i < 26 ∧ l = Pm.cyc P i := fun x hx => hc x (by simp [hx])
    rw [List.flatten_cons, ← List.append_assoc] at hd
    by_cases h1 : 1 < (Pm.cyc P i).length
    · have hf : ∀ x ∈ Pm.cyc P i, x ∉ done := fun x hx hx2 => by
        have := (List.nodup_append.1 (List.nodup_append.1 hd).1).2.2 x hx2 x hx
        exact this rfl
      obtain ⟨a, b⟩ := cycle_run hp i hi done hf s h
      have e1 : wrAll (Pm.cyc P i :: ls) = wr1 (Pm.cyc P i) ++ wrAll ls := by simp [wrAll, h1]
      obtain ⟨c, d⟩ := all_run hp ls (done ++ Pm.cyc P i) _ hc' hd b
      rw [e1, runOK_append, runS_append]
      refine ⟨⟨a, c⟩, ?_⟩
      have e2 : (Pm.cyc P i :: ls).filter (fun l => decide (1 < l.length)) = Pm.cyc P i :: ls.filter fun l => decide (1 < l.length) := by simp [h1]
      rw [e2, List.flatten_cons, ← List.append_assoc]
      exact d
    · have e1 : wrAll (Pm.cyc P i :: ls) = wrAll ls := by simp [wrAll, h1]
      have e2 : (Pm.cyc P i :: ls).filter (fun l => decide (1 < l.length)) = ls.filter fun l => decide (1 < l.length) := by simp [h1]
      have hd' : (done ++ ls.flatten).Nodup := by
        rw [List.nodup_append] at hd ⊢
        exact ⟨(List.nodup_append.1 hd.1).1, hd.2.1, fun a ha b hb => hd.2.2 a (by simp [ha]) b hb⟩
      obtain ⟨c, d⟩ := all_run hp ls done s hc' hd' h
      rw [e1, e2]
      exact ⟨c, d⟩
/-- What is written is read. -/
theorem print_read {P : Nat → Nat} (hp : Pm.IsPerm P) : ∃ q : Nat → Nat, readOut (wrAll (Pm.cycs P 26)) = (Pm.up q, 0, 0) ∧ ∀ x, x < 26 → q x = P x := by
  have h0 : Read1 P [] rd0 := ⟨rfl, fun x => by simp [rd0], fun x => by simp [rd0]⟩
  obtain ⟨a, b⟩ := all_run hp (Pm.cycs P 26) [] rd0 (fun l hl => by obtain ⟨i, hi, e, _⟩ := Pm.mem_cycs P 26 l hl; exact ⟨i, hi, e⟩) (by simpa using Pm.flat_nodup hp 26 (Nat.le_refl _)) h0
  refine ⟨_, rd_out _ a b.op, fun x hx => ?_⟩
  rw [b.p x]
  by_cases hm : x ∈ ([] : List Nat) ++ ((Pm.cycs P 26).filter fun l => decide (1 < l.length)).flatten
  · rw [if_pos hm]
  · rw [if_neg hm]
    have hall := (Pm.flat_all hp x).2 hx
    obtain ⟨l, hl, hxl⟩ := List.mem_flatten.1 hall
    obtain ⟨i, hi, e, _⟩ := Pm.mem_cycs P 26 l hl
    have hlen : ¬ 1 < l.length := fun h => hm (by
      simp only [List.nil_append]
      exact List.mem_flatten.2 ⟨l, List.mem_filter.2 ⟨hl, by simpa using h⟩, hxl⟩)
    subst e
    rw [Pm.cyc_length] at hlen
    have hli := Pm.len_is hp i hi
    have h1 : Pm.len P i = 1 := by have := hli.pos; omega
    have hret := hli.ret
    rw [h1] at hret
    have hxi : x = i := by
      have : Pm.cyc P i = [i] := by simp [Pm.cyc, h1, Pm.iter]
      rw [this] at hxl
      simpa using hxl
    rw [hxi]
    exact hret.symm
/-! ### The lengths -/
theorem tyDown_ge (c : Nat → Nat) : ∀ k, k ≤ 26 → ∀ x ∈ tyDown c k, 27 - k ≤ x
  | 0, _, x, h => by simp [tyDown] at h
  | k + 1, hk, x, h => by
    rcases List.mem_append.1 h with h | h
    · have := tyDown_ge c k (by omega) x h; omega
    · have := (List.mem_replicate.1 h).2; omega
theorem tyDown_sorted (c : Nat → Nat) : ∀ k, k ≤ 26 → (tyDown c k).Pairwise (fun a b => b ≤ a)
  | 0, _ => by simp [tyDown]
  | k + 1, hk => by
    show (tyDown c k ++ List.replicate (c (26 - k)) (26 - k)).Pairwise _
    rw [List.pairwise_append]
    refine ⟨tyDown_sorted c k (by omega), by simp [List.pairwise_replicate], fun a ha b hb => ?_⟩
    have h1 := tyDown_ge c k (by omega) a ha
    have h2 := (List.mem_replicate.1 hb).2
    omega
theorem tyDown_sum_snoc (ls : List (List Nat)) (l : List Nat) (h2 : l.length ≤ 26) : ∀ k, k ≤ 26 → (tyDown (cnt (ls ++ [l])) k).sum = (tyDown (cnt ls) k).sum + if 26 - k < l.length then l.length else 0
  | 0, _ => by
    rw [if_neg (by omega)]
    rfl
  | k + 1, hk => by
    have ih := tyDown_sum_snoc ls l h2 k (by omega)
    show (tyDown (cnt (ls ++ [l])) k ++ List.replicate (cnt (ls ++ [l]) (26 - k)) (26 - k)).sum = (tyDown (cnt ls) k ++ List.replicate (cnt ls (26 - k)) (26 - k)).sum + _
    rw [List.sum_append, List.sum_append, ih]
    simp only [List.sum_replicate_nat]
    have hc : cnt (ls ++ [l]) (26 - k) = cnt ls (26 - k) + if l.length = 26 - k then 1 else 0 := by
      unfold cnt
      rw [List.filter_append, List.length_append]
      by_cases e : l.length = 26 - k <;> simp [e]
    rw [hc]
    by_cases e : l.length = 26 - k
    · rw [if_pos e, if_neg (by omega), if_pos (by omega), Nat.add_mul, e]
      omega
    · rw [if_neg e]
      by_cases e2 : 26 - k < l.length
      · rw [if_pos e2, if_pos (by omega), Nat.add_zero, Nat.add_right_comm]
      · rw [if_neg e2, if_neg (by omega)]; simp
theorem tyDown_zero : ∀ k, tyDown (cnt []) k = []
  | 0 => rfl
  | k + 1 => by
    show tyDown (cnt []) k ++ List.replicate (cnt [] (26 - k)) (26 - k) = []
    rw [tyDown_zero k]
    rfl
theorem type_sum_take (ls : List (List Nat)) (h : ∀ l ∈ ls, 0 < l.length ∧ l.length ≤ 26) : ∀ k, k ≤ ls.length → (tyDown (cnt (ls.take k)) 26).sum = (ls.take k).flatten.length
  | 0, _ => by rw [List.take_zero, tyDown_zero]; rfl
  | k + 1, hk => by
    have ih := type_sum_take ls h k (by omega)
    have hl := h ls[k] (List.getElem_mem _)
    rw [List.take_succ_eq_append_getElem (by omega), tyDown_sum_snoc _ _ hl.2 26 (Nat.le_refl _), ih, if_pos (by omega), List.flatten_append, List.length_append]
    simp only [List.flatten_cons, List.flatten_nil, List.append_nil]
theorem type_sum {p : Nat → Nat} (hp : Pm.IsPerm p) : (typeOf p).sum = 26 := by
  have := type_sum_take (Pm.cycs p 26) (cycs_each hp) (Pm.cycs p 26).length (Nat.le_refl _)
  rw [List.take_length] at this
  rw [typeOf, this, Pm.flat_length hp]
end Go.Proofs.Ytlgjgppojdamiaa
