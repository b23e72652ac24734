/-
  Several texts, joined: ZMath, ZSheet.
-/
import Derived.Test.YthfjkhmedpilnaaJn19
import Derived.Test.YthfjkhmedpilnaaJn16
/-
  Squares of letters: the mathematics.
-/
namespace Go.Proofs.Ythfjkhmedpilnaa.Zq
open Vg

/-- J is written as I. -/
def jI (c : UInt8) : UInt8 := if c = 74 then 73 else c
def alpha : List UInt8 := [65, 66, 67, 68, 69, 70, 71, 72, 73, 75, 76, 77, 78, 79, 80, 81, 82, 83, 84, 85, 86, 87, 88, 89, 90]
/-- Letters without J. -/
def Nj (l : List UInt8) : Prop := ∀ c ∈ l, (65 ≤ c.toNat ∧ c.toNat ≤ 90) ∧ c ≠ 74
theorem jI_ok {c : UInt8} (h : 65 ≤ c.toNat ∧ c.toNat ≤ 90) : (65 ≤ (jI c).toNat ∧ (jI c).toNat ≤ 90) ∧ jI c ≠ 74 := by
  unfold jI
  by_cases e : c = 74
  · rw [if_pos e]; decide
  · rw [if_neg e]; exact ⟨h, e⟩
theorem jI_id {c : UInt8} (h : c ≠ 74) : jI c = c := by unfold jI; rw [if_neg h]
theorem nj_map {l : List UInt8} (h : Ls l) : Nj (l.map jI) := fun c hc => by
  obtain ⟨d, hd, rfl⟩ := List.mem_map.1 hc
  exact jI_ok (h d hd)
theorem map_nj {l : List UInt8} (h : Nj l) : l.map jI = l := by
  induction l with
  | nil => rfl
  | cons c l ih =>
    rw [List.map_cons, jI_id (h c (by simp)).2, ih fun d hd => h d (by simp [hd])]
theorem mem_alpha (c : UInt8) : c ∈ alpha ↔ (65 ≤ c.toNat ∧ c.toNat ≤ 90) ∧ c ≠ 74 := by
  have h : ∀ n : Fin 256, (UInt8.ofNat n.val) ∈ alpha ↔ (65 ≤ (UInt8.ofNat n.val).toNat ∧ (UInt8.ofNat n.val).toNat ≤ 90) ∧ (UInt8.ofNat n.val) ≠ 74 := by decide +kernel
  have := h ⟨c.toNat, c.toNat_lt⟩
  simpa using this
theorem alpha_nodup : alpha.Nodup := by decide
/-- A letter is laid behind the others, if it isn't there. -/
def addN (out : List UInt8) (c : UInt8) : List UInt8 := if c ∈ out then out else out ++ [c]
def layN (out l : List UInt8) : List UInt8 := l.foldl addN out
def laid (key : List UInt8) : List UInt8 := layN [] ((key ++ alpha).map jI)
theorem addN_mem (out : List UInt8) (c d : UInt8) : d ∈ addN out c ↔ d ∈ out ∨ d = c := by
  unfold addN
  by_cases h : c ∈ out
  · rw [if_pos h]
    exact ⟨.inl, fun hd => hd.elim id (fun e => e ▸ h)⟩
  · rw [if_neg h]; simp
theorem addN_nodup {out : List UInt8} {c : UInt8} (h : out.Nodup) : (addN out c).Nodup := by
  unfold addN
  by_cases hc : c ∈ out
  · rw [if_pos hc]; exact h
  · rw [if_neg hc, List.nodup_append]
    exact ⟨h, by simp, fun a ha b hb e => by simp at hb; subst hb; subst e; exact hc ha⟩
theorem layN_mem : ∀ (l out : List UInt8) (d : UInt8), d ∈ layN out l ↔ d ∈ out ∨ d ∈ l
  | [], out, d => by simp [layN]
  | c :: l, out, d => by
    show d ∈ layN (addN out c) l ↔ _
    rw [layN_mem l, addN_mem]
    simp [or_assoc]
theorem layN_nodup : ∀ (l out : List UInt8), out.Nodup → (layN out l).Nodup
  | [], _, h => h
  | _ :: l, _, h => layN_nodup l _ (addN_nodup h)
theorem laid_mem {key : List UInt8} (h : Ls key) (d : UInt8) : d ∈ laid key ↔ d ∈ alpha := by
  unfold laid
  rw [layN_mem]
  constructor
  · rintro (hd | hd)
    · simp at hd
    · obtain ⟨c, hc, rfl⟩ := List.mem_map.1 hd
      rcases List.mem_append.1 hc with hc | hc
      · exact (mem_alpha _).2 (jI_ok (h c hc))
      · exact (mem_alpha _).2 (jI_ok ((mem_alpha c).1 hc).1)
  · intro hd
    refine .inr (List.mem_map.2 ⟨d, List.mem_append.2 (.inr hd), jI_id ((mem_alpha d).1 hd).2⟩)
theorem laid_nodup (key : List UInt8) : (laid key).Nodup := layN_nodup _ _ (by simp)
theorem nodup_le : ∀ (a b : List UInt8), a.Nodup → (∀ x ∈ a, x ∈ b) → a.length ≤ b.length
  | [], _, _, _ => by simp
  | x :: a, b, hn, hs => by
    have hx := hs x (by simp)
    have hn' := List.nodup_cons.1 hn
    have := nodup_le a (b.erase x) hn'.2 (fun y hy => (List.mem_erase_of_ne (fun (e : y = x) => hn'.1 (by rw [← e]; exact hy))).2 (hs y (by simp [hy])))
    rw [List.length_erase_of_mem hx] at this
    have : 0 < b.length := List.length_pos_of_mem hx
    simp only [List.length_cons]
    omega
theorem laid_length {key : List UInt8} (h : Ls key) : (laid key).length = 25 := by
  have h1 := nodup_le (laid key) alpha (laid_nodup key) (fun x hx => (laid_mem h x).1 hx)
  have h2 := nodup_le alpha (laid key) alpha_nodup (fun x hx => (laid_mem h x).2 hx)
  have h3 : alpha.length = 25 := rfl
  omega
/-- Where a letter stands. -/
def at' (s : List UInt8) (c : UInt8) : Nat := s.idxOf c
theorem at_lt {s : List UInt8} {c : UInt8} (h : c ∈ s) : at' s c < s.length := List.idxOf_lt_length_of_mem h
theorem at_get {s : List UInt8} {c : UInt8} (h : c ∈ s) : s.getD (at' s c) 0 = c := by
  rw [getD_some (at_lt h)]
  exact List.getElem_idxOf (at_lt h)
theorem get_at {s : List UInt8} (hn : s.Nodup) {i : Nat} (hi : i < s.length) : at' s (s.getD i 0) = i := by
  rw [getD_some hi]
  exact List.Nodup.idxOf_getElem hn i hi
theorem at_inj {s : List UInt8} {c d : UInt8} (hc : c ∈ s) (hd : d ∈ s) (e : at' s c = at' s d) : c = d := by rw [← at_get hc, e, at_get hd]

/-- What two places become, and where they come from. -/
def pairP (i j : Nat) : Nat × Nat :=
  if i / 5 = j / 5 then (5 * (i / 5) + (i % 5 + 1) % 5, 5 * (j / 5) + (j % 5 + 1) % 5)
  else if i % 5 = j % 5 then (5 * ((i / 5 + 1) % 5) + i % 5, 5 * ((j / 5 + 1) % 5) + j % 5)
  else (5 * (i / 5) + j % 5, 5 * (j / 5) + i % 5)
def unP (i j : Nat) : Nat × Nat :=
  if i / 5 = j / 5 then (5 * (i / 5) + (i % 5 + 4) % 5, 5 * (j / 5) + (j % 5 + 4) % 5)
  else if i % 5 = j % 5 then (5 * ((i / 5 + 4) % 5) + i % 5, 5 * ((j / 5 + 4) % 5) + j % 5)
  else (5 * (i / 5) + j % 5, 5 * (j / 5) + i % 5)
theorem pairP_all : ∀ i : Fin 25, ∀ j : Fin 25, (pairP i j).1 < 25 ∧ (pairP i j).2 < 25 ∧ (i ≠ j → (pairP i j).1 ≠ (pairP i j).2 ∧ (pairP i j).1 ≠ i.val ∧ (pairP i j).2 ≠ j.val ∧ unP (pairP i j).1 (pairP i j).2 = (i.val, j.val)) ∧ pairP j i = ((pairP i j).2, (pairP i j).1) := by decide +kernel
theorem unP_all : ∀ i : Fin 25, ∀ j : Fin 25, (unP i j).1 < 25 ∧ (unP i j).2 < 25 ∧ (i ≠ j → (unP i j).1 ≠ (unP i j).2 ∧ pairP (unP i j).1 (unP i j).2 = (i.val, j.val)) := by decide +kernel
theorem pairP_ok {i j : Nat} (hi : i < 25) (hj : j < 25) : (pairP i j).1 < 25 ∧ (pairP i j).2 < 25 ∧ (i ≠ j → (pairP i j).1 ≠ (pairP i j).2 ∧ (pairP i j).1 ≠ i ∧ (pairP i j).2 ≠ j ∧ unP (pairP i j).1 (pairP i j).2 = (i, j)) ∧ pairP j i = ((pairP i j).2, (pairP i j).1) := by
  have h := pairP_all ⟨i, hi⟩ ⟨j, hj⟩
  exact ⟨h.1, h.2.1, fun e => h.2.2.1 (fun e2 => e (by simpa using congrArg Fin.val e2)), h.2.2.2⟩
theorem unP_ok {i j : Nat} (hi : i < 25) (hj : j < 25) : (unP i j).1 < 25 ∧ (unP i j).2 < 25 ∧ (i ≠ j → (unP i j).1 ≠ (unP i j).2 ∧ pairP (unP i j).1 (unP i j).2 = (i, j)) := by
  have h := unP_all ⟨i, hi⟩ ⟨j, hj⟩
  exact ⟨h.1, h.2.1, fun e => h.2.2 (fun e2 => e (by simpa using congrArg Fin.val e2))⟩
/-- What two letters become in a square, and where they come from. -/
def enc (s : List UInt8) (a b : UInt8) : UInt8 × UInt8 := (s.getD (pairP (at' s a) (at' s b)).1 0, s.getD (pairP (at' s a) (at' s b)).2 0)
def dec (s : List UInt8) (a b : UInt8) : UInt8 × UInt8 := (s.getD (unP (at' s a) (at' s b)).1 0, s.getD (unP (at' s a) (at' s b)).2 0)
/-- A square: 25 letters, each once. -/
structure Sq (s : List UInt8) : Prop where
  len : s.length = 25
  nodup : s.Nodup
  mem : ∀ c, c ∈ s ↔ c ∈ alpha
theorem sq_laid {key : List UInt8} (h : Ls key) : Sq (laid key) := ⟨laid_length h, laid_nodup key, laid_mem h⟩
theorem Sq.get {s : List UInt8} (h : Sq s) {i : Nat} (hi : i < 25) : s.getD i 0 ∈ s ∧ at' s (s.getD i 0) = i := by
  have hl := h.len
  exact ⟨by rw [getD_some (by omega)]; exact List.getElem_mem _, get_at h.nodup (by omega)⟩
theorem Sq.at_lt {s : List UInt8} (h : Sq s) {c : UInt8} (hc : c ∈ s) : at' s c < 25 := by have := Zq.at_lt hc; rw [h.len] at this; exact this
theorem enc_ok {s : List UInt8} (h : Sq s) {a b : UInt8} (ha : a ∈ s) (hb : b ∈ s) (hab : a ≠ b) :
    (enc s a b).1 ∈ s ∧ (enc s a b).2 ∈ s ∧ (enc s a b).1 ≠ (enc s a b).2 ∧ (enc s a b).1 ≠ a ∧ (enc s a b).2 ≠ b ∧ dec s (enc s a b).1 (enc s a b).2 = (a, b) ∧ enc s b a = ((enc s a b).2, (enc s a b).1) := by
  have hi := h.at_lt ha
  have hj := h.at_lt hb
  have hij : at' s a ≠ at' s b := fun e => hab (at_inj ha hb e)
  obtain ⟨p1, p2, p3, p4⟩ := pairP_ok hi hj
  obtain ⟨q1, q2, q3, q4⟩ := p3 hij
  have g1 := h.get p1
  have g2 := h.get p2
  refine ⟨g1.1, g2.1, fun e => q1 ?_, fun e => q2 ?_, fun e => q3 ?_, ?_, ?_⟩
  · rw [← g1.2, ← g2.2]; exact congrArg (at' s) e
  · rw [← g1.2]; exact congrArg (at' s) e
  · rw [← g2.2]; exact congrArg (at' s) e
  · unfold dec enc
    simp only
    rw [g1.2, g2.2, q4, at_get ha, at_get hb]
  · unfold enc
    rw [p4]
theorem dec_ok {s : List UInt8} (h : Sq s) {a b : UInt8} (ha : a ∈ s) (hb : b ∈ s) (hab : a ≠ b) :
    (dec s a b).1 ∈ s ∧ (dec s a b).2 ∈ s ∧ (dec s a b).1 ≠ (dec s a b).2 ∧ enc s (dec s a b).1 (dec s a b).2 = (a, b) := by
  have hi := h.at_lt ha
  have hj := h.at_lt hb
  have hij : at' s a ≠ at' s b := fun e => hab (at_inj ha hb e)
  obtain ⟨p1, p2, p3⟩ := unP_ok hi hj
  obtain ⟨q1, q4⟩ := p3 hij
  have g1 := h.get p1
  have g2 := h.get p2
  refine ⟨g1.1, g2.1, fun e => q1 ?_, ?_⟩
  · rw [← g1.2, ← g2.2]; exact congrArg (at' s) e
  · unfold enc dec
    simp only
    rw [g1.2, g2.2, q4, at_get ha, at_get hb]

/-- Two by two. -/
def twos (f : UInt8 → UInt8 → UInt8 × UInt8) : List UInt8 → List UInt8
  | a :: b :: r => (f a b).1 :: (f a b).2 :: twos f r
  | _ => []
/-- Pairs that are pairs: an even number of letters, no J, no two alike in one. -/
inductive Good : List UInt8 → Prop
  | nil : Good []
  | two {a b : UInt8} {r : List UInt8} (ha : a ∈ alpha) (hb : b ∈ alpha) (hab : a ≠ b) (hr : Good r) : Good (a :: b :: r)
theorem twos_length (f : UInt8 → UInt8 → UInt8 × UInt8) {l : List UInt8} (h : Good l) : (twos f l).length = l.length := by
  induction h with
  | nil => rfl
  | two _ _ _ _ ih => simp [twos, ih]
theorem Good.even {l : List UInt8} (h : Good l) : l.length % 2 = 0 := by
  induction h with
  | nil => rfl
  | two _ _ _ _ ih => simp; omega
theorem Good.nj {l : List UInt8} (h : Good l) : Nj l := by
  induction h with
  | nil => intro c hc; simp at hc
  | two ha hb _ _ ih =>
    intro c hc
    simp at hc
    rcases hc with rfl | rfl | hc
    · exact (mem_alpha _).1 ha
    · exact (mem_alpha _).1 hb
    · exact ih c hc
theorem Good.ls {l : List UInt8} (h : Good l) : Ls l := fun c hc => (h.nj c hc).1
theorem enc_good {s : List UInt8} (hs : Sq s) {l : List UInt8} (h : Good l) : Good (twos (enc s) l) := by
  induction h with
  | nil => exact .nil
  | two ha hb hab _ ih =>
    have e := enc_ok hs ((hs.mem _).2 ha) ((hs.mem _).2 hb) hab
    exact .two ((hs.mem _).1 e.1) ((hs.mem _).1 e.2.1) e.2.2.1 ih
theorem dec_good {s : List UInt8} (hs : Sq s) {l : List UInt8} (h : Good l) : Good (twos (dec s) l) := by
  induction h with
  | nil => exact .nil
  | two ha hb hab _ ih =>
    have e := dec_ok hs ((hs.mem _).2 ha) ((hs.mem _).2 hb) hab
    exact .two ((hs.mem _).1 e.1) ((hs.mem _).1 e.2.1) e.2.2.1 ih
/-- WHAT IS ENCIPHERED IS UNDONE, and the other way round. -/
theorem dec_enc {s : List UInt8} (hs : Sq s) {l : List UInt8} (h : Good l) : twos (dec s) (twos (enc s) l) = l := by
  induction h with
  | nil => rfl
  | two ha hb hab _ ih =>
    have e := enc_ok hs ((hs.mem _).2 ha) ((hs.mem _).2 hb) hab
    simp only [twos]
    rw [e.2.2.2.2.2.1, ih]
theorem enc_dec {s : List UInt8} (hs : Sq s) {l : List UInt8} (h : Good l) : twos (enc s) (twos (dec s) l) = l := by
  induction h with
  | nil => rfl
  | two ha hb hab _ ih =>
    have e := dec_ok hs ((hs.mem _).2 ha) ((hs.mem _).2 hb) hab
    simp only [twos]
    rw [e.2.2.2, ih]
/-- The other way round. -/
def turn : List UInt8 → List UInt8 := twos fun a b => (b, a)
theorem turn_good {l : List UInt8} (h : Good l) : Good (turn l) := by
  induction h with
  | nil => exact .nil
  | two ha hb hab _ ih => exact .two hb ha (Ne.symm hab) ih
theorem enc_turn {s : List UInt8} (hs : Sq s) {l : List UInt8} (h : Good l) : twos (enc s) (turn l) = turn (twos (enc s) l) := by
  induction h with
  | nil => rfl
  | two ha hb hab _ ih =>
    have e := enc_ok hs ((hs.mem _).2 ha) ((hs.mem _).2 hb) hab
    unfold turn at ih
    simp only [turn, twos]
    rw [e.2.2.2.2.2.2, ih]
/-- NO LETTER STANDS FOR ITSELF. -/
theorem never {s : List UInt8} (hs : Sq s) {l : List UInt8} (h : Good l) : ∀ i, i < l.length → (twos (enc s) l).getD i 0 ≠ l.getD i 0 := by
  induction h with
  | nil => intro i hi; simp at hi
  | two ha hb hab _ ih =>
    have e := enc_ok hs ((hs.mem _).2 ha) ((hs.mem _).2 hb) hab
    intro i hi
    match i, hi with
    | 0, _ => exact e.2.2.2.1
    | 1, _ => exact e.2.2.2.2.1
    | i + 2, hi => exact ih i (by simpa using hi)
/-- The filler behind a letter, and pairs. -/
def fil (c : UInt8) : UInt8 := if c = 88 then 81 else 88
theorem fil_ok (c : UInt8) : fil c ∈ alpha ∧ c ≠ fil c := by
  unfold fil
  by_cases e : c = 88
  · rw [if_pos e, e]; decide
  · rw [if_neg e]; exact ⟨by decide, e⟩
def prs : List UInt8 → List UInt8
  | [] => []
  | [a] => [a, fil a]
  | a :: b :: r => if a = b then a :: fil a :: prs (b :: r) else a :: b :: prs r
theorem prs_good : ∀ l : List UInt8, Nj l → Good (prs l)
  | [], _ => by unfold prs; exact .nil
  | [a], h => by unfold prs; exact .two ((mem_alpha _).2 (h a (by simp))) (fil_ok a).1 (fil_ok a).2 .nil
  | a :: b :: r, h => by
    unfold prs
    have ha := (mem_alpha _).2 (h a (by simp))
    have hb := (mem_alpha _).2 (h b (by simp))
    by_cases e : a = b
    · rw [if_pos e]
      exact .two ha (fil_ok a).1 (fil_ok a).2 (prs_good (b :: r) (fun c hc => h c (List.mem_cons_of_mem _ hc)))
    · rw [if_neg e]
      exact .two ha hb e (prs_good r (fun c hc => h c (by simp [hc])))
theorem prs_id {l : List UInt8} (h : Good l) : prs l = l := by
  induction h with
  | nil => rfl
  | two _ _ hab _ ih => unfold prs; rw [if_neg hab, ih]
theorem prs_length : ∀ l : List UInt8, (prs l).length ≤ 2 * l.length
  | [] => by simp [prs]
  | [a] => by simp [prs]
  | a :: b :: r => by
    unfold prs
    by_cases e : a = b
    · rw [if_pos e]; have := prs_length (b :: r); simp at this ⊢; omega
    · rw [if_neg e]; have := prs_length r; simp at this ⊢; omega
/-- What is wrong with pairs that are to be read: the first J, or the second one of a pair that is as its first one. -/
def wrong (t : List UInt8) (i : Nat) : Bool := decide (t.getD i 0 = 74 ∨ (i % 2 = 1 ∧ t.getD i 0 = t.getD (i - 1) 0))
theorem good_of : ∀ t : List UInt8, Ls t → t.length % 2 = 0 → (∀ i, i < t.length → wrong t i = false) → Good t
  | [], _, _, _ => .nil
  | [_], _, h, _ => by simp at h
  | a :: b :: r, hl, he, hw => by
    have h0 := hw 0 (by simp)
    have h1 := hw 1 (by simp)
    simp [wrong] at h0 h1
    refine .two ((mem_alpha a).2 ⟨hl a (by simp), h0⟩) ((mem_alpha b).2 ⟨hl b (by simp), h1.1⟩) (fun e => h1.2 e.symm) (good_of r (fun c hc => hl c (by simp [hc])) (by simp at he; omega) (fun i hi => ?_))
    have h2 := hw (i + 2) (by simp; omega)
    unfold wrong at h2 ⊢
    have e1 : (a :: b :: r).getD (i + 2) 0 = r.getD i 0 := rfl
    rw [e1] at h2
    by_cases hi1 : i % 2 = 1
    · have e2 : (a :: b :: r).getD (i + 2 - 1) 0 = r.getD (i - 1) 0 := by
        rw [show i + 2 - 1 = (i - 1) + 2 by omega]; rfl
      rw [e2] at h2
      simpa [hi1] using h2
    · simp [hi1] at h2 ⊢
      exact h2
theorem good_wrong {t : List UInt8} (h : Good t) : ∀ i, i < t.length → wrong t i = false := by
  induction h with
  | nil => intro i hi; simp at hi
  | @two a b r ha hb hab _ ih =>
    intro i hi
    have h1 := ((mem_alpha a).1 ha).2
    have h2 := ((mem_alpha b).1 hb).2
    match i, hi with
    | 0, _ => simp [wrong, h1]
    | 1, _ => simp [wrong, h2]; exact fun e => hab e.symm
    | i + 2, hi =>
      have h3 := ih i (by simpa using hi)
      unfold wrong at h3 ⊢
      have e1 : (a :: b :: r).getD (i + 2) 0 = r.getD i 0 := rfl
      rw [e1]
      by_cases hi1 : i % 2 = 1
      · have e2 : (a :: b :: r).getD (i + 2 - 1) 0 = r.getD (i - 1) 0 := by
          rw [show i + 2 - 1 = (i - 1) + 2 by omega]; rfl
        rw [e2]
        simpa [hi1] using h3
      · simp [hi1] at h3 ⊢
        exact h3
end Go.Proofs.Ythfjkhmedpilnaa.Zq

/-
  Squares of letters as 77 cells: the letters by their places, and the places by their letters.
-/
namespace Go.Proofs.Ythfjkhmedpilnaa.Zq
open Vg PK

/-- All letters, J too. -/
def alpha26 : List UInt8 := [65, 66, 67, 68, 69, 70, 71, 72, 73, 74, 75, 76, 77, 78, 79, 80, 81, 82, 83, 84, 85, 86, 87, 88, 89, 90]
theorem layN_append (out a b : List UInt8) : layN out (a ++ b) = layN (layN out a) b := by unfold layN; rw [List.foldl_append]
theorem addN_twice (out : List UInt8) (c : UInt8) : addN (addN out c) c = addN out c := by
  have h : c ∈ addN out c := (addN_mem out c c).2 (.inr rfl)
  generalize addN out c = q at h
  unfold addN
  rw [if_pos h]
/-- With J among them the square is the same one. -/
theorem laid26 (key : List UInt8) : layN [] ((key ++ alpha26).map jI) = laid key := by
  unfold laid
  rw [List.map_append, List.map_append, layN_append, layN_append]
  generalize layN [] (key.map jI) = q
  have e1 : alpha26.map jI = [65, 66, 67, 68, 69, 70, 71, 72] ++ (73 :: 73 :: [75, 76, 77, 78, 79, 80, 81, 82, 83, 84, 85, 86, 87, 88, 89, 90]) := by decide
  have e2 : alpha.map jI = [65, 66, 67, 68, 69, 70, 71, 72] ++ (73 :: [75, 76, 77, 78, 79, 80, 81, 82, 83, 84, 85, 86, 87, 88, 89, 90]) := by decide
  rw [e1, e2, layN_append, layN_append]
  generalize layN q [65, 66, 67, 68, 69, 70, 71, 72] = r
  have e3 : ∀ l, layN r (73 :: 73 :: l) = layN (addN (addN r 73) 73) l := fun _ => rfl
  have e4 : ∀ l, layN r (73 :: l) = layN (addN r 73) l := fun _ => rfl
  rw [e3, e4, addN_twice]
/-- What is laid behind m letters. -/
def lay (l : List UInt8) (m : Nat) : List UInt8 := layN [] ((l.take m).map jI)
theorem lay_zero (l : List UInt8) : lay l 0 = [] := by simp [lay, layN]
theorem lay_succ (l : List UInt8) {m : Nat} (h : m < l.length) : lay l (m + 1) = addN (lay l m) (jI (l.getD m 0)) := by
  unfold lay
  rw [List.take_succ_eq_append_getElem h, List.map_append, layN_append, getD_some h]
  rfl
theorem lay_all (l : List UInt8) : lay l l.length = layN [] (l.map jI) := by unfold lay; rw [List.take_length]
theorem lay_nodup (l : List UInt8) (m : Nat) : (lay l m).Nodup := layN_nodup _ _ (by simp)
theorem lay_mem {l : List UInt8} (h : Ls l) (m : Nat) (c : UInt8) (hc : c ∈ lay l m) : c ∈ alpha := by
  unfold lay at hc
  rw [layN_mem] at hc
  rcases hc with hc | hc
  · simp at hc
  · obtain ⟨d, hd, rfl⟩ := List.mem_map.1 hc
    exact (mem_alpha _).2 (jI_ok (h d (List.mem_of_mem_take hd)))
theorem lay_le {l : List UInt8} (h : Ls l) (m : Nat) : (lay l m).length ≤ 25 := nodup_le _ alpha (lay_nodup l m) (lay_mem h m)
theorem alpha26_ls : Ls alpha26 := by
  intro c hc
  have : ∀ c ∈ alpha26, 65 ≤ c.toNat ∧ c.toNat ≤ 90 := by decide
  exact this c hc
theorem ls_append {a b : List UInt8} (ha : Ls a) (hb : Ls b) : Ls (a ++ b) := fun c hc => (List.mem_append.1 hc).elim (ha c) (hb c)
/-- One more that isn't there: then 24 at most were. -/
theorem lay_lt {l : List UInt8} (h : Ls l) {m : Nat} (hm : m < l.length) (hn : jI (l.getD m 0) ∉ lay l m) : (lay l m).length < 25 := by
  have h1 := lay_le h (m + 1)
  rw [lay_succ l hm] at h1
  unfold addN at h1
  rw [if_neg hn, List.length_append] at h1
  simp at h1
  omega
theorem addN_in {out : List UInt8} {c : UInt8} (h : c ∈ out) : addN out c = out := by unfold addN; rw [if_pos h]
theorem addN_out {out : List UInt8} {c : UInt8} (h : c ∉ out) : addN out c = out ++ [c] := by unfold addN; rw [if_neg h]

/-- Where the letter k stands: 0 where it stands nowhere. -/
def pl (L : List UInt8) (k : Nat) : Nat := if ltr k ∈ L then at' L (ltr k) else 0
def shF (L : List UInt8) (i : Nat) : Value := if i < 25 then .int .u8 (L.getD i 0).toNat else if (i - 25) % 2 = 0 then .int .i64 ((pl L ((i - 25) / 2) / 5 : Nat)) else .int .i64 ((pl L ((i - 25) / 2) % 5 : Nat))
/-- A square's cells. -/
def shV (L : List UInt8) : Array Value := tab 77 (shF L)
theorem shV_size (L : List UInt8) : (shV L).size = 77 := tab_size _ _
theorem shV_at (L : List UInt8) {i : Nat} (h : i < 25) : (shV L)[i]? = some (.int .u8 (L.getD i 0).toNat) := by
  unfold shV; rw [tab_get _ (by omega)]; unfold shF; rw [if_pos h]
theorem shV_row (L : List UInt8) {k : Nat} (h : k < 26) : (shV L)[25 + 2 * k]? = some (.int .i64 (pl L k / 5 : Nat)) := by
  unfold shV; rw [tab_get _ (by omega)]; unfold shF; rw [if_neg (by omega), if_pos (by omega), show (25 + 2 * k - 25) / 2 = k by omega]
theorem shV_col (L : List UInt8) {k : Nat} (h : k < 26) : (shV L)[25 + 2 * k + 1]? = some (.int .i64 (pl L k % 5 : Nat)) := by
  unfold shV; rw [tab_get _ (by omega)]; unfold shF; rw [if_neg (by omega), if_neg (by omega), show (25 + 2 * k + 1 - 25) / 2 = k by omega]
/-- Which letters are there. -/
def knF (L : List UInt8) (k : Nat) : Bool := decide (ltr k ∈ L)
theorem ltr_inj {a b : Nat} (ha : a < 26) (hb : b < 26) (e : ltr a = ltr b) : a = b := by rw [← num_ltr ha, e, num_ltr hb]
theorem kn_step {L : List UInt8} {c : UInt8} (hc : 65 ≤ c.toNat ∧ c.toNat ≤ 90) : bools 26 (knF (L ++ [c])) = bools 26 (upd (knF L) (num c) true) := by
  refine bools_ext fun i hi => ?_
  unfold knF upd
  by_cases e : i = num c
  · rw [if_pos e, e, ltr_num hc]; simp
  · rw [if_neg e]
    have : ltr i ≠ c := fun e2 => e (by rw [← e2, num_ltr hi])
    simp [this]
theorem idx_append_left {L : List UInt8} {c d : UInt8} (h : d ∈ L) : at' (L ++ [c]) d = at' L d := by unfold at'; rw [List.idxOf_append]; simp [h]
theorem idx_append_new {L : List UInt8} {c : UInt8} (h : c ∉ L) : at' (L ++ [c]) c = L.length := by unfold at'; rw [List.idxOf_append]; simp [h]
theorem pl_new {L : List UInt8} {c : UInt8} (hc : 65 ≤ c.toNat ∧ c.toNat ≤ 90) (h : c ∉ L) : pl (L ++ [c]) (num c) = L.length := by
  unfold pl
  rw [ltr_num hc, if_pos (by simp), idx_append_new h]
theorem pl_old {L : List UInt8} {c : UInt8} {k : Nat} (h : ltr k ≠ c) : pl (L ++ [c]) k = pl L k := by
  unfold pl
  by_cases hk : ltr k ∈ L
  · rw [if_pos hk, if_pos (by simp [hk]), idx_append_left hk]
  · rw [if_neg hk, if_neg (by simp [hk, h])]
/-- One more letter, cell by cell. -/
theorem shV_step {L : List UInt8} {c : UInt8} (hc : 65 ≤ c.toNat ∧ c.toNat ≤ 90) (h : c ∉ L) (hl : L.length < 25) :
    (((shV L).setIfInBounds L.length (.int .u8 c.toNat)).setIfInBounds (25 + 2 * num c) (.int .i64 (L.length / 5 : Nat))).setIfInBounds (25 + 2 * num c + 1) (.int .i64 (L.length % 5 : Nat)) = shV (L ++ [c]) := by
  have hn := num_lt hc
  unfold shV
  rw [tab_set, tab_set, tab_set]
  refine tab_ext fun i hi => ?_
  unfold upd shF
  by_cases h25 : i < 25
  · rw [if_neg (by omega), if_neg (by omega), if_pos h25, if_pos h25]
    by_cases e : i = L.length
    · rw [if_pos e, e]; simp
    · rw [if_neg e]
      by_cases hi2 : i < L.length
      · rw [show (L ++ [c]).getD i 0 = L.getD i 0 by simp only [List.getD_eq_getElem?_getD]; rw [List.getElem?_append_left hi2]]
      · have e1 : (L ++ [c]).getD i 0 = 0 := by simp only [List.getD_eq_getElem?_getD]; rw [List.getElem?_eq_none (by simp; omega)]; rfl
        have e2 : L.getD i 0 = 0 := by simp only [List.getD_eq_getElem?_getD]; rw [List.getElem?_eq_none (by omega)]; rfl
        rw [e1, e2]
  · rw [if_neg h25, if_neg h25]
    by_cases e : (i - 25) / 2 = num c
    · rw [e, pl_new hc h]
      by_cases hm : (i - 25) % 2 = 0
      · rw [if_neg (by omega), if_pos (by omega), if_pos hm]
      · rw [if_pos (by omega), if_neg hm]
    · rw [if_neg (by omega), if_neg (by omega), if_neg (by omega), pl_old (fun e2 => e (by rw [← e2, num_ltr (by omega)]))]
theorem pl_at {L : List UInt8} {c : UInt8} (h : Sq L) (hc : c ∈ L) : pl L (num c) = at' L c := by
  have h1 := ((mem_alpha c).1 ((h.mem c).1 hc)).1
  unfold pl
  rw [ltr_num h1, if_pos hc]
theorem pl_lt {L : List UInt8} (h : Sq L) (k : Nat) : pl L k < 25 := by
  unfold pl
  by_cases hk : ltr k ∈ L
  · rw [if_pos hk]; exact h.at_lt hk
  · rw [if_neg hk]; omega

/-- What two places become so many steps on. -/
def movP (st i j : Nat) : Nat × Nat :=
  if i / 5 = j / 5 then (5 * (i / 5) + (i % 5 + st) % 5, 5 * (j / 5) + (j % 5 + st) % 5)
  else if i % 5 = j % 5 then (5 * ((i / 5 + st) % 5) + i % 5, 5 * ((j / 5 + st) % 5) + j % 5)
  else (5 * (i / 5) + j % 5, 5 * (j / 5) + i % 5)
def mov (st : Nat) (s : List UInt8) (a b : UInt8) : UInt8 × UInt8 := (s.getD (movP st (at' s a) (at' s b)).1 0, s.getD (movP st (at' s a) (at' s b)).2 0)
theorem mov_enc (s : List UInt8) : mov 1 s = enc s := rfl
theorem mov_dec (s : List UInt8) : mov 4 s = dec s := rfl
theorem take_two {t : List UInt8} {m : Nat} (h : 2 * m + 1 < t.length) : t.take (2 * m + 2) = t.take (2 * m) ++ [t.getD (2 * m) 0, t.getD (2 * m + 1) 0] := by
  have e1 := List.take_succ_eq_append_getElem h
  have e2 := List.take_succ_eq_append_getElem (show 2 * m < t.length by omega)
  rw [e2] at e1
  rw [getD_some (by omega), getD_some h]
  show t.take (2 * m + 1 + 1) = _
  rw [e1, List.append_assoc]
  rfl
theorem twos_append (f : UInt8 → UInt8 → UInt8 × UInt8) : ∀ (a b : List UInt8), a.length % 2 = 0 → twos f (a ++ b) = twos f a ++ twos f b
  | [], _, _ => by simp [twos]
  | [_], _, h => by simp at h
  | x :: y :: r, b, h => by
    have := twos_append f r b (by simp at h; omega)
    simp only [List.cons_append, twos]
    rw [this]
theorem twos_two (f : UInt8 → UInt8 → UInt8 × UInt8) {t : List UInt8} {m : Nat} (h : 2 * m + 1 < t.length) : twos f (t.take (2 * m + 2)) = twos f (t.take (2 * m)) ++ [(f (t.getD (2 * m) 0) (t.getD (2 * m + 1) 0)).1, (f (t.getD (2 * m) 0) (t.getD (2 * m + 1) 0)).2] := by
  rw [take_two h, twos_append _ _ _ (by rw [List.length_take]; omega)]
  rfl
theorem twos_len (f : UInt8 → UInt8 → UInt8 × UInt8) : ∀ t : List UInt8, t.length % 2 = 0 → (twos f t).length = t.length
  | [], _ => rfl
  | [_], h => by simp at h
  | _ :: _ :: r, h => by
    have := twos_len f r (by simp at h; omega)
    simp [twos, this]
/-- Pairs, from a place on. -/
theorem drop_cons {u : List UInt8} {i : Nat} (hi : i < u.length) : u.drop i = u.getD i 0 :: u.drop (i + 1) := by rw [List.drop_eq_getElem_cons hi, getD_some hi]
theorem prs_one {u : List UInt8} {i : Nat} (hi : i < u.length) (h : i + 1 < u.length → u.getD (i + 1) 0 = u.getD i 0) : prs (u.drop i) = [u.getD i 0, fil (u.getD i 0)] ++ prs (u.drop (i + 1)) := by
  rw [drop_cons hi]
  by_cases h1 : i + 1 < u.length
  · rw [drop_cons h1, prs, if_pos (h h1).symm]
    rfl
  · rw [List.drop_eq_nil_of_le (by omega)]
    rfl
theorem prs_two {u : List UInt8} {i : Nat} (hi : i + 1 < u.length) (h : u.getD (i + 1) 0 ≠ u.getD i 0) : prs (u.drop i) = [u.getD i 0, u.getD (i + 1) 0] ++ prs (u.drop (i + 2)) := by
  rw [drop_cons (by omega), drop_cons hi, prs, if_neg (Ne.symm h)]
  rfl
theorem map_getD {t : List UInt8} {i : Nat} (hi : i < t.length) : (t.map jI).getD i 0 = jI (t.getD i 0) := by
  rw [getD_some (by simpa using hi), getD_some hi]; simp
/-- The first place at which something is wrong. -/
def fw (t : List UInt8) : Option Nat := (List.range t.length).find? (wrong t)
theorem fw_some {t : List UInt8} {k : Nat} (hk : k < t.length) (h : wrong t k = true) (hb : ∀ j, j < k → wrong t j = false) : fw t = some k := by
  unfold fw
  rw [List.find?_range_eq_some]
  exact ⟨h, by simpa using hk, fun j hj => by rw [hb j hj]; rfl⟩
theorem fw_none {t : List UInt8} (h : ∀ j, j < t.length → wrong t j = false) : fw t = none := by
  unfold fw
  rw [List.find?_eq_none]
  intro j hj
  rw [h j (by simpa using hj)]
  simp
theorem fw_good {t : List UInt8} (hl : Ls t) (he : t.length % 2 = 0) (h : fw t = none) : Good t := by
  refine good_of t hl he fun i hi => ?_
  unfold fw at h
  rw [List.find?_eq_none] at h
  have := h i (by simpa using hi)
  simpa using this
theorem good_fw {t : List UInt8} (h : Good t) : fw t = none := fw_none (good_wrong h)
end Go.Proofs.Ythfjkhmedpilnaa.Zq
