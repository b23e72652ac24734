/-
  Several texts, joined: PMath, TPlain.
-/
import Derived.WalkKit
import GoSem.Core.Utf8
/-
  Plain mathematics of no program: what is wrong with 26 numbers.
-/
namespace Go.Proofs.Ythfjkhmedpilnaa.Pm

/-- What is wrong at place i: 3 (out of range), 8 (goes where one ahead goes), else 0. -/
def bad (f : Nat → Int) (i : Nat) : Int := if f i < 0 ∨ 26 ≤ f i then 3 else if (List.range i).any (fun j => f j == f i) then 8 else 0
def wrongN (f : Nat → Int) : Nat → Int
  | 0 => 0
  | n + 1 => if wrongN f n ≠ 0 then wrongN f n else bad f n
def wrong (f : Nat → Int) : Int := wrongN f 26
theorem wrongN_keep (f : Nat → Int) (k n : Nat) (h : wrongN f k ≠ 0) (hn : k ≤ n) : wrongN f n = wrongN f k := by
  induction n with
  | zero => have : k = 0 := by omega
            subst this; rfl
  | succ n ih =>
    by_cases e : k = n + 1
    · rw [e]
    · have := ih (by omega)
      show (if wrongN f n ≠ 0 then wrongN f n else bad f n) = _
      rw [this, if_pos h]
theorem wrongN_succ (f : Nat → Int) (k : Nat) (h : wrongN f k = 0) : wrongN f (k + 1) = bad f k := by
  show (if wrongN f k ≠ 0 then wrongN f k else bad f k) = _
  rw [if_neg (by simp [h])]
theorem wrong_stop (f : Nat → Int) (k : Nat) (h : wrongN f k = 0) (hb : bad f k ≠ 0) (hk : k < 26) : wrong f = bad f k := by
  have h1 := wrongN_succ f k h
  have := wrongN_keep f (k + 1) 26 (by rw [h1]; exact hb) (by omega)
  unfold wrong
  rw [this, h1]
theorem wrong_end (f : Nat → Int) (k : Nat) (h : wrongN f k = 0) (hk : k = 26) : wrong f = 0 := by subst hk; exact h
def seen (f : Nat → Int) (k : Nat) (v : Nat) : Bool := (List.range k).any (fun j => f j == (v : Int))
theorem seen_succ (f : Nat → Int) (k v : Nat) : seen f (k + 1) v = (seen f k v || f k == (v : Int)) := by
  simp [seen, List.range_succ, List.any_append]
theorem bad_range (f : Nat → Int) (i : Nat) (h : f i < 0 ∨ 26 ≤ f i) : bad f i = 3 := by simp [bad, h]
theorem bad_fit (f : Nat → Int) (i n : Nat) (h : f i = (n : Int)) (hn : n < 26) (hs : seen f i n = true) : bad f i = 8 := by
  unfold bad
  rw [if_neg (by omega), if_pos (by rw [h]; exact hs)]
theorem bad_ok (f : Nat → Int) (i n : Nat) (h : f i = (n : Int)) (hn : n < 26) (hs : seen f i n = false) : bad f i = 0 := by
  unfold bad
  rw [if_neg (by omega), if_neg (by rw [h]; simpa [seen] using hs)]
theorem wrongN_zero (f : Nat → Int) : ∀ n, wrongN f n = 0 ↔ ∀ i, i < n → bad f i = 0
  | 0 => by simp [wrongN]
  | n + 1 => by
    have ih := wrongN_zero f n
    constructor
    · intro h i hi
      by_cases e : wrongN f n = 0
      · rw [wrongN_succ f n e] at h
        by_cases e2 : i = n
        · rw [e2]; exact h
        · exact ih.1 e i (by omega)
      · exact absurd ((wrongN_keep f n (n + 1) e (by omega)).symm.trans h) e
    · intro h
      rw [wrongN_succ f n (ih.2 fun i hi => h i (by omega))]
      exact h n (by omega)
theorem bad_zero (f : Nat → Int) (i : Nat) : bad f i = 0 ↔ (0 ≤ f i ∧ f i < 26 ∧ ∀ j, j < i → f j ≠ f i) := by
  unfold bad
  by_cases h1 : f i < 0 ∨ 26 ≤ f i
  · rw [if_pos h1]
    constructor
    · intro h; exact absurd h (by decide)
    · intro ⟨a, b, _⟩; omega
  · rw [if_neg h1]
    by_cases h2 : (List.range i).any (fun j => f j == f i) = true
    · rw [if_pos h2]
      simp at h2
      obtain ⟨j, hj, e⟩ := h2
      constructor
      · intro h; exact absurd h (by decide)
      · intro ⟨_, _, c⟩; exact absurd e (c j hj)
    · rw [if_neg h2]
      simp at h2
      simp only [true_iff]
      exact ⟨by omega, by omega, h2⟩
/-- A permutation, as a function on numbers below 26. -/
structure IsPerm (p : Nat → Nat) : Prop where
  lt : ∀ i, i < 26 → p i < 26
  inj : ∀ i j, i < 26 → j < 26 → p i = p j → i = j
def up (p : Nat → Nat) : Nat → Int := fun i => (p i : Int)
theorem wrong_zero (f : Nat → Int) : wrong f = 0 ↔ ∃ p, IsPerm p ∧ ∀ i, i < 26 → f i = (p i : Int) := by
  unfold wrong
  rw [wrongN_zero]
  constructor
  · intro h
    refine ⟨fun i => (f i).toNat, ⟨fun i hi => ?_, fun i j hi hj e => ?_⟩, fun i hi => ?_⟩
    · have := (bad_zero f i).1 (h i hi); show (f i).toNat < 26; omega
    · have h1 := (bad_zero f i).1 (h i hi)
      have h2 := (bad_zero f j).1 (h j hj)
      have e' : f i = f j := by have e : (f i).toNat = (f j).toNat := e; omega
      rcases Nat.lt_trichotomy i j with c | c | c
      · exact absurd e' (h2.2.2 i c)
      · exact c
      · exact absurd e'.symm (h1.2.2 j c)
    · have := (bad_zero f i).1 (h i hi); show f i = ((f i).toNat : Int); omega
  · rintro ⟨p, hp, he⟩ i hi
    rw [bad_zero, he i hi]
    have := hp.lt i hi
    refine ⟨by omega, by omega, fun j hj => ?_⟩
    rw [he j (by omega)]
    intro e
    have := hp.inj j i (by omega) hi (by omega)
    omega
theorem wrong_up (p : Nat → Nat) (hp : IsPerm p) : wrong (up p) = 0 := (wrong_zero _).2 ⟨p, hp, fun _ _ => rfl⟩
theorem wrongN_ge (f : Nat → Int) : ∀ n, wrongN f n = 0 ∨ wrongN f n = 3 ∨ wrongN f n = 8
  | 0 => .inl rfl
  | n + 1 => by
    show (if wrongN f n ≠ 0 then wrongN f n else bad f n) = 0 ∨ _
    rcases wrongN_ge f n with h | h | h
    · have hb : bad f n = 0 ∨ bad f n = 3 ∨ bad f n = 8 := by
        unfold bad
        split
        · exact .inr (.inl rfl)
        · split
          · exact .inr (.inr rfl)
          · exact .inl rfl
      rw [wrongN_succ f n h, if_neg (by simp [h])]
      exact hb
    · rw [wrongN_keep f n (n + 1) (by simp [h]) (by omega)]; simp [h]
    · rw [wrongN_keep f n (n + 1) (by simp [h]) (by omega)]; simp [h]
/-- What is wrong with the first of n that is wrong. -/
def firstBad (fs : Nat → Nat → Int) : Nat → Int
  | 0 => 0
  | n + 1 => if firstBad fs n ≠ 0 then firstBad fs n else wrong (fs n)
theorem firstBad_succ (fs : Nat → Nat → Int) (k : Nat) (h : firstBad fs k = 0) : firstBad fs (k + 1) = wrong (fs k) := by
  show (if firstBad fs k ≠ 0 then firstBad fs k else wrong (fs k)) = _
  rw [if_neg (by simp [h])]
theorem firstBad_keep (fs : Nat → Nat → Int) (k n : Nat) (h : firstBad fs k ≠ 0) (hn : k ≤ n) : firstBad fs n = firstBad fs k := by
  induction n with
  | zero => have : k = 0 := by omega
            subst this; rfl
  | succ n ih =>
    by_cases e : k = n + 1
    · rw [e]
    · have := ih (by omega)
      show (if firstBad fs n ≠ 0 then firstBad fs n else wrong (fs n)) = _
      rw [this, if_pos h]
theorem firstBad_stop (fs : Nat → Nat → Int) (k n : Nat) (h : firstBad fs k = 0) (hb : wrong (fs k) ≠ 0) (hk : k < n) : firstBad fs n = wrong (fs k) := by
  have h1 := firstBad_succ fs k h
  rw [firstBad_keep fs (k + 1) n (by rw [h1]; exact hb) (by omega), h1]
theorem nodup_le : ∀ (l m : List Nat), l.Nodup → (∀ x ∈ l, x ∈ m) → l.length ≤ m.length
  | [], _, _, _ => Nat.zero_le _
  | a :: l, m, hd, hs => by
    have ha : a ∈ m := hs a (by simp)
    have hd' := List.nodup_cons.1 hd
    have := nodup_le l (m.erase a) hd'.2 (fun x hx => by
      have hne : x ≠ a := fun e => hd'.1 (e ▸ hx)
      exact (List.mem_erase_of_ne hne).2 (hs x (by simp [hx])))
    rw [List.length_erase_of_mem ha] at this
    have hpos : 0 < m.length := List.length_pos_of_mem ha
    simp
    omega
theorem nodup_map (p : Nat → Nat) : ∀ (l : List Nat), l.Nodup → (∀ i ∈ l, ∀ j ∈ l, p i = p j → i = j) → (l.map p).Nodup
  | [], _, _ => by simp
  | a :: l, hd, hi => by
    have hd' := List.nodup_cons.1 hd
    rw [List.map_cons, List.nodup_cons]
    refine ⟨?_, nodup_map p l hd'.2 fun i h1 j h2 => hi i (by simp [h1]) j (by simp [h2])⟩
    intro h
    obtain ⟨x, hx, e⟩ := List.mem_map.1 h
    have := hi x (by simp [hx]) a (by simp) e
    exact hd'.1 (this ▸ hx)
theorem IsPerm.surj {p : Nat → Nat} (hp : IsPerm p) (j : Nat) (hj : j < 26) : ∃ i, i < 26 ∧ p i = j := by
  apply Classical.byContradiction
  intro hn
  have hn' : ∀ i, i < 26 → p i ≠ j := fun i hi e => hn ⟨i, hi, e⟩
  have h1 := nodup_map p (List.range 26) List.nodup_range (fun i hi k hk e => hp.inj i k (by simpa using hi) (by simpa using hk) e)
  have h2 := nodup_le _ ((List.range 26).erase j) h1 (fun x hx => by
    obtain ⟨i, hi, e⟩ := List.mem_map.1 hx
    have hi' : i < 26 := by simpa using hi
    have hne : x ≠ j := by rw [← e]; exact hn' i hi'
    exact (List.mem_erase_of_ne hne).2 (by rw [← e]; simpa using hp.lt i hi'))
  rw [List.length_erase_of_mem (by simpa using hj)] at h2
  simp at h2
/-- The letter that goes to j. -/
def inv (p : Nat → Nat) (j : Nat) : Nat := ((List.range 26).find? fun i => p i == j).getD 0
theorem IsPerm.inv_spec {p : Nat → Nat} (hp : IsPerm p) (j : Nat) (hj : j < 26) : inv p j < 26 ∧ p (inv p j) = j := by
  unfold inv
  cases h : (List.range 26).find? fun i => p i == j with
  | none =>
    obtain ⟨i, hi, e⟩ := hp.surj j hj
    have := List.find?_eq_none.1 h i (by simpa using hi)
    simp [e] at this
  | some i =>
    have h1 := List.find?_some h
    have h2 := List.mem_of_find?_eq_some h
    simp at h1 h2
    exact ⟨h2, h1⟩
theorem IsPerm.inv_left {p : Nat → Nat} (hp : IsPerm p) (i : Nat) (hi : i < 26) : inv p (p i) = i := by
  have := hp.inv_spec (p i) (hp.lt i hi)
  exact hp.inj _ _ this.1 hi this.2
theorem IsPerm.inv {p : Nat → Nat} (hp : IsPerm p) : IsPerm (inv p) :=
  ⟨fun i hi => (hp.inv_spec i hi).1, fun i j hi hj e => by
    have h1 := (hp.inv_spec i hi).2
    have h2 := (hp.inv_spec j hj).2
    rw [e, h2] at h1
    exact h1.symm⟩
theorem IsPerm.comp {p q : Nat → Nat} (hp : IsPerm p) (hq : IsPerm q) : IsPerm (fun i => q (p i)) :=
  ⟨fun i hi => hq.lt _ (hp.lt i hi), fun i j hi hj e => hp.inj i j hi hj (hq.inj _ _ (hp.lt i hi) (hp.lt j hj) e)⟩
theorem IsPerm.id : IsPerm (fun i => i) := ⟨fun _ h => h, fun _ _ _ _ e => e⟩
/-- p, its letters named anew by x. -/
def conj (p x : Nat → Nat) : Nat → Nat := fun k => x (p (inv x k))
theorem IsPerm.conj {p x : Nat → Nat} (hp : IsPerm p) (hx : IsPerm x) : IsPerm (conj p x) := (hx.inv.comp hp).comp hx
end Go.Proofs.Ythfjkhmedpilnaa.Pm

/-
  The plain mathematics of chapter 1 (letters), over lists of bytes; nothing here speaks of a program.
-/
namespace Go.Proofs.Ythfjkhmedpilnaa.Pl

/-! ### What a rune is written as -/
def tab : List (Int × List UInt8) :=
  [(196, [65, 69]), (228, [65, 69]), (198, [65, 69]), (230, [65, 69]),
   (214, [79, 69]), (246, [79, 69]), (216, [79, 69]), (248, [79, 69]), (338, [79, 69]), (339, [79, 69]),
   (220, [85, 69]), (252, [85, 69]), (223, [83, 83]), (197, [65, 65]), (229, [65, 65]),
   (201, [69]), (233, [69]), (200, [69]), (232, [69]), (202, [69]), (234, [69]),
   (192, [65]), (224, [65]), (194, [65]), (226, [65]), (260, [65]), (261, [65]),
   (199, [67]), (231, [67]), (262, [67]), (263, [67]), (321, [76]), (322, [76]),
   (323, [78]), (324, [78]), (209, [78]), (241, [78]), (346, [83]), (347, [83]),
   (377, [90]), (378, [90]), (379, [90]), (380, [90]), (46, [88]), (63, [88]), (33, [88])]
def look (r : Int) : List (Int × List UInt8) → List UInt8
  | [] => []
  | p :: t => if (r == p.1) = true then p.2 else look r t
def spell (r : Int) : List UInt8 := look r tab
def foldRune (r : Int) : List UInt8 :=
  if 65 ≤ r ∧ r ≤ 90 then [UInt8.ofNat r.toNat]
  else if 97 ≤ r ∧ r ≤ 122 then [UInt8.ofNat (r - 32).toNat]
  else spell r

def isL (c : Int) : Bool := decide (65 ≤ c ∧ c ≤ 90)
def Lets (l : List UInt8) : Prop := ∀ c ∈ l, isL c.toNat = true

theorem look_all (P : List UInt8 → Prop) (h0 : P []) (r : Int) : ∀ t : List (Int × List UInt8), (∀ p ∈ t, P p.2) → P (look r t)
  | [], _ => h0
  | p :: t, h => by
    unfold look
    split
    · exact h p (by simp)
    · exact look_all P h0 r t (fun q hq => h q (by simp [hq]))

theorem spell_lets (r : Int) : Lets (spell r) := by
  apply look_all Lets (by intro c h; cases h)
  unfold Lets tab
  decide
theorem spell_two (r : Int) : (spell r).length ≤ 2 := by
  apply look_all (fun l => l.length ≤ 2) (by simp)
  unfold tab
  decide
/-- Below 128 only marks that are written by one letter. -/
theorem look_low (r : Int) (hr : r < 128) : ∀ t : List (Int × List UInt8), (∀ p ∈ t, p.1 < 128 → p.2.length ≤ 1) → (look r t).length ≤ 1
  | [], _ => by simp [look]
  | p :: t, h => by
    unfold look
    split
    · rename_i e
      have e := eq_of_beq e
      exact h p (by simp) (by omega)
    · exact look_low r hr t (fun q hq => h q (by simp [hq]))
theorem spell_low (r : Int) (hr : r < 128) : (spell r).length ≤ 1 := by
  apply look_low r hr
  unfold tab
  decide
theorem look_none (r : Int) : ∀ t : List (Int × List UInt8), (∀ p ∈ t, p.1 ≠ r) → look r t = []
  | [], _ => rfl
  | p :: t, h => by
    unfold look
    rw [if_neg (fun e => h p (by simp) (eq_of_beq e).symm)]
    exact look_none r t (fun q hq => h q (by simp [hq]))
theorem spell_error : spell 65533 = [] := by decide

theorem toNat_ofNat (n : Nat) (h : n < 256) : (UInt8.ofNat n).toNat = n := by simp [Nat.mod_eq_of_lt h]

theorem foldRune_lets (r : Int) : Lets (foldRune r) := by
  unfold foldRune
  split
  · intro c hc
    simp at hc
    subst hc
    rename_i h
    rw [toNat_ofNat _ (by omega)]
    unfold isL
    simp
    omega
  · split
    · intro c hc
      simp at hc
      subst hc
      rename_i h
      rw [toNat_ofNat _ (by omega)]
      unfold isL
      simp
      omega
    · exact spell_lets r
theorem foldRune_two (r : Int) : (foldRune r).length ≤ 2 := by
  unfold foldRune
  split
  · simp
  · split
    · simp
    · exact spell_two r
theorem foldRune_low (r : Int) (hr : r < 128) : (foldRune r).length ≤ 1 := by
  unfold foldRune
  split
  · simp
  · split
    · simp
    · exact spell_low r hr
theorem foldRune_error : foldRune 65533 = [] := by decide
theorem foldRune_nl : foldRune 10 = [] := by decide
theorem foldRune_letter (c : UInt8) (h : isL c.toNat = true) : foldRune c.toNat = [c] := by
  unfold isL at h
  have h' := of_decide_eq_true h
  unfold foldRune
  rw [if_pos h']
  simp

/-! ### One rune off the head of a list of bytes -/
def byte (l : List UInt8) (k : Nat) : Nat := (l.getD k 0).toNat
def cont (l : List UInt8) (k : Nat) : Bool := decide (k < l.length) && byte l k / 64 == 2
def decL (l : List UInt8) : Nat × Nat :=
  let b0 := byte l 0
  if b0 < 0x80 then (b0, 1)
  else if b0 / 32 == 6 && cont l 1 then
    let c := (b0 % 32) * 64 + byte l 1 % 64
    if c ≥ 0x80 then (c, 2) else (0xFFFD, 1)
  else if b0 / 16 == 14 && (cont l 1 && cont l 2) then
    let c := (b0 % 16) * 4096 + (byte l 1 % 64) * 64 + byte l 2 % 64
    if c ≥ 0x800 && Utf8.valid c then (c, 3) else (0xFFFD, 1)
  else if b0 / 8 == 30 && (cont l 1 && cont l 2 && cont l 3) then
    let c := (b0 % 8) * 262144 + (byte l 1 % 64) * 4096 + (byte l 2 % 64) * 64 + byte l 3 % 64
    if c ≥ 0x10000 && Utf8.valid c then (c, 4) else (0xFFFD, 1)
  else (0xFFFD, 1)

theorem get!_eq (s : ByteArray) (i : Nat) : s.get! i = s.data.toList.getD i 0 := by
  cases s with
  | mk d =>
    show d[i]! = _
    by_cases h : i < d.size
    · simp [getElem!_pos, h, List.getD]
    · simp [getElem!_neg, h, List.getD]
      rfl
theorem size_len (s : ByteArray) : s.size = s.data.toList.length := by cases s; rfl
theorem decode_eq (s : ByteArray) (pos : Nat) : Utf8.decode s pos = decL (s.data.toList.drop pos) := by
  have hb : ∀ k, (s.get! (pos + k)).toNat = byte (s.data.toList.drop pos) k := by
    intro k
    rw [get!_eq, byte]
    simp [List.getD]
  have hc : ∀ k, (decide (pos + k < s.size) && byte (s.data.toList.drop pos) k / 64 == 2) = cont (s.data.toList.drop pos) k := by
    intro k
    unfold cont
    have e : decide (pos + k < s.size) = decide (k < (s.data.toList.drop pos).length) := by
      rw [size_len, List.length_drop]
      exact decide_eq_decide.2 (by omega)
    rw [e]
  unfold Utf8.decode decL
  simp only [hb, hc, Utf8.runeError, Bool.and_assoc]

theorem decL_pos (l : List UInt8) : 1 ≤ (decL l).2 := by
  unfold decL
  dsimp only
  repeat' split
  all_goals simp
theorem cont_lt {l : List UInt8} {k : Nat} (h : cont l k = true) : k < l.length := by
  unfold cont at h
  simp at h
  exact h.1
theorem decL_le (l : List UInt8) (h : l ≠ []) : (decL l).2 ≤ l.length := by
  have h1 : 1 ≤ l.length := by
    cases l with
    | nil => exact absurd rfl h
    | cons => simp
  unfold decL
  dsimp only
  split
  · exact h1
  split
  · rename_i e
    simp only [Bool.and_eq_true] at e
    have := cont_lt e.2
    split
    · show 2 ≤ _
      omega
    · exact h1
  split
  · rename_i e
    simp only [Bool.and_eq_true] at e
    have := cont_lt e.2.2
    split
    · show 3 ≤ _
      omega
    · exact h1
  split
  · rename_i e
    simp only [Bool.and_eq_true] at e
    have := cont_lt e.2.2
    split
    · show 4 ≤ _
      omega
    · exact h1
  · exact h1
/-- No rune is written longer than it is. -/
theorem decL_short (l : List UInt8) : (foldRune (decL l).1).length ≤ (decL l).2 := by
  have h2 : ∀ r : Int, (foldRune r).length ≤ 2 := foldRune_two
  have he : (foldRune ((0xFFFD : Nat) : Int)).length ≤ 1 := by
    show (foldRune 65533).length ≤ 1
    rw [foldRune_error]
    simp
  unfold decL
  dsimp only
  split
  · exact foldRune_low _ (by omega)
  split
  · split
    · exact h2 _
    · exact he
  split
  · split
    · exact Nat.le_trans (h2 _) (show 2 ≤ 3 by omega)
    · exact he
  split
  · split
    · exact Nat.le_trans (h2 _) (show 2 ≤ 4 by omega)
    · exact he
  · exact he

theorem byte_app (a b : List UInt8) (k : Nat) (h : k < a.length) : byte (a ++ b) k = byte a k := by
  unfold byte
  simp [List.getD, List.getElem?_append_left h]
theorem cont_cut (a b : List UInt8) (k : Nat) (h : k ≤ a.length) : cont (a ++ 10 :: b) k = cont a k := by
  unfold cont
  rcases Nat.lt_or_ge k a.length with hk | hk
  · rw [byte_app _ _ _ hk]
    have e : decide (k < (a ++ 10 :: b).length) = decide (k < a.length) := decide_eq_decide.2 (by simp; omega)
    rw [e]
  · have hk' : k = a.length := by omega
    subst hk'
    have e : byte (a ++ 10 :: b) a.length = 10 := by
      unfold byte
      simp [List.getD]
    rw [e]
    simp
/-- A rune that begins ahead of a line feed ends ahead of it. -/
theorem decL_cut (a b : List UInt8) (h : a ≠ []) : decL (a ++ 10 :: b) = decL a := by
  have h1 : 1 ≤ a.length := by
    cases a with
    | nil => exact absurd rfl h
    | cons => simp
  have b0 : byte (a ++ 10 :: b) 0 = byte a 0 := byte_app _ _ _ (by omega)
  have c1 : cont (a ++ 10 :: b) 1 = cont a 1 := cont_cut _ _ _ h1
  have c12 : (cont (a ++ 10 :: b) 1 && cont (a ++ 10 :: b) 2) = (cont a 1 && cont a 2) := by
    rw [c1]
    cases e : cont a 1
    · rfl
    · have := cont_lt e
      rw [cont_cut _ _ _ (by omega)]
  have c123 : ((cont (a ++ 10 :: b) 1 && cont (a ++ 10 :: b) 2) && cont (a ++ 10 :: b) 3) = ((cont a 1 && cont a 2) && cont a 3) := by
    rw [c12]
    cases e : (cont a 1 && cont a 2)
    · rfl
    · simp only [Bool.and_eq_true] at e
      have := cont_lt e.2
      rw [cont_cut _ _ _ (by omega)]
  unfold decL
  dsimp only
  rw [b0, c123, c12, c1]
  split
  · rfl
  split
  · rename_i e
    simp only [Bool.and_eq_true] at e
    have := cont_lt e.2
    rw [byte_app _ _ 1 (by omega)]
  split
  · rename_i e
    simp only [Bool.and_eq_true] at e
    have := cont_lt e.2.2
    rw [byte_app _ _ 1 (by omega), byte_app _ _ 2 (by omega)]
  split
  · rename_i e
    simp only [Bool.and_eq_true] at e
    have := cont_lt e.2.2
    rw [byte_app _ _ 1 (by omega), byte_app _ _ 2 (by omega), byte_app _ _ 3 (by omega)]
  · rfl

/-! ### Fold -/
def foldN : Nat → List UInt8 → List UInt8
  | 0, _ => []
  | n + 1, l => if l = [] then [] else foldRune (decL l).1 ++ foldN n (l.drop (decL l).2)
def fold (l : List UInt8) : List UInt8 := foldN l.length l

theorem foldN_enough : ∀ (n m : Nat) (l : List UInt8), l.length ≤ n → l.length ≤ m → foldN n l = foldN m l := by
  intro n
  induction n with
  | zero =>
    intro m l hn _
    have : l = [] := List.eq_nil_of_length_eq_zero (by omega)
    subst this
    cases m <;> simp [foldN]
  | succ n ih =>
    intro m l hn hm
    cases m with
    | zero =>
      have : l = [] := List.eq_nil_of_length_eq_zero (by omega)
      subst this
      simp [foldN]
    | succ m =>
      unfold foldN
      split
      · rfl
      · have := decL_pos l
        rw [ih m]
        · rw [List.length_drop]; omega
        · rw [List.length_drop]; omega
theorem fold_nil : fold [] = [] := rfl
theorem fold_step (l : List UInt8) (h : l ≠ []) : fold l = foldRune (decL l).1 ++ fold (l.drop (decL l).2) := by
  have hp := decL_pos l
  unfold fold
  cases hl : l.length with
  | zero => exact absurd (List.eq_nil_of_length_eq_zero hl) h
  | succ n =>
    rw [foldN, if_neg h]
    congr 1
    apply foldN_enough
    · rw [List.length_drop]; omega
    · exact Nat.le_refl _
/-- Induction along the runes. -/
theorem rune_ind {P : List UInt8 → Prop} (h0 : P []) (hs : ∀ l, l ≠ [] → P (l.drop (decL l).2) → P l) : ∀ l, P l := by
  have H : ∀ n (l : List UInt8), l.length ≤ n → P l := by
    intro n
    induction n with
    | zero =>
      intro l hl
      have : l = [] := List.eq_nil_of_length_eq_zero (by omega)
      subst this
      exact h0
    | succ n ih =>
      intro l hl
      by_cases h : l = []
      · subst h; exact h0
      · have := decL_pos l
        exact hs l h (ih _ (by rw [List.length_drop]; omega))
  exact fun l => H _ l (Nat.le_refl _)
theorem fold_lets : ∀ l, Lets (fold l) := by
  apply rune_ind
  · intro c h; cases h
  · intro l h ih
    rw [fold_step l h]
    intro c hc
    rw [List.mem_append] at hc
    rcases hc with hc | hc
    · exact foldRune_lets _ c hc
    · exact ih c hc
theorem fold_le : ∀ l, (fold l).length ≤ l.length := by
  apply rune_ind
  · simp [fold_nil]
  · intro l h ih
    rw [fold_step l h, List.length_append]
    rw [List.length_drop] at ih
    have h1 := decL_short l
    have h2 := decL_le l h
    omega
theorem decL_low (c : UInt8) (t : List UInt8) (h : c.toNat < 128) : decL (c :: t) = (c.toNat, 1) := by
  have e : byte (c :: t) 0 = c.toNat := rfl
  unfold decL
  dsimp only
  rw [e, if_pos h]
theorem fold_same : ∀ l, Lets l → fold l = l
  | [], _ => rfl
  | c :: t, h => by
    have hc := h c (by simp)
    have hc' := of_decide_eq_true (show decide _ = true from hc)
    have hd := decL_low c t (by omega)
    rw [fold_step _ (by simp), hd]
    show foldRune (c.toNat : Int) ++ fold ((c :: t).drop 1) = c :: t
    rw [foldRune_letter c hc]
    simp
    exact fold_same t (fun d hd => h d (by simp [hd]))
theorem fold_nl (b : List UInt8) : fold (10 :: b) = fold b := by
  rw [fold_step _ (by simp), decL_low 10 b (by decide)]
  show foldRune 10 ++ fold ((10 :: b).drop 1) = _
  rw [foldRune_nl]
  rfl
theorem fold_cut (b : List UInt8) : ∀ a, fold (a ++ 10 :: b) = fold a ++ fold b := by
  apply rune_ind
  · exact fold_nl b
  · intro l h ih
    rw [fold_step (l ++ 10 :: b) (by simp), decL_cut l b h, fold_step l h, List.append_assoc, ← ih]
    congr 2
    rw [List.drop_append_of_le_length (decL_le l h)]
theorem fold_drop (l : List UInt8) (pos : Nat) (h : pos < l.length) : fold (l.drop pos) = foldRune (decL (l.drop pos)).1 ++ fold (l.drop (pos + (decL (l.drop pos)).2)) := by
  rw [fold_step (l.drop pos) (by intro e; have := congrArg List.length e; simp at this; omega), List.drop_drop]
theorem fold_alive : fold [90, 97, 197, 188, 195, 179, 197, 130, 196, 135, 33] = [90, 65, 90, 76, 67, 88] := by decide

/-! ### Check -/
def bad (c : UInt8) : Bool := !isL c.toNat
def chkE (l : List UInt8) : Int := match l.findIdx? bad with | none => 0 | some _ => 2
def chkAt (l : List UInt8) : Int := match l.findIdx? bad with | none => 0 | some i => i
theorem chk_ok (l : List UInt8) (h : Lets l) : l.findIdx? bad = none := by
  rw [List.findIdx?_eq_none_iff]
  intro c hc
  simp [bad, h c hc]
theorem lets_of (l : List UInt8) (h : l.findIdx? bad = none) : Lets l := by
  rw [List.findIdx?_eq_none_iff] at h
  intro c hc
  simpa [bad] using h c hc
theorem chk_all (l : List UInt8) (h : ∀ j (hj : j < l.length), isL (l[j].toNat) = true) : l.findIdx? bad = none := by
  apply chk_ok
  intro c hc
  obtain ⟨j, hj, rfl⟩ := List.getElem_of_mem hc
  exact h j hj
theorem chk_at (l : List UInt8) (k : Nat) (hk : k < l.length) (h : ∀ j (_ : j < k) (hj : j < l.length), isL (l[j].toNat) = true) (hb : isL (l[k].toNat) = false) : l.findIdx? bad = some k := by
  rw [List.findIdx?_eq_some_iff_getElem]
  refine ⟨hk, by simp [bad, hb], ?_⟩
  intro j hj
  simp [bad, h j hj (by omega)]

/-! ### Ungroup -/
def isLb (c : UInt8) : Bool := isL c.toNat
def gapB (c : UInt8) : Bool := c.toNat == 32 || c.toNat == 10
def badU (c : UInt8) : Bool := !isLb c && !gapB c
def ungE (l : List UInt8) : Int := match l.findIdx? badU with | some _ => 2 | none => if 65536 < (l.filter isLb).length then 4 else 0
def ungAt (l : List UInt8) : Int := match l.findIdx? badU with | some i => i | none => 0
def ungS (l : List UInt8) : List UInt8 := match l.findIdx? badU with | some _ => [] | none => if 65536 < (l.filter isLb).length then [] else l.filter isLb
theorem ung_bad (l : List UInt8) (k : Nat) (h : l.findIdx? badU = some k) : ungE l = 2 ∧ ungAt l = k ∧ ungS l = [] := by
  unfold ungE ungAt ungS
  rw [h]
  exact ⟨rfl, rfl, rfl⟩
theorem ung_long (l : List UInt8) (h : l.findIdx? badU = none) (hl : 65536 < (l.filter isLb).length) : ungE l = 4 ∧ ungAt l = 0 ∧ ungS l = [] := by
  unfold ungE ungAt ungS
  rw [h]
  dsimp only
  rw [if_pos hl, if_pos hl]
  exact ⟨rfl, rfl, rfl⟩
theorem ung_fit (l : List UInt8) (h : l.findIdx? badU = none) (hl : ¬ 65536 < (l.filter isLb).length) : ungE l = 0 ∧ ungAt l = 0 ∧ ungS l = l.filter isLb := by
  unfold ungE ungAt ungS
  rw [h]
  dsimp only
  rw [if_neg hl, if_neg hl]
  exact ⟨rfl, rfl, rfl⟩
theorem find_all (p : UInt8 → Bool) (l : List UInt8) (h : ∀ j (hj : j < l.length), p l[j] = false) : l.findIdx? p = none := by
  rw [List.findIdx?_eq_none_iff]
  intro c hc
  obtain ⟨j, hj, rfl⟩ := List.getElem_of_mem hc
  exact h j hj
theorem find_at (p : UInt8 → Bool) (l : List UInt8) (k : Nat) (hk : k < l.length) (h : ∀ j (_ : j < k) (hj : j < l.length), p l[j] = false) (hb : p l[k] = true) : l.findIdx? p = some k := by
  rw [List.findIdx?_eq_some_iff_getElem]
  refine ⟨hk, hb, ?_⟩
  intro j hj
  simp [h j hj (by omega)]
theorem take_snoc (l : List UInt8) (k : Nat) (h : k < l.length) : l.take (k + 1) = l.take k ++ [l[k]] := List.take_succ_eq_append_getElem h
theorem filter_snoc (l : List UInt8) (k : Nat) (h : k < l.length) : (l.take (k + 1)).filter isLb = (l.take k).filter isLb ++ (if isLb l[k] = true then [l[k]] else []) := by
  rw [take_snoc l k h, List.filter_append]
  congr 1
  simp [List.filter_cons]

/-! ### Group -/
def gapL (L W : Int) (i : Nat) : List UInt8 := if 0 < i ∧ (i : Int) % L = 0 then (if ((i : Int) / L) % W = 0 then [10] else [32]) else []
def grp (L W : Int) (l : List UInt8) : Nat → List UInt8
  | 0 => []
  | k + 1 => grp L W l k ++ gapL L W k ++ [l.getD k 0]
theorem gapL_one (L W : Int) (i : Nat) : (gapL L W i).length ≤ 1 := by
  unfold gapL
  repeat' split
  all_goals simp
theorem grp_le (L W : Int) (l : List UInt8) : ∀ k, (grp L W l k).length ≤ 2 * k
  | 0 => by simp [grp]
  | k + 1 => by
    have h1 := grp_le L W l k
    have h2 := gapL_one L W k
    simp only [grp, List.length_append, List.length_cons, List.length_nil]
    omega
theorem gapL_no (L W : Int) (i : Nat) (h : ¬ (0 < i ∧ (i : Int) % L = 0)) : gapL L W i = [] := if_neg h
theorem gapL_yes (L W : Int) (i : Nat) (h : 0 < i ∧ (i : Int) % L = 0) : gapL L W i = [UInt8.ofNat (if ((i : Int) / L) % W = 0 then 10 else 32 : Int).toNat] := by
  unfold gapL
  rw [if_pos h]
  split <;> rfl
end Go.Proofs.Ythfjkhmedpilnaa.Pl
