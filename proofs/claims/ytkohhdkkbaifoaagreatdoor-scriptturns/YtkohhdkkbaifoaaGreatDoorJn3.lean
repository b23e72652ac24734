/-
  Several texts, joined: HWrong, PMath, OMath.
-/
import Derived.Test.YtkohhdkkbaifoaaGreatDoorChecked
import Derived.Test.YtkohhdkkbaifoaaGreatDoorJn2
import Derived.WalkKit
/-
  Contracts of hill.wrongRow and hill.Wrong.
-/
namespace Go.Proofs.YtkohhdkkbaifoaaGreatDoor
open Go.RowKit PK

set_option maxHeartbeats 1000000 in
theorem wrongRow_any (v : Value) (l n : Nat) (hn : n ≤ 4) (f : Nat → Int) (w : World) (hv : NumsAt w v l f) :
    Calls Tryz.prog 66 #[v, .int .i64 (n : Nat)] w fun e w' => e = .returned (.int .i64 (rowErr l n f)) ∧ w = w' := by
  by_cases hl : l = n
  · subst hl
    by_cases h0 : l = 0
    · subst h0
      obtain ⟨a, cap, rfl, _⟩ := hv.len
      go_enter Tryz.func66, Tryz.ntmps66
      go_wp2
      go_loop [13] (fun i => i = .int .i64 0) (fun i => (0 - intOf i).toNat)
      case atStart => rfl
      case round =>
        subst hrel
        go_wp2
        go_ret
        exact ⟨rfl, rfl⟩
    · obtain ⟨b, o, cap, rfl, hm, hc⟩ := hv.form (by omega)
      have HC := (show Hid _ from hc)
      have HR : Hid (rowErr l l f = firstE (fun c => numErr (f c)) l) := by rw [Hid]; unfold rowErr; rw [if_neg (by simp)]
      clear hc hv
      go_enter Tryz.func66, Tryz.ntmps66
      go_wp2
      go_loop [13] (fun i => ∃ m : Nat, m ≤ l ∧ i = .int .i64 m ∧ Hid (firstE (fun c => numErr (f c)) m = 0)) (fun i => ((l : Int) - intOf i).toNat)
      case atStart => exact ⟨0, by omega, rfl, rfl⟩
      case round =>
        obtain ⟨m, hm, rfl, HS⟩ := hrel
        by_cases hlt : m < l
        · have hc := HC.out m hlt
          have HST := firstE_step _ m HS.out
          by_cases hx : f m < 0 ∨ 26 ≤ f m
          · have HV : Hid (rowErr l l f = 3) := by
              have h3 : firstE (fun c => numErr (f c)) (m + 1) = 3 := by rw [HST]; show numErr (f m) = 3; unfold numErr; rw [if_pos hx]
              rw [Hid, HR.out, firstE_keep _ (m + 1) (by rw [h3]; decide) l (by omega), h3]
            clear HST
            rcases hx with hx | hx
            · go_wp2
              go_ret
              exact ⟨ret_int HV.out.symm, rfl⟩
            · have hx0 : ¬ f m < 0 := by omega
              go_wp2
              go_ret
              exact ⟨ret_int HV.out.symm, rfl⟩
          · have HN : Hid (firstE (fun c => numErr (f c)) (m + 1) = 0) := by rw [Hid, HST]; exact (numErr_zero _).2 (by omega)
            have h1 : ¬ f m < 0 := by omega
            have h2 : ¬ 26 ≤ f m := by omega
            clear HST hx
            go_wp2
            exact ⟨⟨m + 1, by omega, by go_num, HN⟩, by simp [intOf]; omega⟩
        · have HE : Hid (rowErr l l f = 0) := by
            have : m = l := by omega
            rw [Hid, HR.out, ← this]
            exact HS.out
          go_wp2
          go_ret
          exact ⟨ret_int HE.out.symm, rfl⟩
  · have HR : Hid (rowErr l n f = 8) := by rw [Hid]; unfold rowErr; rw [if_pos hl]
    obtain ⟨a, cap, rfl, _⟩ := hv.len
    have hne : ((l : Int) != (n : Int)) = true := by simp; omega
    clear hv
    go_enter Tryz.func66, Tryz.ntmps66
    go_wp2
    go_ret
    exact ⟨ret_int HR.out.symm, rfl⟩
set_option maxHeartbeats 1000000 in
theorem hwrong_any (v : Value) (n : Nat) (L : Nat → Nat) (Z : Nat → Nat → Int) (w : World) (hv : MatAt w v n L Z) :
    Calls Tryz.prog 29 #[v] w fun e w' => e = .returned (.int .i64 (matErr n L Z)) ∧ w = w' := by
  by_cases h : n < 1 ∨ 4 < n
  · have HR : Hid (matErr n L Z = 5) := by rw [Hid]; unfold matErr; rw [if_pos h]
    obtain ⟨a, cap, rfl, _⟩ := hv.len
    clear hv
    rcases h with h | h
    · have h0 : n = 0 := by omega
      subst h0
      go_enter Tryz.func29, Tryz.ntmps29
      go_wp2
      go_ret
      exact ⟨ret_int HR.out.symm, rfl⟩
    · have h1 : ¬ (n : Int) < 1 := by omega
      have h2 : (4 : Int) < (n : Int) := by omega
      go_enter Tryz.func29, Tryz.ntmps29
      go_wp2
      go_ret
      exact ⟨ret_int HR.out.symm, rfl⟩
  · have HR : Hid (matErr n L Z = firstE (fun r => rowErr (L r) n (Z r)) n) := by rw [Hid]; unfold matErr; rw [if_neg h]
    obtain ⟨b, o, cap, R, rfl, hm, hc, hr⟩ := hv.form (by omega)
    have HC := (show Hid _ from hc)
    have HW : Hid (∀ r, r < n → Calls Tryz.prog 66 #[R r, .int .i64 (n : Nat)] w fun e w' => e = .returned (.int .i64 (rowErr (L r) n (Z r))) ∧ w = w') := fun r hr' => wrongRow_any (R r) (L r) n (by omega) (Z r) w (hr r hr')
    have h1 : ¬ (n : Int) < 1 := by omega
    have h2 : ¬ (4 : Int) < (n : Int) := by omega
    clear hc hr hv
    go_enter Tryz.func29, Tryz.ntmps29
    go_wp2
    go_loop [16] (fun i => ∃ m : Nat, m ≤ n ∧ i = .int .i64 m ∧ Hid (firstE (fun r => rowErr (L r) n (Z r)) m = 0)) (fun i => ((n : Int) - intOf i).toNat)
    case atStart => exact ⟨0, by omega, rfl, rfl⟩
    case round =>
      obtain ⟨m, hm, rfl, HS⟩ := hrel
      by_cases hlt : m < n
      · have hc := HC.out m hlt
        have HST := (show Hid _ from firstE_step _ m HS.out)
        go_wp2_with fail
        refine (HW.out m hlt).mono ?_
        rintro e w1 ⟨rfl, rfl⟩
        rcases rowErr_cases (L m) n (Z m) with h0 | h0
        · have HN : Hid (firstE (fun r => rowErr (L r) n (Z r)) (m + 1) = 0) := HST.out.trans h0
          rw [h0]
          go_wp2
          exact ⟨⟨m + 1, by omega, by go_num, HN⟩, by simp [intOf]; omega⟩
        · have HV : Hid (matErr n L Z = rowErr (L m) n (Z m)) := by
            rw [Hid, HR.out, firstE_keep _ (m + 1) (by rw [HST.out]; simpa using h0) n (by omega)]
            exact HST.out
          generalize rowErr (L m) n (Z m) = E at *
          clear HST HW
          go_wp2
          go_ret
          exact ⟨ret_int HV.out.symm, rfl⟩
      · have HE : Hid (matErr n L Z = 0) := by
          rw [Hid, HR.out]
          obtain rfl : m = n := by omega
          exact HS.out
        go_wp2
        go_ret
        exact ⟨ret_int HE.out.symm, rfl⟩
end Go.Proofs.YtkohhdkkbaifoaaGreatDoor

/-
  Plain mathematics of no program: what is wrong with 26 numbers.
-/
namespace Go.Proofs.YtkohhdkkbaifoaaGreatDoor.Pm

/-- What is wrong at place i: 3 (out of range), 8 (goes where one ahead goes), else 0. -/
def bad (f : Nat → Int) (i : Nat) : Int := if f i < 0 ∨ 26 ≤ f i then 3 else if (List.range i).any (fun j => f j == f i) then 8 else 0
def wrongN (f : Nat → Int) : Nat → Int
  | 0 => 0
  | n + 1 => if wrongN f n ≠ 0 then wrongN f n else bad f n
def wrong (f : Nat → Int) : Int := wrongN f 26
theorem wrongN_keep (f : Nat → Int) (k n : Nat) (h : wrongN f k ≠ 0) (hn : k ≤ n) : wrongN f n = wrongN f k := by
  induction n with
  | zero => have : k = 0 := by omega
            subst this; rfl
  | succ n ih =>
    by_cases e : k = n + 1
    · rw [e]
    · have := ih (by omega)
      show (if wrongN f n ≠ 0 then wrongN f n else bad f n) = _
      rw [this, if_pos h]
theorem wrongN_succ (f : Nat → Int) (k : Nat) (h : wrongN f k = 0) : wrongN f (k + 1) = bad f k := by
  show (if wrongN f k ≠ 0 then wrongN f k else bad f k) = _
  rw [if_neg (by simp [h])]
theorem wrong_stop (f : Nat → Int) (k : Nat) (h : wrongN f k = 0) (hb : bad f k ≠ 0) (hk : k < 26) : wrong f = bad f k := by
  have h1 := wrongN_succ f k h
  have := wrongN_keep f (k + 1) 26 (by rw [h1]; exact hb) (by omega)
  unfold wrong
  rw [this, h1]
theorem wrong_end (f : Nat → Int) (k : Nat) (h : wrongN f k = 0) (hk : k = 26) : wrong f = 0 := by subst hk; exact h
def seen (f : Nat → Int) (k : Nat) (v : Nat) : Bool := (List.range k).any (fun j => f j == (v : Int))
theorem seen_succ (f : Nat → Int) (k v : Nat) : seen f (k + 1) v = (seen f k v || f k == (v : Int)) := by
  simp [seen, List.range_succ, List.any_append]
theorem bad_range (f : Nat → Int) (i : Nat) (h : f i < 0 ∨ 26 ≤ f i) : bad f i = 3 := by simp [bad, h]
theorem bad_fit (f : Nat → Int) (i n : Nat) (h : f i = (n : Int)) (hn : n < 26) (hs : seen f i n = true) : bad f i = 8 := by
  unfold bad
  rw [if_neg (by omega), if_pos (by rw [h]; exact hs)]
theorem bad_ok (f : Nat → Int) (i n : Nat) (h : f i = (n : Int)) (hn : n < 26) (hs : seen f i n = false) : bad f i = 0 := by
  unfold bad
  rw [if_neg (by omega), if_neg (by rw [h]; simpa [seen] using hs)]
theorem wrongN_zero (f : Nat → Int) : ∀ n, wrongN f n = 0 ↔ ∀ i, i < n → bad f i = 0
  | 0 => by simp [wrongN]
  | n + 1 => by
    have ih := wrongN_zero f n
    constructor
    · intro h i hi
      by_cases e : wrongN f n = 0
      · rw [wrongN_succ f n e] at h
        by_cases e2 : i = n
        · rw [e2]; exact h
        · exact ih.1 e i (by omega)
      · exact absurd ((wrongN_keep f n (n + 1) e (by omega)).symm.trans h) e
    · intro h
      rw [wrongN_succ f n (ih.2 fun i hi => h i (by omega))]
      exact h n (by omega)
theorem bad_zero (f : Nat → Int) (i : Nat) : bad f i = 0 ↔ (0 ≤ f i ∧ f i < 26 ∧ ∀ j, j < i → f j ≠ f i) := by
  unfold bad
  by_cases h1 : f i < 0 ∨ 26 ≤ f i
  · rw [if_pos h1]
    constructor
    · intro h; exact absurd h (by decide)
    · intro ⟨a, b, _⟩; omega
  · rw [if_neg h1]
    by_cases h2 : (List.range i).any (fun j => f j == f i) = true
    · rw [if_pos h2]
      simp at h2
      obtain ⟨j, hj, e⟩ := h2
      constructor
      · intro h; exact absurd h (by decide)
      · intro ⟨_, _, c⟩; exact absurd e (c j hj)
    · rw [if_neg h2]
      simp at h2
      simp only [true_iff]
      exact ⟨by omega, by omega, h2⟩
/-- A permutation, as a function on numbers below 26. -/
structure IsPerm (p : Nat → Nat) : Prop where
  lt : ∀ i, i < 26 → p i < 26
  inj : ∀ i j, i < 26 → j < 26 → p i = p j → i = j
def up (p : Nat → Nat) : Nat → Int := fun i => (p i : Int)
theorem wrong_zero (f : Nat → Int) : wrong f = 0 ↔ ∃ p, IsPerm p ∧ ∀ i, i < 26 → f i = (p i : Int) := by
  unfold wrong
  rw [wrongN_zero]
  constructor
  · intro h
    refine ⟨fun i => (f i).toNat, ⟨fun i hi => ?_, fun i j hi hj e => ?_⟩, fun i hi => ?_⟩
    · have := (bad_zero f i).1 (h i hi); show (f i).toNat < 26; omega
    · have h1 := (bad_zero f i).1 (h i hi)
      have h2 := (bad_zero f j).1 (h j hj)
      have e' : f i = f j := by have e : (f i).toNat = (f j).toNat := e; omega
      rcases Nat.lt_trichotomy i j with c | c | c
      · exact absurd e' (h2.2.2 i c)
      · exact c
      · exact absurd e'.symm (h1.2.2 j c)
    · have := (bad_zero f i).1 (h i hi); show f i = ((f i).toNat : Int); omega
  · rintro ⟨p, hp, he⟩ i hi
    rw [bad_zero, he i hi]
    have := hp.lt i hi
    refine ⟨by omega, by omega, fun j hj => ?_⟩
    rw [he j (by omega)]
    intro e
    have := hp.inj j i (by omega) hi (by omega)
    omega
theorem wrong_up (p : Nat → Nat) (hp : IsPerm p) : wrong (up p) = 0 := (wrong_zero _).2 ⟨p, hp, fun _ _ => rfl⟩
/-- What is wrong with the first of n that is wrong. -/
def firstBad (fs : Nat → Nat → Int) : Nat → Int
  | 0 => 0
  | n + 1 => if firstBad fs n ≠ 0 then firstBad fs n else wrong (fs n)
theorem firstBad_succ (fs : Nat → Nat → Int) (k : Nat) (h : firstBad fs k = 0) : firstBad fs (k + 1) = wrong (fs k) := by
  show (if firstBad fs k ≠ 0 then firstBad fs k else wrong (fs k)) = _
  rw [if_neg (by simp [h])]
theorem firstBad_keep (fs : Nat → Nat → Int) (k n : Nat) (h : firstBad fs k ≠ 0) (hn : k ≤ n) : firstBad fs n = firstBad fs k := by
  induction n with
  | zero => have : k = 0 := by omega
            subst this; rfl
  | succ n ih =>
    by_cases e : k = n + 1
    · rw [e]
    · have := ih (by omega)
      show (if firstBad fs n ≠ 0 then firstBad fs n else wrong (fs n)) = _
      rw [this, if_pos h]
theorem firstBad_stop (fs : Nat → Nat → Int) (k n : Nat) (h : firstBad fs k = 0) (hb : wrong (fs k) ≠ 0) (hk : k < n) : firstBad fs n = wrong (fs k) := by
  have h1 := firstBad_succ fs k h
  rw [firstBad_keep fs (k + 1) n (by rw [h1]; exact hb) (by omega), h1]
theorem nodup_le : ∀ (l m : List Nat), l.Nodup → (∀ x ∈ l, x ∈ m) → l.length ≤ m.length
  | [], _, _, _ => Nat.zero_le _
  | a :: l, m, hd, hs => by
    have ha : a ∈ m := hs a (by simp)
    have hd' := List.nodup_cons.1 hd
    have := nodup_le l (m.erase a) hd'.2 (fun x hx => by
      have hne : x ≠ a := fun e => hd'.1 (e ▸ hx)
      exact (List.mem_erase_of_ne hne).2 (hs x (by simp [hx])))
    rw [List.length_erase_of_mem ha] at this
    have hpos : 0 < m.length := List.length_pos_of_mem ha
    simp
    omega
theorem nodup_map (p : Nat → Nat) : ∀ (l : List Nat), l.Nodup → (∀ i ∈ l, ∀ j ∈ l, p i = p j → i = j) → (l.map p).Nodup
  | [], _, _ => by simp
  | a :: l, hd, hi => by
    have hd' := List.nodup_cons.1 hd
    rw [List.map_cons, List.nodup_cons]
    refine ⟨?_, nodup_map p l hd'.2 fun i h1 j h2 => hi i (by simp [h1]) j (by simp [h2])⟩
    intro h
    obtain ⟨x, hx, e⟩ := List.mem_map.1 h
    have := hi x (by simp [hx]) a (by simp) e
    exact hd'.1 (this ▸ hx)
theorem IsPerm.surj {p : Nat → Nat} (hp : IsPerm p) (j : Nat) (hj : j < 26) : ∃ i, i < 26 ∧ p i = j := by
  apply Classical.byContradiction
  intro hn
  have hn' : ∀ i, i < 26 → p i ≠ j := fun i hi e => hn ⟨i, hi, e⟩
  have h1 := nodup_map p (List.range 26) List.nodup_range (fun i hi k hk e => hp.inj i k (by simpa using hi) (by simpa using hk) e)
  have h2 := nodup_le _ ((List.range 26).erase j) h1 (fun x hx => by
    obtain ⟨i, hi, e⟩ := List.mem_map.1 hx
    have hi' : i < 26 := by simpa using hi
    have hne : x ≠ j := by rw [← e]; exact hn' i hi'
    exact (List.mem_erase_of_ne hne).2 (by rw [← e]; simpa using hp.lt i hi'))
  rw [List.length_erase_of_mem (by simpa using hj)] at h2
  simp at h2
/-- The letter that goes to j. -/
def inv (p : Nat → Nat) (j : Nat) : Nat := ((List.range 26).find? fun i => p i == j).getD 0
theorem IsPerm.inv_spec {p : Nat → Nat} (hp : IsPerm p) (j : Nat) (hj : j < 26) : inv p j < 26 ∧ p (inv p j) = j := by
  unfold inv
  cases h : (List.range 26).find? fun i => p i == j with
  | none =>
    obtain ⟨i, hi, e⟩ := hp.surj j hj
    have := List.find?_eq_none.1 h i (by simpa using hi)
    simp [e] at this
  | some i =>
    have h1 := List.find?_some h
    have h2 := List.mem_of_find?_eq_some h
    simp at h1 h2
    exact ⟨h2, h1⟩
theorem IsPerm.inv_left {p : Nat → Nat} (hp : IsPerm p) (i : Nat) (hi : i < 26) : inv p (p i) = i := by
  have := hp.inv_spec (p i) (hp.lt i hi)
  exact hp.inj _ _ this.1 hi this.2
theorem IsPerm.inv {p : Nat → Nat} (hp : IsPerm p) : IsPerm (inv p) :=
  ⟨fun i hi => (hp.inv_spec i hi).1, fun i j hi hj e => by
    have h1 := (hp.inv_spec i hi).2
    have h2 := (hp.inv_spec j hj).2
    rw [e, h2] at h1
    exact h1.symm⟩
theorem IsPerm.comp {p q : Nat → Nat} (hp : IsPerm p) (hq : IsPerm q) : IsPerm (fun i => q (p i)) :=
  ⟨fun i hi => hq.lt _ (hp.lt i hi), fun i j hi hj e => hp.inj i j hi hj (hq.inj _ _ (hp.lt i hi) (hp.lt j hj) e)⟩
theorem IsPerm.id : IsPerm (fun i => i) := ⟨fun _ h => h, fun _ _ _ _ e => e⟩
end Go.Proofs.YtkohhdkkbaifoaaGreatDoor.Pm

/-
  The machine with wheels: the mathematics.
-/
namespace Go.Proofs.YtkohhdkkbaifoaaGreatDoor.Om
open Pm Vg

/-- A machine: n wheels, what each makes of a letter, where it has notches, its ring, where it begins; reflector and plugs. -/
structure Ma where
  n : Nat
  wi : Nat → Nat → Nat
  no : Nat → List Nat
  ri : Nat → Nat
  st : Nat → Nat
  rf : Nat → Nat
  pl : Nat → Nat
/-- A machine with which nothing is wrong. -/
structure Ok (M : Ma) : Prop where
  pos : 1 ≤ M.n
  most : M.n ≤ 4
  wi : ∀ i, i < M.n → IsPerm (M.wi i)
  no : ∀ i, i < M.n → ∀ k, k ∈ M.no i → k < 26
  ri : ∀ i, i < M.n → M.ri i < 26
  st : ∀ i, i < M.n → M.st i < 26
  rf : IsPerm M.rf
  rf2 : ∀ c, c < 26 → M.rf (M.rf c) = c
  rf1 : ∀ c, c < 26 → M.rf c ≠ c
  pl : IsPerm M.pl
  pl2 : ∀ c, c < 26 → M.pl (M.pl c) = c
/-- Does this wheel turn? -/
def turns (M : Ma) (at' : Nat → Nat) (i : Nat) : Bool := i + 1 == M.n || (M.no (i + 1)).contains (at' (i + 1)) || (decide (0 < i) && (M.no i).contains (at' i))
/-- The windows behind a step. -/
def step (M : Ma) (at' : Nat → Nat) : Nat → Nat := fun i => if turns M at' i then (at' i + 1) % 26 else at' i
def steps (M : Ma) (at' : Nat → Nat) : Nat → Nat → Nat
  | 0 => at'
  | k + 1 => step M (steps M at' k)
def In26 (M : Ma) (at' : Nat → Nat) : Prop := ∀ i, i < M.n → at' i < 26
theorem In26.step {M : Ma} {at' : Nat → Nat} (h : In26 M at') : In26 M (step M at') := fun i hi => by
  unfold Om.step
  by_cases ht : turns M at' i
  · rw [if_pos ht]; exact Nat.mod_lt _ (by decide)
  · rw [if_neg ht]; exact h i hi
theorem In26.steps {M : Ma} {at' : Nat → Nat} (h : In26 M at') : ∀ k, In26 M (steps M at' k)
  | 0 => h
  | k + 1 => (In26.steps h k).step
/-- By how much a wheel is turned. -/
def by' (M : Ma) (at' : Nat → Nat) (i : Nat) : Nat := (at' i + 26 - M.ri i) % 26
theorem by_lt (M : Ma) (at' : Nat → Nat) (i : Nat) : by' M at' i < 26 := Nat.mod_lt _ (by decide)
/-- What a wheel makes of a letter. -/
def wheel (p : Nat → Nat) (b c : Nat) : Nat := (p ((c + b) % 26) + 26 - b) % 26
theorem turn_perm (b : Nat) : IsPerm fun c => (c + b) % 26 := ⟨fun _ _ => Nat.mod_lt _ (by decide), fun i j hi hj e => by
  have : (i + b) % 26 = (j + b) % 26 := e
  omega⟩
theorem back_turn {b : Nat} (hb : b < 26) : IsPerm fun c => (c + 26 - b) % 26 := ⟨fun _ _ => Nat.mod_lt _ (by decide), fun i j hi hj e => by
  have : (i + 26 - b) % 26 = (j + 26 - b) % 26 := e
  omega⟩
theorem wheel_perm {p : Nat → Nat} (hp : IsPerm p) {b : Nat} (hb : b < 26) : IsPerm (wheel p b) := ((turn_perm b).comp hp).comp (back_turn hb)
/-- Through the first k wheels from the last one on (no plugs). -/
def through (M : Ma) (at' : Nat → Nat) : Nat → Nat → Nat
  | 0, c => c
  | k + 1, c => wheel (M.wi (M.n - 1 - k)) (by' M at' (M.n - 1 - k)) (through M at' k c)
theorem through_perm {M : Ma} (h : Ok M) (at' : Nat → Nat) : ∀ k, k ≤ M.n → IsPerm (through M at' k)
  | 0, _ => IsPerm.id
  | k + 1, hk => (through_perm h at' k (by omega)).comp (wheel_perm (h.wi _ (by omega)) (by_lt _ _ _))
def there (M : Ma) (at' : Nat → Nat) (c : Nat) : Nat := through M at' M.n (M.pl c)
theorem there_perm {M : Ma} (h : Ok M) (at' : Nat → Nat) : IsPerm (there M at') := h.pl.comp (through_perm h at' M.n (Nat.le_refl _))
/-- What each letter would become. -/
def now (M : Ma) (at' : Nat → Nat) (c : Nat) : Nat := inv (there M at') (M.rf (there M at' c))
theorem now_perm {M : Ma} (h : Ok M) (at' : Nat → Nat) : IsPerm (now M at') := ((there_perm h at').comp h.rf).comp (there_perm h at').inv
theorem inv_unique {p : Nat → Nat} (hp : IsPerm p) {i j : Nat} (hi : i < 26) (e : p i = j) : inv p j = i := by rw [← e]; exact hp.inv_left i hi
/-- Letters pressed one behind the other. -/
def wr (M : Ma) : (Nat → Nat) → List UInt8 → List UInt8
  | _, [] => []
  | at', c :: l => ltr (now M (step M at') (Vg.num c)) :: wr M (step M at') l
theorem wr_length (M : Ma) : ∀ (l : List UInt8) (at' : Nat → Nat), (wr M at' l).length = l.length
  | [], _ => rfl
  | _ :: l, at' => by show (wr M (step M at') l).length + 1 = l.length + 1; rw [wr_length M l]
theorem wr_ls {M : Ma} (h : Ok M) : ∀ {l : List UInt8} (at' : Nat → Nat), Ls l → Ls (wr M at' l)
  | [], _, _ => fun c hc => by cases hc
  | a :: l, at', hl => by
    intro c hc
    rcases List.mem_cons.1 hc with e | e
    · rw [e]; exact ltr_ok ((now_perm h _).1 _ (num_lt (hl a (by simp))))
    · exact wr_ls h (step M at') (fun c hc => hl c (List.mem_cons_of_mem _ hc)) c e
def plug (p : Nat → Nat) (l : List UInt8) : List UInt8 := l.map fun c => ltr (p (Vg.num c))
/-- THE WHEELS DON'T SEE THE TEXT. -/
theorem steps_step (M : Ma) : ∀ k (at' : Nat → Nat), steps M (step M at') k = steps M at' (k + 1)
  | 0, _ => rfl
  | k + 1, at' => by show step M (steps M (step M at') k) = _; rw [steps_step M k]; rfl
/-- Wheels turned with their rings. -/
def moved (M : Ma) (b : Nat) : Ma := { M with no := fun i => (M.no i).map fun k => (k + b) % 26, ri := fun i => (M.ri i + b) % 26, st := fun i => (M.st i + b) % 26 }
def mv (b : Nat) (at' : Nat → Nat) : Nat → Nat := fun i => (at' i + b) % 26
end Go.Proofs.YtkohhdkkbaifoaaGreatDoor.Om
