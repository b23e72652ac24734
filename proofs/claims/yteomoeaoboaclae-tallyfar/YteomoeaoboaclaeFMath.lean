/-
  Floats of 64 bits: what is needed of them to know that sums of squares over positive numbers are never invalid, and that they can be held against each other.
-/
import Derived.Laws.FloatArith
namespace Go.Proofs.Yteomoeaoboaclae.Fl
open Ieee

abbrev D : Format := Ieee.double
theorem d_sign : D.signWeight = 9223372036854775808 := by decide
theorem d_binade : D.binade = 4503599627370496 := by decide
theorem d_inf : D.infRung = 9218868437227405312 := by decide
theorem d_least : D.leastPlace = -1074 := by decide
theorem d_frac : D.fractionBits = 52 := rfl
/-- What the word of a sign and a rung stands for. -/
theorem read_word (neg : Bool) {rung : Nat} (h : rung ≤ D.infRung) : D.read (D.word neg rung) = if rung < D.binade then .number neg rung D.leastPlace else if rung < D.infRung then .number neg (D.binade + rung % D.binade) (D.leastPlace + (rung / D.binade - 1 : Nat)) else .infinity neg := by
  have hlt : rung < D.signWeight := by rw [d_inf] at h; rw [d_sign]; omega
  have h1 : (D.word neg rung / D.signWeight % 2 == 1) = neg := by
    unfold Format.word
    rw [d_sign] at hlt ⊢
    cases neg
    · simp; omega
    · simp; omega
  have h2 : D.word neg rung % D.signWeight = rung := by
    unfold Format.word
    rw [d_sign] at hlt ⊢
    cases neg
    · simp; omega
    · simp; omega
  unfold Format.read
  simp only [h1, h2]
  split
  · rfl
  · split
    · rfl
    · rename_i h3 h4
      rw [if_pos (by omega)]
/-- Of each number there is a rung. -/
theorem nearest_rung (neg : Bool) (mag : Nat) (place : Int) : ∃ rung, rung ≤ D.infRung ∧ D.nearest neg mag place = D.word neg rung := by
  unfold Format.nearest
  by_cases h : mag = 0
  · rw [if_pos h]; exact ⟨0, Nat.zero_le _, rfl⟩
  · rw [if_neg h]; exact ⟨_, Nat.min_le_right _ _, rfl⟩
/-- What is written is read as a number or an infinity, of the same sign. -/
theorem read_nearest (neg : Bool) (mag : Nat) (place : Int) : (∃ m i, D.read (D.nearest neg mag place) = .number neg m i) ∨ D.read (D.nearest neg mag place) = .infinity neg := by
  obtain ⟨rung, h, e⟩ := nearest_rung neg mag place
  rw [e, read_word neg h]
  split
  · exact .inl ⟨_, _, rfl⟩
  · split
    · exact .inl ⟨_, _, rfl⟩
    · exact .inr rfl
theorem read_inf (neg : Bool) : D.read (D.word neg D.infRung) = .infinity neg := by
  rw [read_word neg (Nat.le_refl _), if_neg (by rw [d_inf, d_binade]; omega), if_neg (Nat.lt_irrefl _)]
/-- A finite number; not below zero and no NaN; above zero and finite; no NaN. -/
def Num (x : Nat) : Prop := ∃ s m i, D.read x = .number s m i
def NN (x : Nat) : Prop := (∃ m i, D.read x = .number false m i) ∨ D.read x = .infinity false
def Po (x : Nat) : Prop := ∃ m i, D.read x = .number false m i ∧ m ≠ 0
def Ok (x : Nat) : Prop := Num x ∨ ∃ s, D.read x = .infinity s
theorem Po.num {x : Nat} (h : Po x) : Num x := by obtain ⟨m, i, e, _⟩ := h; exact ⟨_, _, _, e⟩
theorem nn_nearest (mag : Nat) (place : Int) : NN (D.nearest false mag place) := read_nearest false mag place
theorem ok_nearest (neg : Bool) (mag : Nat) (place : Int) : Ok (D.nearest neg mag place) := by
  rcases read_nearest neg mag place with ⟨m, i, e⟩ | e
  · exact .inl ⟨_, _, _, e⟩
  · exact .inr ⟨_, e⟩
theorem nn_zero : NN 0 := .inl ⟨0, D.leastPlace, by decide⟩
theorem sub_ok {x y : Nat} (hx : Num x) (hy : Num y) : ∃ r, D.sub x y = some r ∧ Ok r := by
  obtain ⟨s, m, i, e⟩ := hx
  obtain ⟨t, n, j, f⟩ := hy
  unfold Format.sub
  rw [e, f]
  exact ⟨_, rfl, ok_nearest _ _ _⟩
theorem sq_ok {x : Nat} (hx : Ok x) : ∃ r, D.mul x x = some r ∧ NN r := by
  unfold Format.mul
  rcases hx with ⟨s, m, i, e⟩ | ⟨s, e⟩
  · rw [e]
    refine ⟨_, rfl, ?_⟩
    show NN (D.nearest (s ^^ s) _ _)
    rw [Bool.xor_self]
    exact nn_nearest _ _
  · rw [e]
    refine ⟨_, rfl, ?_⟩
    show NN (D.word (s ^^ s) D.infRung)
    rw [Bool.xor_self]
    exact .inr (read_inf false)
theorem div_ok {x y : Nat} (hx : NN x) (hy : Po y) : ∃ r, D.div x y = some r ∧ NN r := by
  obtain ⟨n, j, f, hn⟩ := hy
  unfold Format.div
  rw [f]
  rcases hx with ⟨m, i, e⟩ | e
  · rw [e]
    simp only [Datum.quotient, if_neg hn]
    exact ⟨_, rfl, nn_nearest _ _⟩
  · rw [e]
    exact ⟨_, rfl, .inr (read_inf false)⟩
theorem add_ok {x y : Nat} (hx : NN x) (hy : NN y) : ∃ r, D.add x y = some r ∧ NN r := by
  unfold Format.add
  rcases hx with ⟨m, i, e⟩ | e
  · rcases hy with ⟨n, j, f⟩ | f
    · rw [e, f]
      refine ⟨_, rfl, ?_⟩
      have h : (if signed false m (i - min i j).toNat + signed false n (j - min i j).toNat = 0 then (false && false) else decide (signed false m (i - min i j).toNat + signed false n (j - min i j).toNat < 0)) = false := by
        have h1 : 0 ≤ signed false m (i - min i j).toNat := by unfold signed; rw [if_neg (by decide)]; exact Int.natCast_nonneg _
        have h2 : 0 ≤ signed false n (j - min i j).toNat := by unfold signed; rw [if_neg (by decide)]; exact Int.natCast_nonneg _
        split
        · rfl
        · simp; omega
      show NN (D.nearest (if signed false m (i - min i j).toNat + signed false n (j - min i j).toNat = 0 then (false && false) else decide (signed false m (i - min i j).toNat + signed false n (j - min i j).toNat < 0)) _ _)
      rw [h]
      exact nn_nearest _ _
    · rw [e, f]
      exact ⟨_, rfl, .inr (read_inf false)⟩
  · rcases hy with ⟨n, j, f⟩ | f
    · rw [e, f]
      exact ⟨_, rfl, .inr (read_inf false)⟩
    · rw [e, f]
      exact ⟨_, rfl, .inr (read_inf false)⟩
/-- The exponent of a number that isn't zero is kept but for one. -/
theorem log2_lt (n : Nat) (h : n ≠ 0) : 2 ^ n.log2 ≤ n ∧ n < 2 ^ (n.log2 + 1) := ⟨Nat.log2_self_le h, Nat.lt_log2_self⟩
theorem log2_eq {n k : Nat} (h1 : 2 ^ k ≤ n) (h2 : n < 2 ^ (k + 1)) : n.log2 = k := by
  have hn : n ≠ 0 := by have := Nat.two_pow_pos k; omega
  exact (Nat.log2_eq_iff hn).2 ⟨h1, h2⟩
theorem shl (a k : Nat) : a <<< k = a * 2 ^ k := Nat.shiftLeft_eq a k
theorem log2_shl {a : Nat} (h : a ≠ 0) (k : Nat) : (a <<< k).log2 = a.log2 + k := by
  obtain ⟨h1, h2⟩ := log2_lt a h
  have hp := Nat.two_pow_pos k
  rw [shl]
  refine log2_eq ?_ ?_
  · rw [Nat.pow_add]; exact Nat.mul_le_mul_right _ h1
  · rw [show a.log2 + k + 1 = (a.log2 + 1) + k by omega, Nat.pow_add]; exact Nat.mul_lt_mul_of_pos_right h2 hp
theorem cut_le (neg : Bool) (n drop : Nat) (hd : drop ≤ n.log2 + 2) : n / 2 ^ drop ≤ Toward.even.cut neg n drop ∧ Toward.even.cut neg n drop ≤ n / 2 ^ drop + 1 := by
  unfold Toward.cut
  simp only [Nat.min_eq_left hd, shl, Nat.one_mul]
  generalize (decide (2 ^ drop < 2 * (n % 2 ^ drop)) || (2 ^ drop == 2 * (n % 2 ^ drop)) && (n / 2 ^ drop % 2 == 1)) = b
  cases b <;> simp
/-- The digits that are kept. -/
theorem kept_ok (neg : Bool) {mag : Nat} (hm : mag ≠ 0) (place : Int) : 2 ^ 52 ≤ Toward.even.cut neg (mag <<< (place - (place + mag.log2 - 52)).toNat) ((place + mag.log2 - 52) - place).toNat ∧ Toward.even.cut neg (mag <<< (place - (place + mag.log2 - 52)).toNat) ((place + mag.log2 - 52) - place).toNat ≤ 2 ^ 53 := by
  obtain ⟨h1, h2⟩ := log2_lt mag hm
  by_cases h : 52 ≤ mag.log2
  · rw [show (place - (place + mag.log2 - 52)).toNat = 0 by omega, show ((place + mag.log2 - 52) - place).toNat = mag.log2 - 52 by omega, Nat.shiftLeft_zero]
    have hc := cut_le neg mag (mag.log2 - 52) (by omega)
    have e1 : 2 ^ 52 ≤ mag / 2 ^ (mag.log2 - 52) := by
      rw [Nat.le_div_iff_mul_le (Nat.two_pow_pos _), ← Nat.pow_add, show 52 + (mag.log2 - 52) = mag.log2 by omega]
      exact h1
    have e2 : mag / 2 ^ (mag.log2 - 52) < 2 ^ 53 := by
      rw [Nat.div_lt_iff_lt_mul (Nat.two_pow_pos _), ← Nat.pow_add, show 53 + (mag.log2 - 52) = mag.log2 + 1 by omega]
      exact h2
    omega
  · rw [show (place - (place + mag.log2 - 52)).toNat = 52 - mag.log2 by omega, show ((place + mag.log2 - 52) - place).toNat = 0 by omega]
    have hc : Toward.even.cut neg (mag <<< (52 - mag.log2)) 0 = mag <<< (52 - mag.log2) := by
      unfold Toward.cut
      simp [shl, Nat.mod_one]
    rw [hc, shl]
    have hp := Nat.two_pow_pos (52 - mag.log2)
    have e1 : 2 ^ mag.log2 * 2 ^ (52 - mag.log2) ≤ mag * 2 ^ (52 - mag.log2) := Nat.mul_le_mul_right _ h1
    have e2 : mag * 2 ^ (52 - mag.log2) < 2 ^ (mag.log2 + 1) * 2 ^ (52 - mag.log2) := Nat.mul_lt_mul_of_pos_right h2 hp
    rw [← Nat.pow_add, show mag.log2 + (52 - mag.log2) = 52 by omega] at e1
    rw [← Nat.pow_add, show mag.log2 + 1 + (52 - mag.log2) = 53 by omega] at e2
    omega
/-- A number of a middling exponent is written as a number that isn't zero, of an exponent near it. -/
theorem nearest_mid (neg : Bool) {mag : Nat} (hm : mag ≠ 0) {place : Int} (hlo : -1000 ≤ place + mag.log2) (hhi : place + mag.log2 ≤ 900) :
    ∃ m i, D.read (D.nearest neg mag place) = .number neg m i ∧ m ≠ 0 ∧ place + mag.log2 - 1 ≤ i + m.log2 ∧ i + m.log2 ≤ place + mag.log2 + 1 := by
  obtain ⟨k1, k2⟩ := kept_ok neg hm place
  unfold Format.nearest
  rw [if_neg hm]
  have hl : max (place + mag.log2 - D.fractionBits) D.leastPlace = place + mag.log2 - 52 := by rw [d_least, d_frac]; omega
  simp only [hl]
  generalize Toward.even.cut neg (mag <<< (place - (place + mag.log2 - 52)).toNat) ((place + mag.log2 - 52) - place).toNat = kept at *
  rw [d_least]
  obtain ⟨T, hT⟩ : ∃ T : Nat, (place + mag.log2 - 52 - -1074).toNat = T := ⟨_, rfl⟩
  have hT1 : (T : Int) = place + mag.log2 + 1022 := by omega
  have hp52 : (2 : Nat) ^ 52 = 4503599627370496 := by decide
  have hp53 : (2 : Nat) ^ 53 = 9007199254740992 := by decide
  rw [hT, Nat.min_eq_left (by rw [d_binade, d_inf]; omega), read_word neg (by rw [d_binade, d_inf]; omega), d_binade, d_inf, if_neg (by omega), if_pos (by omega), d_least]
  refine ⟨_, _, rfl, by omega, ?_, ?_⟩
  all_goals
    have hr : (T * 4503599627370496 + kept) % 4503599627370496 < 4503599627370496 := Nat.mod_lt _ (by decide)
    have hlog : (4503599627370496 + (T * 4503599627370496 + kept) % 4503599627370496).log2 = 52 := log2_eq (by omega) (by omega)
    rw [hlog]
    have hd : (T * 4503599627370496 + kept) / 4503599627370496 = T + kept / 4503599627370496 := by omega
    have hd1 : 1 ≤ kept / 4503599627370496 := by omega
    have hd2 : kept / 4503599627370496 ≤ 2 := by omega
    rw [hd]
    omega
/-- Whole numbers as floats. -/
theorem ofInt_eq (n : Nat) : floatOfInt .f64 (n : Int) = D.nearest false n 0 := by
  show D.nearest (decide ((n : Int) < 0)) (n : Int).natAbs 0 = _
  rw [show decide ((n : Int) < 0) = false by simp, Int.natAbs_natCast]
theorem ofInt_mid {n : Nat} (h1 : n ≠ 0) (h2 : n < 2 ^ 40) : ∃ m i, D.read (floatOfInt .f64 (n : Int)) = .number false m i ∧ m ≠ 0 ∧ -1 ≤ i + m.log2 ∧ i + m.log2 ≤ 41 := by
  have hl : n.log2 < 40 := (Nat.log2_lt h1).2 h2
  obtain ⟨m, i, e, hm, h3, h4⟩ := nearest_mid false h1 (place := 0) (by omega) (by omega)
  rw [ofInt_eq]
  exact ⟨m, i, e, hm, by omega, by omega⟩
theorem ofInt_num {n : Nat} (h2 : n < 2 ^ 40) : Num (floatOfInt .f64 (n : Int)) := by
  by_cases h : n = 0
  · subst h; exact ⟨false, 0, D.leastPlace, by decide⟩
  · obtain ⟨m, i, e, _⟩ := ofInt_mid h h2
    exact ⟨_, _, _, e⟩
/-- Two numbers that aren't below zero, held against each other. -/
theorem signed_pos (m k : Nat) : signed false m k = ((m * 2 ^ k : Nat) : Int) := by unfold signed; rw [if_neg (by decide), shl]
theorem order_num {m n : Nat} {i j : Int} (B : Int) (hi : B ≤ i) (hj : B ≤ j) : (Datum.number false m i).order (.number false n j) = some (compare ((m * 2 ^ (i - B).toNat : Nat) : Int) ((n * 2 ^ (j - B).toNat : Nat) : Int)) := by
  unfold Datum.order
  simp only [signed_pos]
  obtain ⟨K, hK⟩ : ∃ K : Nat, K = (min i j - B).toNat := ⟨_, rfl⟩
  have e1 : (i - B).toNat = (i - min i j).toNat + K := by omega
  have e2 : (j - B).toNat = (j - min i j).toNat + K := by omega
  rw [e1, e2, Nat.pow_add, Nat.pow_add, ← Nat.mul_assoc, ← Nat.mul_assoc]
  have hp := Nat.two_pow_pos K
  congr 1
  generalize m * 2 ^ (i - min i j).toNat = a
  generalize n * 2 ^ (j - min i j).toNat = b
  rw [Int.compare_eq_ite_lt, Int.compare_eq_ite_lt]
  have h1 : ((a * 2 ^ K : Nat) : Int) < ((b * 2 ^ K : Nat) : Int) ↔ (a : Int) < (b : Int) := by
    rw [Int.ofNat_lt, Int.ofNat_lt]
    exact Nat.mul_lt_mul_right hp
  have h2 : ((b * 2 ^ K : Nat) : Int) < ((a * 2 ^ K : Nat) : Int) ↔ (b : Int) < (a : Int) := by
    rw [Int.ofNat_lt, Int.ofNat_lt]
    exact Nat.mul_lt_mul_right hp
  simp only [h1, h2]
/-- A weight: from 2^-20 to 1. -/
theorem weight_mid {x : Nat} (h1 : D.order x 4517110426252607488 = some .gt ∨ D.order x 4517110426252607488 = some .eq) (h2 : D.order x 4607182418800017408 = some .lt ∨ D.order x 4607182418800017408 = some .eq) :
    ∃ m i, D.read x = .number false m i ∧ m ≠ 0 ∧ -20 ≤ i + m.log2 ∧ i + m.log2 ≤ 0 := by
  unfold Format.order at h1 h2
  rw [show D.read 4517110426252607488 = .number false 4503599627370496 (-72) by decide] at h1
  rw [show D.read 4607182418800017408 = .number false 4503599627370496 (-52) by decide] at h2
  cases hr : D.read x with
  | nan s f => rw [hr] at h1; simp [Datum.order] at h1
  | infinity s =>
    rw [hr] at h1 h2
    cases s
    · simp [Datum.order] at h2
    · simp [Datum.order] at h1
  | number s m i =>
    rw [hr] at h1 h2
    cases s
    · refine ⟨m, i, rfl, ?_⟩
      obtain ⟨B, hB⟩ : ∃ B, B = min i (-72) := ⟨_, rfl⟩
      rw [order_num B (by omega) (by omega)] at h1 h2
      have g1 : 4503599627370496 * 2 ^ (-72 - B).toNat ≤ m * 2 ^ (i - B).toNat := by
        rcases h1 with h | h
        · have := Int.compare_eq_gt.1 (Option.some.inj h); omega
        · have := Int.compare_eq_eq.1 (Option.some.inj h); omega
      have g2 : m * 2 ^ (i - B).toNat ≤ 4503599627370496 * 2 ^ (-52 - B).toNat := by
        rcases h2 with h | h
        · have := Int.compare_eq_lt.1 (Option.some.inj h); omega
        · have := Int.compare_eq_eq.1 (Option.some.inj h); omega
      have hm : m ≠ 0 := fun e => by
        have := Nat.two_pow_pos (-72 - B).toNat
        rw [e, Nat.zero_mul] at g1
        omega
      have hlog := log2_shl hm (i - B).toNat
      rw [shl] at hlog
      have hp52 : (4503599627370496 : Nat) = 2 ^ 52 := by decide
      rw [hp52, ← Nat.pow_add] at g1 g2
      have hne : m * 2 ^ (i - B).toNat ≠ 0 := Nat.mul_ne_zero hm (Nat.pos_iff_ne_zero.1 (Nat.two_pow_pos _))
      have k1 : 52 + (-72 - B).toNat ≤ (m * 2 ^ (i - B).toNat).log2 := (Nat.le_log2 hne).2 g1
      have k2 : (m * 2 ^ (i - B).toNat).log2 < 52 + (-52 - B).toNat + 1 := (Nat.log2_lt hne).2 (Nat.lt_of_le_of_lt g2 (Nat.pow_lt_pow_right (by decide) (by omega)))
      rw [hlog] at k1 k2
      exact ⟨hm, by omega, by omega⟩
    · exfalso
      have : ∀ k, signed true m k ≤ 0 := fun k => by unfold signed; rw [if_pos rfl]; exact Int.neg_nonpos_of_nonneg (Int.natCast_nonneg _)
      have hb := Nat.two_pow_pos (-72 - min i (-72)).toNat
      simp only [Datum.order, signed_pos] at h1
      have := this (i - min i (-72)).toNat
      rcases h1 with h | h
      · have := Int.compare_eq_gt.1 (Option.some.inj h); omega
      · have := Int.compare_eq_eq.1 (Option.some.inj h); omega
theorem log2_mul {a b : Nat} (ha : a ≠ 0) (hb : b ≠ 0) : a.log2 + b.log2 ≤ (a * b).log2 ∧ (a * b).log2 ≤ a.log2 + b.log2 + 1 := by
  obtain ⟨a1, a2⟩ := log2_lt a ha
  obtain ⟨b1, b2⟩ := log2_lt b hb
  have hne := Nat.mul_ne_zero ha hb
  constructor
  · rw [Nat.le_log2 hne, Nat.pow_add]; exact Nat.mul_le_mul a1 b1
  · have : (a * b).log2 < a.log2 + 1 + (b.log2 + 1) := by
      rw [Nat.log2_lt hne, Nat.pow_add]
      exact Nat.mul_lt_mul_of_lt_of_lt a2 b2
    omega
/-- What is to be expected: a text's length times a weight, a number above zero. -/
theorem want_po {n x : Nat} (h1 : n ≠ 0) (h2 : n < 2 ^ 40) (hx : ∃ m i, D.read x = .number false m i ∧ m ≠ 0 ∧ -20 ≤ i + m.log2 ∧ i + m.log2 ≤ 0) : ∃ r, D.mul (floatOfInt .f64 (n : Int)) x = some r ∧ Po r := by
  obtain ⟨a, i, e, ha, h3, h4⟩ := ofInt_mid h1 h2
  obtain ⟨b, j, f, hb, h5, h6⟩ := hx
  obtain ⟨l1, l2⟩ := log2_mul ha hb
  unfold Format.mul
  rw [e, f]
  refine ⟨_, rfl, ?_⟩
  show Po (D.nearest false (a * b) (i + j))
  obtain ⟨m, k, g, hm, _⟩ := nearest_mid false (Nat.mul_ne_zero ha hb) (place := i + j) (by omega) (by omega)
  exact ⟨m, k, g, hm⟩
theorem mul_comm (x y : Nat) : D.mul x y = D.mul y x := by
  unfold Format.mul
  congr 1
  cases D.read x <;> cases D.read y <;> simp [Datum.product, Nat.mul_comm, Int.add_comm, Bool.xor_comm]
/-- At most as great. -/
def Le (x y : Nat) : Prop := D.order x y = some .lt ∨ D.order x y = some .eq
instance (x y : Nat) : Decidable (Le x y) := by unfold Le; infer_instance
theorem le_num {x y m n : Nat} {i j : Int} (hx : D.read x = .number false m i) (hy : D.read y = .number false n j) (B : Int) (hi : B ≤ i) (hj : B ≤ j) : Le x y ↔ m * 2 ^ (i - B).toNat ≤ n * 2 ^ (j - B).toNat := by
  unfold Le Format.order
  rw [hx, hy, order_num B hi hj]
  constructor
  · rintro (h | h)
    · have := Int.compare_eq_lt.1 (Option.some.inj h); omega
    · have := Int.compare_eq_eq.1 (Option.some.inj h); omega
  · intro h
    rcases Nat.lt_or_ge (m * 2 ^ (i - B).toNat) (n * 2 ^ (j - B).toNat) with h1 | h1
    · exact .inl (congrArg some (Int.compare_eq_lt.2 (by omega)))
    · exact .inr (congrArg some (Int.compare_eq_eq.2 (by omega)))
theorem le_top {x y : Nat} (hx : NN x) (hy : D.read y = .infinity false) : Le x y := by
  unfold Le Format.order
  rw [hy]
  rcases hx with ⟨m, i, e⟩ | e
  · rw [e]; exact .inl rfl
  · rw [e]; exact .inr rfl
theorem top_le {x y m : Nat} {i : Int} (hx : D.read x = .infinity false) (hy : D.read y = .number false m i) : ¬ Le x y := by
  unfold Le Format.order
  rw [hx, hy]
  simp [Datum.order]
theorem le_total {x y : Nat} (hx : NN x) (hy : NN y) : Le x y ∨ Le y x := by
  rcases hx with ⟨m, i, e⟩ | e
  · rcases hy with ⟨n, j, f⟩ | f
    · rw [le_num e f (min i j) (by omega) (by omega), le_num f e (min i j) (by omega) (by omega)]
      omega
    · exact .inl (le_top (.inl ⟨_, _, e⟩) f)
  · exact .inr (le_top hy e)
theorem le_refl {x : Nat} (hx : NN x) : Le x x := (le_total hx hx).elim id id
theorem le_trans {x y z : Nat} (hx : NN x) (hy : NN y) (hz : NN z) (h1 : Le x y) (h2 : Le y z) : Le x z := by
  rcases hz with ⟨p, k, g⟩ | g
  · rcases hy with ⟨n, j, f⟩ | f
    · rcases hx with ⟨m, i, e⟩ | e
      · obtain ⟨B, hB⟩ : ∃ B, B = min i (min j k) := ⟨_, rfl⟩
        rw [le_num e f B (by omega) (by omega)] at h1
        rw [le_num f g B (by omega) (by omega)] at h2
        rw [le_num e g B (by omega) (by omega)]
        omega
      · exact absurd h1 (top_le e f)
    · exact absurd h2 (top_le f g)
  · exact le_top hx g
theorem le_antisymm {x y : Nat} (hx : NN x) (hy : NN y) (h1 : Le x y) (h2 : Le y x) : D.order x y = some .eq := by
  rcases hx with ⟨m, i, e⟩ | e
  · rcases hy with ⟨n, j, f⟩ | f
    · rw [le_num e f (min i j) (by omega) (by omega)] at h1
      rw [le_num f e (min i j) (by omega) (by omega)] at h2
      unfold Format.order
      rw [e, f, order_num (min i j) (by omega) (by omega)]
      exact congrArg some (Int.compare_eq_eq.2 (by omega))
    · exact absurd h2 (top_le f e)
  · rcases hy with ⟨n, j, f⟩ | f
    · exact absurd h1 (top_le e f)
    · unfold Format.order; rw [e, f]; rfl
theorem order_swap {x y : Nat} (hx : NN x) (hy : NN y) : (D.order x y = some .gt ↔ ¬ Le x y) ∧ (D.order x y = some .lt ↔ ¬ Le y x) := by
  rcases hx with ⟨m, i, e⟩ | e
  · rcases hy with ⟨n, j, f⟩ | f
    · rw [le_num e f (min i j) (by omega) (by omega), le_num f e (min i j) (by omega) (by omega)]
      unfold Format.order
      rw [e, f, order_num (min i j) (by omega) (by omega)]
      constructor
      · constructor
        · intro h; have := Int.compare_eq_gt.1 (Option.some.inj h); omega
        · intro h; exact congrArg some (Int.compare_eq_gt.2 (by omega))
      · constructor
        · intro h; have := Int.compare_eq_lt.1 (Option.some.inj h); omega
        · intro h; exact congrArg some (Int.compare_eq_lt.2 (by omega))
    · have h1 := le_top (x := x) (.inl ⟨_, _, e⟩) f
      have h2 := top_le f e
      have h3 : D.order x y = some .lt := by unfold Format.order; rw [e, f]; rfl
      rw [h3]
      simp [h1, h2]
  · rcases hy with ⟨n, j, f⟩ | f
    · have h1 := le_top (x := y) (.inl ⟨_, _, f⟩) e
      have h2 := top_le e f
      have h3 : D.order x y = some .gt := by unfold Format.order; rw [e, f]; rfl
      rw [h3]
      simp [h1, h2]
    · have h1 := le_top (x := x) (.inr e) f
      have h2 := le_top (x := y) (.inr f) e
      have h3 : D.order x y = some .eq := by unfold Format.order; rw [e, f]; rfl
      rw [h3]
      simp [h1, h2]
/-- The least place among n at which a function is least. -/
def Least (F : Nat → Nat) (n s : Nat) : Prop := s < n ∧ (∀ t, t < n → Le (F s) (F t)) ∧ ∀ t, t < s → ¬ Le (F t) (F s)
theorem least_unique {F : Nat → Nat} {n s t : Nat} (hs : Least F n s) (ht : Least F n t) : s = t := by
  rcases Nat.lt_trichotomy s t with h | h | h
  · exact absurd (hs.2.1 t ht.1) (ht.2.2 s h)
  · exact h
  · exact absurd (ht.2.1 s hs.1) (hs.2.2 t h)
/-- From the last one down: a place that is at most as great as the best one so far is the best one. -/
theorem least_down {F : Nat → Nat} {n : Nat} (hF : ∀ s, s < n → NN (F s)) {k b : Nat} (hk : k + 1 ≤ b + 1) (hb : b < n) (h : (∀ t, k < t → t < n → Le (F b) (F t)) ∧ ∀ t, k < t → t < b → ¬ Le (F t) (F b)) (hkn : k < n) (hkb : k < b) :
    (∀ t, k ≤ t → t < n → Le (F (if Le (F k) (F b) then k else b)) (F t)) ∧ ∀ t, k ≤ t → t < (if Le (F k) (F b) then k else b) → ¬ Le (F t) (F (if Le (F k) (F b) then k else b)) := by
  by_cases hc : Le (F k) (F b)
  · rw [if_pos hc]
    refine ⟨fun t h1 h2 => ?_, fun t h1 h2 => by omega⟩
    rcases Nat.lt_or_ge k t with h3 | h3
    · exact le_trans (hF k hkn) (hF b hb) (hF t h2) hc (h.1 t h3 h2)
    · have : t = k := by omega
      subst this
      exact le_refl (hF t hkn)
  · rw [if_neg hc]
    refine ⟨fun t h1 h2 => ?_, fun t h1 h2 => ?_⟩
    · rcases Nat.lt_or_ge k t with h3 | h3
      · exact h.1 t h3 h2
      · have : t = k := by omega
        subst this
        exact (le_total (hF t hkn) (hF b hb)).elim (fun h4 => absurd h4 hc) id
    · rcases Nat.lt_or_ge k t with h3 | h3
      · exact h.2 t h3 h2
      · have : t = k := by omega
        subst this
        exact hc
/-- From the first one up: a place that is less than the best one so far is the best one. -/
theorem least_first {F : Nat → Nat} (h : NN (F 0)) : Least F 1 0 := ⟨by omega, fun t ht => by rw [show t = 0 by omega]; exact le_refl h, fun t ht => by omega⟩
theorem least_keep {F : Nat → Nat} {m b : Nat} (h : Least F m b) (hc : Le (F b) (F m)) : Least F (m + 1) b := by
  refine ⟨by have := h.1; omega, fun t ht => ?_, h.2.2⟩
  by_cases e : t = m
  · rw [e]; exact hc
  · exact h.2.1 t (by omega)
theorem least_take {F : Nat → Nat} {m b : Nat} (hF : ∀ s, s ≤ m → NN (F s)) (h : Least F m b) (hc : ¬ Le (F b) (F m)) : Least F (m + 1) m := by
  have hb := h.1
  have hmb : Le (F m) (F b) := (le_total (hF b (by omega)) (hF m (Nat.le_refl _))).elim (fun h1 => absurd h1 hc) id
  refine ⟨by omega, fun t ht => ?_, fun t ht h1 => ?_⟩
  · by_cases e : t = m
    · rw [e]; exact le_refl (hF m (Nat.le_refl _))
    · exact le_trans (hF m (Nat.le_refl _)) (hF b (by omega)) (hF t (by omega)) hmb (h.2.1 t (by omega))
  · exact hc (le_trans (hF b (by omega)) (hF t (by omega)) (hF m (Nat.le_refl _)) (h.2.1 t ht) h1)
theorem least_exists {F : Nat → Nat} : ∀ {n : Nat}, 0 < n → (∀ s, s < n → NN (F s)) → ∃ b, Least F n b
  | 1, _, h => ⟨0, least_first (h 0 (by omega))⟩
  | n + 2, _, h => by
    obtain ⟨b, hb⟩ := least_exists (n := n + 1) (by omega) (fun s hs => h s (by omega))
    by_cases hc : Le (F b) (F (n + 1))
    · exact ⟨b, least_keep hb hc⟩
    · exact ⟨n + 1, least_take (fun s hs => h s (by omega)) hb hc⟩
end Go.Proofs.Yteomoeaoboaclae.Fl
