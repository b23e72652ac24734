/-
  Plain mathematics of drums: which bars are pushed; what is wrong; when all comes round; what letters become.
-/
import Derived.Test.YtkangeheamknoaaVMath
namespace Go.Proofs.Ytkangeheamknoaa.Dm

/-- A drum as it is given: anything. -/
structure Dr where
  nw : Nat
  ln : Nat → Nat
  pin : Nat → Nat → Bool
  nb : Nat
  bar : Nat → Nat → Int
def anyTo (f : Nat → Bool) : Nat → Bool
  | 0 => false
  | k + 1 => anyTo f k || f k
theorem anyTo_false {f : Nat → Bool} : ∀ {n}, anyTo f n = false ↔ ∀ k, k < n → f k = false
  | 0 => ⟨fun _ k hk => by omega, fun _ => rfl⟩
  | n + 1 => by
    show (anyTo f n || f n) = false ↔ _
    rw [Bool.or_eq_false_iff, anyTo_false (n := n)]
    constructor
    · rintro ⟨h1, h2⟩ k hk
      by_cases e : k = n
      · rw [e]; exact h2
      · exact h1 k (by omega)
    · intro h
      exact ⟨fun k hk => h k (by omega), h n (by omega)⟩
theorem anyTo_true {f : Nat → Bool} {n k : Nat} (hk : k < n) (h : f k = true) : anyTo f n = true := by
  cases hq : anyTo f n
  · rw [anyTo_false.1 hq k hk] at h; cases h
  · rfl
theorem anyTo_congr {f g : Nat → Bool} {n : Nat} (h : ∀ k, k < n → f k = g k) : anyTo f n = anyTo g n := by
  induction n with
  | zero => rfl
  | succ n ih =>
    show (anyTo f n || f n) = (anyTo g n || g n)
    rw [ih fun k hk => h k (by omega), h n (by omega)]
def cntTo (f : Nat → Bool) : Nat → Nat
  | 0 => 0
  | k + 1 => cntTo f k + if f k = true then 1 else 0
theorem cntTo_le (f : Nat → Bool) : ∀ n, cntTo f n ≤ n
  | 0 => Nat.le_refl _
  | n + 1 => by
    show cntTo f n + (if f n = true then 1 else 0) ≤ n + 1
    have := cntTo_le f n
    split <;> omega
theorem cntTo_congr {f g : Nat → Bool} {n : Nat} (h : ∀ k, k < n → f k = g k) : cntTo f n = cntTo g n := by
  induction n with
  | zero => rfl
  | succ n ih =>
    show cntTo f n + (if f n = true then 1 else 0) = cntTo g n + (if g n = true then 1 else 0)
    rw [ih fun k hk => h k (by omega), h n (by omega)]
/-- At letter i wheel k pushes bar r. -/
def hit (D : Dr) (i r k : Nat) : Bool := D.pin k (i % D.ln k) && (decide (D.bar r 0 = (k : Int) + 1) || decide (D.bar r 1 = (k : Int) + 1))
def push (D : Dr) (i r : Nat) : Bool := anyTo (hit D i r) D.nw
/-- How many bars are pushed. -/
def pushed (D : Dr) (i : Nat) : Nat := cntTo (push D i) D.nb
theorem pushed_le (D : Dr) (i : Nat) : pushed D i ≤ D.nb := cntTo_le _ _
/-- A wheel without pins, or with too many. -/
def wlE (D : Dr) (k : Nat) : Bool := decide (D.ln k = 0 ∨ 47 < D.ln k)
/-- A lug that stands at no wheel. -/
def lgE (D : Dr) (r : Nat) : Bool := decide (D.bar r 0 < 0 ∨ D.bar r 1 < 0 ∨ (D.nw : Int) < D.bar r 0 ∨ (D.nw : Int) < D.bar r 1)
/-- What is wrong with a drum. -/
def dE (D : Dr) : Int := if D.nw < 1 ∨ 12 < D.nw ∨ 27 < D.nb then 5 else if anyTo (wlE D) D.nw = true then 3 else if anyTo (lgE D) D.nb = true then 8 else 0
theorem dE_zero {D : Dr} (h : dE D = 0) : 1 ≤ D.nw ∧ D.nw ≤ 12 ∧ D.nb ≤ 27 ∧ (∀ k, k < D.nw → 1 ≤ D.ln k ∧ D.ln k ≤ 47) := by
  unfold dE at h
  by_cases h1 : D.nw < 1 ∨ 12 < D.nw ∨ 27 < D.nb
  · rw [if_pos h1] at h; cases h
  · rw [if_neg h1] at h
    cases h2 : anyTo (wlE D) D.nw
    · refine ⟨by omega, by omega, by omega, fun k hk => ?_⟩
      have := anyTo_false.1 h2 k hk
      unfold wlE at this
      simp at this
      omega
    · rw [h2, if_pos rfl] at h; cases h
/-- The least common multiple of the first. -/
def lc (ln : Nat → Nat) : Nat → Nat
  | 0 => 1
  | k + 1 => Nat.lcm (lc ln k) (ln k)
theorem lc_pos {ln : Nat → Nat} : ∀ {n}, (∀ k, k < n → 1 ≤ ln k) → 1 ≤ lc ln n
  | 0, _ => Nat.le_refl _
  | n + 1, h => Nat.lcm_pos (lc_pos fun k hk => h k (by omega)) (h n (by omega))
theorem lc_step (ln : Nat → Nat) (n : Nat) : lc ln n ∣ lc ln (n + 1) := Nat.dvd_lcm_left _ _
theorem lc_le {ln : Nat → Nat} {n m : Nat} (h : ∀ k, k < m → 1 ≤ ln k) (hm : n ≤ m) : lc ln n ≤ lc ln m := by
  induction m with
  | zero => rw [show n = 0 by omega]; exact Nat.le_refl _
  | succ m ih =>
    by_cases e : n = m + 1
    · rw [e]; exact Nat.le_refl _
    · exact Nat.le_trans (ih (fun k hk => h k (by omega)) (by omega)) (Nat.le_of_dvd (lc_pos h) (lc_step ln m))
theorem lc_dvd {ln : Nat → Nat} {n k : Nat} (hk : k < n) : ln k ∣ lc ln n := by
  induction n with
  | zero => omega
  | succ n ih =>
    by_cases e : k = n
    · rw [e]; exact Nat.dvd_lcm_right _ _
    · exact Nat.dvd_trans (ih (by omega)) (lc_step ln n)
/-- The first multiple of s that l divides. -/
theorem least_lcm {s l j : Nat} (hs : 1 ≤ s) (hl : 1 ≤ l) (hd : l ∣ s * j) (hj : 1 ≤ j) (hmin : ∀ i, 1 ≤ i → i < j → ¬ l ∣ s * i) : s * j = Nat.lcm s l := by
  have h1 : Nat.lcm s l ∣ s * j := Nat.lcm_dvd ⟨j, rfl⟩ hd
  obtain ⟨t, ht⟩ := Nat.dvd_lcm_left s l
  have hp : 0 < Nat.lcm s l := Nat.lcm_pos hs hl
  have ht1 : 1 ≤ t := by
    rcases Nat.eq_zero_or_pos t with e | e
    · rw [e, Nat.mul_zero] at ht; omega
    · exact e
  have htl : l ∣ s * t := by rw [← ht]; exact Nat.dvd_lcm_right s l
  have htj : j ≤ t := by
    by_cases e : j ≤ t
    · exact e
    · exact absurd htl (hmin t ht1 (by omega))
  have h2 : s * j ≤ Nat.lcm s l := by rw [ht]; exact Nat.mul_le_mul_left s htj
  have h3 : Nat.lcm s l ≤ s * j := Nat.le_of_dvd (Nat.mul_pos hs hj) h1
  omega
theorem mod_round {l c i : Nat} (h : l ∣ c) : (i + c) % l = i % l := by
  obtain ⟨t, rfl⟩ := h
  exact Nat.add_mul_mod_self_left i l t
/-- THE DRUM COMES ROUND. -/
theorem pushed_round {D : Dr} {c : Nat} (h : ∀ k, k < D.nw → D.ln k ∣ c) (i : Nat) : pushed D (i + c) = pushed D i := cntTo_congr fun r _ => anyTo_congr fun k hk => by
  unfold hit
  rw [mod_round (h k hk)]
/-- What a letter becomes. -/
def enc (p : Nat) (c : UInt8) : UInt8 := UInt8.ofNat (65 + (90 - c.toNat + p) % 26)
theorem enc_toNat (p : Nat) (c : UInt8) : (enc p c).toNat = 65 + (90 - c.toNat + p) % 26 := by
  unfold enc
  rw [UInt8.toNat_ofNat']
  omega
theorem enc_enc {p : Nat} {c : UInt8} (h : 65 ≤ c.toNat ∧ c.toNat ≤ 90) : enc p (enc p c) = c := by
  apply UInt8.toNat_inj.1
  rw [enc_toNat, enc_toNat]
  omega
/-- The first k of what a text becomes. -/
def wrN (D : Dr) (t : List UInt8) (k : Nat) : List UInt8 := (List.range k).map fun i => enc (pushed D i) (t.getD i 0)
theorem wrN_len (D : Dr) (t : List UInt8) (k : Nat) : (wrN D t k).length = k := by simp [wrN]
theorem wrN_succ (D : Dr) (t : List UInt8) (k : Nat) : wrN D t (k + 1) = wrN D t k ++ [enc (pushed D k) (t.getD k 0)] := by
  unfold wrN
  rw [List.range_succ, List.map_append]
  rfl
def wr (D : Dr) (t : List UInt8) : List UInt8 := wrN D t t.length
theorem wr_len (D : Dr) (t : List UInt8) : (wr D t).length = t.length := wrN_len _ _ _
theorem wr_get (D : Dr) (t : List UInt8) {i : Nat} (hi : i < t.length) : (wr D t).getD i 0 = enc (pushed D i) (t.getD i 0) := by
  unfold wr wrN
  simp only [List.getD_eq_getElem?_getD, List.getElem?_map, List.getElem?_range hi, Option.map_some, Option.getD_some]
theorem wr_ls (D : Dr) (t : List UInt8) : Vg.Ls (wr D t) := fun c hc => by
  unfold wr wrN at hc
  simp only [List.mem_map] at hc
  obtain ⟨i, _, rfl⟩ := hc
  rw [enc_toNat]
  omega
theorem ls_get {t : List UInt8} (h : Vg.Ls t) {i : Nat} (hi : i < t.length) : 65 ≤ (t.getD i 0).toNat ∧ (t.getD i 0).toNat ≤ 90 := by
  rw [List.getD_eq_getElem?_getD, List.getElem?_eq_getElem hi]
  exact h _ (List.getElem_mem hi)
theorem ext_getD {a b : List UInt8} (hl : a.length = b.length) (h : ∀ i, i < a.length → a.getD i 0 = b.getD i 0) : a = b := by
  apply List.ext_getElem hl
  intro i h1 h2
  have := h i h1
  simp only [List.getD_eq_getElem?_getD, List.getElem?_eq_getElem h1, List.getElem?_eq_getElem h2, Option.getD_some] at this
  exact this
/-- WHAT THE DRUM DOES IT UNDOES. -/
theorem wr_wr {D : Dr} {t : List UInt8} (h : Vg.Ls t) : wr D (wr D t) = t := ext_getD (by rw [wr_len, wr_len]) fun i hi => by
  rw [wr_len, wr_len] at hi
  rw [wr_get D (wr D t) (by rw [wr_len]; exact hi), wr_get D t hi, enc_enc (ls_get h hi)]
/-- As far apart, the other way. -/
theorem apart {p : Nat} {c e : UInt8} (h1 : 65 ≤ c.toNat ∧ c.toNat ≤ 90) (h2 : 65 ≤ e.toNat ∧ e.toNat ≤ 90) : ((c.toNat : Int) - (e.toNat : Int) + ((enc p c).toNat : Int) - ((enc p e).toNat : Int) + 52) % 26 = 0 := by
  rw [enc_toNat, enc_toNat]
  omega
end Go.Proofs.Ytkangeheamknoaa.Dm
