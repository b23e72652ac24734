/-
  Letters counted: the mathematics.
-/
import Derived.Test.YteomoeaoboaclaeVMath
import Derived.Test.YteomoeaoboaclaeFMath
namespace Go.Proofs.Yteomoeaoboaclae.Tl
open Vg Fl

/-- How often the letter c stands in a text. -/
def cnt (l : List UInt8) (c : Nat) : Nat := l.countP fun b => num b == c
theorem cnt_le (l : List UInt8) (c : Nat) : cnt l c ≤ l.length := List.countP_le_length
theorem cnt_append (a b : List UInt8) (c : Nat) : cnt (a ++ b) c = cnt a c + cnt b c := List.countP_append
theorem cnt_one (x : UInt8) (c : Nat) : cnt [x] c = if num x = c then 1 else 0 := by
  unfold cnt
  by_cases h : num x = c <;> simp [h]
theorem cnt_take_succ (l : List UInt8) {k : Nat} (hk : k < l.length) (c : Nat) : cnt (l.take (k + 1)) c = cnt (l.take k) c + if num (l.getD k 0) = c then 1 else 0 := by
  rw [List.take_succ_eq_append_getElem hk, cnt_append, cnt_one, getD_some hk]
/-- The letters of one column. -/
def col (l : List UInt8) (n c : Nat) : List UInt8 := ((List.range l.length).filter fun i => i % n == c).map fun i => l.getD i 0
/-- .. among the first m. -/
def colTo (l : List UInt8) (n c m : Nat) : List UInt8 := ((List.range m).filter fun i => i % n == c).map fun i => l.getD i 0
theorem colTo_succ (l : List UInt8) (n c m : Nat) : colTo l n c (m + 1) = if m % n = c then colTo l n c m ++ [l.getD m 0] else colTo l n c m := by
  unfold colTo
  rw [List.range_succ, List.filter_append]
  by_cases h : m % n = c
  · rw [if_pos h]; simp [h]
  · rw [if_neg h]; simp [h]
theorem colTo_le (l : List UInt8) (n c m : Nat) : (colTo l n c m).length ≤ m := by
  unfold colTo
  rw [List.length_map]
  exact Nat.le_trans (List.length_filter_le _ _) (by simp)
theorem col_ls {l : List UInt8} (h : Ls l) (n c : Nat) : Ls (col l n c) := by
  intro x hx
  obtain ⟨i, hi, rfl⟩ := List.mem_map.1 hx
  have := (List.mem_filter.1 hi).1
  exact h.at (by simpa using this)
def sumTo (f : Nat → Nat) : Nat → Nat
  | 0 => 0
  | k + 1 => sumTo f k + f k
theorem sumTo_congr {f g : Nat → Nat} : ∀ {n : Nat}, (∀ k, k < n → f k = g k) → sumTo f n = sumTo g n
  | 0, _ => rfl
  | n + 1, h => by
    show sumTo f n + f n = sumTo g n + g n
    rw [sumTo_congr fun k hk => h k (by omega), h n (by omega)]
theorem sumTo_list (f : Nat → Nat) : ∀ n, sumTo f n = ((List.range n).map f).sum
  | 0 => rfl
  | n + 1 => by
    rw [List.range_succ, List.map_append, List.sum_append]
    show sumTo f n + f n = _
    rw [sumTo_list f n]
    simp
theorem sumTo_perm (f σ : Nat → Nat) {n : Nat} (h : ((List.range n).map σ).Perm (List.range n)) : sumTo (fun k => f (σ k)) n = sumTo f n := by
  rw [sumTo_list, sumTo_list]
  have := (h.map f).sum_nat
  rw [List.map_map] at this
  exact this
/-- Pairs of unlike places with the same letter, and all such pairs, of all columns. -/
def alikeC (l : List UInt8) (n c : Nat) : Nat := sumTo (fun k => cnt (col l n c) k * (cnt (col l n c) k - 1)) 26
def alike (l : List UInt8) (n : Nat) : Nat := sumTo (alikeC l n) n
def allP (l : List UInt8) (n : Nat) : Nat := sumTo (fun c => (col l n c).length * ((col l n c).length - 1)) n
theorem back_perm : ∀ b : Fin 26, ((List.range 26).map fun k => back 1 k b).Perm (List.range 26) ∧ ((List.range 26).map fun k => back 2 k b).Perm (List.range 26) ∧ ((List.range 26).map fun k => back 3 k b).Perm (List.range 26) := by decide +kernel
theorem perm_back {kind b : Nat} (h : 1 ≤ kind ∧ kind ≤ 3) (hb : b < 26) : ((List.range 26).map fun k => back kind k b).Perm (List.range 26) := by
  have := back_perm ⟨b, hb⟩
  rcases (by omega : kind = 1 ∨ kind = 2 ∨ kind = 3) with rfl | rfl | rfl
  · exact this.1
  · exact this.2.1
  · exact this.2.2
/-- Letters moved by one key letter: counts change their places alone. -/
theorem cnt_there {kind b k : Nat} (hb : b < 26) (hk : k < 26) : ∀ {l : List UInt8}, Ls l → cnt (l.map fun a => ltr (there kind (num a) b)) k = cnt l (back kind k b)
  | [], _ => rfl
  | a :: l, h => by
    have ih := cnt_there (kind := kind) hb hk (fun c hc => h c (List.mem_cons_of_mem _ hc) : Ls l)
    have ha := num_lt (h a (by simp))
    have e : num (ltr (there kind (num a) b)) = k ↔ num a = back kind k b := by
      rw [num_ltr (there_lt _ _ _)]
      constructor
      · intro e; rw [← e, back_there kind ha hb]
      · intro e; rw [e, there_back kind hk hb]
    have h1 := cnt_append [ltr (there kind (num a) b)] (l.map fun a => ltr (there kind (num a) b)) k
    have h2 := cnt_append [a] l (back kind k b)
    rw [cnt_one] at h1 h2
    show cnt ([ltr (there kind (num a) b)] ++ l.map fun a => ltr (there kind (num a) b)) k = cnt ([a] ++ l) (back kind k b)
    rw [h1, h2, ih]
    by_cases hc : num a = back kind k b
    · rw [if_pos hc, if_pos (e.2 hc)]
    · rw [if_neg hc, if_neg (fun h => hc (e.1 h))]
theorem col_write {kind : Nat} (h4 : kind ≠ 4) {k t : List UInt8} {c : Nat} : col (writeL kind k t) k.length c = (col t k.length c).map fun a => ltr (there kind (num a) (num (k.getD c 0))) := by
  unfold col
  rw [writeL_length, List.map_map]
  apply List.map_congr_left
  intro i hi
  obtain ⟨h1, h2⟩ := List.mem_filter.1 hi
  have hi2 : i < t.length := by simpa using h1
  have hm : i % k.length = c := by simpa using h2
  rw [writeL_at kind k t hi2]
  have : kat kind k t i = num (k.getD c 0) := by unfold kat; rw [if_neg (fun e => h4 e.1), hm]
  rw [this]
  rfl
/-- FRIEDMAN: how often two letters are alike is said by no key. -/
theorem alike_write {kind : Nat} (h : 1 ≤ kind ∧ kind ≤ 3) {k t : List UInt8} (hk : Ls k) (ht : Ls t) : alike (writeL kind k t) k.length = alike t k.length := by
  unfold alike
  refine sumTo_congr fun c hc => ?_
  unfold alikeC
  rw [col_write (by omega)]
  have hb := num_lt (hk.at hc)
  rw [sumTo_congr (g := fun q => cnt (col t k.length c) (back kind q (num (k.getD c 0))) * (cnt (col t k.length c) (back kind q (num (k.getD c 0))) - 1)) (fun q hq => by rw [cnt_there hb hq (col_ls ht _ _)])]
  exact sumTo_perm (fun q => cnt (col t k.length c) q * (cnt (col t k.length c) q - 1)) (fun q => back kind q (num (k.getD c 0))) (perm_back h hb)
theorem allP_write {kind : Nat} {k t : List UInt8} (n : Nat) : allP (writeL kind k t) n = allP t n := by
  unfold allP
  refine sumTo_congr fun c _ => ?_
  have : (col (writeL kind k t) n c).length = (col t n c).length := by unfold col; rw [List.length_map, List.length_map, writeL_length]
  rw [this]
/-- What is to be expected, what it is less, its square, over what is to be expected: bit by bit. -/
def wantB (len w : Nat) : Nat := (D.mul (floatOfInt .f64 (len : Int)) w).getD 0
def difB (n len w : Nat) : Nat := (D.sub (floatOfInt .f64 (n : Int)) (wantB len w)).getD 0
def sqB (n len w : Nat) : Nat := (D.mul (difB n len w) (difB n len w)).getD 0
def quoB (n len w : Nat) : Nat := (D.div (sqB n len w) (wantB len w)).getD 0
/-- A weight: what Chi and Shift ask for. -/
def Wt (x : Nat) : Prop := (D.order x 4517110426252607488 = some .gt ∨ D.order x 4517110426252607488 = some .eq) ∧ (D.order x 4607182418800017408 = some .lt ∨ D.order x 4607182418800017408 = some .eq)
theorem want_eq {len w : Nat} (h1 : len ≠ 0) (h2 : len < 2 ^ 40) (hw : Wt w) : D.mul (floatOfInt .f64 (len : Int)) w = some (wantB len w) ∧ Po (wantB len w) := by
  obtain ⟨r, e, hp⟩ := want_po h1 h2 (weight_mid hw.1 hw.2)
  unfold wantB
  rw [e]
  exact ⟨rfl, hp⟩
theorem dif_eq {n len w : Nat} (h1 : len ≠ 0) (h2 : len < 2 ^ 40) (hn : n < 2 ^ 40) (hw : Wt w) : D.sub (floatOfInt .f64 (n : Int)) (wantB len w) = some (difB n len w) ∧ Ok (difB n len w) := by
  obtain ⟨r, e, hp⟩ := sub_ok (ofInt_num hn) (want_eq h1 h2 hw).2.num
  unfold difB
  rw [e]
  exact ⟨rfl, hp⟩
theorem sq_eq {n len w : Nat} (h1 : len ≠ 0) (h2 : len < 2 ^ 40) (hn : n < 2 ^ 40) (hw : Wt w) : D.mul (difB n len w) (difB n len w) = some (sqB n len w) ∧ NN (sqB n len w) := by
  obtain ⟨r, e, hp⟩ := sq_ok (dif_eq h1 h2 hn hw).2
  unfold sqB
  rw [e]
  exact ⟨rfl, hp⟩
theorem quo_eq {n len w : Nat} (h1 : len ≠ 0) (h2 : len < 2 ^ 40) (hn : n < 2 ^ 40) (hw : Wt w) : D.div (sqB n len w) (wantB len w) = some (quoB n len w) ∧ NN (quoB n len w) := by
  obtain ⟨r, e, hp⟩ := div_ok (sq_eq h1 h2 hn hw).2 (want_eq h1 h2 hw).2
  unfold quoB
  rw [e]
  exact ⟨rfl, hp⟩
/-- How far a text is, moved back by s letters: the first m letters' part. C: how often each letter stands in it. -/
def farTo (C : Nat → Nat) (len : Nat) (w : Nat → Nat) (s : Nat) : Nat → Nat
  | 0 => 0
  | m + 1 => (D.add (farTo C len w s m) (quoB (C ((m + s) % 26)) len (w m))).getD 0
def far (C : Nat → Nat) (len : Nat) (w : Nat → Nat) (s : Nat) : Nat := farTo C len w s 26
theorem farTo_ok {C w : Nat → Nat} {len : Nat} (h1 : len ≠ 0) (h2 : len < 2 ^ 40) (hC : ∀ c, c < 26 → C c < 2 ^ 40) (hw : ∀ c, c < 26 → Wt (w c)) (s : Nat) : ∀ m, m ≤ 26 → NN (farTo C len w s m)
  | 0, _ => nn_zero
  | m + 1, hm => by
    obtain ⟨r, e, hp⟩ := add_ok (farTo_ok h1 h2 hC hw s m (by omega)) (quo_eq h1 h2 (hC _ (Nat.mod_lt _ (by decide))) (hw m (by omega)) (n := C ((m + s) % 26))).2
    show NN ((D.add _ _).getD 0)
    rw [e]
    exact hp
theorem farTo_eq {C w : Nat → Nat} {len : Nat} (h1 : len ≠ 0) (h2 : len < 2 ^ 40) (hC : ∀ c, c < 26 → C c < 2 ^ 40) (hw : ∀ c, c < 26 → Wt (w c)) (s : Nat) {m : Nat} (hm : m < 26) : D.add (farTo C len w s m) (quoB (C ((m + s) % 26)) len (w m)) = some (farTo C len w s (m + 1)) := by
  obtain ⟨r, e, _⟩ := add_ok (farTo_ok h1 h2 hC hw s m (by omega)) (quo_eq h1 h2 (hC _ (Nat.mod_lt _ (by decide))) (hw m hm) (n := C ((m + s) % 26))).2
  show _ = some ((D.add _ _).getD 0)
  rw [e]
  rfl
theorem far_nn {C w : Nat → Nat} {len : Nat} (h1 : len ≠ 0) (h2 : len < 2 ^ 40) (hC : ∀ c, c < 26 → C c < 2 ^ 40) (hw : ∀ c, c < 26 → Wt (w c)) (s : Nat) : NN (far C len w s) := farTo_ok h1 h2 hC hw s 26 (Nat.le_refl _)
theorem farTo_congr {C E w : Nat → Nat} {len s r : Nat} (h : ∀ c, C ((c + s) % 26) = E ((c + r) % 26)) : ∀ m, farTo C len w s m = farTo E len w r m
  | 0 => rfl
  | m + 1 => by
    show (D.add _ _).getD 0 = (D.add _ _).getD 0
    rw [farTo_congr h m, h m]
theorem far_congr {C E w : Nat → Nat} {len s r : Nat} (h : ∀ c, C ((c + s) % 26) = E ((c + r) % 26)) : far C len w s = far E len w r := farTo_congr h 26
theorem far_mod (C w : Nat → Nat) (len s : Nat) : far C len w (s % 26) = far C len w s := far_congr fun c => by rw [show (c + s % 26) % 26 = (c + s) % 26 by omega]
/-- A text moved on by one letter: its counts. -/
theorem cnt_moved {b : Nat} (hb : b < 26) {t : List UInt8} (ht : Ls t) (c : Nat) : cnt (writeL 1 [ltr b] t) (c % 26) = cnt t ((c + 26 - b) % 26) := by
  have e : writeL 1 [ltr b] t = t.map fun a => ltr (there 1 (num a) b) := by
    refine ext_getD (by rw [writeL_length, List.length_map]) fun i hi => ?_
    rw [writeL_length] at hi
    rw [writeL_at 1 _ t hi]
    have hk : kat 1 [ltr b] t i = b := by
      unfold kat
      rw [if_neg (by omega)]
      simp [Nat.mod_one, num_ltr hb]
    have hmap : (t.map fun a => ltr (there 1 (num a) b)).getD i 0 = ltr (there 1 (num (t.getD i 0)) b) := by rw [getD_some (by simpa using hi), List.getElem_map, getD_some hi]
    rw [hk, hmap]
  rw [e, cnt_there hb (Nat.mod_lt _ (by decide)) ht]
  congr 1
  unfold back
  simp
  omega
theorem cnt_back {b : Nat} (hb : b < 26) {t : List UInt8} (ht : Ls t) (c : Nat) : cnt (readL 1 [ltr b] t) (c % 26) = cnt t ((c + b) % 26) := by
  have hls := readL_ls 1 [ltr b] t
  have hk : Ls [ltr b] := fun x hx => by simp at hx; rw [hx]; exact ltr_ok hb
  have e := cnt_moved hb hls (c + b)
  have hw : writeL 1 [ltr b] (readL 1 [ltr b] t) = t := by
    refine ext_getD (by rw [writeL_length, readL_length]) fun i hi => ?_
    rw [writeL_length, readL_length] at hi
    rw [writeL_at 1 _ _ (by rw [readL_length]; exact hi)]
    have hkat : ∀ p, kat 1 [ltr b] p i = b := fun p => by
      unfold kat
      rw [if_neg (by omega)]
      simp [Nat.mod_one, num_ltr hb]
    have hr : (readL 1 [ltr b] t).getD i 0 = ltr (back 1 (num (t.getD i 0)) b) := by
      have : ∀ m, m ≤ t.length → ∀ j, j < m → (rdTo 1 [ltr b] t m).getD j 0 = ltr (back 1 (num (t.getD j 0)) b) := by
        intro m
        induction m with
        | zero => intro _ j hj; omega
        | succ m ih =>
          intro hm j hj
          have hl := rdTo_length 1 [ltr b] t m
          show (rdTo 1 [ltr b] t m ++ [_]).getD j 0 = _
          simp only [List.getD_eq_getElem?_getD]
          by_cases hjm : j < m
          · rw [List.getElem?_append_left (by omega)]
            have := ih (by omega) j hjm
            simp only [List.getD_eq_getElem?_getD] at this
            exact this
          · have : j = m := by omega
            subst this
            rw [List.getElem?_append_right (by omega), hl]
            simp [kat, num_ltr hb, Nat.mod_one]
      exact this t.length (Nat.le_refl _) i hi
    rw [hkat, hr, num_ltr (back_lt _ _ _), there_back 1 (num_lt (ht.at hi)) hb, ltr_num (ht.at hi)]
  rw [hw] at e
  rw [e]
  congr 1
  omega
/-- A TEXT MOVED FURTHER is found to be moved further: what is least is as great. -/
theorem moved_least {C E w : Nat → Nat} {len b n m : Nat} (hb : b < 26) (h1 : len ≠ 0) (h2 : len < 2 ^ 40) (hC : ∀ c, c < 26 → C c < 2 ^ 40) (hE : ∀ c, c < 26 → E c < 2 ^ 40) (hw : ∀ c, c < 26 → Wt (w c)) (hCE : ∀ c, E (c % 26) = C ((c + 26 - b) % 26)) (hn : Least (far C len w) 26 n) (hm : Least (far E len w) 26 m) : D.order (far C len w n) (far E len w m) = some .eq := by
  have e1 : far E len w m = far C len w ((m + 26 - b) % 26) := far_congr fun c => by rw [hCE, show ((c + m + 26 - b) % 26) = (c + (m + 26 - b) % 26) % 26 by omega]
  have e2 : far E len w ((n + b) % 26) = far C len w n := far_congr fun c => by rw [show (c + (n + b) % 26) % 26 = (c + n + b) % 26 by omega, hCE, show ((c + n + b + 26 - b) % 26) = (c + n) % 26 by omega]
  refine le_antisymm (far_nn h1 h2 hC hw n) (far_nn h1 h2 hE hw m) ?_ ?_
  · rw [e1]; exact hn.2.1 _ (Nat.mod_lt _ (by decide))
  · rw [← e2]; exact hm.2.1 _ (Nat.mod_lt _ (by decide))
/-- Fractions A over B, by their numbers from 1 on: b is the greatest one up to k, of as great ones the least. -/
structure BestTo (A B : Nat → Nat) (k b : Nat) : Prop where
  pos : 1 ≤ b
  le : b ≤ k
  ok : 0 < B b
  most : ∀ m, 1 ≤ m → m ≤ k → 0 < B m → A m * B b ≤ A b * B m
  first : ∀ m, 1 ≤ m → m < b → 0 < B m → A m * B b < A b * B m
theorem best_unique {A B : Nat → Nat} {k b c : Nat} (hb : BestTo A B k b) (hc : BestTo A B k c) : b = c := by
  rcases Nat.lt_trichotomy b c with h | h | h
  · have h1 := hc.first b hb.pos h hb.ok
    have h2 := hb.most c hc.pos hc.le hc.ok
    omega
  · exact h
  · have h1 := hb.first c hc.pos h hc.ok
    have h2 := hc.most b hb.pos hb.le hb.ok
    omega
theorem frac_trans {a1 b1 a2 b2 a3 b3 : Nat} (h2 : 0 < b2) (h12 : a1 * b2 ≤ a2 * b1) (h23 : a2 * b3 ≤ a3 * b2) : a1 * b3 ≤ a3 * b1 := by
  have e1 : a1 * b2 * b3 ≤ a2 * b1 * b3 := Nat.mul_le_mul_right _ h12
  have e2 : a2 * b3 * b1 ≤ a3 * b2 * b1 := Nat.mul_le_mul_right _ h23
  have : (a1 * b3) * b2 ≤ (a3 * b1) * b2 := by
    calc (a1 * b3) * b2 = a1 * b2 * b3 := by rw [Nat.mul_assoc, Nat.mul_assoc, Nat.mul_comm b3]
      _ ≤ a2 * b1 * b3 := e1
      _ = a2 * b3 * b1 := by rw [Nat.mul_assoc, Nat.mul_assoc, Nat.mul_comm b1]
      _ ≤ a3 * b2 * b1 := e2
      _ = (a3 * b1) * b2 := by rw [Nat.mul_assoc, Nat.mul_assoc, Nat.mul_comm b2]
  exact Nat.le_of_mul_le_mul_right this h2
theorem frac_lt {a1 b1 a2 b2 a3 b3 : Nat} (h1 : 0 < b1) (h12 : a1 * b2 ≤ a2 * b1) (h23 : a2 * b3 < a3 * b2) : a1 * b3 < a3 * b1 := by
  rcases Nat.lt_or_ge (a1 * b3) (a3 * b1) with h | h
  · exact h
  · have h31 : a3 * b1 ≤ a1 * b3 := h
    have := frac_trans h1 h31 h12
    omega
theorem best_first {A B : Nat → Nat} {k : Nat} (h : ∀ m, 1 ≤ m → m ≤ k → B m = 0) (hk : 0 < B (k + 1)) : BestTo A B (k + 1) (k + 1) :=
  ⟨by omega, Nat.le_refl _, hk, fun m h1 h2 h3 => by
    rcases Nat.lt_or_ge m (k + 1) with h4 | h4
    · rw [h m h1 (by omega)] at h3; omega
    · have : m = k + 1 := by omega
      subst this; exact Nat.le_refl _, fun m h1 h2 h3 => by rw [h m h1 (by omega)] at h3; omega⟩
theorem best_keep {A B : Nat → Nat} {k b : Nat} (h : BestTo A B k b) (hk : 0 < B (k + 1) → A (k + 1) * B b ≤ A b * B (k + 1)) : BestTo A B (k + 1) b :=
  ⟨h.pos, by have := h.le; omega, h.ok, fun m h1 h2 h3 => by
    rcases Nat.lt_or_ge m (k + 1) with h4 | h4
    · exact h.most m h1 (by omega) h3
    · have : m = k + 1 := by omega
      subst this; exact hk h3, h.first⟩
theorem best_take {A B : Nat → Nat} {k b : Nat} (h : BestTo A B k b) (h0 : 0 < B (k + 1)) (hk : A b * B (k + 1) < A (k + 1) * B b) : BestTo A B (k + 1) (k + 1) :=
  ⟨by omega, Nat.le_refl _, h0, fun m h1 h2 h3 => by
    rcases Nat.lt_or_ge m (k + 1) with h4 | h4
    · exact Nat.le_of_lt (frac_lt h3 (h.most m h1 (by omega) h3) hk)
    · have : m = k + 1 := by omega
      subst this; exact Nat.le_refl _, fun m h1 h2 h3 => frac_lt h3 (h.most m h1 (by omega) h3) hk⟩
/-- In lowest terms: what the rests leave is the greatest common divisor. -/
theorem gcd_step (a b : Nat) : Nat.gcd (b % a) a = Nat.gcd a b := (Nat.gcd_rec a b).symm
/-- How many there are. -/
theorem sumTo_add (f g : Nat → Nat) : ∀ n, sumTo (fun k => f k + g k) n = sumTo f n + sumTo g n
  | 0 => rfl
  | n + 1 => by
    show sumTo (fun k => f k + g k) n + (f n + g n) = sumTo f n + f n + (sumTo g n + g n)
    rw [sumTo_add f g n]; omega
theorem sumTo_le {f g : Nat → Nat} : ∀ {n : Nat}, (∀ k, k < n → f k ≤ g k) → sumTo f n ≤ sumTo g n
  | 0, _ => Nat.le_refl _
  | n + 1, h => Nat.add_le_add (sumTo_le fun k hk => h k (by omega)) (h n (by omega))
theorem sumTo_mul (f : Nat → Nat) (a : Nat) : ∀ n, sumTo (fun k => f k * a) n = sumTo f n * a
  | 0 => by simp [sumTo]
  | n + 1 => by
    show sumTo (fun k => f k * a) n + f n * a = (sumTo f n + f n) * a
    rw [sumTo_mul f a n, Nat.add_mul]
theorem sumTo_ind (x : Nat) : ∀ n, sumTo (fun k => if x = k then 1 else 0) n = if x < n then 1 else 0
  | 0 => by simp [sumTo]
  | n + 1 => by
    show sumTo (fun k => if x = k then 1 else 0) n + (if x = n then 1 else 0) = _
    rw [sumTo_ind x n]
    by_cases h1 : x < n
    · rw [if_pos h1, if_neg (by omega), if_pos (by omega)]
    · by_cases h2 : x = n
      · rw [if_neg h1, if_pos h2, if_pos (by omega)]
      · rw [if_neg h1, if_neg h2, if_neg (by omega)]
theorem sumTo_zero : ∀ n, sumTo (fun _ => 0) n = 0
  | 0 => rfl
  | n + 1 => by show sumTo (fun _ => 0) n + 0 = 0; rw [sumTo_zero n]
theorem cnt_sum : ∀ {l : List UInt8}, Ls l → sumTo (cnt l) 26 = l.length
  | [], _ => sumTo_zero 26
  | a :: l, h => by
    have ih := cnt_sum (fun c hc => h c (List.mem_cons_of_mem _ hc) : Ls l)
    have ha := num_lt (h a (by simp))
    have e : ∀ c, cnt (a :: l) c = (if num a = c then 1 else 0) + cnt l c := fun c => by
      rw [← cnt_one a c]; exact cnt_append [a] l c
    rw [sumTo_congr fun c _ => e c, sumTo_add, sumTo_ind, if_pos ha, ih, List.length_cons]
    omega
theorem col_sum {n : Nat} (hn : 0 < n) (l : List UInt8) : ∀ m, sumTo (fun c => (colTo l n c m).length) n = m
  | 0 => by
    rw [sumTo_congr (g := fun _ => 0) fun c _ => by simp [colTo]]
    exact sumTo_zero n
  | m + 1 => by
    have e : ∀ c, (colTo l n c (m + 1)).length = (colTo l n c m).length + if m % n = c then 1 else 0 := fun c => by
      rw [colTo_succ]
      by_cases h : m % n = c
      · rw [if_pos h, if_pos h, List.length_append]; rfl
      · rw [if_neg h, if_neg h]; rfl
    rw [sumTo_congr fun c _ => e c, sumTo_add, sumTo_ind, if_pos (Nat.mod_lt _ hn), col_sum hn l m]
theorem col_length {n : Nat} (hn : 0 < n) (l : List UInt8) {c : Nat} (hc : c < n) : ∀ m, (colTo l n c m).length = (m + (n - 1 - c)) / n
  | 0 => by
    rw [show (colTo l n c 0).length = 0 by simp [colTo], Nat.zero_add, Nat.div_eq_of_lt (by omega)]
  | m + 1 => by
    rw [colTo_succ, show m + 1 + (n - 1 - c) = (m + (n - 1 - c)) + 1 by omega, Nat.succ_div]
    have h : n ∣ (m + (n - 1 - c)) + 1 ↔ m % n = c := by
      have e : (m + (n - 1 - c)) + 1 = m + (n - c) := by omega
      rw [e]
      constructor
      · intro hd
        obtain ⟨q, hq⟩ := hd
        have : m = n * q - (n - c) := by omega
        have hq0 : 0 < q := by
          rcases Nat.eq_zero_or_pos q with h0 | h0
          · rw [h0, Nat.mul_zero] at hq; omega
          · exact h0
        obtain ⟨p, rfl⟩ : ∃ p, q = p + 1 := ⟨q - 1, by omega⟩
        rw [Nat.mul_add, Nat.mul_one] at this
        rw [show m = c + n * p by omega, Nat.add_mul_mod_self_left, Nat.mod_eq_of_lt hc]
      · intro hm
        have := Nat.div_add_mod m n
        rw [hm] at this
        refine ⟨m / n + 1, ?_⟩
        rw [Nat.mul_add, Nat.mul_one]
        omega
    by_cases hm : m % n = c
    · rw [if_pos hm, if_pos (h.2 hm), List.length_append, col_length hn l hc m]; rfl
    · rw [if_neg hm, if_neg (fun e => hm (h.1 e)), col_length hn l hc m]; rfl
theorem alikeC_le {l : List UInt8} (hl : Ls l) (n c : Nat) : alikeC l n c ≤ (col l n c).length * ((col l n c).length - 1) := by
  unfold alikeC
  have h := cnt_sum (col_ls hl n c)
  refine Nat.le_trans (sumTo_le (g := fun k => cnt (col l n c) k * ((col l n c).length - 1)) fun k _ => ?_) ?_
  · exact Nat.mul_le_mul_left _ (by have := cnt_le (col l n c) k; omega)
  · rw [sumTo_mul, h]
    exact Nat.le_refl _
theorem alike_le {l : List UInt8} (hl : Ls l) (n : Nat) : alike l n ≤ allP l n := sumTo_le fun c _ => alikeC_le hl n c
theorem allP_le (l : List UInt8) {n B : Nat} (hn : 0 < n) (h : ∀ c, c < n → (col l n c).length ≤ B + 1) : allP l n ≤ l.length * B := by
  unfold allP
  refine Nat.le_trans (sumTo_le (g := fun c => (col l n c).length * B) fun c hc => Nat.mul_le_mul_left _ (by have := h c hc; omega)) ?_
  rw [sumTo_mul, show sumTo (fun c => (col l n c).length) n = l.length from col_sum hn l l.length]
  exact Nat.le_refl _
theorem allP_one (l : List UInt8) (h : l.length ≤ 65536) : allP l 1 ≤ 4294901760 := by
  refine Nat.le_trans (allP_le l (B := 65535) (by decide) fun c _ => ?_) ?_
  · have := colTo_le l 1 c l.length; exact Nat.le_trans this (by omega)
  · exact Nat.le_trans (Nat.mul_le_mul_right _ h) (by decide)
theorem allP_more (l : List UInt8) (h : l.length ≤ 65536) {n : Nat} (hn : 2 ≤ n) : allP l n ≤ 2147418112 := by
  refine Nat.le_trans (allP_le l (B := 32767) (by omega) fun c hc => ?_) ?_
  · have := col_length (n := n) (by omega) l hc l.length
    show (colTo l n c l.length).length ≤ _
    rw [this]
    have h1 : (l.length + (n - 1 - c)) / n ≤ (l.length + (n - 1)) / n := Nat.div_le_div_right (by omega)
    have h2 : (l.length + (n - 1)) / n ≤ 32768 := by
      rw [Nat.div_le_iff_le_mul (by omega)]
      have : 65536 ≤ 32768 * n := by omega
      omega
    omega
  · exact Nat.le_trans (Nat.mul_le_mul_right _ h) (by decide)
end Go.Proofs.Yteomoeaoboaclae.Tl
