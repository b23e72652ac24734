/-
  Plain mathematics: what is multiplied twice; what is undone; what a known text tells.
-/
import Derived.Test.YtlgjgppojdamiabWWrite
import Derived.Test.YtlgjgppojdamiabWFind
namespace Go.Proofs.Ytlgjgppojdamiab
open Go.RowKit PK

theorem assoc_I (n : Nat) (h4 : n ≤ 4) (f : Nat → Int) (A : Nat → Nat → Int) (v : Nat → Int) : sumTo f (fun k => sumTo (A k) v n) n = sumTo (fun m => sumTo f (fun k => A k m) n) v n := by
  obtain rfl | rfl | rfl | rfl | rfl : n = 0 ∨ n = 1 ∨ n = 2 ∨ n = 3 ∨ n = 4 := by omega
  all_goals simp [sumTo]
  all_goals grind
theorem assoc_mod (n : Nat) (h4 : n ≤ 4) (f : Nat → Int) (A : Nat → Nat → Int) (v : Nat → Int) : sumTo f (fun k => sumTo (A k) v n % 26) n % 26 = sumTo (fun m => sumTo f (fun k => A k m) n % 26) v n % 26 := by
  rw [sumTo_mod (f' := f) (g' := fun k => sumTo (A k) v n) n (fun k _ => ⟨rfl, by rw [Int.emod_emod]⟩), assoc_I n h4 f A v]
  exact (sumTo_mod n fun k _ => ⟨by rw [Int.emod_emod], rfl⟩).symm
theorem one_sum (n : Nat) (h4 : n ≤ 4) (r : Nat) (hr : r < n) (v : Nat → Int) : sumTo (oneL r) v n = v r := by
  obtain rfl | rfl | rfl | rfl : n = 1 ∨ n = 2 ∨ n = 3 ∨ n = 4 := by omega
  · obtain rfl : r = 0 := by omega
    simp [sumTo, oneL]
  · obtain rfl | rfl : r = 0 ∨ r = 1 := by omega
    all_goals simp [sumTo, oneL]
  · obtain rfl | rfl | rfl : r = 0 ∨ r = 1 ∨ r = 2 := by omega
    all_goals simp [sumTo, oneL]
  · obtain rfl | rfl | rfl | rfl : r = 0 ∨ r = 1 ∨ r = 2 ∨ r = 3 := by omega
    all_goals simp [sumTo, oneL]
theorem one_sumR (n : Nat) (h4 : n ≤ 4) (x : Nat) (hx : x < n) (f : Nat → Int) : sumTo f (fun k => oneL k x) n = f x := by
  obtain rfl | rfl | rfl | rfl : n = 1 ∨ n = 2 ∨ n = 3 ∨ n = 4 := by omega
  · obtain rfl : x = 0 := by omega
    simp [sumTo, oneL]
  · obtain rfl | rfl : x = 0 ∨ x = 1 := by omega
    all_goals simp [sumTo, oneL]
  · obtain rfl | rfl | rfl : x = 0 ∨ x = 1 ∨ x = 2 := by omega
    all_goals simp [sumTo, oneL]
  · obtain rfl | rfl | rfl | rfl : x = 0 ∨ x = 1 ∨ x = 2 ∨ x = 3 := by omega
    all_goals simp [sumTo, oneL]
theorem num_enc (x : Int) (h : 0 ≤ x ∧ x < 26) : num (UInt8.ofNat (65 + x.toNat)) = x ∧ Pl.isL (UInt8.ofNat (65 + x.toNat)).toNat = true := by
  have e : (UInt8.ofNat (65 + x.toNat)).toNat = 65 + x.toNat := by
    rw [UInt8.toNat_ofNat']
    omega
  unfold num
  rw [e]
  refine ⟨by omega, ?_⟩
  simp [Pl.isL]
  omega
theorem enc_getD (n : Nat) (Z : Nat → Nat → Int) (full : List UInt8) (m i : Nat) (hi : i < m) : (encL n Z full m).getD i 0 = UInt8.ofNat (65 + (encN n Z full i).toNat) := by
  simp [encL, List.getD, hi]
theorem enc_num (n : Nat) (Z : Nat → Nat → Int) (full : List UInt8) (m i : Nat) (hi : i < m) : num ((encL n Z full m).getD i 0) = encN n Z full i := by
  rw [enc_getD n Z full m i hi]
  exact (num_enc _ (encN_bound _ _ _ _)).1
theorem enc_lets (n : Nat) (Z : Nat → Nat → Int) (full : List UInt8) (m : Nat) : Pl.Lets (encL n Z full m) := fun c hc => by
  unfold encL at hc
  obtain ⟨i, _, rfl⟩ := List.mem_map.1 hc
  exact (num_enc _ (encN_bound _ _ _ _)).2
/-- Where a place's piece lies. -/
theorem piece {n F i : Nat} (hF : F % n = 0) (hi : i < F) : ∃ q r, i = q * n + r ∧ r < n ∧ q * n + n ≤ F := by
  have hn : 0 < n := by
    rcases Nat.eq_zero_or_pos n with h | h
    · subst h; rw [Nat.mod_zero] at hF; omega
    · exact h
  refine ⟨i / n, i % n, (Nat.div_add_mod' i n).symm, Nat.mod_lt _ hn, ?_⟩
  have h1 := Nat.div_add_mod' F n
  rw [hF, Nat.add_zero] at h1
  have h2 : i / n < F / n := by
    rw [Nat.div_lt_iff_lt_mul hn, h1]
    exact hi
  have h3 := Nat.mul_le_mul_right n (show i / n + 1 ≤ F / n from h2)
  rw [Nat.succ_mul, h1] at h3
  exact h3
/-- TWO, ONE BEHIND THE OTHER, ARE THEIR PRODUCT. -/
theorem enc_comp (n : Nat) (h4 : n ≤ 4) (A B : Nat → Nat → Int) (full : List UInt8) (F : Nat) (hF : F % n = 0) (i : Nat) (hi : i < F) : encN n B (encL n A full F) i = encN n (mulL n B A) full i := by
  obtain ⟨q, r, rfl, hr, hq⟩ := piece hF hi
  rw [enc_at n B _ q r hr, enc_at n (mulL n B A) full q r hr]
  rw [sumTo_ext (f' := B r) (g' := fun k => sumTo (A k) (fun m => num (full.getD (q * n + m) 0)) n % 26) n (fun k hk => ⟨rfl, by rw [enc_num n A full F _ (by omega), enc_at n A full q k hk]⟩)]
  exact assoc_mod n h4 (B r) A _
theorem comp_list (n : Nat) (h4 : n ≤ 4) (A B : Nat → Nat → Int) (full : List UInt8) (F : Nat) (hF : F % n = 0) : encL n B (encL n A full F) F = encL n (mulL n B A) full F := by
  unfold encL
  refine List.map_congr_left fun i hi => ?_
  have hi' : i < F := by simpa using hi
  have := enc_comp n h4 A B full F hF i hi'
  unfold encL at this
  rw [this]
/-- WHAT IS ENCIPHERED IS UNDONE. -/
theorem undo_list (n : Nat) (h1 : 1 ≤ n) (h4 : n ≤ 4) (A : Nat → Nat → Int) (hr : (recOf (detL n A)).2 = 0) (full : List UInt8) (hl : Pl.Lets full) (hF : full.length % n = 0) : encL n (invL n A) (encL n A full full.length) full.length = full := by
  rw [comp_list n h4 A (invL n A) full _ hF]
  apply List.ext_getElem?
  intro i
  by_cases hi : i < full.length
  · have hb := num_bound hl i hi
    have e : encN n (mulL n (invL n A) A) full i = num (full.getD i 0) := by
      obtain ⟨q, r, rfl, hr', hq⟩ := piece hF hi
      rw [enc_at n _ full q r hr', sumTo_ext (f' := oneL r) (g' := fun k => num (full.getD (q * n + k) 0)) n (fun k hk => ⟨inv_left n h1 h4 A hr r k hr' hk, rfl⟩), one_sum n h4 r hr']
      have := hb.1
      omega
    have e2 : (encL n (mulL n (invL n A) A) full full.length)[i]? = some (UInt8.ofNat (65 + (encN n (mulL n (invL n A) A) full i).toNat)) := by simp [encL, hi]
    rw [e2, e]
    have e3 : full[i]? = some (full.getD i 0) := by simp [List.getD, List.getElem?_eq_getElem hi]
    rw [e3]
    congr 1
    have h9 := hb.1
    unfold num at h9 ⊢
    have : 65 + (((full.getD i 0).toNat : Int) - 65).toNat = (full.getD i 0).toNat := by omega
    rw [this]
    exact UInt8.ofNat_toNat
  · rw [List.getElem?_eq_none (by rw [encL_length]; omega), List.getElem?_eq_none (by omega)]
theorem full_self (n : Nat) (l : List UInt8) (h : l.length % n = 0) : fullL n l = l := by
  unfold fullL
  rw [h, Nat.sub_zero, Nat.mod_self]
  simp
theorem full_getD (n : Nat) (t : List UInt8) (i : Nat) (hi : i < t.length) : (fullL n t).getD i 0 = t.getD i 0 := by
  unfold fullL
  simp [List.getD, List.getElem?_append_left hi]
/-- A KNOWN TEXT TELLS ITS MATRIX. -/
theorem find_is (n : Nat) (h1 : 1 ≤ n) (h4 : n ≤ 4) (A : Nat → Nat → Int) (hA : ∀ r, r < n → ∀ c, c < n → 0 ≤ A r c ∧ A r c < 26) (t : List UInt8) (hn : n * n ≤ t.length) (hr : (recOf (detL n (colF n t))).2 = 0) (y x : Nat) (hy : y < n) (hx : x < n) :
    mulL n (colF n (encL n A (fullL n t) (fullL n t).length)) (invL n (colF n t)) y x = A y x := by
  have hfl := fullL_length n h1 t
  have hc : ∀ k, k < n → colF n (encL n A (fullL n t) (fullL n t).length) y k = sumTo (A y) (fun m => colF n t m k) n % 26 := fun k hk => by
    have hlt := col_lt hy hk
    show num ((encL n A (fullL n t) (fullL n t).length).getD (n * k + y) 0) = _
    rw [enc_num n A _ _ _ (by omega), Nat.mul_comm n k, enc_at n A _ k y hy]
    rw [sumTo_ext (f' := A y) (g' := fun m => colF n t m k) n (fun m hm => ⟨rfl, by
      have hlt2 := col_lt hm hk
      show num ((fullL n t).getD (k * n + m) 0) = num (t.getD (n * k + m) 0)
      rw [Nat.mul_comm k n, full_getD n t _ (by omega)]⟩)]
  show sumTo (colF n (encL n A (fullL n t) (fullL n t).length) y) (fun k => invL n (colF n t) k x) n % 26 = _
  rw [sumTo_ext (f' := fun k => sumTo (A y) (fun m => colF n t m k) n % 26) (g' := fun k => invL n (colF n t) k x) n (fun k hk => ⟨hc k hk, rfl⟩), ← assoc_mod n h4 (A y) (colF n t) (fun k => invL n (colF n t) k x)]
  rw [sumTo_ext (f := A y) (g := fun k => sumTo (colF n t k) (fun k => invL n (colF n t) k x) n % 26) (f' := A y) (g' := fun k => oneL k x) n (fun k hk => ⟨rfl, inv_right n h1 h4 (colF n t) hr k x hk hx⟩), one_sumR n h4 x hx]
  have := hA y hy x hx
  omega
end Go.Proofs.Ytlgjgppojdamiab
