/-
  Several texts, joined: WFind, WMath, ScUm.
-/
import Derived.Test.YtkohhdkkbaifoaaGreatDoorJn19
import Derived.Test.YtkohhdkkbaifoaaGreatDoorJn20
import Derived.Test.YtkohhdkkbaifoaaGreatDoorJn21
import Derived.Test.YtkohhdkkbaifoaaGreatDoorScI
/-
  Contracts of hill.columns and hill.Find.
-/
namespace Go.Proofs.YtkohhdkkbaifoaaGreatDoor
open Go.RowKit PK

end Go.Proofs.YtkohhdkkbaifoaaGreatDoor

/-
  Plain mathematics: what is multiplied twice; what is undone; what a known text tells.
-/
namespace Go.Proofs.YtkohhdkkbaifoaaGreatDoor
open Go.RowKit PK

theorem assoc_I (n : Nat) (h4 : n ≤ 4) (f : Nat → Int) (A : Nat → Nat → Int) (v : Nat → Int) : sumTo f (fun k => sumTo (A k) v n) n = sumTo (fun m => sumTo f (fun k => A k m) n) v n := by
  obtain rfl | rfl | rfl | rfl | rfl : n = 0 ∨ n = 1 ∨ n = 2 ∨ n = 3 ∨ n = 4 := by omega
  all_goals simp [sumTo]
  all_goals grind
theorem assoc_mod (n : Nat) (h4 : n ≤ 4) (f : Nat → Int) (A : Nat → Nat → Int) (v : Nat → Int) : sumTo f (fun k => sumTo (A k) v n % 26) n % 26 = sumTo (fun m => sumTo f (fun k => A k m) n % 26) v n % 26 := by
  rw [sumTo_mod (f' := f) (g' := fun k => sumTo (A k) v n) n (fun k _ => ⟨rfl, by rw [Int.emod_emod]⟩), assoc_I n h4 f A v]
  exact (sumTo_mod n fun k _ => ⟨by rw [Int.emod_emod], rfl⟩).symm
theorem one_sum (n : Nat) (h4 : n ≤ 4) (r : Nat) (hr : r < n) (v : Nat → Int) : sumTo (oneL r) v n = v r := by
  obtain rfl | rfl | rfl | rfl : n = 1 ∨ n = 2 ∨ n = 3 ∨ n = 4 := by omega
  · obtain rfl : r = 0 := by omega
    simp [sumTo, oneL]
  · obtain rfl | rfl : r = 0 ∨ r = 1 := by omega
    all_goals simp [sumTo, oneL]
  · obtain rfl | rfl | rfl : r = 0 ∨ r = 1 ∨ r = 2 := by omega
    all_goals simp [sumTo, oneL]
  · obtain rfl | rfl | rfl | rfl : r = 0 ∨ r = 1 ∨ r = 2 ∨ r = 3 := by omega
    all_goals simp [sumTo, oneL]
theorem num_enc (x : Int) (h : 0 ≤ x ∧ x < 26) : num (UInt8.ofNat (65 + x.toNat)) = x ∧ Pl.isL (UInt8.ofNat (65 + x.toNat)).toNat = true := by
  have e : (UInt8.ofNat (65 + x.toNat)).toNat = 65 + x.toNat := by
    rw [UInt8.toNat_ofNat']
    omega
  unfold num
  rw [e]
  refine ⟨by omega, ?_⟩
  simp [Pl.isL]
  omega
theorem enc_getD (n : Nat) (Z : Nat → Nat → Int) (full : List UInt8) (m i : Nat) (hi : i < m) : (encL n Z full m).getD i 0 = UInt8.ofNat (65 + (encN n Z full i).toNat) := by
  simp [encL, List.getD, hi]
theorem enc_num (n : Nat) (Z : Nat → Nat → Int) (full : List UInt8) (m i : Nat) (hi : i < m) : num ((encL n Z full m).getD i 0) = encN n Z full i := by
  rw [enc_getD n Z full m i hi]
  exact (num_enc _ (encN_bound _ _ _ _)).1
/-- Where a place's piece lies. -/
theorem piece {n F i : Nat} (hF : F % n = 0) (hi : i < F) : ∃ q r, i = q * n + r ∧ r < n ∧ q * n + n ≤ F := by
  have hn : 0 < n := by
    rcases Nat.eq_zero_or_pos n with h | h
    · subst h; rw [Nat.mod_zero] at hF; omega
    · exact h
  refine ⟨i / n, i % n, (Nat.div_add_mod' i n).symm, Nat.mod_lt _ hn, ?_⟩
  have h1 := Nat.div_add_mod' F n
  rw [hF, Nat.add_zero] at h1
  have h2 : i / n < F / n := by
    rw [Nat.div_lt_iff_lt_mul hn, h1]
    exact hi
  have h3 := Nat.mul_le_mul_right n (show i / n + 1 ≤ F / n from h2)
  rw [Nat.succ_mul, h1] at h3
  exact h3
/-- TWO, ONE BEHIND THE OTHER, ARE THEIR PRODUCT. -/
theorem enc_comp (n : Nat) (h4 : n ≤ 4) (A B : Nat → Nat → Int) (full : List UInt8) (F : Nat) (hF : F % n = 0) (i : Nat) (hi : i < F) : encN n B (encL n A full F) i = encN n (mulL n B A) full i := by
  obtain ⟨q, r, rfl, hr, hq⟩ := piece hF hi
  rw [enc_at n B _ q r hr, enc_at n (mulL n B A) full q r hr]
  rw [sumTo_ext (f' := B r) (g' := fun k => sumTo (A k) (fun m => num (full.getD (q * n + m) 0)) n % 26) n (fun k hk => ⟨rfl, by rw [enc_num n A full F _ (by omega), enc_at n A full q k hk]⟩)]
  exact assoc_mod n h4 (B r) A _
theorem comp_list (n : Nat) (h4 : n ≤ 4) (A B : Nat → Nat → Int) (full : List UInt8) (F : Nat) (hF : F % n = 0) : encL n B (encL n A full F) F = encL n (mulL n B A) full F := by
  unfold encL
  refine List.map_congr_left fun i hi => ?_
  have hi' : i < F := by simpa using hi
  have := enc_comp n h4 A B full F hF i hi'
  unfold encL at this
  rw [this]
/-- WHAT IS ENCIPHERED IS UNDONE. -/
theorem undo_list (n : Nat) (h1 : 1 ≤ n) (h4 : n ≤ 4) (A : Nat → Nat → Int) (hr : (recOf (detL n A)).2 = 0) (full : List UInt8) (hl : Pl.Lets full) (hF : full.length % n = 0) : encL n (invL n A) (encL n A full full.length) full.length = full := by
  rw [comp_list n h4 A (invL n A) full _ hF]
  apply List.ext_getElem?
  intro i
  by_cases hi : i < full.length
  · have hb := num_bound hl i hi
    have e : encN n (mulL n (invL n A) A) full i = num (full.getD i 0) := by
      obtain ⟨q, r, rfl, hr', hq⟩ := piece hF hi
      rw [enc_at n _ full q r hr', sumTo_ext (f' := oneL r) (g' := fun k => num (full.getD (q * n + k) 0)) n (fun k hk => ⟨inv_left n h1 h4 A hr r k hr' hk, rfl⟩), one_sum n h4 r hr']
      have := hb.1
      omega
    have e2 : (encL n (mulL n (invL n A) A) full full.length)[i]? = some (UInt8.ofNat (65 + (encN n (mulL n (invL n A) A) full i).toNat)) := by simp [encL, hi]
    rw [e2, e]
    have e3 : full[i]? = some (full.getD i 0) := by simp [List.getD, List.getElem?_eq_getElem hi]
    rw [e3]
    congr 1
    have h9 := hb.1
    unfold num at h9 ⊢
    have : 65 + (((full.getD i 0).toNat : Int) - 65).toNat = (full.getD i 0).toNat := by omega
    rw [this]
    exact UInt8.ofNat_toNat
  · rw [List.getElem?_eq_none (by rw [encL_length]; omega), List.getElem?_eq_none (by omega)]
end Go.Proofs.YtkohhdkkbaifoaaGreatDoor

/-
  What is done is undone, and the other way round; chains one behind the other.
-/
namespace Go.Proofs.YtkohhdkkbaifoaaGreatDoor
open Go.RowKit PK Vg Sm

theorem putL_get17 {n : Nat} (f : Nat → Int) (l : List UInt8) {i : Nat} (hi : i < n) : (putL n f l).getD i 0 = l.getD (f i).toNat 0 := by
  simp [putL, List.getD, List.getElem?_map, List.getElem?_range hi]
theorem putL_undo17 {n : Nat} {f g : Nat → Int} {l : List UInt8} (hn : n = l.length) (hg : ∀ i, i < n → 0 ≤ g i ∧ g i < n ∧ f (g i).toNat = i) : putL n g (putL n f l) = l := by
  apply List.ext_getElem
  · rw [putL_length]; exact hn
  · intro i h1 h2
    have hi : i < n := by omega
    have a1 := putL_get17 g (putL n f l) hi
    have hb := hg i hi
    rw [putL_get17 f l (show (g i).toNat < n by omega), hb.2.2, Int.toNat_natCast] at a1
    simpa [List.getD, List.getElem?_eq_getElem h1, List.getElem?_eq_getElem h2] using a1
theorem put_back17 {n : Nat} {f : Nat → Int} {l : List UInt8} (hg : GoodO n f) (hn : n = l.length) : putL n (backF f n) (putL n f l) = l ∧ putL n f (putL n (backF f n) l) = l := by
  refine ⟨putL_undo17 hn hg.back.2, putL_undo17 hn fun i hi => ?_⟩
  have := hg.lt i hi
  exact ⟨this.1, this.2, backF_at hg n (Nat.le_refl n) i hi⟩
theorem mvC_two {a b : Nat} (h : (a + b) % 26 = 0) {c : UInt8} (hc : 65 ≤ c.toNat ∧ c.toNat ≤ 90) : mvC b (mvC a c) = c := by
  unfold mvC
  have h1 := Vg.num_lt hc
  rw [Vg.num_ltr (Nat.mod_lt _ (by omega)), show ((Vg.num c + a) % 26 + b) % 26 = Vg.num c by omega, Vg.ltr_num hc]
theorem mvL_two {a b : Nat} (h : (a + b) % 26 = 0) {l : List UInt8} (hl : Ls l) : mvL b (mvL a l) = l := by
  unfold mvL
  rw [List.map_map]
  conv => rhs; rw [← List.map_id l]
  exact List.map_congr_left fun c hc => mvC_two h (hl c hc)
theorem rdTo_at {kind : Nat} {k t : List UInt8} : ∀ {m j : Nat}, j < m → (rdTo kind k t m).getD j 0 = ltr (back kind (Vg.num (t.getD j 0)) (kat kind k (rdTo kind k t j) j))
  | m + 1, j, h => by
    show (rdTo kind k t m ++ [ltr (back kind (Vg.num (t.getD m 0)) (kat kind k (rdTo kind k t m) m))]).getD j 0 = _
    simp only [List.getD]
    by_cases e : j = m
    · subst e
      rw [List.getElem?_append_right (by rw [rdTo_length]; exact Nat.le_refl _), rdTo_length, Nat.sub_self]
      rfl
    · rw [List.getElem?_append_left (by rw [rdTo_length]; omega)]
      exact rdTo_at (by omega)
theorem write_read {kind : Nat} {k t : List UInt8} (hk : Ls k) (ht : Ls t) (h0 : 0 < k.length) : writeL kind k (readL kind k t) = t := by
  refine ext_getD (by rw [writeL_length, readL_length]) fun i hi => ?_
  rw [writeL_length, readL_length] at hi
  rw [writeL_at _ _ _ (by rw [readL_length]; exact hi)]
  have e1 : (readL kind k t).getD i 0 = ltr (back kind (Vg.num (t.getD i 0)) (kat kind k (rdTo kind k t i) i)) := rdTo_at hi
  have e2 : kat kind k (readL kind k t) i = kat kind k (rdTo kind k t i) i := kat_congr fun h => by
    unfold readL
    rw [rdTo_at (m := t.length) (by omega), rdTo_at (m := i) (by omega)]
  rw [e1, e2, num_ltr (back_lt _ _ _), there_back kind (num_lt (ht.at hi)) (kat_lt hk (rdTo_ls _ _ _ _) h0 (fun _ => by rw [rdTo_length]; omega)), ltr_num (ht.at hi)]
theorem one_list (n : Nat) (h4 : n ≤ 4) (M : Nat → Nat → Int) (hM : ∀ r, r < n → ∀ k, k < n → M r k = oneL r k) (full : List UInt8) (hl : Pl.Lets full) (hF : full.length % n = 0) : encL n M full full.length = full := by
  apply List.ext_getElem?
  intro i
  by_cases hi : i < full.length
  · have hb := num_bound hl i hi
    have e : encN n M full i = num (full.getD i 0) := by
      obtain ⟨q, r, rfl, hr', hq⟩ := piece hF hi
      rw [enc_at n _ full q r hr', sumTo_ext (f' := oneL r) (g' := fun k => num (full.getD (q * n + k) 0)) n (fun k hk => ⟨hM r hr' k hk, rfl⟩), one_sum n h4 r hr']
      have := hb.1
      omega
    have e2 : (encL n M full full.length)[i]? = some (UInt8.ofNat (65 + (encN n M full i).toNat)) := by simp [encL, hi]
    rw [e2, e]
    have e3 : full[i]? = some (full.getD i 0) := by simp [List.getD, List.getElem?_eq_getElem hi]
    rw [e3]
    congr 1
    have h9 := hb.1
    unfold num at h9 ⊢
    have : 65 + (((full.getD i 0).toNat : Int) - 65).toNat = (full.getD i 0).toNat := by omega
    rw [this]
    exact UInt8.ofNat_toNat
  · rw [List.getElem?_eq_none (by rw [encL_length]; omega), List.getElem?_eq_none (by omega)]
theorem undE_cases (s : Sp) (n : Nat) (h : oneE s n = 0) : undE s n = 0 ∨ undE s n = 6 := by
  unfold oneE at h
  unfold undE
  by_cases h1 : s.k = 5 ∧ n % s.r ≠ 0
  · rw [if_pos h1] at h; cases h
  · rw [if_neg h1]
    by_cases h2 : s.k = 5
    · rw [if_pos h2]
      unfold recOf
      split
      · exact .inl rfl
      · exact .inr rfl
    · rw [if_neg h2]; exact .inl rfl
theorem undE_hill {s : Sp} {n : Nat} (h : undE s n = 0) (k : s.k = 5) : n % s.r = 0 ∧ (recOf (detL s.r s.Z)).2 = 0 := by
  unfold undE at h
  by_cases h1 : s.k = 5 ∧ n % s.r ≠ 0
  · rw [if_pos h1] at h; cases h
  · rw [if_neg h1, if_pos k] at h
    exact ⟨Decidable.not_not.1 fun e => h1 ⟨k, e⟩, h⟩
section
variable (w : World) {s : Sp} {t : List UInt8} (hs : stE s = 0) (ht : ckE t = 0) (hu : undE s t.length = 0)
include w hs ht hu
theorem und_one : und s (one s t) = t := by
  obtain ⟨hl, hn⟩ := ls_ck ht
  have hlen := (one_right w hs ht).2
  rcases st_kinds hs with k | k | k | k | k | k
  · rw [und_1 k, one_1 k]; have := st_move hs k; exact mvL_two (by omega) hl
  · obtain ⟨_, h1, h2, _⟩ := st_tab hs k
    rw [und_2 k, one_2 k]; exact read_write (ls_ck h1).1 hl (by omega)
  · rw [und_34 (.inl k), hlen, one_34 (.inl k)]; exact (put_back17 (ord_good (ord_ex w hs (.inl k) hn).1 hn) rfl).1
  · rw [und_34 (.inr k), hlen, one_34 (.inr k)]; exact (put_back17 (ord_good (ord_ex w hs (.inr k) hn).1 hn) rfl).1
  · obtain ⟨h1, h2⟩ := undE_hill hu k
    obtain ⟨hg, _⟩ := (matErr_zero _ _ _).1 (st_hill hs k)
    rw [und_5 k, hlen, one_5 k]
    exact undo_list s.r hg.pos hg.le s.Z h2 t (lets_ls hl) h1
  · rw [und_6 k, one_6 k]; exact Om.wr_wr (ok_maOf (st_rotor hs k)).1 _ hl
theorem one_und : one s (und s t) = t := by
  obtain ⟨hl, hn⟩ := ls_ck ht
  have hlen := (und_right w hs ht).2
  rcases st_kinds hs with k | k | k | k | k | k
  · rw [one_1 k, und_1 k]; have := st_move hs k; exact mvL_two (by omega) hl
  · obtain ⟨_, h1, h2, _⟩ := st_tab hs k
    rw [one_2 k, und_2 k]; exact write_read (ls_ck h1).1 hl (by omega)
  · rw [one_34 (.inl k), hlen, und_34 (.inl k)]; exact (put_back17 (ord_good (ord_ex w hs (.inl k) hn).1 hn) rfl).2
  · rw [one_34 (.inr k), hlen, und_34 (.inr k)]; exact (put_back17 (ord_good (ord_ex w hs (.inr k) hn).1 hn) rfl).2
  · obtain ⟨h1, h2⟩ := undE_hill hu k
    obtain ⟨hg, _⟩ := (matErr_zero _ _ _).1 (st_hill hs k)
    rw [one_5 k, hlen, und_5 k, comp_list s.r hg.le _ _ t _ h1]
    exact one_list s.r hg.le _ (fun r hr c hc => inv_right s.r hg.pos hg.le s.Z h2 r c hr hc) t (lets_ls hl) h1
  · rw [one_6 k, und_6 k]; exact Om.wr_wr (ok_maOf (st_rotor hs k)).1 _ hl
end
section
variable (w : World) {l : Nat → Sp} {n : Nat} (hl : ∀ i, i < n → stE (l i) = 0) {t : List UInt8} (ht : ckE t = 0)
include w hl ht
theorem undT_right' : ∀ k, k ≤ n → ckE (undT l n t k) = 0 ∧ (undT l n t k).length = t.length
  | 0, _ => ⟨ht, rfl⟩
  | k + 1, hk => by
    obtain ⟨h1, h2⟩ := undT_right' k (by omega)
    obtain ⟨h3, h4⟩ := und_right w (hl (n - 1 - k) (by omega)) h1
    exact ⟨h3, h4.trans h2⟩
theorem undT_runT (hu : ∀ i, i < n → undE (l i) t.length = 0) : ∀ k, k ≤ n → undT l n (runT l t n) k = runT l t (n - k)
  | 0, _ => rfl
  | k + 1, hk => by
    show und (l (n - 1 - k)) (undT l n (runT l t n) k) = _
    rw [undT_runT hu k (by omega), show n - k = (n - 1 - k) + 1 by omega, show n - (k + 1) = n - 1 - k by omega]
    obtain ⟨h1, h2⟩ := runT_right w hl ht (n - 1 - k) (by omega)
    exact und_one w (hl _ (by omega)) h1 (by rw [h2]; exact hu _ (by omega))
theorem runT_undT (hu : ∀ i, i < n → undE (l i) t.length = 0) : ∀ k, k ≤ n → runT l (undT l n t n) k = undT l n t (n - k)
  | 0, _ => rfl
  | k + 1, hk => by
    show one (l k) (runT l (undT l n t n) k) = _
    rw [runT_undT hu k (by omega), show n - k = (n - (k + 1)) + 1 by omega]
    show one (l k) (und (l (n - 1 - (n - (k + 1)))) _) = _
    rw [show n - 1 - (n - (k + 1)) = k by omega]
    obtain ⟨h1, h2⟩ := undT_right' w hl ht (n - (k + 1)) (by omega)
    exact one_und w (hl _ (by omega)) h1 (by rw [h2]; exact hu _ (by omega))
end
/-- Two chains, one behind the other. -/
def catS (n : Nat) (l m : Nat → Sp) : Nat → Sp := fun i => if i < n then l i else m (i - n)
theorem catS_lt {n i : Nat} {l m : Nat → Sp} (h : i < n) : catS n l m i = l i := if_pos h
theorem catS_ge {n : Nat} {l m : Nat → Sp} (i : Nat) : catS n l m (n + i) = m i := by unfold catS; rw [if_neg (by omega), Nat.add_sub_cancel_left]
theorem fir_cat {f g h : Nat → Int} {n : Nat} (hf : ∀ i, i < n → f i = 0) (e1 : ∀ i, i < n → h i = f i) (e2 : ∀ i, h (n + i) = g i) : ∀ k, firV h (n + k) = firV g k := fun k => by
  by_cases hz : ∀ i, i < k → g i = 0
  · rw [firV_all hz, firV_all]
    intro i hi
    by_cases e : i < n
    · rw [e1 i e, hf i e]
    · obtain ⟨j, rfl⟩ : ∃ j, i = n + j := ⟨i - n, by omega⟩
      rw [e2]; exact hz j (by omega)
  · cases hg : fir g k with
    | none => exact absurd (fir_none hg) hz
    | some i =>
      obtain ⟨h1, h2, h3⟩ := fir_some hg
      rw [(firV_of h1 h3 h2).1, (firV_of (f := h) (m := n + k) (i := n + i) (by omega) (fun j hj => ?_) (by rw [e2]; exact h2)).1, e2]
      by_cases e : j < n
      · rw [e1 j e, hf j e]
      · obtain ⟨j, rfl⟩ : ∃ j2, j = n + j2 := ⟨j - n, by omega⟩
        rw [e2]; exact h3 j (by omega)
theorem firE_fir (l : Nat → Sp) : ∀ n, firE l n = fir (fun i => stE (l i)) n
  | 0 => rfl
  | n + 1 => by
    unfold firE fir
    rw [firE_fir l n]
    rfl
theorem chE_firV {n : Nat} {l : Nat → Sp} (h : n ≤ 64) : chE n l = firV (fun i => stE (l i)) n := by
  unfold chE firV
  rw [if_neg (by omega), firE_fir]
theorem runT_cat {n : Nat} {l m : Nat → Sp} (t : List UInt8) : (∀ k, k ≤ n → runT (catS n l m) t k = runT l t k) ∧ ∀ k, runT (catS n l m) t (n + k) = runT m (runT l t n) k := by
  have h1 : ∀ k, k ≤ n → runT (catS n l m) t k = runT l t k := fun k => by
    induction k with
    | zero => intro _; rfl
    | succ k ih => intro hk; show one _ _ = one _ _; rw [ih (by omega), catS_lt (by omega)]
  refine ⟨h1, fun k => ?_⟩
  induction k with
  | zero => exact h1 n (Nat.le_refl _)
  | succ k ih =>
    show one (catS n l m (n + k)) (runT (catS n l m) t (n + k)) = one (m k) (runT m (runT l t n) k)
    rw [ih, catS_ge]
/-- WHAT TWO CHAINS DO, ONE BEHIND THE OTHER. -/
theorem run_cat (w : World) {n k : Nat} {l m : Nat → Sp} {t : List UInt8} (h : rE n l t = 0) (hn : n + k ≤ 64) : rE (n + k) (catS n l m) t = rE k m (rS n l t) ∧ (rE k m (rS n l t) = 0 → rS (n + k) (catS n l m) t = rS k m (rS n l t)) := by
  obtain ⟨hc, ht, ho⟩ := rE_zero h
  obtain ⟨_, hst⟩ := chE_zero hc
  have hrs : rS n l t = runT l t n := by unfold rS; rw [if_pos h]
  obtain ⟨h1, h2⟩ := runT_right w hst ht n (Nat.le_refl _)
  have e : rE (n + k) (catS n l m) t = rE k m (rS n l t) := by
    unfold rE
    rw [chE_firV hn, chE_firV (n := k) (by omega), fir_cat (f := fun i => stE (l i)) (g := fun i => stE (m i)) hst (fun i hi => by rw [catS_lt hi]) (fun i => by rw [catS_ge]), hrs, h1, ht, h2,
      fir_cat (f := fun i => oneE (l i) t.length) (g := fun i => oneE (m i) t.length) ho (fun i hi => by rw [catS_lt hi]) (fun i => by rw [catS_ge])]
  refine ⟨e, fun hz => ?_⟩
  have e2 : ∀ t', rE k m t' = 0 → rS k m t' = runT m t' k := fun t' h => by unfold rS; rw [if_pos h]
  have e3 : rS (n + k) (catS n l m) t = runT (catS n l m) t (n + k) := by unfold rS; rw [if_pos (e.trans hz)]
  rw [e2 _ hz, e3, (runT_cat t).2, hrs]
end Go.Proofs.YtkohhdkkbaifoaaGreatDoor
