/-
  Several texts, joined: VMath, OMath.
-/
import Derived.Test.YthfjkhmedpilnaaJn18
import Derived.Test.YthfjkhmedpilnaaJn17
/-
  Keys added to letters: the mathematics.
-/
namespace Go.Proofs.Ythfjkhmedpilnaa.Vg

def there (kind a b : Nat) : Nat := if kind = 2 then (b + 26 - a) % 26 else if kind = 3 then (a + 26 - b) % 26 else (a + b) % 26
def back (kind c b : Nat) : Nat := if kind = 2 then (b + 26 - c) % 26 else if kind = 3 then (c + b) % 26 else (c + 26 - b) % 26
def betw (kind a c : Nat) : Nat := if kind = 2 then (a + c) % 26 else if kind = 3 then (a + 26 - c) % 26 else (c + 26 - a) % 26
theorem there_lt (kind a b : Nat) : there kind a b < 26 := by unfold there; split <;> (try split) <;> omega
theorem back_lt (kind a b : Nat) : back kind a b < 26 := by unfold back; split <;> (try split) <;> omega
theorem betw_lt (kind a b : Nat) : betw kind a b < 26 := by unfold betw; split <;> (try split) <;> omega
theorem back_there (kind : Nat) {a b : Nat} (ha : a < 26) (hb : b < 26) : back kind (there kind a b) b = a := by unfold back there; split <;> (try split) <;> omega
theorem there_back (kind : Nat) {c b : Nat} (hc : c < 26) (hb : b < 26) : there kind (back kind c b) b = c := by unfold back there; split <;> (try split) <;> omega
theorem betw_there (kind : Nat) {a b : Nat} (ha : a < 26) (hb : b < 26) : betw kind a (there kind a b) = b := by unfold betw there; split <;> (try split) <;> omega
theorem there_betw (kind : Nat) {a c : Nat} (ha : a < 26) (hc : c < 26) : there kind a (betw kind a c) = c := by unfold betw there; split <;> (try split) <;> omega

def num (c : UInt8) : Nat := c.toNat - 65
def ltr (n : Nat) : UInt8 := UInt8.ofNat (65 + n)
theorem num_ltr {n : Nat} (h : n < 26) : num (ltr n) = n := by unfold num ltr; rw [UInt8.toNat_ofNat']; omega
theorem ltr_num {c : UInt8} (h : 65 ≤ c.toNat ∧ c.toNat ≤ 90) : ltr (num c) = c := by
  unfold num ltr
  apply UInt8.toNat_inj.1
  rw [UInt8.toNat_ofNat']; omega
theorem num_lt {c : UInt8} (h : 65 ≤ c.toNat ∧ c.toNat ≤ 90) : num c < 26 := by unfold num; omega
theorem ltr_toNat {n : Nat} (h : n < 26) : (ltr n).toNat = 65 + n := by unfold ltr; rw [UInt8.toNat_ofNat']; omega
theorem ltr_ok {n : Nat} (h : n < 26) : 65 ≤ (ltr n).toNat ∧ (ltr n).toNat ≤ 90 := by rw [ltr_toNat h]; omega

/-- Letters alone. -/
def Ls (l : List UInt8) : Prop := ∀ c ∈ l, 65 ≤ c.toNat ∧ c.toNat ≤ 90
theorem Ls.at {l : List UInt8} (h : Ls l) {i : Nat} (hi : i < l.length) : 65 ≤ (l.getD i 0).toNat ∧ (l.getD i 0).toNat ≤ 90 := by
  rw [List.getD_eq_getElem?_getD, List.getElem?_eq_getElem hi]
  exact h _ (List.getElem_mem hi)
theorem getD_some {l : List UInt8} {i : Nat} (hi : i < l.length) : l.getD i 0 = l[i] := by rw [List.getD_eq_getElem?_getD, List.getElem?_eq_getElem hi]; rfl
theorem ext_getD {a b : List UInt8} (hl : a.length = b.length) (h : ∀ i, i < a.length → a.getD i 0 = b.getD i 0) : a = b :=
  List.ext_getElem hl fun i h1 h2 => by rw [← getD_some h1, ← getD_some h2]; exact h i h1
theorem getD_map {f : Nat → UInt8} {n i : Nat} (hi : i < n) : ((List.range n).map f).getD i 0 = f i := by
  rw [getD_some (by simpa using hi)]; simp

/-- The key's letter for the place i; p: what is known of the text. -/
def kat (kind : Nat) (k p : List UInt8) (i : Nat) : Nat := if kind = 4 ∧ k.length ≤ i then num (p.getD (i - k.length) 0) else num (k.getD (i % k.length) 0)
theorem kat_lt {kind : Nat} {k p : List UInt8} {i : Nat} (hk : Ls k) (hp : Ls p) (h0 : 0 < k.length) (hi : k.length ≤ i → i - k.length < p.length) : kat kind k p i < 26 := by
  unfold kat
  split
  · next h => exact num_lt (hp.at (hi h.2))
  · exact num_lt (hk.at (Nat.mod_lt _ h0))
def wrL (kind : Nat) (k t : List UInt8) (m : Nat) : List UInt8 := (List.range m).map fun i => ltr (there kind (num (t.getD i 0)) (kat kind k t i))
def writeL (kind : Nat) (k t : List UInt8) : List UInt8 := wrL kind k t t.length
theorem wrL_length (kind : Nat) (k t : List UInt8) (m : Nat) : (wrL kind k t m).length = m := by simp [wrL]
theorem writeL_length (kind : Nat) (k t : List UInt8) : (writeL kind k t).length = t.length := wrL_length _ _ _ _
theorem wrL_succ (kind : Nat) (k t : List UInt8) (m : Nat) : wrL kind k t (m + 1) = wrL kind k t m ++ [ltr (there kind (num (t.getD m 0)) (kat kind k t m))] := by unfold wrL; rw [List.range_succ, List.map_append]; rfl
theorem writeL_at (kind : Nat) (k t : List UInt8) {i : Nat} (hi : i < t.length) : (writeL kind k t).getD i 0 = ltr (there kind (num (t.getD i 0)) (kat kind k t i)) := getD_map hi
theorem writeL_ls (kind : Nat) (k t : List UInt8) : Ls (writeL kind k t) := by
  intro c hc
  obtain ⟨i, _, rfl⟩ := List.mem_map.1 hc
  exact ltr_ok (there_lt _ _ _)
def rdTo (kind : Nat) (k t : List UInt8) : Nat → List UInt8
  | 0 => []
  | i + 1 => rdTo kind k t i ++ [ltr (back kind (num (t.getD i 0)) (kat kind k (rdTo kind k t i) i))]
def readL (kind : Nat) (k t : List UInt8) : List UInt8 := rdTo kind k t t.length
theorem rdTo_length (kind : Nat) (k t : List UInt8) : ∀ m, (rdTo kind k t m).length = m
  | 0 => rfl
  | m + 1 => by simp [rdTo, rdTo_length kind k t m]
theorem rdTo_ls (kind : Nat) (k t : List UInt8) : ∀ m, Ls (rdTo kind k t m)
  | 0 => fun c hc => by simp [rdTo] at hc
  | m + 1 => fun c hc => by
    rcases List.mem_append.1 (show c ∈ rdTo kind k t m ++ _ from hc) with h | h
    · exact rdTo_ls kind k t m c h
    · simp only [List.mem_singleton] at h
      rw [h]; exact ltr_ok (back_lt _ _ _)
theorem readL_length (kind : Nat) (k t : List UInt8) : (readL kind k t).length = t.length := rdTo_length _ _ _ _
theorem readL_ls (kind : Nat) (k t : List UInt8) : Ls (readL kind k t) := rdTo_ls _ _ _ _
theorem kat_congr {kind : Nat} {k p q : List UInt8} {i : Nat} (h : k.length ≤ i → p.getD (i - k.length) 0 = q.getD (i - k.length) 0) : kat kind k p i = kat kind k q i := by
  unfold kat
  split
  · next e => rw [h e.2]
  · rfl
theorem rd_wr {kind : Nat} {k t : List UInt8} (hk : Ls k) (ht : Ls t) (h0 : 0 < k.length) : ∀ m, m ≤ t.length → rdTo kind k (writeL kind k t) m = t.take m
  | 0, _ => by simp [rdTo]
  | m + 1, hm => by
    show rdTo kind k (writeL kind k t) m ++ _ = _
    rw [rd_wr hk ht h0 m (by omega), writeL_at kind k t (by omega), num_ltr (there_lt _ _ _)]
    have ek : kat kind k (t.take m) m = kat kind k t m := kat_congr fun e => by simp only [List.getD_eq_getElem?_getD]; rw [List.getElem?_take_of_lt (by omega)]
    rw [ek]
    rw [back_there kind (num_lt (ht.at (by omega))) (kat_lt hk ht h0 (fun _ => by omega)), ltr_num (ht.at (by omega))]
    rw [getD_some (by omega), List.take_succ_eq_append_getElem (by omega)]
theorem read_write {kind : Nat} {k t : List UInt8} (hk : Ls k) (ht : Ls t) (h0 : 0 < k.length) : readL kind k (writeL kind k t) = t := by
  unfold readL
  rw [writeL_length, rd_wr hk ht h0 _ (Nat.le_refl _), List.take_length]
theorem beaufort {k t : List UInt8} (hk : Ls k) (ht : Ls t) (h0 : 0 < k.length) : writeL 2 k (writeL 2 k t) = t := by
  refine ext_getD (by rw [writeL_length, writeL_length]) fun i hi => ?_
  rw [writeL_length, writeL_length] at hi
  rw [writeL_at _ _ _ (by rw [writeL_length]; exact hi), writeL_at _ _ _ hi, num_ltr (there_lt _ _ _)]
  have e : kat 2 k (writeL 2 k t) i = kat 2 k t i := by unfold kat; rw [if_neg (by omega), if_neg (by omega)]
  have h1 := num_lt (ht.at hi)
  have h2 := kat_lt (kind := 2) hk ht h0 (i := i) (fun _ => by omega)
  have e2 : there 2 (there 2 (num (t.getD i 0)) (kat 2 k t i)) (kat 2 k t i) = num (t.getD i 0) := back_there 2 h1 h2
  rw [e, e2, ltr_num (ht.at hi)]

/-- The key between a text and what was told. -/
def kyL (kind : Nat) (t s : List UInt8) (m : Nat) : List UInt8 := (List.range m).map fun i => ltr (betw kind (num (t.getD i 0)) (num (s.getD i 0)))
theorem kyL_length (kind : Nat) (t s : List UInt8) (m : Nat) : (kyL kind t s m).length = m := by simp [kyL]
theorem kyL_succ (kind : Nat) (t s : List UInt8) (m : Nat) : kyL kind t s (m + 1) = kyL kind t s m ++ [ltr (betw kind (num (t.getD m 0)) (num (s.getD m 0)))] := by unfold kyL; rw [List.range_succ, List.map_append]; rfl
theorem kyL_at (kind : Nat) (t s : List UInt8) {m i : Nat} (hi : i < m) : (kyL kind t s m).getD i 0 = ltr (betw kind (num (t.getD i 0)) (num (s.getD i 0))) := getD_map hi
theorem kyL_ls (kind : Nat) (t s : List UInt8) (m : Nat) : Ls (kyL kind t s m) := by
  intro c hc
  obtain ⟨i, _, rfl⟩ := List.mem_map.1 hc
  exact ltr_ok (betw_lt _ _ _)
theorem key_write {kind : Nat} {k t : List UInt8} (hk : Ls k) (ht : Ls t) (hl : k.length ≤ t.length) : kyL kind t (writeL kind k t) k.length = k := by
  refine ext_getD (by rw [kyL_length]) fun i hi => ?_
  rw [kyL_length] at hi
  rw [kyL_at _ _ _ hi, writeL_at _ _ _ (by omega), num_ltr (there_lt _ _ _)]
  have e : kat kind k t i = num (k.getD i 0) := by unfold kat; rw [if_neg (by omega), Nat.mod_eq_of_lt hi]
  rw [betw_there kind (num_lt (ht.at (by omega))) (by rw [e]; exact num_lt (hk.at hi)), e, ltr_num (hk.at hi)]
/-- A key makes what was told just if all of it says so. -/
theorem made_iff {kind : Nat} {t s : List UInt8} {m : Nat} (h4 : kind ≠ 4) (ht : Ls t) (hs : Ls s) (hl : t.length = s.length) (h0 : 0 < m) :
    writeL kind (kyL kind t s m) t = s ↔ ∀ i, m ≤ i → i < t.length → (kyL kind t s m).getD (i % m) 0 = ltr (betw kind (num (t.getD i 0)) (num (s.getD i 0))) := by
  have hk := kyL_ls kind t s m
  have hkl := kyL_length kind t s m
  have hkat : ∀ i, kat kind (kyL kind t s m) t i = num ((kyL kind t s m).getD (i % m) 0) := fun i => by unfold kat; rw [if_neg (fun e => h4 e.1), hkl]
  have hmod : ∀ i, i % m < m := fun i => Nat.mod_lt _ h0
  constructor
  · intro e i _ hi
    have := writeL_at kind (kyL kind t s m) t hi
    rw [e] at this
    rw [this, hkat, num_ltr (there_lt _ _ _), betw_there kind (num_lt (ht.at hi)) (num_lt (hk.at (by rw [hkl]; exact hmod i))), ltr_num (hk.at (by rw [hkl]; exact hmod i))]
  · intro h
    refine ext_getD (by rw [writeL_length, hl]) fun i hi => ?_
    rw [writeL_length] at hi
    have e : (kyL kind t s m).getD (i % m) 0 = ltr (betw kind (num (t.getD i 0)) (num (s.getD i 0))) := by
      by_cases hc : m ≤ i
      · exact h i hc hi
      · rw [Nat.mod_eq_of_lt (by omega), kyL_at _ _ _ (by omega)]
    rw [writeL_at _ _ _ hi, hkat, e, num_ltr (betw_lt _ _ _), there_betw kind (num_lt (ht.at hi)) (num_lt (hs.at (by omega))), ltr_num (hs.at (by omega))]
/-- KASISKI, letter by letter. -/
theorem again {kind : Nat} {k t : List UInt8} (h4 : kind ≠ 4) {i j : Nat} (hi : i < t.length) (hj : j < t.length) (hm : i % k.length = j % k.length) (e : t.getD i 0 = t.getD j 0) : (writeL kind k t).getD i 0 = (writeL kind k t).getD j 0 := by
  rw [writeL_at _ _ _ hi, writeL_at _ _ _ hj, e]
  have : kat kind k t i = kat kind k t j := by unfold kat; rw [if_neg (fun e => h4 e.1), if_neg (fun e => h4 e.1), hm]
  rw [this]

/-- The first place from j on, among n, at which q stands. -/
def nx {α : Type} [DecidableEq α] (p : Nat → α) (q : α) : Nat → Nat → Option Nat
  | _, 0 => none
  | j, n + 1 => if p j = q then some j else nx p q (j + 1) n
theorem nx_some {α : Type} [DecidableEq α] {p : Nat → α} {q : α} : ∀ {n j k : Nat}, nx p q j n = some k → j ≤ k ∧ k < j + n ∧ p k = q ∧ ∀ i, j ≤ i → i < k → p i ≠ q
  | 0, _, _, h => by simp [nx] at h
  | n + 1, j, k, h => by
    unfold nx at h
    split at h
    · next e =>
      cases h
      exact ⟨Nat.le_refl _, by omega, e, fun i _ _ => by omega⟩
    · next e =>
      have := nx_some h
      exact ⟨by omega, by omega, this.2.2.1, fun i h1 h2 => by
        by_cases hij : i = j
        · rw [hij]; exact e
        · exact this.2.2.2 i (by omega) h2⟩
theorem nx_none {α : Type} [DecidableEq α] {p : Nat → α} {q : α} : ∀ {n j : Nat}, nx p q j n = none → ∀ i, j ≤ i → i < j + n → p i ≠ q
  | 0, _, _ => fun i _ _ => by omega
  | n + 1, j, h => by
    unfold nx at h
    split at h
    · cases h
    · next e =>
      intro i h1 h2
      by_cases hij : i = j
      · rw [hij]; exact e
      · exact nx_none h i (by omega) (by omega)
/-- Where what stands at k is looked for, it is found no later. -/
theorem nx_le {α : Type} [DecidableEq α] {p : Nat → α} {q : α} {n j k : Nat} (h1 : j ≤ k) (h2 : k < j + n) (e : p k = q) : ∃ m, nx p q j n = some m ∧ m ≤ k := by
  cases h : nx p q j n with
  | none => exact absurd e (nx_none h k h1 h2)
  | some m =>
    refine ⟨m, rfl, ?_⟩
    apply Classical.byContradiction
    intro hh
    exact (nx_some h).2.2.2 k h1 (by omega) e
def rep {α : Type} [DecidableEq α] (p : Nat → α) (N i : Nat) : List (Nat × Nat) := match nx p (p i) (i + 1) (N - (i + 1)) with | none => [] | some k => [(i, k - i)]
/-- All repeats from the place i on, and from the first one on. -/
def repsB {α : Type} [DecidableEq α] (p : Nat → α) (N : Nat) : Nat → List (Nat × Nat)
  | 0 => []
  | n + 1 => rep p N (N - (n + 1)) ++ repsB p N n
def repsF {α : Type} [DecidableEq α] (p : Nat → α) (N : Nat) : Nat → List (Nat × Nat)
  | 0 => []
  | n + 1 => repsF p N n ++ rep p N n
theorem repsF_eq {α : Type} [DecidableEq α] (p : Nat → α) (N : Nat) : ∀ n, n ≤ N → repsF p N (N - n) ++ repsB p N n = repsF p N N
  | 0, _ => by simp [repsB]
  | n + 1, h => by
    rw [← repsF_eq p N n (by omega)]
    show repsF p N (N - (n + 1)) ++ (rep p N (N - (n + 1)) ++ repsB p N n) = _
    rw [← List.append_assoc, show N - n = (N - (n + 1)) + 1 by omega]
    rfl
theorem reps_eq {α : Type} [DecidableEq α] (p : Nat → α) (N : Nat) : repsB p N N = repsF p N N := by
  have := repsF_eq p N N (Nat.le_refl _)
  rw [Nat.sub_self] at this
  exact this
theorem rep_length {α : Type} [DecidableEq α] (p : Nat → α) (N i : Nat) : (rep p N i).length ≤ 1 := by unfold rep; split <;> simp
theorem rep_rev {α : Type} [DecidableEq α] (p : Nat → α) (N i : Nat) : (rep p N i).reverse = rep p N i := by unfold rep; split <;> simp
theorem rep_last {α : Type} [DecidableEq α] (p : Nat → α) (N : Nat) : rep p (N + 1) N = [] := by
  unfold rep
  rw [Nat.sub_self]
  rfl
theorem repsF_length {α : Type} [DecidableEq α] (p : Nat → α) (N : Nat) : ∀ n, (repsF p N n).length ≤ n
  | 0 => by simp [repsF]
  | n + 1 => by have := repsF_length p N n; have := rep_length p N n; simp [repsF]; omega
theorem repsB_length {α : Type} [DecidableEq α] (p : Nat → α) (N : Nat) : ∀ n, (repsB p N n).length ≤ n
  | 0 => by simp [repsB]
  | n + 1 => by have := repsB_length p N n; have := rep_length p N (N - (n + 1)); simp [repsB]; omega
theorem mem_repsF {α : Type} [DecidableEq α] (p : Nat → α) (N : Nat) {i : Nat} {x : Nat × Nat} : ∀ n, i < n → x ∈ rep p N i → x ∈ repsF p N n
  | 0, h, _ => by omega
  | n + 1, h, hx => by
    by_cases e : i = n
    · subst e; exact List.mem_append.2 (.inr hx)
    · exact List.mem_append.2 (.inl (mem_repsF p N n (by omega) hx))
theorem found {α : Type} [DecidableEq α] {p : Nat → α} {N i k : Nat} (hik : i < k) (hk : k < N) (e : p k = p i) : ∃ m, m ≤ k ∧ i < m ∧ (i, m - i) ∈ repsF p N N := by
  obtain ⟨m, hm, hle⟩ := nx_le (p := p) (q := p i) (n := N - (i + 1)) (j := i + 1) (k := k) (by omega) (by omega) e
  refine ⟨m, hle, by have := (nx_some hm).1; omega, mem_repsF p N N (i := i) (by omega) ?_⟩
  unfold rep
  rw [hm]
  simp
theorem ba_loop (b : ByteArray) : ∀ (n i : Nat) (r : List UInt8), b.size - i = n → ByteArray.toList.loop b i r = r.reverse ++ b.data.toList.drop i
  | 0, i, r, h => by
    unfold ByteArray.toList.loop
    have h1 : b.data.size = b.size := rfl
    rw [if_neg (by omega), List.drop_eq_nil_of_le (by simp; omega)]
    simp
  | n + 1, i, r, h => by
    unfold ByteArray.toList.loop
    have h1 : b.data.size = b.size := rfl
    have h2 : i < b.data.toList.length := by simp; omega
    rw [if_pos (by omega), ba_loop b n (i + 1) _ (by omega), List.drop_eq_getElem_cons h2]
    have h3 : b.get! i = b.data.toList[i] := by
      show b.data[i]! = _
      rw [getElem!_pos b.data i (by simpa using h2)]
      simp
    simp [h3]
theorem ba_toList (b : ByteArray) : b.toList = b.data.toList := by
  unfold ByteArray.toList
  rw [ba_loop b _ 0 [] rfl]
  simp
/-- Strings that differ, as '==' has them. -/
theorem ba_ne {a b : ByteArray} (h : ¬ a = b) : (a.toList == b.toList) = false := by
  rw [ba_toList, ba_toList]
  exact beq_false_of_ne fun e => h (by cases a; cases b; simp at e; rw [e])
theorem ba_eq {a b : ByteArray} (h : a = b) : (a.toList == b.toList) = true := by rw [h]; simp
end Go.Proofs.Ythfjkhmedpilnaa.Vg

/-
  The machine with wheels: the mathematics.
-/
namespace Go.Proofs.Ythfjkhmedpilnaa.Om
open Pm Vg

/-- A machine: n wheels, what each makes of a letter, where it has notches, its ring, where it begins; reflector and plugs. -/
structure Ma where
  n : Nat
  wi : Nat → Nat → Nat
  no : Nat → List Nat
  ri : Nat → Nat
  st : Nat → Nat
  rf : Nat → Nat
  pl : Nat → Nat
/-- A machine with which nothing is wrong. -/
structure Ok (M : Ma) : Prop where
  pos : 1 ≤ M.n
  most : M.n ≤ 4
  wi : ∀ i, i < M.n → IsPerm (M.wi i)
  no : ∀ i, i < M.n → ∀ k, k ∈ M.no i → k < 26
  ri : ∀ i, i < M.n → M.ri i < 26
  st : ∀ i, i < M.n → M.st i < 26
  rf : IsPerm M.rf
  rf2 : ∀ c, c < 26 → M.rf (M.rf c) = c
  rf1 : ∀ c, c < 26 → M.rf c ≠ c
  pl : IsPerm M.pl
  pl2 : ∀ c, c < 26 → M.pl (M.pl c) = c
/-- Does this wheel turn? -/
def turns (M : Ma) (at' : Nat → Nat) (i : Nat) : Bool := i + 1 == M.n || (M.no (i + 1)).contains (at' (i + 1)) || (decide (0 < i) && (M.no i).contains (at' i))
/-- The windows behind a step. -/
def step (M : Ma) (at' : Nat → Nat) : Nat → Nat := fun i => if turns M at' i then (at' i + 1) % 26 else at' i
def steps (M : Ma) (at' : Nat → Nat) : Nat → Nat → Nat
  | 0 => at'
  | k + 1 => step M (steps M at' k)
def In26 (M : Ma) (at' : Nat → Nat) : Prop := ∀ i, i < M.n → at' i < 26
theorem In26.step {M : Ma} {at' : Nat → Nat} (h : In26 M at') : In26 M (step M at') := fun i hi => by
  unfold Om.step
  by_cases ht : turns M at' i
  · rw [if_pos ht]; exact Nat.mod_lt _ (by decide)
  · rw [if_neg ht]; exact h i hi
theorem In26.steps {M : Ma} {at' : Nat → Nat} (h : In26 M at') : ∀ k, In26 M (steps M at' k)
  | 0 => h
  | k + 1 => (In26.steps h k).step
theorem step_congr {M : Ma} {a b : Nat → Nat} (h : ∀ i, i < M.n → a i = b i) : ∀ i, i < M.n → step M a i = step M b i := fun i hi => by
  have e : turns M a i = turns M b i := by
    unfold turns
    by_cases h1 : i + 1 = M.n
    · simp [h1]
    · rw [h (i + 1) (by omega), h i hi]
  unfold step
  rw [e, h i hi]
/-- By how much a wheel is turned. -/
def by' (M : Ma) (at' : Nat → Nat) (i : Nat) : Nat := (at' i + 26 - M.ri i) % 26
theorem by_lt (M : Ma) (at' : Nat → Nat) (i : Nat) : by' M at' i < 26 := Nat.mod_lt _ (by decide)
/-- What a wheel makes of a letter. -/
def wheel (p : Nat → Nat) (b c : Nat) : Nat := (p ((c + b) % 26) + 26 - b) % 26
theorem turn_perm (b : Nat) : IsPerm fun c => (c + b) % 26 := ⟨fun _ _ => Nat.mod_lt _ (by decide), fun i j hi hj e => by
  have : (i + b) % 26 = (j + b) % 26 := e
  omega⟩
theorem back_turn {b : Nat} (hb : b < 26) : IsPerm fun c => (c + 26 - b) % 26 := ⟨fun _ _ => Nat.mod_lt _ (by decide), fun i j hi hj e => by
  have : (i + 26 - b) % 26 = (j + 26 - b) % 26 := e
  omega⟩
theorem wheel_perm {p : Nat → Nat} (hp : IsPerm p) {b : Nat} (hb : b < 26) : IsPerm (wheel p b) := ((turn_perm b).comp hp).comp (back_turn hb)
/-- Through the first k wheels from the last one on (no plugs). -/
def through (M : Ma) (at' : Nat → Nat) : Nat → Nat → Nat
  | 0, c => c
  | k + 1, c => wheel (M.wi (M.n - 1 - k)) (by' M at' (M.n - 1 - k)) (through M at' k c)
theorem through_perm {M : Ma} (h : Ok M) (at' : Nat → Nat) : ∀ k, k ≤ M.n → IsPerm (through M at' k)
  | 0, _ => IsPerm.id
  | k + 1, hk => (through_perm h at' k (by omega)).comp (wheel_perm (h.wi _ (by omega)) (by_lt _ _ _))
def there (M : Ma) (at' : Nat → Nat) (c : Nat) : Nat := through M at' M.n (M.pl c)
theorem there_perm {M : Ma} (h : Ok M) (at' : Nat → Nat) : IsPerm (there M at') := h.pl.comp (through_perm h at' M.n (Nat.le_refl _))
/-- What each letter would become. -/
def now (M : Ma) (at' : Nat → Nat) (c : Nat) : Nat := inv (there M at') (M.rf (there M at' c))
theorem now_perm {M : Ma} (h : Ok M) (at' : Nat → Nat) : IsPerm (now M at') := ((there_perm h at').comp h.rf).comp (there_perm h at').inv
/-- WHAT THE MACHINE DOES IT UNDOES. -/
theorem now_now {M : Ma} (h : Ok M) (at' : Nat → Nat) {c : Nat} (hc : c < 26) : now M at' (now M at' c) = c := by
  have hp := there_perm h at'
  have h1 := hp.1 c hc
  have h2 := h.rf.1 _ h1
  unfold now
  rw [(hp.inv_spec _ h2).2, h.rf2 _ h1, hp.inv_left c hc]
/-- NO LETTER STANDS FOR ITSELF. -/
theorem now_ne {M : Ma} (h : Ok M) (at' : Nat → Nat) {c : Nat} (hc : c < 26) : now M at' c ≠ c := by
  have hp := there_perm h at'
  have h1 := hp.1 c hc
  have h2 := h.rf.1 _ h1
  intro e
  have h3 := (hp.inv_spec _ h2).2
  have e2 : inv (there M at') (M.rf (there M at' c)) = c := e
  rw [e2] at h3
  exact h.rf1 _ h1 h3.symm
theorem inv_unique {p : Nat → Nat} (hp : IsPerm p) {i j : Nat} (hi : i < 26) (e : p i = j) : inv p j = i := by rw [← e]; exact hp.inv_left i hi
/-- PLUGS CHANGE NAMES ALONE. -/
def unplugged (M : Ma) : Ma := { M with pl := fun c => c }
theorem through_unplugged (M : Ma) (at' : Nat → Nat) : ∀ k c, through (unplugged M) at' k c = through M at' k c
  | 0, _ => rfl
  | k + 1, c => by
    show wheel (M.wi (M.n - 1 - k)) (by' (unplugged M) at' (M.n - 1 - k)) (through (unplugged M) at' k c) = wheel (M.wi (M.n - 1 - k)) (by' M at' (M.n - 1 - k)) (through M at' k c)
    rw [through_unplugged M at' k c]
    rfl
theorem ok_unplugged {M : Ma} (h : Ok M) : Ok (unplugged M) := ⟨h.pos, h.most, h.wi, h.no, h.ri, h.st, h.rf, h.rf2, h.rf1, IsPerm.id, fun _ _ => rfl⟩
theorem now_plugs {M : Ma} (h : Ok M) (at' : Nat → Nat) {c : Nat} (hc : c < 26) : now M at' c = M.pl (now (unplugged M) at' (M.pl c)) := by
  have hq := there_perm (ok_unplugged h) at'
  have hp := there_perm h at'
  have e1 : ∀ c, there (unplugged M) at' (M.pl c) = there M at' c := fun c => through_unplugged M at' M.n (M.pl c)
  have h1 := hp.1 c hc
  have h2 := h.rf.1 _ h1
  have h3 := hq.inv_spec _ h2
  unfold now
  rw [e1]
  show inv (there M at') (M.rf (there M at' c)) = M.pl (inv (there (unplugged M) at') (M.rf (there M at' c)))
  refine inv_unique hp (h.pl.1 _ h3.1) ?_
  rw [← e1, h.pl2 _ h3.1, h3.2]
theorem step_unplugged (M : Ma) (at' : Nat → Nat) : step (unplugged M) at' = step M at' := rfl
/-- Letters pressed one behind the other. -/
def wr (M : Ma) : (Nat → Nat) → List UInt8 → List UInt8
  | _, [] => []
  | at', c :: l => ltr (now M (step M at') (num c)) :: wr M (step M at') l
theorem wr_length (M : Ma) : ∀ (l : List UInt8) (at' : Nat → Nat), (wr M at' l).length = l.length
  | [], _ => rfl
  | _ :: l, at' => by show (wr M (step M at') l).length + 1 = l.length + 1; rw [wr_length M l]
theorem wr_ls {M : Ma} (h : Ok M) : ∀ {l : List UInt8} (at' : Nat → Nat), Ls l → Ls (wr M at' l)
  | [], _, _ => fun c hc => by cases hc
  | a :: l, at', hl => by
    intro c hc
    rcases List.mem_cons.1 hc with e | e
    · rw [e]; exact ltr_ok ((now_perm h _).1 _ (num_lt (hl a (by simp))))
    · exact wr_ls h (step M at') (fun c hc => hl c (List.mem_cons_of_mem _ hc)) c e
theorem wr_wr {M : Ma} (h : Ok M) : ∀ {l : List UInt8} (at' : Nat → Nat), Ls l → wr M at' (wr M at' l) = l
  | [], _, _ => rfl
  | a :: l, at', hl => by
    have ha := num_lt (hl a (by simp))
    show ltr (now M (step M at') (num (ltr (now M (step M at') (num a))))) :: wr M (step M at') (wr M (step M at') l) = a :: l
    rw [num_ltr ((now_perm h _).1 _ ha), now_now h _ ha, ltr_num (hl a (by simp)), wr_wr h (step M at') (fun c hc => hl c (List.mem_cons_of_mem _ hc))]
theorem wr_ne {M : Ma} (h : Ok M) : ∀ {l : List UInt8} (at' : Nat → Nat), Ls l → ∀ i, i < l.length → (wr M at' l).getD i 0 ≠ l.getD i 0
  | a :: l, at', hl, 0, _ => by
    have ha := num_lt (hl a (by simp))
    show ltr (now M (step M at') (num a)) ≠ a
    intro e
    have := congrArg num e
    rw [num_ltr ((now_perm h _).1 _ ha)] at this
    exact now_ne h _ ha this
  | a :: l, at', hl, i + 1, hi => by
    have := wr_ne h (step M at') (fun c hc => hl c (List.mem_cons_of_mem _ hc)) i (by simpa using hi)
    show (ltr (now M (step M at') (num a)) :: wr M (step M at') l).getD (i + 1) 0 ≠ (a :: l).getD (i + 1) 0
    rw [List.getD_cons_succ, List.getD_cons_succ]
    exact this
def plug (p : Nat → Nat) (l : List UInt8) : List UInt8 := l.map fun c => ltr (p (num c))
theorem plug_ls {p : Nat → Nat} (hp : IsPerm p) {l : List UInt8} (hl : Ls l) : Ls (plug p l) := fun c hc => by
  obtain ⟨a, ha, rfl⟩ := List.mem_map.1 hc
  exact ltr_ok (hp.1 _ (num_lt (hl a ha)))
theorem wr_plugs {M : Ma} (h : Ok M) : ∀ {l : List UInt8} (at' : Nat → Nat), Ls l → plug M.pl (wr (unplugged M) at' (plug M.pl l)) = wr M at' l
  | [], _, _ => rfl
  | a :: l, at', hl => by
    have ha := num_lt (hl a (by simp))
    have hq := (now_perm (ok_unplugged h) (step M at')).1 _ (h.pl.1 _ ha)
    show ltr (M.pl (num (ltr (now (unplugged M) (step M at') (num (ltr (M.pl (num a)))))))) :: plug M.pl (wr (unplugged M) (step M at') (plug M.pl l)) = ltr (now M (step M at') (num a)) :: wr M (step M at') l
    rw [wr_plugs h (step M at') (fun c hc => hl c (List.mem_cons_of_mem _ hc)), num_ltr (h.pl.1 _ ha), num_ltr hq, now_plugs h _ ha]
/-- THE WHEELS DON'T SEE THE TEXT. -/
theorem steps_step (M : Ma) : ∀ k (at' : Nat → Nat), steps M (step M at') k = steps M at' (k + 1)
  | 0, _ => rfl
  | k + 1, at' => by show step M (steps M (step M at') k) = _; rw [steps_step M k]; rfl
theorem wr_cut (M : Ma) : ∀ (l : List UInt8) (at' : Nat → Nat) (k : Nat), k ≤ l.length → wr M at' (l.take k) ++ wr M (steps M at' k) (l.drop k) = wr M at' l
  | _, _, 0, _ => by simp [wr, steps]
  | [], _, k + 1, h => by simp at h
  | a :: l, at', k + 1, h => by
    show ltr _ :: (wr M (step M at') (l.take k) ++ wr M (steps M at' (k + 1)) (l.drop k)) = ltr _ :: wr M (step M at') l
    rw [← steps_step, wr_cut M l (step M at') k (by simpa using h)]
theorem now_congr {M : Ma} {a b : Nat → Nat} (h : ∀ i, i < M.n → a i = b i) : now M a = now M b := by
  have e : ∀ k, k ≤ M.n → ∀ c, through M a k c = through M b k c := by
    intro k
    induction k with
    | zero => intro _ _; rfl
    | succ k ih =>
      intro hk c
      show wheel _ (by' M a _) _ = wheel _ (by' M b _) _
      rw [ih (by omega) c]
      unfold by'
      rw [h _ (by omega)]
  have e2 : there M a = there M b := funext fun c => e M.n (Nat.le_refl _) _
  unfold now
  rw [e2]
theorem wr_congr {M : Ma} : ∀ (l : List UInt8) {a b : Nat → Nat}, (∀ i, i < M.n → a i = b i) → wr M a l = wr M b l
  | [], _, _, _ => rfl
  | c :: l, a, b, h => by
    show ltr (now M (step M a) (num c)) :: wr M (step M a) l = ltr (now M (step M b) (num c)) :: wr M (step M b) l
    rw [now_congr (step_congr h), wr_congr l (step_congr h)]
/-- Wheels turned with their rings. -/
def moved (M : Ma) (b : Nat) : Ma := { M with no := fun i => (M.no i).map fun k => (k + b) % 26, ri := fun i => (M.ri i + b) % 26, st := fun i => (M.st i + b) % 26 }
def mv (b : Nat) (at' : Nat → Nat) : Nat → Nat := fun i => (at' i + b) % 26
theorem contains_moved {l : List Nat} (h : ∀ k, k ∈ l → k < 26) {a : Nat} (ha : a < 26) (b : Nat) : (l.map fun k => (k + b) % 26).contains ((a + b) % 26) = l.contains a := by
  rw [Bool.eq_iff_iff]
  simp only [List.contains_iff_mem, List.mem_map]
  constructor
  · rintro ⟨k, hk, e⟩
    have := h k hk
    have : k = a := by omega
    rw [← this]; exact hk
  · intro hk; exact ⟨a, hk, rfl⟩
theorem ok_moved {M : Ma} (h : Ok M) (b : Nat) : Ok (moved M b) := ⟨h.pos, h.most, h.wi, fun i hi k hk => by
    obtain ⟨q, _, rfl⟩ := List.mem_map.1 hk
    exact Nat.mod_lt _ (by decide), fun i _ => Nat.mod_lt _ (by decide), fun i _ => Nat.mod_lt _ (by decide), h.rf, h.rf2, h.rf1, h.pl, h.pl2⟩
theorem step_moved {M : Ma} (h : Ok M) {at' : Nat → Nat} (ha : In26 M at') (b : Nat) : ∀ i, i < M.n → step (moved M b) (mv b at') i = mv b (step M at') i := fun i hi => by
  have e : turns (moved M b) (mv b at') i = turns M at' i := by
    unfold turns
    show (i + 1 == M.n || ((M.no (i + 1)).map fun k => (k + b) % 26).contains ((at' (i + 1) + b) % 26) || (decide (0 < i) && ((M.no i).map fun k => (k + b) % 26).contains ((at' i + b) % 26))) = _
    by_cases h1 : i + 1 = M.n
    · simp [h1]
    · rw [contains_moved (h.no _ (by omega)) (ha _ (by omega)), contains_moved (h.no _ hi) (ha _ hi)]
  show (if turns (moved M b) (mv b at') i then ((at' i + b) % 26 + 1) % 26 else (at' i + b) % 26) = ((if turns M at' i then (at' i + 1) % 26 else at' i) + b) % 26
  rw [e]
  by_cases ht : turns M at' i
  · rw [if_pos ht, if_pos ht]; omega
  · rw [if_neg ht, if_neg ht]
theorem by_moved {M : Ma} (h : Ok M) {at' : Nat → Nat} (ha : In26 M at') (b : Nat) {i : Nat} (hi : i < M.n) : by' (moved M b) (mv b at') i = by' M at' i := by
  have h1 := ha i hi
  have h2 := h.ri i hi
  show ((at' i + b) % 26 + 26 - (M.ri i + b) % 26) % 26 = (at' i + 26 - M.ri i) % 26
  omega
theorem now_moved {M : Ma} (h : Ok M) {at' : Nat → Nat} (ha : In26 M at') (b : Nat) : now (moved M b) (mv b at') = now M at' := by
  have e : ∀ k, k ≤ M.n → ∀ c, through (moved M b) (mv b at') k c = through M at' k c := by
    intro k
    induction k with
    | zero => intro _ _; rfl
    | succ k ih =>
      intro hk c
      show wheel (M.wi (M.n - 1 - k)) (by' (moved M b) (mv b at') (M.n - 1 - k)) _ = wheel (M.wi (M.n - 1 - k)) (by' M at' (M.n - 1 - k)) _
      rw [ih (by omega) c, by_moved h ha b (by omega)]
  have e2 : there (moved M b) (mv b at') = there M at' := funext fun c => e M.n (Nat.le_refl _) _
  unfold now
  rw [e2]
  rfl
theorem wr_moved {M : Ma} (h : Ok M) (b : Nat) : ∀ (l : List UInt8) {at' : Nat → Nat}, In26 M at' → wr (moved M b) (mv b at') l = wr M at' l
  | [], _, _ => rfl
  | c :: l, at', ha => by
    show ltr (now (moved M b) (step (moved M b) (mv b at')) (num c)) :: wr (moved M b) (step (moved M b) (mv b at')) l = ltr (now M (step M at') (num c)) :: wr M (step M at') l
    have e := step_moved h ha b
    rw [now_congr (M := moved M b) (b := mv b (step M at')) e, now_moved h ha.step b, wr_congr (M := moved M b) (b := mv b (step M at')) l e, wr_moved h b l ha.step]
end Go.Proofs.Ythfjkhmedpilnaa.Om
