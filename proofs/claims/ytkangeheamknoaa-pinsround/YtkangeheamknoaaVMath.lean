/-
  Keys added to letters: the mathematics.
-/
import Derived.Test.YtkangeheamknoaaUCheck
namespace Go.Proofs.Ytkangeheamknoaa.Vg

def there (kind a b : Nat) : Nat := if kind = 2 then (b + 26 - a) % 26 else if kind = 3 then (a + 26 - b) % 26 else (a + b) % 26
def back (kind c b : Nat) : Nat := if kind = 2 then (b + 26 - c) % 26 else if kind = 3 then (c + b) % 26 else (c + 26 - b) % 26
def betw (kind a c : Nat) : Nat := if kind = 2 then (a + c) % 26 else if kind = 3 then (a + 26 - c) % 26 else (c + 26 - a) % 26
theorem there_lt (kind a b : Nat) : there kind a b < 26 := by unfold there; split <;> (try split) <;> omega
theorem back_lt (kind a b : Nat) : back kind a b < 26 := by unfold back; split <;> (try split) <;> omega
theorem betw_lt (kind a b : Nat) : betw kind a b < 26 := by unfold betw; split <;> (try split) <;> omega
theorem back_there (kind : Nat) {a b : Nat} (ha : a < 26) (hb : b < 26) : back kind (there kind a b) b = a := by unfold back there; split <;> (try split) <;> omega
theorem there_back (kind : Nat) {c b : Nat} (hc : c < 26) (hb : b < 26) : there kind (back kind c b) b = c := by unfold back there; split <;> (try split) <;> omega
theorem betw_there (kind : Nat) {a b : Nat} (ha : a < 26) (hb : b < 26) : betw kind a (there kind a b) = b := by unfold betw there; split <;> (try split) <;> omega
theorem there_betw (kind : Nat) {a c : Nat} (ha : a < 26) (hc : c < 26) : there kind a (betw kind a c) = c := by unfold betw there; split <;> (try split) <;> omega

def num (c : UInt8) : Nat := c.toNat - 65
def ltr (n : Nat) : UInt8 := UInt8.ofNat (65 + n)
theorem num_ltr {n : Nat} (h : n < 26) : num (ltr n) = n := by unfold num ltr; rw [UInt8.toNat_ofNat']; omega
theorem ltr_num {c : UInt8} (h : 65 ≤ c.toNat ∧ c.toNat ≤ 90) : ltr (num c) = c := by
  unfold num ltr
  apply UInt8.toNat_inj.1
  rw [UInt8.toNat_ofNat']; omega
theorem num_lt {c : UInt8} (h : 65 ≤ c.toNat ∧ c.toNat ≤ 90) : num c < 26 := by unfold num; omega
theorem ltr_toNat {n : Nat} (h : n < 26) : (ltr n).toNat = 65 + n := by unfold ltr; rw [UInt8.toNat_ofNat']; omega
theorem ltr_ok {n : Nat} (h : n < 26) : 65 ≤ (ltr n).toNat ∧ (ltr n).toNat ≤ 90 := by rw [ltr_toNat h]; omega

/-- Letters alone. -/
def Ls (l : List UInt8) : Prop := ∀ c ∈ l, 65 ≤ c.toNat ∧ c.toNat ≤ 90
theorem Ls.at {l : List UInt8} (h : Ls l) {i : Nat} (hi : i < l.length) : 65 ≤ (l.getD i 0).toNat ∧ (l.getD i 0).toNat ≤ 90 := by
  rw [List.getD_eq_getElem?_getD, List.getElem?_eq_getElem hi]
  exact h _ (List.getElem_mem hi)
theorem getD_some {l : List UInt8} {i : Nat} (hi : i < l.length) : l.getD i 0 = l[i] := by rw [List.getD_eq_getElem?_getD, List.getElem?_eq_getElem hi]; rfl
theorem ext_getD {a b : List UInt8} (hl : a.length = b.length) (h : ∀ i, i < a.length → a.getD i 0 = b.getD i 0) : a = b :=
  List.ext_getElem hl fun i h1 h2 => by rw [← getD_some h1, ← getD_some h2]; exact h i h1
theorem getD_map {f : Nat → UInt8} {n i : Nat} (hi : i < n) : ((List.range n).map f).getD i 0 = f i := by
  rw [getD_some (by simpa using hi)]; simp

/-- The key's letter for the place i; p: what is known of the text. -/
def kat (kind : Nat) (k p : List UInt8) (i : Nat) : Nat := if kind = 4 ∧ k.length ≤ i then num (p.getD (i - k.length) 0) else num (k.getD (i % k.length) 0)
theorem kat_lt {kind : Nat} {k p : List UInt8} {i : Nat} (hk : Ls k) (hp : Ls p) (h0 : 0 < k.length) (hi : k.length ≤ i → i - k.length < p.length) : kat kind k p i < 26 := by
  unfold kat
  split
  · next h => exact num_lt (hp.at (hi h.2))
  · exact num_lt (hk.at (Nat.mod_lt _ h0))
def wrL (kind : Nat) (k t : List UInt8) (m : Nat) : List UInt8 := (List.range m).map fun i => ltr (there kind (num (t.getD i 0)) (kat kind k t i))
def writeL (kind : Nat) (k t : List UInt8) : List UInt8 := wrL kind k t t.length
theorem wrL_length (kind : Nat) (k t : List UInt8) (m : Nat) : (wrL kind k t m).length = m := by simp [wrL]
theorem writeL_length (kind : Nat) (k t : List UInt8) : (writeL kind k t).length = t.length := wrL_length _ _ _ _
theorem wrL_succ (kind : Nat) (k t : List UInt8) (m : Nat) : wrL kind k t (m + 1) = wrL kind k t m ++ [ltr (there kind (num (t.getD m 0)) (kat kind k t m))] := by unfold wrL; rw [List.range_succ, List.map_append]; rfl
theorem writeL_at (kind : Nat) (k t : List UInt8) {i : Nat} (hi : i < t.length) : (writeL kind k t).getD i 0 = ltr (there kind (num (t.getD i 0)) (kat kind k t i)) := getD_map hi
theorem writeL_ls (kind : Nat) (k t : List UInt8) : Ls (writeL kind k t) := by
  intro c hc
  obtain ⟨i, _, rfl⟩ := List.mem_map.1 hc
  exact ltr_ok (there_lt _ _ _)
def rdTo (kind : Nat) (k t : List UInt8) : Nat → List UInt8
  | 0 => []
  | i + 1 => rdTo kind k t i ++ [ltr (back kind (num (t.getD i 0)) (kat kind k (rdTo kind k t i) i))]
def readL (kind : Nat) (k t : List UInt8) : List UInt8 := rdTo kind k t t.length
theorem rdTo_length (kind : Nat) (k t : List UInt8) : ∀ m, (rdTo kind k t m).length = m
  | 0 => rfl
  | m + 1 => by simp [rdTo, rdTo_length kind k t m]
theorem rdTo_ls (kind : Nat) (k t : List UInt8) : ∀ m, Ls (rdTo kind k t m)
  | 0 => fun c hc => by simp [rdTo] at hc
  | m + 1 => fun c hc => by
    rcases List.mem_append.1 (show c ∈ rdTo kind k t m ++ _ from hc) with h | h
    · exact rdTo_ls kind k t m c h
    · simp only [List.mem_singleton] at h
      rw [h]; exact ltr_ok (back_lt _ _ _)
theorem readL_length (kind : Nat) (k t : List UInt8) : (readL kind k t).length = t.length := rdTo_length _ _ _ _
theorem readL_ls (kind : Nat) (k t : List UInt8) : Ls (readL kind k t) := rdTo_ls _ _ _ _
theorem kat_congr {kind : Nat} {k p q : List UInt8} {i : Nat} (h : k.length ≤ i → p.getD (i - k.length) 0 = q.getD (i - k.length) 0) : kat kind k p i = kat kind k q i := by
  unfold kat
  split
  · next e => rw [h e.2]
  · rfl
theorem rd_wr {kind : Nat} {k t : List UInt8} (hk : Ls k) (ht : Ls t) (h0 : 0 < k.length) : ∀ m, m ≤ t.length → rdTo kind k (writeL kind k t) m = t.take m
  | 0, _ => by simp [rdTo]
  | m + 1, hm => by
    show rdTo kind k (writeL kind k t) m ++ _ = _
    rw [rd_wr hk ht h0 m (by omega), writeL_at kind k t (by omega), num_ltr (there_lt _ _ _)]
    have ek : kat kind k (t.take m) m = kat kind k t m := kat_congr fun e => by simp only [List.getD_eq_getElem?_getD]; rw [List.getElem?_take_of_lt (by omega)]
    rw [ek]
    rw [back_there kind (num_lt (ht.at (by omega))) (kat_lt hk ht h0 (fun _ => by omega)), ltr_num (ht.at (by omega))]
    rw [getD_some (by omega), List.take_succ_eq_append_getElem (by omega)]
theorem read_write {kind : Nat} {k t : List UInt8} (hk : Ls k) (ht : Ls t) (h0 : 0 < k.length) : readL kind k (writeL kind k t) = t := by
  unfold readL
  rw [writeL_length, rd_wr hk ht h0 _ (Nat.le_refl _), List.take_length]
theorem beaufort {k t : List UInt8} (hk : Ls k) (ht : Ls t) (h0 : 0 < k.length) : writeL 2 k (writeL 2 k t) = t := by
  refine ext_getD (by rw [writeL_length, writeL_length]) fun i hi => ?_
  rw [writeL_length, writeL_length] at hi
  rw [writeL_at _ _ _ (by rw [writeL_length]; exact hi), writeL_at _ _ _ hi, num_ltr (there_lt _ _ _)]
  have e : kat 2 k (writeL 2 k t) i = kat 2 k t i := by unfold kat; rw [if_neg (by omega), if_neg (by omega)]
  have h1 := num_lt (ht.at hi)
  have h2 := kat_lt (kind := 2) hk ht h0 (i := i) (fun _ => by omega)
  have e2 : there 2 (there 2 (num (t.getD i 0)) (kat 2 k t i)) (kat 2 k t i) = num (t.getD i 0) := back_there 2 h1 h2
  rw [e, e2, ltr_num (ht.at hi)]

/-- The key between a text and what was told. -/
def kyL (kind : Nat) (t s : List UInt8) (m : Nat) : List UInt8 := (List.range m).map fun i => ltr (betw kind (num (t.getD i 0)) (num (s.getD i 0)))
theorem kyL_length (kind : Nat) (t s : List UInt8) (m : Nat) : (kyL kind t s m).length = m := by simp [kyL]
theorem kyL_succ (kind : Nat) (t s : List UInt8) (m : Nat) : kyL kind t s (m + 1) = kyL kind t s m ++ [ltr (betw kind (num (t.getD m 0)) (num (s.getD m 0)))] := by unfold kyL; rw [List.range_succ, List.map_append]; rfl
theorem kyL_at (kind : Nat) (t s : List UInt8) {m i : Nat} (hi : i < m) : (kyL kind t s m).getD i 0 = ltr (betw kind (num (t.getD i 0)) (num (s.getD i 0))) := getD_map hi
theorem kyL_ls (kind : Nat) (t s : List UInt8) (m : Nat) : Ls (kyL kind t s m) := by
  intro c hc
  obtain ⟨i, _, rfl⟩ := List.mem_map.1 hc
  exact ltr_ok (betw_lt _ _ _)
theorem key_write {kind : Nat} {k t : List UInt8} (hk : Ls k) (ht : Ls t) (hl : k.length ≤ t.length) : kyL kind t (writeL kind k t) k.length = k := by
  refine ext_getD (by rw [kyL_length]) fun i hi => ?_
  rw [kyL_length] at hi
  rw [kyL_at _ _ _ hi, writeL_at _ _ _ (by omega), num_ltr (there_lt _ _ _)]
  have e : kat kind k t i = num (k.getD i 0) := by unfold kat; rw [if_neg (by omega), Nat.mod_eq_of_lt hi]
  rw [betw_there kind (num_lt (ht.at (by omega))) (by rw [e]; exact num_lt (hk.at hi)), e, ltr_num (hk.at hi)]
/-- A key makes what was told just if all of it says so. -/
theorem made_iff {kind : Nat} {t s : List UInt8} {m : Nat} (h4 : kind ≠ 4) (ht : Ls t) (hs : Ls s) (hl : t.length = s.length) (h0 : 0 < m) :
    writeL kind (kyL kind t s m) t = s ↔ ∀ i, m ≤ i → i < t.length → (kyL kind t s m).getD (i % m) 0 = ltr (betw kind (num (t.getD i 0)) (num (s.getD i 0))) := by
  have hk := kyL_ls kind t s m
  have hkl := kyL_length kind t s m
  have hkat : ∀ i, kat kind (kyL kind t s m) t i = num ((kyL kind t s m).getD (i % m) 0) := fun i => by unfold kat; rw [if_neg (fun e => h4 e.1), hkl]
  have hmod : ∀ i, i % m < m := fun i => Nat.mod_lt _ h0
  constructor
  · intro e i _ hi
    have := writeL_at kind (kyL kind t s m) t hi
    rw [e] at this
    rw [this, hkat, num_ltr (there_lt _ _ _), betw_there kind (num_lt (ht.at hi)) (num_lt (hk.at (by rw [hkl]; exact hmod i))), ltr_num (hk.at (by rw [hkl]; exact hmod i))]
  · intro h
    refine ext_getD (by rw [writeL_length, hl]) fun i hi => ?_
    rw [writeL_length] at hi
    have e : (kyL kind t s m).getD (i % m) 0 = ltr (betw kind (num (t.getD i 0)) (num (s.getD i 0))) := by
      by_cases hc : m ≤ i
      · exact h i hc hi
      · rw [Nat.mod_eq_of_lt (by omega), kyL_at _ _ _ (by omega)]
    rw [writeL_at _ _ _ hi, hkat, e, num_ltr (betw_lt _ _ _), there_betw kind (num_lt (ht.at hi)) (num_lt (hs.at (by omega))), ltr_num (hs.at (by omega))]
/-- KASISKI, letter by letter. -/
theorem again {kind : Nat} {k t : List UInt8} (h4 : kind ≠ 4) {i j : Nat} (hi : i < t.length) (hj : j < t.length) (hm : i % k.length = j % k.length) (e : t.getD i 0 = t.getD j 0) : (writeL kind k t).getD i 0 = (writeL kind k t).getD j 0 := by
  rw [writeL_at _ _ _ hi, writeL_at _ _ _ hj, e]
  have : kat kind k t i = kat kind k t j := by unfold kat; rw [if_neg (fun e => h4 e.1), if_neg (fun e => h4 e.1), hm]
  rw [this]

/-- The first place from j on, among n, at which q stands. -/
def nx {α : Type} [DecidableEq α] (p : Nat → α) (q : α) : Nat → Nat → Option Nat
  | _, 0 => none
  | j, n + 1 => if p j = q then some j else nx p q (j + 1) n
theorem nx_some {α : Type} [DecidableEq α] {p : Nat → α} {q : α} : ∀ {n j k : Nat}, nx p q j n = some k → j ≤ k ∧ k < j + n ∧ p k = q ∧ ∀ i, j ≤ i → i < k → p i ≠ q
  | 0, _, _, h => by simp [nx] at h
  | n + 1, j, k, h => by
    unfold nx at h
    split at h
    · next e =>
      cases h
      exact ⟨Nat.le_refl _, by omega, e, fun i _ _ => by omega⟩
    · next e =>
      have := nx_some h
      exact ⟨by omega, by omega, this.2.2.1, fun i h1 h2 => by
        by_cases hij : i = j
        · rw [hij]; exact e
        · exact this.2.2.2 i (by omega) h2⟩
theorem nx_none {α : Type} [DecidableEq α] {p : Nat → α} {q : α} : ∀ {n j : Nat}, nx p q j n = none → ∀ i, j ≤ i → i < j + n → p i ≠ q
  | 0, _, _ => fun i _ _ => by omega
  | n + 1, j, h => by
    unfold nx at h
    split at h
    · cases h
    · next e =>
      intro i h1 h2
      by_cases hij : i = j
      · rw [hij]; exact e
      · exact nx_none h i (by omega) (by omega)
/-- Where what stands at k is looked for, it is found no later. -/
theorem nx_le {α : Type} [DecidableEq α] {p : Nat → α} {q : α} {n j k : Nat} (h1 : j ≤ k) (h2 : k < j + n) (e : p k = q) : ∃ m, nx p q j n = some m ∧ m ≤ k := by
  cases h : nx p q j n with
  | none => exact absurd e (nx_none h k h1 h2)
  | some m =>
    refine ⟨m, rfl, ?_⟩
    apply Classical.byContradiction
    intro hh
    exact (nx_some h).2.2.2 k h1 (by omega) e
def rep {α : Type} [DecidableEq α] (p : Nat → α) (N i : Nat) : List (Nat × Nat) := match nx p (p i) (i + 1) (N - (i + 1)) with | none => [] | some k => [(i, k - i)]
/-- All repeats from the place i on, and from the first one on. -/
def repsB {α : Type} [DecidableEq α] (p : Nat → α) (N : Nat) : Nat → List (Nat × Nat)
  | 0 => []
  | n + 1 => rep p N (N - (n + 1)) ++ repsB p N n
def repsF {α : Type} [DecidableEq α] (p : Nat → α) (N : Nat) : Nat → List (Nat × Nat)
  | 0 => []
  | n + 1 => repsF p N n ++ rep p N n
theorem repsF_eq {α : Type} [DecidableEq α] (p : Nat → α) (N : Nat) : ∀ n, n ≤ N → repsF p N (N - n) ++ repsB p N n = repsF p N N
  | 0, _ => by simp [repsB]
  | n + 1, h => by
    rw [← repsF_eq p N n (by omega)]
    show repsF p N (N - (n + 1)) ++ (rep p N (N - (n + 1)) ++ repsB p N n) = _
    rw [← List.append_assoc, show N - n = (N - (n + 1)) + 1 by omega]
    rfl
theorem reps_eq {α : Type} [DecidableEq α] (p : Nat → α) (N : Nat) : repsB p N N = repsF p N N := by
  have := repsF_eq p N N (Nat.le_refl _)
  rw [Nat.sub_self] at this
  exact this
theorem rep_length {α : Type} [DecidableEq α] (p : Nat → α) (N i : Nat) : (rep p N i).length ≤ 1 := by unfold rep; split <;> simp
theorem rep_rev {α : Type} [DecidableEq α] (p : Nat → α) (N i : Nat) : (rep p N i).reverse = rep p N i := by unfold rep; split <;> simp
theorem rep_last {α : Type} [DecidableEq α] (p : Nat → α) (N : Nat) : rep p (N + 1) N = [] := by
  unfold rep
  rw [Nat.sub_self]
  rfl
theorem repsF_length {α : Type} [DecidableEq α] (p : Nat → α) (N : Nat) : ∀ n, (repsF p N n).length ≤ n
  | 0 => by simp [repsF]
  | n + 1 => by have := repsF_length p N n; have := rep_length p N n; simp [repsF]; omega
theorem repsB_length {α : Type} [DecidableEq α] (p : Nat → α) (N : Nat) : ∀ n, (repsB p N n).length ≤ n
  | 0 => by simp [repsB]
  | n + 1 => by have := repsB_length p N n; have := rep_length p N (N - (n + 1)); simp [repsB]; omega
theorem mem_repsF {α : Type} [DecidableEq α] (p : Nat → α) (N : Nat) {i : Nat} {x : Nat × Nat} : ∀ n, i < n → x ∈ rep p N i → x ∈ repsF p N n
  | 0, h, _ => by omega
  | n + 1, h, hx => by
    by_cases e : i = n
    · subst e; exact List.mem_append.2 (.inr hx)
    · exact List.mem_append.2 (.inl (mem_repsF p N n (by omega) hx))
theorem found {α : Type} [DecidableEq α] {p : Nat → α} {N i k : Nat} (hik : i < k) (hk : k < N) (e : p k = p i) : ∃ m, m ≤ k ∧ i < m ∧ (i, m - i) ∈ repsF p N N := by
  obtain ⟨m, hm, hle⟩ := nx_le (p := p) (q := p i) (n := N - (i + 1)) (j := i + 1) (k := k) (by omega) (by omega) e
  refine ⟨m, hle, by have := (nx_some hm).1; omega, mem_repsF p N N (i := i) (by omega) ?_⟩
  unfold rep
  rw [hm]
  simp
theorem ba_loop (b : ByteArray) : ∀ (n i : Nat) (r : List UInt8), b.size - i = n → ByteArray.toList.loop b i r = r.reverse ++ b.data.toList.drop i
  | 0, i, r, h => by
    unfold ByteArray.toList.loop
    have h1 : b.data.size = b.size := rfl
    rw [if_neg (by omega), List.drop_eq_nil_of_le (by simp; omega)]
    simp
  | n + 1, i, r, h => by
    unfold ByteArray.toList.loop
    have h1 : b.data.size = b.size := rfl
    have h2 : i < b.data.toList.length := by simp; omega
    rw [if_pos (by omega), ba_loop b n (i + 1) _ (by omega), List.drop_eq_getElem_cons h2]
    have h3 : b.get! i = b.data.toList[i] := by
      show b.data[i]! = _
      rw [getElem!_pos b.data i (by simpa using h2)]
      simp
    simp [h3]
theorem ba_toList (b : ByteArray) : b.toList = b.data.toList := by
  unfold ByteArray.toList
  rw [ba_loop b _ 0 [] rfl]
  simp
/-- Strings that differ, as '==' has them. -/
theorem ba_ne {a b : ByteArray} (h : ¬ a = b) : (a.toList == b.toList) = false := by
  rw [ba_toList, ba_toList]
  exact beq_false_of_ne fun e => h (by cases a; cases b; simp at e; rw [e])
theorem ba_eq {a b : ByteArray} (h : a = b) : (a.toList == b.toList) = true := by rw [h]; simp
end Go.Proofs.Ytkangeheamknoaa.Vg
