/-
  Plain mathematics: Rejewski's theorem: the cycles of two pairings, one behind the other, come in pairs.
-/
import Derived.Test.YtigamiehnjipcaaJn10
import Derived.Test.YtigamiehnjipcaaOMath
namespace Go.Proofs.Ytigamiehnjipcaa
open Go.RowKit PK

theorem iter_congr {p q : Nat → Nat} (hp : Pm.IsPerm p) (h : ∀ i, i < 26 → p i = q i) (i : Nat) (hi : i < 26) : ∀ k, Pm.iter p k i = Pm.iter q k i
  | 0 => rfl
  | k + 1 => by
    show p (Pm.iter p k i) = q (Pm.iter q k i)
    rw [h _ (Pm.iter_lt hp i hi k), iter_congr hp h i hi k]
theorem len_congr {p q : Nat → Nat} (hp : Pm.IsPerm p) (h : ∀ i, i < 26 → p i = q i) (i : Nat) (hi : i < 26) : Pm.len p i = Pm.len q i := by
  unfold Pm.len
  rw [show (fun n => decide (0 < n) && Pm.iter p n i == i) = (fun n => decide (0 < n) && Pm.iter q n i == i) from funext fun n => by rw [iter_congr hp h i hi n]]
theorem type_congr {p q : Nat → Nat} (hp : Pm.IsPerm p) (hq : Pm.IsPerm q) (h : ∀ i, i < 26 → p i = q i) : typeOf p = typeOf q := by
  unfold typeOf
  refine tyDown_congr _ _ (fun n h0 _ => ?_) 26 (Nat.le_refl _)
  have h1 := inAll_cnt hp n
  have h2 := inAll_cnt hq n
  have h3 : inAll p n = inAll q n := by
    unfold inAll
    rw [List.filter_congr fun i hi => by rw [len_congr hp h i (by simpa using hi)]]
  rw [h3, h2] at h1
  exact (Nat.eq_of_mul_eq_mul_left h0 h1).symm
theorem type_len (p : Nat → Nat) : (typeOf p).length ≤ 1000000 := by
  have := tyDown_len (cnt (Pm.cycs p 26)) (fun n => Nat.le_trans (cnt_le _ n) (Pm.cycs_len p 26)) 26
  unfold typeOf
  omega

namespace Rj
/-- A pairing without a fixed letter. -/
structure Pairing (p : Nat → Nat) : Prop where
  perm : Pm.IsPerm p
  two : ∀ i, i < 26 → p (p i) = i
  ne : ∀ i, i < 26 → p i ≠ i
section
variable {p q : Nat → Nat}
theorem iter_one (r : Nat → Nat) (k x : Nat) : Pm.iter r (k + 1) x = Pm.iter r k (r x) := Pm.iter_add r x k 1
/-- The one pairing turns the way round. -/
theorem back (hp : Pairing p) (hq : Pairing q) {x : Nat} (hx : x < 26) : ∀ k, Pm.iter (fun i => q (p i)) k (p (Pm.iter (fun i => q (p i)) k x)) = p x
  | 0 => rfl
  | k + 1 => by
    have hr := hp.perm.comp hq.perm
    have hy := Pm.iter_lt hr x hx k
    rw [iter_one]
    have e : q (p (p (q (p (Pm.iter (fun i => q (p i)) k x))))) = p (Pm.iter (fun i => q (p i)) k x) := by
      rw [hp.two _ (hq.perm.lt _ (hp.perm.lt _ hy)), hq.two _ (hp.perm.lt _ hy)]
    show Pm.iter (fun i => q (p i)) k (q (p (p (q (p (Pm.iter (fun i => q (p i)) k x)))))) = p x
    rw [e]
    exact back hp hq hx k
/-- No cycle is its own mirror. -/
theorem apart (hp : Pairing p) (hq : Pairing q) {x : Nat} (hx : x < 26) (m : Nat) : Pm.iter (fun i => q (p i)) m x ≠ p x := fun e => by
  have hr := hp.perm.comp hq.perm
  rcases Nat.mod_two_eq_zero_or_one m with h | h
  · obtain ⟨j, rfl⟩ : ∃ j, m = j + j := ⟨m / 2, by omega⟩
    have hy := Pm.iter_lt hr x hx j
    have h1 := back hp hq hx j
    rw [← e, Pm.iter_add] at h1
    exact hp.ne _ hy (Pm.iter_inj hr _ _ (hp.perm.lt _ hy) hy j h1)
  · obtain ⟨j, rfl⟩ : ∃ j, m = j + (j + 1) := ⟨m / 2, by omega⟩
    have hz := Pm.iter_lt hr x hx (j + 1)
    have h1 := back hp hq hx (j + 1)
    rw [← e] at h1
    have h1' : Pm.iter (fun i => q (p i)) j ((fun i => q (p i)) (p (Pm.iter (fun i => q (p i)) (j + 1) x))) = Pm.iter (fun i => q (p i)) j (Pm.iter (fun i => q (p i)) (j + 1) x) := by
      rw [← iter_one, ← Pm.iter_add]
      exact h1
    have h2 := Pm.iter_inj hr _ _ (hr.lt _ (hp.perm.lt _ hz)) hz j h1'
    have h3 : q (p (p (Pm.iter (fun i => q (p i)) (j + 1) x))) = Pm.iter (fun i => q (p i)) (j + 1) x := h2
    rw [hp.two _ hz] at h3
    exact hq.ne _ hz h3
/-- The mirror is as long. -/
theorem len_mirror (hp : Pairing p) (hq : Pairing q) {x : Nat} (hx : x < 26) : Pm.len (fun i => q (p i)) (p x) = Pm.len (fun i => q (p i)) x := by
  have hr := hp.perm.comp hq.perm
  have h1 := Pm.len_is hr x hx
  have h2 := Pm.len_is hr (p x) (hp.perm.lt x hx)
  refine h2.uniq ⟨h1.pos, h1.le, ?_, fun j a b e => ?_⟩
  · have := back hp hq hx (Pm.len (fun i => q (p i)) x)
    rw [h1.ret] at this
    exact this
  · have := back hp hq (hp.perm.lt x hx) j
    rw [e, hp.two x hx] at this
    exact h1.min j a b this
/-- The first letter of a letter's cycle. -/
def hd (r : Nat → Nat) (x : Nat) : Nat := ((List.range 26).find? fun h => (Pm.cyc r h).contains x).getD 0
theorem hd_spec {r : Nat → Nat} (hr : Pm.IsPerm r) {x : Nat} (hx : x < 26) : hd r x < 26 ∧ x ∈ Pm.cyc r (hd r x) ∧ Pm.met r (hd r x) (hd r x) = false := by
  unfold hd
  cases h : (List.range 26).find? fun h => (Pm.cyc r h).contains x with
  | none =>
    have := List.find?_eq_none.1 h x (by simpa using hx)
    simp [Pm.cyc_self hr x hx] at this
  | some y =>
    have h1 := List.find?_some h
    have h2 : y < 26 := by simpa using List.mem_of_find?_eq_some h
    have h3 := Pm.find_range _ _ _ h
    have h1' : x ∈ Pm.cyc r y := by simpa using h1
    refine ⟨h2, h1', ?_⟩
    show Pm.met r y y = false
    cases hm : Pm.met r y y with
    | false => rfl
    | true =>
      obtain ⟨i, hi, hy⟩ := (Pm.met_iff r y y).1 hm
      have h4 := h3 i hi
      have : x ∈ Pm.cyc r i := Pm.cyc_trans hr y i x h2 (by omega) hy h1'
      simp [this] at h4
theorem hd_of {r : Nat → Nat} (hr : Pm.IsPerm r) {x h : Nat} (hx : x < 26) (hh : h < 26) (hm : Pm.met r h h = false) (hc : x ∈ Pm.cyc r h) : hd r x = h := by
  obtain ⟨h1, h2, h3⟩ := hd_spec hr hx
  have a1 : hd r x ∈ Pm.cyc r h := Pm.cyc_trans hr x h _ hx hh hc (Pm.cyc_symm hr x _ h1 h2)
  have a2 : h ∈ Pm.cyc r (hd r x) := Pm.cyc_symm hr _ h hh a1
  rcases Nat.lt_trichotomy (hd r x) h with c | c | c
  · have := (Pm.met_iff r h h).2 ⟨_, c, a2⟩
    rw [hm] at this
    cases this
  · exact c
  · have := (Pm.met_iff r (hd r x) (hd r x)).2 ⟨_, c, a1⟩
    rw [h3] at this
    cases this
/-- What is paired has an even number. -/
theorem even_of (f : Nat → Nat) : ∀ (n : Nat) (l : List Nat), l.length ≤ n → l.Nodup → (∀ x, x ∈ l → f x ∈ l ∧ f x ≠ x ∧ f (f x) = x) → l.length % 2 = 0
  | _, [], _, _, _ => rfl
  | 0, _ :: _, h, _, _ => by simp at h
  | n + 1, x :: l, h, hn, hf => by
    obtain ⟨h1, h2, h3⟩ := hf x (by simp)
    have h4 : f x ∈ l := by
      rcases List.mem_cons.1 h1 with e | e
      · exact absurd e h2
      · exact e
    have hx : x ∉ l := (List.nodup_cons.1 hn).1
    have hl := (List.nodup_cons.1 hn).2
    have hle := List.length_erase_of_mem h4
    have hpos : 0 < l.length := List.length_pos_of_mem h4
    have ih := even_of f n (l.erase (f x)) (by simp at h; omega) (hl.erase _) (fun y hy => by
      have hy1 := List.mem_of_mem_erase hy
      have hy2 : y ≠ f x := fun e => by
        rw [e] at hy
        exact (List.Nodup.mem_erase_iff hl).1 hy |>.1 rfl
      obtain ⟨k1, k2, k3⟩ := hf y (by simp [hy1])
      refine ⟨(List.Nodup.mem_erase_iff hl).2 ⟨fun e => ?_, ?_⟩, k2, k3⟩
      · rw [e, h3] at k3
        exact hx (k3 ▸ hy1)
      · rcases List.mem_cons.1 k1 with e | e
        · rw [e] at k3
          exact absurd k3.symm hy2
        · exact e)
    rw [List.length_cons]
    omega
theorem cnt_heads (r : Nat → Nat) (n : Nat) : ∀ k, cnt (Pm.cycs r k) n = ((List.range k).filter fun i => !Pm.met r i i && Pm.len r i == n).length
  | 0 => rfl
  | k + 1 => by
    have ih := cnt_heads r n k
    rw [List.range_succ, List.filter_append, List.length_append, ← ih]
    show cnt (if Pm.met r k k = true then Pm.cycs r k else Pm.cycs r k ++ [Pm.cyc r k]) n = _
    by_cases h : Pm.met r k k = true
    · rw [if_pos h]
      simp [h]
    · rw [if_neg h]
      unfold cnt
      rw [List.filter_append, List.length_append]
      have h' : Pm.met r k k = false := by simpa using h
      by_cases e : Pm.len r k = n
      · simp [h', e, Pm.cyc_length]
      · simp [h', e, Pm.cyc_length]
/-- There are as many cycles of each length as an even number. -/
theorem even_cnt (hp : Pairing p) (hq : Pairing q) (n : Nat) : cnt (Pm.cycs (fun i => q (p i)) 26) n % 2 = 0 := by
  have hr := hp.perm.comp hq.perm
  rw [cnt_heads]
  refine even_of (fun i => hd (fun i => q (p i)) (p i)) _ _ (Nat.le_refl _) (List.Pairwise.sublist List.filter_sublist List.nodup_range) fun x hx => ?_
  rw [List.mem_filter] at hx
  have hx26 : x < 26 := by simpa using hx.1
  have hx2 : Pm.met (fun i => q (p i)) x x = false ∧ Pm.len (fun i => q (p i)) x = n := by simpa using hx.2
  have hpx := hp.perm.lt x hx26
  obtain ⟨h1, h2, h3⟩ := hd_spec hr hpx
  refine ⟨?_, fun e => ?_, ?_⟩
  · rw [List.mem_filter]
    refine ⟨by simpa using h1, ?_⟩
    have := Pm.len_of_mem hr (p x) _ h1 h2
    rw [len_mirror hp hq hx26, hx2.2] at this
    simp [h3, ← this]
  · have e' : hd (fun i => q (p i)) (p x) = x := e
    rw [e'] at h2
    obtain ⟨m, hm⟩ := (Pm.mem_cyc hr x hx26 _).1 h2
    exact apart hp hq hx26 m hm
  · show hd (fun i => q (p i)) (p (hd (fun i => q (p i)) (p x))) = x
    refine hd_of hr (hp.perm.lt _ h1) hx26 hx2.1 ?_
    obtain ⟨m, hm⟩ := (Pm.mem_cyc hr (p x) hpx _).1 (Pm.cyc_symm hr (p x) _ h1 h2)
    have h4 := back hp hq hpx m
    rw [hm, hp.two x hx26] at h4
    exact Pm.cyc_symm hr x _ (hp.perm.lt _ h1) ((Pm.mem_cyc hr _ (hp.perm.lt _ h1) x).2 ⟨m, h4⟩)
end
/-- Numbers that come in pairs. -/
structure InPairs (l : List Nat) : Prop where
  even : l.length % 2 = 0
  pair : ∀ i, i + i + 1 < l.length → l.getD (i + i) 0 = l.getD (i + i + 1) 0
theorem InPairs.append {l m : List Nat} (h : InPairs l) (k : InPairs m) : InPairs (l ++ m) := by
  have h1 := h.even
  have h2 := k.even
  refine ⟨by rw [List.length_append]; omega, fun i hi => ?_⟩
  rw [List.length_append] at hi
  by_cases e : i + i + 1 < l.length
  · have := h.pair i e
    rw [List.getD_eq_getElem?_getD, List.getD_eq_getElem?_getD] at this ⊢
    rw [List.getElem?_append_left (by omega), List.getElem?_append_left e]
    exact this
  · have := k.pair (i - l.length / 2) (by omega)
    rw [List.getD_eq_getElem?_getD, List.getD_eq_getElem?_getD] at this ⊢
    rw [List.getElem?_append_right (by omega), List.getElem?_append_right (by omega)]
    rw [show i + i - l.length = i - l.length / 2 + (i - l.length / 2) by omega, show i + i + 1 - l.length = i - l.length / 2 + (i - l.length / 2) + 1 by omega]
    exact this
theorem inpairs_rep (n x : Nat) (h : n % 2 = 0) : InPairs (List.replicate n x) := ⟨by simpa using h, fun i hi => by
  rw [List.length_replicate] at hi
  simp [List.getD_eq_getElem?_getD, hi, show i + i < n by omega]⟩
theorem inpairs_ty (c : Nat → Nat) (h : ∀ n, c n % 2 = 0) : ∀ k, InPairs (tyDown c k)
  | 0 => ⟨rfl, fun i hi => by simp [tyDown] at hi⟩
  | k + 1 => (inpairs_ty c h k).append (inpairs_rep _ _ (h _))
/-- REJEWSKI. -/
theorem rejewski {p q : Nat → Nat} (hp : Pairing p) (hq : Pairing q) : InPairs (typeOf fun i => q (p i)) := inpairs_ty _ (even_cnt hp hq) 26
end Rj
/-- What the machine makes of letters is a pairing. -/
theorem now_pairing {M : Om.Ma} (h : Om.Ok M) (at' : Nat → Nat) : Rj.Pairing (Om.now M at') := ⟨Om.now_perm h at', fun _ hi => Om.now_now h at' hi, fun _ hi => Om.now_ne h at' hi⟩
end Go.Proofs.Ytigamiehnjipcaa
