/-
  Plain mathematics of no program: lists that stand in order by keys; zigzags; columns.
-/
import Derived.Test.YtennpknkcaeafacSMath
namespace Go.Proofs.Ytennpknkcaeafac.Sm

theorem nodup_len : ∀ (l m : List Nat), l.Nodup → (∀ x ∈ l, x ∈ m) → l.length ≤ m.length
  | [], m, _, _ => by simp
  | a :: t, m, h, hs => by
    have h1 := List.nodup_cons.1 h
    have ha : a ∈ m := hs a (by simp)
    have := nodup_len t (m.erase a) h1.2 (fun x hx => by
      have hne : x ≠ a := fun e => h1.1 (e ▸ hx)
      exact (List.mem_erase_of_ne hne).2 (hs x (by simp [hx])))
    rw [List.length_erase_of_mem ha] at this
    have hp : 0 < m.length := List.length_pos_of_mem ha
    simp only [List.length_cons]
    omega
/-- A list in order that has just the numbers below n. -/
theorem of_list {K : Int → Int} {n : Nat} {l : List Nat} (hp : l.Pairwise fun (x y : Nat) => LL K (x : Int) (y : Int)) (hm : ∀ x, x ∈ l ↔ x < n) :
    l.length = n ∧ Order n (fun i => ((l.getD i 0 : Nat) : Int)) ∧ Srt K (fun i => ((l.getD i 0 : Nat) : Int)) 0 n := by
  have hnd : l.Nodup := hp.imp fun h e => by subst e; exact LL.irrefl h
  have h1 := nodup_len l (List.range n) hnd (fun x hx => by simpa using (hm x).1 hx)
  have h2 := nodup_len (List.range n) l List.nodup_range (fun x hx => (hm x).2 (by simpa using hx))
  have hl : l.length = n := by simp at h1 h2; omega
  have hget : ∀ i, (h : i < n) → l.getD i 0 = l[i]'(by omega) := fun i h => by simp [List.getD, List.getElem?_eq_getElem (show i < l.length by omega)]
  refine ⟨hl, ⟨fun i hi => ?_, fun i j hi hj e => ?_, fun x h0 hx => ?_⟩, fun p q hp0 hpq hq => ?_⟩
  · have : l.getD i 0 < n := (hm _).1 (by rw [hget i hi]; exact List.getElem_mem _)
    omega
  · have e' : l.getD i 0 = l.getD j 0 := by omega
    rw [hget i hi, hget j hj] at e'
    exact (List.getElem_inj hnd).1 e'
  · obtain ⟨i, hi, e⟩ := List.mem_iff_getElem.1 ((hm x.toNat).2 (by omega))
    refine ⟨i, by omega, ?_⟩
    show ((l.getD i 0 : Nat) : Int) = x
    rw [hget i (by omega), e]
    omega
  · show LL K ((l.getD p 0 : Nat) : Int) ((l.getD q 0 : Nat) : Int)
    rw [hget p (by omega), hget q hq]
    exact List.pairwise_iff_getElem.1 hp p q (by omega) (by omega) hpq
/-- Group by group, each rising. -/
def byKey (k : Nat → Nat) (R n : Nat) : List Nat := (List.range R).flatMap fun r => (List.range n).filter fun i => k i == r
theorem byKey_mem {k : Nat → Nat} {R n : Nat} (hk : ∀ i, i < n → k i < R) (x : Nat) : x ∈ byKey k R n ↔ x < n := by
  unfold byKey
  rw [List.mem_flatMap]
  constructor
  · rintro ⟨r, _, h⟩
    simpa using (List.mem_filter.1 h).1
  · intro h
    exact ⟨k x, by simpa using hk x h, List.mem_filter.2 ⟨by simpa using h, by simp⟩⟩
theorem range_pw (n : Nat) : (List.range n).Pairwise (· < ·) := List.pairwise_lt_range
theorem byKey_pw (k : Nat → Nat) (R n : Nat) : (byKey k R n).Pairwise fun (x y : Nat) => LL (fun z => (k z.toNat : Int)) (x : Int) (y : Int) := by
  unfold byKey
  rw [List.pairwise_flatMap]
  refine ⟨fun r _ => ?_, ?_⟩
  · refine List.Pairwise.imp_of_mem ?_ ((range_pw n).filter _)
    intro a b ha hb hab
    have ka : k a = r := by simpa using (List.mem_filter.1 ha).2
    have kb : k b = r := by simpa using (List.mem_filter.1 hb).2
    right
    show ((k (a : Int).toNat : Nat) : Int) = ((k (b : Int).toNat : Nat) : Int) ∧ (a : Int) < (b : Int)
    rw [Int.toNat_natCast, Int.toNat_natCast, ka, kb]
    exact ⟨rfl, by omega⟩
  · refine (range_pw R).imp ?_
    intro r r' hr x hx y hy
    have kx : k x = r := by simpa using (List.mem_filter.1 hx).2
    have ky : k y = r' := by simpa using (List.mem_filter.1 hy).2
    left
    show ((k (x : Int).toNat : Nat) : Int) < ((k (y : Int).toNat : Nat) : Int)
    rw [Int.toNat_natCast, Int.toNat_natCast, kx, ky]
    omega
/-- One more at the end: it goes to its own group. -/
def grp (k : Nat → Nat) (n r : Nat) : List Nat := (List.range n).filter fun i => k i == r
theorem grp_succ (k : Nat → Nat) (n r : Nat) : grp k (n + 1) r = if k n = r then grp k n r ++ [n] else grp k n r := by
  unfold grp
  rw [List.range_succ, List.filter_append]
  by_cases h : k n = r
  · rw [if_pos h]; simp [h]
  · rw [if_neg h]; simp [h]
theorem byKey_grp (k : Nat → Nat) (R n : Nat) : byKey k R n = (List.range R).flatMap (grp k n) := rfl
/-- On which rail letter i stands. -/
def railK (rails i : Nat) : Nat := if rails = 1 then 0 else min (i % (2 * (rails - 1))) (2 * (rails - 1) - i % (2 * (rails - 1)))
theorem railK_lt {rails : Nat} (h : 1 ≤ rails) (i : Nat) : railK rails i < rails := by
  unfold railK
  by_cases h1 : rails = 1
  · rw [if_pos h1]; omega
  · rw [if_neg h1]
    have := Nat.mod_lt i (show 0 < 2 * (rails - 1) by omega)
    omega
theorem mod_next (i s : Nat) (hs : 0 < s) : (i + 1) % s = if i % s + 1 = s then 0 else i % s + 1 := by
  have h := Nat.mod_lt i hs
  rw [Nat.add_mod]
  by_cases h1 : s = 1
  · subst h1; simp [Nat.mod_one]
  · rw [Nat.mod_eq_of_lt (show 1 < s by omega)]
    by_cases h2 : i % s + 1 = s
    · rw [if_pos h2, h2, Nat.mod_self]
    · rw [if_neg h2, Nat.mod_eq_of_lt (by omega)]
/-- Ahead of letter i: the rail, and which way it goes. -/
def Zig (rails i : Nat) (at' by' : Int) : Prop := at' = railK rails i ∧ (by' = 1 ∨ by' = -1) ∧ (1 < rails → (by' = 1 → i % (2 * (rails - 1)) ≤ rails - 1) ∧ (by' = -1 → i % (2 * (rails - 1)) = 0 ∨ rails - 1 < i % (2 * (rails - 1))))
theorem zig_start (rails : Nat) : Zig rails 0 0 1 := by
  refine ⟨?_, .inl rfl, fun _ => ⟨fun _ => by rw [Nat.zero_mod]; omega, fun h => by omega⟩⟩
  unfold railK
  by_cases h1 : rails = 1
  · rw [if_pos h1]; rfl
  · rw [if_neg h1, Nat.zero_mod]; simp
theorem zig_step {rails i : Nat} (hr1 : 1 ≤ rails) {a b : Int} (hz : Zig rails i a b) : Zig rails (i + 1) (if 1 < rails then a + (if a + b < 0 ∨ (rails : Int) ≤ a + b then -b else b) else a) (if a + b < 0 ∨ (rails : Int) ≤ a + b then -b else b) := by
  obtain ⟨ha, hb, hz⟩ := hz
  by_cases h1 : rails = 1
  · subst h1
    refine ⟨?_, ?_, fun h => by omega⟩
    · rw [if_neg (by omega), ha]; rfl
    · by_cases c : a + b < 0 ∨ ((1 : Nat) : Int) ≤ a + b
      · rw [if_pos c]; omega
      · rw [if_neg c]; exact hb
  · have hr : 1 < rails := by omega
    obtain ⟨z1, z2⟩ := hz hr
    unfold railK at ha
    rw [if_neg h1] at ha
    have hlt := Nat.mod_lt i (show 0 < 2 * (rails - 1) by omega)
    have hnx := mod_next i (2 * (rails - 1)) (by omega)
    unfold Zig railK
    rw [if_neg h1, if_pos hr, hnx]
    generalize i % (2 * (rails - 1)) = r at *
    rcases hb with hb | hb
    · have z := z1 hb
      subst hb
      by_cases c : r = rails - 1
      · rw [if_pos (by omega)]
        by_cases c2 : r + 1 = 2 * (rails - 1)
        · rw [if_pos c2]; exact ⟨by omega, .inr rfl, fun _ => ⟨fun h => by omega, fun _ => .inl rfl⟩⟩
        · rw [if_neg c2]; exact ⟨by omega, .inr rfl, fun _ => ⟨fun h => by omega, fun _ => .inr (by omega)⟩⟩
      · rw [if_neg (by omega), if_neg (by omega)]
        exact ⟨by omega, .inl rfl, fun _ => ⟨fun _ => by omega, fun h => by omega⟩⟩
    · have z := z2 hb
      subst hb
      by_cases c : r = 0
      · subst c
        rw [if_pos (by omega)]
        by_cases c2 : 0 + 1 = 2 * (rails - 1)
        · omega
        · rw [if_neg c2]; exact ⟨by omega, .inl rfl, fun _ => ⟨fun _ => by omega, fun h => by omega⟩⟩
      · rw [if_neg (by omega)]
        by_cases c2 : r + 1 = 2 * (rails - 1)
        · rw [if_pos c2]; exact ⟨by omega, .inr rfl, fun _ => ⟨fun h => by omega, fun _ => .inl rfl⟩⟩
        · rw [if_neg c2]; exact ⟨by omega, .inr rfl, fun _ => ⟨fun h => by omega, fun _ => .inr (by omega)⟩⟩
end Go.Proofs.Ytennpknkcaeafac.Sm
