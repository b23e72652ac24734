/-
  Squares of letters as 77 cells: the letters by their places, and the places by their letters.
-/
import Derived.Test.YtigamiehnjipcaaZMath
import Derived.Test.YtigamiehnjipcaaJn1
namespace Go.Proofs.Ytigamiehnjipcaa.Zq
open Vg PK

/-- All letters, J too. -/
def alpha26 : List UInt8 := [65, 66, 67, 68, 69, 70, 71, 72, 73, 74, 75, 76, 77, 78, 79, 80, 81, 82, 83, 84, 85, 86, 87, 88, 89, 90]
theorem layN_append (out a b : List UInt8) : layN out (a ++ b) = layN (layN out a) b := by unfold layN; rw [List.foldl_append]
theorem addN_twice (out : List UInt8) (c : UInt8) : addN (addN out c) c = addN out c := by
  have h : c ∈ addN out c := (addN_mem out c c).2 (.inr rfl)
  generalize addN out c = q at h
  unfold addN
  rw [if_pos h]
/-- With J among them the square is the same one. -/
theorem laid26 (key : List UInt8) : layN [] ((key ++ alpha26).map jI) = laid key := by
  unfold laid
  rw [List.map_append, List.map_append, layN_append, layN_append]
  generalize layN [] (key.map jI) = q
  have e1 : alpha26.map jI = [65, 66, 67, 68, 69, 70, 71, 72] ++ (73 :: 73 :: [75, 76, 77, 78, 79, 80, 81, 82, 83, 84, 85, 86, 87, 88, 89, 90]) := by decide
  have e2 : alpha.map jI = [65, 66, 67, 68, 69, 70, 71, 72] ++ (73 :: [75, 76, 77, 78, 79, 80, 81, 82, 83, 84, 85, 86, 87, 88, 89, 90]) := by decide
  rw [e1, e2, layN_append, layN_append]
  generalize layN q [65, 66, 67, 68, 69, 70, 71, 72] = r
  have e3 : ∀ l, layN r (73 :: 73 :: l) = layN (addN (addN r 73) 73) l := fun _ => rfl
  have e4 : ∀ l, layN r (73 :: l) = layN (addN r 73) l := fun _ => rfl
  rw [e3, e4, addN_twice]
/-- What is laid behind m letters. -/
def lay (l : List UInt8) (m : Nat) : List UInt8 := layN [] ((l.take m).map jI)
theorem lay_zero (l : List UInt8) : lay l 0 = [] := by simp [lay, layN]
theorem lay_succ (l : List UInt8) {m : Nat} (h : m < l.length) : lay l (m + 1) = addN (lay l m) (jI (l.getD m 0)) := by
  unfold lay
  rw [List.take_succ_eq_append_getElem h, List.map_append, layN_append, getD_some h]
  rfl
theorem lay_all (l : List UInt8) : lay l l.length = layN [] (l.map jI) := by unfold lay; rw [List.take_length]
theorem lay_nodup (l : List UInt8) (m : Nat) : (lay l m).Nodup := layN_nodup _ _ (by simp)
theorem lay_mem {l : List UInt8} (h : Ls l) (m : Nat) (c : UInt8) (hc : c ∈ lay l m) : c ∈ alpha := by
  unfold lay at hc
  rw [layN_mem] at hc
  rcases hc with hc | hc
  · simp at hc
  · obtain ⟨d, hd, rfl⟩ := List.mem_map.1 hc
    exact (mem_alpha _).2 (jI_ok (h d (List.mem_of_mem_take hd)))
theorem lay_le {l : List UInt8} (h : Ls l) (m : Nat) : (lay l m).length ≤ 25 := nodup_le _ alpha (lay_nodup l m) (lay_mem h m)
theorem alpha26_ls : Ls alpha26 := by
  intro c hc
  have : ∀ c ∈ alpha26, 65 ≤ c.toNat ∧ c.toNat ≤ 90 := by decide
  exact this c hc
theorem ls_append {a b : List UInt8} (ha : Ls a) (hb : Ls b) : Ls (a ++ b) := fun c hc => (List.mem_append.1 hc).elim (ha c) (hb c)
/-- One more that isn't there: then 24 at most were. -/
theorem lay_lt {l : List UInt8} (h : Ls l) {m : Nat} (hm : m < l.length) (hn : jI (l.getD m 0) ∉ lay l m) : (lay l m).length < 25 := by
  have h1 := lay_le h (m + 1)
  rw [lay_succ l hm] at h1
  unfold addN at h1
  rw [if_neg hn, List.length_append] at h1
  simp at h1
  omega
theorem addN_in {out : List UInt8} {c : UInt8} (h : c ∈ out) : addN out c = out := by unfold addN; rw [if_pos h]
theorem addN_out {out : List UInt8} {c : UInt8} (h : c ∉ out) : addN out c = out ++ [c] := by unfold addN; rw [if_neg h]

/-- Where the letter k stands: 0 where it stands nowhere. -/
def pl (L : List UInt8) (k : Nat) : Nat := if ltr k ∈ L then at' L (ltr k) else 0
def shF (L : List UInt8) (i : Nat) : Value := if i < 25 then .int .u8 (L.getD i 0).toNat else if (i - 25) % 2 = 0 then .int .i64 ((pl L ((i - 25) / 2) / 5 : Nat)) else .int .i64 ((pl L ((i - 25) / 2) % 5 : Nat))
/-- A square's cells. -/
def shV (L : List UInt8) : Array Value := tab 77 (shF L)
theorem shV_size (L : List UInt8) : (shV L).size = 77 := tab_size _ _
theorem shV_at (L : List UInt8) {i : Nat} (h : i < 25) : (shV L)[i]? = some (.int .u8 (L.getD i 0).toNat) := by
  unfold shV; rw [tab_get _ (by omega)]; unfold shF; rw [if_pos h]
theorem shV_row (L : List UInt8) {k : Nat} (h : k < 26) : (shV L)[25 + 2 * k]? = some (.int .i64 (pl L k / 5 : Nat)) := by
  unfold shV; rw [tab_get _ (by omega)]; unfold shF; rw [if_neg (by omega), if_pos (by omega), show (25 + 2 * k - 25) / 2 = k by omega]
theorem shV_col (L : List UInt8) {k : Nat} (h : k < 26) : (shV L)[25 + 2 * k + 1]? = some (.int .i64 (pl L k % 5 : Nat)) := by
  unfold shV; rw [tab_get _ (by omega)]; unfold shF; rw [if_neg (by omega), if_neg (by omega), show (25 + 2 * k + 1 - 25) / 2 = k by omega]
/-- Which letters are there. -/
def knF (L : List UInt8) (k : Nat) : Bool := decide (ltr k ∈ L)
theorem ltr_inj {a b : Nat} (ha : a < 26) (hb : b < 26) (e : ltr a = ltr b) : a = b := by rw [← num_ltr ha, e, num_ltr hb]
theorem kn_step {L : List UInt8} {c : UInt8} (hc : 65 ≤ c.toNat ∧ c.toNat ≤ 90) : bools 26 (knF (L ++ [c])) = bools 26 (upd (knF L) (num c) true) := by
  refine bools_ext fun i hi => ?_
  unfold knF upd
  by_cases e : i = num c
  · rw [if_pos e, e, ltr_num hc]; simp
  · rw [if_neg e]
    have : ltr i ≠ c := fun e2 => e (by rw [← e2, num_ltr hi])
    simp [this]
theorem idx_append_left {L : List UInt8} {c d : UInt8} (h : d ∈ L) : at' (L ++ [c]) d = at' L d := by unfold at'; rw [List.idxOf_append]; simp [h]
theorem idx_append_new {L : List UInt8} {c : UInt8} (h : c ∉ L) : at' (L ++ [c]) c = L.length := by unfold at'; rw [List.idxOf_append]; simp [h]
theorem pl_new {L : List UInt8} {c : UInt8} (hc : 65 ≤ c.toNat ∧ c.toNat ≤ 90) (h : c ∉ L) : pl (L ++ [c]) (num c) = L.length := by
  unfold pl
  rw [ltr_num hc, if_pos (by simp), idx_append_new h]
theorem pl_old {L : List UInt8} {c : UInt8} {k : Nat} (h : ltr k ≠ c) : pl (L ++ [c]) k = pl L k := by
  unfold pl
  by_cases hk : ltr k ∈ L
  · rw [if_pos hk, if_pos (by simp [hk]), idx_append_left hk]
  · rw [if_neg hk, if_neg (by simp [hk, h])]
/-- One more letter, cell by cell. -/
theorem shV_step {L : List UInt8} {c : UInt8} (hc : 65 ≤ c.toNat ∧ c.toNat ≤ 90) (h : c ∉ L) (hl : L.length < 25) :
    (((shV L).setIfInBounds L.length (.int .u8 c.toNat)).setIfInBounds (25 + 2 * num c) (.int .i64 (L.length / 5 : Nat))).setIfInBounds (25 + 2 * num c + 1) (.int .i64 (L.length % 5 : Nat)) = shV (L ++ [c]) := by
  have hn := num_lt hc
  unfold shV
  rw [tab_set, tab_set, tab_set]
  refine tab_ext fun i hi => ?_
  unfold upd shF
  by_cases h25 : i < 25
  · rw [if_neg (by omega), if_neg (by omega), if_pos h25, if_pos h25]
    by_cases e : i = L.length
    · rw [if_pos e, e]; simp
    · rw [if_neg e]
      by_cases hi2 : i < L.length
      · rw [show (L ++ [c]).getD i 0 = L.getD i 0 by simp only [List.getD_eq_getElem?_getD]; rw [List.getElem?_append_left hi2]]
      · have e1 : (L ++ [c]).getD i 0 = 0 := by simp only [List.getD_eq_getElem?_getD]; rw [List.getElem?_eq_none (by simp; omega)]; rfl
        have e2 : L.getD i 0 = 0 := by simp only [List.getD_eq_getElem?_getD]; rw [List.getElem?_eq_none (by omega)]; rfl
        rw [e1, e2]
  · rw [if_neg h25, if_neg h25]
    by_cases e : (i - 25) / 2 = num c
    · rw [e, pl_new hc h]
      by_cases hm : (i - 25) % 2 = 0
      · rw [if_neg (by omega), if_pos (by omega), if_pos hm]
      · rw [if_pos (by omega), if_neg hm]
    · rw [if_neg (by omega), if_neg (by omega), if_neg (by omega), pl_old (fun e2 => e (by rw [← e2, num_ltr (by omega)]))]
theorem pl_at {L : List UInt8} {c : UInt8} (h : Sq L) (hc : c ∈ L) : pl L (num c) = at' L c := by
  have h1 := ((mem_alpha c).1 ((h.mem c).1 hc)).1
  unfold pl
  rw [ltr_num h1, if_pos hc]
theorem pl_lt {L : List UInt8} (h : Sq L) (k : Nat) : pl L k < 25 := by
  unfold pl
  by_cases hk : ltr k ∈ L
  · rw [if_pos hk]; exact h.at_lt hk
  · rw [if_neg hk]; omega

/-- What two places become so many steps on. -/
def movP (st i j : Nat) : Nat × Nat :=
  if i / 5 = j / 5 then (5 * (i / 5) + (i % 5 + st) % 5, 5 * (j / 5) + (j % 5 + st) % 5)
  else if i % 5 = j % 5 then (5 * ((i / 5 + st) % 5) + i % 5, 5 * ((j / 5 + st) % 5) + j % 5)
  else (5 * (i / 5) + j % 5, 5 * (j / 5) + i % 5)
def mov (st : Nat) (s : List UInt8) (a b : UInt8) : UInt8 × UInt8 := (s.getD (movP st (at' s a) (at' s b)).1 0, s.getD (movP st (at' s a) (at' s b)).2 0)
theorem mov_enc (s : List UInt8) : mov 1 s = enc s := rfl
theorem mov_dec (s : List UInt8) : mov 4 s = dec s := rfl
theorem take_two {t : List UInt8} {m : Nat} (h : 2 * m + 1 < t.length) : t.take (2 * m + 2) = t.take (2 * m) ++ [t.getD (2 * m) 0, t.getD (2 * m + 1) 0] := by
  have e1 := List.take_succ_eq_append_getElem h
  have e2 := List.take_succ_eq_append_getElem (show 2 * m < t.length by omega)
  rw [e2] at e1
  rw [getD_some (by omega), getD_some h]
  show t.take (2 * m + 1 + 1) = _
  rw [e1, List.append_assoc]
  rfl
theorem twos_append (f : UInt8 → UInt8 → UInt8 × UInt8) : ∀ (a b : List UInt8), a.length % 2 = 0 → twos f (a ++ b) = twos f a ++ twos f b
  | [], _, _ => by simp [twos]
  | [_], _, h => by simp at h
  | x :: y :: r, b, h => by
    have := twos_append f r b (by simp at h; omega)
    simp only [List.cons_append, twos]
    rw [this]
theorem twos_two (f : UInt8 → UInt8 → UInt8 × UInt8) {t : List UInt8} {m : Nat} (h : 2 * m + 1 < t.length) : twos f (t.take (2 * m + 2)) = twos f (t.take (2 * m)) ++ [(f (t.getD (2 * m) 0) (t.getD (2 * m + 1) 0)).1, (f (t.getD (2 * m) 0) (t.getD (2 * m + 1) 0)).2] := by
  rw [take_two h, twos_append _ _ _ (by rw [List.length_take]; omega)]
  rfl
theorem twos_len (f : UInt8 → UInt8 → UInt8 × UInt8) : ∀ t : List UInt8, t.length % 2 = 0 → (twos f t).length = t.length
  | [], _ => rfl
  | [_], h => by simp at h
  | _ :: _ :: r, h => by
    have := twos_len f r (by simp at h; omega)
    simp [twos, this]
/-- Pairs, from a place on. -/
theorem drop_cons {u : List UInt8} {i : Nat} (hi : i < u.length) : u.drop i = u.getD i 0 :: u.drop (i + 1) := by rw [List.drop_eq_getElem_cons hi, getD_some hi]
theorem prs_one {u : List UInt8} {i : Nat} (hi : i < u.length) (h : i + 1 < u.length → u.getD (i + 1) 0 = u.getD i 0) : prs (u.drop i) = [u.getD i 0, fil (u.getD i 0)] ++ prs (u.drop (i + 1)) := by
  rw [drop_cons hi]
  by_cases h1 : i + 1 < u.length
  · rw [drop_cons h1, prs, if_pos (h h1).symm]
    rfl
  · rw [List.drop_eq_nil_of_le (by omega)]
    rfl
theorem prs_two {u : List UInt8} {i : Nat} (hi : i + 1 < u.length) (h : u.getD (i + 1) 0 ≠ u.getD i 0) : prs (u.drop i) = [u.getD i 0, u.getD (i + 1) 0] ++ prs (u.drop (i + 2)) := by
  rw [drop_cons (by omega), drop_cons hi, prs, if_neg (Ne.symm h)]
  rfl
theorem map_getD {t : List UInt8} {i : Nat} (hi : i < t.length) : (t.map jI).getD i 0 = jI (t.getD i 0) := by
  rw [getD_some (by simpa using hi), getD_some hi]; simp
/-- The first place at which something is wrong. -/
def fw (t : List UInt8) : Option Nat := (List.range t.length).find? (wrong t)
theorem fw_some {t : List UInt8} {k : Nat} (hk : k < t.length) (h : wrong t k = true) (hb : ∀ j, j < k → wrong t j = false) : fw t = some k := by
  unfold fw
  rw [List.find?_range_eq_some]
  exact ⟨h, by simpa using hk, fun j hj => by rw [hb j hj]; rfl⟩
theorem fw_none {t : List UInt8} (h : ∀ j, j < t.length → wrong t j = false) : fw t = none := by
  unfold fw
  rw [List.find?_eq_none]
  intro j hj
  rw [h j (by simpa using hj)]
  simp
theorem fw_good {t : List UInt8} (hl : Ls t) (he : t.length % 2 = 0) (h : fw t = none) : Good t := by
  refine good_of t hl he fun i hi => ?_
  unfold fw at h
  rw [List.find?_eq_none] at h
  have := h i (by simpa using hi)
  simpa using this
theorem good_fw {t : List UInt8} (h : Good t) : fw t = none := fw_none (good_wrong h)
end Go.Proofs.Ytigamiehnjipcaa.Zq
