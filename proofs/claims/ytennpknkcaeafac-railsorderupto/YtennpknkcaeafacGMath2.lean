/-
  Plain mathematics of no program: what is seen through a sheet, way by way, place by place.
-/
import Derived.Test.YtennpknkcaeafacGMath
import Derived.Test.YtennpknkcaeafacYKit
namespace Go.Proofs.Ytennpknkcaeafac.Gm
open PK Sm

/-- Place p, as often as one of the first J holes is there after t turns. -/
def repL (s : Nat) (h : Nat → Nat) (t p J : Nat) : List Nat := (List.range J).flatMap fun j => if Qm.it (tn s) t (h j) = p then [p] else []
/-- What is seen after t turns at the first H places. -/
def rowL (s : Nat) (h : Nat → Nat) (n t H : Nat) : List Nat := (List.range H).flatMap fun p => repL s h t p n
/-- What is seen in the first T ways. -/
def outL (s : Nat) (h : Nat → Nat) (n T : Nat) : List Nat := (List.range T).flatMap fun t => rowL s h n t (s * s)
/-- How many of the first J holes are at p after t turns. -/
def cj (s : Nat) (h : Nat → Nat) (t p : Nat) : Nat → Nat
  | 0 => 0
  | J + 1 => cj s h t p J + (if Qm.it (tn s) t (h J) = p then 1 else 0)
theorem repL_step (s : Nat) (h : Nat → Nat) (t p J : Nat) : repL s h t p (J + 1) = repL s h t p J ++ (if Qm.it (tn s) t (h J) = p then [p] else []) := by simp [repL, List.range_succ, List.flatMap_append]
theorem rowL_step (s : Nat) (h : Nat → Nat) (n t H : Nat) : rowL s h n t (H + 1) = rowL s h n t H ++ repL s h t H n := by simp [rowL, List.range_succ, List.flatMap_append]
theorem outL_step (s : Nat) (h : Nat → Nat) (n T : Nat) : outL s h n (T + 1) = outL s h n T ++ rowL s h n T (s * s) := by simp [outL, List.range_succ, List.flatMap_append]
theorem repL_len (s : Nat) (h : Nat → Nat) (t p : Nat) : ∀ J, (repL s h t p J).length = cj s h t p J
  | 0 => rfl
  | J + 1 => by
    rw [repL_step, List.length_append, repL_len s h t p J]
    show _ = cj s h t p J + _
    by_cases e : Qm.it (tn s) t (h J) = p
    · rw [if_pos e, if_pos e]; rfl
    · rw [if_neg e, if_neg e]; rfl
theorem cj_le (s : Nat) (h : Nat → Nat) (t p : Nat) : ∀ J, cj s h t p J ≤ J
  | 0 => Nat.le_refl _
  | J + 1 => by
    have := cj_le s h t p J
    show cj s h t p J + _ ≤ _
    by_cases e : Qm.it (tn s) t (h J) = p
    · rw [if_pos e]; omega
    · rw [if_neg e]; omega
theorem rowL_len (s : Nat) (h : Nat → Nat) (n t : Nat) : ∀ H, (rowL s h n t H).length ≤ H * n
  | 0 => by simp [rowL]
  | H + 1 => by
    have := rowL_len s h n t H
    have := cj_le s h t H n
    rw [rowL_step, List.length_append, Nat.succ_mul, repL_len]
    omega
theorem outL_len (s : Nat) (h : Nat → Nat) (n : Nat) : ∀ T, (outL s h n T).length ≤ T * (s * s * n)
  | 0 => by simp [outL]
  | T + 1 => by
    have := outL_len s h n T
    have := rowL_len s h n T (s * s)
    rw [outL_step, List.length_append, Nat.succ_mul]
    omega
theorem repL_mem {s : Nat} {h : Nat → Nat} {t p J x : Nat} (hx : x ∈ repL s h t p J) : x = p ∧ ∃ j, j < J ∧ Qm.it (tn s) t (h j) = p := by
  obtain ⟨j, hj, hx⟩ := List.mem_flatMap.1 hx
  by_cases e : Qm.it (tn s) t (h j) = p
  · rw [if_pos e] at hx
    exact ⟨by simpa using hx, j, by simpa using hj, e⟩
  · rw [if_neg e] at hx; cases hx
theorem count_rep (s : Nat) (h : Nat → Nat) (t p q : Nat) : ∀ J, (repL s h t p J).count q = if p = q then cj s h t p J else 0
  | 0 => by simp [repL, cj]
  | J + 1 => by
    rw [repL_step, List.count_append, count_rep s h t p q J]
    show _ = if p = q then cj s h t p J + (if Qm.it (tn s) t (h J) = p then 1 else 0) else 0
    by_cases e : Qm.it (tn s) t (h J) = p
    · rw [if_pos e, if_pos e]
      by_cases e2 : p = q
      · rw [if_pos e2, if_pos e2, e2]; simp
      · rw [if_neg e2, if_neg e2]; simp [e2]
    · rw [if_neg e, if_neg e]
      by_cases e2 : p = q
      · rw [if_pos e2, if_pos e2]; simp
      · rw [if_neg e2, if_neg e2]; simp
theorem count_row (s : Nat) (h : Nat → Nat) (n t q : Nat) : ∀ H, (rowL s h n t H).count q = if q < H then cj s h t q n else 0
  | 0 => by simp [rowL]
  | H + 1 => by
    rw [rowL_step, List.count_append, count_row s h n t q H, count_rep]
    by_cases e : H = q
    · subst e; rw [if_neg (by omega), if_pos rfl, if_pos (by omega)]; omega
    · rw [if_neg e]
      by_cases e2 : q < H
      · rw [if_pos e2, if_pos (by omega)]; omega
      · rw [if_neg e2, if_neg (by omega)]
theorem count_out {s : Nat} {h : Nat → Nat} {n q : Nat} (hq : q < s * s) : (outL s h n 4).count q = cj s h 0 q n + cj s h 1 q n + cj s h 2 q n + cj s h 3 q n := by
  have e0 : outL s h n 0 = [] := rfl
  rw [outL_step, outL_step, outL_step, outL_step, e0]
  simp only [List.count_append, count_row, if_pos hq, List.count_nil]
  omega
theorem cn_cj (s : Nat) (h : Nat → Nat) (p : Nat) : ∀ n, cn s h p (4 * n) = cj s h 0 p n + cj s h 1 p n + cj s h 2 p n + cj s h 3 p n
  | 0 => rfl
  | n + 1 => by
    have ih := cn_cj s h p n
    have v : ∀ t, t < 4 → vis s h (4 * n + t) = Qm.it (tn s) t (h n) := fun t ht => by
      unfold vis
      rw [show (4 * n + t) % 4 = t by omega, show (4 * n + t) / 4 = n by omega]
    rw [show 4 * (n + 1) = 4 * n + 3 + 1 by omega]
    show cn s h p (4 * n) + (if vis s h (4 * n) = p then 1 else 0) + (if vis s h (4 * n + 1) = p then 1 else 0) + (if vis s h (4 * n + 2) = p then 1 else 0) + (if vis s h (4 * n + 3) = p then 1 else 0) = (cj s h 0 p n + (if Qm.it (tn s) 0 (h n) = p then 1 else 0)) + (cj s h 1 p n + (if Qm.it (tn s) 1 (h n) = p then 1 else 0)) + (cj s h 2 p n + (if Qm.it (tn s) 2 (h n) = p then 1 else 0)) + (cj s h 3 p n + (if Qm.it (tn s) 3 (h n) = p then 1 else 0))
    rw [show vis s h (4 * n) = _ from v 0 (by omega), v 1 (by omega), v 2 (by omega), v 3 (by omega), ih]
    omega
theorem right_count {s n : Nat} {h : Nat → Nat} (hh : ∀ j, j < n → h j < s * s) : Right s h n ↔ ∀ p, p < s * s → (outL s h n 4).count p = 1 := by
  rw [right_iff hh]
  exact ⟨fun hc p hp => by rw [count_out hp, ← cn_cj]; exact hc p hp, fun hc p hp => by rw [cn_cj, ← count_out hp]; exact hc p hp⟩
theorem outL_lt {s n T : Nat} {h : Nat → Nat} {x : Nat} (hx : x ∈ outL s h n T) : x < s * s := by
  obtain ⟨t, _, hx⟩ := List.mem_flatMap.1 hx
  obtain ⟨p, hp, hx⟩ := List.mem_flatMap.1 hx
  rw [(repL_mem hx).1]
  simpa using hp
/-- What is seen stays in its way. -/
theorem wy_of {s n : Nat} {h : Nat → Nat} (hR : Right s h n) {j t p : Nat} (hj : j < n) (ht : t < 4) (he : Qm.it (tn s) t (h j) = p) : wy s h (4 * n) p = ((t + 1 : Nat) : Int) := by
  have hv : vis s h (4 * j + t) = p := by
    unfold vis
    rw [show (4 * j + t) % 4 = t by omega, show (4 * j + t) / 4 = j by omega, he]
  have key : ∀ k, 4 * j + t + 1 + k ≤ 4 * n → wy s h (4 * j + t + 1 + k) p = ((t + 1 : Nat) : Int) := fun k => by
    induction k with
    | zero =>
      intro _
      show upd (wy s h (4 * j + t)) (vis s h (4 * j + t)) (((4 * j + t) % 4 + 1 : Nat) : Int) p = _
      rw [hv, upd_same, show (4 * j + t) % 4 = t by omega]
    | succ k ih =>
      intro hk
      have h1 := ih (by omega)
      show upd (wy s h (4 * j + t + 1 + k)) (vis s h (4 * j + t + 1 + k)) (((4 * j + t + 1 + k) % 4 + 1 : Nat) : Int) p = _
      rw [upd_other]
      · exact h1
      · intro e
        have := hR.1 (4 * j + t + 1 + k) (by omega)
        rw [← e, h1] at this
        omega
  have := key (4 * n - (4 * j + t + 1)) (by omega)
  rw [show 4 * j + t + 1 + (4 * n - (4 * j + t + 1)) = 4 * n by omega] at this
  exact this
theorem outL_pw {s n : Nat} {h : Nat → Nat} (hh : ∀ j, j < n → h j < s * s) (hR : Right s h n) : (outL s h n 4).Pairwise fun (x y : Nat) => LL (fun z => wy s h (4 * n) z.toNat) (x : Int) (y : Int) := by
  have hc := (right_count hh).1 hR
  unfold outL
  rw [List.pairwise_flatMap]
  refine ⟨fun t ht => ?_, ?_⟩
  · have ht4 : t < 4 := by simpa using ht
    unfold rowL
    rw [List.pairwise_flatMap]
    refine ⟨fun p hp => ?_, ?_⟩
    · have hp' : p < s * s := by simpa using hp
      have h1 := hc p hp'
      rw [count_out hp'] at h1
      have h2 : (repL s h t p n).length ≤ 1 := by
        rw [repL_len]
        have : t = 0 ∨ t = 1 ∨ t = 2 ∨ t = 3 := by omega
        rcases this with rfl | rfl | rfl | rfl <;> omega
      match hl : repL s h t p n, h2 with
      | [], _ => exact List.Pairwise.nil
      | [a], _ => exact List.pairwise_singleton _ _
      | _ :: _ :: _, h2 => simp at h2
    · refine (range_pw _).imp ?_
      intro p p' hpp x hx y hy
      obtain ⟨rfl, j, hj, e⟩ := repL_mem hx
      obtain ⟨rfl, j', hj', e'⟩ := repL_mem hy
      right
      show wy s h (4 * n) ((x : Int)).toNat = wy s h (4 * n) ((y : Int)).toNat ∧ (x : Int) < (y : Int)
      rw [Int.toNat_natCast, Int.toNat_natCast, wy_of hR hj ht4 e, wy_of hR hj' ht4 e']
      exact ⟨rfl, by omega⟩
  · refine (range_pw 4).imp_of_mem ?_
    intro t t' ht ht' htt x hx y hy
    obtain ⟨p, _, hx⟩ := List.mem_flatMap.1 hx
    obtain ⟨p', _, hy⟩ := List.mem_flatMap.1 hy
    obtain ⟨rfl, j, hj, e⟩ := repL_mem hx
    obtain ⟨rfl, j', hj', e'⟩ := repL_mem hy
    left
    show wy s h (4 * n) ((x : Int)).toNat < wy s h (4 * n) ((y : Int)).toNat
    rw [Int.toNat_natCast, Int.toNat_natCast, wy_of hR hj (by simpa using ht) e, wy_of hR hj' (by simpa using ht') e']
    omega
theorem right_list {s n : Nat} {h : Nat → Nat} (hh : ∀ j, j < n → h j < s * s) (hR : Right s h n) : (outL s h n 4).length = s * s ∧ Order (s * s) (fun i => (((outL s h n 4).getD i 0 : Nat) : Int)) ∧ Srt (fun z => wy s h (4 * n) z.toNat) (fun i => (((outL s h n 4).getD i 0 : Nat) : Int)) 0 (s * s) :=
  of_list (outL_pw hh hR) (fun x => ⟨outL_lt, fun hx => by
    have := (right_count hh).1 hR x hx
    exact List.count_pos_iff.1 (by omega)⟩)
/-- An order that is what is seen: then the sheet is right. -/
theorem right_of {s n : Nat} {h : Nat → Nat} (hh : ∀ j, j < n → h j < s * s) (hlen : (outL s h n 4).length = s * s) (hg : GoodO (s * s) (fun i => (((outL s h n 4).getD i 0 : Nat) : Int))) (honto : ∀ x, x < s * s → ∃ i, i < s * s ∧ (((outL s h n 4).getD i 0 : Nat) : Int) = x) : Right s h n := by
  refine (right_count hh).2 fun p hp => ?_
  have hnd : (outL s h n 4).Nodup := by
    rw [List.nodup_iff_pairwise_ne, List.pairwise_iff_getElem]
    intro i j hi hj hij e
    have := hg.inj i j (by omega) (by omega) (by
      show (((outL s h n 4).getD i 0 : Nat) : Int) = (((outL s h n 4).getD j 0 : Nat) : Int)
      simp [List.getD, List.getElem?_eq_getElem hi, List.getElem?_eq_getElem hj, e])
    omega
  obtain ⟨i, hi, e⟩ := honto p hp
  have hm : p ∈ outL s h n 4 := by
    have h1 : (outL s h n 4).getD i 0 = p := by omega
    have h2 : (outL s h n 4)[i]? = some p := by
      rw [← h1]
      simp [List.getD, List.getElem?_eq_getElem (show i < (outL s h n 4).length by omega)]
    exact List.mem_of_getElem? h2
  have h1 := List.nodup_iff_count.1 hnd p
  have h2 := List.count_pos_iff.2 hm
  omega
end Go.Proofs.Ytennpknkcaeafac.Gm
