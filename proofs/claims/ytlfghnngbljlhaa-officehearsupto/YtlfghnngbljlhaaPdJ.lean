/-
  Contracts of pad's Split and Join (chapter 14).
-/
import Derived.Test.YtlfghnngbljlhaaPdQ
namespace Go.Proofs.Ytlfghnngbljlhaa
open Go.RowKit PK Pd

/-- The first m of h, behind them f. -/
def cpF (f h : Nat → Int) (m : Nat) : Nat → Int := fun i => if i < m then h i else f i
theorem splice_ints {N k : Nat} (hk : k ≤ N) (f h : Nat → Int) : (splice (ints N f).toList 0 ((List.range k).map fun i => Value.int .i64 (h i))).toArray = ints N (cpF f h k) := by
  unfold splice
  apply Array.ext_getElem?
  intro j
  simp only [List.take_zero, List.nil_append, Nat.zero_add, List.length_map, List.length_range, List.getElem?_toArray]
  by_cases hj : j < N
  · rw [ints_get _ hj]
    by_cases e : j < k
    · rw [List.getElem?_append_left (by simpa using e)]
      simp [cpF, e]
    · rw [List.getElem?_append_right (by simpa using e)]
      simp only [List.length_map, List.length_range, List.getElem?_drop, Array.getElem?_toList]
      rw [show k + (j - k) = j by omega, ints_get _ hj]
      simp [cpF, e]
  · have h1 : (ints N (cpF f h k))[j]? = none := by simp [ints, tab]; omega
    rw [h1, List.getElem?_eq_none]
    simp [ints, tab]
    omega
/-- copy(out, v): out is a row of N numbers of the call's own. -/
theorem run_copy_ints {w : World} {g N : Nat} {f : Nat → Int} (hrow : RowAt w g 3 (ints N f)) {v : Value} {k : Nat} {h : Nat → Int} (hv : NumsAt w v k h) {B : Nat} {w0 : World} (hb : Below B w0 w) (hBg : B ≤ g) :
    ∃ w', (∀ ty, (Builtin.copy_ #[22, 22] ty #[.slice (some ⟨g, 0, none⟩) N N, v]).run Try.prog w = .ok (.int .i64 (min k N : Nat)) w') ∧ RowAt w' g 3 (ints N (cpF f h (min k N))) ∧ Below B w0 w' := by
  obtain ⟨ad', cap, rfl, _, hc⟩ := hv
  have hsz : (Try.prog.info? 3).map (·.size) = some 1 := by kernel_rfl
  have hl : ((List.range (min k N)).map fun i => Value.int .i64 (h i)).length = min k N := by simp
  by_cases h0 : min k N = 0
  · refine ⟨w, fun ty => ?_, ?_, hb⟩
    · rw [run_copy_none (P := Try.prog) w 22 22 ty 3 (some ⟨g, 0, none⟩) ad' N N k cap Try.underlying22 hsz h0, h0]
      rfl
    · have e : ints N (cpF f h (min k N)) = ints N f := ints_ext fun i hi => by
        unfold cpF
        rw [if_neg (by omega)]
      rw [e]
      exact hrow
  · obtain ⟨b, o', rfl, _⟩ := hc 0 (by omega)
    have hsrc : ∀ (j : Nat) (v : Value), ((List.range (min k N)).map fun i => Value.int .i64 (h i))[j]? = some v → w.cell? ((⟨b, o', none⟩ : Addr).add j) = some v := fun j v hj => by
      have hjk : j < min k N := by
        have := (List.getElem?_eq_some_iff.1 hj).1
        simpa using this
      obtain ⟨b2, o2, e2, hcell⟩ := hc j (by omega)
      cases e2
      have e : v = .int .i64 (h j) := by
        simp [hjk] at hj
        rw [← hj]
      rw [e]
      have ea : ((⟨b, o', none⟩ : Addr).add j) = ⟨b, o' + j, none⟩ := by unfold Addr.add; by_cases e0 : j = 0 <;> simp [e0]
      rw [ea]
      exact hcell
    have h1 : ∀ v ∈ ((List.range (min k N)).map fun i => Value.int .i64 (h i)), v.oneCell' = true := fun u hu => by
      simp at hu
      obtain ⟨i, _, rfl⟩ := hu
      rfl
    refine ⟨w.setRow g (ints N (cpF f h (min k N))), fun ty => ?_, hrow.row _, Below.setRow hb g hBg _⟩
    have hr := run_copy_row (P := Try.prog) w 22 22 ty 3 g 0 N N ⟨b, o', none⟩ k cap (ints N f) 3 ((List.range (min k N)).map fun i => Value.int .i64 (h i)) Try.underlying22 hsz hrow hl hsrc (by rw [hl, ints_size]; omega) h1
    rw [hr]
    have hs := splice_ints (N := N) (k := min k N) (by omega) f h
    unfold splice at hs
    rw [← List.append_assoc] at hs
    rw [hs, hl]
    rfl
theorem sgE_split (n s : Int) (m : Nat) (f : Nat → Int) : sgE n 2 (or2 1 m) (or2 (fun _ => s) f) = if n < 2 ∨ 64 < n then 1 else if (s < 0 ∨ n ≤ s) ∨ inB n m f = false then 3 else 0 := by
  rw [sgE_two]
  by_cases h : n < 2 ∨ 64 < n
  · rw [if_pos h, if_pos h]
  rw [if_neg h, if_neg h]
  by_cases h2 : (s < 0 ∨ n ≤ s) ∨ inB n m f = false
  · rw [if_pos h2, if_pos (by rw [inB_one]; exact h2)]
  · rw [if_neg h2, if_neg (by rw [inB_one]; exact h2)]
/-- signsWrong(n, []int{s}, chance). -/
theorem psig_split (n s : Int) (v : Value) (m : Nat) (f : Nat → Int) (w : World) (hv : NumsAt w v m f) : Calls Try.prog 31 #[.int .i64 n, .slice (some ⟨w.heap.size + 1, 0, none⟩) 2 2] ((w.alloc (.cells #[.int .i64 s] 3)).alloc (.cells #[.slice (some ⟨w.heap.size, 0, none⟩) 1 1, v] 22)) fun e w' => (w.alloc (.cells #[.int .i64 s] 3)).alloc (.cells #[.slice (some ⟨w.heap.size, 0, none⟩) 1 1, v] 22) = w' ∧ e = .returned (.int .i64 (if n < 2 ∨ 64 < n then 1 else if (s < 0 ∨ n ≤ s) ∨ inB n m f = false then 3 else 0)) := by
  have h := two_mat (w.alloc (.cells #[.int .i64 s] 3)) _ v 1 m (fun _ => s) f (one_num w s) (hv.alloc _)
  have hz : (w.alloc (.cells #[.int .i64 s] 3)).heap.size = w.heap.size + 1 := by simp
  rw [hz] at h
  have := psig_any n _ 2 _ _ _ h
  rw [sgE_split] at this
  exact this
/-- Split's list ahead of its last sign, and with it. -/
theorem spF_last (n s : Int) (m : Nat) (f : Nat → Int) (z : Int) (hz : spF n s m f m = z) : ints (m + 1) (upd (cpF (fun _ => 0) f m) m z) = ints (m + 1) (spF n s m f) := ints_ext fun i hi => by
  unfold upd
  by_cases e : i = m
  · rw [if_pos e, e, hz]
  · rw [if_neg e]
    unfold cpF spF
    rw [if_pos (by omega), if_pos (by omega)]
end Go.Proofs.Ytlfghnngbljlhaa
