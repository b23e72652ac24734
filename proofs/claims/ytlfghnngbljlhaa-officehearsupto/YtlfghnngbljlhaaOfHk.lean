/-
  Steps that a law makes, in memory (chapter 16).
-/
import Derived.Test.YtlfghnngbljlhaaOfA
import Derived.Test.YtlfghnngbljlhaaOfHe
import Derived.Test.YtlfghnngbljlhaaClK
import Derived.Maps.AppendAt
namespace Go.Proofs.Ytlfghnngbljlhaa
open Go.RowKit PK Pd

/-- Steps, cell by cell: those that a list names. -/
def stl (X : Nat → Oc.Sp) (R : Nat → Value) : List Nat → List Value
  | [] => []
  | i :: l => (stc (X i) (R i)).toList ++ stl X R l
theorem stl_length (X : Nat → Oc.Sp) (R : Nat → Value) : ∀ l, (stl X R l).length = l.length * 6
  | [] => rfl
  | i :: l => by
    show ((stc (X i) (R i)).toList ++ stl X R l).length = _
    rw [List.length_append, stl_length X R l]
    simp [stc]
    omega
theorem stl_app (X : Nat → Oc.Sp) (R : Nat → Value) (i : Nat) : ∀ l, stl X R (l ++ [i]) = stl X R l ++ (stc (X i) (R i)).toList
  | [] => by simp [stl]
  | j :: l => by
    show (stc (X j) (R j)).toList ++ stl X R (l ++ [i]) = _
    rw [stl_app X R i l, ← List.append_assoc]
    rfl
theorem stl_at (X : Nat → Oc.Sp) (R : Nat → Value) : ∀ (l : List Nat) (j c : Nat) (v : Value), j < l.length → (stc (X (l.getD j 0)) (R (l.getD j 0)))[c]? = some v → (stl X R l)[j * 6 + c]? = some v
  | [], j, c, v, hj, _ => by simp at hj
  | i :: l, 0, c, v, _, hv => by
    have hc : c < 6 := (Array.getElem?_eq_some_iff.1 hv).1
    show ((stc (X i) (R i)).toList ++ stl X R l)[0 * 6 + c]? = _
    rw [List.getElem?_append_left (by simp [stc]; omega), Array.getElem?_toList, Nat.zero_mul, Nat.zero_add]
    exact hv
  | i :: l, j + 1, c, v, hj, hv => by
    show ((stc (X i) (R i)).toList ++ stl X R l)[(j + 1) * 6 + c]? = _
    have e : (stc (X i) (R i)).toList.length = 6 := rfl
    rw [List.getElem?_append_right (by rw [e]; omega), e, show (j + 1) * 6 + c - 6 = j * 6 + c by omega]
    exact stl_at X R l j c v (by simpa using hj) hv
theorem own_stp {w : World} {B : Nat} {v : Value} {l : List Nat} {X : Nat → Oc.Sp} {R : Nat → Value} (h : w.ownsRow B 38 6 v l.length (stl X R l)) (hn : ∀ i, i ∈ l → NumsAt w (R i) (X i).tn (X i).tf) : StpAt w v l.length (fun j => X (l.getD j 0)) := by
  have hm : ∀ j, j < l.length → l.getD j 0 ∈ l := fun j hj => by
    rw [List.getD_eq_getElem?_getD, List.getElem?_eq_getElem hj]
    exact List.getElem_mem _
  rcases h.2 with ⟨rfl, h0⟩ | ⟨g, cap, cur, rfl, hB, hg, hnc, hcm, hcs, htake⟩
  · rw [h0]
    exact ⟨none, 0, fun j => R (l.getD j 0), rfl, by decide, fun i hi => by omega, fun i hi => by omega⟩
  · refine ⟨_, cap, fun j => R (l.getD j 0), rfl, by omega, fun i hi => ⟨g, 0, rfl, fun j v hv => ?_⟩, fun i hi => hn _ (hm i hi)⟩
    rw [Array.getElem?_toList] at hv
    have hj : j < 6 := (Array.getElem?_eq_some_iff.1 hv).1
    have h1 := stl_at X R l i j v hi hv
    rw [← htake, List.getElem?_take_of_lt (by omega)] at h1
    rw [Nat.zero_add]
    exact RowAt.cell (w := w) (b := g) (T := 38) hg (by simpa using h1)
theorem s_all_stp : (Try.prog.info? 38).map (fun i => (i.zero, i.size, i.bytes)) = some (some (.agg #[.int .i64 0, .bool false, .bool false, .bool false, .int .i64 0, .slice none 0 0]), 6, 48) := by kernel_rfl
theorem stc_ones (a c : Int) (x y z : Bool) (ar : Option Addr) (n cr : Nat) : ∀ u ∈ (#[.int .i64 a, .bool x, .bool y, .bool z, .int .i64 c, .slice ar n cr] : Array Value).toList, u.oneCell' = true := by
  intro u hu
  simp at hu
  rcases hu with rfl | rfl | rfl | rfl | rfl | rfl <;> rfl
theorem stp_new (V : World) (c : Array Value) : ∀ j u, c.toList[j]? = some u → (V.alloc (.cells c 38)).cell? ((⟨V.heap.size, 0, none⟩ : Addr).add j) = some u := fun j u hu => by
  rw [Addr.add_mid, Nat.zero_add]
  exact (RowAt.new V _ _).cell (by rw [← Array.getElem?_toList]; exact hu)
theorem range_next (k : Nat) : List.range (k + 1) = List.range k ++ [k] := List.range_succ
theorem range_getD {k j : Nat} (h : j < k) : (List.range k).getD j 0 = j := by simp [h]
/-- The texts are sent, in their order. -/
theorem own_all {w : World} {B k : Nat} {v : Value} {X : Nat → Oc.Sp} {R : Nat → Value} (h : w.ownsRow B 38 6 v k (stl X R (List.range k))) (hn : ∀ i, i < k → NumsAt w (R i) (X i).tn (X i).tf) : StpAt w v k X := by
  have hl : (List.range k).length = k := List.length_range
  have := own_stp (l := List.range k) (by rw [hl]; exact h) (fun i hi => hn i (List.mem_range.1 hi))
  obtain ⟨a, cap, R', e, hm, h1, h2⟩ := this
  rw [hl] at e hm h1 h2
  refine ⟨a, cap, R', e, hm, fun i hi => ?_, fun i hi => ?_⟩
  · have := h1 i hi
    simp only [range_getD hi] at this
    exact this
  · have := h2 i hi
    simp only [range_getD hi] at this
    exact this
theorem s_all_ints : (Try.prog.info? 22).map (fun i => (i.zero, i.size, i.bytes)) = some (some (.slice none 0 0), 1, 24) := by kernel_rfl
theorem gl_len (n : Int) (P : Nat) (p : Nat → Int) (L : Nat → Nat) (F : Nat → Nat → Int) : ∀ k, (Oc.gl n P p L F k).length ≤ k
  | 0 => Nat.le_refl _
  | k + 1 => by
    have := gl_len n P p L F k
    unfold Oc.gl
    split
    · simp; omega
    · omega
theorem stl_ones {X : Nat → Oc.Sp} {R : Nat → Value} : ∀ {l : List Nat}, (∀ i, i ∈ l → (R i).oneCell' = true) → ∀ u ∈ stl X R l, u.oneCell' = true
  | [], _, u, hu => by cases hu
  | i :: l, h, u, hu => by
    rcases List.mem_append.1 (show u ∈ (stc (X i) (R i)).toList ++ stl X R l from hu) with h1 | h1
    · simp [stc] at h1
      rcases h1 with rfl | rfl | rfl | rfl | rfl | rfl
      · rfl
      · rfl
      · rfl
      · rfl
      · rfl
      · exact h i (by simp)
    · exact stl_ones (fun j hj => h j (by simp [hj])) u h1
theorem wp_build1cW {P : Program} {op : Oper} {a : Act} {w : World} {K : Act → World → Prop} {Q : Exit → Act → World → Prop} (t e : TypeId) (x : Operand) (ho : op.op = .buildSlice t 1 #[(0, x)])
    (n : Nat) (z c : Array Value) (hx : a.eval x = .agg c) (hn : n * 2 ≤ 2 ^ 24) (h0 : 0 < n) (hu : P.underlying t = some (.slice e)) (hzs : z.size = n) (hc : c.size = n) (hz : (P.info? e).map (fun i => (i.zero, i.size)) = some (some (.agg z), n))
    (h : K (a.put op.dst (.slice (some ⟨w.heap.size, 0, none⟩) 1 1)) (w.alloc (.cells c e))) : op.wp P a w K Q := by
  unfold Oper.wp execOp
  have hm : (#[(0, x)] : Array (Nat × Operand)).map (fun (i, x) => (i, a.eval x)) = #[(0, .agg c)] := by simp [hx]
  simp only [ho, Sem.run_bind, hm, run_build1c w t e n hn h0 hu z c hzs hc hz, Result.andThen_ok]
  exact h
end Go.Proofs.Ytlfghnngbljlhaa
