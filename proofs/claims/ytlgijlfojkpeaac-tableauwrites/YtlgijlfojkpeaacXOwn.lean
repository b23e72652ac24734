/-
  Laws of no program: bytes in a row that nothing bars from being written (what []byte(s) makes, too), appended to.
-/
import Derived.Test.YtlgijlfojkpeaacXWr
import Derived.Deep.AppendSrc
import Derived.Deep.Upon
import Derived.Lib.EndianMore
import Derived.Maps.AppendAt
namespace Go.Proofs.Ytlgijlfojkpeaac
open Go.RowKit PK Vg

/-- Block g holds the bytes l, with room for cap of them. -/
def OwnC (w : World) (g cap : Nat) (l : List UInt8) : Prop :=
  g < w.heap.size ∧ l.length ≤ cap ∧ cap ≤ maxLen ∧ (∀ j, j < l.length → w.cell? ⟨g, j, none⟩ = some (.int .u8 (l.getD j 0).toNat)) ∧ ∀ j, j < cap → (w.cell? ⟨g, j, none⟩).isSome = true ∧ w.frozen? ⟨g, j, none⟩ = false
theorem OwnC.kept {w w' : World} {g cap : Nat} {l : List UInt8} (h : OwnC w g cap l) (hs : w.heap.size ≤ w'.heap.size) (hb : w'.heap[g]? = w.heap[g]?) : OwnC w' g cap l := by
  obtain ⟨h1, h2, h3, h4, h5⟩ := h
  refine ⟨by omega, h2, h3, fun j hj => ?_, fun j hj => ?_⟩
  · exact (World.cell?_of_block (a := ⟨g, j, none⟩) hb).trans (h4 j hj)
  · have e := World.cell?_of_block (a := ⟨g, j, none⟩) hb
    have e2 := World.frozen?_of_block (a := ⟨g, j, none⟩) hb
    rw [e, e2]
    exact h5 j hj
theorem OwnC.grown {w w' : World} {g cap : Nat} {l : List UInt8} {row : Option Nat} (h : OwnC w g cap l) (hg : w.grownBy w' row) (hne : some g ≠ row) : OwnC w' g cap l := h.kept hg.size (hg.block g h.1 hne)
theorem OwnC.alloc {w : World} {g cap : Nat} {l : List UInt8} (h : OwnC w g cap l) (o : Obj) : OwnC (w.alloc o) g cap l := h.grown (World.grownBy_alloc w o none) (by simp)
theorem OwnC.drew {w : World} {g cap : Nat} {l : List UInt8} (h : OwnC w g cap l) : OwnC w.drew g cap l := h
/-- What []byte(s) makes. -/
theorem OwnC.bytes (w : World) (e : TypeId) (s : ByteArray) (hs : s.size ≤ maxLen) : OwnC (Lib.bytesWorld w e s) w.heap.size (grownCap w s.size 0 e) s.data.toList := by
  have hl := Pl.size_len s
  have hge := grownCap_ge w s.size 0 e
  refine ⟨by rw [Lib.bytesWorld_size]; omega, by omega, grownCap_le_maxLen w s.size 0 e hs, fun j hj => Lib.bytesWorld_cell w e s j (by omega), fun j hj => ?_⟩
  have hn := Lib.bytesWorld_at_new w e s
  have hsz : (Lib.bytesCells w e s).size = grownCap w s.size 0 e := by
    unfold Lib.bytesCells
    have h1 : s.data.size = s.size := rfl
    simp [h1]; omega
  constructor
  · unfold World.cell?
    simp only [hn]
    simp [hsz, hj]
  · unfold World.frozen?
    simp only [hn]
    simp [hsz]
    omega
theorem getD_append_left {a b : List UInt8} {j : Nat} (h : j < a.length) : (a ++ b).getD j 0 = a.getD j 0 := by simp only [List.getD_eq_getElem?_getD]; rw [List.getElem?_append_left h]
theorem getD_append_right {a b : List UInt8} {j : Nat} (h : a.length ≤ j) : (a ++ b).getD j 0 = b.getD (j - a.length) 0 := by simp only [List.getD_eq_getElem?_getD]; rw [List.getElem?_append_right h]
theorem byteCells_at (l : List UInt8) {j : Nat} (h : j < l.length) : (Lib.byteCells l)[j]? = some (.int .u8 (l.getD j 0).toNat) := by
  simp [Lib.byteCells, List.getD, h]
theorem addr_add (g j : Nat) : ((⟨g, 0, none⟩ : Addr).add j) = ⟨g, j, none⟩ := by unfold Addr.add; by_cases e0 : j = 0 <;> simp [e0]
theorem run_append_ownC {P : Program} (w : World) (t tx ty e : TypeId) (i : TypeInfo) (ht : P.underlying t = some (.slice e)) (hi : P.info? e = some i) (hz : i.zero = some (.int .u8 0)) (hsize : i.size = 1) (hby : i.bytes = 1)
    {g cap : Nat} {l : List UInt8} (h : OwnC w g cap l) (x : Value) (l2 : List UInt8) (hs : Src P 1 tx x l2.length (Lib.byteCells l2) w) (hlen : l.length + l2.length ≤ 1000000) :
    ∃ g' cap' w', (Builtin.append_ #[t, tx] ty #[.slice (some ⟨g, 0, none⟩) l.length cap, x]).run P w = .ok (.slice (some ⟨g', 0, none⟩) (l ++ l2).length cap') w' ∧ OwnC w' g' cap' (l ++ l2) ∧ w.grownBy w' (some g) ∧ (g' = g ∨ g' = w.heap.size) := by
  obtain ⟨h1, h2, h3, h4, h5⟩ := h
  have hbl : (Lib.byteCells l2).length = l2.length := by simp [Lib.byteCells]
  by_cases hroom : l.length + l2.length ≤ cap
  · have hsome : ∀ j, j < (Lib.byteCells l2).length → (w.cell? ⟨g, l.length + j, none⟩).isSome = true := fun j hj => (h5 _ (by omega)).1
    have hr := run_append_room_src (P := P) w t tx ty e i ht hi g 0 l.length cap x l2.length (Lib.byteCells l2) (by rw [hsize]; exact hs) hroom (by rw [hsize]; simpa using hsome) (by rw [hsize]; intro j hj; simpa using (h5 (l.length + j) (by omega)).2)
    rw [hsize, Nat.zero_add, Nat.mul_one] at hr
    refine ⟨g, cap, _, by rw [hr, List.length_append], ⟨?_, by rw [List.length_append]; exact hroom, h3, fun j hj => ?_, fun j hj => ?_⟩, ?_, .inl rfl⟩
    · have := (Lib.below_setCells_w (B := 0) (Nat.zero_le g) (Lib.byteCells l2) l.length w).size
      omega
    · rw [List.length_append] at hj
      by_cases hjl : j < l.length
      · rw [World.cell?_setCells_out g _ _ _ _ (fun _ _ => .inl hjl), getD_append_left hjl]
        exact h4 j hjl
      · have hin := World.cell?_setCells_in g (Lib.byteCells l2) l.length w hsome (j - l.length) (by omega)
        rw [show l.length + (j - l.length) = j by omega] at hin
        rw [hin, getD_append_right (by omega), ← byteCells_at l2 (by omega), List.getElem?_eq_getElem (by omega)]
    · refine ⟨?_, ?_⟩
      · by_cases hc : l.length ≤ j ∧ j < l.length + (Lib.byteCells l2).length
        · have hin := World.cell?_setCells_in g (Lib.byteCells l2) l.length w hsome (j - l.length) (by omega)
          rw [show l.length + (j - l.length) = j by omega] at hin
          rw [hin]; rfl
        · rw [World.cell?_setCells_out g _ _ _ _ (fun _ _ => by show j < _ ∨ _ ≤ j; omega)]
          exact (h5 j hj).1
      · rw [World.frozen?_setCells]; exact (h5 j hj).2
    · have hb := Lib.below_setCells_w (B := 0) (Nat.zero_le g) (Lib.byteCells l2) l.length w
      exact ⟨hb.os, hb.tape, hb.output, hb.size, fun k hk hne => World.heap_setCells_other w g _ _ hk (fun e => hne (by rw [e]))⟩
  · have hold := run_firstCells_some (P := P) w.drew 1 l.length ⟨g, 0, none⟩ l.length cap (Lib.byteCells l) (by simp [Lib.byteCells]) (fun j v hv => by
      have hj : j < l.length := by
        have := (List.getElem?_eq_some_iff.1 hv).1
        simpa [Lib.byteCells] using this
      rw [byteCells_at l hj] at hv
      cases hv
      rw [addr_add]
      exact h4 j hj)
    have hfit := growslice_fits (need := l.length + l2.length) (old := cap) (bytes := 1) (by omega) (by omega)
    have hr := run_append_grow_src (P := P) w t tx ty e i (.int .u8 0) ht hi hz (some ⟨g, 0, none⟩) l.length cap (Lib.byteCells l) (by rw [hsize]; exact hold) x l2.length (Lib.byteCells l2) (by rw [hsize]; exact hs) (by omega) (by omega) (by rw [hby]; exact hfit)
    have hge := grownCap_ge w (l.length + l2.length) cap e
    have hbl1 : (Lib.byteCells l).length = l.length := by simp [Lib.byteCells]
    refine ⟨w.heap.size, _, _, by rw [hr, List.length_append], ⟨by simp, by rw [List.length_append]; exact hge, grownCap_le_maxLen w _ cap e (by unfold maxLen; omega), fun j hj => ?_, fun j hj => ?_⟩, ?_, .inr rfl⟩
    · rw [List.length_append] at hj
      have hc := World.cell?_alloc_new w.drew ((Lib.byteCells l ++ Lib.byteCells l2).toArray ++ Builtin.zeroCells (Value.int .u8 0).cells (grownCap w (l.length + l2.length) cap e - (l.length + l2.length))) e j
      refine Eq.trans hc ?_
      rw [Array.getElem?_append_left (by simp [hbl, hbl1]; omega)]
      have : Lib.byteCells l ++ Lib.byteCells l2 = Lib.byteCells (l ++ l2) := by simp [Lib.byteCells]
      rw [this]
      have h9 := byteCells_at (l ++ l2) (j := j) (by rw [List.length_append]; exact hj)
      simpa using h9
    · refine ⟨?_, World.frozen?_alloc_new w.drew _ e j⟩
      have hc := World.cell?_alloc_new w.drew ((Lib.byteCells l ++ Lib.byteCells l2).toArray ++ Builtin.zeroCells (Value.int .u8 0).cells (grownCap w (l.length + l2.length) cap e - (l.length + l2.length))) e j
      have hcs : ((Lib.byteCells l ++ Lib.byteCells l2).toArray ++ Builtin.zeroCells (Value.int .u8 0).cells (grownCap w (l.length + l2.length) cap e - (l.length + l2.length))).size = grownCap w (l.length + l2.length) cap e := by
        simp [Builtin.zeroCells, Value.cells, hbl, hbl1]; omega
      rw [show ((w.drew.alloc (.cells ((Lib.byteCells l ++ Lib.byteCells l2).toArray ++ Builtin.zeroCells (Value.int .u8 0).cells (grownCap w (l.length + l2.length) cap e - (l.length + l2.length))) e)).cell? ⟨w.heap.size, j, none⟩) = _ from hc]
      rw [Array.getElem?_eq_getElem (by omega)]
      rfl
    · have hb := ((Below.refl 0 w).drew).alloc (Nat.zero_le _) (.cells ((Lib.byteCells l ++ Lib.byteCells l2).toArray ++ Builtin.zeroCells (Value.int .u8 0).cells (grownCap w (l.length + l2.length) cap e - (l.length + l2.length))) e)
      exact ⟨hb.os, hb.tape, hb.output, hb.size, fun k hk _ => Below.heap_alloc w.drew _ k hk⟩
theorem wpList_append_ownC {P : Program} (w : World) {ops : Array Oper} {rest : List Oper} {o : Oper} {a : Act} {Q : Exit → Act → World → Prop} (hgd : o.guard = none) (s x : Operand) (t tx : TypeId) (ho : o.op = .call { callee := .builtin .append, args := #[s, x], argTypes := #[t, tx] })
    (e : TypeId) (i : TypeInfo) (ht : P.underlying t = some (.slice e)) (hi : P.info? e = some i) (hz : i.zero = some (.int .u8 0)) (hsize : i.size = 1) (hby : i.bytes = 1)
    {g cap : Nat} {l : List UInt8} (hs : a.eval s = .slice (some ⟨g, 0, none⟩) l.length cap) (h : OwnC w g cap l) (xv : Value) (hx : a.eval x = xv) (l2 : List UInt8) (hsr : Src P 1 tx xv l2.length (Lib.byteCells l2) w) (hlen : l.length + l2.length ≤ 1000000)
    (hK : ∀ g' cap' w', OwnC w' g' cap' (l ++ l2) → w.grownBy w' (some g) → (g' = g ∨ g' = w.heap.size) → wpList P ops Q rest (a.put o.dst (.slice (some ⟨g', 0, none⟩) (l ++ l2).length cap')) w') : wpList P ops Q (o :: rest) a w := by
  refine wpList_plain hgd fun K hK' => ?_
  obtain ⟨g', cap', w', hr, h2, h3, h4⟩ := run_append_ownC (P := P) w t tx o.type e i ht hi hz hsize hby h xv l2 hsr hlen
  unfold Oper.wp execOp
  simp only [ho, resolve, invoke, builtin, Sem.run_bind, Sem.run_pure, Result.andThen_ok, List.map_toArray, List.map_cons, List.map_nil, hs, hx, hr]
  exact hK' _ _ (hK g' cap' w' h2 h3 h4)
end Go.Proofs.Ytlgijlfojkpeaac
