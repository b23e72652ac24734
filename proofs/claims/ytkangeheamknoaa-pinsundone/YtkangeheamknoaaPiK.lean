/-
  A drum as an argument: its cells, and what lies behind its slices.
-/
import Derived.Test.YtkangeheamknoaaPiM
import Derived.Test.YtkangeheamknoaaRgK
import Derived.Deep.MidRow
namespace Go.Proofs.Ytkangeheamknoaa
open Go.RowKit PK Dm

/-- A wheel's pins, as they lie behind a slice. -/
def PinsAt (W : World) (v : Value) (n : Nat) (p : Nat → Bool) : Prop :=
  ∃ (a : Option Addr) (cap : Nat), v = .slice a n cap ∧ n ≤ maxLen ∧ ∀ c, c < n → ∃ b o, a = some ⟨b, o, none⟩ ∧ W.cell? ⟨b, o + c, none⟩ = some (.bool (p c))
/-- Wheels. -/
def WhAt (W : World) (v : Value) (n : Nat) (ln : Nat → Nat) (p : Nat → Nat → Bool) : Prop :=
  ∃ (a : Option Addr) (cap : Nat) (R : Nat → Value), v = .slice a n cap ∧ n ≤ maxLen ∧ (∀ r, r < n → ∃ b o, a = some ⟨b, o, none⟩ ∧ W.cell? ⟨b, o + r, none⟩ = some (R r)) ∧ ∀ r, r < n → PinsAt W (R r) (ln r) (p r)
/-- Bars. -/
def BrAt (W : World) (v : Value) (n : Nat) (f : Nat → Nat → Int) : Prop :=
  ∃ (a : Option Addr) (cap : Nat), v = .slice a n cap ∧ n ≤ maxLen ∧ ∀ r, r < n → ∃ b o, a = some ⟨b, o, none⟩ ∧ W.rangeAt b (o + r * 2) (ints 2 (f r)).toList
def DrAt (W : World) (v : Value) (D : Dr) : Prop := ∃ a b, v = .agg #[a, b] ∧ WhAt W a D.nw D.ln D.pin ∧ BrAt W b D.nb D.bar
theorem PinsAt.below {w w' : World} {v : Value} {n : Nat} {p : Nat → Bool} (h : PinsAt w v n p) (hb : Below w.heap.size w w') : PinsAt w' v n p := by
  obtain ⟨a, cap, h1, h2, h3⟩ := h
  refine ⟨a, cap, h1, h2, fun c hc => ?_⟩
  obtain ⟨b, o, e, hcell⟩ := h3 c hc
  exact ⟨b, o, e, (hb.cell (p := ⟨b, o + c, none⟩) (cell_block hcell)).trans hcell⟩
theorem WhAt.below {w w' : World} {v : Value} {n : Nat} {ln : Nat → Nat} {p : Nat → Nat → Bool} (h : WhAt w v n ln p) (hb : Below w.heap.size w w') : WhAt w' v n ln p := by
  obtain ⟨a, cap, R, h1, h2, h3, h4⟩ := h
  refine ⟨a, cap, R, h1, h2, fun r hr => ?_, fun r hr => (h4 r hr).below hb⟩
  obtain ⟨b, o, e, hcell⟩ := h3 r hr
  exact ⟨b, o, e, (hb.cell (p := ⟨b, o + r, none⟩) (cell_block hcell)).trans hcell⟩
theorem rangeAt_below {w w' : World} {b o : Nat} {l : List Value} (h : w.rangeAt b o l) (hb : Below w.heap.size w w') : w'.rangeAt b o l := fun j v hv => by
  have := h j v hv
  exact (hb.cell (p := ⟨b, o + j, none⟩) (cell_block this)).trans this
theorem BrAt.below {w w' : World} {v : Value} {n : Nat} {f : Nat → Nat → Int} (h : BrAt w v n f) (hb : Below w.heap.size w w') : BrAt w' v n f := by
  obtain ⟨a, cap, h1, h2, h3⟩ := h
  refine ⟨a, cap, h1, h2, fun r hr => ?_⟩
  obtain ⟨b, o, e, hc⟩ := h3 r hr
  exact ⟨b, o, e, rangeAt_below hc hb⟩
theorem DrAt.below {w w' : World} {v : Value} {D : Dr} (h : DrAt w v D) (hb : Below w.heap.size w w') : DrAt w' v D := by
  obtain ⟨a, b, e, h1, h2⟩ := h
  exact ⟨a, b, e, h1.below hb, h2.below hb⟩
/-- The box of a drum that was handed in. -/
structure DgAt (w W : World) (a b : Value) : Prop where
  row : RowAt W w.heap.size 25 #[a, b]
  below : Below w.heap.size w W
theorem DgAt.new (w : World) (a b : Value) : DgAt w (w.alloc (.cells #[a, b] 25)) a b := ⟨RowAt.new w _ _, (Below.refl _ w).alloc (Nat.le_refl _) _⟩
section
variable {w W W' : World} {a b : Value}
theorem DgAt.step (h : DgAt w W a b) (hb : Below W.heap.size W W') : DgAt w W' a b := ⟨h.row.below hb h.row.lt, h.below.trans (hb.mono h.below.size)⟩
theorem DgAt.alloc (h : DgAt w W a b) (o : Obj) : DgAt w (W.alloc o) a b := h.step ((Below.refl _ _).alloc (Nat.le_refl _) o)
theorem DgAt.two (h : DgAt w W a b) (A A' : Array Value) (T : TypeId) : DgAt w ((W.alloc (.cells A T)).setRow W.heap.size A') a b := ⟨(h.row.alloc _).rowOther _ _ (by have := h.row.lt; omega), Below.setRow (h.below.alloc h.below.size _) _ h.below.size _⟩
theorem DgAt.drew (h : DgAt w W a b) : DgAt w W.drew a b := ⟨h.row, h.below.drew⟩
theorem DgAt.c0 (h : DgAt w W a b) : W.cell? ⟨w.heap.size, 0, none⟩ = some a := h.row.cell rfl
theorem DgAt.c1 (h : DgAt w W a b) : W.cell? ⟨w.heap.size, 1, none⟩ = some b := h.row.cell rfl
theorem DgAt.lt (h : DgAt w W a b) : w.heap.size < W.heap.size := h.row.lt
end
theorem v_info_drum : (Try.prog.info? 25).map (·.size) = some 2 := by kernel_rfl
theorem v_info_two : (Try.prog.info? 44).map (·.size) = some 2 := by kernel_rfl
theorem v_zero_two : (Try.prog.info? 44).map (·.zero) = some (some (.agg (ints 2 fun _ => 0))) := by kernel_rfl
theorem wpList_load_arr {P : Program} {ops : Array Oper} {rest : List Oper} {op : Oper} {a : Act} {w : World} {Q : Exit → Act → World → Prop} (hgd : op.guard = none) (ty : TypeId) (x : Operand) (ho : op.op = .load ty x)
    (b o : Nat) (hx : a.eval x = .pointer (some ⟨b, o, none⟩)) (cs : Array Value) (d : TypeDesc) (hc : w.rangeAt b o cs.toList)
    (hu : P.underlying ty = some d) (hd : d.isRow = true) (hi : (P.info? ty).map (·.size) = some cs.size)
    (h : wpList P ops Q rest (a.put op.dst (.agg cs)) w) : wpList P ops Q (op :: rest) a w :=
  wpList_load_mid hgd ty x ho b o hx cs.toList d hc hu hd (by rw [Array.length_toList]; exact hi) (by rw [Array.toArray_toList]; exact h)
end Go.Proofs.Ytkangeheamknoaa
