/-
  A machine as an argument (chapter 13): its cells, and what lies behind its slices.
-/
import Derived.Test.YtbcjblakknfhmaaTeM
import Derived.Deep.MidRow
namespace Go.Proofs.Ytbcjblakknfhmaa
open Go.RowKit PK Tl

/-- A wheel's pins, as they lie behind a slice. -/
def PinsAt (W : World) (v : Value) (n : Nat) (p : Nat → Bool) : Prop :=
  ∃ (a : Option Addr) (cap : Nat), v = .slice a n cap ∧ n ≤ maxLen ∧ ∀ c, c < n → ∃ b o, a = some ⟨b, o, none⟩ ∧ W.cell? ⟨b, o + c, none⟩ = some (.bool (p c))
theorem PinsAt.below {w w' : World} {v : Value} {n : Nat} {p : Nat → Bool} (h : PinsAt w v n p) (hb : Below w.heap.size w w') : PinsAt w' v n p := by
  obtain ⟨a, cap, h1, h2, h3⟩ := h
  refine ⟨a, cap, h1, h2, fun c hc => ?_⟩
  obtain ⟨b, o, e, hcell⟩ := h3 c hc
  exact ⟨b, o, e, (hb.cell (p := ⟨b, o + c, none⟩) (cell_block hcell)).trans hcell⟩
theorem PinsAt.form {w : World} {v : Value} {n : Nat} {p : Nat → Bool} (h : PinsAt w v n p) (hn : 0 < n) : ∃ b o cap, v = .slice (some ⟨b, o, none⟩) n cap ∧ n ≤ maxLen ∧ ∀ c, c < n → w.cell? ⟨b, o + c, none⟩ = some (.bool (p c)) := by
  obtain ⟨a, cap, h1, h2, h3⟩ := h
  obtain ⟨b, o, e, _⟩ := h3 0 hn
  subst e
  refine ⟨b, o, cap, h1, h2, fun c hc => ?_⟩
  obtain ⟨b', o', e', hcell⟩ := h3 c hc
  cases e'
  exact hcell
/-- A machine's 22 cells. -/
def teC (R : Nat → Value) (a : Nat → Int) (i : Nat) : Value := if i < 11 then R i else .int .i64 (a (i - 11))
def teA (R : Nat → Value) (a : Nat → Int) : Array Value := tab 22 (teC R a)
theorem teA_size (R : Nat → Value) (a : Nat → Int) : (teA R a).size = 22 := tab_size _ _
theorem teA_wheel (R : Nat → Value) (a : Nat → Int) {k : Nat} (hk : k < 11) : (teA R a)[k]? = some (R k) := by
  rw [teA, tab_get _ (by omega), teC, if_pos hk]
theorem teA_place (R : Nat → Value) (a : Nat → Int) {k : Nat} (hk : k < 11) : (teA R a)[11 + k]? = some (.int .i64 (a k)) := by
  rw [teA, tab_get _ (by omega), teC, if_neg (by omega), show 11 + k - 11 = k by omega]
theorem teA_ext {R : Nat → Value} {a b : Nat → Int} (h : ∀ k, k < 11 → a k = b k) : teA R a = teA R b := tab_ext fun i hi => by
  unfold teC
  by_cases e : i < 11
  · rw [if_pos e, if_pos e]
  · rw [if_neg e, if_neg e, h _ (by omega)]
theorem teA_one {R : Nat → Value} {a : Nat → Int} (h : ∀ k, k < 11 → (R k).oneCell' = true) : (teA R a).all (·.oneCell') = true := by
  rw [Array.all_eq_true_iff_forall_mem]
  intro v hv
  simp [teA, tab] at hv
  obtain ⟨i, hi, rfl⟩ := hv
  unfold teC
  by_cases e : i < 11
  · rw [if_pos e]; exact h i e
  · rw [if_neg e]; rfl
def TeAt (W : World) (v : Value) (T : Te) : Prop := ∃ R : Nat → Value, v = .agg (teA R T.pl) ∧ ∀ k, k < 11 → PinsAt W (R k) (T.ln k) (T.pin k)
theorem TeAt.below {w w' : World} {v : Value} {T : Te} (h : TeAt w v T) (hb : Below w.heap.size w w') : TeAt w' v T := by
  obtain ⟨R, e, h1⟩ := h
  exact ⟨R, e, fun k hk => (h1 k hk).below hb⟩
section
variable {W : World} {b : Nat} {T : TypeId} {R : Nat → Value} {a : Nat → Int}
theorem te_chi (h : RowAt W b T (teA R a)) : W.rangeAt b 0 (tab 5 R).toList := row_mid h 0 _ fun i v hv => by
  have hi : i < 5 := by have := (Array.getElem?_eq_some_iff.1 hv).1; rwa [tab_size] at this
  rw [tab_get _ hi] at hv
  rw [Nat.zero_add, teA_wheel _ _ (by omega)]
  exact hv
theorem te_psi (h : RowAt W b T (teA R a)) : W.rangeAt b 5 (tab 5 fun k => R (5 + k)).toList := row_mid h 5 _ fun i v hv => by
  have hi : i < 5 := by have := (Array.getElem?_eq_some_iff.1 hv).1; rwa [tab_size] at this
  rw [tab_get _ hi] at hv
  rw [teA_wheel _ _ (by omega)]
  exact hv
theorem te_chiAt (h : RowAt W b T (teA R a)) : W.rangeAt b 11 (ints 5 a).toList := row_mid h 11 _ fun i v hv => by
  have hi : i < 5 := by have := (Array.getElem?_eq_some_iff.1 hv).1; rwa [ints_size] at this
  rw [ints_get _ hi] at hv
  rw [teA_place _ _ (by omega)]
  exact hv
theorem te_psiAt (h : RowAt W b T (teA R a)) : W.rangeAt b 16 (ints 5 fun k => a (5 + k)).toList := row_mid h 16 _ fun i v hv => by
  have hi : i < 5 := by have := (Array.getElem?_eq_some_iff.1 hv).1; rwa [ints_size] at this
  rw [ints_get _ hi] at hv
  rw [show 16 + i = 11 + (5 + i) by omega, teA_place _ _ (by omega)]
  exact hv
theorem te_wheel (h : RowAt W b T (teA R a)) {k : Nat} (hk : k < 11) : W.cell? ⟨b, k, none⟩ = some (R k) := h.cell (teA_wheel _ _ hk)
theorem te_place (h : RowAt W b T (teA R a)) {k : Nat} (hk : k < 11) : W.cell? ⟨b, 11 + k, none⟩ = some (.int .i64 (a k)) := h.cell (teA_place _ _ hk)
end
/-- The five of Chi, the five of Psi gone on. -/
theorem teA_chi (R : Nat → Value) (a g : Nat → Int) : setMany (teA R a) 11 (ints 5 g).toList = teA R fun k => if k < 5 then g k else a k := by
  have hl : (ints 5 g).toList.length = 5 := by rw [Array.length_toList, ints_size]
  apply Array.ext_getElem?
  intro i
  rw [setMany_get _ _ _ _ (by rw [hl, teA_size]; decide), hl]
  by_cases h : 11 ≤ i ∧ i < 11 + 5
  · rw [if_pos h, Array.getElem?_toList, ints_get _ (by omega)]
    have := teA_place R (fun k => if k < 5 then g k else a k) (k := i - 11) (by omega)
    rw [show 11 + (i - 11) = i by omega, if_pos (by omega)] at this
    exact this.symm
  · rw [if_neg h]
    by_cases h2 : i < 22
    · rw [teA, teA, tab_get _ h2, tab_get _ h2]
      unfold teC
      by_cases h3 : i < 11
      · rw [if_pos h3, if_pos h3]
      · rw [if_neg h3, if_neg h3]; dsimp only; rw [if_neg (by omega)]
    · rw [Array.getElem?_eq_none (by rw [teA_size]; omega), Array.getElem?_eq_none (by rw [teA_size]; omega)]
theorem teA_psi (R : Nat → Value) (a g : Nat → Int) : setMany (teA R a) 16 (ints 5 g).toList = teA R fun k => if 5 ≤ k ∧ k < 10 then g (k - 5) else a k := by
  have hl : (ints 5 g).toList.length = 5 := by rw [Array.length_toList, ints_size]
  apply Array.ext_getElem?
  intro i
  rw [setMany_get _ _ _ _ (by rw [hl, teA_size]; decide), hl]
  by_cases h : 16 ≤ i ∧ i < 16 + 5
  · rw [if_pos h, Array.getElem?_toList, ints_get _ (by omega)]
    have := teA_place R (fun k => if 5 ≤ k ∧ k < 10 then g (k - 5) else a k) (k := i - 11) (by omega)
    rw [show 11 + (i - 11) = i by omega, if_pos (by omega), show i - 11 - 5 = i - 16 by omega] at this
    exact this.symm
  · rw [if_neg h]
    by_cases h2 : i < 22
    · rw [teA, teA, tab_get _ h2, tab_get _ h2]
      unfold teC
      by_cases h3 : i < 11
      · rw [if_pos h3, if_pos h3]
      · rw [if_neg h3, if_neg h3]; dsimp only; rw [if_neg (by omega)]
    · rw [Array.getElem?_eq_none (by rw [teA_size]; omega), Array.getElem?_eq_none (by rw [teA_size]; omega)]
theorem teA_motor (R : Nat → Value) (a : Nat → Int) (x : Int) : (teA R a).setIfInBounds 21 (.int .i64 x) = teA R fun k => if k = 10 then x else a k := by
  unfold teA
  rw [tab_set]
  refine tab_ext fun i hi => ?_
  unfold upd teC
  by_cases h1 : i = 21
  · subst h1; rfl
  · rw [if_neg h1]
    by_cases h3 : i < 11
    · rw [if_pos h3, if_pos h3]
    · rw [if_neg h3, if_neg h3]; dsimp only; rw [if_neg (by omega)]
/-- 'p[k]' of an array's value whose elements are slices. -/
theorem run_index_tab {P : Program} (t e e' : TypeId) (n : Nat) (hu : P.underlying t = some (.array n e)) (he : P.underlying e = some (.slice e')) (hs : (P.info? e).map (·.size) = some 1) (f : Nat → Value) (k : Nat) (hk : k < n) (w : World) :
    (Instr.index t (.agg (tab n f)) (.int .i64 (k : Int))).run P w = .ok (f k) w := by
  cases hq : P.info? e with
  | none => simp [hq] at hs
  | some i =>
    have h1 : i.size = 1 := by simpa [hq] using hs
    have h2 : ((k : Int) < (n : Int)) := by omega
    simp [Instr.index, asIntOf, Sem.run_bind, run_underlying hu, part, isAgg, run_underlying he, sizeOf, typeInfo, hq, h1, hk, tab_get f hk]
theorem t_info_tele : (Try.prog.info? 27).map (·.size) = some 22 := by kernel_rfl
theorem t_info_fivep : (Try.prog.info? 24).map (·.size) = some 5 := by kernel_rfl
theorem t_info_fivei : (Try.prog.info? 25).map (·.size) = some 5 := by kernel_rfl
theorem t_info_pins : (Try.prog.info? 23).map (·.size) = some 1 := by kernel_rfl
theorem t_zero_fivei : (Try.prog.info? 25).map (·.zero) = some (some (.agg (ints 5 fun _ => 0))) := by kernel_rfl
theorem index_pins (f : Nat → Value) {k : Nat} (hk : k < 5) (w : World) : (Instr.index 24 (.agg (tab 5 f)) (.int .i64 (k : Int))).run Try.prog w = .ok (f k) w := run_index_tab 24 23 4 5 Try.underlying24 Try.underlying23 t_info_pins f k hk w
theorem wpList_load_arr {P : Program} {ops : Array Oper} {rest : List Oper} {op : Oper} {a : Act} {w : World} {Q : Exit → Act → World → Prop} (hgd : op.guard = none) (ty : TypeId) (x : Operand) (ho : op.op = .load ty x)
    (b o : Nat) (hx : a.eval x = .pointer (some ⟨b, o, none⟩)) (cs : Array Value) (d : TypeDesc) (hc : w.rangeAt b o cs.toList)
    (hu : P.underlying ty = some d) (hd : d.isRow = true) (hi : (P.info? ty).map (·.size) = some cs.size)
    (h : wpList P ops Q rest (a.put op.dst (.agg cs)) w) : wpList P ops Q (op :: rest) a w :=
  wpList_load_mid hgd ty x ho b o hx cs.toList d hc hu hd (by rw [Array.length_toList]; exact hi) (by rw [Array.toArray_toList]; exact h)
/-- The box of a machine that was handed in. -/
structure TgAt (w W : World) (R : Nat → Value) (a : Nat → Int) : Prop where
  row : RowAt W w.heap.size 27 (teA R a)
  below : Below w.heap.size w W
theorem TgAt.new (w : World) (R : Nat → Value) (a : Nat → Int) : TgAt w (w.alloc (.cells (teA R a) 27)) R a := ⟨RowAt.new w _ _, (Below.refl _ w).alloc (Nat.le_refl _) _⟩
section
variable {w W W' : World} {R : Nat → Value} {a : Nat → Int}
theorem TgAt.step (h : TgAt w W R a) (hb : Below W.heap.size W W') : TgAt w W' R a := ⟨h.row.below hb h.row.lt, h.below.trans (hb.mono h.below.size)⟩
theorem TgAt.alloc (h : TgAt w W R a) (o : Obj) : TgAt w (W.alloc o) R a := h.step ((Below.refl _ _).alloc (Nat.le_refl _) o)
theorem TgAt.drew (h : TgAt w W R a) : TgAt w W.drew R a := ⟨h.row, h.below.drew⟩
theorem TgAt.lt (h : TgAt w W R a) : w.heap.size < W.heap.size := h.row.lt
theorem TgAt.grown {r : Option Nat} (h : TgAt w W R a) (hg : W.grownBy W' r) (hr : ∀ p, r = some p → w.heap.size < p) : TgAt w W' R a :=
  ⟨(hg.block w.heap.size h.row.lt (fun e => by have := hr _ e.symm; omega)).trans h.row, h.below.grown hg h.below.size (fun p hp => by have := hr p hp; omega)⟩
end
theorem rg_refl (w : World) (r : Option Nat) : w.grownBy w r := ⟨rfl, rfl, rfl, Nat.le_refl _, fun _ _ _ => rfl⟩
theorem rg_below {a w w' : World} {r : Option Nat} (h : a.grownBy w r) (k : Below w.heap.size w w') : a.grownBy w' r := ⟨k.os.trans h.os, k.tape.trans h.tape, k.output.trans h.output, Nat.le_trans h.size k.size, fun i hi hne => (k.block i (Nat.lt_of_lt_of_le hi h.size)).trans (h.block i hi hne)⟩
theorem rg_set {a w : World} {g : Nat} (h : a.grownBy w (some g)) (i : Nat) (v : Value) : a.grownBy (w.setCell ⟨g, i, none⟩ v) (some g) := grown_trans h (grown_set w g i v)
theorem rg_sets {g : Nat} : ∀ {l : List Value} {o : Nat} {a w : World}, a.grownBy w (some g) → a.grownBy (w.setCells g o l) (some g)
  | [], _, _, _, h => h
  | v :: l, o, _, _, h => rg_sets (l := l) (rg_set h o v)
theorem rg_to {w w' : World} {g B : Nat} (h : w.grownBy w' (some g)) (hB : B ≤ w.heap.size) (hg : B ≤ g) : Below B w w' := ⟨h.os, h.tape, h.output, h.size, fun k hk => h.block k (by omega) (by intro e; cases e; omega)⟩
theorem rg_drew {a w : World} {r : Option Nat} (h : a.grownBy w r) : a.grownBy w.drew r := ⟨h.os, h.tape, h.output, h.size, h.block⟩
end Go.Proofs.Ytbcjblakknfhmaa
