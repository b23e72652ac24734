/-
  Several texts, joined: ORPr, LOPlg.
-/
import Derived.Test.YtigamiehnjipcaaOPr
import Derived.Test.YtigamiehnjipcaaJn4
/-
  Contract of the document's Press (chapter 8).
-/
namespace Go.Proofs.Ytigamiehnjipcaa
open Go.RowKit PK Vg

theorem nums_own {W : World} {v : Value} {n : Nat} {f : Nat → Int} (h : NumsAt W v n f) (hn : 1 ≤ n) : ∃ b, v.ownBlock = some b ∧ b < W.heap.size := by
  obtain ⟨a, cap, rfl, _, h3⟩ := h
  obtain ⟨b, o, rfl, hc⟩ := h3 0 hn
  exact ⟨b, rfl, cell_block hc⟩
section
variable {w W W' : World} {a b c v7 v8 : Value} {M : Om.Ma} {ks : Nat → Int} {d k : Nat} {R : Nat → Value}
end
theorem grown_old {W : World} {B : Nat} {T : TypeId} {s n q : Nat} {v : Value} {l : List Value} (h : W.ownsRow B T s v n l) (hq : W.heap.size ≤ q) : v.ownBlock ≠ some q := fun e => by
  have := (World.ownsRow.lt h q e).2
  omega
end Go.Proofs.Ytigamiehnjipcaa

/-
  RotorPlugs, for any Write that writes what the document's writes.
-/
namespace Go.Proofs.Ytigamiehnjipcaa
open Go.RowKit PK Vg

theorem v_zero_mac : (Try.prog.info? 27).map (·.zero) = some (some (.agg (mac (.slice none 0 0) (.slice none 0 0) (.slice none 0 0) (fun _ => 0) (fun _ => 0)))) := by kernel_rfl
theorem mac_one {a b c : Value} {rf pl : Nat → Int} (ha : a.oneCell' = true) (hb : b.oneCell' = true) (hc : c.oneCell' = true) : (mac a b c rf pl).all (·.oneCell') = true := by
  unfold mac
  rw [Array.all_append, Array.all_append, ints_one, ints_one]
  simp [ha, hb, hc]
/-- A guarded load out of the midst of a block. -/
theorem wpList_load_arr_w {P : Program} {ops : Array Oper} {rest : List Oper} {op : Oper} {a : Act} {w : World} {Q : Exit → Act → World → Prop} (hw : Region.wanted op (yielded ops a.tmps) = true) (ty : TypeId) (x : Operand) (ho : op.op = .load ty x)
    (b o : Nat) (hx : a.eval x = .pointer (some ⟨b, o, none⟩)) (cs : Array Value) (d : TypeDesc) (hc : w.rangeAt b o cs.toList)
    (hu : P.underlying ty = some d) (hd : d.isRow = true) (hi : (P.info? ty).map (·.size) = some cs.size)
    (h : wpList P ops Q rest (a.put op.dst (.agg cs)) w) : wpList P ops Q (op :: rest) a w := by
  refine wpList_step fun K hK => ?_
  rw [if_pos hw]
  refine wp_load_mid ty x ho b o hx cs.toList d hc hu hd (by rw [Array.length_toList]; exact hi) ?_
  rw [Array.toArray_toList]
  exact hK _ _ h
/-- The machine, another one, and a fault. -/
structure PlS (w W : World) (a b c : Value) (rf pl pl2 : Nat → Int) (qf q : Nat) : Prop where
  mg : MgAt w W a b c rf pl
  n : RowAt W q 27 (mac a b c rf pl2)
  f : ∃ x y, RowAt W qf 39 #[x, y]
  ne : w.heap.size < q ∧ w.heap.size < qf ∧ q ≠ qf
section
variable {w W W' : World} {a b c : Value} {rf pl pl2 : Nat → Int} {qf q : Nat}
theorem PlS.step (h : PlS w W a b c rf pl pl2 qf q) (hb : Below W.heap.size W W') : PlS w W' a b c rf pl pl2 qf q := by
  obtain ⟨x, y, hf⟩ := h.f
  exact ⟨h.mg.step hb, h.n.below hb h.n.lt, ⟨x, y, hf.below hb hf.lt⟩, h.ne⟩
theorem PlS.drew (h : PlS w W a b c rf pl pl2 qf q) : PlS w W.drew a b c rf pl pl2 qf q := ⟨h.mg.drew, h.n, h.f, h.ne⟩
theorem PlS.row (h : PlS w W a b c rf pl pl2 qf q) (x y : Value) : PlS w (W.setRow qf #[x, y]) a b c rf pl pl2 qf q := by
  obtain ⟨x', y', hf⟩ := h.f
  have := h.ne
  exact ⟨h.mg.setRow _ (by omega) _, h.n.rowOther _ _ (by omega), ⟨x, y, hf.row _⟩, h.ne⟩
end
theorem gE_of {g : Gm} (h1 : 1 ≤ g.n ∧ g.n ≤ 4) (h2 : whE g g.n = 0) (h3 : g.rl = g.n ∧ ins g.rl g.ri = true) (h4 : g.sl = g.n ∧ ins g.sl g.st = true) (h5 : Pm.wrong g.rf = 0 ∧ undo true g.rf = true) (h6 : Pm.wrong g.pl = 0) (h7 : undo false g.pl = true) : gE g = 0 := by
  unfold gE
  rw [if_neg (by omega), if_neg (fun e => e h2), if_neg (fun e => e h3.1), if_neg (by rw [h3.2]; decide), if_neg (fun e => e h4.1), if_neg (by rw [h4.2]; decide), if_neg (fun e => e h5.1), if_neg (by rw [h5.2]; decide), if_neg (fun e => e h6), if_neg (by rw [h7]; decide)]
/-- The machine without plugs. -/
def bare (g : Gm) : Gm := { g with pl := Pm.up fun i => i }
theorem whE_bare (g : Gm) : ∀ n, whE (bare g) n = whE g n
  | 0 => rfl
  | n + 1 => by
    show (if whE (bare g) n ≠ 0 then whE (bare g) n else if Pm.wrong (g.wi n) ≠ 0 then Pm.wrong (g.wi n) else if ins (g.nl n) (g.no n) = true then 0 else 3) = (if whE g n ≠ 0 then whE g n else if Pm.wrong (g.wi n) ≠ 0 then Pm.wrong (g.wi n) else if ins (g.nl n) (g.no n) = true then 0 else 3)
    rw [whE_bare g n]
theorem gE_bare {g : Gm} (h : gE g = 0) : gE (bare g) = 0 := by
  obtain ⟨h1, h2, h3, h4, h5, _, _⟩ := gE_zero h
  refine gE_of h1 (by rw [whE_bare]; exact h2) h3 h4 h5 (Pm.wrong_up _ Pm.IsPerm.id) ((undo_iff _ _).2 fun i hi => ⟨rfl, fun e => by cases e⟩)
theorem ma_bare (g : Gm) : maOf (bare g) = Om.unplugged (maOf g) := rfl
theorem one_nums {W : World} {v : Value} {n : Nat} {f : Nat → Int} (h : NumsAt W v n f) : v.oneCell' = true := by
  obtain ⟨a, c, e, _⟩ := h
  rw [e]
  rfl
theorem one_wheels {W : World} {v : Value} {n : Nat} {wi : Nat → Nat → Int} {nl : Nat → Nat} {no : Nat → Nat → Int} (h : WheelsAt W v n wi nl no) : v.oneCell' = true := by
  obtain ⟨a, c, R, e, _⟩ := h
  rw [e]
  rfl
end Go.Proofs.Ytigamiehnjipcaa
