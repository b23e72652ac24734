/-
  Contract of the document's Solved (chapter 11).
-/
import Derived.Test.YtflehdigikdhmaaRgSy
import Derived.Test.YtflehdigikdhmaaRgG
namespace Go.Proofs.Ytflehdigikdhmaa
open Go.RowKit PK Rg

theorem wpList_load_arr_w {P : Program} {ops : Array Oper} {rest : List Oper} {op : Oper} {a : Act} {w : World} {Q : Exit → Act → World → Prop} (hw : Region.wanted op (yielded ops a.tmps) = true) (ty : TypeId) (x : Operand) (ho : op.op = .load ty x)
    (b o : Nat) (hx : a.eval x = .pointer (some ⟨b, o, none⟩)) (cs : Array Value) (d : TypeDesc) (hc : w.rangeAt b o cs.toList)
    (hu : P.underlying ty = some d) (hd : d.isRow = true) (hi : (P.info? ty).map (·.size) = some cs.size)
    (h : wpList P ops Q rest (a.put op.dst (.agg cs)) w) : wpList P ops Q (op :: rest) a w := by
  refine wpList_step fun K hK => ?_
  rw [if_pos hw]
  refine wp_load_mid ty x ho b o hx cs.toList d hc hu hd (by rw [Array.length_toList]; exact hi) ?_
  rw [Array.toArray_toList]
  exact hK _ _ h
theorem made_tabT (z : Value) (n : Nat) : madeCells #[z] n = tab n fun _ => z := by
  unfold madeCells
  rw [range_tabT]
  exact tab_ext fun i _ => by simp [Nat.mod_one]
theorem g_info_bool : (Try.prog.info? 4).map (fun i => (i.zero, i.size, i.bytes)) = some (some (.bool false), 1, 1) := by kernel_rfl
/-- What is settled, as a number. -/
def sI : Option Nat → Int
  | none => -1
  | some i => (i : Nat)
/-- What Solved holds. -/
structure SvS (w W : World) (g q6 q8 m L : Nat) (R : Nat → Nat → Nat) (us : Nat → Bool) (st : Nat → Option Nat) : Prop where
  rows : ∀ r j, r < m → j < 5 → W.cell? ⟨g, r * 5 + j, none⟩ = some (.int .u64 (R r j : Nat)) ∧ W.frozen? ⟨g, r * 5 + j, none⟩ = false
  s6 : RowAt W q6 3 (ints L fun c => sI (st c))
  s8 : RowAt W q8 4 (bools m us)
  grow : w.grownBy W (some g)
  lg : g < w.heap.size
  l6 : w.heap.size ≤ q6
  l8 : q6 < q8
theorem grown_below {w W W' : World} {r : Option Nat} (h : w.grownBy W r) (hb : Below W.heap.size W W') : w.grownBy W' r := ⟨hb.os.trans h.os, hb.tape.trans h.tape, hb.output.trans h.output, Nat.le_trans h.size hb.size, fun k hk hne => (hb.block k (Nat.lt_of_lt_of_le hk h.size)).trans (h.block k hk hne)⟩
section
variable {w W W' : World} {g q6 q8 m L : Nat} {R : Nat → Nat → Nat} {us : Nat → Bool} {st : Nat → Option Nat}
theorem SvS.gW (h : SvS w W g q6 q8 m L R us st) : g < W.heap.size := Nat.lt_of_lt_of_le h.lg h.grow.size
theorem SvS.step (h : SvS w W g q6 q8 m L R us st) (hb : Below W.heap.size W W') : SvS w W' g q6 q8 m L R us st := ⟨fun r j hr hj => ⟨(hb.cell (p := ⟨g, r * 5 + j, none⟩) h.gW).trans (h.rows r j hr hj).1, (hb.frozen (p := ⟨g, r * 5 + j, none⟩) h.gW).trans (h.rows r j hr hj).2⟩, h.s6.below hb h.s6.lt, h.s8.below hb h.s8.lt, grown_below h.grow hb, h.lg, h.l6, h.l8⟩
theorem SvS.drewN (h : SvS w W g q6 q8 m L R us st) (n : Nat) : SvS w (W.drewN n) g q6 q8 m L R us st := ⟨h.rows, h.s6, h.s8, ⟨h.grow.os, h.grow.tape, h.grow.output, h.grow.size, h.grow.block⟩, h.lg, h.l6, h.l8⟩
theorem SvS.range (h : SvS w W g q6 q8 m L R us st) {r : Nat} (hr : r < m) : W.rangeAt g (r * 5) (u64s 5 (R r)).toList := fun j v hv => by
  have h1 := (List.getElem?_eq_some_iff.1 hv).1
  rw [Array.length_toList, u64s_size] at h1
  rw [Array.getElem?_toList, u64s_get _ h1] at hv
  rw [(h.rows r j hr h1).1, hv]
theorem SvS.set6 (h : SvS w W g q6 q8 m L R us st) (c : Nat) (o : Option Nat) : SvS w (W.setCell ⟨q6, c, none⟩ (.int .i64 (sI o))) g q6 q8 m L R us (fun x => if x = c then o else st x) := by
  have h1 := h.lg
  have h2 := h.l6
  have h3 := h.l8
  have hs := h.s6.set c (.int .i64 (sI o))
  rw [ints_set] at hs
  have e : upd (fun c => sI (st c)) c (sI o) = fun x => sI (if x = c then o else st x) := funext fun x => by
    unfold upd
    by_cases e : x = c
    · rw [if_pos e, if_pos e]
    · rw [if_neg e, if_neg e]
  rw [e] at hs
  have hb := Below.setCell (Below.refl q6 W) (p := ⟨q6, c, none⟩) (Nat.le_refl _) (.int .i64 (sI o))
  exact ⟨fun r j hr hj => ⟨(hb.cell (p := ⟨g, r * 5 + j, none⟩) (by show g < q6; omega)).trans (h.rows r j hr hj).1, (hb.frozen (p := ⟨g, r * 5 + j, none⟩) (by show g < q6; omega)).trans (h.rows r j hr hj).2⟩, hs, h.s8.setOther _ _ (by show q8 ≠ q6; omega), ⟨hb.os.trans h.grow.os, hb.tape.trans h.grow.tape, hb.output.trans h.grow.output, Nat.le_trans h.grow.size hb.size, fun k hk hne => (hb.block k (by omega)).trans (h.grow.block k hk hne)⟩, h.lg, h.l6, h.l8⟩
theorem SvS.set8 (h : SvS w W g q6 q8 m L R us st) (i : Nat) : SvS w (W.setCell ⟨q8, i, none⟩ (.bool true)) g q6 q8 m L R (fun r => if r = i then true else us r) st := by
  have h1 := h.lg
  have h2 := h.l6
  have h3 := h.l8
  have hs := h.s8.set i (.bool true)
  rw [bools_set] at hs
  have hb := Below.setCell (Below.refl q8 W) (p := ⟨q8, i, none⟩) (Nat.le_refl _) (.bool true)
  exact ⟨fun r j hr hj => ⟨(hb.cell (p := ⟨g, r * 5 + j, none⟩) (by show g < q8; omega)).trans (h.rows r j hr hj).1, (hb.frozen (p := ⟨g, r * 5 + j, none⟩) (by show g < q8; omega)).trans (h.rows r j hr hj).2⟩, h.s6.setOther _ _ (by show q6 ≠ q8; omega), hs, ⟨hb.os.trans h.grow.os, hb.tape.trans h.grow.tape, hb.output.trans h.grow.output, Nat.le_trans h.grow.size hb.size, fun k hk hne => (hb.block k (by omega)).trans (h.grow.block k hk hne)⟩, h.lg, h.l6, h.l8⟩
theorem SvS.setR (h : SvS w W g q6 q8 m L R us st) {r j : Nat} (hr : r < m) (hj : j < 5) (v : Nat) : SvS w (W.setCell ⟨g, r * 5 + j, none⟩ (.int .u64 (v : Nat))) g q6 q8 m L (upd R r (upd (R r) j v)) us st := by
  have h1 := h.lg
  have h2 := h.l6
  have h3 := h.l8
  have hc := (h.rows r j hr hj).1
  have hg := grown_set W g (r * 5 + j) (.int .u64 (v : Nat))
  refine ⟨fun r' j' hr' hj' => ?_, h.s6.setOther _ _ (by show q6 ≠ g; omega), h.s8.setOther _ _ (by show q8 ≠ g; omega), grown_trans h.grow hg, h.lg, h.l6, h.l8⟩
  have hfz : (W.setCell ⟨g, r * 5 + j, none⟩ (.int .u64 (v : Nat))).frozen? ⟨g, r' * 5 + j', none⟩ = false := by
    rw [World.frozen?_setCell]
    exact (h.rows r' j' hr' hj').2
  refine ⟨?_, hfz⟩
  by_cases e : r' = r ∧ j' = j
  · obtain ⟨rfl, rfl⟩ := e
    rw [World.cell?_setCell_same _ _ _ hc, upd_same, upd_same]
  · rw [World.cell?_setCell_other _ _ _ _ (by intro e2; have h5 := congrArg Addr.off e2; simp at h5; exact e ⟨by omega, by omega⟩)]
    rw [(h.rows r' j' hr' hj').1]
    by_cases e1 : r' = r
    · subst e1
      rw [upd_same, upd_other _ _ (fun e2 => e ⟨rfl, e2⟩)]
    · rw [upd_other _ _ e1]
end
/-- Row i added to row r: the first k words. -/
def xw (R : Nat → Nat → Nat) (r i k : Nat) : Nat → Nat → Nat := upd R r fun t => if t < k then R r t ^^^ R i t else R r t
theorem xw_zero (R : Nat → Nat → Nat) (r i : Nat) : xw R r i 0 = R := funext fun x => by
  unfold xw upd
  by_cases e : x = r
  · rw [if_pos e, e]
    funext t
    rw [if_neg (by omega)]
  · rw [if_neg e]
theorem xw_step (R : Nat → Nat → Nat) (r i k : Nat) : upd (xw R r i k) r (upd (xw R r i k r) k (R r k ^^^ R i k)) = xw R r i (k + 1) := funext fun x => by
  unfold xw
  by_cases e : x = r
  · subst e
    rw [upd_same, upd_same, upd_same]
    funext t
    unfold upd
    by_cases e2 : t = k
    · rw [if_pos e2, if_pos (by omega), e2]
    · rw [if_neg e2]
      show (if t < k then R x t ^^^ R i t else R x t) = _
      by_cases e3 : t < k
      · rw [if_pos e3, if_pos (by omega)]
      · rw [if_neg e3, if_neg (by omega)]
  · rw [upd_other _ _ e, upd_other _ _ e, upd_other _ _ e]
/-- Row i added to all of the first n rows that have a bit at k. -/
def el (R : Nat → Nat → Nat) (i k n : Nat) : Nat → Nat → Nat := fun r => if r < n ∧ r ≠ i ∧ rbit (R r) k = true then fun t => if t < 5 then R r t ^^^ R i t else R r t else R r
theorem el_zero (R : Nat → Nat → Nat) (i k : Nat) : el R i k 0 = R := funext fun r => by
  unfold el
  rw [if_neg (fun h => by omega)]
theorem el_no {R : Nat → Nat → Nat} {i k n : Nat} (h : ¬ (n ≠ i ∧ rbit (R n) k = true)) : el R i k (n + 1) = el R i k n := funext fun r => by
  unfold el
  by_cases e : r < n + 1 ∧ r ≠ i ∧ rbit (R r) k = true
  · by_cases e2 : r = n
    · subst e2; exact absurd e.2 h
    · rw [if_pos e, if_pos ⟨by omega, e.2⟩]
  · rw [if_neg e, if_neg (fun h2 => e ⟨by omega, h2.2⟩)]
theorem el_yes {R : Nat → Nat → Nat} {i k n : Nat} (h : n ≠ i ∧ rbit (R n) k = true) : xw (el R i k n) n i 5 = el R i k (n + 1) := funext fun r => by
  have hi : el R i k n i = R i := by unfold el; rw [if_neg (fun h2 => h2.2.1 rfl)]
  have hn : el R i k n n = R n := by unfold el; rw [if_neg (fun h2 => by omega)]
  unfold xw
  by_cases e : r = n
  · subst e
    rw [upd_same, hi, hn]
    unfold el
    rw [if_pos ⟨by omega, h⟩]
  · rw [upd_other _ _ e]
    unfold el
    by_cases e2 : r < n ∧ r ≠ i ∧ rbit (R r) k = true
    · rw [if_pos e2, if_pos ⟨by omega, e2.2⟩]
    · rw [if_neg e2, if_neg (fun h2 => e2 ⟨by omega, h2.2⟩)]
theorem el_self (R : Nat → Nat → Nat) (i k n : Nat) : el R i k n i = R i := by unfold el; rw [if_neg (fun h2 => h2.2.1 rfl)]
theorem el_later (R : Nat → Nat → Nat) (i k n : Nat) {r : Nat} (h : n ≤ r) : el R i k n r = R r := by unfold el; rw [if_neg (fun h2 => by omega)]
theorem el_bits {R : Nat → Nat → Nat} {i k m : Nat} {r c : Nat} (hr : r < m) (hc : c < 320) : rbit (el R i k m r) c = elim (fun r c => rbit (R r) c) i k r c := by
  unfold el elim
  by_cases e : r ≠ i ∧ rbit (R r) k = true
  · rw [if_pos ⟨hr, e⟩, if_pos e]
    unfold rbit
    show (if c / 64 < 5 then R r (c / 64) ^^^ R i (c / 64) else R r (c / 64)).testBit (c % 64) = _
    rw [if_pos (by omega), Nat.testBit_xor]
  · rw [if_neg (fun h => e h.2), if_neg e]
theorem el_wd {R : Nat → Nat → Nat} (h : ∀ r, Wd (R r)) (i k n r : Nat) : Wd (el R i k n r) := fun t => by
  unfold el
  by_cases e : r < n ∧ r ≠ i ∧ rbit (R r) k = true
  · rw [if_pos e]
    by_cases e2 : t < 5
    · rw [if_pos e2]; exact Nat.xor_lt_two_pow (h r t) (h i t)
    · rw [if_neg e2]; exact h r t
  · rw [if_neg e]; exact h r t
theorem Inv.congr {A0 A B : Nat → Nat → Bool} {L m k : Nat} {us : Nat → Bool} {st : Nat → Option Nat} (h : Inv A0 A L m k us st) (he : ∀ r c, r < m → c ≤ L → A r c = B r c) : Inv A0 B L m k us st := by
  refine ⟨fun x => ?_, fun c i h1 h2 h3 => ?_, fun c h1 h2 h3 r hr h4 => ?_, h.has, h.rest, h.inj⟩
  · rw [← h.sol x]
    constructor <;> intro hs r hr
    · have := hs r hr
      unfold Holds at this ⊢
      rw [he r L hr (Nat.le_refl _), ← this]
      exact sx_congr L fun c hc => by rw [he r c hr (by omega)]
    · have := hs r hr
      unfold Holds at this ⊢
      rw [← he r L hr (Nat.le_refl _), ← this]
      exact sx_congr L fun c hc => by rw [he r c hr (by omega)]
  · obtain ⟨g1, g2, g3, g4⟩ := h.piv c i h1 h2 h3
    exact ⟨g1, g2, by rw [← he i c g1 (by omega)]; exact g3, fun r hr hne => by rw [← he r c hr (by omega)]; exact g4 r hr hne⟩
  · rw [← he r c hr (by omega)]
    exact h.no c h1 h2 h3 r hr h4
end Go.Proofs.Ytflehdigikdhmaa
