/-
  Contract of the document's Wrong (chapter 8).
-/
import Derived.Test.YtpdjfjmfnmocmafORef
import Derived.RegionTactic

namespace Go.Proofs.Ytpdjfjmfnmocmaf
open Go.RowKit PK

theorem v_info_mac : (Try.prog.info? 27).map (·.size) = some 55 := by kernel_rfl
theorem v_info_whl : (Try.prog.info? 44).map (·.size) = some 27 := by kernel_rfl
theorem v_zero_whl : (Try.prog.info? 44).map (·.zero) = some (some (.agg (whl (fun _ => 0) (.slice none 0 0)))) := by kernel_rfl
theorem v_zero_perm : (Try.prog.info? 25).map (·.zero) = some (some (.agg (ints 26 fun _ => 0))) := by kernel_rfl
theorem o_zero {P : Program} {t : TypeId} {z : Value} (h : (P.info? t).map (·.zero) = some (some z)) (w : World) : (zeroValue t).run P w = .ok z w := by
  cases hi : P.info? t with
  | none => simp [hi] at h
  | some i =>
    have h2 : i.zero = some z := by simpa [hi] using h
    simp [zeroValue, typeInfo, hi, h2]
/-- An array or a struct read out of the midst of a block. -/
theorem wpList_load_arr {P : Program} {ops : Array Oper} {rest : List Oper} {op : Oper} {a : Act} {w : World} {Q : Exit → Act → World → Prop} (hgd : op.guard = none) (ty : TypeId) (x : Operand) (ho : op.op = .load ty x)
    (b o : Nat) (hx : a.eval x = .pointer (some ⟨b, o, none⟩)) (cs : Array Value) (d : TypeDesc) (hc : w.rangeAt b o cs.toList)
    (hu : P.underlying ty = some d) (hd : d.isRow = true) (hi : (P.info? ty).map (·.size) = some cs.size)
    (h : wpList P ops Q rest (a.put op.dst (.agg cs)) w) : wpList P ops Q (op :: rest) a w :=
  wpList_load_mid hgd ty x ho b o hx cs.toList d hc hu hd (by rw [Array.length_toList]; exact hi) (by rw [Array.toArray_toList]; exact h)
theorem whl_one {f : Nat → Int} {v : Value} (h : v.oneCell' = true) : (whl f v).all (·.oneCell') = true := by
  unfold whl
  rw [Array.all_push, ints_one, h]
  rfl
theorem slice_one (a : Option Addr) (n c : Nat) : (Value.slice a n c).oneCell' = true := rfl
theorem row_mid {w : World} {b : Nat} {T : TypeId} {c : Array Value} (h : RowAt w b T c) (o : Nat) (cs : Array Value) (e : ∀ i v, cs[i]? = some v → c[o + i]? = some v) : w.rangeAt b o cs.toList := fun j v hv => h.cell (e j v (by rw [← Array.getElem?_toList]; exact hv))
theorem at_ints {n : Nat} {f : Nat → Int} {i : Nat} {v : Value} (h : (ints n f)[i]? = some v) : i < n ∧ v = .int .i64 (f i) := by
  have h1 : i < n := by
    have := (Array.getElem?_eq_some_iff.1 h).1
    rw [ints_size] at this
    exact this
  rw [ints_get f h1] at h
  exact ⟨h1, (Option.some.inj h).symm⟩
theorem mid_wi {w : World} {b : Nat} {T : TypeId} {f : Nat → Int} {v : Value} (h : RowAt w b T (whl f v)) : w.rangeAt b 0 (ints 26 f).toList := row_mid h 0 _ fun i v hv => by
  obtain ⟨h1, rfl⟩ := at_ints hv
  rw [Nat.zero_add]
  exact whl_get f _ h1
theorem mid_rf {w : World} {b : Nat} {T : TypeId} {x y z : Value} {rf pl : Nat → Int} (h : RowAt w b T (mac x y z rf pl)) : w.rangeAt b 3 (ints 26 rf).toList := row_mid h 3 _ fun i v hv => by
  obtain ⟨h1, rfl⟩ := at_ints hv
  exact mac_rf _ _ _ _ _ h1
theorem mid_pl {w : World} {b : Nat} {T : TypeId} {x y z : Value} {rf pl : Nat → Int} (h : RowAt w b T (mac x y z rf pl)) : w.rangeAt b 29 (ints 26 pl).toList := row_mid h 29 _ fun i v hv => by
  obtain ⟨h1, rfl⟩ := at_ints hv
  exact mac_pl _ _ _ _ _ h1
/-- The machine in its variable, laid first. -/
structure MgAt (w W : World) (a b c : Value) (rf pl : Nat → Int) : Prop where
  row : RowAt W w.heap.size 27 (mac a b c rf pl)
  below : Below w.heap.size w W
theorem MgAt.new (w : World) (a b c : Value) (rf pl : Nat → Int) : MgAt w (w.alloc (.cells (mac a b c rf pl) 27)) a b c rf pl := ⟨RowAt.new w _ _, (Below.refl _ w).alloc (Nat.le_refl _) _⟩
section
variable {w W W' : World} {a b c : Value} {rf pl : Nat → Int}
theorem MgAt.step (h : MgAt w W a b c rf pl) (hb : Below W.heap.size W W') : MgAt w W' a b c rf pl := ⟨h.row.below hb h.row.lt, h.below.trans (hb.mono h.below.size)⟩
theorem MgAt.alloc (h : MgAt w W a b c rf pl) (o : Obj) : MgAt w (W.alloc o) a b c rf pl := ⟨h.row.alloc o, h.below.alloc h.below.size o⟩
theorem MgAt.drew (h : MgAt w W a b c rf pl) : MgAt w W.drew a b c rf pl := ⟨h.row, h.below.drew⟩
theorem MgAt.setRow (h : MgAt w W a b c rf pl) (g : Nat) (hg : w.heap.size < g) (l : Array Value) : MgAt w (W.setRow g l) a b c rf pl := ⟨h.row.rowOther _ _ (by omega), Below.setRow h.below _ (by omega) _⟩
theorem MgAt.c0 (h : MgAt w W a b c rf pl) : W.cell? ⟨w.heap.size, 0, none⟩ = some a := h.row.cell (mac_0 _ _ _ _ _)
theorem MgAt.c1 (h : MgAt w W a b c rf pl) : W.cell? ⟨w.heap.size, 1, none⟩ = some b := h.row.cell (mac_1 _ _ _ _ _)
theorem MgAt.c2 (h : MgAt w W a b c rf pl) : W.cell? ⟨w.heap.size, 2, none⟩ = some c := h.row.cell (mac_2 _ _ _ _ _)
theorem MgAt.lt (h : MgAt w W a b c rf pl) : w.heap.size < W.heap.size := h.row.lt
end
theorem whE_keep (g : Gm) (k : Nat) (h : whE g k ≠ 0) : ∀ n, k ≤ n → whE g n = whE g k
  | 0, hk => by rw [show k = 0 by omega]
  | n + 1, hk => by
    by_cases e : k = n + 1
    · rw [e]
    · have := whE_keep g k h n (by omega)
      show (if whE g n ≠ 0 then whE g n else _) = _
      rw [if_pos (by rw [this]; exact h), this]
theorem whE_bad {g : Gm} {k : Nat} (h0 : whE g k = 0) (h : Pm.wrong (g.wi k) ≠ 0) : whE g (k + 1) = Pm.wrong (g.wi k) := by
  show (if whE g k ≠ 0 then whE g k else _) = _
  rw [if_neg (fun e => e h0), if_pos h]
theorem whE_no {g : Gm} {k : Nat} (h0 : whE g k = 0) (h : Pm.wrong (g.wi k) = 0) : whE g (k + 1) = if ins (g.nl k) (g.no k) = true then 0 else 3 := by
  show (if whE g k ≠ 0 then whE g k else _) = _
  rw [if_neg (fun e => e h0), if_neg (fun e => e h)]
section
variable {g : Gm}
theorem gE_1 (h : g.n < 1 ∨ 4 < g.n) : gE g = 5 := by unfold gE; rw [if_pos h]
theorem gE_2 (h : ¬ (g.n < 1 ∨ 4 < g.n)) (h2 : whE g g.n ≠ 0) : gE g = whE g g.n := by unfold gE; rw [if_neg h, if_pos h2]
/-- What is said behind the wheels. -/
def tl (st : Bool) (f : Nat → Int) (rest : Int) : Int := if Pm.wrong f ≠ 0 then Pm.wrong f else if undo st f = false then 1 else rest
def nl (n l : Nat) (f : Nat → Int) (rest : Int) : Int := if l ≠ n then 8 else if ins l f = false then 3 else rest
def gE4 (g : Gm) (k : Nat) : Int := if k = 0 then tl true g.rf (tl false g.pl 0) else if k = 1 then tl false g.pl 0 else 0
def gE5 (g : Gm) (k : Nat) : Int := if k = 0 then nl g.n g.rl g.ri (nl g.n g.sl g.st (gE4 g 0)) else if k = 1 then nl g.n g.sl g.st (gE4 g 0) else gE4 g 0
def gE3 (g : Gm) : Int := gE5 g 0
theorem undo_perm {st : Bool} {f : Nat → Int} {p : Nat → Nat} (hp : Pm.IsPerm p) (e : ∀ i, i < 26 → f i = (p i : Int)) : undo st f = true ↔ ∀ i, i < 26 → p (p i) = i ∧ (st = true → p i ≠ i) := by
  rw [undo_iff]
  constructor
  · intro h i hi
    obtain ⟨h1, h2⟩ := h i hi
    rw [e i hi, Int.toNat_natCast, e _ (hp.lt i hi)] at h1
    refine ⟨by omega, fun hs => ?_⟩
    have := h2 hs
    rw [e i hi] at this
    omega
  · intro h i hi
    obtain ⟨h1, h2⟩ := h i hi
    rw [e i hi, Int.toNat_natCast, e _ (hp.lt i hi), h1]
    refine ⟨rfl, fun hs => ?_⟩
    have := h2 hs
    omega
theorem undo_bad {st : Bool} {f : Nat → Int} {p : Nat → Nat} (hp : Pm.IsPerm p) (e : ∀ i, i < 26 → f i = (p i : Int)) {i : Nat} (hi : i < 26) (h : p (p i) ≠ i ∨ (st = true ∧ p i = i)) : undo st f = false := by
  cases hu : undo st f with
  | false => rfl
  | true =>
    have := (undo_perm hp e).1 hu i hi
    rcases h with h | h
    · exact absurd this.1 h
    · exact absurd h.2 (this.2 h.1)
theorem gE_3 (h : ¬ (g.n < 1 ∨ 4 < g.n)) (h2 : whE g g.n = 0) : gE g = gE3 g := by unfold gE; rw [if_neg h, if_neg (fun e => e h2)]; rfl
end
end Go.Proofs.Ytpdjfjmfnmocmaf
