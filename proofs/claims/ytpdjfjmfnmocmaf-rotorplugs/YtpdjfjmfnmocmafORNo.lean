/-
  Contract of the document's Now (chapter 8).
-/
import Derived.Test.YtpdjfjmfnmocmafORSt
namespace Go.Proofs.Ytpdjfjmfnmocmaf
open Go.RowKit PK

theorem o_zero_perm : (Try.prog.info? 25).map (fun i => (i.zero, i.size)) = some (some (.agg (ints 26 fun _ => 0)), 26) := by kernel_rfl
theorem o_info_perm : (Try.prog.info? 25).map (fun i => (i.zero, i.size, i.bytes)) = some (some (.agg (ints 26 fun _ => 0)), 26, 208) := by kernel_rfl
def three (f g h : Nat → Int) : Nat → Int := fun i => if i < 26 then f i else if i < 52 then g (i - 26) else h (i - 52)
section
variable {P : Program}
theorem run_build3 (w : World) (t e : TypeId) (hu : P.underlying t = some (.slice e)) (hz : (P.info? e).map (fun i => (i.zero, i.size)) = some (some (.agg (ints 26 fun _ => 0)), 26)) (f g h : Nat → Int) :
    (Instr.buildSlice t 3 #[(0, .agg (ints 26 f)), (1, .agg (ints 26 g)), (2, .agg (ints 26 h))]).run P w = .ok (.slice (some ⟨w.heap.size, 0, none⟩) 3 3) (w.alloc (.cells (ints 78 (three f g h)) e)) := by
  obtain ⟨hz1, hz2⟩ := zero_of_info hz
  cases hq : P.info? e with
  | none => simp [hq] at hz
  | some i =>
    have hs : i.size = 26 := by simpa [hq] using hz2
    have hsz : ∀ W, (sizeOf e).run P W = .ok 26 W := fun W => by simp [sizeOf, typeInfo, hq, hs]
    have hlay : tab (3 * 26) (lay 26 (lay 26 (lay 26 (fun x => (ints 26 fun _ => 0)[x % 26]!) (0 * 26) f) (1 * 26) g) (2 * 26) h) = ints 78 (three f g h) := tab_ext fun i hi => by
      unfold lay three
      by_cases e1 : i < 26
      · rw [if_neg (by omega), if_neg (by omega), if_pos (by omega)]; simp [e1]
      · by_cases e2 : i < 52
        · rw [if_neg (by omega), if_pos (by omega)]; simp [e1, e2]
        · rw [if_pos (by omega)]; simp [e1, e2]
    have hfill := fill_step 26 (3 * 26) (fun x => (ints 26 fun _ => 0)[x % 26]!) 0 f [(1, .agg (ints 26 g)), (2, .agg (ints 26 h))] (by omega)
    rw [fill_step 26 (3 * 26) _ 1 g [(2, .agg (ints 26 h))] (by omega), fill_step 26 (3 * 26) _ 2 h [] (by omega), hlay] at hfill
    have hfill' := hfill.trans (rfl : _ = some (ints 78 (three f g h)))
    have h3 : ¬ (3 * 26 > 2 ^ 24) := by omega
    have h4 : ¬ (3 * 26 = 0) := by omega
    have hc : (Value.agg (ints 26 fun _ => 0)).cells = ints 26 fun _ => 0 := rfl
    simp only [Instr.buildSlice, Sem.run_bind, run_underlying hu, Result.andThen_ok, hsz, h3, h4, if_false, hz1, Sem.run_pure, hc, ints_size, range_tab, hfill']
    simp [newRow]
theorem wp_build3 {op : Oper} {a : Act} {w : World} {K : Act → World → Prop} {Q : Exit → Act → World → Prop} (t e : TypeId) (x y z : Operand) (ho : op.op = .buildSlice t 3 #[(0, x), (1, y), (2, z)])
    (f g k : Nat → Int) (hx : a.eval x = .agg (ints 26 f)) (hy : a.eval y = .agg (ints 26 g)) (hk : a.eval z = .agg (ints 26 k)) (hu : P.underlying t = some (.slice e)) (hz : (P.info? e).map (fun i => (i.zero, i.size)) = some (some (.agg (ints 26 fun _ => 0)), 26))
    (h : K (a.put op.dst (.slice (some ⟨w.heap.size, 0, none⟩) 3 3)) (w.alloc (.cells (ints 78 (three f g k)) e))) : op.wp P a w K Q := by
  unfold Oper.wp execOp
  have hm : (#[(0, x), (1, y), (2, z)] : Array (Nat × Operand)).map (fun (i, x) => (i, a.eval x)) = #[(0, .agg (ints 26 f)), (1, .agg (ints 26 g)), (2, .agg (ints 26 k))] := by simp [hx, hy, hk]
  simp only [ho, Sem.run_bind, hm, run_build3 w t e hu hz f g k, Result.andThen_ok]
  exact h
theorem wpList_build3 {ops : Array Oper} {rest : List Oper} {op : Oper} {a : Act} {w : World} {Q : Exit → Act → World → Prop} (hgd : op.guard = none) (t e : TypeId) (x y z : Operand) (ho : op.op = .buildSlice t 3 #[(0, x), (1, y), (2, z)])
    (f g k : Nat → Int) (hx : a.eval x = .agg (ints 26 f)) (hy : a.eval y = .agg (ints 26 g)) (hk : a.eval z = .agg (ints 26 k)) (hu : P.underlying t = some (.slice e)) (hz : (P.info? e).map (fun i => (i.zero, i.size)) = some (some (.agg (ints 26 fun _ => 0)), 26))
    (h : wpList P ops Q rest (a.put op.dst (.slice (some ⟨w.heap.size, 0, none⟩) 3 3)) (w.alloc (.cells (ints 78 (three f g k)) e))) : wpList P ops Q (op :: rest) a w :=
  wpList_plain hgd fun _ hK => wp_build3 t e x y z ho f g k hx hy hk hu hz (hK _ _ h)
end
/-- The permutations, one behind the other, as Now lays them. -/
def seqP (M : Om.Ma) (at' : Nat → Nat) (r : Nat) : Nat → Nat :=
  if r = 0 then M.pl else if (r - 1) % 3 = 0 then fun c => (c + Om.by' M at' (M.n - 1 - (r - 1) / 3)) % 26 else if (r - 1) % 3 = 1 then M.wi (M.n - 1 - (r - 1) / 3) else fun c => (c + 26 - Om.by' M at' (M.n - 1 - (r - 1) / 3)) % 26
theorem seq_0 (M : Om.Ma) (at' : Nat → Nat) : seqP M at' 0 = M.pl := rfl
theorem seq_1 (M : Om.Ma) (at' : Nat → Nat) (j : Nat) : seqP M at' (1 + 3 * j) = fun c => (c + Om.by' M at' (M.n - 1 - j)) % 26 := by
  unfold seqP
  rw [if_neg (by omega), if_pos (by omega), show (1 + 3 * j - 1) / 3 = j by omega]
theorem seq_2 (M : Om.Ma) (at' : Nat → Nat) (j : Nat) : seqP M at' (1 + 3 * j + 1) = M.wi (M.n - 1 - j) := by
  unfold seqP
  rw [if_neg (by omega), if_neg (by omega), if_pos (by omega), show (1 + 3 * j + 1 - 1) / 3 = j by omega]
theorem seq_3 (M : Om.Ma) (at' : Nat → Nat) (j : Nat) : seqP M at' (1 + 3 * j + 2) = fun c => (c + 26 - Om.by' M at' (M.n - 1 - j)) % 26 := by
  unfold seqP
  rw [if_neg (by omega), if_neg (by omega), if_neg (by omega), show (1 + 3 * j + 2 - 1) / 3 = j by omega]
theorem seq_perm {M : Om.Ma} (hM : Om.Ok M) (at' : Nat → Nat) (r : Nat) : Pm.IsPerm (seqP M at' r) := by
  unfold seqP
  by_cases h0 : r = 0
  · rw [if_pos h0]; exact hM.pl
  · rw [if_neg h0]
    by_cases h1 : (r - 1) % 3 = 0
    · rw [if_pos h1]; exact Om.turn_perm _
    · rw [if_neg h1]
      by_cases h2 : (r - 1) % 3 = 1
      · rw [if_pos h2]; exact hM.wi _ (by have := hM.pos; omega)
      · rw [if_neg h2]; exact Om.back_turn (Om.by_lt _ _ _)
theorem thr_seq (M : Om.Ma) (at' : Nat → Nat) (c : Nat) : ∀ j, thr (seqP M at') (1 + 3 * j) c = Om.through M at' j (M.pl c)
  | 0 => rfl
  | j + 1 => by
    show seqP M at' (1 + 3 * j + 2) (seqP M at' (1 + 3 * j + 1) (seqP M at' (1 + 3 * j) (thr (seqP M at') (1 + 3 * j) c))) = Om.wheel (M.wi (M.n - 1 - j)) (Om.by' M at' (M.n - 1 - j)) (Om.through M at' j (M.pl c))
    rw [thr_seq M at' c j, seq_1, seq_2, seq_3]
    rfl
theorem flat_three (P : Nat → Nat → Nat) (m : Nat) : (ints (m * 26) (flat P)).toList ++ (ints 78 (three (Pm.up (P m)) (Pm.up (P (m + 1))) (Pm.up (P (m + 2))))).toList = (ints ((m + 3) * 26) (flat P)).toList := by
  apply List.ext_getElem?
  intro i
  have hx : ∀ n f, (ints n f).toList[i]? = (ints n f)[i]? := fun n f => Array.getElem?_toList
  have hl : (ints (m * 26) (flat P)).toList.length = m * 26 := by rw [Array.length_toList, ints_size]
  by_cases h1 : i < m * 26
  · rw [List.getElem?_append_left (by omega), hx, hx, ints_get _ h1, ints_get _ (by omega)]
  · rw [List.getElem?_append_right (by omega), hl, hx, Array.getElem?_toList]
    by_cases h2 : i < (m + 3) * 26
    · rw [ints_get _ (by omega), ints_get _ h2]
      congr 2
      unfold flat three Pm.up
      by_cases e1 : i - m * 26 < 26
      · rw [if_pos e1, show i / 26 = m by omega, show i % 26 = i - m * 26 by omega]
      · rw [if_neg e1]
        by_cases e2 : i - m * 26 < 52
        · rw [if_pos e2, show i / 26 = m + 1 by omega, show i % 26 = i - m * 26 - 26 by omega]
        · rw [if_neg e2, show i / 26 = m + 2 by omega, show i % 26 = i - m * 26 - 52 by omega]
    · rw [Array.getElem?_eq_none (by rw [ints_size]; omega), Array.getElem?_eq_none (by rw [ints_size]; omega)]
theorem flat_one (P : Nat → Nat → Nat) : ints 26 (Pm.up (P 0)) = ints (1 * 26) (flat P) := by
  show ints 26 _ = ints 26 _
  refine ints_ext fun i hi => ?_
  unfold flat Pm.up
  rw [show i / 26 = 0 by omega, show i % 26 = i by omega]
theorem own_perms {w : World} {B : Nat} {v : Value} {m : Nat} {P : Nat → Nat → Nat} (h : w.ownsRow B 25 26 v m (ints (m * 26) (flat P)).toList) (hm : m ≠ 0) : PermsAt w v m P := by
  rcases h.2 with ⟨_, h0⟩ | ⟨g, cap, cur, rfl, hB, hg, hnc, hcm, hcs, htake⟩
  · exact absurd h0 hm
  · refine ⟨g, 0, cap, rfl, fun j v hv => ?_⟩
    rw [Nat.zero_add]
    refine RowAt.cell (w := w) (b := g) (T := 25) hg ?_
    have hj : j < m * 26 := by
      have := (List.getElem?_eq_some_iff.1 hv).1
      rw [Array.length_toList, ints_size] at this
      exact this
    rw [← htake, List.getElem?_take_of_lt hj] at hv
    simpa using hv
structure NoT (w W : World) (a b c : Value) (rf pl : Nat → Int) : Prop where
  mg : MgAt w W a b c rf pl
  res : RowAt W (w.heap.size + 1) 25 (ints 26 fun _ => 0)
section
variable {w W W' : World} {a b c : Value} {rf pl : Nat → Int}
theorem NoT.step (h : NoT w W a b c rf pl) (hb : Below W.heap.size W W') : NoT w W' a b c rf pl := ⟨h.mg.step hb, h.res.below hb h.res.lt⟩
theorem NoT.drew (h : NoT w W a b c rf pl) : NoT w W.drew a b c rf pl := ⟨h.mg.drew, h.res⟩
theorem NoT.alloc (h : NoT w W a b c rf pl) (o : Obj) : NoT w (W.alloc o) a b c rf pl := h.step ((Below.refl _ _).alloc (Nat.le_refl _) o)
theorem NoT.grown {T : TypeId} {sz n : Nat} {v : Value} {l : List Value} (h : NoT w W a b c rf pl) (ho : W.ownsRow (w.heap.size + 2) T sz v n l) (hg : W.grownBy W' v.ownBlock) : NoT w W' a b c rf pl := by
  have l1 := h.res.lt
  refine ⟨⟨(hg.block w.heap.size (by omega) (fun e => by have := (World.ownsRow.lt ho _ e.symm).1; omega)).trans h.mg.row, h.mg.below.grown hg (by omega) (fun q hq => by have := (World.ownsRow.lt ho q hq).1; omega)⟩, (hg.block (w.heap.size + 1) l1 (fun e => by have := (World.ownsRow.lt ho _ e.symm).1; omega)).trans h.res⟩
end
/-- What is held while the permutations are laid. -/
structure NoS (w W : World) (a b c v : Value) (rf pl : Nat → Int) (m : Nat) (P : Nat → Nat → Nat) : Prop where
  mg : MgAt w W a b c rf pl
  res : RowAt W (w.heap.size + 1) 25 (ints 26 fun _ => 0)
  own : W.ownsRow (w.heap.size + 2) 25 26 v m (ints (m * 26) (flat P)).toList
section
variable {w W W' : World} {a b c v : Value} {rf pl : Nat → Int} {m : Nat} {P : Nat → Nat → Nat}
theorem NoS.step (h : NoS w W a b c v rf pl m P) (hb : Below W.heap.size W W') : NoS w W' a b c v rf pl m P := ⟨h.mg.step hb, h.res.below hb h.res.lt, own_step h.own hb⟩
theorem NoS.drew (h : NoS w W a b c v rf pl m P) : NoS w W.drew a b c v rf pl m P := ⟨h.mg.drew, h.res, own_drew h.own⟩
theorem NoS.draws (h : NoS w W a b c v rf pl m P) (n : Nat) : NoS w (W.drewN n) a b c v rf pl m P := ⟨⟨h.mg.row, h.mg.below.trans ⟨rfl, rfl, rfl, Nat.le_refl _, fun _ _ => rfl⟩⟩, h.res, h.own⟩
theorem NoS.alloc (h : NoS w W a b c v rf pl m P) (o : Obj) : NoS w (W.alloc o) a b c v rf pl m P := h.step ((Below.refl _ _).alloc (Nat.le_refl _) o)
end
theorem turn_ints {M : Om.Ma} {at' : Nat → Nat} {i : Nat} (h1 : at' i < 26) (h2 : M.ri i < 26) : (ints 26 fun c => ((c : Int) + (((at' i : Nat) : Int) - ((M.ri i : Nat) : Int))) % 26) = ints 26 (Pm.up fun c => (c + Om.by' M at' i) % 26) := ints_ext fun c hc => by
  show ((c : Int) + (((at' i : Nat) : Int) - ((M.ri i : Nat) : Int))) % 26 = (((c + (at' i + 26 - M.ri i) % 26) % 26 : Nat) : Int)
  omega
theorem turn_back_ints {M : Om.Ma} {at' : Nat → Nat} {i : Nat} (h1 : at' i < 26) (h2 : M.ri i < 26) : (ints 26 fun c => ((c : Int) + (-(((at' i : Nat) : Int) - ((M.ri i : Nat) : Int)))) % 26) = ints 26 (Pm.up fun c => (c + 26 - Om.by' M at' i) % 26) := ints_ext fun c hc => by
  show ((c : Int) + (-(((at' i : Nat) : Int) - ((M.ri i : Nat) : Int)))) % 26 = (((c + 26 - (at' i + 26 - M.ri i) % 26) % 26 : Nat) : Int)
  omega
theorem all_one78 {n : Nat} {f : Nat → Int} {u : Value} (h : u ∈ (ints n f).toList) : u.oneCell' = true := by
  have := ints_one n f
  rw [Array.all_eq_true_iff_forall_mem] at this
  exact this u (by simpa using h)
/-- The last three. -/
def lastP (p q r : Nat → Nat) (k : Nat) : Nat → Nat := if k = 0 then p else if k = 1 then q else r
end Go.Proofs.Ytpdjfjmfnmocmaf
