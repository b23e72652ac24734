/-
  Several texts, joined: ScMm, ScSt, ScMn.
-/
import Derived.Test.YtkohhdkkbaifoaaGreatDoorJn33
import Derived.Test.YtkohhdkkbaifoaaGreatDoorJn14
/-
  A matrix, as it is read.
-/
namespace Go.Proofs.YtkohhdkkbaifoaaGreatDoor
open Go.RowKit PK Vg

theorem rNums_err {t : List UInt8} {p : Nat} {e : Int × Nat} {m : Nat} (he : rNums t p m = .error e) : ∀ d, rNums t p (m + d) = .error e
  | 0 => he
  | d + 1 => by
    show rBind (rNums t p (m + d)) _ = _
    rw [rNums_err he d]
    rfl
theorem getD_snoc (L : List Nat) (v i : Nat) : (L ++ [v]).getD i 0 = if i = L.length then v else L.getD i 0 := by
  simp only [List.getD]
  by_cases h : i < L.length
  · rw [if_neg (by omega), List.getElem?_append_left h]
  · rw [List.getElem?_append_right (by omega)]
    by_cases e : i = L.length
    · rw [if_pos e, e, Nat.sub_self]; rfl
    · rw [if_neg e, List.getElem?_eq_none (l := L) (by omega), List.getElem?_eq_none (by simp; omega)]
/-- The rows' slices: k of them are made. -/
def mtC (n k : Nat) (G : Nat → Nat) : Array Value := tab n (fillV (fun r => .slice (some ⟨G r, 0, none⟩) n n) (.slice none 0 0) k)
/-- What is held while a matrix is read. -/
structure MtI (w W : World) (b q n : Nat) (T : ByteArray) (p k : Nat) (G : Nat → Nat) (L : List Nat) : Prop where
  box : RowAt W q 25 (mtC n k G)
  rows : ∀ r, r < k → q < G r ∧ RowAt W (G r) 3 (ints n fun j => ((L.getD (r * n + j) 0 : Nat) : Int))
  inj : ∀ r s, r < s → s < k → G r < G s
  rd : RdAt W b T p
  fb : Fb b w W
  ne : b < w.heap.size
  sz : w.heap.size ≤ q
section
variable {w W W' : World} {b q n : Nat} {T : ByteArray} {p p' k : Nat} {G : Nat → Nat} {L : List Nat}
theorem MtI.step (h : MtI w W b q n T p k G L) (hf : Fb b W W') (hr : RdAt W' b T p') : MtI w W' b q n T p' k G L := by
  have hne := h.ne
  have hsz := h.sz
  refine ⟨hf.row h.box (by omega), fun r hr => ?_, h.inj, hr, h.fb.trans hf, hne, hsz⟩
  obtain ⟨h1, h2⟩ := h.rows r hr
  exact ⟨h1, hf.row h2 (by omega)⟩
theorem MtI.calm (h : MtI w W b q n T p k G L) (hb : Below W.heap.size W W') : MtI w W' b q n T p k G L := h.step (Fb.of hb) (RowAt.below h.rd hb (RowAt.lt h.rd))
theorem MtI.drew (h : MtI w W b q n T p k G L) : MtI w W.drew b q n T p k G L := ⟨h.box, h.rows, h.inj, h.rd, ⟨h.fb.os, h.fb.tape, h.fb.output, h.fb.size, h.fb.block⟩, h.ne, h.sz⟩
theorem MtI.cell (h : MtI w W b q n T p (k + 1) G L) (hk : k < n) : W.cell? ⟨q, k, none⟩ = some (.slice (some ⟨G k, 0, none⟩) n n) := by
  have := RowAt.cell h.box (tab_get _ hk)
  rw [this]
  unfold fillV
  rw [if_pos (by omega)]
theorem MtI.row (h : MtI w W b q n T p k G L) (hk : k < n) (hL : L.length = k * n) : MtI w ((W.setCell ⟨q, k, none⟩ (.slice (some ⟨W.heap.size, 0, none⟩) n n)).alloc (.cells (tab n fun _ => .int .i64 0) 3)) b q n T p (k + 1) (upd G k W.heap.size) L := by
  have hne := h.ne
  have hsz := h.sz
  have hlt := RowAt.lt h.box
  have hfz := h.fb.size
  have hq : W.heap.size = (W.setCell ⟨q, k, none⟩ (.slice (some ⟨W.heap.size, 0, none⟩) n n)).heap.size := by rw [World.size_setCell]
  refine ⟨?_, fun r hr => ?_, fun r s hrs hs => ?_, RowAt.alloc (RowAt.setOther h.rd ⟨q, k, none⟩ _ (by show b ≠ q; omega)) _, ?_, hne, hsz⟩
  · have := RowAt.alloc (RowAt.set h.box k (.slice (some ⟨W.heap.size, 0, none⟩) n n)) (.cells (tab n fun _ => .int .i64 0) 3)
    unfold mtC at this ⊢
    rw [tab_set, tab_ext (g := upd (fillV (fun r => .slice (some ⟨G r, 0, none⟩) n n) (.slice none 0 0) k) k (.slice (some ⟨W.heap.size, 0, none⟩) n n)) (g' := fillV (fun r => .slice (some ⟨upd G k W.heap.size r, 0, none⟩) n n) (.slice none 0 0) (k + 1)) (fun r _ => ?_)] at this
    · exact this
    · unfold upd fillV
      by_cases e : r = k
      · subst e; rw [if_pos rfl, if_pos (by omega)]; simp
      · rw [if_neg e]
        by_cases h2 : r < k
        · rw [if_pos h2, if_pos (by omega)]; simp [e]
        · rw [if_neg h2, if_neg (by omega)]
  · by_cases e : r = k
    · subst e
      rw [upd_same]
      refine ⟨hlt, ?_⟩
      have := RowAt.new (W.setCell ⟨q, r, none⟩ (.slice (some ⟨W.heap.size, 0, none⟩) n n)) 3 (tab n fun _ => .int .i64 0)
      rw [World.size_setCell, ints_new] at this
      rw [ints_ext (g := fun _ => 0) (fun j _ => ?_)]
      · rw [ints_new]; exact this
      · simp only [List.getD]
        rw [List.getElem?_eq_none (by omega)]
        rfl
    · rw [upd_other G _ e]
      obtain ⟨h1, h2⟩ := h.rows r (by omega)
      exact ⟨h1, RowAt.alloc (RowAt.setOther h2 ⟨q, k, none⟩ _ (by show G r ≠ q; omega)) _⟩
  · rw [upd_other G _ (show r ≠ k by omega)]
    by_cases e : s = k
    · subst e; rw [upd_same]; exact RowAt.lt (h.rows r (by omega)).2
    · rw [upd_other G _ e]; exact h.inj r s hrs (by omega)
  · have h1 : Fb b w (W.setCell ⟨q, k, none⟩ (.slice (some ⟨W.heap.size, 0, none⟩) n n)) := ⟨h.fb.os, h.fb.tape, h.fb.output, by rw [World.size_setCell]; exact h.fb.size, fun i hi hb => (heap_setCell_other W ⟨q, k, none⟩ i _ (by show i ≠ q; omega)).trans (h.fb.block i hi hb)⟩
    exact h1.trans (Fb.alloc b _ _)
theorem MtI.put (h : MtI w W b q n T p (k + 1) G L) {x v : Nat} (hL : L.length = k * n + x) : MtI w (W.setCell ⟨G k, x, none⟩ (.int .i64 ((v : Nat) : Int))) b q n T p (k + 1) G (L ++ [v]) := by
  have hne := h.ne
  have hsz := h.sz
  obtain ⟨hg1, hg2⟩ := h.rows k (by omega)
  refine ⟨RowAt.setOther h.box ⟨G k, x, none⟩ _ (by show q ≠ G k; omega), fun r hr => ?_, h.inj, RowAt.setOther h.rd ⟨G k, x, none⟩ _ (by show b ≠ G k; omega), ⟨h.fb.os, h.fb.tape, h.fb.output, by rw [World.size_setCell]; exact h.fb.size, fun i hi hb => (heap_setCell_other W ⟨G k, x, none⟩ i _ (by show i ≠ G k; omega)).trans (h.fb.block i hi hb)⟩, hne, hsz⟩
  by_cases e : r = k
  · subst e
    refine ⟨hg1, ?_⟩
    have := RowAt.set hg2 x (.int .i64 ((v : Nat) : Int))
    rw [ints_set, ints_ext (g := fun j => (((L ++ [v]).getD (r * n + j) 0 : Nat) : Int)) (fun j _ => ?_)] at this
    · exact this
    · rw [getD_snoc]
      unfold upd
      by_cases e : j = x
      · rw [if_pos e, if_pos (by omega)]
      · rw [if_neg e, if_neg (by omega)]
  · obtain ⟨h1, h2⟩ := h.rows r hr
    have h3 := h.inj r k (by omega) (by omega)
    refine ⟨h1, ?_⟩
    have := RowAt.setOther h2 ⟨G k, x, none⟩ (.int .i64 ((v : Nat) : Int)) (by show G r ≠ G k; omega)
    rw [ints_ext (g := fun j => (((L ++ [v]).getD (r * n + j) 0 : Nat) : Int)) (fun j hj => ?_)] at this
    · exact this
    · rw [getD_snoc, if_neg]
      have : (r + 1) * n ≤ k * n := Nat.mul_le_mul_right n (by omega)
      rw [Nat.succ_mul] at this
      omega
theorem MtI.fin (h : MtI w W b q n T p n G L) (hn : n ≤ 4) : Nw w.heap.size W.heap.size (fun W => MatAt W (.slice (some ⟨q, 0, none⟩) n n) n (fun _ => n) (fun i j => ((L.getD (i * n + j) 0 : Nat) : Int))) W := by
  have hsz := h.sz
  intro W2 hk
  refine ⟨_, n, fun r => .slice (some ⟨G r, 0, none⟩) n n, rfl, by unfold maxLen; omega, fun r hr => ⟨q, 0, rfl, ?_⟩, fun r hr => ?_⟩
  · rw [Nat.zero_add]
    refine hk q r _ hsz (RowAt.lt h.box) ?_
    have := RowAt.cell h.box (tab_get _ hr)
    rw [this]
    unfold fillV
    rw [if_pos hr]
  · obtain ⟨h1, h2⟩ := h.rows r hr
    refine ⟨_, n, rfl, by show n ≤ maxLen; unfold maxLen; omega, fun c hc => ⟨G r, 0, rfl, ?_⟩⟩
    rw [Nat.zero_add]
    exact hk (G r) c _ (by omega) (RowAt.lt h2) (RowAt.cell h2 (ints_get _ hc))
end
theorem ErAt.fb {b : Nat} {w w' : World} (h : ErAt w) (hf : Fb b w w') (hb : gRange < b) : ErAt w' := by
  obtain ⟨ev, h1, h2⟩ := h
  refine ⟨ev, ?_, h2⟩
  have := hf.block gRange (World.block_lt_of_cell? _ _ h1) (by omega)
  simp only [World.cell?, this] at h1 ⊢
  exact h1
theorem NmAt.fb {b : Nat} {w w' : World} (h : NmAt w) (hf : Fb b w w') (hb : 1 < b) : NmAt w' := by
  refine ⟨fun j v hv => ?_, fun j v hv => ?_⟩
  · have h1 := h.kn j v hv
    have := hf.block 1 (World.block_lt_of_cell? _ _ h1) (by omega)
    simp only [World.cell?, this] at h1 ⊢
    exact h1
  · have h1 := h.tb j v hv
    have := hf.block 0 (World.block_lt_of_cell? _ _ h1) (by omega)
    simp only [World.cell?, this] at h1 ⊢
    exact h1
end Go.Proofs.YtkohhdkkbaifoaaGreatDoor

/-
  A step, as it is read: what is held.
-/
namespace Go.Proofs.YtkohhdkkbaifoaaGreatDoor
open Go.RowKit PK Vg

section
variable (k n : Int) (key : ByteArray) (mv a b c : Value) (rf pl : Nat → Int)
theorem sps1 (x : Int) : (spA k n key mv a b c rf pl).setIfInBounds 1 (.int .i64 x) = spA k x key mv a b c rf pl := by simp [spA]
theorem sps2 (x : ByteArray) : (spA k n key mv a b c rf pl).setIfInBounds 2 (.string x) = spA k n x mv a b c rf pl := by simp [spA]
theorem sps3 (x : Value) : (spA k n key mv a b c rf pl).setIfInBounds 3 x = spA k n key x a b c rf pl := by simp [spA]
theorem sps4 (a2 b2 c2 : Value) (rf2 pl2 : Nat → Int) : setMany (spA k n key mv a b c rf pl) 4 (mac a2 b2 c2 rf2 pl2).toList = spA k n key mv a2 b2 c2 rf2 pl2 := by
  have hl : (mac a2 b2 c2 rf2 pl2).toList.length = 55 := by rw [Array.length_toList, mac_size]
  apply Array.ext_getElem?
  intro i
  rw [setMany_get _ _ _ _ (by rw [hl, spA_size]; omega), hl]
  by_cases h : 4 ≤ i ∧ i < 4 + 55
  · obtain ⟨j, rfl⟩ : ∃ j, i = 4 + j := ⟨i - 4, by omega⟩
    rw [if_pos h, Nat.add_sub_cancel_left, Array.getElem?_toList, spA_mac]
  · rw [if_neg h]
    by_cases h0 : i < 4
    · have : i = 0 ∨ i = 1 ∨ i = 2 ∨ i = 3 := by omega
      rcases this with rfl | rfl | rfl | rfl
      · rw [spA_0, spA_0]
      · rw [spA_1, spA_1]
      · rw [spA_2, spA_2]
      · rw [spA_3, spA_3]
    · rw [Array.getElem?_eq_none (by rw [spA_size]; omega), Array.getElem?_eq_none (by rw [spA_size]; omega)]
end
/-- What is held while a step is read: q the result's box, q6 the step's; P: what is known of its slices. -/
structure StI (w W : World) (b q q6 : Nat) (T : ByteArray) (p : Nat) (z c : Array Value) (P : World → Prop) : Prop where
  res : RowAt W q 31 z
  box : RowAt W q6 31 c
  rd : RdAt W b T p
  fb : Fb b w W
  ne : b < q
  sz : w.heap.size = q
  lt : q < q6
  nw : Nw (q6 + 1) W.heap.size P W
section
variable {w W W' : World} {b q q6 : Nat} {T : ByteArray} {p p' : Nat} {z c c' : Array Value} {P Q : World → Prop}
theorem StI.step (h : StI w W b q q6 T p z c P) (hf : Fb b W W') (hr : RdAt W' b T p') : StI w W' b q q6 T p' z c P := by
  have hne := h.ne
  have hlt := h.lt
  refine ⟨hf.row h.res (by omega), hf.row h.box (by omega), hr, h.fb.trans hf, h.ne, h.sz, h.lt, ?_⟩
  refine (h.nw.mono (Nat.le_refl _) hf.size).keep fun i o x h1 _ h3 => ?_
  have := hf.block i (cell_block h3) (by omega)
  simp only [World.cell?, this] at h3 ⊢
  exact h3
theorem StI.calm (h : StI w W b q q6 T p z c P) (hb : Below W.heap.size W W') : StI w W' b q q6 T p z c P := h.step (Fb.of hb) (RowAt.below h.rd hb (RowAt.lt h.rd))
theorem StI.more (h : StI w W b q q6 T p z c P) (hq : Nw (q6 + 1) W.heap.size Q W) : StI w W b q q6 T p z c Q := ⟨h.res, h.box, h.rd, h.fb, h.ne, h.sz, h.lt, hq⟩
theorem StI.put (h : StI w W b q q6 T p z c P) (i : Nat) (v : Value) (hc : c.setIfInBounds i v = c') : StI w (W.setCell ⟨q6, i, none⟩ v) b q q6 T p z c' P := by
  have hne := h.ne
  have hsz := h.sz
  have hlt := h.lt
  refine ⟨RowAt.setOther h.res ⟨q6, i, none⟩ v (by show q ≠ q6; omega), ?_, RowAt.setOther h.rd ⟨q6, i, none⟩ v (by show b ≠ q6; omega), ?_, h.ne, h.sz, h.lt, ?_⟩
  · rw [← hc]; exact RowAt.set h.box i v
  · exact ⟨h.fb.os, h.fb.tape, h.fb.output, by rw [World.size_setCell]; exact h.fb.size, fun k hk hb => (heap_setCell_other W ⟨q6, i, none⟩ k v (by show k ≠ q6; omega)).trans (h.fb.block k hk hb)⟩
  · rw [World.size_setCell]
    refine h.nw.keep fun j o x h1 _ h3 => ?_
    have := heap_setCell_other W ⟨q6, i, none⟩ j v (by show j ≠ q6; omega)
    simp only [World.cell?, this] at h3 ⊢
    exact h3
theorem StI.lay (h : StI w W b q q6 T p z c P) (o : Nat) (l : List Value) (hc : setMany c o l = c') : StI w (W.setCells q6 o l) b q q6 T p z c' P := by
  have hne := h.ne
  have hsz := h.sz
  have hlt := h.lt
  have hB := below_setCells (B := q6) (g := q6) (Nat.le_refl _) (l := l) (o := o) (Below.refl _ W)
  refine ⟨row_setCells_other (by omega) h.res, ?_, row_setCells_other (by omega) h.rd, ?_, h.ne, h.sz, h.lt, ?_⟩
  · rw [← hc]; exact row_setCells h.box
  · exact ⟨hB.os.trans h.fb.os, hB.tape.trans h.fb.tape, hB.output.trans h.fb.output, Nat.le_trans h.fb.size hB.size, fun k hk hb => (heap_lay (by omega) l o W).trans (h.fb.block k hk hb)⟩
  · refine (h.nw.mono (Nat.le_refl _) hB.size).keep fun j o2 x h1 _ h3 => ?_
    have := heap_lay (g := q6) (j := j) (by omega) l o W
    simp only [World.cell?, this] at h3 ⊢
    exact h3
theorem StI.fin (h : StI w W b q q6 T p z c P) (MC : Array Value) : RdAt (W.setRow q MC) b T p ∧ Fb b w (W.setRow q MC) ∧ Nw q (W.setRow q MC).heap.size P (W.setRow q MC) := by
  have hne := h.ne
  have hsz := h.sz
  have hlt := h.lt
  have hB := PK.Below.setRow (Below.refl q W) q (Nat.le_refl _) MC
  refine ⟨RowAt.rowOther h.rd q MC (by omega), ⟨hB.os.trans h.fb.os, hB.tape.trans h.fb.tape, hB.output.trans h.fb.output, Nat.le_trans h.fb.size hB.size, fun k hk hb => (setRow_other W q k MC (by omega)).trans (h.fb.block k hk hb)⟩, ?_⟩
  refine (h.nw.keep fun j o2 x h1 _ h3 => ?_).mono (by omega) hB.size
  have := setRow_other W q j MC (by omega)
  simp only [World.cell?, this] at h3 ⊢
  exact h3
theorem StI.there (h : StI w W b q q6 T p z c P) {o n : Nat} (hn : o + n ≤ c.size) : W.there q6 o n := fun j hj => by
  have hlt : o + j < c.size := by omega
  exact ⟨by rw [RowAt.cell h.box (Array.getElem?_eq_getElem hlt)]; rfl, RowAt.frozen h.box _⟩
end
/-- What of a step lies in slices. -/
def SlP (mv a b c : Value) (s : Sp) (W : World) : Prop := MatAt W mv s.r s.L s.Z ∧ WheelsAt W a s.g.n s.g.wi s.g.nl s.g.no ∧ NumsAt W b s.g.rl s.g.ri ∧ NumsAt W c s.g.sl s.g.st
theorem slp_nil {B E : Nat} (k n : Nat) (W : World) : Nw B E (SlP (.slice none 0 0) (.slice none 0 0) (.slice none 0 0) (.slice none 0 0) (sp0 k n)) W := fun _ _ =>
  ⟨⟨none, 0, fun _ => undef, rfl, Nat.zero_le _, fun r hr => absurd hr (Nat.not_lt_zero r), fun r hr => absurd hr (Nat.not_lt_zero r)⟩, ⟨none, 0, fun _ => undef, rfl, Nat.zero_le _, fun r hr => absurd hr (Nat.not_lt_zero r), fun r hr => absurd hr (Nat.not_lt_zero r)⟩, ⟨none, 0, rfl, Nat.zero_le _, fun r hr => absurd hr (Nat.not_lt_zero r)⟩, ⟨none, 0, rfl, Nat.zero_le _, fun r hr => absurd hr (Nat.not_lt_zero r)⟩⟩
end Go.Proofs.YtkohhdkkbaifoaaGreatDoor

/-
  A matrix, as it is read: the walk.
-/
namespace Go.Proofs.YtkohhdkkbaifoaaGreatDoor
open Go.RowKit PK Vg

theorem rNums_at {t : List UInt8} {p m q N : Nat} {L : List Nat} {e : Int × Nat} (h : rNums t p m = .ok (L, q)) (hn : rNum t 0 25 q = .error e) (hN : m < N) : rNums t p N = .error e := by
  have h1 : rNums t p (m + 1) = .error e := by
    show rBind (rNums t p m) _ = _
    rw [h]
    show rBind (rNum t 0 25 q) _ = _
    rw [hn]
    rfl
  have := rNums_err h1 (N - (m + 1))
  rw [show m + 1 + (N - (m + 1)) = N by omega] at this
  exact this
theorem rNums_go {t : List UInt8} {p m q x q' : Nat} {L : List Nat} (h : rNums t p m = .ok (L, q)) (hn : rNum t 0 25 q = .ok (x, q')) : rNums t p (m + 1) = .ok (L ++ [x], q') := by
  show rBind (rNums t p m) _ = _
  rw [h]
  show rBind (rNum t 0 25 q) _ = _
  rw [hn]
  rfl
theorem numE_in {l : List UInt8} {lo hi : Int} (h : numE l lo hi = 0) : lo ≤ (valA 0 l : Nat) ∧ ((valA 0 l : Nat) : Int) ≤ hi := by
  unfold numE at h
  by_cases h1 : isNum l = false
  · rw [if_pos h1] at h; cases h
  · rw [if_neg h1] at h; exact inE_zero.1 h
set_option maxRecDepth 100000 in
set_option maxHeartbeats 4000000 in
theorem mat_any (b : Nat) (T : ByteArray) (p0 : Nat) (w : World) (hr : RdAt w b T p0) (hs : T.size ≤ 65536) (he : ErAt w) (hgb : gRange < b) : Calls Tryz.prog 163 #[.pointer (some ⟨b, 0, none⟩)] w fun e w' => Told (rMat T.data.toList p0) e (fun x q v => Nw w.heap.size w'.heap.size (fun W => MatAt W v x.1 (fun _ => x.1) (fun i j => ((x.2.getD (i * x.1 + j) 0 : Nat) : Int))) w' ∧ RdAt w' b T q) ∧ Fb b w w' := by
  have hbl := RowAt.lt hr
  have HWD : Hid _ := word_rz b T p0 w hr hs
  obtain ⟨RR, hRR0⟩ : ∃ RR, RR = rMat T.data.toList p0 := ⟨_, rfl⟩
  have HRM : Hid (RR = rMat T.data.toList p0) := hRR0
  rw [← hRR0]
  clear hRR0 hr
  unfold rMat rNum at HRM
  have htl := Pl.size_len T
  have HE : Hid (ErAt w) := he
  clear he
  go_enter Tryz.func163, Tryz.ntmps163
  go_wp2_with fail
  refine Calls.mono HWD.out ?_
  rintro e W1 ⟨ht, hf⟩
  rcases hw1 : rWord T.data.toList p0 with ⟨E, A⟩ | ⟨l1, p1⟩
  · rw [hw1] at ht
    obtain rfl : e = .panicked [flt E A] := ht
    have hRR : RR = .error (E, A) := by have h := HRM.out; rw [hw1] at h; exact h
    exact ⟨rfl, by rw [hRR]; rfl, hf⟩
  rw [hw1] at ht
  obtain ⟨v, rfl, rfl, hrd⟩ := ht
  obtain ⟨-, -, -, hq1, hq2, hq3, hq4⟩ := rWord_ok hw1
  have HCL : Hid _ := wnum_any l1 p0 1 4 (by omega) hq2 (by omega) W1 (HE.out.fb hf hgb)
  have hrm := HRM.out
  rw [hw1] at hrm
  change RR = rBind (rChk _ _ _) _ at hrm
  have HRM1 : Hid _ := hrm
  have HF : Hid _ := hf
  have HRD : Hid _ := hrd
  clear HRM HWD hf hrd hrm hw1 hq1 hq2 hq3 hq4
  go_wp2_with fail
  refine Calls.mono HCL.out ?_
  rintro e W2 ⟨hok, hbad, hb⟩
  have HF2 : Hid (Fb b w W2) := HF.out.trans (Fb.of hb)
  by_cases hE : ¬ numE l1 1 4 = 0
  · obtain rfl := hbad hE
    have hRR : RR = .error (numE l1 1 4, p0) := by rw [HRM1.out]; unfold rChk; rw [if_neg hE]; rfl
    exact ⟨rfl, by rw [hRR]; rfl, HF2.out⟩
  have hE := Decidable.not_not.1 hE
  obtain rfl := hok hE
  have hn := numE_in hE
  have hrm := HRM1.out
  rw [rChk, if_pos hE] at hrm
  change RR = rBind (rNums T.data.toList p1 (valA 0 l1 * valA 0 l1)) _ at hrm
  generalize valA 0 l1 = n at *
  have HRM : Hid _ := hrm
  have HRD2 : Hid (RdAt W2 b T p1) := RowAt.below HRD.out hb (RowAt.lt HRD.out)
  clear HRM1 HCL hbad hok hrm hE HRD HF hb
  obtain ⟨hn1, hn4⟩ : 1 ≤ n ∧ n ≤ 4 := by omega
  clear hn
  have hmk1 := run_make_row' (P := Tryz.prog) 23 25 (.slice none 0 0) 24 Tryz.underlying23 h_info_ints rfl .i64 .i64 n (by omega) (by omega)
  have hmk2 := run_make_row' (P := Tryz.prog) 25 3 (.int .i64 0) 8 Tryz.underlying25 h_info_int rfl .i64 .i64 n (by omega) (by omega)
  rw [made_tab] at hmk1 hmk2
  have hwz : w.heap.size ≤ W2.heap.size := HF2.out.size
  have HI0 : Hid (MtI w (W2.alloc (.cells (tab n fun _ => .slice none 0 0) 25)) b W2.heap.size n T p1 0 (fun _ => 0) []) := by
    refine ⟨?_, fun r hr => by omega, fun r s _ hs => by omega, RowAt.alloc HRD2.out _, HF2.out.trans (Fb.alloc b _ _), hbl, hwz⟩
    have := RowAt.new W2 25 (tab n fun _ => .slice none 0 0)
    rw [tab_ext (g' := fillV (fun r => .slice (some ⟨(fun _ => 0) r, 0, none⟩) n n) (.slice none 0 0) 0) (fun r _ => by simp [fillV])] at this
    exact this
  have HEr : Hid (∀ W, Fb b w W → ErAt W) := fun W hW => HE.out.fb hW hgb
  clear HE HF2 HRD2
  go_wp2
  go_loopw [12] (fun i W => ∃ (y : Nat) (G : Nat → Nat) (L : List Nat) (p : Nat), y ≤ n ∧ i = .int .i64 y ∧ Hid (L.length = y * n ∧ rNums T.data.toList p1 (y * n) = .ok (L, p)) ∧ Hid (MtI w W b W2.heap.size n T p y G L)) (fun i _ => ((n : Int) - intOf i).toNat)
  case atStart => exact ⟨0, fun _ => 0, [], p1, by omega, rfl, ⟨by simp, by simp [rNums]⟩, HI0.out⟩
  case round =>
    clear HI0
    obtain ⟨y, G, L, p, hy, rfl, HL, HI⟩ := hrel
    by_cases hlt : y < n
    · have ro1 := RowAt.alloc HI.out.box (.cells (tab n fun _ => .int .i64 0) 3)
      have hco := RowAt.cell ro1 (tab_get _ hlt)
      have hfo := RowAt.frozen ro1 y
      have hrow := HI.out.row hlt HL.out.1
      have hsz2 := RowAt.lt HI.out.box
      obtain ⟨Z1, hZ1⟩ : ∃ Z1, Z1 = (wr.setCell ⟨W2.heap.size, y, none⟩ (.slice (some ⟨wr.heap.size, 0, none⟩) n n)).alloc (.cells (tab n fun _ => .int .i64 0) 3) := ⟨_, rfl⟩
      rw [← hZ1] at hrow
      have hcz := hrow.cell hlt
      rw [upd_same] at hcz
      have HI1 : Hid _ := hrow
      clear hrow ro1 HI
      generalize hGG : upd G y wr.heap.size = G1 at *
      have HGy : Hid (G1 y = wr.heap.size) := by rw [Hid, ← hGG, upd_same]
      go_upto_region 6 with fail
      rw [← hZ1]
      clear hZ1 hco hfo
      clear hGG
      generalize wr.heap.size = gy at *
      go_wp2
      go_loopw [26] (fun i W => ∃ (x : Nat) (L : List Nat) (p : Nat), x ≤ n ∧ i = .int .i64 x ∧ Hid (L.length = y * n + x ∧ rNums T.data.toList p1 (y * n + x) = .ok (L, p)) ∧ Hid (MtI w W b W2.heap.size n T p (y + 1) G1 L)) (fun i _ => ((n : Int) - intOf i).toNat)
      case atStart => exact ⟨0, L, p, by omega, rfl, HL, HI1⟩
      case round =>
        clear hcz HI1 HL
        obtain ⟨x, L, p, hx, rfl, HL, HI⟩ := hrel
        by_cases hxl : x < n
        · have HID := HI.out.drew
          have hyx : y * n + x < n * n := by have h := Nat.mul_le_mul_right n (show y + 1 ≤ n by omega); rw [Nat.succ_mul] at h; omega
          have HWD : Hid _ := word_rz b T p _ HID.rd hs
          have cz := HID.cell hlt
          rw [HGy.out] at cz
          go_wp2
          rcases hw : rWord T.data.toList p with ⟨E, A⟩ | ⟨l2, p2⟩
          · rw [hw] at HWD
            have HRR : Hid (RR = .error (E, A)) := by
              rw [Hid, HRM.out, rNums_at HL.out.2 (e := (E, A)) (by unfold rNum; rw [hw]; rfl) hyx]; rfl
            have HWE : Hid (Calls Tryz.prog 109 #[.pointer (some ⟨b, 0, none⟩)] (World.drew _) fun e w' => e = .panicked [flt E A] ∧ Fb b _ w') := HWD.out
            have HFB : Hid _ := HID.fb
            clear HWD hw
            refine wp_region_held_drew (S := fun W => W.cell? ⟨W2.heap.size, y, none⟩ = some (.slice (some ⟨gy, 0, none⟩) n n)) (by kernel_rfl) cz (fun hS => ?_)
            refine vtakeP 0 29 (.slice (some ⟨W2.heap.size, 0, none⟩) n n) rfl rfl (by kernel_rfl) (by kernel_rfl) (by kernel_rfl) (fun _ _ _ h => h) (by rfl) (fun W hW => by clear hS hW; go_simp) hS ?_
            simp only [List.setIfInBounds_toArray, List.set_cons_succ, List.set_cons_zero]
            refine vtakeP 1 30 (.int .i64 (y : Int)) rfl rfl (by kernel_rfl) (by kernel_rfl) (by kernel_rfl) (fun _ _ _ h => h) (by rfl) (fun W hW => by clear hS hW; go_simp) hS ?_
            simp only [List.setIfInBounds_toArray, List.set_cons_succ, List.set_cons_zero]
            refine vtakeP 2 31 (.pointer (some ⟨W2.heap.size, y, none⟩)) rfl rfl (by kernel_rfl) (by kernel_rfl) (by kernel_rfl) (fun _ _ _ h => h) (by rfl) (fun W hW => by clear hS hW; go_simp) hS ?_
            simp only [List.setIfInBounds_toArray, List.set_cons_succ, List.set_cons_zero]
            refine vtakeP 3 32 (.slice (some ⟨gy, 0, none⟩) n n) rfl rfl (by kernel_rfl) (by kernel_rfl) (by kernel_rfl) (fun _ _ _ h => h) (by rfl) (fun W hW => by have u := hW; clear hS hW; go_simp) hS ?_
            simp only [List.setIfInBounds_toArray, List.set_cons_succ, List.set_cons_zero]
            refine vtakeP 4 33 (.int .i64 (x : Int)) rfl rfl (by kernel_rfl) (by kernel_rfl) (by kernel_rfl) (fun _ _ _ h => h) (by rfl) (fun W hW => by clear hS hW; go_simp) hS ?_
            simp only [List.setIfInBounds_toArray, List.set_cons_succ, List.set_cons_zero]
            refine vtakeP 5 34 (.pointer (some ⟨b, 0, none⟩)) rfl rfl (by kernel_rfl) (by kernel_rfl) (by kernel_rfl) (fun _ _ _ h => h) (by rfl) (fun W hW => by clear hS hW; go_simp) hS ?_
            simp only [List.setIfInBounds_toArray, List.set_cons_succ, List.set_cons_zero]
            refine wpAnyH_ready (rs := [6]) (by kernel_rfl) (by simp) ?_
            refine AllReadyH.cons (o := _) rfl (fun K hK => ?_) AllReadyH.nil
            rw [if_pos (by rfl)]
            go_simp
            refine Calls.mono (HWE.out) ?_
            rintro e Y ⟨rfl, hf⟩
            exact ⟨rfl, by rw [HRR.out]; rfl, HFB.out.trans hf⟩
          rw [hw] at HWD
          obtain ⟨-, -, -, hq1, hq2, hq3, hq4⟩ := rWord_ok hw
          by_cases hE : ¬ numE l2 0 25 = 0
          · have HRR : Hid (RR = .error (numE l2 0 25, p)) := by
              rw [Hid, HRM.out, rNums_at HL.out.2 (e := (numE l2 0 25, p)) (by unfold rNum; rw [hw]; show rChk _ _ _ = _; unfold rChk; rw [if_neg hE]) hyx]; rfl
            clear hw
            refine wp_region_held_drew (S := fun W => W.cell? ⟨W2.heap.size, y, none⟩ = some (.slice (some ⟨gy, 0, none⟩) n n)) (by kernel_rfl) cz (fun hS => ?_)
            refine vtakeP 0 29 (.slice (some ⟨W2.heap.size, 0, none⟩) n n) rfl rfl (by kernel_rfl) (by kernel_rfl) (by kernel_rfl) (fun _ _ _ h => h) (by rfl) (fun W hW => by clear hS hW; go_simp) hS ?_
            simp only [List.setIfInBounds_toArray, List.set_cons_succ, List.set_cons_zero]
            refine vtakeP 1 30 (.int .i64 (y : Int)) rfl rfl (by kernel_rfl) (by kernel_rfl) (by kernel_rfl) (fun _ _ _ h => h) (by rfl) (fun W hW => by clear hS hW; go_simp) hS ?_
            simp only [List.setIfInBounds_toArray, List.set_cons_succ, List.set_cons_zero]
            refine vtakeP 2 31 (.pointer (some ⟨W2.heap.size, y, none⟩)) rfl rfl (by kernel_rfl) (by kernel_rfl) (by kernel_rfl) (fun _ _ _ h => h) (by rfl) (fun W hW => by clear hS hW; go_simp) hS ?_
            simp only [List.setIfInBounds_toArray, List.set_cons_succ, List.set_cons_zero]
            refine vtakeP 3 32 (.slice (some ⟨gy, 0, none⟩) n n) rfl rfl (by kernel_rfl) (by kernel_rfl) (by kernel_rfl) (fun _ _ _ h => h) (by rfl) (fun W hW => by have u := hW; clear hS hW; go_simp) hS ?_
            simp only [List.setIfInBounds_toArray, List.set_cons_succ, List.set_cons_zero]
            refine vtakeP 4 33 (.int .i64 (x : Int)) rfl rfl (by kernel_rfl) (by kernel_rfl) (by kernel_rfl) (fun _ _ _ h => h) (by rfl) (fun W hW => by clear hS hW; go_simp) hS ?_
            simp only [List.setIfInBounds_toArray, List.set_cons_succ, List.set_cons_zero]
            refine vtakeP 5 34 (.pointer (some ⟨b, 0, none⟩)) rfl rfl (by kernel_rfl) (by kernel_rfl) (by kernel_rfl) (fun _ _ _ h => h) (by rfl) (fun W hW => by clear hS hW; go_simp) hS ?_
            simp only [List.setIfInBounds_toArray, List.set_cons_succ, List.set_cons_zero]
            refine wpAnyH_ready (rs := [6]) (by kernel_rfl) (by simp) ?_
            refine AllReadyH.cons (o := _) rfl (fun K hK => ?_) AllReadyH.nil
            rw [if_pos (by rfl)]
            go_simp
            refine Calls.mono HWD.out ?_
            rintro e V2 ⟨⟨v, rfl, rfl, hrd⟩, hf⟩
            have HI1 : Hid _ := HID.step hf hrd
            refine hK.out _ _ (by have h := HI1.out.cell hlt; rw [HGy.out] at h; exact h) (fun hS1 => ?_)
            clear hK hS K
            have hS := hS1
            clear hS1
            refine wpAnyH_ready (rs := [7]) (by kernel_rfl) (by simp) ?_
            refine AllReadyH.cons (o := _) rfl (fun K hK => ?_) AllReadyH.nil
            rw [if_pos (by rfl)]
            go_simp
            refine Calls.mono (wnum_any l2 p 0 25 (by omega) hq2 (by omega) V2 (HEr.out _ HI1.out.fb)) ?_
            rintro e X2 ⟨-, hbad, hb⟩
            obtain rfl := hbad hE
            exact ⟨rfl, by rw [HRR.out]; rfl, (HI1.out.calm hb).fb⟩
          have hE := Decidable.not_not.1 hE
          have HNX : Hid (rNums T.data.toList p1 (y * n + x + 1) = .ok (L ++ [valA 0 l2], p2)) := rNums_go HL.out.2 (by unfold rNum; rw [hw]; show rChk _ _ _ = _; unfold rChk; rw [if_pos hE])
          clear hw
          refine wp_region_noPanic ?_
          refine wp_region_held_drew (S := fun W => W.cell? ⟨W2.heap.size, y, none⟩ = some (.slice (some ⟨gy, 0, none⟩) n n)) (by kernel_rfl) cz (fun hS => ?_)
          refine vtake 0 29 (.slice (some ⟨W2.heap.size, 0, none⟩) n n) rfl rfl (by kernel_rfl) (by kernel_rfl) (by kernel_rfl) (fun _ _ _ _ h => h) (by rfl) (fun W hW => by clear hS hW; go_simp) hS ?_
          simp only [List.setIfInBounds_toArray, List.set_cons_succ, List.set_cons_zero]
          refine vtake 1 30 (.int .i64 (y : Int)) rfl rfl (by kernel_rfl) (by kernel_rfl) (by kernel_rfl) (fun _ _ _ _ h => h) (by rfl) (fun W hW => by clear hS hW; go_simp) hS ?_
          simp only [List.setIfInBounds_toArray, List.set_cons_succ, List.set_cons_zero]
          refine vtake 2 31 (.pointer (some ⟨W2.heap.size, y, none⟩)) rfl rfl (by kernel_rfl) (by kernel_rfl) (by kernel_rfl) (fun _ _ _ _ h => h) (by rfl) (fun W hW => by clear hS hW; go_simp) hS ?_
          simp only [List.setIfInBounds_toArray, List.set_cons_succ, List.set_cons_zero]
          refine vtake 3 32 (.slice (some ⟨gy, 0, none⟩) n n) rfl rfl (by kernel_rfl) (by kernel_rfl) (by kernel_rfl) (fun _ _ _ _ h => h) (by rfl) (fun W hW => by have u := hW; clear hS hW; go_simp) hS ?_
          simp only [List.setIfInBounds_toArray, List.set_cons_succ, List.set_cons_zero]
          refine vtake 4 33 (.int .i64 (x : Int)) rfl rfl (by kernel_rfl) (by kernel_rfl) (by kernel_rfl) (fun _ _ _ _ h => h) (by rfl) (fun W hW => by clear hS hW; go_simp) hS ?_
          simp only [List.setIfInBounds_toArray, List.set_cons_succ, List.set_cons_zero]
          refine vtake 5 34 (.pointer (some ⟨b, 0, none⟩)) rfl rfl (by kernel_rfl) (by kernel_rfl) (by kernel_rfl) (fun _ _ _ _ h => h) (by rfl) (fun W hW => by clear hS hW; go_simp) hS ?_
          simp only [List.setIfInBounds_toArray, List.set_cons_succ, List.set_cons_zero]
          refine wpAnyH_ready (rs := [6]) (by kernel_rfl) (by simp) ?_
          refine AllReadyH.cons (o := _) rfl (fun K hK => ?_) AllReadyH.nil
          rw [if_pos (by rfl)]
          go_simp
          refine Calls.mono HWD.out ?_
          rintro e V2 ⟨⟨v, rfl, rfl, hrd⟩, hf⟩
          have HI1 : Hid _ := HID.step hf hrd
          refine hK.out _ _ (by have h := HI1.out.cell hlt; rw [HGy.out] at h; exact h) (fun hS1 => ?_)
          clear hK hS K
          have hS := hS1
          clear hS1
          refine wpAnyH_ready (rs := [7]) (by kernel_rfl) (by simp) ?_
          refine AllReadyH.cons (o := _) rfl (fun K hK => ?_) AllReadyH.nil
          rw [if_pos (by rfl)]
          go_simp
          refine Calls.mono (wnum_any l2 p 0 25 (by omega) hq2 (by omega) V2 (HEr.out _ HI1.out.fb)) ?_
          rintro e X2 ⟨hok, -, hb⟩
          obtain rfl := hok hE
          have HI2 : Hid _ := HI1.out.calm hb
          refine hK.out _ _ (by have h := HI2.out.cell hlt; rw [HGy.out] at h; exact h) (fun hS1 => ?_)
          clear hK hS K
          have hS := hS1
          clear hS1
          generalize valA 0 l2 = nv at *
          have hput := HI2.out.put (x := x) (v := nv) HL.out.1
          have hrw := (HI2.out.rows y (by omega)).2
          rw [HGy.out] at hput hrw
          have hput2 := hput
          have c1 := RowAt.cell hrw (ints_get _ hxl)
          have f1 := RowAt.frozen hrw x
          refine vtake 8 37 (.pointer (some ⟨gy, x, none⟩)) rfl rfl (by kernel_rfl) (by kernel_rfl) (by kernel_rfl) (fun _ _ _ _ h => h) (by rfl) (fun W hW => by clear hS hW; go_simp) hS ?_
          simp only [List.setIfInBounds_toArray, List.set_cons_succ, List.set_cons_zero]
          refine wpAnyH_ready (rs := [9]) (by kernel_rfl) (by simp) ?_
          refine AllReadyH.cons (o := _) rfl (fun K hK => ?_) AllReadyH.nil
          rw [if_pos (by rfl)]
          go_simp
          refine hK.out _ _ ((by have h := hput2.cell hlt; rw [HGy.out] at h; exact h)) (fun hS1 => ?_)
          clear hK hS K
          have hS := hS1
          clear hS1
          refine wpAnyH_done (by kernel_rfl) ?_ _
          refine NoPanic.normal ?_
          have HI3 : Hid _ := hput
          have HL1 := HL.out.1
          clear HI HI1 HI2 HID HWD hb hE c1 f1 hrd hf hS cz hput hput2 hrw HL
          generalize X2.setCell ⟨gy, x, none⟩ (.int .i64 (nv : Int)) = Z3 at *
          go_wp2
          go_roundw
          case rel => exact ⟨x + 1, L ++ [nv], p2, by omega, by go_num, ⟨by rw [List.length_append, HL1]; rfl, HNX.out⟩, HI3⟩
          case measure => simp [intOf]; omega
        · have HN : Hid (x = n) := by rw [Hid]; omega
          go_wp2
          go_roundw
          case rel =>
            refine ⟨y + 1, G1, L, p, by omega, by go_num, ?_, HI⟩
            have h := HL.out
            rw [HN.out] at h
            rw [Nat.succ_mul]
            exact h
          case measure => simp [intOf]; omega
    · have HN : Hid (y = n) := by rw [Hid]; omega
      go_wp2
      go_ret
      have hI := HI.out
      have hL := HL.out
      rw [HN.out] at hI hL
      have hRR : RR = .ok ((n, L), p) := by rw [HRM.out, hL.2]; rfl
      exact ⟨by rw [hRR]; exact ⟨_, rfl, hI.fin hn4, hI.rd⟩, hI.fb⟩
end Go.Proofs.YtkohhdkkbaifoaaGreatDoor
