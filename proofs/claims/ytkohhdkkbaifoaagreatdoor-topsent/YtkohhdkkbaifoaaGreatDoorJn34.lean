/-
  Several texts, joined: ScAp, ScM, ScMm, ScSt.
-/
import Derived.Test.YtkohhdkkbaifoaaGreatDoorJn32
import Derived.Test.YtkohhdkkbaifoaaGreatDoorJn33
import Derived.Maps.AppendAt
import Derived.Laws.AppendOwnNone
import Derived.Test.YtkohhdkkbaifoaaGreatDoorJn22
import Derived.Test.YtkohhdkkbaifoaaGreatDoorJn27
import Derived.Test.YtkohhdkkbaifoaaGreatDoorJn18
/-
  Chains that are arguments, appended.
-/
namespace Go.Proofs.YtkohhdkkbaifoaaGreatDoor
open Go.RowKit PK Vg

theorem rws_at {f : Nat → Array Value} {s : Nat} (h0 : 0 < s) {k : Nat} (hs : ∀ i, i < k → (f i).size = s) {j : Nat} {u : Value} (h : (rws f k)[j]? = some u) : ∃ r q, r < k ∧ q < s ∧ j = r * s + q ∧ (f r).toList[q]? = some u := by
  have hl := rws_len hs
  have hj : j < k * s := by have := (List.getElem?_eq_some_iff.1 h).1; omega
  have hr : j / s < k := (Nat.div_lt_iff_lt_mul h0).2 hj
  have hq : j % s < s := Nat.mod_lt _ h0
  have e : j = j / s * s + j % s := by have := Nat.div_add_mod j s; rw [Nat.mul_comm] at this; omega
  refine ⟨j / s, j % s, hr, hq, e, ?_⟩
  have hlt : j % s < (f (j / s)).toList.length := by rw [Array.length_toList, hs _ hr]; exact hq
  have h1 := rws_get hs (j / s) hr (j % s) _ (List.getElem?_eq_getElem hlt)
  rw [← e, h] at h1
  rw [h1]
  exact List.getElem?_eq_getElem hlt
/-- What an argument that is a chain gives to append. -/
theorem ChAt.src {w : World} {v : Value} {n : Nat} {l : Nat → Sp} (h : ChAt w v n l) : ∃ (a : Option Addr) (cap : Nat) (R : Nat → Array Value), v = .slice a n cap ∧ n ≤ maxLen ∧ (∀ i, i < n → (R i).size = 59 ∧ (R i).all (·.oneCell') = true ∧ SqAt w (.agg (R i)) (l i)) ∧ (∀ ad, a = some ad → ∀ j u, (rws R n)[j]? = some u → w.cell? (ad.add j) = some u) ∧ (rws R n).length = n * 59 ∧ ∀ u ∈ rws R n, u.oneCell' = true := by
  obtain ⟨a, cap, R, h1, h2, h3, h4⟩ := h
  have hsz : ∀ i, i < n → (R i).size = 59 := fun i hi => (sq_size (h4 i hi)).1
  refine ⟨a, cap, R, h1, h2, fun i hi => ⟨hsz i hi, (sq_size (h4 i hi)).2, h4 i hi⟩, fun ad ha j u hu => ?_, rws_len hsz, fun u hu => ?_⟩
  · obtain ⟨r, q, hr, _, rfl, hq⟩ := rws_at (by omega) hsz hu
    obtain ⟨b, o, e, hc⟩ := h3 r hr
    rw [ha] at e
    cases e
    have := hc q u hq
    rw [Addr.add_mid, ← Nat.add_assoc]
    exact this
  · obtain ⟨j, hj, rfl⟩ := List.getElem_of_mem hu
    obtain ⟨r, q, hr, _, rfl, hq⟩ := rws_at (by omega) hsz (List.getElem?_eq_getElem hj)
    have h5 := (sq_size (h4 r hr)).2
    rw [← Array.all_toList] at h5
    exact List.all_eq_true.1 h5 _ (List.mem_of_getElem? hq)
end Go.Proofs.YtkohhdkkbaifoaaGreatDoor

/-
  A machine, as it is read.
-/
namespace Go.Proofs.YtkohhdkkbaifoaaGreatDoor
open Go.RowKit PK Vg

theorem mz17 : (Tryz.prog.info? 29).map (·.zero) = some (some (.agg (mac (.slice none 0 0) (.slice none 0 0) (.slice none 0 0) (fun _ => 0) (fun _ => 0)))) := by kernel_rfl
theorem ms0 (a b c c2 : Value) (rf pl : Nat → Int) : (mac a b c rf pl).setIfInBounds 0 c2 = mac c2 b c rf pl := by simp [mac]
theorem ms1 (a b c c2 : Value) (rf pl : Nat → Int) : (mac a b c rf pl).setIfInBounds 1 c2 = mac a c2 c rf pl := by simp [mac]
theorem ms2 (a b c c2 : Value) (rf pl : Nat → Int) : (mac a b c rf pl).setIfInBounds 2 c2 = mac a b c2 rf pl := by simp [mac]
theorem ms3 (a b c : Value) (rf pl rf2 : Nat → Int) : setMany (mac a b c rf pl) 3 (ints 26 rf2).toList = mac a b c rf2 pl := by
  have hl : (ints 26 rf2).toList.length = 26 := by rw [Array.length_toList, ints_size]
  apply Array.ext_getElem?
  intro i
  rw [setMany_get _ _ _ _ (by rw [hl, mac_size]; omega), hl]
  by_cases h : 3 ≤ i ∧ i < 3 + 26
  · obtain ⟨j, rfl⟩ : ∃ j, i = 3 + j := ⟨i - 3, by omega⟩
    rw [if_pos h, Nat.add_sub_cancel_left, Array.getElem?_toList, ints_get _ (by omega), mac_rf _ _ _ _ _ (by omega)]
  · rw [if_neg h]
    by_cases h0 : i < 3
    · have : i = 0 ∨ i = 1 ∨ i = 2 := by omega
      rcases this with rfl | rfl | rfl
      · rw [mac_0, mac_0]
      · rw [mac_1, mac_1]
      · rw [mac_2, mac_2]
    · by_cases h1 : i < 55
      · obtain ⟨j, rfl⟩ : ∃ j, i = 29 + j := ⟨i - 29, by omega⟩
        rw [mac_pl _ _ _ _ _ (by omega), mac_pl _ _ _ _ _ (by omega)]
      · rw [Array.getElem?_eq_none (by rw [mac_size]; omega), Array.getElem?_eq_none (by rw [mac_size]; omega)]
theorem ws_four {l : List UInt8} (h : wsE l = 0) : pcn l ≤ 4 := by
  unfold wsE at h
  by_cases h1 : firV (fun k => knE (pce l k)) (pcn l) ≠ 0
  · rw [if_pos h1] at h; exact absurd h h1
  · rw [if_neg h1] at h
    by_cases h2 : 4 < pcn l
    · rw [if_pos h2] at h; cases h
    · omega
/-- What is held while a machine is read: q the result's box, then the machine's; P: what is known of its slices. -/
structure McI (w W : World) (b q : Nat) (T : ByteArray) (p : Nat) (a c d : Value) (rf pl : Nat → Int) (P : World → Prop) : Prop where
  res : RowAt W q 29 (mac (.slice none 0 0) (.slice none 0 0) (.slice none 0 0) (fun _ => 0) (fun _ => 0))
  box : RowAt W (q + 1) 29 (mac a c d rf pl)
  rd : RdAt W b T p
  fb : Fb b w W
  ne : b < q
  sz : w.heap.size = q
  nw : Nw (q + 2) W.heap.size P W
section
variable {w W W' : World} {b q : Nat} {T : ByteArray} {p p' : Nat} {a c d a' c' d' : Value} {rf pl rf' pl' : Nat → Int} {P Q : World → Prop}
theorem McI.step (h : McI w W b q T p a c d rf pl P) (hf : Fb b W W') (hr : RdAt W' b T p') : McI w W' b q T p' a c d rf pl P := by
  have hne := h.ne
  refine ⟨hf.row h.res (by omega), hf.row h.box (by omega), hr, h.fb.trans hf, h.ne, h.sz, ?_⟩
  refine (h.nw.mono (Nat.le_refl _) hf.size).keep fun i o x h1 _ h3 => ?_
  have := hf.block i (cell_block h3) (by omega)
  simp only [World.cell?, this] at h3 ⊢
  exact h3
theorem McI.calm (h : McI w W b q T p a c d rf pl P) (hb : Below W.heap.size W W') : McI w W' b q T p a c d rf pl P := h.step (Fb.of hb) (RowAt.below h.rd hb (RowAt.lt h.rd))
theorem McI.more (h : McI w W b q T p a c d rf pl P) (hq : Nw (q + 2) W.heap.size Q W) : McI w W b q T p a c d rf pl (fun W => P W ∧ Q W) := ⟨h.res, h.box, h.rd, h.fb, h.ne, h.sz, fun W2 h2 => ⟨h.nw W2 h2, hq W2 h2⟩⟩
theorem McI.put (h : McI w W b q T p a c d rf pl P) (i : Nat) (v : Value) (hc : (mac a c d rf pl).setIfInBounds i v = mac a' c' d' rf' pl') : McI w (W.setCell ⟨q + 1, i, none⟩ v) b q T p a' c' d' rf' pl' P := by
  have hne := h.ne
  have hsz := h.sz
  refine ⟨RowAt.setOther h.res ⟨q + 1, i, none⟩ v (by show q ≠ q + 1; omega), ?_, RowAt.setOther h.rd ⟨q + 1, i, none⟩ v (by show b ≠ q + 1; omega), ?_, h.ne, h.sz, ?_⟩
  · rw [← hc]; exact RowAt.set h.box i v
  · exact ⟨h.fb.os, h.fb.tape, h.fb.output, by rw [World.size_setCell]; exact h.fb.size, fun k hk hb => (heap_setCell_other W ⟨q + 1, i, none⟩ k v (by show k ≠ q + 1; omega)).trans (h.fb.block k hk hb)⟩
  · rw [World.size_setCell]
    refine h.nw.keep fun j o x h1 _ h3 => ?_
    have := heap_setCell_other W ⟨q + 1, i, none⟩ j v (by show j ≠ q + 1; omega)
    simp only [World.cell?, this] at h3 ⊢
    exact h3
theorem heap_lay {g j : Nat} (hj : j ≠ g) : ∀ (l : List Value) (o : Nat) (W : World), (W.setCells g o l).heap[j]? = W.heap[j]?
  | [], _, _ => rfl
  | v :: l, o, W => (heap_lay hj l (o + 1) (W.setCell ⟨g, o, none⟩ v)).trans (heap_setCell_other W ⟨g, o, none⟩ j v hj)
theorem McI.lay (h : McI w W b q T p a c d rf pl P) (o : Nat) (l : List Value) (hc : setMany (mac a c d rf pl) o l = mac a' c' d' rf' pl') : McI w (W.setCells (q + 1) o l) b q T p a' c' d' rf' pl' P := by
  have hne := h.ne
  have hsz := h.sz
  have hB := below_setCells (B := q + 1) (g := q + 1) (Nat.le_refl _) (l := l) (o := o) (Below.refl _ W)
  refine ⟨row_setCells_other (by omega) h.res, ?_, row_setCells_other (by omega) h.rd, ?_, h.ne, h.sz, ?_⟩
  · rw [← hc]; exact row_setCells h.box
  · exact ⟨hB.os.trans h.fb.os, hB.tape.trans h.fb.tape, hB.output.trans h.fb.output, Nat.le_trans h.fb.size hB.size, fun k hk hb => (heap_lay (by omega) l o W).trans (h.fb.block k hk hb)⟩
  · refine (h.nw.mono (Nat.le_refl _) hB.size).keep fun j o2 x h1 _ h3 => ?_
    have := heap_lay (g := q + 1) (j := j) (by omega) l o W
    simp only [World.cell?, this] at h3 ⊢
    exact h3
theorem McI.drew (h : McI w W b q T p a c d rf pl P) : McI w W.drew b q T p a c d rf pl P := ⟨h.res, h.box, h.rd, ⟨h.fb.os, h.fb.tape, h.fb.output, h.fb.size, h.fb.block⟩, h.ne, h.sz, h.nw⟩
theorem McI.fin (h : McI w W b q T p a c d rf pl P) (MC : Array Value) : RdAt (W.setRow q MC) b T p ∧ Fb b w (W.setRow q MC) ∧ Nw q (W.setRow q MC).heap.size P (W.setRow q MC) := by
  have hne := h.ne
  have hsz := h.sz
  have hB := PK.Below.setRow (Below.refl q W) q (Nat.le_refl _) MC
  refine ⟨RowAt.rowOther h.rd q MC (by omega), ⟨hB.os.trans h.fb.os, hB.tape.trans h.fb.tape, hB.output.trans h.fb.output, Nat.le_trans h.fb.size hB.size, fun k hk hb => (setRow_other W q k MC (by omega)).trans (h.fb.block k hk hb)⟩, ?_⟩
  refine (h.nw.keep fun j o2 x h1 _ h3 => ?_).mono (by omega) hB.size
  have := setRow_other W q j MC (by omega)
  simp only [World.cell?, this] at h3 ⊢
  exact h3
theorem McI.there (h : McI w W b q T p a c d rf pl P) {o n : Nat} (hn : o + n ≤ 55) : W.there (q + 1) o n := fun j hj => by
  have hlt : o + j < (mac a c d rf pl).size := by rw [mac_size]; omega
  exact ⟨by rw [RowAt.cell h.box (Array.getElem?_eq_getElem hlt)]; rfl, RowAt.frozen h.box _⟩
end
end Go.Proofs.YtkohhdkkbaifoaaGreatDoor

/-
  A matrix, as it is read.
-/
namespace Go.Proofs.YtkohhdkkbaifoaaGreatDoor
open Go.RowKit PK Vg

theorem rNums_err {t : List UInt8} {p : Nat} {e : Int × Nat} {m : Nat} (he : rNums t p m = .error e) : ∀ d, rNums t p (m + d) = .error e
  | 0 => he
  | d + 1 => by
    show rBind (rNums t p (m + d)) _ = _
    rw [rNums_err he d]
    rfl
theorem getD_snoc (L : List Nat) (v i : Nat) : (L ++ [v]).getD i 0 = if i = L.length then v else L.getD i 0 := by
  simp only [List.getD]
  by_cases h : i < L.length
  · rw [if_neg (by omega), List.getElem?_append_left h]
  · rw [List.getElem?_append_right (by omega)]
    by_cases e : i = L.length
    · rw [if_pos e, e, Nat.sub_self]; rfl
    · rw [if_neg e, List.getElem?_eq_none (l := L) (by omega), List.getElem?_eq_none (by simp; omega)]
/-- The rows' slices: k of them are made. -/
def mtC (n k : Nat) (G : Nat → Nat) : Array Value := tab n (fillV (fun r => .slice (some ⟨G r, 0, none⟩) n n) (.slice none 0 0) k)
/-- What is held while a matrix is read. -/
structure MtI (w W : World) (b q n : Nat) (T : ByteArray) (p k : Nat) (G : Nat → Nat) (L : List Nat) : Prop where
  box : RowAt W q 25 (mtC n k G)
  rows : ∀ r, r < k → q < G r ∧ RowAt W (G r) 3 (ints n fun j => ((L.getD (r * n + j) 0 : Nat) : Int))
  inj : ∀ r s, r < s → s < k → G r < G s
  rd : RdAt W b T p
  fb : Fb b w W
  ne : b < w.heap.size
  sz : w.heap.size ≤ q
section
variable {w W W' : World} {b q n : Nat} {T : ByteArray} {p p' k : Nat} {G : Nat → Nat} {L : List Nat}
theorem MtI.step (h : MtI w W b q n T p k G L) (hf : Fb b W W') (hr : RdAt W' b T p') : MtI w W' b q n T p' k G L := by
  have hne := h.ne
  have hsz := h.sz
  refine ⟨hf.row h.box (by omega), fun r hr => ?_, h.inj, hr, h.fb.trans hf, hne, hsz⟩
  obtain ⟨h1, h2⟩ := h.rows r hr
  exact ⟨h1, hf.row h2 (by omega)⟩
theorem MtI.calm (h : MtI w W b q n T p k G L) (hb : Below W.heap.size W W') : MtI w W' b q n T p k G L := h.step (Fb.of hb) (RowAt.below h.rd hb (RowAt.lt h.rd))
theorem MtI.drew (h : MtI w W b q n T p k G L) : MtI w W.drew b q n T p k G L := ⟨h.box, h.rows, h.inj, h.rd, ⟨h.fb.os, h.fb.tape, h.fb.output, h.fb.size, h.fb.block⟩, h.ne, h.sz⟩
theorem MtI.cell (h : MtI w W b q n T p (k + 1) G L) (hk : k < n) : W.cell? ⟨q, k, none⟩ = some (.slice (some ⟨G k, 0, none⟩) n n) := by
  have := RowAt.cell h.box (tab_get _ hk)
  rw [this]
  unfold fillV
  rw [if_pos (by omega)]
theorem MtI.row (h : MtI w W b q n T p k G L) (hk : k < n) (hL : L.length = k * n) : MtI w ((W.setCell ⟨q, k, none⟩ (.slice (some ⟨W.heap.size, 0, none⟩) n n)).alloc (.cells (tab n fun _ => .int .i64 0) 3)) b q n T p (k + 1) (upd G k W.heap.size) L := by
  have hne := h.ne
  have hsz := h.sz
  have hlt := RowAt.lt h.box
  have hfz := h.fb.size
  have hq : W.heap.size = (W.setCell ⟨q, k, none⟩ (.slice (some ⟨W.heap.size, 0, none⟩) n n)).heap.size := by rw [World.size_setCell]
  refine ⟨?_, fun r hr => ?_, fun r s hrs hs => ?_, RowAt.alloc (RowAt.setOther h.rd ⟨q, k, none⟩ _ (by show b ≠ q; omega)) _, ?_, hne, hsz⟩
  · have := RowAt.alloc (RowAt.set h.box k (.slice (some ⟨W.heap.size, 0, none⟩) n n)) (.cells (tab n fun _ => .int .i64 0) 3)
    unfold mtC at this ⊢
    rw [tab_set, tab_ext (g := upd (fillV (fun r => .slice (some ⟨G r, 0, none⟩) n n) (.slice none 0 0) k) k (.slice (some ⟨W.heap.size, 0, none⟩) n n)) (g' := fillV (fun r => .slice (some ⟨upd G k W.heap.size r, 0, none⟩) n n) (.slice none 0 0) (k + 1)) (fun r _ => ?_)] at this
    · exact this
    · unfold upd fillV
      by_cases e : r = k
      · subst e; rw [if_pos rfl, if_pos (by omega)]; simp
      · rw [if_neg e]
        by_cases h2 : r < k
        · rw [if_pos h2, if_pos (by omega)]; simp [e]
        · rw [if_neg h2, if_neg (by omega)]
  · by_cases e : r = k
    · subst e
      rw [upd_same]
      refine ⟨hlt, ?_⟩
      have := RowAt.new (W.setCell ⟨q, r, none⟩ (.slice (some ⟨W.heap.size, 0, none⟩) n n)) 3 (tab n fun _ => .int .i64 0)
      rw [World.size_setCell, ints_new] at this
      rw [ints_ext (g := fun _ => 0) (fun j _ => ?_)]
      · rw [ints_new]; exact this
      · simp only [List.getD]
        rw [List.getElem?_eq_none (by omega)]
        rfl
    · rw [upd_other G _ e]
      obtain ⟨h1, h2⟩ := h.rows r (by omega)
      exact ⟨h1, RowAt.alloc (RowAt.setOther h2 ⟨q, k, none⟩ _ (by show G r ≠ q; omega)) _⟩
  · rw [upd_other G _ (show r ≠ k by omega)]
    by_cases e : s = k
    · subst e; rw [upd_same]; exact RowAt.lt (h.rows r (by omega)).2
    · rw [upd_other G _ e]; exact h.inj r s hrs (by omega)
  · have h1 : Fb b w (W.setCell ⟨q, k, none⟩ (.slice (some ⟨W.heap.size, 0, none⟩) n n)) := ⟨h.fb.os, h.fb.tape, h.fb.output, by rw [World.size_setCell]; exact h.fb.size, fun i hi hb => (heap_setCell_other W ⟨q, k, none⟩ i _ (by show i ≠ q; omega)).trans (h.fb.block i hi hb)⟩
    exact h1.trans (Fb.alloc b _ _)
theorem MtI.put (h : MtI w W b q n T p (k + 1) G L) {x v : Nat} (hL : L.length = k * n + x) : MtI w (W.setCell ⟨G k, x, none⟩ (.int .i64 ((v : Nat) : Int))) b q n T p (k + 1) G (L ++ [v]) := by
  have hne := h.ne
  have hsz := h.sz
  obtain ⟨hg1, hg2⟩ := h.rows k (by omega)
  refine ⟨RowAt.setOther h.box ⟨G k, x, none⟩ _ (by show q ≠ G k; omega), fun r hr => ?_, h.inj, RowAt.setOther h.rd ⟨G k, x, none⟩ _ (by show b ≠ G k; omega), ⟨h.fb.os, h.fb.tape, h.fb.output, by rw [World.size_setCell]; exact h.fb.size, fun i hi hb => (heap_setCell_other W ⟨G k, x, none⟩ i _ (by show i ≠ G k; omega)).trans (h.fb.block i hi hb)⟩, hne, hsz⟩
  by_cases e : r = k
  · subst e
    refine ⟨hg1, ?_⟩
    have := RowAt.set hg2 x (.int .i64 ((v : Nat) : Int))
    rw [ints_set, ints_ext (g := fun j => (((L ++ [v]).getD (r * n + j) 0 : Nat) : Int)) (fun j _ => ?_)] at this
    · exact this
    · rw [getD_snoc]
      unfold upd
      by_cases e : j = x
      · rw [if_pos e, if_pos (by omega)]
      · rw [if_neg e, if_neg (by omega)]
  · obtain ⟨h1, h2⟩ := h.rows r hr
    have h3 := h.inj r k (by omega) (by omega)
    refine ⟨h1, ?_⟩
    have := RowAt.setOther h2 ⟨G k, x, none⟩ (.int .i64 ((v : Nat) : Int)) (by show G r ≠ G k; omega)
    rw [ints_ext (g := fun j => (((L ++ [v]).getD (r * n + j) 0 : Nat) : Int)) (fun j hj => ?_)] at this
    · exact this
    · rw [getD_snoc, if_neg]
      have : (r + 1) * n ≤ k * n := Nat.mul_le_mul_right n (by omega)
      rw [Nat.succ_mul] at this
      omega
theorem MtI.fin (h : MtI w W b q n T p n G L) (hn : n ≤ 4) : Nw w.heap.size W.heap.size (fun W => MatAt W (.slice (some ⟨q, 0, none⟩) n n) n (fun _ => n) (fun i j => ((L.getD (i * n + j) 0 : Nat) : Int))) W := by
  have hsz := h.sz
  intro W2 hk
  refine ⟨_, n, fun r => .slice (some ⟨G r, 0, none⟩) n n, rfl, by unfold maxLen; omega, fun r hr => ⟨q, 0, rfl, ?_⟩, fun r hr => ?_⟩
  · rw [Nat.zero_add]
    refine hk q r _ hsz (RowAt.lt h.box) ?_
    have := RowAt.cell h.box (tab_get _ hr)
    rw [this]
    unfold fillV
    rw [if_pos hr]
  · obtain ⟨h1, h2⟩ := h.rows r hr
    refine ⟨_, n, rfl, by show n ≤ maxLen; unfold maxLen; omega, fun c hc => ⟨G r, 0, rfl, ?_⟩⟩
    rw [Nat.zero_add]
    exact hk (G r) c _ (by omega) (RowAt.lt h2) (RowAt.cell h2 (ints_get _ hc))
end
theorem ErAt.fb {b : Nat} {w w' : World} (h : ErAt w) (hf : Fb b w w') (hb : gRange < b) : ErAt w' := by
  obtain ⟨ev, h1, h2⟩ := h
  refine ⟨ev, ?_, h2⟩
  have := hf.block gRange (World.block_lt_of_cell? _ _ h1) (by omega)
  simp only [World.cell?, this] at h1 ⊢
  exact h1
theorem NmAt.fb {b : Nat} {w w' : World} (h : NmAt w) (hf : Fb b w w') (hb : 1 < b) : NmAt w' := by
  refine ⟨fun j v hv => ?_, fun j v hv => ?_⟩
  · have h1 := h.kn j v hv
    have := hf.block 1 (World.block_lt_of_cell? _ _ h1) (by omega)
    simp only [World.cell?, this] at h1 ⊢
    exact h1
  · have h1 := h.tb j v hv
    have := hf.block 0 (World.block_lt_of_cell? _ _ h1) (by omega)
    simp only [World.cell?, this] at h1 ⊢
    exact h1
end Go.Proofs.YtkohhdkkbaifoaaGreatDoor

/-
  A step, as it is read: what is held.
-/
namespace Go.Proofs.YtkohhdkkbaifoaaGreatDoor
open Go.RowKit PK Vg

section
variable (k n : Int) (key : ByteArray) (mv a b c : Value) (rf pl : Nat → Int)
theorem sps1 (x : Int) : (spA k n key mv a b c rf pl).setIfInBounds 1 (.int .i64 x) = spA k x key mv a b c rf pl := by simp [spA]
theorem sps2 (x : ByteArray) : (spA k n key mv a b c rf pl).setIfInBounds 2 (.string x) = spA k n x mv a b c rf pl := by simp [spA]
theorem sps3 (x : Value) : (spA k n key mv a b c rf pl).setIfInBounds 3 x = spA k n key x a b c rf pl := by simp [spA]
theorem sps4 (a2 b2 c2 : Value) (rf2 pl2 : Nat → Int) : setMany (spA k n key mv a b c rf pl) 4 (mac a2 b2 c2 rf2 pl2).toList = spA k n key mv a2 b2 c2 rf2 pl2 := by
  have hl : (mac a2 b2 c2 rf2 pl2).toList.length = 55 := by rw [Array.length_toList, mac_size]
  apply Array.ext_getElem?
  intro i
  rw [setMany_get _ _ _ _ (by rw [hl, spA_size]; omega), hl]
  by_cases h : 4 ≤ i ∧ i < 4 + 55
  · obtain ⟨j, rfl⟩ : ∃ j, i = 4 + j := ⟨i - 4, by omega⟩
    rw [if_pos h, Nat.add_sub_cancel_left, Array.getElem?_toList, spA_mac]
  · rw [if_neg h]
    by_cases h0 : i < 4
    · have : i = 0 ∨ i = 1 ∨ i = 2 ∨ i = 3 := by omega
      rcases this with rfl | rfl | rfl | rfl
      · rw [spA_0, spA_0]
      · rw [spA_1, spA_1]
      · rw [spA_2, spA_2]
      · rw [spA_3, spA_3]
    · rw [Array.getElem?_eq_none (by rw [spA_size]; omega), Array.getElem?_eq_none (by rw [spA_size]; omega)]
end
/-- What is held while a step is read: q the result's box, q6 the step's; P: what is known of its slices. -/
structure StI (w W : World) (b q q6 : Nat) (T : ByteArray) (p : Nat) (z c : Array Value) (P : World → Prop) : Prop where
  res : RowAt W q 31 z
  box : RowAt W q6 31 c
  rd : RdAt W b T p
  fb : Fb b w W
  ne : b < q
  sz : w.heap.size = q
  lt : q < q6
  nw : Nw (q6 + 1) W.heap.size P W
section
variable {w W W' : World} {b q q6 : Nat} {T : ByteArray} {p p' : Nat} {z c c' : Array Value} {P Q : World → Prop}
theorem StI.step (h : StI w W b q q6 T p z c P) (hf : Fb b W W') (hr : RdAt W' b T p') : StI w W' b q q6 T p' z c P := by
  have hne := h.ne
  have hlt := h.lt
  refine ⟨hf.row h.res (by omega), hf.row h.box (by omega), hr, h.fb.trans hf, h.ne, h.sz, h.lt, ?_⟩
  refine (h.nw.mono (Nat.le_refl _) hf.size).keep fun i o x h1 _ h3 => ?_
  have := hf.block i (cell_block h3) (by omega)
  simp only [World.cell?, this] at h3 ⊢
  exact h3
theorem StI.calm (h : StI w W b q q6 T p z c P) (hb : Below W.heap.size W W') : StI w W' b q q6 T p z c P := h.step (Fb.of hb) (RowAt.below h.rd hb (RowAt.lt h.rd))
theorem StI.more (h : StI w W b q q6 T p z c P) (hq : Nw (q6 + 1) W.heap.size Q W) : StI w W b q q6 T p z c Q := ⟨h.res, h.box, h.rd, h.fb, h.ne, h.sz, h.lt, hq⟩
theorem StI.put (h : StI w W b q q6 T p z c P) (i : Nat) (v : Value) (hc : c.setIfInBounds i v = c') : StI w (W.setCell ⟨q6, i, none⟩ v) b q q6 T p z c' P := by
  have hne := h.ne
  have hsz := h.sz
  have hlt := h.lt
  refine ⟨RowAt.setOther h.res ⟨q6, i, none⟩ v (by show q ≠ q6; omega), ?_, RowAt.setOther h.rd ⟨q6, i, none⟩ v (by show b ≠ q6; omega), ?_, h.ne, h.sz, h.lt, ?_⟩
  · rw [← hc]; exact RowAt.set h.box i v
  · exact ⟨h.fb.os, h.fb.tape, h.fb.output, by rw [World.size_setCell]; exact h.fb.size, fun k hk hb => (heap_setCell_other W ⟨q6, i, none⟩ k v (by show k ≠ q6; omega)).trans (h.fb.block k hk hb)⟩
  · rw [World.size_setCell]
    refine h.nw.keep fun j o x h1 _ h3 => ?_
    have := heap_setCell_other W ⟨q6, i, none⟩ j v (by show j ≠ q6; omega)
    simp only [World.cell?, this] at h3 ⊢
    exact h3
theorem StI.lay (h : StI w W b q q6 T p z c P) (o : Nat) (l : List Value) (hc : setMany c o l = c') : StI w (W.setCells q6 o l) b q q6 T p z c' P := by
  have hne := h.ne
  have hsz := h.sz
  have hlt := h.lt
  have hB := below_setCells (B := q6) (g := q6) (Nat.le_refl _) (l := l) (o := o) (Below.refl _ W)
  refine ⟨row_setCells_other (by omega) h.res, ?_, row_setCells_other (by omega) h.rd, ?_, h.ne, h.sz, h.lt, ?_⟩
  · rw [← hc]; exact row_setCells h.box
  · exact ⟨hB.os.trans h.fb.os, hB.tape.trans h.fb.tape, hB.output.trans h.fb.output, Nat.le_trans h.fb.size hB.size, fun k hk hb => (heap_lay (by omega) l o W).trans (h.fb.block k hk hb)⟩
  · refine (h.nw.mono (Nat.le_refl _) hB.size).keep fun j o2 x h1 _ h3 => ?_
    have := heap_lay (g := q6) (j := j) (by omega) l o W
    simp only [World.cell?, this] at h3 ⊢
    exact h3
theorem StI.fin (h : StI w W b q q6 T p z c P) (MC : Array Value) : RdAt (W.setRow q MC) b T p ∧ Fb b w (W.setRow q MC) ∧ Nw q (W.setRow q MC).heap.size P (W.setRow q MC) := by
  have hne := h.ne
  have hsz := h.sz
  have hlt := h.lt
  have hB := PK.Below.setRow (Below.refl q W) q (Nat.le_refl _) MC
  refine ⟨RowAt.rowOther h.rd q MC (by omega), ⟨hB.os.trans h.fb.os, hB.tape.trans h.fb.tape, hB.output.trans h.fb.output, Nat.le_trans h.fb.size hB.size, fun k hk hb => (setRow_other W q k MC (by omega)).trans (h.fb.block k hk hb)⟩, ?_⟩
  refine (h.nw.keep fun j o2 x h1 _ h3 => ?_).mono (by omega) hB.size
  have := setRow_other W q j MC (by omega)
  simp only [World.cell?, this] at h3 ⊢
  exact h3
theorem StI.there (h : StI w W b q q6 T p z c P) {o n : Nat} (hn : o + n ≤ c.size) : W.there q6 o n := fun j hj => by
  have hlt : o + j < c.size := by omega
  exact ⟨by rw [RowAt.cell h.box (Array.getElem?_eq_getElem hlt)]; rfl, RowAt.frozen h.box _⟩
end
/-- What of a step lies in slices. -/
def SlP (mv a b c : Value) (s : Sp) (W : World) : Prop := MatAt W mv s.r s.L s.Z ∧ WheelsAt W a s.g.n s.g.wi s.g.nl s.g.no ∧ NumsAt W b s.g.rl s.g.ri ∧ NumsAt W c s.g.sl s.g.st
theorem slp_nil {B E : Nat} (k n : Nat) (W : World) : Nw B E (SlP (.slice none 0 0) (.slice none 0 0) (.slice none 0 0) (.slice none 0 0) (sp0 k n)) W := fun _ _ =>
  ⟨⟨none, 0, fun _ => undef, rfl, Nat.zero_le _, fun r hr => absurd hr (Nat.not_lt_zero r), fun r hr => absurd hr (Nat.not_lt_zero r)⟩, ⟨none, 0, fun _ => undef, rfl, Nat.zero_le _, fun r hr => absurd hr (Nat.not_lt_zero r), fun r hr => absurd hr (Nat.not_lt_zero r)⟩, ⟨none, 0, rfl, Nat.zero_le _, fun r hr => absurd hr (Nat.not_lt_zero r)⟩, ⟨none, 0, rfl, Nat.zero_le _, fun r hr => absurd hr (Nat.not_lt_zero r)⟩⟩
end Go.Proofs.YtkohhdkkbaifoaaGreatDoor
