/-
  RotorGoesOn: what is held on the way.
-/
import Derived.Test.YtibkcgjofcfoaaaJn7
import Derived.Test.YtibkcgjofcfoaaaJn9
import Derived.Test.YtibkcgjofcfoaaaRoTu
import Derived.Test.YtibkcgjofcfoaaaOLate
import Derived.Deep.DeepCutAuto
namespace Go.Proofs.Ytibkcgjofcfoaaa
open Go.RowKit PK Vg

/-- The machine, a fault, and the keys. -/
structure GkS (w W : World) (a b c : Value) (rf pl : Nat → Int) (qf qk n : Nat) (ks : Nat → Int) : Prop where
  fm : FmAt w W a b c rf pl qf (.int .i64 0) (.int .i64 0)
  k : RowAt W qk 3 (ints n ks)
  lt : qf < qk
section
variable {w W W' : World} {a b c : Value} {rf pl : Nat → Int} {qf qk n : Nat} {ks : Nat → Int}
theorem GkS.step (h : GkS w W a b c rf pl qf qk n ks) (hb : Below W.heap.size W W') : GkS w W' a b c rf pl qf qk n ks := ⟨h.fm.step hb, h.k.below hb h.k.lt, h.lt⟩
theorem GkS.set (h : GkS w W a b c rf pl qf qk n ks) (i : Nat) (v : Int) : GkS w (W.setCell ⟨qk, i, none⟩ (.int .i64 v)) a b c rf pl qf qk n (upd ks i v) := by
  have h1 := h.fm.ne
  have h2 := h.lt
  refine ⟨⟨⟨h.fm.mg.row.setOther _ _ (by show w.heap.size ≠ qk; omega), h.fm.mg.below.setCell (p := ⟨qk, i, none⟩) (by show w.heap.size ≤ qk; omega) _⟩, h.fm.f.setOther _ _ (by show qf ≠ qk; omega), h.fm.ne⟩, ?_, h.lt⟩
  have := h.k.set i (.int .i64 v)
  rw [ints_set] at this
  exact this
end
/-- The machine, a fault, and another machine. -/
structure GnS (w W : World) (a b c : Value) (rf pl : Nat → Int) (qf q : Nat) (a2 b2 c2 : Value) : Prop where
  mg : MgAt w W a b c rf pl
  f : RowAt W qf 31 #[.int .i64 0, .int .i64 0]
  n : RowAt W q 27 (mac a2 b2 c2 rf pl)
  ne : w.heap.size < qf ∧ qf < q
section
variable {w W W' : World} {a b c a2 b2 c2 : Value} {rf pl : Nat → Int} {qf q : Nat}
theorem GnS.step (h : GnS w W a b c rf pl qf q a2 b2 c2) (hb : Below W.heap.size W W') : GnS w W' a b c rf pl qf q a2 b2 c2 := ⟨h.mg.step hb, h.f.below hb h.f.lt, h.n.below hb h.n.lt, h.ne⟩
theorem GnS.drew (h : GnS w W a b c rf pl qf q a2 b2 c2) : GnS w W.drew a b c rf pl qf q a2 b2 c2 := ⟨h.mg.drew, h.f, h.n, h.ne⟩
theorem GnS.alloc (h : GnS w W a b c rf pl qf q a2 b2 c2) (o : Obj) : GnS w (W.alloc o) a b c rf pl qf q a2 b2 c2 := h.step ((Below.refl _ _).alloc (Nat.le_refl _) o)
theorem GnS.fault (h : GnS w W a b c rf pl qf q a2 b2 c2) : GnS w (W.setRow qf #[.int .i64 0, .int .i64 0]) a b c rf pl qf q a2 b2 c2 := by
  have := h.ne
  exact ⟨h.mg.setRow _ (by omega) _, h.f.row _, h.n.rowOther _ _ (by omega), h.ne⟩
theorem GnS.row (h : GnS w W a b c rf pl qf q a2 b2 c2) (a3 b3 c3 : Value) : GnS w (W.setRow q (mac a3 b3 c3 rf pl)) a b c rf pl qf q a3 b3 c3 := by
  have := h.ne
  exact ⟨h.mg.setRow _ (by omega) _, h.f.rowOther _ _ (by omega), h.n.row _, h.ne⟩
end
theorem GnS.other {w W : World} {a b c a2 b2 c2 : Value} {rf pl : Nat → Int} {qf q : Nat} (h : GnS w W a b c rf pl qf q a2 b2 c2) (p : Nat) (hp : q < p) (d : Array Value) : GnS w (W.setRow p d) a b c rf pl qf q a2 b2 c2 := by
  have := h.ne
  exact ⟨h.mg.setRow _ (by omega) _, h.f.rowOther _ _ (by omega), h.n.rowOther _ _ (by omega), h.ne⟩
/-- What is held between two notches. -/
structure GoS (wr W : World) (u : Nat → Int) (R v : Value) (q20 q21 j : Nat) (f : Nat → Nat) : Prop where
  below : Below wr.heap.size wr W
  x20 : RowAt W q20 40 (whl u R)
  x21 : RowAt W q21 40 (whl u v)
  own : W.ownsRow (q21 + 1) 3 1 v j (niL f j)
  lt : wr.heap.size ≤ q20 ∧ q20 < q21
theorem built_whl1 (f : Nat → Int) : Try.prog.built 40 [(0, .agg (ints 26 f))] = some (whl f (.slice none 0 0)) := by kernel_rfl
/-- A block stored as it is. -/
theorem nums_same {W : World} {g : Nat} {T : TypeId} {d : Array Value} (h : RowAt W g T d) {v : Value} {n : Nat} {f : Nat → Int} (hn : NumsAt W v n f) : NumsAt (W.setRow g d) v n f := by
  obtain ⟨x, cap, rfl, h2, h3⟩ := hn
  refine ⟨x, cap, rfl, h2, fun i hi => ?_⟩
  obtain ⟨b, o, rfl, hcell⟩ := h3 i hi
  refine ⟨b, o, rfl, ?_⟩
  by_cases e : b = g
  · subst e
    have h4 := cell_of_row W b (o + i) d T (0, 0) h
    rw [h4] at hcell
    exact (h.row d).cell hcell
  · exact (cell_setRow_other W g d ⟨b, o + i, none⟩ e).trans hcell
theorem mac_set2 (a b c c2 : Value) (rf pl : Nat → Int) : (mac a b c rf pl).setIfInBounds 2 c2 = mac a b c2 rf pl := by
  unfold mac
  rw [Array.append_assoc, Array.append_assoc, Array.setIfInBounds_append_left (by simp)]
  rfl
theorem mac_set1 (a b c c2 : Value) (rf pl : Nat → Int) : (mac a b c rf pl).setIfInBounds 1 c2 = mac a c2 c rf pl := by
  unfold mac
  rw [Array.append_assoc, Array.append_assoc, Array.setIfInBounds_append_left (by simp)]
  rfl
theorem mac_set0 (a b c c2 : Value) (rf pl : Nat → Int) : (mac a b c rf pl).setIfInBounds 0 c2 = mac c2 b c rf pl := by
  unfold mac
  rw [Array.append_assoc, Array.append_assoc, Array.setIfInBounds_append_left (by simp)]
  rfl
theorem GnS.set2 {w W : World} {a b c a2 b2 c2 : Value} {rf pl : Nat → Int} {qf q : Nat} (h : GnS w W a b c rf pl qf q a2 b2 c2) (v : Value) : GnS w (W.setCell ⟨q, 2, none⟩ v) a b c rf pl qf q a2 b2 v := by
  have hne := h.ne
  refine ⟨⟨h.mg.row.setOther _ _ (by show w.heap.size ≠ q; omega), h.mg.below.setCell (p := ⟨q, 2, none⟩) (by show w.heap.size ≤ q; omega) _⟩, h.f.setOther _ _ (by show qf ≠ q; omega), ?_, h.ne⟩
  have := h.n.set 2 v
  rw [mac_set2] at this
  exact this
theorem GnS.set1 {w W : World} {a b c a2 b2 c2 : Value} {rf pl : Nat → Int} {qf q : Nat} (h : GnS w W a b c rf pl qf q a2 b2 c2) (v : Value) : GnS w (W.setCell ⟨q, 1, none⟩ v) a b c rf pl qf q a2 v c2 := by
  have hne := h.ne
  refine ⟨⟨h.mg.row.setOther _ _ (by show w.heap.size ≠ q; omega), h.mg.below.setCell (p := ⟨q, 1, none⟩) (by show w.heap.size ≤ q; omega) _⟩, h.f.setOther _ _ (by show qf ≠ q; omega), ?_, h.ne⟩
  have := h.n.set 1 v
  rw [mac_set1] at this
  exact this
theorem GnS.set0 {w W : World} {a b c a2 b2 c2 : Value} {rf pl : Nat → Int} {qf q : Nat} (h : GnS w W a b c rf pl qf q a2 b2 c2) (v : Value) : GnS w (W.setCell ⟨q, 0, none⟩ v) a b c rf pl qf q v b2 c2 := by
  have hne := h.ne
  refine ⟨⟨h.mg.row.setOther _ _ (by show w.heap.size ≠ q; omega), h.mg.below.setCell (p := ⟨q, 0, none⟩) (by show w.heap.size ≤ q; omega) _⟩, h.f.setOther _ _ (by show qf ≠ q; omega), ?_, h.ne⟩
  have := h.n.set 0 v
  rw [mac_set0] at this
  exact this
theorem GnS.grown {w W W' : World} {a b c a2 b2 c2 : Value} {rf pl : Nat → Int} {qf q : Nat} (h : GnS w W a b c rf pl qf q a2 b2 c2) {r : Option Nat} (hg : W.grownBy W' r) (hr : ∀ k, r = some k → q < k) : GnS w W' a b c rf pl qf q a2 b2 c2 := by
  have hne := h.ne
  have h1 : ∀ k, k ≤ q → some k ≠ r := fun k hk e => by have := hr k e.symm; omega
  refine ⟨⟨(hg.block _ h.mg.row.lt (h1 _ (by omega))).trans h.mg.row, h.mg.below.grown hg h.mg.below.size (fun k hk => by have := hr k hk; omega)⟩, (hg.block _ h.f.lt (h1 _ (by omega))).trans h.f, (hg.block _ h.n.lt (h1 _ (Nat.le_refl _))).trans h.n, h.ne⟩
/-- What is held between two wheels: the struct holds sa, sb, sc; va, vb, vc are the call's own. -/
structure GxS (w W : World) (a b c : Value) (rf pl : Nat → Int) (qf q : Nat) (sa sb sc va vb vc : Value) (wi : Nat → Nat → Int) (nl : Nat → Nat) (no : Nat → Nat → Int) (f1 f2 : Nat → Nat) (ka kb kc kr : Nat) (V : Nat → Value) : Prop where
  g : GnS w W a b c rf pl qf q sa sb sc
  oa : W.ownsRow (q + 1) 40 27 va ka (whL wi V ka)
  ob : W.ownsRow (q + 1) 3 1 vb kb (niL f1 kb)
  oc : W.ownsRow (q + 1) 3 1 vc kc (niL f2 kc)
  rows : ∀ r, r < kr → NumsAt W (V r) (nl r) (no r)
  ab : ∀ p, va.ownBlock = some p → vb.ownBlock ≠ some p ∧ vc.ownBlock ≠ some p
  bc : ∀ p, vb.ownBlock = some p → vc.ownBlock ≠ some p
  vr : ∀ r, r < kr → ∀ p, (V r).ownBlock = some p → q < p ∧ p < W.heap.size ∧ va.ownBlock ≠ some p ∧ vb.ownBlock ≠ some p ∧ vc.ownBlock ≠ some p
/-- What is held between two wheels. -/
abbrev GmS (w W : World) (a b c : Value) (rf pl : Nat → Int) (qf q : Nat) (va vb vc : Value) (wi : Nat → Nat → Int) (nl : Nat → Nat) (no : Nat → Nat → Int) (f1 f2 : Nat → Nat) (i : Nat) (V : Nat → Value) : Prop := GxS w W a b c rf pl qf q va vb vc va vb vc wi nl no f1 f2 i i i i V
section
variable {w W W' : World} {a b c sa sb sc va vb vc v : Value} {rf pl : Nat → Int} {qf q : Nat} {wi : Nat → Nat → Int} {nl : Nat → Nat} {no : Nat → Nat → Int} {f1 f2 : Nat → Nat} {ka kb kc kr : Nat} {V : Nat → Value}
theorem GxS.step (h : GxS w W a b c rf pl qf q sa sb sc va vb vc wi nl no f1 f2 ka kb kc kr V) (hb : Below W.heap.size W W') : GxS w W' a b c rf pl qf q sa sb sc va vb vc wi nl no f1 f2 ka kb kc kr V :=
  ⟨h.g.step hb, own_step h.oa hb, own_step h.ob hb, own_step h.oc hb, fun r hr => (h.rows r hr).below hb, h.ab, h.bc, fun r hr p hp => ⟨(h.vr r hr p hp).1, Nat.lt_of_lt_of_le (h.vr r hr p hp).2.1 hb.size, (h.vr r hr p hp).2.2⟩⟩
theorem GxS.alloc (h : GxS w W a b c rf pl qf q sa sb sc va vb vc wi nl no f1 f2 ka kb kc kr V) (o : Obj) : GxS w (W.alloc o) a b c rf pl qf q sa sb sc va vb vc wi nl no f1 f2 ka kb kc kr V := h.step ((Below.refl _ _).alloc (Nat.le_refl _) o)
theorem GxS.drew (h : GxS w W a b c rf pl qf q sa sb sc va vb vc wi nl no f1 f2 ka kb kc kr V) : GxS w W.drew a b c rf pl qf q sa sb sc va vb vc wi nl no f1 f2 ka kb kc kr V := h.step (Below.refl _ W).drew
theorem GxS.lt (h : GxS w W a b c rf pl qf q sa sb sc va vb vc wi nl no f1 f2 ka kb kc kr V) : q < W.heap.size := h.g.n.lt
theorem kept_other {B k n : Nat} {T : TypeId} {l : List Value} {r : Option Nat} (h : W.ownsRow B T k v n l) (hg : W.grownBy W' r) (hne : ∀ p, v.ownBlock = some p → r ≠ some p) : W'.ownsRow B T k v n l := by
  refine World.ownsRow.kept h hg ?_
  cases hv : v.ownBlock with
  | none => exact .inl rfl
  | some p => exact .inr (fun e => hne p hv e.symm)
theorem GxS.growA (h : GxS w W a b c rf pl qf q sa sb sc va vb vc wi nl no f1 f2 ka kb kc kr V) (hg : W.grownBy W' va.ownBlock) (ho : W'.ownsRow (q + 1) 40 27 v (ka + 1) (whL wi V ka ++ (whl (wi ka) (V ka)).toList)) (hat : v.ownBlock = va.ownBlock ∨ v.ownBlock = some W.heap.size) : GxS w W' a b c rf pl qf q sa sb sc v vb vc wi nl no f1 f2 (ka + 1) kb kc kr V := by
  have hlo : ∀ k, va.ownBlock = some k → q < k := fun k hk => by have := (World.ownsRow.lt h.oa k hk).1; omega
  have hnew : ∀ p, p < W.heap.size → va.ownBlock ≠ some p → v.ownBlock ≠ some p := fun p hp hne e => by
    rcases hat with e2 | e2
    · exact hne (e2.symm.trans e)
    · rw [e2] at e; cases e; omega
  refine ⟨h.g.grown hg hlo, ho, kept_other h.ob hg (fun p hp e => (h.ab p e).1 hp), kept_other h.oc hg (fun p hp e => (h.ab p e).2 hp), fun r hr => nums_grown (h.rows r hr) hg (fun p hp e => (h.vr r hr p hp).2.2.1 e.symm), fun p hp => ⟨fun e => ?_, fun e => ?_⟩, h.bc, fun r hr p hp => ?_⟩
  · exact hnew p (World.ownsRow.lt h.ob p e).2 (fun e2 => (h.ab p e2).1 e) hp
  · exact hnew p (World.ownsRow.lt h.oc p e).2 (fun e2 => (h.ab p e2).2 e) hp
  · have h1 := h.vr r hr p hp
    exact ⟨h1.1, Nat.lt_of_lt_of_le h1.2.1 hg.size, hnew p h1.2.1 h1.2.2.1, h1.2.2.2⟩
theorem GxS.growB (h : GxS w W a b c rf pl qf q sa sb sc va vb vc wi nl no f1 f2 ka kb kc kr V) (hg : W.grownBy W' vb.ownBlock) (ho : W'.ownsRow (q + 1) 3 1 v (kb + 1) (niL f1 kb ++ [.int .i64 (f1 kb : Nat)])) (hat : v.ownBlock = vb.ownBlock ∨ v.ownBlock = some W.heap.size) : GxS w W' a b c rf pl qf q sa sb sc va v vc wi nl no f1 f2 ka (kb + 1) kc kr V := by
  have hlo : ∀ k, vb.ownBlock = some k → q < k := fun k hk => by have := (World.ownsRow.lt h.ob k hk).1; omega
  have hnew : ∀ p, p < W.heap.size → vb.ownBlock ≠ some p → v.ownBlock ≠ some p := fun p hp hne e => by
    rcases hat with e2 | e2
    · exact hne (e2.symm.trans e)
    · rw [e2] at e; cases e; omega
  refine ⟨h.g.grown hg hlo, kept_other h.oa hg (fun p hp e => (h.ab p hp).1 e), by rw [niL_succ]; exact ho, kept_other h.oc hg (fun p hp e => h.bc p e hp), fun r hr => nums_grown (h.rows r hr) hg (fun p hp e => (h.vr r hr p hp).2.2.2.1 e.symm), fun p hp => ⟨hnew p (World.ownsRow.lt h.oa p hp).2 (h.ab p hp).1, (h.ab p hp).2⟩, fun p hp e => ?_, fun r hr p hp => ?_⟩
  · exact hnew p (World.ownsRow.lt h.oc p e).2 (fun e2 => h.bc p e2 e) hp
  · have h1 := h.vr r hr p hp
    exact ⟨h1.1, Nat.lt_of_lt_of_le h1.2.1 hg.size, h1.2.2.1, hnew p h1.2.1 h1.2.2.2.1, h1.2.2.2.2⟩
theorem GxS.growC (h : GxS w W a b c rf pl qf q sa sb sc va vb vc wi nl no f1 f2 ka kb kc kr V) (hg : W.grownBy W' vc.ownBlock) (ho : W'.ownsRow (q + 1) 3 1 v (kc + 1) (niL f2 kc ++ [.int .i64 (f2 kc : Nat)])) (hat : v.ownBlock = vc.ownBlock ∨ v.ownBlock = some W.heap.size) : GxS w W' a b c rf pl qf q sa sb sc va vb v wi nl no f1 f2 ka kb (kc + 1) kr V := by
  have hlo : ∀ k, vc.ownBlock = some k → q < k := fun k hk => by have := (World.ownsRow.lt h.oc k hk).1; omega
  have hnew : ∀ p, p < W.heap.size → vc.ownBlock ≠ some p → v.ownBlock ≠ some p := fun p hp hne e => by
    rcases hat with e2 | e2
    · exact hne (e2.symm.trans e)
    · rw [e2] at e; cases e; omega
  refine ⟨h.g.grown hg hlo, kept_other h.oa hg (fun p hp e => (h.ab p hp).2 e), kept_other h.ob hg (fun p hp e => h.bc p hp e), by rw [niL_succ]; exact ho, fun r hr => nums_grown (h.rows r hr) hg (fun p hp e => (h.vr r hr p hp).2.2.2.2 e.symm), fun p hp => ⟨(h.ab p hp).1, hnew p (World.ownsRow.lt h.oa p hp).2 (h.ab p hp).2⟩, fun p hp => hnew p (World.ownsRow.lt h.ob p hp).2 (h.bc p hp), fun r hr p hp => ?_⟩
  have h1 := h.vr r hr p hp
  exact ⟨h1.1, Nat.lt_of_lt_of_le h1.2.1 hg.size, h1.2.2.1, h1.2.2.2.1, hnew p h1.2.1 h1.2.2.2.2⟩
theorem GxS.put {sa2 sb2 sc2 : Value} (h : GxS w W a b c rf pl qf q sa sb sc va vb vc wi nl no f1 f2 ka kb kc kr V) (i : Nat) (x : Value) (hg : GnS w (W.setCell ⟨q, i, none⟩ x) a b c rf pl qf q sa2 sb2 sc2) : GxS w (W.setCell ⟨q, i, none⟩ x) a b c rf pl qf q sa2 sb2 sc2 va vb vc wi nl no f1 f2 ka kb kc kr V := by
  have hq := grown_set W q i x
  have hlo : ∀ {T : TypeId} {k n : Nat} {u : Value} {l : List Value}, W.ownsRow (q + 1) T k u n l → ∀ p, u.ownBlock = some p → some q ≠ some p := fun h1 p hp e => by have := (World.ownsRow.lt h1 p hp).1; cases e; omega
  refine ⟨hg, kept_other h.oa hq (hlo h.oa), kept_other h.ob hq (hlo h.ob), kept_other h.oc hq (hlo h.oc), fun r hr => nums_grown (h.rows r hr) hq (fun p hp e => by have := (h.vr r hr p hp).1; cases e; omega), h.ab, h.bc, fun r hr p hp => ?_⟩
  have h1 := h.vr r hr p hp
  exact ⟨h1.1, Nat.lt_of_lt_of_le h1.2.1 hq.size, h1.2.2⟩
theorem GxS.put0 (h : GxS w W a b c rf pl qf q sa sb sc va vb vc wi nl no f1 f2 ka kb kc kr V) (x : Value) : GxS w (W.setCell ⟨q, 0, none⟩ x) a b c rf pl qf q x sb sc va vb vc wi nl no f1 f2 ka kb kc kr V := h.put 0 x (h.g.set0 x)
theorem GxS.put1 (h : GxS w W a b c rf pl qf q sa sb sc va vb vc wi nl no f1 f2 ka kb kc kr V) (x : Value) : GxS w (W.setCell ⟨q, 1, none⟩ x) a b c rf pl qf q sa x sc va vb vc wi nl no f1 f2 ka kb kc kr V := h.put 1 x (h.g.set1 x)
theorem GxS.put2 (h : GxS w W a b c rf pl qf q sa sb sc va vb vc wi nl no f1 f2 ka kb kc kr V) (x : Value) : GxS w (W.setCell ⟨q, 2, none⟩ x) a b c rf pl qf q sa sb x va vb vc wi nl no f1 f2 ka kb kc kr V := h.put 2 x (h.g.set2 x)
/-- The wheel that is made joins. -/
theorem GxS.more {W0 : World} {f : Nat → Nat} {m B : Nat} (h : GxS w W0 a b c rf pl qf q sa sb sc va vb vc wi nl no f1 f2 m m m m V) (hb : Below W0.heap.size W0 W) (hB : W0.heap.size ≤ B) (ho : W.ownsRow B 3 1 v (nl m) (niL f (nl m))) (hno : ∀ k, no m k = ((f k : Nat) : Int)) : GxS w W a b c rf pl qf q sa sb sc va vb vc wi nl no f1 f2 m m m (m + 1) (fun r => if r = m then v else V r) := by
  have h1 := h.step hb
  have hq := h.lt
  refine ⟨h1.g, ?_, h1.ob, h1.oc, fun r hr => ?_, h1.ab, h1.bc, fun r hr p hp => ?_⟩
  · rw [whL_congr (V2 := V) (fun i hi => if_neg (by omega))]
    exact h1.oa
  · show NumsAt W (if r = m then v else V r) (nl r) (no r)
    by_cases e : r = m
    · rw [if_pos e, e]
      exact nums_ext (own_nums ho) fun k _ => (hno k).symm
    · rw [if_neg e]
      exact h1.rows r (by omega)
  · have hp' : (if r = m then v else V r).ownBlock = some p := hp
    by_cases e : r = m
    · rw [if_pos e] at hp'
      have h2 := World.ownsRow.lt ho p hp'
      refine ⟨by omega, h2.2, fun e => ?_, fun e => ?_, fun e => ?_⟩
      · have := (World.ownsRow.lt h.oa p e).2; omega
      · have := (World.ownsRow.lt h.ob p e).2; omega
      · have := (World.ownsRow.lt h.oc p e).2; omega
    · rw [if_neg e] at hp'
      exact h1.vr r (by omega) p hp'
end
theorem own_slice {w : World} {B k : Nat} {e : TypeId} {v : Value} {n : Nat} {xs : List Value} (h : w.ownsRow B e k v n xs) : ∃ a c, v = .slice a n c := by
  rcases h.2 with ⟨rfl, rfl⟩ | ⟨g, cap, cur, rfl, _⟩
  · exact ⟨_, _, rfl⟩
  · exact ⟨_, _, rfl⟩
theorem whl_set26 (f : Nat → Int) (R v : Value) : (whl f R).setIfInBounds 26 v = whl f v := by
  unfold whl
  apply Array.ext_getElem?
  intro i
  rw [Array.getElem?_setIfInBounds, Array.getElem?_push, Array.getElem?_push, Array.size_push, ints_size]
  by_cases h : 26 = i
  · subst h; simp
  · rw [if_neg h, if_neg (by omega), if_neg (by omega)]
theorem v_all_whl : (Try.prog.info? 40).map (fun i => (i.zero, i.size, i.bytes)) = some (some (.agg (whl (fun _ => 0) (.slice none 0 0))), 27, 232) := by kernel_rfl
theorem v_zs_whl : (Try.prog.info? 40).map (fun i => (i.zero, i.size)) = some (some (.agg (whl (fun _ => 0) (.slice none 0 0))), 27) := by kernel_rfl
/-- One notch more. -/
theorem GoS.next {wr W W' : World} {u : Nat → Int} {R v v' : Value} {q20 q21 j : Nat} {f : Nat → Nat} (h : GoS wr W u R v q20 q21 j f) (o : Obj) (hg : (W.alloc o).grownBy W' v.ownBlock) (ho : W'.ownsRow (q21 + 1) 3 1 v' (j + 1) (niL f j ++ [.int .i64 (f j : Nat)])) : GoS wr (W'.setCell ⟨q21, 26, none⟩ v') u R v' q20 q21 (j + 1) f ∧ RowAt W' q21 40 (whl u v) := by
  have hlt := h.lt
  have hl := h.x21.lt
  have hlo : ∀ k, v.ownBlock = some k → q21 < k := fun k hk => by have := (World.ownsRow.lt h.own k hk).1; omega
  have h1 : ∀ k, k ≤ q21 → some k ≠ v.ownBlock := fun k hk e => by have := hlo k e.symm; omega
  have y20 : RowAt W' q20 40 (whl u R) := (hg.block _ (h.x20.alloc o).lt (h1 _ (by omega))).trans (h.x20.alloc o)
  have y21 : RowAt W' q21 40 (whl u v) := (hg.block _ (h.x21.alloc o).lt (h1 _ (Nat.le_refl _))).trans (h.x21.alloc o)
  refine ⟨⟨?_, y20.setOther _ _ (by show q20 ≠ q21; omega), ?_, ?_, h.lt⟩, y21⟩
  · exact ((h.below.alloc h.below.size o).grown hg (by have := h.below.size; simp; omega) (fun k hk => by have := hlo k hk; omega)).setCell (p := ⟨q21, 26, none⟩) (by show wr.heap.size ≤ q21; omega) _
  · have := y21.set 26 v'
    rw [whl_set26] at this
    exact this
  · rw [niL_succ]
    exact kept_other ho (grown_set W' q21 26 v') (fun p hp e => by have := (World.ownsRow.lt ho p hp).1; cases e; omega)
end Go.Proofs.Ytibkcgjofcfoaaa
