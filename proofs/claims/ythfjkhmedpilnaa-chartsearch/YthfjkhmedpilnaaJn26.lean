/-
  Several texts, joined: Fd6, Fd7, ChRAt, ChRCh, KRTy, ChRTy.
-/
import Derived.Test.YthfjkhmedpilnaaFd5
import Derived.Test.YthfjkhmedpilnaaJn21
import Derived.Test.YthfjkhmedpilnaaChCh
import Derived.Test.YthfjkhmedpilnaaJn20
import Derived.Test.YthfjkhmedpilnaaJn19
import Derived.Test.YthfjkhmedpilnaaJn24
import Derived.Test.YthfjkhmedpilnaaChTy
/-
  Contracts of chart's searchWrong, and of the document's Wrong (chapter 9).
-/
namespace Go.Proofs.Ythfjkhmedpilnaa
open Go.RowKit PK Vg

/-- What is wrong with a search. -/
def swE (g : Gm) (h : Int) : Int := if gE g ≠ 0 then gE g else if 3 < g.n then 4 else if h < 1 ∨ 16 < h then 3 else 0
theorem swE_zero {g : Gm} {h : Int} (e : swE g h = 0) : gE g = 0 ∧ g.n ≤ 3 ∧ 1 ≤ h ∧ h ≤ 16 := by
  unfold swE at e
  by_cases h1 : gE g = 0
  · rw [if_neg (fun e => e h1)] at e
    by_cases h2 : 3 < g.n
    · rw [if_pos h2] at e; cases e
    · rw [if_neg h2] at e
      by_cases h3 : h < 1 ∨ 16 < h
      · rw [if_pos h3] at e; cases e
      · omega
  · rw [if_pos h1] at e; exact absurd e h1
set_option maxRecDepth 100000 in
set_option maxHeartbeats 2000000 in
theorem psw_any (vm : Value) (g : Gm) (h : Int) (w : World) (hm : MacAt w vm g) : Calls Try.prog 48 #[vm, .int .i64 h] w fun e w' => e = .returned (.int .i64 (swE g h)) ∧ Below w.heap.size w w' := by
  have HC := (show Hid (∀ W, Below w.heap.size w W → Calls Try.prog 62 #[vm] W fun e w' => e = .returned (.int .i64 (gE g)) ∧ Below W.heap.size W w') from fun W hb => gw_any vm g W (hm.below hb))
  obtain ⟨a, b, c, rfl, hwh, _, _⟩ := hm
  obtain ⟨aw, cw, R, rfl, hmx, _, _⟩ := hwh
  unfold maxLen at hmx
  have hld := RowAt.new w 27 (mac (.slice aw g.n cw) b c g.rf g.pl)
  have hbe := (Below.refl w.heap.size w).alloc (Nat.le_refl _) (.cells (mac (.slice aw g.n cw) b c g.rf g.pl) 27)
  have HA0 := (show Hid ((mac (.slice aw g.n cw) b c g.rf g.pl)[0]? = some (.slice aw g.n cw)) from mac_0 _ _ _ _ _)
  have hA0s : (mac (.slice aw g.n cw) b c g.rf g.pl).size = 55 := mac_size _ _ _ _ _
  generalize mac (.slice aw g.n cw) b c g.rf g.pl = A0 at *
  go_enter Try.func48, Try.ntmps48
  go_upto_region 1 with fail
  generalize w.alloc (.cells A0 27) = W0 at *
  go_wp2_with (first | refine wpList_load_row rfl 27 _ rfl w.heap.size rfl 27 A0 (0, 0) _ hld Try.underlying27 rfl (by rw [hA0s]; exact v_info_mac) ?_)
  refine (HC.out _ hbe).mono ?_
  rintro e W1 ⟨rfl, hb⟩
  have hld1 := hld.below hb hld.lt
  have HB := (show Hid (Below w.heap.size w W1) from hbe.trans (hb.mono hbe.size))
  have c0 := hld1.cell HA0.out
  clear hb hld hbe HC hld1
  by_cases hz : gE g = 0
  case neg =>
    have hz2 : (gE g != 0) = true := by simpa using hz
    have HE : Hid (swE g h = gE g) := by unfold swE; rw [Hid, if_pos hz]
    generalize gE g = E at *
    clear hz c0
    go_wp2
    go_ret
    exact ⟨by rw [HE.out]; rfl, HB.out⟩
  rw [hz]
  by_cases h3 : 3 < g.n
  · have HE : Hid (swE g h = 4) := by unfold swE; rw [Hid, if_neg (fun e => e hz), if_pos h3]
    have h3i : (3 : Int) < (g.n : Int) := by omega
    clear hz
    generalize g.n = n at *
    clear h3
    go_wp2
    go_ret
    exact ⟨by rw [HE.out]; rfl, HB.out⟩
  have h3i : ¬ (3 : Int) < (g.n : Int) := by omega
  by_cases h4 : h < 1
  · have HE : Hid (swE g h = 3) := by unfold swE; rw [Hid, if_neg (fun e => e hz), if_neg h3, if_pos (.inl h4)]
    clear hz
    generalize g.n = n at *
    clear h3
    go_wp2
    go_ret
    exact ⟨by rw [HE.out]; rfl, HB.out⟩
  by_cases h5 : 16 < h
  · have HE : Hid (swE g h = 3) := by unfold swE; rw [Hid, if_neg (fun e => e hz), if_neg h3, if_pos (.inr h5)]
    clear hz
    generalize g.n = n at *
    clear h3
    go_wp2
    go_ret
    exact ⟨by rw [HE.out]; rfl, HB.out⟩
  have HE : Hid (swE g h = 0) := by unfold swE; rw [Hid, if_neg (fun e => e hz), if_neg h3, if_neg (by omega)]
  clear hz
  generalize g.n = n at *
  clear h3
  go_wp2
  go_ret
  exact ⟨by rw [HE.out]; rfl, HB.out⟩
end Go.Proofs.Ythfjkhmedpilnaa

/-
  Contract of the document's Windows (chapter 9).
-/
namespace Go.Proofs.Ythfjkhmedpilnaa
open Go.RowKit PK Vg

/-- Numbers that somebody owns. -/
def OwI (W : World) (u : Value) (m : Nat) (f : Nat → Int) : Prop := ∃ B, W.ownsRow B 3 1 u m (ints m f).toList
theorem OwI.nums {W : World} {u : Value} {m : Nat} {f : Nat → Int} (h : OwI W u m f) : NumsAt W u m f := by
  obtain ⟨B, h⟩ := h
  exact own_nums h
theorem OwI.below {W W' : World} {u : Value} {m : Nat} {f : Nat → Int} (h : OwI W u m f) (hb : Below W.heap.size W W') : OwI W' u m f := by
  obtain ⟨B, h⟩ := h
  exact ⟨B, f_own_step h hb⟩
theorem OwI.congr {W : World} {u : Value} {m : Nat} {f g : Nat → Int} (h : OwI W u m f) (e : ∀ i, i < m → f i = g i) : OwI W u m g := by
  obtain ⟨B, h⟩ := h
  rw [ints_ext e] at h
  exact ⟨B, h⟩
/-- They stay where a slice of slices grows. -/
theorem OwI.grown {W W' : World} {u v : Value} {m n B : Nat} {f : Nat → Int} {vs : List Value} (h : OwI W u m f) (ho : W.ownsRow B 23 1 v n vs) (hg : W.grownBy W' v.ownBlock) : OwI W' u m f := by
  obtain ⟨B', h1, h2⟩ := h
  refine ⟨B', h1, h2.imp id fun ⟨g, cap, cur, e, hB, hc, h3⟩ => ⟨g, cap, cur, e, hB, f_row_grown hc ho hg, h3⟩⟩
/-- Windows, in a slice of the call's own. -/
def LsO (W : World) (B : Nat) (v : Value) (L : List Nat) (m : Nat) : Prop := ∃ vs : List Value, W.ownsRow B 23 1 v L.length vs ∧ ∀ (k : Nat) (u : Value) (N : Nat), vs[k]? = some u → L[k]? = some N → OwI W u m fun i => ((dig m N i : Nat) : Int)
theorem LsO.nil (W : World) (B m : Nat) : LsO W B (.slice none 0 0) [] m := ⟨[], World.ownsRow_nil W B _ 1, fun k u N h => by simp at h⟩
theorem LsO.below {W W' : World} {B : Nat} {v : Value} {L : List Nat} {m : Nat} (h : LsO W B v L m) (hb : Below W.heap.size W W') : LsO W' B v L m := by
  obtain ⟨vs, h1, h2⟩ := h
  exact ⟨vs, f_own_step h1 hb, fun k u N a b => (h2 k u N a b).below hb⟩
/-- One more. -/
theorem LsO.more {W W' : World} {B : Nat} {v v' u : Value} {L : List Nat} {m N : Nat} {vs : List Value} (ho : W.ownsRow B 23 1 v L.length vs) (hv : ∀ (k : Nat) (u : Value) (N : Nat), vs[k]? = some u → L[k]? = some N → OwI W u m fun i => ((dig m N i : Nat) : Int)) (hu : OwI W u m fun i => ((dig m N i : Nat) : Int)) (ho' : W'.ownsRow B 23 1 v' (L.length + 1) (vs ++ [u])) (hg : W.grownBy W' v.ownBlock) : LsO W' B v' (L ++ [N]) m := by
  refine ⟨vs ++ [u], by rw [List.length_append]; exact ho', fun kk uu N' h1 h2 => ?_⟩
  have hvl : vs.length = L.length := by have := ho.1; simpa using this
  by_cases hkk : kk < vs.length
  · rw [List.getElem?_append_left hkk] at h1
    rw [List.getElem?_append_left (by omega)] at h2
    exact (hv kk uu N' h1 h2).grown ho hg
  · rw [List.getElem?_append_right (by omega)] at h1
    rw [List.getElem?_append_right (by omega), ← hvl] at h2
    cases hz : kk - vs.length with
    | zero =>
      rw [hz] at h1 h2
      simp at h1 h2
      subst h1 h2
      exact hu.grown ho hg
    | succ z => rw [hz] at h1; simp at h1
theorem LsO.len {W : World} {B : Nat} {v : Value} {L : List Nat} {m : Nat} (h : LsO W B v L m) : ∃ a c, v = .slice a L.length c := by
  obtain ⟨vs, h1, _⟩ := h
  rcases h1.2 with ⟨rfl, h0⟩ | ⟨g, cap, cur, rfl, _⟩
  · exact ⟨none, 0, by rw [h0]⟩
  · exact ⟨_, _, rfl⟩
theorem LsO.at_ {W : World} {B : Nat} {v : Value} {L : List Nat} {m : Nat} (h : LsO W B v L m) {i : Nat} (hi : i < L.length) : ∃ g c u, v = .slice (some ⟨g, 0, none⟩) L.length c ∧ W.cell? ⟨g, i, none⟩ = some u ∧ OwI W u m fun j => ((dig m (L.getD i 0) j : Nat) : Int) := by
  obtain ⟨vs, h1, h2⟩ := h
  have h1' := h1
  have hvl : vs.length = L.length := by have := h1.1; simpa using this
  rcases h1.2 with ⟨rfl, h0⟩ | ⟨g, cap, cur, rfl, _⟩
  · omega
  · have e1 : vs[i]? = some (vs[i]'(by omega)) := List.getElem?_eq_getElem _
    have e2 : L[i]? = some (L.getD i 0) := by simp [List.getD, hi]
    refine ⟨g, cap, vs[i]'(by omega), rfl, ?_, h2 i _ _ e1 e2⟩
    have := World.ownsRow.cells (g := g) h1' rfl i _ e1
    rw [add_none, Nat.zero_add] at this
    exact this
/-- The first j of them. -/
def wsTo (j k : Nat) : List Nat := List.range (j * 26 + k)
end Go.Proofs.Ythfjkhmedpilnaa

/-
  Contract of the document's At (chapter 9).
-/
namespace Go.Proofs.Ythfjkhmedpilnaa
open Go.RowKit PK Vg

/-- The machine in its variable, and a permutation as a result. -/
structure RaS (w W : World) (a b c : Value) (rf pl : Nat → Int) : Prop where
  mg : MgAt w W a b c rf pl
  res : RowAt W (w.heap.size + 1) 25 (ints 26 fun _ => 0)
theorem RaS.step {w W W' : World} {a b c : Value} {rf pl : Nat → Int} (h : RaS w W a b c rf pl) (hb : Below W.heap.size W W') : RaS w W' a b c rf pl := ⟨h.mg.step hb, h.res.below hb h.res.lt⟩
theorem RaS.new (w : World) (a b c : Value) (rf pl : Nat → Int) : RaS w ((w.alloc (.cells (mac a b c rf pl) 27)).alloc (.cells (ints 26 fun _ => 0) 25)) a b c rf pl := by
  have h := RowAt.new (w.alloc (.cells (mac a b c rf pl) 27)) 25 (ints 26 fun _ => 0)
  rw [World.size_alloc] at h
  exact ⟨(MgAt.new w a b c rf pl).alloc _, h⟩
end Go.Proofs.Ythfjkhmedpilnaa

/-
  Contract of the document's Chart (chapter 9).
-/
namespace Go.Proofs.Ythfjkhmedpilnaa
open Go.RowKit PK Vg

/-- One behind the other. -/
def two (f g : Nat → Nat) : Nat → Nat → Nat := fun r => if r = 0 then f else g
/-- What the document's Chart holds. -/
structure RcS (w W : World) (a b c : Value) (rf pl : Nat → Int) (C : Nat → Nat → Nat) (k : Nat) : Prop where
  z : CzAt w W a b c rf pl
  out : RowAt W (w.heap.size + 2) 68 (ints 78 (flatTo C k))
section
variable {w W W' : World} {a b c : Value} {rf pl : Nat → Int} {C : Nat → Nat → Nat} {k : Nat}
theorem RcS.step (h : RcS w W a b c rf pl C k) (hb : Below W.heap.size W W') : RcS w W' a b c rf pl C k := ⟨h.z.step hb, h.out.below hb h.out.lt⟩
theorem RcS.alloc (h : RcS w W a b c rf pl C k) (o : Obj) : RcS w (W.alloc o) a b c rf pl C k := h.step ((Below.refl _ _).alloc (Nat.le_refl _) o)
theorem RcS.drew (h : RcS w W a b c rf pl C k) : RcS w W.drew a b c rf pl C k := ⟨h.z.drew, h.out⟩
theorem RcS.lay (h : RcS w W a b c rf pl C k) (hk : k < 3) : RcS w (W.setCells (w.heap.size + 2) (k * 26) (ints 26 (Pm.up (C k))).toList) a b c rf pl C (k + 1) := by
  refine ⟨h.z.lay _ _ (by omega) _, ?_⟩
  have := row_setCells (o := k * 26) (l := (ints 26 (Pm.up (C k))).toList) h.out
  rw [flat_lay (n := 3) _ rfl hk] at this
  exact this
end
theorem RcS.new (w : World) (a b c : Value) (rf pl : Nat → Int) (C : Nat → Nat → Nat) : RcS w (((w.alloc (.cells (mac a b c rf pl) 27)).alloc (.cells (ints 78 fun _ => 0) 68)).alloc (.cells (ints 78 fun _ => 0) 68)) a b c rf pl C 0 := by
  have h := RowAt.new ((w.alloc (.cells (mac a b c rf pl) 27)).alloc (.cells (ints 78 fun _ => 0) 68)) 68 (ints 78 fun _ => 0)
  rw [World.size_alloc, World.size_alloc] at h
  exact ⟨(CzAt.new w a b c rf pl).alloc _, by rw [flatTo_zero]; exact h⟩
end Go.Proofs.Ythfjkhmedpilnaa

/-
  Contract of the document's Type (chapter 2).
-/
namespace Go.Proofs.Ythfjkhmedpilnaa
open Go.RowKit PK

def inN (p : Nat → Nat) (n k : Nat) : Nat := ((List.range k).filter fun i => Pm.len p i == n).length
end Go.Proofs.Ythfjkhmedpilnaa

/-
  Contract of the document's Types (chapter 9).
-/
namespace Go.Proofs.Ythfjkhmedpilnaa
open Go.RowKit PK Vg

/-- What the document's Types holds ahead of the chart. -/
structure RuS (w W : World) (a b c : Value) (rf pl : Nat → Int) : Prop where
  z : TzAt w W a b c rf pl
  out : RowAt W (w.heap.size + 2) 28 (sl3 0 fun _ => .slice none 0 0)
theorem RuS.new (w : World) (a b c : Value) (rf pl : Nat → Int) : RuS w (((w.alloc (.cells (mac a b c rf pl) 27)).alloc (.cells (sl3 0 fun _ => .slice none 0 0) 28)).alloc (.cells (sl3 0 fun _ => .slice none 0 0) 28)) a b c rf pl := by
  have h := RowAt.new ((w.alloc (.cells (mac a b c rf pl) 27)).alloc (.cells (sl3 0 fun _ => .slice none 0 0) 28)) 28 (sl3 0 fun _ => .slice none 0 0)
  rw [World.size_alloc, World.size_alloc] at h
  exact ⟨(TzAt.new w a b c rf pl).step ((Below.refl _ _).alloc (Nat.le_refl _) _), h⟩
theorem RuS.step {w W W' : World} {a b c : Value} {rf pl : Nat → Int} (h : RuS w W a b c rf pl) (hb : Below W.heap.size W W') : RuS w W' a b c rf pl := ⟨h.z.step hb, h.out.below hb h.out.lt⟩
/-- What it holds behind. -/
structure RtS (w W : World) (a b c : Value) (rf pl : Nat → Int) (P : Nat → Nat → Nat) (q k : Nat) (V : Nat → Value) : Prop where
  mg : MgAt w W a b c rf pl
  res : RowAt W (w.heap.size + 1) 28 (sl3 0 fun _ => .slice none 0 0)
  out : RowAt W (w.heap.size + 2) 28 (sl3 k V)
  ch : RowAt W q 68 (ints 78 (flat P))
  q1 : w.heap.size + 2 < q
  rows : TysAt W V k P
  far : ∀ i, i < k → ∀ p, (V i).ownBlock = some p → q < p
section
variable {w W W' : World} {a b c : Value} {rf pl : Nat → Int} {P : Nat → Nat → Nat} {q k : Nat} {V : Nat → Value}
theorem RtS.step (h : RtS w W a b c rf pl P q k V) (hb : Below W.heap.size W W') : RtS w W' a b c rf pl P q k V := ⟨h.mg.step hb, h.res.below hb h.res.lt, h.out.below hb h.out.lt, h.ch.below hb h.ch.lt, h.q1, fun i hi => (h.rows i hi).below hb, h.far⟩
theorem RtS.put (h : RtS w W a b c rf pl P q k V) {v : Value} {B : Nat} (hB : q < B) (ho : OwnsN W B v (typeOf (P k))) : RtS w (W.setCell ⟨w.heap.size + 2, k, none⟩ v) a b c rf pl P q (k + 1) (fun i => if i = k then v else V i) := by
  have h1 := h.q1
  have hgs := grown_set W (w.heap.size + 2) k v
  have hfv : ∀ p, v.ownBlock = some p → q < p := fun p hp => by
    have h3 : W.ownsRow B 3 1 v (typeOf (P k)).length (nums (typeOf (P k))) := ho
    have := (World.ownsRow.lt h3 p hp).1
    omega
  refine ⟨⟨h.mg.row.setOther _ _ (by show w.heap.size ≠ w.heap.size + 2; omega), h.mg.below.setCell (p := ⟨w.heap.size + 2, k, none⟩) (by show w.heap.size ≤ w.heap.size + 2; omega) _⟩, h.res.setOther _ _ (by show w.heap.size + 1 ≠ w.heap.size + 2; omega), ?_, h.ch.setOther _ _ (by show q ≠ w.heap.size + 2; omega), h.q1, fun i hi => ?_, fun i hi p hp => ?_⟩
  · have := h.out.set k v
    rw [sl3_set] at this
    exact this
  · show NumsAt _ (if i = k then v else V i) _ _
    by_cases e : i = k
    · rw [if_pos e, e]
      exact nums_grown (nums_of_own ho) hgs (fun p hp e2 => by have := hfv p hp; cases e2; omega)
    · rw [if_neg e]
      exact nums_grown (h.rows i (by omega)) hgs (fun p hp e2 => by have := h.far i (by omega) p hp; cases e2; omega)
  · have hp' : (if i = k then v else V i).ownBlock = some p := hp
    by_cases e : i = k
    · rw [if_pos e] at hp'; exact hfv p hp'
    · rw [if_neg e] at hp'; exact h.far i (by omega) p hp'
end
end Go.Proofs.Ythfjkhmedpilnaa
