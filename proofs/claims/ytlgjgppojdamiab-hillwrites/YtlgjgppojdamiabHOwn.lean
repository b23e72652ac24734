/-
  Slices that a call owns: of numbers, and of such slices.
-/
import Derived.Test.YtlgjgppojdamiabHMade
import Derived.WalkSpells
import Derived.WalkSmall
import Derived.Lib.OthersKept
import Derived.Lib.SmallJoins
namespace Go.Proofs.Ytlgjgppojdamiab
open Go.RowKit PK

/-- Numbers, as the cells of a slice. -/
def inums (l : List Int) : List Value := l.map fun i => Value.int .i64 i
theorem inums_length (l : List Int) : (inums l).length = l.length := by simp [inums]
theorem inums_append (l m : List Int) : inums (l ++ m) = inums l ++ inums m := by simp [inums]
theorem inums_one (l : List Int) : ∀ u ∈ inums l, u.oneCell' = true := fun u hu => by
  simp [inums] at hu
  obtain ⟨i, _, rfl⟩ := hu
  rfl
/-- The slice v owns the numbers l, in blocks from B on. -/
def OwnsI (w : World) (B : Nat) (v : Value) (l : List Int) : Prop := w.ownsRow B 3 1 v l.length (inums l)
/-- The slice v owns slices that own the lists ls. -/
def OwnsM (w : World) (B : Nat) (v : Value) (ls : List (List Int)) : Prop :=
  ∃ vs : List Value, w.ownsRow B 27 1 v ls.length vs ∧ ∀ (k : Nat) (u : Value) (l : List Int), vs[k]? = some u → ls[k]? = some l → OwnsI w B u l
def sliceLen : Value → Nat
  | .slice _ n _ => n
  | _ => 0
theorem sliceLen_own {w : World} {B : Nat} {e : TypeId} {v : Value} {n : Nat} {xs : List Value} (h : w.ownsRow B e 1 v n xs) : sliceLen v = n := by
  rcases h.2 with ⟨rfl, h0⟩ | ⟨g, cap, cur, rfl, _⟩
  · rw [h0]; rfl
  · rfl
theorem own_le {w : World} {B B' : Nat} {e : TypeId} {v : Value} {n : Nat} {xs : List Value} (h : w.ownsRow B e 1 v n xs) (hb : B' ≤ B) : w.ownsRow B' e 1 v n xs :=
  ⟨h.1, h.2.imp id fun ⟨g, cap, cur, a, b, c⟩ => ⟨g, cap, cur, a, Nat.le_trans hb b, c⟩⟩
theorem own_below {w w' : World} {B : Nat} {e : TypeId} {v : Value} {n : Nat} {xs : List Value} (h : w.ownsRow B e 1 v n xs) (hb : Below w.heap.size w w') : w'.ownsRow B e 1 v n xs :=
  ⟨h.1, h.2.imp id fun ⟨g, cap, cur, a, b, c, d⟩ => ⟨g, cap, cur, a, b, (hb.block g (Array.getElem?_eq_some_iff.1 c).1).trans c, d⟩⟩
theorem own_apart {w : World} {B B' : Nat} {e e' : TypeId} {v v' : Value} {n n' : Nat} {xs xs' : List Value} (h : w.ownsRow B e 1 v n xs) (h' : w.ownsRow B' e' 1 v' n' xs') (he : e ≠ e') : v.ownBlock = none ∨ v.ownBlock ≠ v'.ownBlock := by
  rcases h.2 with ⟨rfl, _⟩ | ⟨g, cap, cur, rfl, _, hc, _⟩
  · exact .inl rfl
  · rcases h'.2 with ⟨rfl, _⟩ | ⟨g', cap', cur', rfl, _, hc', _⟩
    · exact .inr (by simp [Value.ownBlock])
    · refine .inr fun e1 => ?_
      simp [Value.ownBlock] at e1
      rw [e1, hc'] at hc
      simp at hc
      exact he hc.2.symm
theorem OwnsM.nil (w : World) (B : Nat) : OwnsM w B (.slice none 0 0) [] := ⟨[], World.ownsRow_nil w B _ 1, fun k u l h _ => by simp at h⟩
theorem OwnsI.nil (w : World) (B : Nat) : OwnsI w B (.slice none 0 0) [] := World.ownsRow_nil w B _ 1
theorem OwnsM.below {w w' : World} {B : Nat} {v : Value} {ls : List (List Int)} (h : OwnsM w B v ls) (hb : Below w.heap.size w w') : OwnsM w' B v ls := by
  obtain ⟨vs, h1, h2⟩ := h
  exact ⟨vs, own_below h1 hb, fun k u l a b => own_below (h2 k u l a b) hb⟩
theorem OwnsM.alloc {w : World} {B : Nat} {v : Value} {ls : List (List Int)} (h : OwnsM w B v ls) (o : Obj) : OwnsM (w.alloc o) B v ls := h.below ((Below.refl _ _).alloc (Nat.le_refl _) _)
theorem OwnsM.le {w : World} {B B' : Nat} {v : Value} {ls : List (List Int)} (h : OwnsM w B v ls) (hb : B' ≤ B) : OwnsM w B' v ls := by
  obtain ⟨vs, h1, h2⟩ := h
  exact ⟨vs, own_le h1 hb, fun k u l a b => own_le (h2 k u l a b) hb⟩
/-- One more is appended. -/
theorem OwnsM.app {w w' : World} {B : Nat} {v v' u : Value} {ls : List (List Int)} {l : List Int} {vs : List Value} (h1 : w.ownsRow B 27 1 v ls.length vs) (h2 : ∀ (k : Nat) (u : Value) (l : List Int), vs[k]? = some u → ls[k]? = some l → OwnsI w B u l)
    (hu : OwnsI w B u l) (h' : w'.ownsRow B 27 1 v' (ls.length + 1) (vs ++ [u])) (hg : w.grownBy w' v.ownBlock) : OwnsM w' B v' (ls ++ [l]) := by
  have hlen : vs.length = ls.length := by have := h1.1; omega
  refine ⟨vs ++ [u], by simpa using h', fun k a b ha hb => ?_⟩
  have keep : ∀ a b, OwnsI w B a b → OwnsI w' B a b := fun a b h => World.ownsRow.kept h hg (own_apart h h1 (by decide))
  by_cases hk : k < ls.length
  · rw [List.getElem?_append_left (by omega)] at ha
    rw [List.getElem?_append_left hk] at hb
    exact keep _ _ (h2 k a b ha hb)
  · have hk' : k = ls.length := by
      have := (List.getElem?_eq_some_iff.1 hb).1
      simp at this
      omega
    subst hk'
    rw [← hlen] at ha
    simp at ha hb
    subst ha hb
    exact keep _ _ hu
/-- What is owned can be read. -/
theorem OwnsI.nums {w : World} {B : Nat} {v : Value} {l : List Int} (h : OwnsI w B v l) : NumsAt w v l.length (fun c => l.getD c 0) := by
  have hx := h
  rcases h.2 with ⟨rfl, h0⟩ | ⟨g, cap, cur, rfl, hbg, hg, hnc, hcm, hcs, htake⟩
  · exact ⟨none, 0, by rw [h0], by rw [h0]; decide, fun c hc => by omega⟩
  · refine ⟨some ⟨g, 0, none⟩, cap, rfl, by omega, fun c hc => ⟨g, 0, rfl, ?_⟩⟩
    have h1 : (inums l)[c]? = some (.int .i64 (l.getD c 0)) := by simp [inums, List.getD, hc]
    have := World.ownsRow.cells (g := g) hx rfl c _ h1
    have e : ((⟨g, 0, none⟩ : Addr).add c) = ⟨g, 0 + c, none⟩ := by unfold Addr.add; by_cases e0 : c = 0 <;> simp [e0]
    rw [e] at this
    exact this
theorem OwnsM.mat {w : World} {B : Nat} {v : Value} {ls : List (List Int)} (h : OwnsM w B v ls) : MatAt w v ls.length (fun r => (ls.getD r []).length) (fun r c => (ls.getD r []).getD c 0) := by
  obtain ⟨vs, h1, h2⟩ := h
  have hlen : vs.length = ls.length := by have := h1.1; omega
  have hx := h1
  have key : ∀ r, r < ls.length → NumsAt w (vs.getD r (.bool false)) ((ls.getD r []).length) (fun c => (ls.getD r []).getD c 0) := fun r hr => by
    have e1 : vs[r]? = some (vs.getD r (.bool false)) := by simp [List.getD, List.getElem?_eq_getElem (show r < vs.length by omega)]
    have e2 : ls[r]? = some (ls.getD r []) := by simp [List.getD, List.getElem?_eq_getElem hr]
    exact (h2 r _ _ e1 e2).nums
  rcases h1.2 with ⟨rfl, h0⟩ | ⟨g, cap, cur, rfl, hbg, hg, hnc, hcm, hcs, htake⟩
  · exact ⟨none, 0, fun r => vs.getD r (.bool false), by rw [h0], by rw [h0]; decide, fun r hr => by omega, key⟩
  · refine ⟨some ⟨g, 0, none⟩, cap, fun r => vs.getD r (.bool false), rfl, by omega, fun r hr => ⟨g, 0, rfl, ?_⟩, key⟩
    have e1 : vs[r]? = some (vs.getD r (.bool false)) := by simp [List.getD, List.getElem?_eq_getElem (show r < vs.length by omega)]
    have := World.ownsRow.cells (g := g) hx rfl r _ e1
    have e : ((⟨g, 0, none⟩ : Addr).add r) = ⟨g, 0 + r, none⟩ := by unfold Addr.add; by_cases e0 : r = 0 <;> simp [e0]
    rw [e] at this
    exact this
/-- n rows of n numbers. -/
def tabL (n : Nat) (F : Nat → Nat → Int) : List (List Int) := (List.range n).map fun y => (List.range n).map (F y)
theorem OwnsM.square {w : World} {B : Nat} {v : Value} {n : Nat} {F : Nat → Nat → Int} (h : OwnsM w B v (tabL n F)) : MatAt w v n (fun _ => n) F := by
  have := h.mat
  have e : (tabL n F).length = n := by simp [tabL]
  have hr : ∀ r, r < n → (tabL n F).getD r [] = (List.range n).map (F r) := fun r hr => by simp [tabL, List.getD, hr]
  rw [e] at this
  refine this.congr (fun r hr0 => by rw [hr r hr0]; simp) (fun r hr0 c hc => ?_)
  rw [hr r hr0] at hc ⊢
  have hc' : c < n := by simpa using hc
  simp [List.getD, hc']
theorem range_app (n : Nat) (f : Nat → Int) : (List.range (n + 1)).map f = (List.range n).map f ++ [f n] := by rw [List.range_succ, List.map_append]; rfl
theorem info_parts2 {P : Program} {e : TypeId} {z : Value} {b : Nat} (h : (P.info? e).map (fun i => (i.zero, i.size, i.bytes)) = some (some z, 1, b)) : ∃ i, P.info? e = some i ∧ i.zero = some z ∧ i.size = 1 ∧ i.bytes = b := by
  obtain ⟨i, hi, hzz⟩ := Option.map_eq_some_iff.1 h
  simp only [Prod.mk.injEq] at hzz
  exact ⟨i, hi, hzz.1, hzz.2.1, hzz.2.2⟩
end Go.Proofs.Ytlgjgppojdamiab
