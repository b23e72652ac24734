/-
  Slices of permutations; the document's Turned and All (chapter 8).
-/
import Derived.Test.YtpdjfjmfnmocmafORWr
namespace Go.Proofs.Ytpdjfjmfnmocmaf
open Go.RowKit PK

/-- Permutations, one behind the other, cell by cell. -/
def flat (P : Nat → Nat → Nat) : Nat → Int := fun i => (P (i / 26) (i % 26) : Nat)
def PermsAt (W : World) (v : Value) (m : Nat) (P : Nat → Nat → Nat) : Prop := ∃ g o cap, v = .slice (some ⟨g, o, none⟩) m cap ∧ W.rangeAt g o (ints (m * 26) (flat P)).toList
theorem PermsAt.below {w w' : World} {v : Value} {m : Nat} {P : Nat → Nat → Nat} (h : PermsAt w v m P) (hb : Below w.heap.size w w') : PermsAt w' v m P := by
  obtain ⟨g, o, cap, e, h⟩ := h
  exact ⟨g, o, cap, e, rangeAt_below h hb⟩
theorem at_flat {W : World} {g o m : Nat} {P : Nat → Nat → Nat} (h : W.rangeAt g o (ints (m * 26) (flat P)).toList) {r : Nat} (hr : r < m) : W.rangeAt g (o + r * 26) (ints 26 (Pm.up (P r))).toList := fun j v hv => by
  rw [Array.getElem?_toList] at hv
  obtain ⟨h1, rfl⟩ := at_ints hv
  have h2 := h (r * 26 + j) (.int .i64 (flat P (r * 26 + j))) (by rw [Array.getElem?_toList]; exact ints_get _ (by omega))
  have e1 : (r * 26 + j) / 26 = r := by omega
  have e2 : (r * 26 + j) % 26 = j := by omega
  unfold flat at h2
  rw [e1, e2, ← Nat.add_assoc] at h2
  exact h2
/-- Through so many of them. -/
def thr (P : Nat → Nat → Nat) : Nat → Nat → Nat
  | 0, c => c
  | k + 1, c => P k (thr P k c)
theorem thr_lt {P : Nat → Nat → Nat} {m : Nat} (h : ∀ r, r < m → Pm.IsPerm (P r)) {c : Nat} (hc : c < 26) : ∀ k, k ≤ m → thr P k c < 26
  | 0, _ => hc
  | k + 1, hk => (h k (by omega)).lt _ (thr_lt h hc k (by omega))
theorem thr_congr {P Q : Nat → Nat → Nat} {m : Nat} (h : ∀ r, r < m → P r = Q r) (c : Nat) : ∀ k, k ≤ m → thr P k c = thr Q k c
  | 0, _ => rfl
  | k + 1, hk => by
    show P k (thr P k c) = Q k (thr Q k c)
    rw [thr_congr h c k (by omega), h k (by omega)]
theorem o_tmod {x : Int} (h1 : -26 < x) : x.tmod 26 = if x < 0 then x else x % 26 := by
  by_cases h : x < 0
  · rw [if_pos h]
    obtain ⟨y, rfl⟩ : ∃ y : Nat, x = -(y : Int) := ⟨(-x).toNat, by omega⟩
    rw [Int.neg_tmod, Int.tmod_eq_emod_of_nonneg (by omega)]
    omega
  · rw [if_neg h, Int.tmod_eq_emod_of_nonneg (by omega)]
theorem o_turn (i : Nat) (b : Int) (h1 : -26 < b) : (wrap64 (((i : Int) + b).tmod 26 + 26)).tmod 26 = ((i : Int) + b) % 26 := by
  rw [o_tmod (x := (i : Int) + b) (by omega)]
  by_cases h : (i : Int) + b < 0
  · rw [if_pos h, ← IntWalk.i64_left, IntWalk.i64_in _ (by omega), Int.tmod_eq_emod_of_nonneg (by omega)]
    omega
  · rw [if_neg h, ← IntWalk.i64_left, IntWalk.i64_in _ (by omega), Int.tmod_eq_emod_of_nonneg (by omega)]
    omega
/-- The result's variable and the array that is filled. -/
structure TuAt (w W : World) (f : Nat → Int) : Prop where
  r : RowAt W w.heap.size 25 (ints 26 fun _ => 0)
  o : RowAt W (w.heap.size + 1) 25 (ints 26 f)
  below : Below w.heap.size w W
theorem TuAt.new (w : World) : TuAt w ((w.alloc (.cells (ints 26 fun _ => 0) 25)).alloc (.cells (ints 26 fun _ => 0) 25)) fun _ => 0 := by
  have h3 := RowAt.new (w.alloc (.cells (ints 26 fun _ => 0) 25)) 25 (ints 26 fun _ => 0)
  simp only [World.size_alloc] at h3
  exact ⟨(RowAt.new w _ _).alloc _, h3, ((Below.refl _ w).alloc (Nat.le_refl _) _).alloc (by simp only [World.size_alloc]; omega) _⟩
theorem TuAt.set {w W : World} {f : Nat → Int} (h : TuAt w W f) (i : Nat) (v : Int) : TuAt w (W.setCell ⟨w.heap.size + 1, i, none⟩ (.int .i64 v)) (upd f i v) := by
  refine ⟨h.r.setOther _ _ (by simp), ?_, h.below.setCell (p := ⟨w.heap.size + 1, i, none⟩) (by simp) _⟩
  have := h.o.set i (.int .i64 v)
  rw [ints_set] at this
  exact this
theorem o_results1 {P : Program} {fn : Func} {p : Tmp} {ty : TypeId} (h : fn.results = #[.cell p ty]) (tmps : Array Value) (w : World) (g : Nat) (t : TypeId) (cs : Array Value) (fr : Nat × Nat) (d : TypeDesc)
    (hp : tmps.getD p undef = .pointer (some ⟨g, 0, none⟩)) (hg : w.heap[g]? = some (.cells cs t fr))
    (hu : P.underlying ty = some d) (hd : (match d with | .struct _ | .array _ _ => true | _ => false) = true) (hi : (P.info? ty).map (·.size) = some cs.size) :
    (results fn tmps).run P w = .ok (.agg cs) w := by
  have hp' : tmps[p]?.getD undef = .pointer (some ⟨g, 0, none⟩) := by simpa using hp
  simp [results, h, hp', asAddr, run_loadVar_row w g t ty cs fr d hg hu hd hi]
/-- The result's variable and the array that is carried on. -/
structure LlAt (w W : World) (g : Nat) (f : Nat → Int) : Prop where
  r : RowAt W w.heap.size 25 (ints 26 fun _ => 0)
  o : RowAt W g 25 (ints 26 f)
  ne : w.heap.size < g
  below : Below w.heap.size w W
theorem LlAt.alloc {w W : World} {g : Nat} {f : Nat → Int} (h : LlAt w W g f) (o : Obj) : LlAt w (W.alloc o) g f := ⟨h.r.alloc o, h.o.alloc o, h.ne, h.below.alloc h.below.size o⟩
theorem LlAt.setRow {w W : World} {g : Nat} {f : Nat → Int} (h : LlAt w W g f) (q : Nat) (hq : g < q) (l : Array Value) : LlAt w (W.setRow q l) g f := by
  have := h.ne
  exact ⟨h.r.rowOther _ _ (by omega), h.o.rowOther _ _ (by omega), h.ne, Below.setRow h.below _ (by omega) _⟩
theorem LlAt.set {w W : World} {g : Nat} {f : Nat → Int} (h : LlAt w W g f) (i : Nat) (v : Int) : LlAt w (W.setCell ⟨g, i, none⟩ (.int .i64 v)) g (upd f i v) := by
  have hn := h.ne
  refine ⟨h.r.setOther _ _ (by simp; omega), ?_, h.ne, h.below.setCell (p := ⟨g, i, none⟩) (by simp; omega) _⟩
  have := h.o.set i (.int .i64 v)
  rw [ints_set] at this
  exact this
theorem LlAt.ext {w W : World} {g : Nat} {f f2 : Nat → Int} (h : LlAt w W g f) (e : ∀ i, i < 26 → f i = f2 i) : LlAt w W g f2 := ⟨h.r, by rw [← ints_ext e]; exact h.o, h.ne, h.below⟩
end Go.Proofs.Ytpdjfjmfnmocmaf
