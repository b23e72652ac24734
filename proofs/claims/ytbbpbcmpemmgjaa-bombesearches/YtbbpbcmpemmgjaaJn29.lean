/-
  Several texts, joined: BoGk, FgA, BoSm, BoSy.
-/
import Derived.Test.YtbbpbcmpemmgjaaJn28
import Derived.Test.YtbbpbcmpemmgjaaJn21
import Derived.Test.YtbbpbcmpemmgjaaORNo
import Derived.Test.YtbbpbcmpemmgjaaJn26
import Derived.Test.YtbbpbcmpemmgjaaJn24
import Derived.Test.YtbbpbcmpemmgjaaJn17
import Derived.Test.YtbbpbcmpemmgjaaJn19
/-
  Guesses in slices.
-/
namespace Go.Proofs.Ytbbpbcmpemmgjaa
open Go.RowKit PK Vg

/-- The 28 cells of a guess. -/
def gsF (a b : Nat) (p : Nat → Int) : Nat → Int := fun i => if i = 0 then (a : Nat) else if i = 1 then (b : Nat) else p (i - 2)
theorem built_guess (a b : Nat) (p : Nat → Int) : Try.prog.built 53 [(0, .int .i64 (a : Nat)), (1, .int .i64 (b : Nat)), (2, .agg (ints 26 p))] = some (ints 28 (gsF a b p)) := by kernel_rfl
theorem b_info_guess : (Try.prog.info? 53).map (fun i => (i.zero, i.size, i.bytes)) = some (some (.agg (ints 28 fun _ => 0)), 28, 224) := by kernel_rfl
theorem b_zero_guess : (Try.prog.info? 53).map (fun i => (i.zero, i.size)) = some (some (.agg (ints 28 fun _ => 0)), 28) := by kernel_rfl
theorem b_size_guess : (Try.prog.info? 53).map (·.size) = some 28 := by kernel_rfl
/-- The cells of guesses, one behind the other. -/
def gl (g : Nat → Nat → Int) (L : List Nat) : Nat → Int := fun i => g (L.getD (i / 28) 0) (i % 28)
theorem gl_snoc (g : Nat → Nat → Int) (L : List Nat) (b : Nat) : (ints (L.length * 28) (gl g L)).toList ++ (ints 28 (g b)).toList = (ints ((L ++ [b]).length * 28) (gl g (L ++ [b]))).toList := by
  rw [← Array.toList_append]
  refine congrArg Array.toList ?_
  have hlen : (L ++ [b]).length = L.length + 1 := by simp
  rw [hlen]
  apply Array.ext_getElem?
  intro i
  by_cases h1 : i < L.length * 28
  · rw [Array.getElem?_append_left (by rw [ints_size]; exact h1), ints_get _ h1, ints_get _ (by omega)]
    unfold gl
    rw [List.getD_eq_getElem?_getD, List.getD_eq_getElem?_getD, List.getElem?_append_left (by omega)]
  · rw [Array.getElem?_append_right (by rw [ints_size]; omega), ints_size]
    by_cases h2 : i < (L.length + 1) * 28
    · rw [ints_get _ (by omega), ints_get _ h2]
      unfold gl
      rw [show i / 28 = L.length by omega, show i % 28 = i - L.length * 28 by omega, List.getD_eq_getElem?_getD, List.getElem?_append_right (by omega)]
      simp
    · rw [Array.getElem?_eq_none (by rw [ints_size]; omega), Array.getElem?_eq_none (by rw [ints_size]; omega)]
theorem at_intsN {n : Nat} {f : Nat → Int} {i : Nat} {v : Value} (h : (ints n f).toList[i]? = some v) : i < n ∧ v = .int .i64 (f i) := by
  have h1 := (List.getElem?_eq_some_iff.1 h).1
  rw [Array.length_toList, ints_size] at h1
  rw [Array.getElem?_toList, ints_get _ h1] at h
  exact ⟨h1, by cases h; rfl⟩
/-- Guesses that a slice owns. -/
def OwnsG (W : World) (B : Nat) (v : Value) (g : Nat → Nat → Int) (L : List Nat) : Prop := W.ownsRow B 53 28 v L.length (ints (L.length * 28) (gl g L)).toList
/-- Guesses behind a slice. -/
def GsAt (W : World) (v : Value) (g : Nat → Nat → Int) (L : List Nat) : Prop := ∃ (a : Option Addr) (cap : Nat), v = .slice a L.length cap ∧ ∀ j, j < L.length → ∃ b, a = some ⟨b, 0, none⟩ ∧ W.rangeAt b (j * 28) (ints 28 (g (L.getD j 0))).toList
theorem GsAt.below {W W' : World} {v : Value} {g : Nat → Nat → Int} {L : List Nat} (h : GsAt W v g L) (hb : Below W.heap.size W W') : GsAt W' v g L := by
  obtain ⟨a, cap, e, h1⟩ := h
  refine ⟨a, cap, e, fun j hj => ?_⟩
  obtain ⟨b, eb, h2⟩ := h1 j hj
  refine ⟨b, eb, fun i v hv => ?_⟩
  exact (hb.cell (p := ⟨b, j * 28 + i, none⟩) (cell_block (h2 i v hv))).trans (h2 i v hv)
theorem OwnsG.at {W : World} {B : Nat} {v : Value} {g : Nat → Nat → Int} {L : List Nat} (h : OwnsG W B v g L) : GsAt W v g L := by
  have h' : W.ownsRow B 53 28 v L.length (ints (L.length * 28) (gl g L)).toList := h
  rcases h'.2 with ⟨rfl, h0⟩ | ⟨b, cap, cur, rfl, hB, hg, hnc, hcm, hcs, htake⟩
  · exact ⟨none, 0, by rw [h0], fun j hj => by omega⟩
  · refine ⟨_, cap, rfl, fun j hj => ⟨b, rfl, fun i u hu => ?_⟩⟩
    obtain ⟨h1, rfl⟩ := at_intsN hu
    refine RowAt.cell (w := W) (b := b) (T := 53) hg ?_
    have h2 : (ints (L.length * 28) (gl g L)).toList[j * 28 + i]? = some (.int .i64 (g (L.getD j 0) i)) := by
      rw [Array.getElem?_toList, ints_get _ (by omega)]
      unfold gl
      rw [show (j * 28 + i) / 28 = j by omega, show (j * 28 + i) % 28 = i by omega]
    rw [← htake, List.getElem?_take_of_lt (by omega)] at h2
    simpa using h2
/-- The partners of the first k that are told. -/
def okTo (ok : Nat → Bool) (k : Nat) : List Nat := (List.range k).filter ok
theorem ok_yes {ok : Nat → Bool} {k : Nat} (h : ok k = true) : okTo ok (k + 1) = okTo ok k ++ [k] := by
  unfold okTo
  rw [List.range_succ, List.filter_append]
  simp [h]
theorem ok_no {ok : Nat → Bool} {k : Nat} (h : ok k = false) : okTo ok (k + 1) = okTo ok k := by
  unfold okTo
  rw [List.range_succ, List.filter_append]
  simp [h]
theorem ok_len (ok : Nat → Bool) (k : Nat) : (okTo ok k).length ≤ k := by
  have := List.length_filter_le ok (List.range k)
  unfold okTo
  simpa using this
end Go.Proofs.Ytbbpbcmpemmgjaa

/-
  Halts: windows and guesses, in slices.
-/
namespace Go.Proofs.Ytbbpbcmpemmgjaa
open Go.RowKit PK Vg

/-- What halts tell: how many windows there are; for each number of windows the guesses' cells, and which are told. -/
structure Hl where
  n : Nat
  gs : Nat → Nat → Nat → Int
  lg : Nat → List Nat
/-- The N-th windows halt. -/
def Hl.p (h : Hl) (N : Nat) : Bool := decide (0 < (h.lg N).length)
/-- What is found among the first j windows. -/
def Hl.fnd (h : Hl) (j : Nat) : List Nat := (List.range j).filter h.p
/-- What is found among the first j of those with letter k in the first window. -/
def Hl.hits (h : Hl) (k j : Nat) : List Nat := ((List.range j).map fun i => k * 26 ^ (h.n - 1) + i).filter h.p
theorem filter_one (p : Nat → Bool) (X : Nat) : List.filter p [X] = if p X = true then [X] else [] := by
  cases h : p X <;> simp [List.filter, h]
theorem Hl.hits_succ (h : Hl) (k j : Nat) : h.hits k (j + 1) = h.hits k j ++ if h.p (k * 26 ^ (h.n - 1) + j) = true then [k * 26 ^ (h.n - 1) + j] else [] := by
  unfold Hl.hits
  rw [List.range_succ, List.map_append, List.filter_append, List.map_cons, List.map_nil, filter_one]
theorem Hl.fnd_succ (h : Hl) (j : Nat) : h.fnd (j + 1) = h.fnd j ++ if h.p j = true then [j] else [] := by
  unfold Hl.fnd
  rw [List.range_succ, List.filter_append, filter_one]
theorem Hl.hits_len (h : Hl) (k j : Nat) : (h.hits k j).length ≤ j := by
  unfold Hl.hits
  refine Nat.le_trans (List.length_filter_le _ _) ?_
  simp
theorem Hl.fnd_len (h : Hl) (j : Nat) : (h.fnd j).length ≤ j := by
  unfold Hl.fnd
  refine Nat.le_trans (List.length_filter_le _ _) ?_
  simp
theorem Hl.fnd_add (h : Hl) (k j : Nat) : h.fnd (k * 26 ^ (h.n - 1) + j) = h.fnd (k * 26 ^ (h.n - 1)) ++ h.hits k j := by
  induction j with
  | zero => simp [Hl.hits]
  | succ j ih => rw [← Nat.add_assoc, Hl.fnd_succ, ih, Hl.hits_succ, List.append_assoc]
theorem Hl.p_of_fnd (h : Hl) {j k N : Nat} (e : (h.fnd j)[k]? = some N) : h.p N = true ∧ N < j := by
  have hm := List.mem_of_getElem? e
  unfold Hl.fnd at hm
  rw [List.mem_filter, List.mem_range] at hm
  exact ⟨hm.2, hm.1⟩
/-- A halt's cells, owned by somebody. -/
def HltO (W : World) (us ug : Value) (h : Hl) (N : Nat) : Prop := (OwI W us h.n fun i => ((dig h.n N i : Nat) : Int)) ∧ ∃ B, OwnsG W B ug (h.gs N) (h.lg N)
theorem OwnsG.step {W W' : World} {B : Nat} {v : Value} {g : Nat → Nat → Int} {L : List Nat} (h : OwnsG W B v g L) (hb : Below W.heap.size W W') : OwnsG W' B v g L := f_own_step h hb
theorem HltO.below {W W' : World} {us ug : Value} {h : Hl} {N : Nat} (k : HltO W us ug h N) (hb : Below W.heap.size W W') : HltO W' us ug h N := ⟨k.1.below hb, by
  obtain ⟨B, hB⟩ := k.2
  exact ⟨B, hB.step hb⟩⟩
/-- A row of another type stays where a slice grows. -/
theorem h_row_grown {W W' : World} {B n s g : Nat} {T TE : TypeId} {v : Value} {vs : List Value} {c : Array Value} (hT : T ≠ TE) (hr : RowAt W g T c) (ho : W.ownsRow B TE s v n vs) (hg : W.grownBy W' v.ownBlock) : RowAt W' g T c := by
  refine (hg.block g hr.lt fun e => ?_).trans hr
  rcases ho.2 with ⟨rfl, _⟩ | ⟨p, cap, cur, rfl, _, hp, _⟩
  · cases e
  · have e' : some g = some p := e
    cases e'
    have : some (Obj.cells c T (0, 0)) = some (Obj.cells cur TE (0, 0)) := hr.symm.trans hp
    injection this with this
    injection this with _ this
    exact absurd this hT
theorem h_own_grown {W W' : World} {B B' n n' s s' : Nat} {T TE : TypeId} {u v : Value} {us vs : List Value} (hT : T ≠ TE) (hu : W.ownsRow B' T s' u n' us) (ho : W.ownsRow B TE s v n vs) (hg : W.grownBy W' v.ownBlock) : W'.ownsRow B' T s' u n' us := by
  obtain ⟨h1, h2⟩ := hu
  exact ⟨h1, h2.imp id fun ⟨g, cap, cur, e, hB, hc, h3⟩ => ⟨g, cap, cur, e, hB, h_row_grown hT hc ho hg, h3⟩⟩
theorem HltO.grown {W W' : World} {us ug v : Value} {h : Hl} {N B n : Nat} {vs : List Value} (k : HltO W us ug h N) (ho : W.ownsRow B 51 2 v n vs) (hg : W.grownBy W' v.ownBlock) : HltO W' us ug h N := by
  obtain ⟨⟨B1, k1⟩, B2, k2⟩ := k
  exact ⟨⟨B1, h_own_grown (by decide) k1 ho hg⟩, B2, h_own_grown (by decide) (show W.ownsRow _ 53 28 _ _ _ from k2) ho hg⟩
/-- Halts, in a slice of the call's own. -/
def HsO (W : World) (B : Nat) (v : Value) (L : List Nat) (h : Hl) : Prop := ∃ vs : List Value, W.ownsRow B 51 2 v L.length vs ∧ ∀ (k N : Nat), L[k]? = some N → ∃ us ug, vs[2 * k]? = some us ∧ vs[2 * k + 1]? = some ug ∧ HltO W us ug h N
theorem HsO.nil (W : World) (B : Nat) (h : Hl) : HsO W B (.slice none 0 0) [] h := ⟨[], World.ownsRow_nil W B _ 2, fun k N e => by simp at e⟩
theorem HsO.below {W W' : World} {B : Nat} {v : Value} {L : List Nat} {h : Hl} (k : HsO W B v L h) (hb : Below W.heap.size W W') : HsO W' B v L h := by
  obtain ⟨vs, h1, h2⟩ := k
  refine ⟨vs, f_own_step h1 hb, fun k N e => ?_⟩
  obtain ⟨us, ug, a, b, c⟩ := h2 k N e
  exact ⟨us, ug, a, b, c.below hb⟩
theorem HsO.drew {W : World} {B : Nat} {v : Value} {L : List Nat} {h : Hl} (k : HsO W B v L h) : HsO W.drew B v L h := k
theorem HsO.mono {W : World} {B B' : Nat} {v : Value} {L : List Nat} {h : Hl} (k : HsO W B v L h) (hB : B' ≤ B) : HsO W B' v L h := by
  obtain ⟨vs, h1, h2⟩ := k
  exact ⟨vs, ⟨h1.1, h1.2.imp id fun ⟨g, cap, cur, a, b, c⟩ => ⟨g, cap, cur, a, Nat.le_trans hB b, c⟩⟩, h2⟩
/-- One more. -/
theorem HsO.more {W W' : World} {B : Nat} {v v' us ug : Value} {L : List Nat} {h : Hl} {N : Nat} {vs : List Value} (ho : W.ownsRow B 51 2 v L.length vs) (hv : ∀ (k N : Nat), L[k]? = some N → ∃ us ug, vs[2 * k]? = some us ∧ vs[2 * k + 1]? = some ug ∧ HltO W us ug h N) (hu : HltO W us ug h N) (ho' : W'.ownsRow B 51 2 v' (L.length + 1) (vs ++ [us, ug])) (hg : W.grownBy W' v.ownBlock) : HsO W' B v' (L ++ [N]) h := by
  refine ⟨vs ++ [us, ug], by rw [List.length_append]; exact ho', fun kk N' h2 => ?_⟩
  have hvl : vs.length = L.length * 2 := ho.1
  by_cases hkk : kk < L.length
  · rw [List.getElem?_append_left hkk] at h2
    obtain ⟨a, b, h3, h4, h5⟩ := hv kk N' h2
    exact ⟨a, b, by rw [List.getElem?_append_left (by omega)]; exact h3, by rw [List.getElem?_append_left (by omega)]; exact h4, h5.grown ho hg⟩
  · rw [List.getElem?_append_right (by omega)] at h2
    cases hz : kk - L.length with
    | zero =>
      rw [hz] at h2
      simp at h2
      subst h2
      refine ⟨us, ug, ?_, ?_, hu.grown ho hg⟩
      · rw [List.getElem?_append_right (by omega), show 2 * kk - vs.length = 0 by omega]; rfl
      · rw [List.getElem?_append_right (by omega), show 2 * kk + 1 - vs.length = 1 by omega]; rfl
    | succ z => rw [hz] at h2; simp at h2
theorem HsO.len {W : World} {B : Nat} {v : Value} {L : List Nat} {h : Hl} (k : HsO W B v L h) : ∃ a c, v = .slice a L.length c := by
  obtain ⟨vs, h1, _⟩ := k
  rcases h1.2 with ⟨rfl, h0⟩ | ⟨g, cap, cur, rfl, _⟩
  · exact ⟨none, 0, by rw [h0]⟩
  · exact ⟨_, _, rfl⟩
/-- A halt's cells, wherever they lie. -/
def HltN (W : World) (us ug : Value) (h : Hl) (N : Nat) : Prop := (NumsAt W us h.n fun i => ((dig h.n N i : Nat) : Int)) ∧ GsAt W ug (h.gs N) (h.lg N)
theorem HltN.below {W W' : World} {us ug : Value} {h : Hl} {N : Nat} (k : HltN W us ug h N) (hb : Below W.heap.size W W') : HltN W' us ug h N := ⟨k.1.below hb, k.2.below hb⟩
theorem HltO.n {W : World} {us ug : Value} {h : Hl} {N : Nat} (k : HltO W us ug h N) : HltN W us ug h N := ⟨k.1.nums, by
  obtain ⟨B, hB⟩ := k.2
  exact hB.at⟩
/-- Halts behind a slice, to be read. -/
def HsR (W : World) (v : Value) (L : List Nat) (h : Hl) : Prop := ∃ (a : Option Addr) (c : Nat), v = .slice a L.length c ∧ ∀ (k N : Nat), L[k]? = some N → ∃ b o us ug, a = some ⟨b, o, none⟩ ∧ W.cell? ⟨b, o + 2 * k, none⟩ = some us ∧ W.cell? ⟨b, o + 2 * k + 1, none⟩ = some ug ∧ HltN W us ug h N
theorem HsR.below {W W' : World} {v : Value} {L : List Nat} {h : Hl} (k : HsR W v L h) (hb : Below W.heap.size W W') : HsR W' v L h := by
  obtain ⟨a, c, h1, h2⟩ := k
  refine ⟨a, c, h1, fun k N e => ?_⟩
  obtain ⟨b, o, us, ug, e1, e2, e3, e4⟩ := h2 k N e
  exact ⟨b, o, us, ug, e1, (hb.cell (cell_block e2)).trans e2, (hb.cell (cell_block e3)).trans e3, e4.below hb⟩
theorem HsO.r {W : World} {B : Nat} {v : Value} {L : List Nat} {h : Hl} (k : HsO W B v L h) : HsR W v L h := by
  obtain ⟨vs, h1, h2⟩ := k
  have h1' := h1
  rcases h1.2 with ⟨rfl, h0⟩ | ⟨g, cap, cur, rfl, _⟩
  · obtain rfl := List.eq_nil_of_length_eq_zero h0
    exact ⟨none, 0, rfl, fun k N e => by simp at e⟩
  · refine ⟨_, cap, rfl, fun k N e => ?_⟩
    obtain ⟨us, ug, e1, e2, e3⟩ := h2 k N e
    have c1 := World.ownsRow.cells (g := g) h1' rfl _ _ e1
    have c2 := World.ownsRow.cells (g := g) h1' rfl _ _ e2
    rw [add_none] at c1 c2
    exact ⟨g, 0, us, ug, rfl, c1, c2, e3.n⟩
/-- Halts, wherever they lie. -/
def HsA (W : World) (v : Value) (L : List Nat) (h : Hl) : Prop := (v = .slice none 0 0 ∧ L = []) ∨ ∃ (b o c : Nat) (vs : List Value), v = .slice (some ⟨b, o, none⟩) L.length c ∧ vs.length = L.length * 2 ∧ (∀ (j : Nat) u, vs[j]? = some u → W.cell? ⟨b, o + j, none⟩ = some u) ∧ (∀ u ∈ vs, u.oneCell' = true) ∧ ∀ (k N : Nat), L[k]? = some N → ∃ us ug, vs[2 * k]? = some us ∧ vs[2 * k + 1]? = some ug ∧ HltN W us ug h N
theorem HsA.below {W W' : World} {v : Value} {L : List Nat} {h : Hl} (k : HsA W v L h) (hb : Below W.heap.size W W') : HsA W' v L h := by
  rcases k with k | ⟨b, o, c, vs, h1, h2, h3, h4, h5⟩
  · exact .inl k
  · refine .inr ⟨b, o, c, vs, h1, h2, fun j u e => (hb.cell (cell_block (h3 j u e))).trans (h3 j u e), h4, fun k N e => ?_⟩
    obtain ⟨us, ug, e1, e2, e3⟩ := h5 k N e
    exact ⟨us, ug, e1, e2, e3.below hb⟩
theorem HsA.r {W : World} {v : Value} {L : List Nat} {h : Hl} (k : HsA W v L h) : HsR W v L h := by
  rcases k with ⟨rfl, rfl⟩ | ⟨b, o, c, vs, h1, h2, h3, h4, h5⟩
  · exact ⟨none, 0, rfl, fun k N e => by simp at e⟩
  · refine ⟨_, c, h1, fun k N e => ?_⟩
    obtain ⟨us, ug, e1, e2, e3⟩ := h5 k N e
    exact ⟨b, o, us, ug, rfl, h3 _ _ e1, by rw [Nat.add_assoc]; exact h3 _ _ e2, e3⟩
/-- A list that is the call's own, of halts that lie anywhere. -/
def HsN (W : World) (B : Nat) (v : Value) (L : List Nat) (h : Hl) : Prop := ∃ vs : List Value, W.ownsRow B 51 2 v L.length vs ∧ ∀ (k N : Nat), L[k]? = some N → ∃ us ug, vs[2 * k]? = some us ∧ vs[2 * k + 1]? = some ug ∧ HltN W us ug h N
/-- The lists of the first k letters, one behind the other. -/
def Hl.cats (h : Hl) (L : Nat → List Nat) : Nat → List Nat
  | 0 => []
  | k + 1 => h.cats L k ++ L k
theorem Hl.cats_hits (h : Hl) (k : Nat) : h.cats (fun k => h.hits k (26 ^ (h.n - 1))) k = h.fnd (k * 26 ^ (h.n - 1)) := by
  induction k with
  | zero => simp [Hl.cats, Hl.fnd]
  | succ k ih => rw [Hl.cats, ih, Nat.succ_mul, Hl.fnd_add]
theorem Hl.cats_all (h : Hl) (hn : 1 ≤ h.n) : h.cats (fun k => h.hits k (26 ^ (h.n - 1))) 26 = h.fnd (26 ^ h.n) := by
  rw [Hl.cats_hits, Nat.mul_comm, ← Nat.pow_succ, Nat.succ_eq_add_one, show h.n - 1 + 1 = h.n by omega]
theorem Hl.cats_len (h : Hl) {L : Nat → List Nat} {M : Nat} (hL : ∀ k, (L k).length ≤ M) (k : Nat) : (h.cats L k).length ≤ k * M := by
  induction k with
  | zero => simp [Hl.cats]
  | succ k ih =>
    have := hL k
    rw [Hl.cats, List.length_append, Nat.succ_mul]
    omega
end Go.Proofs.Ytbbpbcmpemmgjaa

/-
  Contracts of bombe.meet, of Places and of the document's Places (chapter 10).
-/
namespace Go.Proofs.Ytbbpbcmpemmgjaa
open Go.RowKit PK Vg

/-- Does the same letter stand at the same place of both, the second one laid at a place of the first one? -/
def mt (t c : List UInt8) (at' : Nat) : Bool := (List.range c.length).any fun i => t.getD (at' + i) 0 == c.getD i 0
theorem mt_false {t c : List UInt8} {a : Nat} (h : ∀ i, i < c.length → t.getD (a + i) 0 ≠ c.getD i 0) : mt t c a = false := by
  unfold mt
  rw [List.any_eq_false]
  intro i hi
  simpa using h i (by simpa using hi)
theorem mt_true {t c : List UInt8} {a i : Nat} (hi : i < c.length) (h : t.getD (a + i) 0 = c.getD i 0) : mt t c a = true := by
  unfold mt
  rw [List.any_eq_true]
  exact ⟨i, by simpa using hi, by simpa using h⟩
theorem byte_ne {x y : UInt8} (h : ¬ x = y) : (((x.toNat : Nat) : Int) == ((y.toNat : Nat) : Int)) = false := by
  simp
  intro e
  exact h (UInt8.toNat_inj.1 (by omega))
set_option maxRecDepth 100000 in
set_option maxHeartbeats 1000000 in
theorem meet_any (t c : ByteArray) (hs : c.size ≤ t.size) (hc : c.size ≤ 65536) (w : World) : Calls Try.prog 63 #[.string t, .string c] w fun e w' => e = .returned (.bool (mt t.data.toList c.data.toList 0)) ∧ Below w.heap.size w w' := by
  have HL : Hid (c.size = c.data.toList.length) := Pl.size_len c
  go_enter Try.func63, Try.ntmps63
  go_wp2_with fail
  go_loopw [8] (fun i W => ∃ k : Nat, k ≤ c.size ∧ i = .int .i64 (k : Nat) ∧ (∀ j, j < k → t.data.toList.getD j 0 ≠ c.data.toList.getD j 0) ∧ Below w.heap.size w W) (fun i _ => ((c.size : Int) - intOf i).toNat)
  case atStart => exact ⟨0, by omega, rfl, fun j hj => by omega, Below.refl _ _⟩
  case round =>
    obtain ⟨k, hk, rfl, hn, hbe⟩ := hrel
    have HN := (show Hid _ from hn)
    have HBE := (show Hid _ from hbe)
    clear hn hbe
    by_cases hlt : k < c.size
    · have HLT : Hid (k < c.size) := hlt
      have hl1 : (k : Int) < (c.size : Int) := by omega
      have hl2 : (k : Int) < (t.size : Int) := by omega
      have hl3 : k < t.size := by omega
      have hx := (getD_byte t k hl3).symm
      have hy := (getD_byte c k hlt).symm
      have HNX : Hid (t.data.toList.getD k 0 ≠ c.data.toList.getD k 0 → ∀ j, j < k + 1 → t.data.toList.getD j 0 ≠ c.data.toList.getD j 0) := fun h j hj => by
        by_cases e : j = k
        · rw [e]; exact h
        · exact HN.out j (by omega)
      have HYES : Hid (t.data.toList.getD k 0 = c.data.toList.getD k 0 → mt t.data.toList c.data.toList 0 = true) := fun h => mt_true (i := k) (by rw [← HL.out]; exact HLT.out) (by rw [Nat.zero_add]; exact h)
      generalize t.data.toList.getD k 0 = x at *
      generalize c.data.toList.getD k 0 = y at *
      by_cases hxy : x = y
      · subst hxy
        have HT := (show Hid _ from HYES.out rfl)
        have hb : (((x.toNat : Nat) : Int) == ((x.toNat : Nat) : Int)) = true := by simp
        clear HYES HNX
        go_upto_region 4 with fail
        go_quiet (fail)
        go_wp2
        go_ret
        exact ⟨by rw [HT.out]; rfl, HBE.out.trans ⟨rfl, rfl, rfl, Nat.le_refl _, fun _ _ => rfl⟩⟩
      · have HNN := (show Hid _ from HNX.out hxy)
        have hb := byte_ne hxy
        clear HYES HNX hxy
        go_upto_region 4 with fail
        go_quiet (fail)
        go_wp2
        go_roundw
        case rel => exact ⟨k + 1, HLT.out, by go_num, HNN.out, HBE.out.trans ⟨rfl, rfl, rfl, Nat.le_refl _, fun _ _ => rfl⟩⟩
        case measure => have := HLT.out; simp [intOf]; omega
    · obtain rfl : k = c.size := by omega
      have hnn : ¬ ((c.size : Nat) : Int) < ((c.size : Nat) : Int) := by omega
      have HF : Hid (mt t.data.toList c.data.toList 0 = false) := mt_false fun i hi => by rw [Nat.zero_add]; exact HN.out i (by rw [HL.out]; exact hi)
      clear hlt
      go_wp2
      go_ret
      exact ⟨by rw [HF.out]; rfl, HBE.out⟩
end Go.Proofs.Ytbbpbcmpemmgjaa

/-
  Contracts of bombe.emptyBoard and (*board).say.
-/
namespace Go.Proofs.Ytbbpbcmpemmgjaa
open Go.RowKit PK Vg

/-- The 53 cells of a board. -/
def bdF (p : Nat → Int) (s : Nat → Nat) (n : Nat) : Nat → Int := fun i => if i < 26 then p i else if i < 52 then (s (i - 26) : Nat) else (n : Nat)
theorem bd_pair (p : Nat → Int) (s : Nat → Nat) (n : Nat) {x : Nat} (hx : x < 26) (v : Int) : upd (bdF p s n) x v = bdF (upd p x v) s n := funext fun i => by
  unfold upd bdF
  by_cases e : i = x
  · rw [if_pos e, if_pos (by omega)]; exact (if_pos e).symm
  · rw [if_neg e]
    by_cases h : i < 26
    · rw [if_pos h, if_pos h]; exact (if_neg e).symm
    · rw [if_neg h, if_neg h]
theorem bd_said (p : Nat → Int) (s : Nat → Nat) (n : Nat) {k : Nat} (hk : k < 26) (x : Nat) : upd (bdF p s n) (26 + k) (x : Nat) = bdF p (fun j => if j = k then x else s j) n := funext fun i => by
  unfold upd bdF
  by_cases e : i = 26 + k
  · rw [if_pos e, if_neg (by omega), if_pos (by omega)]
    show ((x : Nat) : Int) = ((if i - 26 = k then x else s (i - 26) : Nat) : Int)
    rw [if_pos (by omega)]
  · rw [if_neg e]
    by_cases h : i < 26
    · rw [if_pos h, if_pos h]
    · rw [if_neg h, if_neg h]
      by_cases h2 : i < 52
      · rw [if_pos h2, if_pos h2]
        show ((s (i - 26) : Nat) : Int) = ((if i - 26 = k then x else s (i - 26) : Nat) : Int)
        rw [if_neg (by omega)]
      · rw [if_neg h2, if_neg h2]
theorem bd_many (p : Nat → Int) (s : Nat → Nat) (n m : Nat) : ints 53 (upd (bdF p s n) 52 (m : Nat)) = ints 53 (bdF p s m) := ints_ext fun i hi => by
  unfold upd bdF
  by_cases e : i = 52
  · rw [if_pos e, if_neg (by omega), if_neg (by omega)]
  · rw [if_neg e]
    by_cases h : i < 26
    · rw [if_pos h, if_pos h]
    · rw [if_neg h, if_neg h, if_pos (by omega), if_pos (by omega)]
theorem bd_x (p : Nat → Int) (s : Nat → Nat) (n : Nat) {x : Nat} (hx : x < 26) : bdF p s n x = p x := if_pos hx
theorem bd_s (p : Nat → Int) (s : Nat → Nat) (n : Nat) {k : Nat} (hk : k < 26) : bdF p s n (26 + k) = (s k : Nat) := by
  unfold bdF
  rw [if_neg (by omega), if_pos (by omega), show 26 + k - 26 = k by omega]
theorem bd_n (p : Nat → Int) (s : Nat → Nat) (n : Nat) : bdF p s n 52 = (n : Nat) := by
  unfold bdF
  rw [if_neg (by omega), if_neg (by omega)]
theorem built_board : Try.prog.built 152 [] = some (ints 53 fun _ => 0) := by kernel_rfl
/-- A board. -/
def BdAt (W : World) (q : Nat) (p : Nat → Int) (s : Nat → Nat) (n : Nat) : Prop := RowAt W q 152 (ints 53 (bdF p s n))
set_option maxRecDepth 100000 in
set_option maxHeartbeats 2000000 in
theorem empty_any (w : World) : Calls Try.prog 89 #[] w fun e w' => ∃ q, e = .returned (.pointer (some ⟨q, 0, none⟩)) ∧ w.heap.size ≤ q ∧ BdAt w' q (fun _ => -1) (fun _ => 0) 0 ∧ Below w.heap.size w w' := by
  have hr0 : RowAt (w.alloc (.cells (ints 53 fun _ => 0) 152)) w.heap.size 152 (ints 53 (bdF (fun c => if c < 0 then -1 else 0) (fun _ => 0) 0)) := by
    have e : ints 53 (bdF (fun c => if c < 0 then -1 else 0) (fun _ => 0) 0) = ints 53 fun _ => 0 := ints_ext fun i _ => by
      unfold bdF
      by_cases h1 : i < 26
      · rw [if_pos h1]; exact if_neg (by omega)
      · rw [if_neg h1]
        by_cases h2 : i < 52
        · rw [if_pos h2]; rfl
        · rw [if_neg h2]; rfl
    rw [e]
    exact RowAt.new w _ _
  have hb0 := (Below.refl w.heap.size w).alloc (Nat.le_refl _) (.cells (ints 53 fun _ => 0) 152)
  go_enter Try.func89, Try.ntmps89
  go_upto_region 2 with (first | refine wpList_build0 rfl 152 rfl (ints 53 fun _ => 0) built_board ?_)
  generalize w.alloc (.cells (ints 53 fun _ => 0) 152) = W0 at *
  go_wp2_with fail
  go_loopw [5] (fun i W => ∃ k : Nat, k ≤ 26 ∧ i = .int .i64 (k : Nat) ∧ RowAt W w.heap.size 152 (ints 53 (bdF (fun c => if c < k then -1 else 0) (fun _ => 0) 0)) ∧ Below w.heap.size w W) (fun i _ => ((26 : Int) - intOf i).toNat)
  case atStart => exact ⟨0, by omega, rfl, hr0, hb0⟩
  case round =>
    clear hr0 hb0
    obtain ⟨k, hk, rfl, hr, hbe⟩ := hrel
    by_cases hlt : k < 26
    · have HLT : Hid (k < 26) := hlt
      have hlt2 : (k : Int) < 26 := by omega
      have hc := hr.cell (ints_get (bdF (fun c => if c < k then -1 else 0) (fun _ => 0) 0) (i := k) (by omega))
      have hf := hr.frozen k
      have HN : Hid (RowAt (wr.setCell ⟨w.heap.size, k, none⟩ (.int .i64 (-1))) w.heap.size 152 (ints 53 (bdF (fun c => if c < k + 1 then -1 else 0) (fun _ => 0) 0)) ∧ Below w.heap.size w (wr.setCell ⟨w.heap.size, k, none⟩ (.int .i64 (-1)))) := by
        refine ⟨?_, hbe.setCell (p := ⟨w.heap.size, k, none⟩) (Nat.le_refl _) _⟩
        have h1 := hr.set k (.int .i64 (-1))
        rw [ints_set, bd_pair _ _ _ hlt] at h1
        have e : upd (fun c => if c < k then (-1 : Int) else 0) k (-1) = fun c => if c < k + 1 then -1 else 0 := funext fun c => by
          unfold upd
          by_cases e1 : c = k
          · rw [if_pos e1, if_pos (by omega)]
          · rw [if_neg e1]
            show (if c < k then (-1 : Int) else 0) = if c < k + 1 then -1 else 0
            by_cases e2 : c < k
            · rw [if_pos e2, if_pos (by omega)]
            · rw [if_neg e2, if_neg (by omega)]
        rw [e] at h1
        exact h1
      generalize bdF (fun c => if c < k then -1 else 0) (fun _ => 0) 0 = F at *
      clear hlt hr hbe
      go_wp2
      go_roundw
      case rel => exact ⟨k + 1, HLT.out, by go_num, HN.out.1, HN.out.2⟩
      case measure => have := HLT.out; simp [intOf]; omega
    · obtain rfl : k = 26 := by omega
      have HR : Hid (BdAt wr w.heap.size (fun _ => -1) (fun _ => 0) 0) := by
        have e : ints 53 (bdF (fun _ => -1) (fun _ => 0) 0) = ints 53 (bdF (fun c => if c < 26 then -1 else 0) (fun _ => 0) 0) := ints_ext fun i _ => by
          unfold bdF
          by_cases h1 : i < 26
          · rw [if_pos h1, if_pos h1]; exact (if_pos h1).symm
          · rw [if_neg h1, if_neg h1]
        rw [Hid, BdAt, e]
        exact hr
      have HBE := (show Hid _ from hbe)
      clear hr hbe hlt
      go_wp2
      go_ret
      exact ⟨_, rfl, Nat.le_refl _, HR.out, HBE.out⟩
set_option maxRecDepth 100000 in
set_option maxHeartbeats 4000000 in
theorem say_any (q : Nat) (p : Nat → Int) (s : Nat → Nat) (n x y : Nat) (hx : x < 26) (hn : p x = -1 → n < 26) (w : World) (hb : BdAt w q p s n) : Calls Try.prog 90 #[.pointer (some ⟨q, 0, none⟩), .int .i64 (x : Nat), .int .i64 (y : Nat)] w fun e w' => w.grownBy w' (some q) ∧ ((p x = -1 ∧ e = .returned (.bool true) ∧ BdAt w' q (upd p x (y : Nat)) (fun j => if j = n then x else s j) (n + 1)) ∨ (p x ≠ -1 ∧ e = .returned (.bool (p x == ((y : Nat) : Int))) ∧ BdAt w' q p s n)) := by
  have hx2 : (x : Int) < 26 := by omega
  have hr : RowAt w q 152 (ints 53 (bdF p s n)) := hb
  have hc := hr.cell (ints_get (bdF p s n) (i := x) (by omega))
  rw [bd_x p s n hx] at hc
  by_cases hp : p x = -1
  · have HPX := (show Hid _ from hp)
    have hn26 := hn hp
    have hn2 : (n : Int) < 26 := by omega
    rw [hp] at hc
    have hf := hr.frozen x
    have hr1 : RowAt (w.setCell ⟨q, x, none⟩ (.int .i64 (y : Nat))) q 152 (ints 53 (bdF (upd p x (y : Nat)) s n)) := by
      have h1 := hr.set x (.int .i64 (y : Nat))
      rw [ints_set, bd_pair _ _ _ hx] at h1
      exact h1
    have hg1 := grown_set w q x (.int .i64 (y : Nat))
    clear hr hb hp hn
    go_enter Try.func90, Try.ntmps90
    go_upto_region 3 with fail
    generalize w.setCell ⟨q, x, none⟩ (.int .i64 (y : Nat)) = W1 at *
    clear hc hf
    have hSd : ∃ s', (s' = s ∨ s' = fun j => if j = n then x else s j) ∧ RowAt W1.drew q 152 (ints 53 (bdF (upd p x (y : Nat)) s' n)) := ⟨s, .inl rfl, hr1⟩
    have hr1d : RowAt W1.drew q 152 (ints 53 (bdF (upd p x (y : Nat)) s n)) := hr1
    have hg1d : w.grownBy W1.drew (some q) := ⟨hg1.os, hg1.tape, hg1.output, hg1.size, hg1.block⟩
    clear hr1 hg1
    refine wp_region_noPanic ?_
    refine wp_region_held_drew (S := fun W => ∃ s', (s' = s ∨ s' = fun j => if j = n then x else s j) ∧ RowAt W q 152 (ints 53 (bdF (upd p x (y : Nat)) s' n))) (by kernel_rfl) hSd (fun hS => ?_)
    clear hSd
    obtain ⟨U, hU⟩ : ∃ x, x = W1.drew := ⟨_, rfl⟩
    rw [← hU] at hS hr1d hg1d ⊢
    clear hU
    refine vtake 0 20 (.pointer (some ⟨q, 0, none⟩)) rfl rfl (by kernel_rfl) (by kernel_rfl) (by kernel_rfl) (fun _ _ _ _ h => h) (by rfl) (fun W hW => by clear hS hW; go_simp) hS ?_
    simp only [List.setIfInBounds_toArray, List.set_cons_succ, List.set_cons_zero]
    refine vtake 1 21 (.pointer (some ⟨q, 0, none⟩)) rfl rfl (by kernel_rfl) (by kernel_rfl) (by kernel_rfl) (fun _ _ _ _ h => h) (by rfl) (fun W hW => by clear hS hW; go_simp) hS ?_
    simp only [List.setIfInBounds_toArray, List.set_cons_succ, List.set_cons_zero]
    refine vtake 2 22 (.pointer (some ⟨q, 0, none⟩)) rfl rfl (by kernel_rfl) (by kernel_rfl) (by kernel_rfl) (fun _ _ _ _ h => h) (by rfl) (fun W hW => by clear hS hW; go_simp) hS ?_
    simp only [List.setIfInBounds_toArray, List.set_cons_succ, List.set_cons_zero]
    refine vtake 3 23 (.pointer (some ⟨q, 52, none⟩)) rfl rfl (by kernel_rfl) (by kernel_rfl) (by kernel_rfl) (fun _ _ _ _ h => h) (by rfl) (fun W hW => by clear hS hW; go_simp) hS ?_
    simp only [List.setIfInBounds_toArray, List.set_cons_succ, List.set_cons_zero]
    refine vtake 4 24 (.int .i64 (n : Nat)) rfl rfl (by kernel_rfl) (by kernel_rfl) (by kernel_rfl) (fun _ _ _ _ h => h) (by rfl) (fun W hW => by obtain ⟨s', _, hW⟩ := hW; have u := hW.cell (ints_get (bdF (upd p x (y : Nat)) s' n) (i := 52) (by omega)); rw [bd_n] at u; clear hS hW; go_simp) hS ?_
    simp only [List.setIfInBounds_toArray, List.set_cons_succ, List.set_cons_zero]
    refine vtake 5 25 (.int .i64 (x : Nat)) rfl rfl (by kernel_rfl) (by kernel_rfl) (by kernel_rfl) (fun _ _ _ _ h => h) (by rfl) (fun W hW => by clear hS hW; go_simp) hS ?_
    simp only [List.setIfInBounds_toArray, List.set_cons_succ, List.set_cons_zero]
    refine vtake 6 26 (.pointer (some ⟨q, 0, none⟩)) rfl rfl (by kernel_rfl) (by kernel_rfl) (by kernel_rfl) (fun _ _ _ _ h => h) (by rfl) (fun W hW => by clear hS hW; go_simp) hS ?_
    simp only [List.setIfInBounds_toArray, List.set_cons_succ, List.set_cons_zero]
    refine vtake 7 27 (.pointer (some ⟨q, 26, none⟩)) rfl rfl (by kernel_rfl) (by kernel_rfl) (by kernel_rfl) (fun _ _ _ _ h => h) (by rfl) (fun W hW => by clear hS hW; go_simp) hS ?_
    simp only [List.setIfInBounds_toArray, List.set_cons_succ, List.set_cons_zero]
    refine vtake 8 28 (.pointer (some ⟨q, 26 + n, none⟩)) rfl rfl (by kernel_rfl) (by kernel_rfl) (by kernel_rfl) (fun _ _ _ _ h => h) (by rfl) (fun W hW => by clear hS hW; go_simp) hS ?_
    simp only [List.setIfInBounds_toArray, List.set_cons_succ, List.set_cons_zero]
    refine wpAnyH_ready (rs := [9]) (by kernel_rfl) (by simp) ?_
    refine AllReadyH.cons (o := _) rfl (fun K hK => ?_) AllReadyH.nil
    rw [if_pos (by rfl)]
    have hc1 := hr1d.cell (ints_get (bdF (upd p x (y : Nat)) s n) (i := 26 + n) (by omega))
    have hf1 := hr1d.frozen (26 + n)
    have hr2 : RowAt (U.setCell ⟨q, 26 + n, none⟩ (.int .i64 (x : Nat))) q 152 (ints 53 (bdF (upd p x (y : Nat)) (fun j => if j = n then x else s j) n)) := by
      have h1 := hr1d.set (26 + n) (.int .i64 (x : Nat))
      rw [ints_set, bd_said _ _ _ hn26] at h1
      exact h1
    have hg2 := grown_trans hg1d (grown_set U q (26 + n) (.int .i64 (x : Nat)))
    generalize bdF (upd p x (y : Nat)) s n = F0 at *
    go_simp
    refine hK.out _ _ ⟨_, .inr rfl, hr2⟩ (fun _ => ?_)
    clear hK K hS hr1d hc1 hf1 hg1d
    refine wpAnyH_done (by kernel_rfl) ?_ _
    refine NoPanic.normal ?_
    generalize U.setCell ⟨q, 26 + n, none⟩ (.int .i64 (x : Nat)) = U2 at *
    have c2 := hr2.cell (ints_get (bdF (upd p x (y : Nat)) (fun j => if j = n then x else s j) n) (i := 52) (by omega))
    rw [bd_n] at c2
    have f2 := hr2.frozen 52
    have hr3 : RowAt (U2.setCell ⟨q, 52, none⟩ (.int .i64 ((n : Int) + 1))) q 152 (ints 53 (bdF (upd p x (y : Nat)) (fun j => if j = n then x else s j) (n + 1))) := by
      have h1 := hr2.set 52 (.int .i64 ((n : Int) + 1))
      have e : ((n : Int) + 1) = ((n + 1 : Nat) : Int) := by omega
      rw [ints_set, e, bd_many] at h1
      rw [e]
      exact h1
    have hg3 := grown_trans hg2 (grown_set U2 q 52 (.int .i64 ((n : Int) + 1)))
    have c3 := hr3.cell (ints_get (bdF (upd p x (y : Nat)) (fun j => if j = n then x else s j) (n + 1)) (i := x) (by omega))
    rw [bd_x _ _ _ hx, upd_same] at c3
    have HR3 := (show Hid _ from hr3)
    have HG3 := (show Hid _ from hg3)
    have hyy : (((y : Nat) : Int) == ((y : Nat) : Int)) = true := by simp
    clear hr2 hg2 hr3 hg3
    go_wp2
    go_ret
    exact ⟨HG3.out, .inl ⟨HPX.out, rfl, HR3.out⟩⟩
  · have HPX := (show Hid _ from hp)
    have HR := (show Hid _ from hr)
    have hpb : (p x == -1) = false := by simpa using hp
    clear hb hn hr hp
    generalize p x = v at *
    go_enter Try.func90, Try.ntmps90
    go_wp2
    go_ret
    exact ⟨World.grownBy.refl _ _, .inr ⟨HPX.out, rfl, HR.out⟩⟩
end Go.Proofs.Ytbbpbcmpemmgjaa
