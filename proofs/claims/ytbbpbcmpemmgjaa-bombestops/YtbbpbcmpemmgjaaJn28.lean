/-
  Several texts, joined: BoGk, FgA.
-/
import Derived.Test.YtbbpbcmpemmgjaaJn27
import Derived.Test.YtbbpbcmpemmgjaaJn20
import Derived.Test.YtbbpbcmpemmgjaaJn21
import Derived.Test.YtbbpbcmpemmgjaaJn24
/-
  Guesses in slices.
-/
namespace Go.Proofs.Ytbbpbcmpemmgjaa
open Go.RowKit PK Vg

/-- The 28 cells of a guess. -/
def gsF (a b : Nat) (p : Nat → Int) : Nat → Int := fun i => if i = 0 then (a : Nat) else if i = 1 then (b : Nat) else p (i - 2)
theorem built_guess (a b : Nat) (p : Nat → Int) : Try.prog.built 53 [(0, .int .i64 (a : Nat)), (1, .int .i64 (b : Nat)), (2, .agg (ints 26 p))] = some (ints 28 (gsF a b p)) := by kernel_rfl
theorem b_info_guess : (Try.prog.info? 53).map (fun i => (i.zero, i.size, i.bytes)) = some (some (.agg (ints 28 fun _ => 0)), 28, 224) := by kernel_rfl
theorem b_zero_guess : (Try.prog.info? 53).map (fun i => (i.zero, i.size)) = some (some (.agg (ints 28 fun _ => 0)), 28) := by kernel_rfl
theorem b_size_guess : (Try.prog.info? 53).map (·.size) = some 28 := by kernel_rfl
/-- The cells of guesses, one behind the other. -/
def gl (g : Nat → Nat → Int) (L : List Nat) : Nat → Int := fun i => g (L.getD (i / 28) 0) (i % 28)
theorem gl_snoc (g : Nat → Nat → Int) (L : List Nat) (b : Nat) : (ints (L.length * 28) (gl g L)).toList ++ (ints 28 (g b)).toList = (ints ((L ++ [b]).length * 28) (gl g (L ++ [b]))).toList := by
  rw [← Array.toList_append]
  refine congrArg Array.toList ?_
  have hlen : (L ++ [b]).length = L.length + 1 := by simp
  rw [hlen]
  apply Array.ext_getElem?
  intro i
  by_cases h1 : i < L.length * 28
  · rw [Array.getElem?_append_left (by rw [ints_size]; exact h1), ints_get _ h1, ints_get _ (by omega)]
    unfold gl
    rw [List.getD_eq_getElem?_getD, List.getD_eq_getElem?_getD, List.getElem?_append_left (by omega)]
  · rw [Array.getElem?_append_right (by rw [ints_size]; omega), ints_size]
    by_cases h2 : i < (L.length + 1) * 28
    · rw [ints_get _ (by omega), ints_get _ h2]
      unfold gl
      rw [show i / 28 = L.length by omega, show i % 28 = i - L.length * 28 by omega, List.getD_eq_getElem?_getD, List.getElem?_append_right (by omega)]
      simp
    · rw [Array.getElem?_eq_none (by rw [ints_size]; omega), Array.getElem?_eq_none (by rw [ints_size]; omega)]
theorem at_intsN {n : Nat} {f : Nat → Int} {i : Nat} {v : Value} (h : (ints n f).toList[i]? = some v) : i < n ∧ v = .int .i64 (f i) := by
  have h1 := (List.getElem?_eq_some_iff.1 h).1
  rw [Array.length_toList, ints_size] at h1
  rw [Array.getElem?_toList, ints_get _ h1] at h
  exact ⟨h1, by cases h; rfl⟩
/-- Guesses that a slice owns. -/
def OwnsG (W : World) (B : Nat) (v : Value) (g : Nat → Nat → Int) (L : List Nat) : Prop := W.ownsRow B 53 28 v L.length (ints (L.length * 28) (gl g L)).toList
/-- Guesses behind a slice. -/
def GsAt (W : World) (v : Value) (g : Nat → Nat → Int) (L : List Nat) : Prop := ∃ (a : Option Addr) (cap : Nat), v = .slice a L.length cap ∧ ∀ j, j < L.length → ∃ b, a = some ⟨b, 0, none⟩ ∧ W.rangeAt b (j * 28) (ints 28 (g (L.getD j 0))).toList
theorem GsAt.below {W W' : World} {v : Value} {g : Nat → Nat → Int} {L : List Nat} (h : GsAt W v g L) (hb : Below W.heap.size W W') : GsAt W' v g L := by
  obtain ⟨a, cap, e, h1⟩ := h
  refine ⟨a, cap, e, fun j hj => ?_⟩
  obtain ⟨b, eb, h2⟩ := h1 j hj
  refine ⟨b, eb, fun i v hv => ?_⟩
  exact (hb.cell (p := ⟨b, j * 28 + i, none⟩) (cell_block (h2 i v hv))).trans (h2 i v hv)
theorem OwnsG.at {W : World} {B : Nat} {v : Value} {g : Nat → Nat → Int} {L : List Nat} (h : OwnsG W B v g L) : GsAt W v g L := by
  have h' : W.ownsRow B 53 28 v L.length (ints (L.length * 28) (gl g L)).toList := h
  rcases h'.2 with ⟨rfl, h0⟩ | ⟨b, cap, cur, rfl, hB, hg, hnc, hcm, hcs, htake⟩
  · exact ⟨none, 0, by rw [h0], fun j hj => by omega⟩
  · refine ⟨_, cap, rfl, fun j hj => ⟨b, rfl, fun i u hu => ?_⟩⟩
    obtain ⟨h1, rfl⟩ := at_intsN hu
    refine RowAt.cell (w := W) (b := b) (T := 53) hg ?_
    have h2 : (ints (L.length * 28) (gl g L)).toList[j * 28 + i]? = some (.int .i64 (g (L.getD j 0) i)) := by
      rw [Array.getElem?_toList, ints_get _ (by omega)]
      unfold gl
      rw [show (j * 28 + i) / 28 = j by omega, show (j * 28 + i) % 28 = i by omega]
    rw [← htake, List.getElem?_take_of_lt (by omega)] at h2
    simpa using h2
/-- The partners of the first k that are told. -/
def okTo (ok : Nat → Bool) (k : Nat) : List Nat := (List.range k).filter ok
theorem ok_yes {ok : Nat → Bool} {k : Nat} (h : ok k = true) : okTo ok (k + 1) = okTo ok k ++ [k] := by
  unfold okTo
  rw [List.range_succ, List.filter_append]
  simp [h]
theorem ok_no {ok : Nat → Bool} {k : Nat} (h : ok k = false) : okTo ok (k + 1) = okTo ok k := by
  unfold okTo
  rw [List.range_succ, List.filter_append]
  simp [h]
theorem ok_len (ok : Nat → Bool) (k : Nat) : (okTo ok k).length ≤ k := by
  have := List.length_filter_le ok (List.range k)
  unfold okTo
  simpa using this
end Go.Proofs.Ytbbpbcmpemmgjaa

/-
  Halts: windows and guesses, in slices.
-/
namespace Go.Proofs.Ytbbpbcmpemmgjaa
open Go.RowKit PK Vg

/-- What halts tell: how many windows there are; for each number of windows the guesses' cells, and which are told. -/
structure Hl where
  n : Nat
  gs : Nat → Nat → Nat → Int
  lg : Nat → List Nat
/-- The N-th windows halt. -/
def Hl.p (h : Hl) (N : Nat) : Bool := decide (0 < (h.lg N).length)
/-- What is found among the first j windows. -/
def Hl.fnd (h : Hl) (j : Nat) : List Nat := (List.range j).filter h.p
/-- What is found among the first j of those with letter k in the first window. -/
def Hl.hits (h : Hl) (k j : Nat) : List Nat := ((List.range j).map fun i => k * 26 ^ (h.n - 1) + i).filter h.p
theorem filter_one (p : Nat → Bool) (X : Nat) : List.filter p [X] = if p X = true then [X] else [] := by
  cases h : p X <;> simp [List.filter, h]
theorem Hl.hits_succ (h : Hl) (k j : Nat) : h.hits k (j + 1) = h.hits k j ++ if h.p (k * 26 ^ (h.n - 1) + j) = true then [k * 26 ^ (h.n - 1) + j] else [] := by
  unfold Hl.hits
  rw [List.range_succ, List.map_append, List.filter_append, List.map_cons, List.map_nil, filter_one]
theorem Hl.fnd_succ (h : Hl) (j : Nat) : h.fnd (j + 1) = h.fnd j ++ if h.p j = true then [j] else [] := by
  unfold Hl.fnd
  rw [List.range_succ, List.filter_append, filter_one]
theorem Hl.hits_len (h : Hl) (k j : Nat) : (h.hits k j).length ≤ j := by
  unfold Hl.hits
  refine Nat.le_trans (List.length_filter_le _ _) ?_
  simp
theorem Hl.fnd_len (h : Hl) (j : Nat) : (h.fnd j).length ≤ j := by
  unfold Hl.fnd
  refine Nat.le_trans (List.length_filter_le _ _) ?_
  simp
theorem Hl.fnd_add (h : Hl) (k j : Nat) : h.fnd (k * 26 ^ (h.n - 1) + j) = h.fnd (k * 26 ^ (h.n - 1)) ++ h.hits k j := by
  induction j with
  | zero => simp [Hl.hits]
  | succ j ih => rw [← Nat.add_assoc, Hl.fnd_succ, ih, Hl.hits_succ, List.append_assoc]
theorem Hl.p_of_fnd (h : Hl) {j k N : Nat} (e : (h.fnd j)[k]? = some N) : h.p N = true ∧ N < j := by
  have hm := List.mem_of_getElem? e
  unfold Hl.fnd at hm
  rw [List.mem_filter, List.mem_range] at hm
  exact ⟨hm.2, hm.1⟩
/-- A halt's cells, owned by somebody. -/
def HltO (W : World) (us ug : Value) (h : Hl) (N : Nat) : Prop := (OwI W us h.n fun i => ((dig h.n N i : Nat) : Int)) ∧ ∃ B, OwnsG W B ug (h.gs N) (h.lg N)
theorem OwnsG.step {W W' : World} {B : Nat} {v : Value} {g : Nat → Nat → Int} {L : List Nat} (h : OwnsG W B v g L) (hb : Below W.heap.size W W') : OwnsG W' B v g L := f_own_step h hb
theorem HltO.below {W W' : World} {us ug : Value} {h : Hl} {N : Nat} (k : HltO W us ug h N) (hb : Below W.heap.size W W') : HltO W' us ug h N := ⟨k.1.below hb, by
  obtain ⟨B, hB⟩ := k.2
  exact ⟨B, hB.step hb⟩⟩
/-- A row of another type stays where a slice grows. -/
theorem h_row_grown {W W' : World} {B n s g : Nat} {T TE : TypeId} {v : Value} {vs : List Value} {c : Array Value} (hT : T ≠ TE) (hr : RowAt W g T c) (ho : W.ownsRow B TE s v n vs) (hg : W.grownBy W' v.ownBlock) : RowAt W' g T c := by
  refine (hg.block g hr.lt fun e => ?_).trans hr
  rcases ho.2 with ⟨rfl, _⟩ | ⟨p, cap, cur, rfl, _, hp, _⟩
  · cases e
  · have e' : some g = some p := e
    cases e'
    have : some (Obj.cells c T (0, 0)) = some (Obj.cells cur TE (0, 0)) := hr.symm.trans hp
    injection this with this
    injection this with _ this
    exact absurd this hT
theorem h_own_grown {W W' : World} {B B' n n' s s' : Nat} {T TE : TypeId} {u v : Value} {us vs : List Value} (hT : T ≠ TE) (hu : W.ownsRow B' T s' u n' us) (ho : W.ownsRow B TE s v n vs) (hg : W.grownBy W' v.ownBlock) : W'.ownsRow B' T s' u n' us := by
  obtain ⟨h1, h2⟩ := hu
  exact ⟨h1, h2.imp id fun ⟨g, cap, cur, e, hB, hc, h3⟩ => ⟨g, cap, cur, e, hB, h_row_grown hT hc ho hg, h3⟩⟩
theorem HltO.grown {W W' : World} {us ug v : Value} {h : Hl} {N B n : Nat} {vs : List Value} (k : HltO W us ug h N) (ho : W.ownsRow B 51 2 v n vs) (hg : W.grownBy W' v.ownBlock) : HltO W' us ug h N := by
  obtain ⟨⟨B1, k1⟩, B2, k2⟩ := k
  exact ⟨⟨B1, h_own_grown (by decide) k1 ho hg⟩, B2, h_own_grown (by decide) (show W.ownsRow _ 53 28 _ _ _ from k2) ho hg⟩
/-- Halts, in a slice of the call's own. -/
def HsO (W : World) (B : Nat) (v : Value) (L : List Nat) (h : Hl) : Prop := ∃ vs : List Value, W.ownsRow B 51 2 v L.length vs ∧ ∀ (k N : Nat), L[k]? = some N → ∃ us ug, vs[2 * k]? = some us ∧ vs[2 * k + 1]? = some ug ∧ HltO W us ug h N
theorem HsO.nil (W : World) (B : Nat) (h : Hl) : HsO W B (.slice none 0 0) [] h := ⟨[], World.ownsRow_nil W B _ 2, fun k N e => by simp at e⟩
theorem HsO.below {W W' : World} {B : Nat} {v : Value} {L : List Nat} {h : Hl} (k : HsO W B v L h) (hb : Below W.heap.size W W') : HsO W' B v L h := by
  obtain ⟨vs, h1, h2⟩ := k
  refine ⟨vs, f_own_step h1 hb, fun k N e => ?_⟩
  obtain ⟨us, ug, a, b, c⟩ := h2 k N e
  exact ⟨us, ug, a, b, c.below hb⟩
theorem HsO.mono {W : World} {B B' : Nat} {v : Value} {L : List Nat} {h : Hl} (k : HsO W B v L h) (hB : B' ≤ B) : HsO W B' v L h := by
  obtain ⟨vs, h1, h2⟩ := k
  exact ⟨vs, ⟨h1.1, h1.2.imp id fun ⟨g, cap, cur, a, b, c⟩ => ⟨g, cap, cur, a, Nat.le_trans hB b, c⟩⟩, h2⟩
/-- One more. -/
theorem HsO.more {W W' : World} {B : Nat} {v v' us ug : Value} {L : List Nat} {h : Hl} {N : Nat} {vs : List Value} (ho : W.ownsRow B 51 2 v L.length vs) (hv : ∀ (k N : Nat), L[k]? = some N → ∃ us ug, vs[2 * k]? = some us ∧ vs[2 * k + 1]? = some ug ∧ HltO W us ug h N) (hu : HltO W us ug h N) (ho' : W'.ownsRow B 51 2 v' (L.length + 1) (vs ++ [us, ug])) (hg : W.grownBy W' v.ownBlock) : HsO W' B v' (L ++ [N]) h := by
  refine ⟨vs ++ [us, ug], by rw [List.length_append]; exact ho', fun kk N' h2 => ?_⟩
  have hvl : vs.length = L.length * 2 := ho.1
  by_cases hkk : kk < L.length
  · rw [List.getElem?_append_left hkk] at h2
    obtain ⟨a, b, h3, h4, h5⟩ := hv kk N' h2
    exact ⟨a, b, by rw [List.getElem?_append_left (by omega)]; exact h3, by rw [List.getElem?_append_left (by omega)]; exact h4, h5.grown ho hg⟩
  · rw [List.getElem?_append_right (by omega)] at h2
    cases hz : kk - L.length with
    | zero =>
      rw [hz] at h2
      simp at h2
      subst h2
      refine ⟨us, ug, ?_, ?_, hu.grown ho hg⟩
      · rw [List.getElem?_append_right (by omega), show 2 * kk - vs.length = 0 by omega]; rfl
      · rw [List.getElem?_append_right (by omega), show 2 * kk + 1 - vs.length = 1 by omega]; rfl
    | succ z => rw [hz] at h2; simp at h2
/-- A halt's cells, wherever they lie. -/
def HltN (W : World) (us ug : Value) (h : Hl) (N : Nat) : Prop := (NumsAt W us h.n fun i => ((dig h.n N i : Nat) : Int)) ∧ GsAt W ug (h.gs N) (h.lg N)
theorem HltN.below {W W' : World} {us ug : Value} {h : Hl} {N : Nat} (k : HltN W us ug h N) (hb : Below W.heap.size W W') : HltN W' us ug h N := ⟨k.1.below hb, k.2.below hb⟩
/-- Halts behind a slice, to be read. -/
def HsR (W : World) (v : Value) (L : List Nat) (h : Hl) : Prop := ∃ (a : Option Addr) (c : Nat), v = .slice a L.length c ∧ ∀ (k N : Nat), L[k]? = some N → ∃ b o us ug, a = some ⟨b, o, none⟩ ∧ W.cell? ⟨b, o + 2 * k, none⟩ = some us ∧ W.cell? ⟨b, o + 2 * k + 1, none⟩ = some ug ∧ HltN W us ug h N
/-- Halts, wherever they lie. -/
def HsA (W : World) (v : Value) (L : List Nat) (h : Hl) : Prop := (v = .slice none 0 0 ∧ L = []) ∨ ∃ (b o c : Nat) (vs : List Value), v = .slice (some ⟨b, o, none⟩) L.length c ∧ vs.length = L.length * 2 ∧ (∀ (j : Nat) u, vs[j]? = some u → W.cell? ⟨b, o + j, none⟩ = some u) ∧ (∀ u ∈ vs, u.oneCell' = true) ∧ ∀ (k N : Nat), L[k]? = some N → ∃ us ug, vs[2 * k]? = some us ∧ vs[2 * k + 1]? = some ug ∧ HltN W us ug h N
theorem HsA.below {W W' : World} {v : Value} {L : List Nat} {h : Hl} (k : HsA W v L h) (hb : Below W.heap.size W W') : HsA W' v L h := by
  rcases k with k | ⟨b, o, c, vs, h1, h2, h3, h4, h5⟩
  · exact .inl k
  · refine .inr ⟨b, o, c, vs, h1, h2, fun j u e => (hb.cell (cell_block (h3 j u e))).trans (h3 j u e), h4, fun k N e => ?_⟩
    obtain ⟨us, ug, e1, e2, e3⟩ := h5 k N e
    exact ⟨us, ug, e1, e2, e3.below hb⟩
theorem HsA.r {W : World} {v : Value} {L : List Nat} {h : Hl} (k : HsA W v L h) : HsR W v L h := by
  rcases k with ⟨rfl, rfl⟩ | ⟨b, o, c, vs, h1, h2, h3, h4, h5⟩
  · exact ⟨none, 0, rfl, fun k N e => by simp at e⟩
  · refine ⟨_, c, h1, fun k N e => ?_⟩
    obtain ⟨us, ug, e1, e2, e3⟩ := h5 k N e
    exact ⟨b, o, us, ug, rfl, h3 _ _ e1, by rw [Nat.add_assoc]; exact h3 _ _ e2, e3⟩
/-- A list that is the call's own, of halts that lie anywhere. -/
def HsN (W : World) (B : Nat) (v : Value) (L : List Nat) (h : Hl) : Prop := ∃ vs : List Value, W.ownsRow B 51 2 v L.length vs ∧ ∀ (k N : Nat), L[k]? = some N → ∃ us ug, vs[2 * k]? = some us ∧ vs[2 * k + 1]? = some ug ∧ HltN W us ug h N
/-- The lists of the first k letters, one behind the other. -/
def Hl.cats (h : Hl) (L : Nat → List Nat) : Nat → List Nat
  | 0 => []
  | k + 1 => h.cats L k ++ L k
theorem Hl.cats_hits (h : Hl) (k : Nat) : h.cats (fun k => h.hits k (26 ^ (h.n - 1))) k = h.fnd (k * 26 ^ (h.n - 1)) := by
  induction k with
  | zero => simp [Hl.cats, Hl.fnd]
  | succ k ih => rw [Hl.cats, ih, Nat.succ_mul, Hl.fnd_add]
theorem Hl.cats_all (h : Hl) (hn : 1 ≤ h.n) : h.cats (fun k => h.hits k (26 ^ (h.n - 1))) 26 = h.fnd (26 ^ h.n) := by
  rw [Hl.cats_hits, Nat.mul_comm, ← Nat.pow_succ, Nat.succ_eq_add_one, show h.n - 1 + 1 = h.n by omega]
theorem Hl.cats_len (h : Hl) {L : Nat → List Nat} {M : Nat} (hL : ∀ k, (L k).length ≤ M) (k : Nat) : (h.cats L k).length ≤ k * M := by
  induction k with
  | zero => simp [Hl.cats]
  | succ k ih =>
    have := hL k
    rw [Hl.cats, List.length_append, Nat.succ_mul]
    omega
end Go.Proofs.Ytbbpbcmpemmgjaa
