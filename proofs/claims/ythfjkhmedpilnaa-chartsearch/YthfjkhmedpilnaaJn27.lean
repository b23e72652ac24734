/-
  Several texts, joined: Fd8, Fd9, FdA, ChSa.
-/
import Derived.Test.YthfjkhmedpilnaaJn26
import Derived.Test.YthfjkhmedpilnaaJn15
import Derived.Test.YthfjkhmedpilnaaChTy
import Derived.Deep.QuietTactic
import Derived.BigQuiet
/-
  Contract of the document's Find (chapter 9).
-/
namespace Go.Proofs.Ythfjkhmedpilnaa
open Go.RowKit PK Vg

set_option maxRecDepth 100000 in
set_option maxHeartbeats 2000000 in
theorem rs9_any (u v : Value) (n k : Nat) (f g : Nat → Int) (w : World) (hu : NumsAt w u n f) (hv : NumsAt w v k g) :
    Calls Try.prog 12 #[u, v] w fun e w' => e = .returned (.bool (smB n k f g)) ∧ Below w.heap.size w w' := by
  obtain ⟨a, ca, rfl, hmx, hca⟩ := hu
  obtain ⟨b, cb, rfl, _, hcb⟩ := hv
  have HA := (show Hid (∀ c, c < n → ∃ b o, a = some ⟨b, o, none⟩ ∧ w.cell? ⟨b, o + c, none⟩ = some (.int .i64 (f c))) from hca)
  have HB := (show Hid (∀ c, c < k → ∃ b' o, b = some ⟨b', o, none⟩ ∧ w.cell? ⟨b', o + c, none⟩ = some (.int .i64 (g c))) from hcb)
  unfold maxLen at hmx
  clear hca hcb
  by_cases hnk : n = k
  case neg =>
    have h1 : (((n : Nat) : Int) != ((k : Nat) : Int)) = true := by simp; omega
    have HF : Hid (smB n k f g = false) := by
      cases hq : smB n k f g
      · rfl
      · exact absurd (smB_iff.1 hq).1 hnk
    clear hnk HA HB
    go_enter Try.func12, Try.ntmps12
    go_wp2
    go_ret
    exact ⟨by rw [HF.out]; rfl, Below.refl _ _⟩
  subst hnk
  have h1 : (((n : Nat) : Int) != ((n : Nat) : Int)) = false := by simp
  go_enter Try.func12, Try.ntmps12
  go_wp2_with fail
  go_loopw [13] (fun i W => ∃ m : Nat, m ≤ n ∧ i = .int .i64 m ∧ Below w.heap.size w W ∧ ∀ j, j < m → f j = g j) (fun i _ => ((n : Int) - intOf i).toNat)
  case atStart => exact ⟨0, by omega, rfl, Below.refl _ _, fun j hj => by omega⟩
  case round =>
    obtain ⟨m, hm, rfl, hb, hj⟩ := hrel
    by_cases hlt : m < n
    · obtain ⟨b1, o1, e1, h1'⟩ := HA.out m hlt
      obtain ⟨b2, o2, e2, h2'⟩ := HB.out m hlt
      subst e1 e2
      have c1 := (hb.cell (p := ⟨b1, o1 + m, none⟩) (cell_block h1')).trans h1'
      have c2 := (hb.cell (p := ⟨b2, o2 + m, none⟩) (cell_block h2')).trans h2'
      have HJ := (show Hid _ from hj)
      have HLT : Hid (m < n) := hlt
      have hlt2 : (m : Int) < (n : Int) := by omega
      have HX : Hid (∀ x y, x = f m → y = g m → (x = y ↔ f m = g m)) := fun x y h1 h2 => by rw [h1, h2]
      obtain ⟨x, hx⟩ : ∃ x, x = f m := ⟨_, rfl⟩
      obtain ⟨y, hy⟩ : ∃ y, y = g m := ⟨_, rfl⟩
      have HXY := (show Hid (x = y ↔ f m = g m) from HX.out x y hx hy)
      rw [← hx] at c1
      rw [← hy] at c2
      clear h1' h2' hj hx hy HX hlt
      by_cases hxy : x = y
      · have hxb : (x != y) = false := by simp [hxy]
        have HJ2 : Hid (∀ j, j < m + 1 → f j = g j) := fun j hj => by
          by_cases e : j = m
          · rw [e]; exact HXY.out.1 hxy
          · exact HJ.out j (by omega)
        clear hxy
        go_wp2_with fail
        go_quiet (fail)
        go_wp2
        go_roundw
        case rel => exact ⟨m + 1, HLT.out, by go_num, ⟨hb.os, hb.tape, hb.output, hb.size, hb.block⟩, HJ2.out⟩
        case measure => have := HLT.out; simp [intOf]; omega
      · have hxb : (x != y) = true := by simp [hxy]
        have HF : Hid (smB n n f g = false) := by
          cases hq : smB n n f g
          · rfl
          · exact absurd (HXY.out.2 ((smB_iff.1 hq).2 m HLT.out)) hxy
        clear hxy
        go_wp2_with fail
        go_quiet (fail)
        go_wp2
        go_ret
        exact ⟨by rw [HF.out]; rfl, ⟨hb.os, hb.tape, hb.output, hb.size, hb.block⟩⟩
    · have hnn : ¬ (m : Int) < (n : Int) := by omega
      have HT : Hid (smB n n f g = true) := smB_iff.2 ⟨rfl, fun i hi => hj i (by omega)⟩
      have HB' := (show Hid _ from hb)
      clear hj hb hlt
      go_wp2
      go_ret
      exact ⟨by rw [HT.out]; rfl, HB'.out⟩
/-- What is found among the first j windows. -/
def fndTo (g : Gm) (m : Nat → Nat) (fb : Nat → Nat → Int) (j : Nat) : List Nat := (List.range j).filter (hitN g m fb)
theorem fndTo_succ (g : Gm) (m : Nat → Nat) (fb : Nat → Nat → Int) (j : Nat) : fndTo g m fb (j + 1) = fndTo g m fb j ++ if hitN g m fb j = true then [j] else [] := by
  unfold fndTo
  rw [List.range_succ, List.filter_append]
  have key : ∀ X, List.filter (hitN g m fb) [X] = if hitN g m fb X = true then [X] else [] := fun X => by
    cases h : hitN g m fb X <;> simp [List.filter, h]
  rw [key]
theorem fndTo_len (g : Gm) (m : Nat → Nat) (fb : Nat → Nat → Int) (j : Nat) : (fndTo g m fb j).length ≤ j := by
  unfold fndTo
  refine Nat.le_trans (List.length_filter_le _ _) ?_
  simp
/-- The two boxes of a search. -/
structure FnS (w W : World) (A : Array Value) (U : Nat → Value) : Prop where
  m : RowAt W w.heap.size 27 A
  t : RowAt W (w.heap.size + 1) 28 (tab 3 U)
  below : Below w.heap.size w W
theorem FnS.new (w : World) (A : Array Value) (U : Nat → Value) : FnS w ((w.alloc (.cells A 27)).alloc (.cells (tab 3 U) 28)) A U := by
  refine ⟨(RowAt.new w _ _).alloc _, ?_, ((Below.refl _ w).alloc (Nat.le_refl _) _).alloc (by simp) _⟩
  have h := RowAt.new (w.alloc (.cells A 27)) 28 (tab 3 U)
  rw [World.size_alloc] at h
  exact h
theorem FnS.step {w W W' : World} {A : Array Value} {U : Nat → Value} (h : FnS w W A U) (hb : Below W.heap.size W W') : FnS w W' A U := ⟨h.m.below hb h.m.lt, h.t.below hb h.t.lt, h.below.trans (hb.mono h.below.size)⟩
end Go.Proofs.Ythfjkhmedpilnaa

/-
  What is found letter by letter, one behind the other, is what is found at all; lists as they lie.
-/
namespace Go.Proofs.Ythfjkhmedpilnaa
open Go.RowKit PK Vg
theorem fnd_add (g : Gm) (m : Nat → Nat) (fb : Nat → Nat → Int) (k j : Nat) : fndTo g m fb (k * 26 ^ (g.n - 1) + j) = fndTo g m fb (k * 26 ^ (g.n - 1)) ++ hitsTo g m fb k j := by
  induction j with
  | zero => simp [hitsTo]
  | succ j ih => rw [← Nat.add_assoc, fndTo_succ, ih, hitsTo_succ, List.append_assoc]
/-- The lists of the first k letters, one behind the other. -/
def cats (L : Nat → List Nat) : Nat → List Nat
  | 0 => []
  | k + 1 => cats L k ++ L k
theorem cats_hits (g : Gm) (m : Nat → Nat) (fb : Nat → Nat → Int) (k : Nat) : cats (fun k => hitsTo g m fb k (26 ^ (g.n - 1))) k = fndTo g m fb (k * 26 ^ (g.n - 1)) := by
  induction k with
  | zero => simp [cats, fndTo]
  | succ k ih => rw [cats, ih, Nat.succ_mul, fnd_add]
theorem cats_all (g : Gm) (m : Nat → Nat) (fb : Nat → Nat → Int) (hn : 1 ≤ g.n) : cats (fun k => hitsTo g m fb k (26 ^ (g.n - 1))) 26 = fndTo g m fb (26 ^ g.n) := by
  rw [cats_hits, Nat.mul_comm, ← Nat.pow_succ, Nat.succ_eq_add_one, show g.n - 1 + 1 = g.n by omega]
theorem cats_len {L : Nat → List Nat} {M : Nat} (h : ∀ k, (L k).length ≤ M) (k : Nat) : (cats L k).length ≤ k * M := by
  induction k with
  | zero => simp [cats]
  | succ k ih =>
    have := h k
    rw [cats, List.length_append, Nat.succ_mul]
    omega
/-- A list of rows of numbers, wherever it lies. -/
def LsA (W : World) (v : Value) (L : List Nat) (m : Nat) : Prop := (v = .slice none 0 0 ∧ L = []) ∨ ∃ (b o c : Nat) (vs : List Value), v = .slice (some ⟨b, o, none⟩) L.length c ∧ vs.length = L.length ∧ (∀ (j : Nat) u, vs[j]? = some u → W.cell? ⟨b, o + j, none⟩ = some u) ∧ (∀ u ∈ vs, u.oneCell' = true) ∧ ∀ (j : Nat) u N, vs[j]? = some u → L[j]? = some N → NumsAt W u m fun i => ((dig m N i : Nat) : Int)
theorem LsA.below {W W' : World} {v : Value} {L : List Nat} {m : Nat} (h : LsA W v L m) (hb : Below W.heap.size W W') : LsA W' v L m := by
  rcases h with h | ⟨b, o, c, vs, h1, h2, h3, h4, h5⟩
  · exact .inl h
  · exact .inr ⟨b, o, c, vs, h1, h2, fun j u h => (hb.cell (cell_block (h3 j u h))).trans (h3 j u h), h4, fun j u N a b => (h5 j u N a b).below hb⟩
/-- A list that is the call's own, of rows that lie anywhere. -/
def LsN (W : World) (B : Nat) (v : Value) (L : List Nat) (m : Nat) : Prop := ∃ vs : List Value, W.ownsRow B 23 1 v L.length vs ∧ ∀ (k : Nat) (u : Value) (N : Nat), vs[k]? = some u → L[k]? = some N → NumsAt W u m fun i => ((dig m N i : Nat) : Int)
theorem f_size_26 : (Try.prog.info? 94).map (·.size) = some 26 := by kernel_rfl
theorem run_index_26 (V : Nat → Value) (k : Nat) (hk : k < 26) (w : World) : (Instr.index 94 (.agg (tab 26 V)) (.int .i64 (k : Int))).run Try.prog w = .ok (V k) w := by
  have hs : (sizeOf 29).run Try.prog w = .ok 1 w := by
    have h1 : (Try.prog.info? 29).map (·.size) = some 1 := by kernel_rfl
    obtain ⟨i, hi, hz⟩ := Option.map_eq_some_iff.1 h1
    simp [sizeOf, typeInfo, hi, hz]
  have hg : (tab 26 V)[k]? = some (V k) := tab_get _ hk
  have hp : (part 29 (tab 26 V) k).run Try.prog w = .ok (V k) w := by
    unfold part isAgg
    simp [Sem.run_bind, run_underlying Try.underlying29, hg]
  generalize tab 26 V = cs at *
  simp [Instr.index, asIntOf, Sem.run_bind, run_underlying Try.underlying94, hs, hk, hp]
end Go.Proofs.Ythfjkhmedpilnaa

/-
  What chart.Every does behind the last receive: the lists of the letters, one behind the other.
-/
namespace Go.Proofs.Ythfjkhmedpilnaa
open Go.RowKit PK Vg
set_option maxRecDepth 100000 in
set_option maxHeartbeats 4000000 in
theorem ev_rest (v0 v1 v2 v3 v4 v5 v6 v7 v8 v10 v11 v12 v13 v14 v15 v16 v17 v18 v19 v20 v21 v22 v23 v24 v25 v26 v27 v28 v29 v30 v31 v32 v33 v34 v35 v36 v37 v38 v39 v40 v41 v42 v43 v44 v45 v46 v47 v48 v49 v50 v51 v52 : Value) (bF : Nat) (V : Nat → Value) (T' : TypeId) (fr : Nat × Nat) (L : Nat → List Nat) (m : Nat) (hL : ∀ k, (L k).length ≤ 676) (w : World) (hF : w.heap[bF]? = some (.cells (tab 26 V) T' fr)) (hV : ∀ k, k < 26 → LsA w (V k) (L k) m) :
    Cs.eT5.wp Try.prog (bodyPost Try.prog Try.f19 (Cs.PostE fun v w' => ∃ u, v = .tuple #[u, .int .i64 0] ∧ LsN w' w.heap.size u (cats L 26) m ∧ Below w.heap.size w w')) ⟨#[v0, v1, v2, v3, v4, v5, v6, v7, v8, .pointer (some ⟨bF, 0, none⟩), v10, v11, v12, v13, v14, v15, v16, v17, v18, v19, v20, v21, v22, v23, v24, v25, v26, v27, v28, v29, v30, v31, v32, v33, v34, v35, v36, v37, v38, v39, v40, v41, v42, v43, v44, v45, v46, v47, v48, v49, v50, v51, v52], []⟩ w := by
  obtain ⟨i0, hi0, hz0, hz1, hz2⟩ := f_info_parts f_info_ints
  have hCL := cats_len hL
  have hbF : bF < w.heap.size := (Array.getElem?_eq_some_iff.1 hF).1
  have HV := (show Hid (∀ k, k < 26 → LsA w (V k) (L k) m) from hV)
  clear hV hL
  simp only [Cs.eT5, Cs.eT4, Cs.eT3, Cs.eT2, Cs.eT1, Cs.eBody, Try.f19, Option.getD_some]
  go_wp2_with (first | refine wpList_load_row rfl 94 _ rfl bF rfl T' (tab 26 V) fr _ hF Try.underlying94 rfl (by rw [tab_size]; exact f_size_26) ?_)
  clear hF
  go_loopw [13, 45] (fun o x W => ∃ (i : Nat) (u : Value), i ≤ 26 ∧ x = .int .i64 (i : Nat) ∧ u = o ∧ (∃ vs : List Value, W.ownsRow w.heap.size 23 1 u (cats L i).length vs ∧ ∀ (k : Nat) (u : Value) (N : Nat), vs[k]? = some u → (cats L i)[k]? = some N → NumsAt w u m fun i => ((dig m N i : Nat) : Int)) ∧ Below w.heap.size w W) (fun _ x _ => ((26 : Int) - intOf x).toNat)
  case atStart => exact ⟨0, .slice none 0 0, by omega, rfl, rfl, ⟨[], World.ownsRow_nil w _ _ 1, fun k u N h => by simp at h⟩, Below.refl _ _⟩
  case round =>
    obtain ⟨i, u, hi, rfl, rfl, ⟨vs, hown, hvs⟩, hbe⟩ := hrel
    by_cases hlt : i < 26
    · have HLT : Hid (i < 26) := hlt
      have hlt2 : (i : Int) < 26 := by omega
      have hix := fun W => run_index_26 V i hlt W
      have hci := hCL i
      have hci1 := hCL (i + 1)
      rw [show cats L (i + 1) = cats L i ++ L i from rfl, List.length_append] at hci1
      have hsz := hbe.size
      rcases HV.out i hlt with ⟨hv0, hL0⟩ | ⟨ab, ao, c, ws, hv0, hwl, hwc, hw1, hwN⟩
      · rw [hv0] at hix
        have HC : Hid (cats L (i + 1) = cats L i) := by show cats L i ++ L i = _; rw [hL0, List.append_nil]
        have HVS := (show Hid _ from hvs)
        have HB := (show Hid _ from hbe)
        clear hlt hv0 hL0 hvs hbe hCL hci hci1
        go_wp2_with (first | (at_builtin; refine wpList_append_own_none rfl _ _ 29 rfl w.heap.size 23 i0 1 Try.underlying29 hi0 u _ vs rfl hown rfl ?_))
        go_roundw
        case rel => exact ⟨i + 1, u, HLT.out, by go_num, by first | rfl | trivial, ⟨vs, by rw [HC.out]; exact hown, by rw [HC.out]; exact HVS.out⟩, HB.out⟩
        case measure => have := HLT.out; simp [intOf]; omega
      · rw [hv0] at hix
        have hnews : ∀ (j : Nat) x, ws[j]? = some x → wr.cell? ((⟨ab, ao, none⟩ : Addr).add j) = some x := fun j x hx => by
          have h1 := hwc j x hx
          rw [Addr.add_lit]
          exact (hbe.cell (cell_block h1)).trans h1
        have HVS := (show Hid _ from hvs)
        have HWN := (show Hid _ from hwN)
        have HWL := (show Hid _ from hwl)
        have HB := (show Hid _ from hbe)
        clear hlt hv0 hvs hbe hCL hwc hwN
        go_wp2_with (first | (at_builtin; refine wpList_append_own _ rfl _ _ 29 rfl w.heap.size 23 i0 (.slice none 0 0) 1 24 Try.underlying29 hi0 hz0 hz1 hz2 rfl (by decide) u _ vs rfl hown ⟨ab, ao, none⟩ _ c ws rfl (by rw [HWL.out, Nat.mul_one]) hnews hw1 (by unfold maxLen; omega) (by omega) hsz ?_; intro v' w1 hown' hgrow _))
        go_roundw
        case rel =>
          refine ⟨i + 1, v', HLT.out, by go_num, by first | rfl | trivial, ⟨vs ++ ws, ?_, fun k x N h1 h2 => ?_⟩, ?_⟩
          · rw [show cats L (i + 1) = cats L i ++ L i from rfl, List.length_append]
            exact hown'
          · rw [show cats L (i + 1) = cats L i ++ L i from rfl] at h2
            have hvl : vs.length = (cats L i).length := by have := hown.1; simpa using this
            by_cases hkk : k < vs.length
            · rw [List.getElem?_append_left hkk] at h1
              rw [List.getElem?_append_left (by omega)] at h2
              exact HVS.out k x N h1 h2
            · rw [List.getElem?_append_right (by omega)] at h1
              rw [List.getElem?_append_right (by omega), ← hvl] at h2
              exact HWN.out _ x N h1 h2
          · exact HB.out.grown hgrow hsz (fun p hp => (World.ownsRow.lt hown p hp).1)
        case measure => have := HLT.out; simp [intOf]; omega
    · obtain rfl : i = 26 := by omega
      have HVS := (show Hid _ from hvs)
      have HB := (show Hid _ from hbe)
      clear hlt hvs hbe hCL
      have hout : ∀ W', W' = wr → ∃ u', Value.tuple #[u, .int .i64 0] = .tuple #[u', .int .i64 0] ∧ LsN W' w.heap.size u' (cats L 26) m ∧ Below w.heap.size w W' := fun W' e => by
        subst e
        exact ⟨u, rfl, ⟨vs, hown, fun k x N h1 h2 => (HVS.out k x N h1 h2).below HB.out⟩, HB.out⟩
      have HO := (show Hid _ from hout)
      clear hout hown HVS HB
      go_wp2_with fail
      refine ⟨rfl, .tuple #[u, .int .i64 0], ?_, _, rfl, HO.out _ rfl⟩
      simp [results, Array.mapM_eq_mapM_toList, List.mapM_cons]
end Go.Proofs.Ythfjkhmedpilnaa

/-
  Contracts of the document's Same and SameLists (chapter 9), of lists that are the same.
-/
namespace Go.Proofs.Ythfjkhmedpilnaa
open Go.RowKit PK Vg

set_option maxRecDepth 100000 in
set_option maxHeartbeats 2000000 in
theorem same9_ok (u v : Value) (n : Nat) (f : Nat → Int) (w : World) (hu : NumsAt w u n f) (hv : NumsAt w v n f) : Calls Try.prog 12 #[u, v] w fun e w' => e = .returned (.bool true) ∧ Below w.heap.size w w' := by
  obtain ⟨a, ca, rfl, hm, hca⟩ := hu
  obtain ⟨b, cb, rfl, _, hcb⟩ := hv
  unfold maxLen at hm
  have HA := (show Hid (∀ c, c < n → ∃ b o, a = some ⟨b, o, none⟩ ∧ w.cell? ⟨b, o + c, none⟩ = some (.int .i64 (f c))) from hca)
  have HB := (show Hid (∀ c, c < n → ∃ b' o, b = some ⟨b', o, none⟩ ∧ w.cell? ⟨b', o + c, none⟩ = some (.int .i64 (f c))) from hcb)
  have hne : ((n : Int) != (n : Int)) = false := by simp
  clear hca hcb
  go_enter Try.func12, Try.ntmps12
  go_wp2_with fail
  clear hne
  go_loopw [13] (fun i W => ∃ k : Nat, k ≤ n ∧ i = .int .i64 (k : Nat) ∧ Below w.heap.size w W) (fun i _ => ((n : Int) - intOf i).toNat)
  case atStart => exact ⟨0, by omega, rfl, Below.refl _ _⟩
  case round =>
    obtain ⟨k, hk, rfl, hbe⟩ := hrel
    by_cases hlt : k < n
    · have HLT : Hid (k < n) := hlt
      have hlt2 : (k : Int) < (n : Int) := by omega
      obtain ⟨b1, o1, rfl, h1⟩ := HA.out k hlt
      obtain ⟨b2, o2, rfl, h2⟩ := HB.out k hlt
      have c1 := (hbe.cell (p := ⟨b1, o1 + k, none⟩) (cell_block h1)).trans h1
      have c2 := (hbe.cell (p := ⟨b2, o2 + k, none⟩) (cell_block h2)).trans h2
      have HBE := (show Hid _ from hbe)
      generalize f k = x at *
      have hxx : (x != x) = false := by simp
      clear hbe h1 h2 hlt HA HB
      go_upto_region 6 with fail
      go_quiet (fail)
      go_wp2
      go_roundw
      case rel => exact ⟨k + 1, HLT.out, by go_num, HBE.out.trans ⟨rfl, rfl, rfl, Nat.le_refl _, fun _ _ => rfl⟩⟩
      case measure => have := HLT.out; simp [intOf]; omega
    · obtain rfl : k = n := by omega
      have hnn : ¬ ((k : Nat) : Int) < ((k : Nat) : Int) := by omega
      go_wp2
      go_ret
      exact ⟨rfl, hbe⟩
/-- Lists behind a slice. -/
def ListsAt (W : World) (v : Value) (m : Nat) (V : Nat → Value) (n : Nat → Nat) (f : Nat → Nat → Int) : Prop := ∃ b o cap, v = .slice (some ⟨b, o, none⟩) m cap ∧ ∀ i, i < m → W.cell? ⟨b, o + i, none⟩ = some (V i) ∧ NumsAt W (V i) (n i) (f i)
theorem ListsAt.below {w W : World} {v : Value} {m : Nat} {V : Nat → Value} {n : Nat → Nat} {f : Nat → Nat → Int} (h : ListsAt w v m V n f) (hb : Below w.heap.size w W) : ListsAt W v m V n f := by
  obtain ⟨b, o, cap, e, h1⟩ := h
  exact ⟨b, o, cap, e, fun i hi => ⟨(hb.cell (p := ⟨b, o + i, none⟩) (cell_block (h1 i hi).1)).trans (h1 i hi).1, (h1 i hi).2.below hb⟩⟩
set_option maxRecDepth 100000 in
set_option maxHeartbeats 2000000 in
theorem samelists_ok (u v : Value) (m : Nat) (hm : m ≤ 1000000) (U V : Nat → Value) (n : Nat → Nat) (f : Nat → Nat → Int) (w : World) (hu : ListsAt w u m U n f) (hv : ListsAt w v m V n f) : Calls Try.prog 9 #[u, v] w fun e w' => e = .returned (.bool true) ∧ Below w.heap.size w w' := by
  obtain ⟨b1, o1, c1, rfl, hA⟩ := hu
  obtain ⟨b2, o2, c2, rfl, hB⟩ := hv
  have HA := (show Hid (∀ i, i < m → w.cell? ⟨b1, o1 + i, none⟩ = some (U i) ∧ NumsAt w (U i) (n i) (f i)) from hA)
  have HB := (show Hid (∀ i, i < m → w.cell? ⟨b2, o2 + i, none⟩ = some (V i) ∧ NumsAt w (V i) (n i) (f i)) from hB)
  have hne : ((m : Int) != (m : Int)) = false := by simp
  clear hA hB
  go_enter Try.func9, Try.ntmps9
  go_wp2_with fail
  clear hne
  go_loopw [13] (fun i W => ∃ k : Nat, k ≤ m ∧ i = .int .i64 (k : Nat) ∧ Below w.heap.size w W) (fun i _ => ((m : Int) - intOf i).toNat)
  case atStart => exact ⟨0, by omega, rfl, Below.refl _ _⟩
  case round =>
    obtain ⟨k, hk, rfl, hbe⟩ := hrel
    by_cases hlt : k < m
    · have HLT : Hid (k < m) := hlt
      have hlt2 : (k : Int) < (m : Int) := by omega
      obtain ⟨e1, n1⟩ := HA.out k hlt
      obtain ⟨e2, n2⟩ := HB.out k hlt
      have n1' := n1
      have n2' := n2
      obtain ⟨x1, y1, hx1, _⟩ := n1'
      obtain ⟨x2, y2, hx2, _⟩ := n2'
      rw [hx1] at e1 n1
      rw [hx2] at e2 n2
      have E1 := (show Hid _ from e1)
      have E2 := (show Hid _ from e2)
      have N1 := (show Hid (NumsAt w (.slice x1 (n k) y1) (n k) (f k)) from n1)
      have N2 := (show Hid (NumsAt w (.slice x2 (n k) y2) (n k) (f k)) from n2)
      clear e1 e2 n1 n2 hx1 hx2 hlt
      go_upto_region 6 with fail
      have hSd : Below w.heap.size w wr.drew := hbe.drew
      clear hbe
      refine wp_region_noPanic ?_
      refine wp_region_held_drew (S := fun W => Below w.heap.size w W) (by kernel_rfl) hSd (fun hS => ?_)
      clear hSd
      obtain ⟨Z, hZ⟩ : ∃ x, x = wr.drew := ⟨_, rfl⟩
      rw [← hZ] at hS ⊢
      clear hZ
      refine vtake 0 16 (.slice (some ⟨b1, o1, none⟩) m c1) rfl rfl (by kernel_rfl) (by kernel_rfl) (by kernel_rfl) (fun _ _ _ _ h => h) (by rfl) (fun W hW => by clear hS hW; go_simp) hS ?_
      simp only [List.setIfInBounds_toArray, List.set_cons_succ, List.set_cons_zero]
      refine vtake 1 17 (.int .i64 (k : Nat)) rfl rfl (by kernel_rfl) (by kernel_rfl) (by kernel_rfl) (fun _ _ _ _ h => h) (by rfl) (fun W hW => by clear hS hW; go_simp) hS ?_
      simp only [List.setIfInBounds_toArray, List.set_cons_succ, List.set_cons_zero]
      refine vtake 2 18 (.pointer (some ⟨b1, o1 + k, none⟩)) rfl rfl (by kernel_rfl) (by kernel_rfl) (by kernel_rfl) (fun _ _ _ _ h => h) (by rfl) (fun W hW => by clear hS hW; go_simp) hS ?_
      simp only [List.setIfInBounds_toArray, List.set_cons_succ, List.set_cons_zero]
      refine vtake 3 19 (.slice x1 (n k) y1) rfl rfl (by kernel_rfl) (by kernel_rfl) (by kernel_rfl) (fun _ _ _ _ h => h) (by rfl) (fun W hW => by have u := (hW.cell (p := ⟨b1, o1 + k, none⟩) (cell_block E1.out)).trans E1.out; clear hS hW; go_simp) hS ?_
      simp only [List.setIfInBounds_toArray, List.set_cons_succ, List.set_cons_zero]
      refine vtake 4 20 (.slice (some ⟨b2, o2, none⟩) m c2) rfl rfl (by kernel_rfl) (by kernel_rfl) (by kernel_rfl) (fun _ _ _ _ h => h) (by rfl) (fun W hW => by clear hS hW; go_simp) hS ?_
      simp only [List.setIfInBounds_toArray, List.set_cons_succ, List.set_cons_zero]
      refine vtake 5 21 (.int .i64 (k : Nat)) rfl rfl (by kernel_rfl) (by kernel_rfl) (by kernel_rfl) (fun _ _ _ _ h => h) (by rfl) (fun W hW => by clear hS hW; go_simp) hS ?_
      simp only [List.setIfInBounds_toArray, List.set_cons_succ, List.set_cons_zero]
      refine vtake 6 22 (.pointer (some ⟨b2, o2 + k, none⟩)) rfl rfl (by kernel_rfl) (by kernel_rfl) (by kernel_rfl) (fun _ _ _ _ h => h) (by rfl) (fun W hW => by clear hS hW; go_simp) hS ?_
      simp only [List.setIfInBounds_toArray, List.set_cons_succ, List.set_cons_zero]
      refine vtake 7 23 (.slice x2 (n k) y2) rfl rfl (by kernel_rfl) (by kernel_rfl) (by kernel_rfl) (fun _ _ _ _ h => h) (by rfl) (fun W hW => by have u := (hW.cell (p := ⟨b2, o2 + k, none⟩) (cell_block E2.out)).trans E2.out; clear hS hW; go_simp) hS ?_
      simp only [List.setIfInBounds_toArray, List.set_cons_succ, List.set_cons_zero]
      refine wpAnyH_ready (rs := [8]) (by kernel_rfl) (by simp) ?_
      refine AllReadyH.cons (o := _) rfl (fun K hK => ?_) AllReadyH.nil
      rw [if_pos (by rfl)]
      go_simp
      refine Calls.mono (same9_ok _ _ (n k) (f k) _ (N1.out.below hS) (N2.out.below hS)) ?_
      rintro e Y ⟨rfl, hb8⟩
      refine hK.out _ _ (hS.trans (hb8.mono hS.size)) (fun hS1 => ?_)
      clear hK hS K
      have hS := hS1
      clear hS1
      refine vtake 9 25 (.bool false) rfl rfl (by kernel_rfl) (by kernel_rfl) (by kernel_rfl) (fun _ _ _ _ h => h) (by rfl) (fun W hW => by clear hS hW; go_simp) hS ?_
      simp only [List.setIfInBounds_toArray, List.set_cons_succ, List.set_cons_zero]
      refine wpAnyH_done (by kernel_rfl) ?_ _
      refine NoPanic.normal ?_
      have HS := (show Hid _ from hS)
      clear hS
      go_wp2_with fail
      go_roundw
      case rel => first | exact ⟨k + 1, HLT.out, by go_num, HS.out⟩ | (refine ⟨_, _, _, _, _, _, _, _, _, _, _, _, _, ⟨k + 1, HLT.out, by go_num, HS.out⟩, rfl⟩) | (refine ⟨_, _, _, _, _, _, _, _, _, _, _, _, _, _, ⟨k + 1, HLT.out, by go_num, HS.out⟩, rfl⟩)
      case measure => have := HLT.out; simp [intOf]; omega
    · obtain rfl : k = m := by omega
      have hnn : ¬ ((k : Nat) : Int) < ((k : Nat) : Int) := by omega
      go_wp2
      go_ret
      exact ⟨rfl, hbe⟩
end Go.Proofs.Ythfjkhmedpilnaa
