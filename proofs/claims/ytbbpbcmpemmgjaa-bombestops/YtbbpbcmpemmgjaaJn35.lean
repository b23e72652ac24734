/-
  Several texts, joined: FdK, FdM, FdN, FdO, FdP, FdQ, FdR, FdS, BoTe, BRSc, BRMo, BRMu, BRCl, BGEq, LBAl, LBSo, BRGu, FgE, FgJ, FeA, FeB, FeC.
-/
import Derived.Test.YtbbpbcmpemmgjaaJn25
import Derived.Conc.CompanyDraw
import Derived.Test.YtbbpbcmpemmgjaaJn15
import Derived.Test.YtbbpbcmpemmgjaaJn32
import Derived.Test.YtbbpbcmpemmgjaaJn31
import Derived.Test.YtbbpbcmpemmgjaaBoFo
import Derived.Test.YtbbpbcmpemmgjaaJn24
import Derived.Test.YtbbpbcmpemmgjaaJn20
import Derived.Test.YtbbpbcmpemmgjaaJn27
import Derived.Test.YtbbpbcmpemmgjaaJn29
import Derived.Test.YtbbpbcmpemmgjaaJn21
import Derived.Test.YtbbpbcmpemmgjaaJn22
import Derived.Test.YtbbpbcmpemmgjaaJn30
import Derived.Deep.DeepCutAuto
import Derived.Test.YtbbpbcmpemmgjaaJn28
import Derived.Test.YtbbpbcmpemmgjaaFgC
import Derived.Test.YtbbpbcmpemmgjaaJn34
/-
  The walk ahead of the pool: the law to the call of Find.
-/
namespace Go.Proofs.Ytbbpbcmpemmgjaa
open Go.RowKit PK Vg Go.Conc Cs
end Go.Proofs.Ytbbpbcmpemmgjaa

/-
  The walk ahead of the pool: Find to the call of Every.
-/
namespace Go.Proofs.Ytbbpbcmpemmgjaa
open Go.RowKit PK Vg Go.Conc Cs
end Go.Proofs.Ytbbpbcmpemmgjaa

/-
  The walk ahead of the pool: Every to the call of searchWrong.
-/
namespace Go.Proofs.Ytbbpbcmpemmgjaa
open Go.RowKit PK Vg Go.Conc Cs
end Go.Proofs.Ytbbpbcmpemmgjaa

/-
  The walk ahead of the pool: Every behind searchWrong, to where it makes its channels.
-/
namespace Go.Proofs.Ytbbpbcmpemmgjaa
open Go.RowKit PK Vg Go.Conc Cs
end Go.Proofs.Ytbbpbcmpemmgjaa

/-
  The walk ahead of the pool: Every's channels and their variables, made in any order; on to the first 'go'.
-/
namespace Go.Proofs.Ytbbpbcmpemmgjaa
open Go.RowKit PK Vg Go.Conc Cs
section
variable {H : Array Obj} {o : Os} {out : Array (Nat × ByteArray)} {W : World}
theorem heap_lt {b : Nat} {x : Obj} (h : W.heap[b]? = some x) : b < W.heap.size := (Array.getElem?_eq_some_iff.1 h).1
end
section
variable {n bM bL Fd : Nat} {p q r s v0 v2 v4 v6 v7 v8 v12 v13 v14 v15 v16 v17 v18 v19 v20 v21 v22 v23 v26 v27 v28 v29 v30 v31 v32 v33 v34 v35 v36 v37 v38 v39 v40 v41 v42 v43 v44 v45 v46 v47 v48 v49 v50 v51 v52 : Value} {W : World} {K : Act → World → Prop}
end
section
variable {H : Array Obj} {o : Os} {out : Array (Nat × ByteArray)} {n bM bL Fd : Nat} {p q r s v0 v2 v4 v6 v7 v8 v12 v13 v14 v15 v16 v17 v18 v19 v20 v21 v22 v23 v26 v27 v28 v29 v30 v31 v32 v33 v34 v35 v36 v37 v38 v39 v40 v41 v42 v43 v44 v45 v46 v47 v48 v49 v50 v51 v52 : Value} {W : World}
end
end Go.Proofs.Ytbbpbcmpemmgjaa

/-
  The walk ahead of the pool: the channels, and on to the first 'go'.
-/
namespace Go.Proofs.Ytbbpbcmpemmgjaa
open Go.RowKit PK Vg Go.Conc Cs
end Go.Proofs.Ytbbpbcmpemmgjaa

/-
  The run of ChartFinds, where nothing is wrong with what is searched: from its start to its end.
-/
namespace Go.Proofs.Ytbbpbcmpemmgjaa
open Go.RowKit PK Vg Go.Conc Cs
theorem ev_load {w : World} {a : Addr} {u : Value} {es : Array Event} (hu : w.cell? a = some u) : ∀ ev ∈ (load a).events Try.prog w es, ev ∈ es ∨ ev = ⟨.cell a, false, false⟩ := fun ev h => by
  have h1 : ev ∈ es ∨ ev = ⟨.cell a, false, Mode.plain == Mode.atomic⟩ := by simpa [go_sem, hu] using h
  exact h1
theorem ev_cells (a : Addr) : ∀ (n i : Nat) (acc : Array Value) (w : World) (es : Array Event), (∀ j, j < n → (w.cell? (a.add (i + j))).isSome) → ∀ ev ∈ (loadCellsFrom a i n acc).events Try.prog w es, ev ∈ es ∨ ∃ ad : Addr, ev = ⟨.cell ad, false, false⟩ ∧ ad.block = a.block
  | 0, _, _, _, _, _ => fun ev h => .inl (by simpa [loadCellsFrom] using h)
  | n + 1, i, acc, w, es, hc => fun ev h => by
    simp only [loadCellsFrom, Sem.events_bind] at h
    obtain ⟨u, hu⟩ := Option.isSome_iff_exists.1 (hc 0 (by omega))
    simp only [Nat.add_zero] at hu
    have hr : (load (a.add i)).run Try.prog w = .ok u w := by simp [hu]
    rw [hr] at h
    rcases ev_cells a n (i + 1) (acc.push u) w _ (fun j hj => by have := hc (j + 1) (by omega); rwa [show i + (j + 1) = i + 1 + j by omega] at this) ev h with h | h
    · rcases ev_load hu ev h with h | h
      · exact .inl h
      · exact .inr ⟨_, h, by unfold Addr.add; split <;> rfl⟩
    · exact .inr h
theorem ev_rowX {W : World} {b : Nat} {T : TypeId} {A : Array Value} {TB : TypeId} {fr : Nat × Nat} {d : TypeDesc} (hW : W.heap[b]? = some (.cells A TB fr)) (hu : Try.prog.underlying T = some d) (hd : d.isRow = true) (hi : (Try.prog.info? T).map (·.size) = some A.size) :
    ∀ e ∈ (Instr.loadAt T (.pointer (some ⟨b, 0, none⟩))).events Try.prog W #[], ∃ a : Addr, e = ⟨.cell a, false, false⟩ ∧ a.block = b := fun e he => by
  obtain ⟨i, hi1, hi2⟩ := Option.map_eq_some_iff.1 hi
  have hc := ev_cells ⟨b, 0, none⟩ A.size 0 #[] W #[] (fun j hj => by
    rw [Addr.add_lit, cell_of_row _ _ _ _ _ _ hW]
    simp [hj])
  cases d with
  | struct fs =>
    simp [Instr.loadAt, Instr.sureAddr, loadVar, isAgg, go_sem, underlying, sizeOf, typeInfo, loadCells, hu, hi1, hi2] at he
    rcases hc e he with h | h
    · simp at h
    · exact h
  | array n el =>
    simp [Instr.loadAt, Instr.sureAddr, loadVar, isAgg, go_sem, underlying, sizeOf, typeInfo, loadCells, hu, hi1, hi2] at he
    rcases hc e he with h | h
    · simp at h
    · exact h
  | _ => cases hd
/-- What is said of the world behind the run. -/
def Kept (W W' : World) : Prop := (∀ b, b < W.heap.size → W'.heap[b]? = W.heap[b]?) ∧ W'.os = W.os ∧ W'.output = W.output
end Go.Proofs.Ytbbpbcmpemmgjaa

/-
  The run of ChartFinds, where nothing is wrong with what is searched: from its first 'go' to its end.
-/
namespace Go.Proofs.Ytbbpbcmpemmgjaa
open Go.RowKit PK Vg Go.Conc Cs
section
variable {A B : Array Value} {n : Nat} {W w4 w8 : World} {h1 h2 Fd C1 C2 bF bD : Nat}
theorem one_cell {w : World} {q : Nat} {x : Value} {T : TypeId} (hq : w.heap[q]? = some (.cells #[x] T (0, 0))) : w.cell? ⟨q, 0, none⟩ = some x := by rw [cell_of_row _ _ _ _ _ _ hq]; rfl
end
end Go.Proofs.Ytbbpbcmpemmgjaa

/-
  Contract of bombe.Test.
-/
namespace Go.Proofs.Ytbbpbcmpemmgjaa
open Go.RowKit PK Vg

end Go.Proofs.Ytbbpbcmpemmgjaa

/-
  Contract of the document's Scramblers (chapter 10).
-/
namespace Go.Proofs.Ytbbpbcmpemmgjaa
open Go.RowKit PK Vg

end Go.Proofs.Ytbbpbcmpemmgjaa

/-
  Contract of the document's Most (chapter 10).
-/
namespace Go.Proofs.Ytbbpbcmpemmgjaa
open Go.RowKit PK Vg

/-- How often a letter stands at the first n places. -/
def cl (l : List UInt8) (c : Nat) : Nat → Nat
  | 0 => 0
  | n + 1 => cl l c n + if num (l.getD n 0) = c then 1 else 0
end Go.Proofs.Ytbbpbcmpemmgjaa

/-
  Contract of the closure of the document's Closed (chapter 10).
-/
namespace Go.Proofs.Ytbbpbcmpemmgjaa
open Go.RowKit PK Vg

section
variable {w W W' : World} {p : Nat → Int} {good again : Bool}
end
/-- What one step does. -/
structure MR (p : Nat → Int) (good again : Bool) (x y : Nat) (p' : Nat → Int) (good' again' : Bool) : Prop where
  ext : Bo.Ext p p'
  keep : again' = false → p' = p ∧ again = false
  fits : again' = false → good' = true → good = true ∧ p x = (y : Nat)
end Go.Proofs.Ytbbpbcmpemmgjaa

/-
  Contract of the document's Closed (chapter 10).
-/
namespace Go.Proofs.Ytbbpbcmpemmgjaa
open Go.RowKit PK Vg

def Keys (m : Bo.Mn) (p : Nat → Int) (k : Nat) : Prop := ∀ i y : Nat, i < k → (p (m.x i) = (y : Int) → p (m.y i) = (m.s i y : Nat)) ∧ (p (m.y i) = (y : Int) → p (m.x i) = (m.s i y : Nat))
end Go.Proofs.Ytbbpbcmpemmgjaa

/-
  '==' between a guess and itself.
-/
namespace Go.Proofs.Ytbbpbcmpemmgjaa
open Go.RowKit PK Vg

theorem guess_held : (Try.prog).stoodInHeld 53 = false := by kernel_rfl
theorem eqg_gen (a b : Nat) (p : Nat → Int) (w : World) (d : Nat) : (Op.equalIn (d + 3) 53 (.agg (ints 28 (gsF a b p))) (.agg (ints 28 (gsF a b p)))).run Try.prog w = .ok true w := by
  have hs : (sizeOf 25).run Try.prog w = .ok 26 w := by
    obtain ⟨i, hi, hz⟩ := Option.map_eq_some_iff.1 info_perm
    simp [sizeOf, typeInfo, hi, hz]
  have e0 : ∀ z : Int, (Op.equalIn (d + 2) 3 (.int .i64 z) (.int .i64 z)).run Try.prog w = .ok true w := fun z => by
    rw [Op.equalIn]
    simp [Sem.run_bind, run_underlying Try.underlying3]
  have e2 : (Op.equalIn (d + 2) 25 (.agg (ints 26 p)) (.agg (ints 26 p))).run Try.prog w = .ok true w := by
    have := run_equalIn_ints (P := Try.prog) w d 25 3 26 Try.underlying25 Try.underlying3 info_int p p
    rw [eqI_refl] at this
    exact this
  have c0 : (ints 28 (gsF a b p))[0]? = some (.int .i64 (a : Nat)) := ints_get (gsF a b p) (by decide)
  have c1 : (ints 28 (gsF a b p))[1]? = some (.int .i64 (b : Nat)) := ints_get (gsF a b p) (by decide)
  have c2' : ((ints 28 (gsF a b p)).extract 2 28) = ints 26 p := by
    apply Array.ext_getElem?
    intro j
    by_cases hj : j < 26
    · rw [ints_get _ hj, Array.getElem?_extract, if_pos (by rw [ints_size]; omega), ints_get _ (by omega)]
      unfold gsF
      rw [if_neg (by omega), if_neg (by omega), show 2 + j - 2 = j by omega]
    · rw [Array.getElem?_eq_none (by simp [ints_size]; omega), Array.getElem?_eq_none (by simp [ints_size]; omega)]
  have hh := guess_held
  generalize ints 28 (gsF a b p) = cs at *
  generalize ints 26 p = c2 at *
  have hS : Try.prog.underlying 53 = some (.struct (Try.prog.fieldsOf 53)) := by kernel_rfl
  rw [run_equalIn_struct w (d + 2) 53 _ _ hS hh]
  simp only [Program.fieldsOf, Try.underlying53]
  clear hS hh
  go_simp
theorem run_eq_guess (a b : Nat) (p : Nat → Int) (w : World) : (Op.equalIn 10000 53 (.agg (ints 28 (gsF a b p))) (.agg (ints 28 (gsF a b p)))).run Try.prog w = .ok true w := eqg_gen a b p w 9997
end Go.Proofs.Ytbbpbcmpemmgjaa

/-
  Contract of law10.alive.
-/
namespace Go.Proofs.Ytbbpbcmpemmgjaa
open Go.RowKit PK Vg

theorem al_E : plE [65, 66, 67] [66] = 0 := by rfl
theorem al_L : plL [65, 66, 67] [66] = [0, 2] := by rfl
set_option maxRecDepth 100000 in
set_option maxHeartbeats 1000000 in
theorem alive10_any (w : World) : Calls Try.prog 16 #[] w fun e w' => e = .returned (.bool true) ∧ Below w.heap.size w w' := by
  have HP := (show Hid (∀ W, Calls Try.prog 39 #[.string ⟨#[65, 66, 67]⟩, .string ⟨#[66]⟩] W fun e w' => ∃ a c A, e = .returned (.tuple #[.slice a 2 c, .agg #[.int .i64 0, .int .i64 A]]) ∧ Below W.heap.size W w') from fun W => by
    refine (places_any ⟨#[65, 66, 67]⟩ ⟨#[66]⟩ W).mono ?_
    rintro e w' ⟨v, h1, h2, h3⟩
    have e1 : (⟨#[65, 66, 67]⟩ : ByteArray).data.toList = [65, 66, 67] := rfl
    have e2 : (⟨#[66]⟩ : ByteArray).data.toList = [66] := rfl
    rw [e1, e2, al_E] at h1
    rw [e1, e2, al_L] at h2
    obtain ⟨a, c, hv⟩ := own_slice' h2
    exact ⟨a, c, _, by rw [h1, hv]; rfl, h3⟩)
  go_enter Try.func16, Try.ntmps16
  go_wp2_with fail
  refine (HP.out _).mono ?_
  rintro e W1 ⟨a, c, A, rfl, hb⟩
  have HB := (show Hid _ from hb.alloc hb.size (.cells #[.int .i64 0, .int .i64 A] 46))
  have c0 := (RowAt.new W1 46 #[.int .i64 0, .int .i64 A]).cell (i := 0) rfl
  clear hb HP
  go_wp2
  go_ret
  exact ⟨rfl, HB.out⟩
end Go.Proofs.Ytbbpbcmpemmgjaa

/-
  BombeSound, over the contracts of Test and of the document's Scramblers.
-/
namespace Go.Proofs.Ytbbpbcmpemmgjaa
open Go.RowKit PK Vg

theorem tst_exists {g : Gm} {cr te : ByteArray} (h : bwE g cr.data.toList te.data.toList = 0) : ∃ A ok pr, Tst g cr te A ok pr := by
  obtain ⟨hm, _⟩ := mnu_ok h
  have hA := Bo.most_26 (fun c => (Bo.ml (mnu g cr te) c (mnu g cr te).k).length)
  have h1 : ∀ b : Nat, ∃ q : Bool × (Nat → Int), b < 26 → Bo.Res (mnu g cr te) (Bo.most (fun c => (Bo.ml (mnu g cr te) c (mnu g cr te).k).length) 26) b q.1 q.2 := fun b => by
    by_cases hb : b < 26
    · obtain ⟨o, p, hp⟩ := Bo.res_exists hm hA hb
      exact ⟨(o, p), fun _ => hp⟩
    · exact ⟨(false, fun _ => 0), fun h => absurd h hb⟩
  obtain ⟨q, hq⟩ := Classical.skolem.1 h1
  exact ⟨_, fun b => (q b).1, fun b => (q b).2, h, rfl, hq⟩
end Go.Proofs.Ytbbpbcmpemmgjaa

/-
  Contracts of the document's Guesses, Test and Same (chapter 10).
-/
namespace Go.Proofs.Ytbbpbcmpemmgjaa
open Go.RowKit PK Vg

set_option maxRecDepth 100000 in
set_option maxHeartbeats 4000000 in
theorem bsame_ok (u v : Value) (A : Nat) (pr : Nat → Nat → Int) (L : List Nat) (hL : L.length ≤ 1000) (w : World) (hu : GsAt w u (fun b => gsF A b (pr b)) L) (hv : GsAt w v (fun b => gsF A b (pr b)) L) : Calls Try.prog 38 #[u, v] w fun e w' => e = .returned (.bool true) ∧ Below w.heap.size w w' := by
  obtain ⟨a1, c1, rfl, h1⟩ := hu
  obtain ⟨a2, c2, rfl, h2⟩ := hv
  have H1 := (show Hid (∀ j, j < L.length → ∃ b, a1 = some ⟨b, 0, none⟩ ∧ w.rangeAt b (j * 28) (ints 28 (gsF A (L.getD j 0) (pr (L.getD j 0)))).toList) from h1)
  have H2 := (show Hid (∀ j, j < L.length → ∃ b, a2 = some ⟨b, 0, none⟩ ∧ w.rangeAt b (j * 28) (ints 28 (gsF A (L.getD j 0) (pr (L.getD j 0)))).toList) from h2)
  have hll : (((L.length : Nat) : Int) != ((L.length : Nat) : Int)) = false := by simp
  clear h1 h2
  go_enter Try.func38, Try.ntmps38
  go_wp2_with fail
  clear hll
  go_loopw [13] (fun i W => ∃ j : Nat, j ≤ L.length ∧ i = .int .i64 (j : Nat) ∧ Below w.heap.size w W) (fun i _ => ((L.length : Int) - intOf i).toNat)
  case atStart => exact ⟨0, by omega, rfl, Below.refl _ _⟩
  case round =>
    obtain ⟨j, hj, rfl, hbe⟩ := hrel
    have HBE := (show Hid _ from hbe)
    by_cases hlt : j < L.length
    · have HLT : Hid (j < L.length) := hlt
      have hlt2 : (j : Int) < (L.length : Int) := by omega
      obtain ⟨b1, rfl, r1⟩ := H1.out j hlt
      obtain ⟨b2, rfl, r2⟩ := H2.out j hlt
      obtain ⟨B, hB⟩ : ∃ B, B = L.getD j 0 := ⟨_, rfl⟩
      rw [← hB] at r1 r2
      obtain ⟨p, hp⟩ : ∃ p, p = pr B := ⟨_, rfl⟩
      rw [← hp] at r1 r2
      have hS0 : Below w.heap.size w wr.drew := hbe.drew
      have R1 := (show Hid (∀ W, Below w.heap.size w W → W.rangeAt b1 (j * 28) (ints 28 (gsF A B p)).toList) from fun W hb i v hv => (hb.cell (p := ⟨b1, j * 28 + i, none⟩) (cell_block (r1 i v hv))).trans (r1 i v hv))
      have R2 := (show Hid (∀ W, Below w.heap.size w W → W.rangeAt b2 (j * 28) (ints 28 (gsF A B p)).toList) from fun W hb i v hv => (hb.cell (p := ⟨b2, j * 28 + i, none⟩) (cell_block (r2 i v hv))).trans (r2 i v hv))
      clear hB hp r1 r2 hlt hbe
      go_upto_region 6 with fail
      refine wp_region_noPanic ?_
      refine wp_region_held_drew (S := fun W => Below w.heap.size w W) (by kernel_rfl) hS0 (fun hS => ?_)
      clear hS0
      obtain ⟨U, hU⟩ : ∃ x, x = wr.drew := ⟨_, rfl⟩
      rw [← hU] at hS ⊢
      clear hU
      refine vtake 0 16 (.slice (some ⟨b1, 0, none⟩) L.length c1) rfl rfl (by kernel_rfl) (by kernel_rfl) (by kernel_rfl) (fun _ _ _ _ h => h) (by rfl) (fun W hW => by clear hS hW; go_simp) hS ?_
      simp only [List.setIfInBounds_toArray, List.set_cons_succ, List.set_cons_zero]
      refine vtake 1 17 (.int .i64 (j : Nat)) rfl rfl (by kernel_rfl) (by kernel_rfl) (by kernel_rfl) (fun _ _ _ _ h => h) (by rfl) (fun W hW => by clear hS hW; go_simp) hS ?_
      simp only [List.setIfInBounds_toArray, List.set_cons_succ, List.set_cons_zero]
      refine vtake 2 18 (.pointer (some ⟨b1, j * 28, none⟩)) rfl rfl (by kernel_rfl) (by kernel_rfl) (by kernel_rfl) (fun _ _ _ _ h => h) (by rfl) (fun W hW => by clear hS hW; go_simp) hS ?_
      simp only [List.setIfInBounds_toArray, List.set_cons_succ, List.set_cons_zero]
      refine vtake 3 19 (.agg (ints 28 (gsF A B p))) rfl rfl (by kernel_rfl) (by kernel_rfl) (by kernel_rfl) (fun _ _ _ _ h => h) (by rfl) (fun W hW => by have u := run_loadAt_mid (P := Try.prog) W b1 (j * 28) 53 (ints 28 (gsF A B p)).toList _ (R1.out W hW) Try.underlying53 rfl (by rw [Array.length_toList, ints_size]; exact b_size_guess); clear hS hW; simp [execOp, Act.eval, u]) hS ?_
      simp only [List.setIfInBounds_toArray, List.set_cons_succ, List.set_cons_zero]
      refine vtake 4 20 (.slice (some ⟨b2, 0, none⟩) L.length c2) rfl rfl (by kernel_rfl) (by kernel_rfl) (by kernel_rfl) (fun _ _ _ _ h => h) (by rfl) (fun W hW => by clear hS hW; go_simp) hS ?_
      simp only [List.setIfInBounds_toArray, List.set_cons_succ, List.set_cons_zero]
      refine vtake 5 21 (.int .i64 (j : Nat)) rfl rfl (by kernel_rfl) (by kernel_rfl) (by kernel_rfl) (fun _ _ _ _ h => h) (by rfl) (fun W hW => by clear hS hW; go_simp) hS ?_
      simp only [List.setIfInBounds_toArray, List.set_cons_succ, List.set_cons_zero]
      refine vtake 6 22 (.pointer (some ⟨b2, j * 28, none⟩)) rfl rfl (by kernel_rfl) (by kernel_rfl) (by kernel_rfl) (fun _ _ _ _ h => h) (by rfl) (fun W hW => by clear hS hW; go_simp) hS ?_
      simp only [List.setIfInBounds_toArray, List.set_cons_succ, List.set_cons_zero]
      refine vtake 7 23 (.agg (ints 28 (gsF A B p))) rfl rfl (by kernel_rfl) (by kernel_rfl) (by kernel_rfl) (fun _ _ _ _ h => h) (by rfl) (fun W hW => by have u := run_loadAt_mid (P := Try.prog) W b2 (j * 28) 53 (ints 28 (gsF A B p)).toList _ (R2.out W hW) Try.underlying53 rfl (by rw [Array.length_toList, ints_size]; exact b_size_guess); clear hS hW; simp [execOp, Act.eval, u]) hS ?_
      simp only [List.setIfInBounds_toArray, List.set_cons_succ, List.set_cons_zero]
      refine vtake 8 24 (.bool false) rfl rfl (by kernel_rfl) (by kernel_rfl) (by kernel_rfl) (fun _ _ _ _ h => h) (by rfl) (fun W hW => by have u := run_eq_guess A B p; clear hS hW; go_simp) hS ?_
      simp only [List.setIfInBounds_toArray, List.set_cons_succ, List.set_cons_zero]
      refine wpAnyH_done (by kernel_rfl) ?_ _
      refine NoPanic.normal ?_
      have HX := (show Hid _ from hS)
      clear hS
      go_wp2_with fail
      go_roundw
      case rel => exact ⟨j + 1, HLT.out, by go_num, HX.out⟩
      case measure => have := HLT.out; simp [intOf]; omega
    · obtain rfl : j = L.length := by omega
      have hnn : ¬ ((L.length : Nat) : Int) < ((L.length : Nat) : Int) := by omega
      clear hlt hbe
      go_wp2
      go_ret
      exact ⟨rfl, HBE.out⟩
end Go.Proofs.Ytbbpbcmpemmgjaa

/-
  Contract of the document's Search (chapter 10).
-/
namespace Go.Proofs.Ytbbpbcmpemmgjaa
open Go.RowKit PK Vg

end Go.Proofs.Ytbbpbcmpemmgjaa

/-
  The jobs of bombe.Search, and its pool.
-/
namespace Go.Proofs.Ytbbpbcmpemmgjaa
open Go.RowKit PK Vg Go.Conc Cs
/-- What a search by a crib tells at each window. -/
structure BmS (g : Gm) (h : Hl) (cr te : ByteArray) : Prop where
  n : h.n = g.n
  t : ∀ N, ∃ A ok pr, Tst (gmN g N) cr te A ok pr ∧ h.gs N = (fun b => gsF A b (pr b)) ∧ h.lg N = okTo ok 26
theorem bwE_gmN {g : Gm} {cr te : ByteArray} (h : bwE g cr.data.toList te.data.toList = 0) (N : Nat) : bwE (gmN g N) cr.data.toList te.data.toList = 0 := by
  have h1 := gmN_ok (bwE_zero h).1 N
  have h0 := (bwE_zero h).1
  unfold bwE at h ⊢
  rw [h1]
  rw [h0] at h
  exact h
theorem bms_exists {g : Gm} {cr te : ByteArray} (h : bwE g cr.data.toList te.data.toList = 0) : ∃ hl, BmS g hl cr te := by
  have key : ∀ N, ∃ x : Nat × (Nat → Bool) × (Nat → Nat → Int), Tst (gmN g N) cr te x.1 x.2.1 x.2.2 := fun N => by
    obtain ⟨A, ok, pr, ht⟩ := tst_exists (bwE_gmN h N)
    exact ⟨(A, ok, pr), ht⟩
  exact ⟨⟨g.n, fun N b => gsF (key N).choose.1 b ((key N).choose.2.2 b), fun N => okTo (key N).choose.2.1 26⟩, rfl, fun N => ⟨_, _, _, (key N).choose_spec, rfl, rfl⟩⟩
theorem ml_gmN (g : Gm) (cr te : ByteArray) (N c : Nat) : ∀ k, Bo.ml (mnu (gmN g N) cr te) c k = Bo.ml (mnu g cr te) c k
  | 0 => rfl
  | k + 1 => by rw [Bo.ml, Bo.ml, ml_gmN g cr te N c k]; rfl
theorem swE_n {g : Gm} {h : Int} (hE : swE g h = 0) : 1 ≤ g.n ∧ g.n ≤ 3 ∧ gE g = 0 := by
  obtain ⟨hgE, hn3, _, _⟩ := swE_zero hE
  refine ⟨?_, hn3, hgE⟩
  refine Nat.lt_of_not_le fun hc => ?_
  unfold gE at hgE
  rw [if_pos (.inl (by omega))] at hgE
  cases hgE
section
variable {w w' : World} (hag : ∀ b, b < w.heap.size → w'.heap[b]? = w.heap[b]?)
include hag
theorem ints_ag {v : Value} {s n : Nat} {f : Nat → Int} (h : IntsC w v s n f) : IntsC w' v s n f := by
  obtain ⟨a, cap, h1, h3⟩ := h
  refine ⟨a, cap, h1, fun c hc => ?_⟩
  obtain ⟨b, o, e, k⟩ := h3 c hc
  exact ⟨b, o, e, cell_ag hag k⟩
theorem menu_ag {q s : Nat} {L : Nat → List (Nat × Nat)} (h : MnC w q s L) : MnC w' q s L := by
  obtain ⟨y, T, fr, h1, h2⟩ := h
  refine ⟨y, T, fr, row_ag hag h1, fun c hc => ?_⟩
  obtain ⟨v, e, k1, k2⟩ := h2 c hc
  exact ⟨v, e, ints_ag hag k1, rt_ag hag k2⟩
theorem halts_ag {v : Value} {L : List Nat} {h : Hl} (k : HsC w v L h) : HsC w' v L h := by
  obtain ⟨a, cap, h1, h2, h3, h4⟩ := k
  refine ⟨a, cap, h1, h2, rt_ag hag h3, fun j N hj => ?_⟩
  obtain ⟨b, o, us, ug, e, k1, k2, ⟨k3, k4⟩, k5, k6⟩ := h4 j N hj
  exact ⟨b, o, us, ug, e, cell_ag hag k1, cell_ag hag k2, ⟨nums_ag hag k3, rt_ag hag k4⟩, ints_ag hag k5, rt_ag hag k6⟩
end
set_option maxHeartbeats 2000000 in
theorem job_ghostH (k : Nat) (hk : k < 26) (bN bC q s : Nat) (a b c : Value) (g : Gm) (cr te : ByteArray) (h : Hl) (hB : BmS g h cr te) (hd : Int) (hE : swE g hd = 0) (hfit : ∀ r, r < g.n → g.nl r * 8 ≤ 140737488355328) (hrl : g.rl * 8 ≤ 140737488355328) (TN TC : TypeId) (fN fC : Nat × Nat) (w : World) (hN : w.heap[bN]? = some (.cells #[.pointer (some ⟨q, s, none⟩)] TN fN)) (hC : w.heap[bC]? = some (.cells #[.string cr] TC fC)) (hmn : MnC w q s (fun c => Bo.ml (mnu g cr te) c (mnu g cr te).k)) (ha : WhR w a g.n g.wi g.nl g.no) (hb : NumsAt w b g.rl g.ri) (hc : NumsAt w c g.sl g.st) (ra : Rt w a) (rb : Rt w b) (rc : Rt w c) :
    ∃ (E : Env) (wl : World) (x : Array Value), (∀ b q s o, E b = some (q, s, o) → o = false ∧ q < w.heap.size) ∧ LR E x #[.agg (mac a b c g.rf g.pl), .int .i64 (k : Nat), .func (.func 33) #[] #[.pointer (some ⟨bN, 0, none⟩), .pointer (some ⟨bC, 0, none⟩)]] ∧ WR Try.prog E wl w ∧ Fns.G ≤ wl.heap.size ∧ ∀ τ, Calls Try.prog 66 x (wl.tp τ) fun e w' => ∃ v, e = .returned v ∧ HsO w' wl.heap.size v (h.hits k (26 ^ (g.n - 1))) h := by
  obtain ⟨hn1, hn3, hgE⟩ := swE_n hE
  obtain ⟨E1, wl1, a', b', c', p1, q1, ra', rb', rc', hm1⟩ := cp_mac (Cp.nil (P := Try.prog) w) no_type ha hb hc ra rb rc
  obtain ⟨E2, wl2, d, p2, q2, rd, hd2⟩ := cp_menu p1 no_type hmn
  obtain ⟨E3, wl3, dN, p3, q3, rN, kN⟩ := cp_whole p2 no_type hN #[.pointer (some ⟨d, 0, none⟩)] (fun i u hu => by
    have hi : i = 0 := by have := (Array.getElem?_eq_some_iff.1 hu).1; simp at this; exact this
    subst hi
    cases hu
    exact ⟨_, rfl, rd⟩)
  obtain ⟨E4, wl4, dC, p4, q4, rC, kC⟩ := cp_whole p3 no_type hC #[.string cr] (fun i u hu => by
    have hi : i = 0 := by have := (Array.getElem?_eq_some_iff.1 hu).1; simp at this; exact this
    subst hi
    cases hu
    exact ⟨_, rfl, .string _⟩)
  have hm4 := mac_keep q4 (mac_keep q3 (mac_keep q2 hm1))
  have hlm : LR E4 (mac a' b' c' g.rf g.pl) (mac a b c g.rf g.pl) := lr_mac (((ra'.mono q2.le).mono q3.le).mono q4.le) (((rb'.mono q2.le).mono q3.le).mono q4.le) (((rc'.mono q2.le).mono q3.le).mono q4.le)
  have hcN : wl4.cell? ⟨dN, 0, none⟩ = some (.pointer (some ⟨d, 0, none⟩)) := q4.cell (by rw [cell_of_row _ _ _ _ _ _ kN]; rfl)
  have hcC : wl4.cell? ⟨dC, 0, none⟩ = some (.string cr) := by rw [cell_of_row _ _ _ _ _ _ kC]; rfl
  have hmn4 : MnAt wl4 d (fun c => Bo.ml (mnu g cr te) c (mnu g cr te).k) := by
    obtain ⟨vals, h1, h2⟩ := hd2
    refine ⟨vals, fun c hc => q4.cell (q3.cell (h1 c hc)), fun c hc => ?_⟩
    obtain ⟨x, y, e, k⟩ := h2 c hc
    refine ⟨x, y, e, fun c hc => ?_⟩
    obtain ⟨b, e1, e2, e3⟩ := k c hc
    exact ⟨b, e1, q4.cell (q3.cell e2), q4.cell (q3.cell e3)⟩
  have hfn : VR E4 (.func (.func 33) #[] #[.pointer (some ⟨dN, 0, none⟩), .pointer (some ⟨dC, 0, none⟩)]) (.func (.func 33) #[] #[.pointer (some ⟨bN, 0, none⟩), .pointer (some ⟨bC, 0, none⟩)]) := by
    have l1 : LR E4 #[.pointer (some ⟨dN, 0, none⟩), .pointer (some ⟨dC, 0, none⟩)] #[.pointer (some ⟨bN, 0, none⟩), .pointer (some ⟨bC, 0, none⟩)] := lr_cons (rN.mono q4.le) (lr_cons rC lr_nil)
    exact .func _ (by kernel_rfl) rfl (fun i u v hu => by simp at hu) l1.size l1.at_
  refine ⟨E4, wl4, #[.agg (mac a' b' c' g.rf g.pl), .int .i64 (k : Nat), .func (.func 33) #[] #[.pointer (some ⟨dN, 0, none⟩), .pointer (some ⟨dC, 0, none⟩)]], fun b q s o e => ⟨p4.sh _ _ _ _ e, (p4.wr.lt e).2⟩, lr_cons (.mkAgg hlm) (lr_cons (.int _ _) (lr_cons hfn lr_nil)), p4.wr, p4.big, fun τ => ?_⟩
  obtain ⟨hn, ht⟩ := hB
  obtain ⟨hh, gs, lg⟩ := h
  dsimp only at hn
  subst hn
  refine (pbehH _ g hn1 (by omega) hfit hrl k hk dN dC gs lg (wl4.tp τ) hm4 (fun N a2 b2 c2 W hb2 hm2 => ?_)).mono ?_
  · obtain ⟨A, ok, pr, htN, e1, e2⟩ := ht N
    dsimp only at e1 e2
    have hmW : MnAt W d (fun c => Bo.ml (mnu (gmN g N) cr te) c (mnu (gmN g N) cr te).k) := by
      have e3 : (fun c => Bo.ml (mnu (gmN g N) cr te) c (mnu (gmN g N) cr te).k) = (fun c => Bo.ml (mnu g cr te) c (mnu g cr te).k) := funext fun c => ml_gmN g cr te N c _
      rw [e3]
      exact MnAt.below (W := wl4.tp τ) hmn4 hb2
    have hcN' : (wl4.tp τ).cell? ⟨dN, 0, none⟩ = some (.pointer (some ⟨d, 0, none⟩)) := hcN
    have hcC' : (wl4.tp τ).cell? ⟨dC, 0, none⟩ = some (.string cr) := hcC
    refine (plookH a2 b2 c2 (gmN g N) cr te A ok pr htN (by show g.n * 8 ≤ _; omega) dN dC d W hm2 ((hb2.cell (cell_block hcN')).trans hcN') ((hb2.cell (cell_block hcC')).trans hcC') hmW).mono ?_
    rintro e w' ⟨us, ug, rfl, k1, ⟨B, k2⟩, k3⟩
    refine ⟨us, ug, ?_, ⟨k1, B, ?_⟩, k3⟩
    · show Ending.returned (.tuple #[.agg #[us, ug], .bool (decide (0 < (okTo ok 26).length))]) = .returned (.tuple #[.agg #[us, ug], .bool (decide (0 < (lg N).length))])
      rw [e2]
    · show OwnsG w' B ug (gs N) (lg N)
      rw [e1, e2]
      exact k2
  · rintro e w' ⟨v, rfl, h1, _⟩
    exact ⟨v, rfl, h1⟩
set_option maxRecDepth 100000 in
set_option maxHeartbeats 4000000 in
theorem pool_joinH (cst : Cst) (bF bM bL bD bN bC q s : Nat) (a b c : Value) (g : Gm) (cr te : ByteArray) (hl : Hl) (hBm : BmS g hl cr te) (h : Int) (hE : swE g h = 0) (hfit : ∀ r, r < g.n → g.nl r * 8 ≤ 140737488355328) (hrl : g.rl * 8 ≤ 140737488355328) (TN TC : TypeId) (fN fC : Nat × Nat) (wp : World)
    (hpre : ∀ w, cst.Ok w → ∀ b, b < wp.heap.size → w.heap[b]? = wp.heap[b]?) (hfix : ∀ q, q < wp.heap.size → cst.Fix q)
    (hN : wp.heap[bN]? = some (.cells #[.pointer (some ⟨q, s, none⟩)] TN fN)) (hC : wp.heap[bC]? = some (.cells #[.string cr] TC fC)) (hmn : MnC wp q s (fun c => Bo.ml (mnu g cr te) c (mnu g cr te).k)) (ha : WhR wp a g.n g.wi g.nl g.no) (hb : NumsAt wp b g.rl g.ri) (hc : NumsAt wp c g.sl g.st) (ra : Rt wp a) (rb : Rt wp b) (rc : Rt wp c)
    (wk : Hb.WkP cst bF bM bL bD (.agg (mac a b c g.rf g.pl)) (.func (.func 33) #[] #[.pointer (some ⟨bN, 0, none⟩), .pointer (some ⟨bC, 0, none⟩)])) (hn : 1 ≤ cst.n ∧ cst.n ≤ 1000) (hK : cst.K = 26) (hz : cst.z1 = .int .i64 0 ∧ cst.z2 = .bool false ∧ cst.zs1 = .tuple #[] ∧ cst.zs2 = .tuple #[]) (hB : cst.fB = 66) (har : cst.ar = fun k => #[.agg (mac a b c g.rf g.pl), .int .i64 (k : Nat), .func (.func 33) #[] #[.pointer (some ⟨bN, 0, none⟩), .pointer (some ⟨bC, 0, none⟩)]]) (s1 : 1 ≤ cst.S0) (d1 : cst.C1 < cst.N1 ∧ cst.C2 < cst.N1 ∧ cst.Fd < cst.N1 ∧ cst.C1 ≠ cst.C2 ∧ cst.C1 ≠ cst.Fd ∧ cst.C2 ≠ cst.Fd)
    (cs : List Frame) {gs : Array Goroutine} {t : Trace} {qq : Nat → Nat} {g0 : Goroutine} {w : World} (hS : cst.S0 = gs.size) (h0 : gs[0]? = some g0) (hq : Qt Try.prog gs t qq w.heap.size) {μ : Nat} (hw : Walk Try.prog cst true (Hb.eGoP cst bF bM bL bD cst.n cs 0) μ g0 w) (ok : cst.Ok w) (c1 : w.heap[cst.C1]? = some (.chan 0 #[] false 0 0 false)) (c2 : w.heap[cst.C2]? = some (.chan 0 #[] false 0 0 false)) (fd : ∀ j a ad, touchAt t j = some a → a.loc = .cell ad → ad.block ≠ cst.Fd) (sl : Option (Nat × Nat)) :
    ∃ N gs' w' sl' t' q' V, ∃ v0 v2 v4 v6 v7 v8 v12 v13 v14 v15 v16 v17 v18 v19 v20 v21 v22 v23 v24 v25 v26 v27 v28 v29 v30 v31 v32 v33 v34 v35 v36 v37 v38 v39 v40 v41 v42 v43 v44 v45 v46 v47 v48 v49 v50 v51 v52 : Value, runNT Try.prog N (crowd gs w sl) t = (.next (crowd gs' w' sl'), t') ∧ gs'[0]? = some (G (mkF 32 #[v0, .int .i64 (cst.n : Nat), v2, .pointer (some ⟨bM, 0, none⟩), v4, .pointer (some ⟨bL, 0, none⟩), v6, v7, v8, .pointer (some ⟨cst.Fd, 0, none⟩), .pointer (some ⟨bF, 0, none⟩), .pointer (some ⟨bD, 0, none⟩), v12, v13, v14, v15, v16, v17, v18, v19, v20, v21, v22, v23, v24, v25, v26, v27, v28, v29, v30, v31, v32, v33, v34, v35, v36, v37, v38, v39, v40, v41, v42, v43, v44, v45, v46, v47, v48, v49, v50, v51, v52] [.code Hb.eT5] .run) cs) ∧ w'.heap[cst.Fd]? = some (.cells (tab 26 V) cst.TF (0, 0)) ∧ (∀ k, k < 26 → HsC w' (V k) (hl.hits k (26 ^ (g.n - 1))) hl) ∧ cst.Ok w' ∧ Qt Try.prog gs' t' q' w'.heap.size := by
  have hG : Try.prog.globals.size ≤ Fns.G := Nat.le_refl _
  obtain ⟨hn1, hn3, hgE⟩ := swE_n hE
  have hln := hBm.n
  let S := Hb.everyScr (Post := fun k v wl => ∃ B, HsO wl B v (hl.hits k (26 ^ (g.n - 1))) hl) cst bF bM bL bD _ _ cs wk hn hK hz hB har s1 d1 (by rw [hB]; kernel_rfl) (fun k hk w hw => by
      obtain ⟨E, wl, x, k1, k2, k3, k4, k5⟩ := job_ghostH k (by omega) bN bC q s a b c g cr te hl hBm h hE hfit hrl TN TC fN fC wp hN hC hmn ha hb hc ra rb rc
      refine ⟨E, wl, x, fun b q s o e => ⟨(k1 b q s o e).1, hfix q (k1 b q s o e).2⟩, by rw [har]; exact k2, wr_move k3 fun b x e => ?_, k4, fun τ => ?_⟩
      · obtain ⟨q, s, o⟩ := x
        exact hpre w hw q (k1 b q s o e).2
      · rw [hB]
        refine (k5 τ).mono ?_
        rintro e w' ⟨v, rfl, hv⟩
        exact ⟨v, rfl, _, hv⟩) (fun k v wl E v' hp hr => by
      obtain ⟨B, hp⟩ := hp
      obtain ⟨vs, ⟨_, h2⟩, _⟩ := hp
      generalize (hl.hits k (26 ^ (g.n - 1))).length = nn at h2
      rcases h2 with ⟨rfl, _⟩ | ⟨_, _, _, rfl, _⟩ <;> cases hr <;> exact ⟨_, _, _, rfl⟩)
  obtain ⟨N1, gs1, w1, sl1, t1, q1, g1, r1, i1, jn, run1, Q1, ok1, RS, hRS, hres⟩ := pool_runs (S := S) hG fd_fnsCode hS h0 hq hw ok c1 c2 fd sl
  obtain ⟨v0, v2, v4, v6, v7, v8, v12, v13, v14, v15, v16, v17, v18, v19, v20, v21, v22, v23, v24, v25, v26, v27, v28, v29, v30, v31, v32, v33, v34, v35, v36, v37, v38, v39, v40, v41, v42, v43, v44, v45, v46, v47, v48, v49, v50, v51, v52, rfl⟩ := jn
  obtain ⟨cs, hcs, hcsz⟩ := ok1.fd
  rw [hK] at hcsz hres
  have hVk : ∀ k, ∃ v, k < 26 → cs[k]? = some v ∧ HsC w1 v (hl.hits k (26 ^ (g.n - 1))) hl := fun k => by
    by_cases hk : k < 26
    · obtain ⟨v, e1, E, vl, wl, ⟨B, p1⟩, p2, p3, _⟩ := hres k hk
      rw [cell_of_row _ _ _ _ _ _ hcs] at e1
      exact ⟨v, fun _ => ⟨e1, halts_back p3 (by rw [hln]; unfold maxLen; omega) p1 p2⟩⟩
    · exact ⟨.bool false, fun e => absurd e hk⟩
  have htab : cs = tab 26 fun k => (hVk k).choose := by
    apply Array.ext_getElem?
    intro i
    by_cases hi : i < 26
    · rw [tab_get _ hi]
      exact ((hVk i).choose_spec hi).1
    · rw [Array.getElem?_eq_none (by omega), Array.getElem?_eq_none (by rw [tab_size]; omega)]
  rw [htab] at hcs
  exact ⟨N1, gs1, w1, sl1, t1, q1, fun k => (hVk k).choose, v0, v2, v4, v6, v7, v8, v12, v13, v14, v15, v16, v17, v18, v19, v20, v21, v22, v23, v24, v25, v26, v27, v28, v29, v30, v31, v32, v33, v34, v35, v36, v37, v38, v39, v40, v41, v42, v43, v44, v45, v46, v47, v48, v49, v50, v51, v52, r1, i1, hcs, fun k hk => ((hVk k).choose_spec hk).2, ok1, Q1⟩
end Go.Proofs.Ytbbpbcmpemmgjaa

/-
  A call of chart.Find beside goroutines that only leave: to its first 'go'.
-/
namespace Go.Proofs.Ytbbpbcmpemmgjaa
open Go.RowKit PK Vg Go.Conc Cs
end Go.Proofs.Ytbbpbcmpemmgjaa

/-
  A call of chart.Find beside goroutines that only leave: from its first 'go' to behind the last receive.
-/
namespace Go.Proofs.Ytbbpbcmpemmgjaa
open Go.RowKit PK Vg Go.Conc Cs
end Go.Proofs.Ytbbpbcmpemmgjaa

/-
  A call of chart.Find beside goroutines that only leave: behind the last receive; the whole call.
-/
namespace Go.Proofs.Ytbbpbcmpemmgjaa
open Go.RowKit PK Vg Go.Conc Cs
section
variable {A B : Array Value} {n S0 : Nat} {W w4 w8 : World} {h2 Fd C1 C2 bF bD : Nat}
end
end Go.Proofs.Ytbbpbcmpemmgjaa
