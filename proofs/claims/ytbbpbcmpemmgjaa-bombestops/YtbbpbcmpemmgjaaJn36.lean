/-
  Several texts, joined: FgF, FgL, FdT, OOpen, YOpen, OOpS.
-/
import Derived.Test.YtbbpbcmpemmgjaaJn28
import Derived.Test.YtbbpbcmpemmgjaaJn24
import Derived.Test.YtbbpbcmpemmgjaaJn35
import Derived.Test.YtbbpbcmpemmgjaaFgK
import Derived.Test.YtbbpbcmpemmgjaaJn17
import Derived.Test.YtbbpbcmpemmgjaaChecked
import Derived.Deep.Matrix
import Derived.ProofKit
import Derived.OpenShut
import Derived.ShutString
import Derived.ChangeOld
import Derived.Carry
import Derived.ChangeSlices
import Derived.Test.YtbbpbcmpemmgjaaJn16
import Derived.Test.YtbbpbcmpemmgjaaRows
import Derived.SizedLaws
/-
  SameHalts of halts that are the same.
-/
namespace Go.Proofs.Ytbbpbcmpemmgjaa
open Go.RowKit PK Vg
theorem HsR.nth {W : World} {v : Value} {L : List Nat} {h : Hl} (k : HsR W v L h) (hL : 0 < L.length) : ∃ b o c, v = .slice (some ⟨b, o, none⟩) L.length c ∧ ∀ i, i < L.length → ∃ x y u z, W.cell? ⟨b, o + i * 2, none⟩ = some (.slice x h.n y) ∧ W.cell? ⟨b, o + i * 2 + 1, none⟩ = some (.slice u (h.lg (L.getD i 0)).length z) ∧ HltN W (.slice x h.n y) (.slice u (h.lg (L.getD i 0)).length z) h (L.getD i 0) := by
  obtain ⟨a, c, rfl, h2⟩ := k
  have hi : ∀ i, i < L.length → L[i]? = some (L.getD i 0) := fun i hi => by rw [List.getElem?_eq_getElem hi]; simp [List.getD, List.getElem?_eq_getElem hi]
  obtain ⟨b, o, _, _, rfl, _⟩ := h2 0 _ (hi 0 hL)
  refine ⟨b, o, c, rfl, fun i hil => ?_⟩
  obtain ⟨b', o', us, ug, e, e1, e2, e3⟩ := h2 i _ (hi i hil)
  cases e
  obtain ⟨x, y, hx, _⟩ := e3.1
  obtain ⟨u, z, hz, _⟩ := e3.2
  subst hx hz
  rw [Nat.mul_comm] at e1 e2
  exact ⟨x, y, u, z, e1, e2, e3⟩
set_option maxRecDepth 100000 in
set_option maxHeartbeats 2000000 in
theorem samehalts_none (a b : Option Addr) (c d : Nat) (w : World) : Calls Try.prog 15 #[.slice a 0 c, .slice b 0 d] w fun e w' => e = .returned (.bool true) ∧ Below w.heap.size w w' := by
  have hbe := Below.refl w.heap.size w
  go_enter Try.func15, Try.ntmps15
  go_wp2_with fail
  go_loopw [13] (fun x W => x = .int .i64 0 ∧ Below w.heap.size w W) (fun _ _ => 0)
  case atStart => exact ⟨rfl, hbe⟩
  case round =>
    clear hbe
    obtain ⟨rfl, hbe⟩ := hrel
    go_wp2
    go_ret
    exact ⟨rfl, hbe⟩
set_option maxRecDepth 100000 in
set_option maxHeartbeats 8000000 in
theorem samehalts_ok (u v : Value) (L : List Nat) (hm : L.length ≤ 1000000) (h : Hl) (w : World) (hu : HsR w u L h) (hv : HsR w v L h) (HSG : Hid (∀ N x y W, GsAt W x (h.gs N) (h.lg N) → GsAt W y (h.gs N) (h.lg N) → Calls Try.prog 38 #[x, y] W fun e w' => e = .returned (.bool true) ∧ Below W.heap.size W w')) : Calls Try.prog 15 #[u, v] w fun e w' => e = .returned (.bool true) ∧ Below w.heap.size w w' := by
  by_cases hL : 0 < L.length
  case neg =>
    obtain rfl : L = [] := List.eq_nil_of_length_eq_zero (by omega)
    obtain ⟨a, c, rfl, _⟩ := hu
    obtain ⟨b, d, rfl, _⟩ := hv
    exact samehalts_none _ _ _ _ w
  obtain ⟨b1, o1, c1, rfl, hA⟩ := hu.nth hL
  obtain ⟨b2, o2, c2, rfl, hB⟩ := hv.nth hL
  have HA := (show Hid _ from hA)
  have HB := (show Hid _ from hB)
  have hne : ((L.length : Int) != (L.length : Int)) = false := by simp
  clear hA hB hu hv hL
  go_enter Try.func15, Try.ntmps15
  go_wp2_with fail
  clear hne
  go_loopw [13] (fun i W => ∃ k : Nat, k ≤ L.length ∧ i = .int .i64 (k : Nat) ∧ Below w.heap.size w W) (fun i _ => ((L.length : Int) - intOf i).toNat)
  case atStart => exact ⟨0, by omega, rfl, Below.refl _ _⟩
  case round =>
    obtain ⟨k, hk, rfl, hbe⟩ := hrel
    by_cases hlt : k < L.length
    · have HLT : Hid (k < L.length) := hlt
      have hlt2 : (k : Int) < (L.length : Int) := by omega
      obtain ⟨x1, y1, u1, v1, e1, f1, n1⟩ := HA.out k hlt
      obtain ⟨x2, y2, u2, v2, e2, f2, n2⟩ := HB.out k hlt
      obtain ⟨N, hN⟩ : ∃ N, N = L.getD k 0 := ⟨_, rfl⟩
      rw [← hN] at f1 n1 f2 n2
      have E1 := (show Hid _ from e1)
      have E2 := (show Hid _ from e2)
      have F1 := (show Hid _ from f1)
      have F2 := (show Hid _ from f2)
      have N1 := (show Hid (NumsAt w (.slice x1 h.n y1) h.n fun i => ((dig h.n N i : Nat) : Int)) from n1.1)
      have N2 := (show Hid (NumsAt w (.slice x2 h.n y2) h.n fun i => ((dig h.n N i : Nat) : Int)) from n2.1)
      have G1 := (show Hid (GsAt w (.slice u1 (h.lg N).length v1) (h.gs N) (h.lg N)) from n1.2)
      have G2 := (show Hid (GsAt w (.slice u2 (h.lg N).length v2) (h.gs N) (h.lg N)) from n2.2)
      clear e1 e2 n1 n2 f1 f2 hN hlt
      go_upto_region 6 with fail
      have hSd : Below w.heap.size w wr.drew := hbe.drew
      clear hbe
      refine wp_region_noPanic ?_
      refine wp_region_held_drew (S := fun W => Below w.heap.size w W) (by kernel_rfl) hSd (fun hS => ?_)
      clear hSd
      obtain ⟨Z, hZ⟩ : ∃ x, x = wr.drew := ⟨_, rfl⟩
      rw [← hZ] at hS ⊢
      clear hZ
      refine vtake 0 16 (.slice (some ⟨b1, o1, none⟩) L.length c1) rfl rfl (by kernel_rfl) (by kernel_rfl) (by kernel_rfl) (fun _ _ _ _ h => h) (by rfl) (fun W hW => by clear hS hW; go_simp) hS ?_
      simp only [List.setIfInBounds_toArray, List.set_cons_succ, List.set_cons_zero]
      refine vtake 1 17 (.int .i64 (k : Nat)) rfl rfl (by kernel_rfl) (by kernel_rfl) (by kernel_rfl) (fun _ _ _ _ h => h) (by rfl) (fun W hW => by clear hS hW; go_simp) hS ?_
      simp only [List.setIfInBounds_toArray, List.set_cons_succ, List.set_cons_zero]
      refine vtake 2 18 (.pointer (some ⟨b1, o1 + k * 2, none⟩)) rfl rfl (by kernel_rfl) (by kernel_rfl) (by kernel_rfl) (fun _ _ _ _ h => h) (by rfl) (fun W hW => by clear hS hW; go_simp) hS ?_
      simp only [List.setIfInBounds_toArray, List.set_cons_succ, List.set_cons_zero]
      refine vtake 3 19 (.pointer (some ⟨b1, o1 + k * 2, none⟩)) rfl rfl (by kernel_rfl) (by kernel_rfl) (by kernel_rfl) (fun _ _ _ _ h => h) (by rfl) (fun W hW => by clear hS hW; go_simp) hS ?_
      simp only [List.setIfInBounds_toArray, List.set_cons_succ, List.set_cons_zero]
      refine vtake 4 20 (.slice x1 h.n y1) rfl rfl (by kernel_rfl) (by kernel_rfl) (by kernel_rfl) (fun _ _ _ _ h => h) (by rfl) (fun W hW => by have u := (hW.cell (p := ⟨b1, o1 + k * 2, none⟩) (cell_block E1.out)).trans E1.out; clear hS hW; go_simp) hS ?_
      simp only [List.setIfInBounds_toArray, List.set_cons_succ, List.set_cons_zero]
      refine vtake 5 21 (.slice (some ⟨b2, o2, none⟩) L.length c2) rfl rfl (by kernel_rfl) (by kernel_rfl) (by kernel_rfl) (fun _ _ _ _ h => h) (by rfl) (fun W hW => by clear hS hW; go_simp) hS ?_
      simp only [List.setIfInBounds_toArray, List.set_cons_succ, List.set_cons_zero]
      refine vtake 6 22 (.int .i64 (k : Nat)) rfl rfl (by kernel_rfl) (by kernel_rfl) (by kernel_rfl) (fun _ _ _ _ h => h) (by rfl) (fun W hW => by clear hS hW; go_simp) hS ?_
      simp only [List.setIfInBounds_toArray, List.set_cons_succ, List.set_cons_zero]
      refine vtake 7 23 (.pointer (some ⟨b2, o2 + k * 2, none⟩)) rfl rfl (by kernel_rfl) (by kernel_rfl) (by kernel_rfl) (fun _ _ _ _ h => h) (by rfl) (fun W hW => by clear hS hW; go_simp) hS ?_
      simp only [List.setIfInBounds_toArray, List.set_cons_succ, List.set_cons_zero]
      refine vtake 8 24 (.pointer (some ⟨b2, o2 + k * 2, none⟩)) rfl rfl (by kernel_rfl) (by kernel_rfl) (by kernel_rfl) (fun _ _ _ _ h => h) (by rfl) (fun W hW => by clear hS hW; go_simp) hS ?_
      simp only [List.setIfInBounds_toArray, List.set_cons_succ, List.set_cons_zero]
      refine vtake 9 25 (.slice x2 h.n y2) rfl rfl (by kernel_rfl) (by kernel_rfl) (by kernel_rfl) (fun _ _ _ _ h => h) (by rfl) (fun W hW => by have u := (hW.cell (p := ⟨b2, o2 + k * 2, none⟩) (cell_block E2.out)).trans E2.out; clear hS hW; go_simp) hS ?_
      simp only [List.setIfInBounds_toArray, List.set_cons_succ, List.set_cons_zero]
      refine wpAnyH_ready (rs := [10]) (by kernel_rfl) (by simp) ?_
      refine AllReadyH.cons (o := _) rfl (fun K hK => ?_) AllReadyH.nil
      rw [if_pos (by rfl)]
      go_simp
      refine Calls.mono (same9_ok _ _ h.n _ _ (N1.out.below hS) (N2.out.below hS)) ?_
      rintro e Y ⟨rfl, hb8⟩
      refine hK.out _ _ (hS.trans (hb8.mono hS.size)) (fun hS1 => ?_)
      clear hK hS K
      have hS := hS1
      clear hS1
      refine vtake 11 27 (.bool false) rfl rfl (by kernel_rfl) (by kernel_rfl) (by kernel_rfl) (fun _ _ _ _ h => h) (by rfl) (fun W hW => by clear hS hW; go_simp) hS ?_
      simp only [List.setIfInBounds_toArray, List.set_cons_succ, List.set_cons_zero]
      refine vtake 12 28 (.bool false) rfl rfl (by kernel_rfl) (by kernel_rfl) (by kernel_rfl) (fun _ _ _ _ h => h) (by rfl) (fun W hW => by clear hS hW; go_simp) hS ?_
      simp only [List.setIfInBounds_toArray, List.set_cons_succ, List.set_cons_zero]
      refine vtake 13 29 (.slice (some ⟨b1, o1, none⟩) L.length c1) rfl rfl (by kernel_rfl) (by kernel_rfl) (by kernel_rfl) (fun _ _ _ _ h => h) (by rfl) (fun W hW => by clear hS hW; go_simp) hS ?_
      simp only [List.setIfInBounds_toArray, List.set_cons_succ, List.set_cons_zero]
      refine vtake 14 30 (.int .i64 (k : Nat)) rfl rfl (by kernel_rfl) (by kernel_rfl) (by kernel_rfl) (fun _ _ _ _ h => h) (by rfl) (fun W hW => by clear hS hW; go_simp) hS ?_
      simp only [List.setIfInBounds_toArray, List.set_cons_succ, List.set_cons_zero]
      refine vtake 15 31 (.pointer (some ⟨b1, o1 + k * 2, none⟩)) rfl rfl (by kernel_rfl) (by kernel_rfl) (by kernel_rfl) (fun _ _ _ _ h => h) (by rfl) (fun W hW => by clear hS hW; go_simp) hS ?_
      simp only [List.setIfInBounds_toArray, List.set_cons_succ, List.set_cons_zero]
      refine vtake 16 32 (.pointer (some ⟨b1, o1 + k * 2 + 1, none⟩)) rfl rfl (by kernel_rfl) (by kernel_rfl) (by kernel_rfl) (fun _ _ _ _ h => h) (by rfl) (fun W hW => by clear hS hW; go_simp) hS ?_
      simp only [List.setIfInBounds_toArray, List.set_cons_succ, List.set_cons_zero]
      refine vtake 17 33 (.slice u1 (h.lg N).length v1) rfl rfl (by kernel_rfl) (by kernel_rfl) (by kernel_rfl) (fun _ _ _ _ h => h) (by rfl) (fun W hW => by have u := (hW.cell (p := ⟨b1, o1 + k * 2 + 1, none⟩) (cell_block F1.out)).trans F1.out; clear hS hW; go_simp) hS ?_
      simp only [List.setIfInBounds_toArray, List.set_cons_succ, List.set_cons_zero]
      refine vtake 18 34 (.slice (some ⟨b2, o2, none⟩) L.length c2) rfl rfl (by kernel_rfl) (by kernel_rfl) (by kernel_rfl) (fun _ _ _ _ h => h) (by rfl) (fun W hW => by clear hS hW; go_simp) hS ?_
      simp only [List.setIfInBounds_toArray, List.set_cons_succ, List.set_cons_zero]
      refine vtake 19 35 (.int .i64 (k : Nat)) rfl rfl (by kernel_rfl) (by kernel_rfl) (by kernel_rfl) (fun _ _ _ _ h => h) (by rfl) (fun W hW => by clear hS hW; go_simp) hS ?_
      simp only [List.setIfInBounds_toArray, List.set_cons_succ, List.set_cons_zero]
      refine vtake 20 36 (.pointer (some ⟨b2, o2 + k * 2, none⟩)) rfl rfl (by kernel_rfl) (by kernel_rfl) (by kernel_rfl) (fun _ _ _ _ h => h) (by rfl) (fun W hW => by clear hS hW; go_simp) hS ?_
      simp only [List.setIfInBounds_toArray, List.set_cons_succ, List.set_cons_zero]
      refine vtake 21 37 (.pointer (some ⟨b2, o2 + k * 2 + 1, none⟩)) rfl rfl (by kernel_rfl) (by kernel_rfl) (by kernel_rfl) (fun _ _ _ _ h => h) (by rfl) (fun W hW => by clear hS hW; go_simp) hS ?_
      simp only [List.setIfInBounds_toArray, List.set_cons_succ, List.set_cons_zero]
      refine vtake 22 38 (.slice u2 (h.lg N).length v2) rfl rfl (by kernel_rfl) (by kernel_rfl) (by kernel_rfl) (fun _ _ _ _ h => h) (by rfl) (fun W hW => by have u := (hW.cell (p := ⟨b2, o2 + k * 2 + 1, none⟩) (cell_block F2.out)).trans F2.out; clear hS hW; go_simp) hS ?_
      simp only [List.setIfInBounds_toArray, List.set_cons_succ, List.set_cons_zero]
      refine wpAnyH_ready (rs := [23]) (by kernel_rfl) (by simp) ?_
      refine AllReadyH.cons (o := _) rfl (fun K hK => ?_) AllReadyH.nil
      rw [if_pos (by rfl)]
      go_simp
      refine Calls.mono (HSG.out N _ _ _ (G1.out.below hS) (G2.out.below hS)) ?_
      rintro e Y2 ⟨rfl, hb8⟩
      refine hK.out _ _ (hS.trans (hb8.mono hS.size)) (fun hS1 => ?_)
      clear hK hS K
      have hS := hS1
      clear hS1
      refine vtake 24 40 (.bool false) rfl rfl (by kernel_rfl) (by kernel_rfl) (by kernel_rfl) (fun _ _ _ _ h => h) (by rfl) (fun W hW => by clear hS hW; go_simp) hS ?_
      simp only [List.setIfInBounds_toArray, List.set_cons_succ, List.set_cons_zero]
      refine vtake 25 41 (.bool false) rfl rfl (by kernel_rfl) (by kernel_rfl) (by kernel_rfl) (fun _ _ _ _ h => h) (by rfl) (fun W hW => by clear hS hW; go_simp) hS ?_
      simp only [List.setIfInBounds_toArray, List.set_cons_succ, List.set_cons_zero]
      refine wpAnyH_done (by kernel_rfl) ?_ _
      refine NoPanic.normal ?_
      have HS := (show Hid _ from hS)
      clear hS
      go_wp2_with fail
      go_roundw
      case rel => exact ⟨k + 1, HLT.out, by go_num, HS.out⟩
      case measure => have := HLT.out; simp [intOf]; omega
    · obtain rfl : k = L.length := by omega
      have hnn : ¬ ((L.length : Nat) : Int) < ((L.length : Nat) : Int) := by omega
      go_wp2
      go_ret
      exact ⟨rfl, hbe⟩
end Go.Proofs.Ytbbpbcmpemmgjaa

/-
  BombeSearches, where the document lets it search.
-/
namespace Go.Proofs.Ytbbpbcmpemmgjaa
open Go.RowKit PK Vg Go.Conc Cs
theorem vr_pairB {E : Env} {u v : Value} (h : VR E u v) : VR E (.tuple #[u, .int .i64 0]) (.tuple #[v, .int .i64 0]) := by
  refine .tuple rfl fun i x y hx hy => ?_
  match i, hx, hy with
  | 0, hx, hy => simp at hx hy; subst hx hy; exact h
  | 1, hx, hy => simp at hx hy; subst hx hy; exact .int .i64 0
  | i + 2, hx, hy => simp at hx
theorem bms_same {g : Gm} {hl : Hl} {cr te : ByteArray} (hB : BmS g hl cr te) (N : Nat) (x y : Value) (W : World) (hx : GsAt W x (hl.gs N) (hl.lg N)) (hy : GsAt W y (hl.gs N) (hl.lg N)) : Calls Try.prog 38 #[x, y] W fun e w' => e = .returned (.bool true) ∧ Below W.heap.size W w' := by
  obtain ⟨A, ok, pr, ht, e1, e2⟩ := hB.t N
  rw [e1, e2] at hx hy
  exact bsame_ok x y A pr (okTo ok 26) (by have := ok_len ok 26; omega) W hx hy
theorem fnd_small {g : Gm} {hl : Hl} (hn3 : g.n ≤ 3) : (hl.fnd (26 ^ g.n)).length ≤ 1000000 := by
  refine Nat.le_trans (hl.fnd_len _) ?_
  rcases (by omega : g.n = 0 ∨ g.n = 1 ∨ g.n = 2 ∨ g.n = 3) with h | h | h | h <;> rw [h] <;> decide
theorem keptB_trans {w1 w2 w3 : World} (h : Kept w1 w2) (k : Kept w2 w3) : Kept w1 w3 := ⟨fun b hb => (k.1 b (by
  have h1 := h.1 b hb
  have h2 : (w2.heap[b]?).isSome = true := by rw [h1]; simp [hb]
  simpa using h2)).trans (h.1 b hb), k.2.1.trans h.2.1, k.2.2.trans h.2.2⟩
/-- Where goroutine 0 comes to its end beside goroutines that only leave, the run is good. -/
theorem good_end {W w10 : World} {g0 g10 : Goroutine} {gs10 : Array Goroutine} {sl10 : Option (Nat × Nat)} {t10 : Trace} {q10 : Nat → Nat} {NN : Nat} (hr : runNT Try.prog NN (crowd #[g0] W none) #[] = (.next (crowd gs10 w10 sl10), t10)) (i10 : gs10[0]? = some g10) (hrun10 : g10.status = .running) (hend10 : ∀ W, stepG Try.prog true g10 W = .ended (.done (.bool true)) W #[]) (Q10 : Qt Try.prog gs10 t10 q10 w10.heap.size) (hkept : Kept W w10) :
    ∃ N last o w' t', runNT Try.prog (N + 1) (solo g0 W) #[] = (.ended o w', t') ∧ runN Try.prog N (solo g0 W) = .next last ∧ step Try.prog last = .ended o w' ∧ Conc.Good Try.prog (fun v W' => v = .bool true ∧ Kept W W') last o w' t' := by
  obtain ⟨B0, hP⟩ := Q10.past
  obtain ⟨N11, last, o, w', t', e1, e2, e3, e4⟩ := beside_ends (P := Try.prog) (Shun := fun _ => False) (B := B0) (D := fun _ _ _ => False) (Post := fun v W' => v = .bool true ∧ Kept W W') (sl := sl10) (n := 0) (fun _ _ _ h => h.elim) i10 Q10.leavers (hP B0 (Nat.le_refl _)) (Goes.stop fun w₂ h₂ => by
    obtain ⟨d, rfl⟩ := h₂
    exact ⟨hrun10, .bool true, #[], hend10 _, fun e he => by simp at he, rfl, hkept⟩)
  rw [solo_eq_crowd]
  refine ⟨NN + N11, last, o, w', t', ?_, ?_, e3, e4⟩
  · rw [Nat.add_assoc NN N11 1, runNT_add, hr]
    exact e1
  · rw [← runNT_fst _ _ _ #[], runNT_add, hr]
    show (runNT Try.prog N11 (crowd gs10 w10 sl10) t10).1 = _
    rw [runNT_fst]
    exact e2
end Go.Proofs.Ytbbpbcmpemmgjaa

/-
  ChartFinds where something is wrong with what is searched: no goroutine is begun (a lone walk).
-/
namespace Go.Proofs.Ytbbpbcmpemmgjaa
open Go.RowKit PK Vg

end Go.Proofs.Ytbbpbcmpemmgjaa

/-
  A machine as an argument: opened.
-/
namespace Go.Proofs.Ytbbpbcmpemmgjaa
open Go.RowKit PK Go.ChangeShapes Go.WideShapes Go.ChangeAt

theorem o_cells_int : Try.prog.cellsOf 3 = 1 := by kernel_rfl
theorem o_cells_perm : Try.prog.cellsOf 25 = 26 := by kernel_rfl
theorem o_cells_wheel : Try.prog.cellsOf 62 = 27 := by kernel_rfl
theorem o_cells_mac : Try.prog.cellsOf 27 = 55 := by kernel_rfl
section
variable {H : Type} {enc : TypeId × Value → H} {W : World}
set_option maxRecDepth 100000 in
theorem trod_perm {fuel : Nat} {l : List Value} {x : DataW H × List MemPlace} (h : DataW.trod enc Try.prog W 0 (fun _ => true) true fuel 25 l = some x) : ∃ f, l = (ints 26 f).toList := by
  obtain ⟨xs, m, _, _, hl, hxl, hi⟩ := DataW.trod_array Try.underlying25 h
  rw [o_cells_perm] at hl
  rw [o_cells_int] at hi
  have key : ∀ i, i < 26 → ∃ n : Int, l[i]? = some (.int .i64 n) := fun i h26 => by
    have h1 := hi i h26
    have h2 : xs[i]? = some (xs[i]'(by omega)) := List.getElem?_eq_getElem _
    rw [h2] at h1
    obtain ⟨n, e, _, _⟩ := DataW.trod_int Try.underlying3 h1
    refine ⟨n, ?_⟩
    have h3 : i < l.length := by omega
    have h4 : ((l.drop (i * 1)).take 1) = [l[i]'h3] := by
      rw [Nat.mul_one, List.drop_eq_getElem_cons h3]
      rfl
    rw [h4] at e
    simp at e
    rw [List.getElem?_eq_getElem h3, e]
  refine ⟨fun i => match l[i]? with | some (.int _ n) => n | _ => 0, ?_⟩
  apply List.ext_getElem?
  intro i
  have ex : ∀ f, (ints 26 f).toList[i]? = (ints 26 f)[i]? := fun f => Array.getElem?_toList
  rw [ex]
  by_cases h26 : i < 26
  · obtain ⟨n, hn⟩ := key i h26
    rw [ints_get _ h26, hn]
  · have e1 : l[i]? = none := List.getElem?_eq_none (by omega)
    rw [e1, Array.getElem?_eq_none (by rw [ints_size]; omega)]
end
end Go.Proofs.Ytbbpbcmpemmgjaa

/-
  A slice of numbers as an argument.
-/
namespace Go.Proofs.Ytbbpbcmpemmgjaa
open Go.RowKit PK Go.ChangeShapes Go.WideShapes Go.ChangeAt

theorem y_own : ownKnob Try.prog.godebug = none := by kernel_rfl
theorem y_laidOut : laidOutB Try.prog = true := by kernel_rfl
end Go.Proofs.Ytbbpbcmpemmgjaa

/-
  A machine as an argument: opened, with how much room its wheels' notches take.
-/
namespace Go.Proofs.Ytbbpbcmpemmgjaa
open Go.RowKit PK Go.ChangeShapes Go.WideShapes Go.ChangeAt

/-- So many numbers are told among the sizes of what came in. -/
def Fit {H : Type} (T : TypeId) (d : DataW H) (n : Nat) : Prop := n = 0 ∨ ∃ k, k ∈ d.weights Try.prog T ∧ n * 8 ≤ k
theorem weights_mem_all {H : Type} {P : Program} {e : TypeId} : ∀ {l : List (DataW H)} {d : DataW H}, d ∈ l → ∀ k ∈ d.weights P e, k ∈ DataW.weightsAll P e l
  | x :: l, d, h, k, hk => by
    simp only [DataW.weightsAll, List.mem_append]
    rcases List.mem_cons.1 h with rfl | h
    · exact .inl hk
    · exact .inr (weights_mem_all h k hk)
theorem s_bytes_int : Try.prog.bytesOf 3 = 8 := by kernel_rfl
section
variable {H : Type} {enc : TypeId × Value → H} {W : World}
end
end Go.Proofs.Ytbbpbcmpemmgjaa
