/-
  Several texts, joined: FgF, FgL.
-/
import Derived.Test.YtbbpbcmpemmgjaaJn29
import Derived.Test.YtbbpbcmpemmgjaaJn26
import Derived.Test.YtbbpbcmpemmgjaaJn36
import Derived.Test.YtbbpbcmpemmgjaaFgK
/-
  SameHalts of halts that are the same.
-/
namespace Go.Proofs.Ytbbpbcmpemmgjaa
open Go.RowKit PK Vg
theorem HsR.nth {W : World} {v : Value} {L : List Nat} {h : Hl} (k : HsR W v L h) (hL : 0 < L.length) : ∃ b o c, v = .slice (some ⟨b, o, none⟩) L.length c ∧ ∀ i, i < L.length → ∃ x y u z, W.cell? ⟨b, o + i * 2, none⟩ = some (.slice x h.n y) ∧ W.cell? ⟨b, o + i * 2 + 1, none⟩ = some (.slice u (h.lg (L.getD i 0)).length z) ∧ HltN W (.slice x h.n y) (.slice u (h.lg (L.getD i 0)).length z) h (L.getD i 0) := by
  obtain ⟨a, c, rfl, h2⟩ := k
  have hi : ∀ i, i < L.length → L[i]? = some (L.getD i 0) := fun i hi => by rw [List.getElem?_eq_getElem hi]; simp [List.getD, List.getElem?_eq_getElem hi]
  obtain ⟨b, o, _, _, rfl, _⟩ := h2 0 _ (hi 0 hL)
  refine ⟨b, o, c, rfl, fun i hil => ?_⟩
  obtain ⟨b', o', us, ug, e, e1, e2, e3⟩ := h2 i _ (hi i hil)
  cases e
  obtain ⟨x, y, hx, _⟩ := e3.1
  obtain ⟨u, z, hz, _⟩ := e3.2
  subst hx hz
  rw [Nat.mul_comm] at e1 e2
  exact ⟨x, y, u, z, e1, e2, e3⟩
set_option maxRecDepth 100000 in
set_option maxHeartbeats 2000000 in
theorem samehalts_none (a b : Option Addr) (c d : Nat) (w : World) : Calls Try.prog 15 #[.slice a 0 c, .slice b 0 d] w fun e w' => e = .returned (.bool true) ∧ Below w.heap.size w w' := by
  have hbe := Below.refl w.heap.size w
  go_enter Try.func15, Try.ntmps15
  go_wp2_with fail
  go_loopw [13] (fun x W => x = .int .i64 0 ∧ Below w.heap.size w W) (fun _ _ => 0)
  case atStart => exact ⟨rfl, hbe⟩
  case round =>
    clear hbe
    obtain ⟨rfl, hbe⟩ := hrel
    go_wp2
    go_ret
    exact ⟨rfl, hbe⟩
set_option maxRecDepth 100000 in
set_option maxHeartbeats 8000000 in
theorem samehalts_ok (u v : Value) (L : List Nat) (hm : L.length ≤ 1000000) (h : Hl) (w : World) (hu : HsR w u L h) (hv : HsR w v L h) (HSG : Hid (∀ N x y W, GsAt W x (h.gs N) (h.lg N) → GsAt W y (h.gs N) (h.lg N) → Calls Try.prog 38 #[x, y] W fun e w' => e = .returned (.bool true) ∧ Below W.heap.size W w')) : Calls Try.prog 15 #[u, v] w fun e w' => e = .returned (.bool true) ∧ Below w.heap.size w w' := by
  by_cases hL : 0 < L.length
  case neg =>
    obtain rfl : L = [] := List.eq_nil_of_length_eq_zero (by omega)
    obtain ⟨a, c, rfl, _⟩ := hu
    obtain ⟨b, d, rfl, _⟩ := hv
    exact samehalts_none _ _ _ _ w
  obtain ⟨b1, o1, c1, rfl, hA⟩ := hu.nth hL
  obtain ⟨b2, o2, c2, rfl, hB⟩ := hv.nth hL
  have HA := (show Hid _ from hA)
  have HB := (show Hid _ from hB)
  have hne : ((L.length : Int) != (L.length : Int)) = false := by simp
  clear hA hB hu hv hL
  go_enter Try.func15, Try.ntmps15
  go_wp2_with fail
  clear hne
  go_loopw [13] (fun i W => ∃ k : Nat, k ≤ L.length ∧ i = .int .i64 (k : Nat) ∧ Below w.heap.size w W) (fun i _ => ((L.length : Int) - intOf i).toNat)
  case atStart => exact ⟨0, by omega, rfl, Below.refl _ _⟩
  case round =>
    obtain ⟨k, hk, rfl, hbe⟩ := hrel
    by_cases hlt : k < L.length
    · have HLT : Hid (k < L.length) := hlt
      have hlt2 : (k : Int) < (L.length : Int) := by omega
      obtain ⟨x1, y1, u1, v1, e1, f1, n1⟩ := HA.out k hlt
      obtain ⟨x2, y2, u2, v2, e2, f2, n2⟩ := HB.out k hlt
      obtain ⟨N, hN⟩ : ∃ N, N = L.getD k 0 := ⟨_, rfl⟩
      rw [← hN] at f1 n1 f2 n2
      have E1 := (show Hid _ from e1)
      have E2 := (show Hid _ from e2)
      have F1 := (show Hid _ from f1)
      have F2 := (show Hid _ from f2)
      have N1 := (show Hid (NumsAt w (.slice x1 h.n y1) h.n fun i => ((dig h.n N i : Nat) : Int)) from n1.1)
      have N2 := (show Hid (NumsAt w (.slice x2 h.n y2) h.n fun i => ((dig h.n N i : Nat) : Int)) from n2.1)
      have G1 := (show Hid (GsAt w (.slice u1 (h.lg N).length v1) (h.gs N) (h.lg N)) from n1.2)
      have G2 := (show Hid (GsAt w (.slice u2 (h.lg N).length v2) (h.gs N) (h.lg N)) from n2.2)
      clear e1 e2 n1 n2 f1 f2 hN hlt
      go_upto_region 6 with fail
      have hSd : Below w.heap.size w wr.drew := hbe.drew
      clear hbe
      refine wp_region_noPanic ?_
      refine wp_region_held_drew (S := fun W => Below w.heap.size w W) (by kernel_rfl) hSd (fun hS => ?_)
      clear hSd
      obtain ⟨Z, hZ⟩ : ∃ x, x = wr.drew := ⟨_, rfl⟩
      rw [← hZ] at hS ⊢
      clear hZ
      refine vtake 0 16 (.slice (some ⟨b1, o1, none⟩) L.length c1) rfl rfl (by kernel_rfl) (by kernel_rfl) (by kernel_rfl) (fun _ _ _ _ h => h) (by rfl) (fun W hW => by clear hS hW; go_simp) hS ?_
      simp only [List.setIfInBounds_toArray, List.set_cons_succ, List.set_cons_zero]
      refine vtake 1 17 (.int .i64 (k : Nat)) rfl rfl (by kernel_rfl) (by kernel_rfl) (by kernel_rfl) (fun _ _ _ _ h => h) (by rfl) (fun W hW => by clear hS hW; go_simp) hS ?_
      simp only [List.setIfInBounds_toArray, List.set_cons_succ, List.set_cons_zero]
      refine vtake 2 18 (.pointer (some ⟨b1, o1 + k * 2, none⟩)) rfl rfl (by kernel_rfl) (by kernel_rfl) (by kernel_rfl) (fun _ _ _ _ h => h) (by rfl) (fun W hW => by clear hS hW; go_simp) hS ?_
      simp only [List.setIfInBounds_toArray, List.set_cons_succ, List.set_cons_zero]
      refine vtake 3 19 (.pointer (some ⟨b1, o1 + k * 2, none⟩)) rfl rfl (by kernel_rfl) (by kernel_rfl) (by kernel_rfl) (fun _ _ _ _ h => h) (by rfl) (fun W hW => by clear hS hW; go_simp) hS ?_
      simp only [List.setIfInBounds_toArray, List.set_cons_succ, List.set_cons_zero]
      refine vtake 4 20 (.slice x1 h.n y1) rfl rfl (by kernel_rfl) (by kernel_rfl) (by kernel_rfl) (fun _ _ _ _ h => h) (by rfl) (fun W hW => by have u := (hW.cell (p := ⟨b1, o1 + k * 2, none⟩) (cell_block E1.out)).trans E1.out; clear hS hW; go_simp) hS ?_
      simp only [List.setIfInBounds_toArray, List.set_cons_succ, List.set_cons_zero]
      refine vtake 5 21 (.slice (some ⟨b2, o2, none⟩) L.length c2) rfl rfl (by kernel_rfl) (by kernel_rfl) (by kernel_rfl) (fun _ _ _ _ h => h) (by rfl) (fun W hW => by clear hS hW; go_simp) hS ?_
      simp only [List.setIfInBounds_toArray, List.set_cons_succ, List.set_cons_zero]
      refine vtake 6 22 (.int .i64 (k : Nat)) rfl rfl (by kernel_rfl) (by kernel_rfl) (by kernel_rfl) (fun _ _ _ _ h => h) (by rfl) (fun W hW => by clear hS hW; go_simp) hS ?_
      simp only [List.setIfInBounds_toArray, List.set_cons_succ, List.set_cons_zero]
      refine vtake 7 23 (.pointer (some ⟨b2, o2 + k * 2, none⟩)) rfl rfl (by kernel_rfl) (by kernel_rfl) (by kernel_rfl) (fun _ _ _ _ h => h) (by rfl) (fun W hW => by clear hS hW; go_simp) hS ?_
      simp only [List.setIfInBounds_toArray, List.set_cons_succ, List.set_cons_zero]
      refine vtake 8 24 (.pointer (some ⟨b2, o2 + k * 2, none⟩)) rfl rfl (by kernel_rfl) (by kernel_rfl) (by kernel_rfl) (fun _ _ _ _ h => h) (by rfl) (fun W hW => by clear hS hW; go_simp) hS ?_
      simp only [List.setIfInBounds_toArray, List.set_cons_succ, List.set_cons_zero]
      refine vtake 9 25 (.slice x2 h.n y2) rfl rfl (by kernel_rfl) (by kernel_rfl) (by kernel_rfl) (fun _ _ _ _ h => h) (by rfl) (fun W hW => by have u := (hW.cell (p := ⟨b2, o2 + k * 2, none⟩) (cell_block E2.out)).trans E2.out; clear hS hW; go_simp) hS ?_
      simp only [List.setIfInBounds_toArray, List.set_cons_succ, List.set_cons_zero]
      refine wpAnyH_ready (rs := [10]) (by kernel_rfl) (by simp) ?_
      refine AllReadyH.cons (o := _) rfl (fun K hK => ?_) AllReadyH.nil
      rw [if_pos (by rfl)]
      go_simp
      refine Calls.mono (same9_ok _ _ h.n _ _ (N1.out.below hS) (N2.out.below hS)) ?_
      rintro e Y ⟨rfl, hb8⟩
      refine hK.out _ _ (hS.trans (hb8.mono hS.size)) (fun hS1 => ?_)
      clear hK hS K
      have hS := hS1
      clear hS1
      refine vtake 11 27 (.bool false) rfl rfl (by kernel_rfl) (by kernel_rfl) (by kernel_rfl) (fun _ _ _ _ h => h) (by rfl) (fun W hW => by clear hS hW; go_simp) hS ?_
      simp only [List.setIfInBounds_toArray, List.set_cons_succ, List.set_cons_zero]
      refine vtake 12 28 (.bool false) rfl rfl (by kernel_rfl) (by kernel_rfl) (by kernel_rfl) (fun _ _ _ _ h => h) (by rfl) (fun W hW => by clear hS hW; go_simp) hS ?_
      simp only [List.setIfInBounds_toArray, List.set_cons_succ, List.set_cons_zero]
      refine vtake 13 29 (.slice (some ⟨b1, o1, none⟩) L.length c1) rfl rfl (by kernel_rfl) (by kernel_rfl) (by kernel_rfl) (fun _ _ _ _ h => h) (by rfl) (fun W hW => by clear hS hW; go_simp) hS ?_
      simp only [List.setIfInBounds_toArray, List.set_cons_succ, List.set_cons_zero]
      refine vtake 14 30 (.int .i64 (k : Nat)) rfl rfl (by kernel_rfl) (by kernel_rfl) (by kernel_rfl) (fun _ _ _ _ h => h) (by rfl) (fun W hW => by clear hS hW; go_simp) hS ?_
      simp only [List.setIfInBounds_toArray, List.set_cons_succ, List.set_cons_zero]
      refine vtake 15 31 (.pointer (some ⟨b1, o1 + k * 2, none⟩)) rfl rfl (by kernel_rfl) (by kernel_rfl) (by kernel_rfl) (fun _ _ _ _ h => h) (by rfl) (fun W hW => by clear hS hW; go_simp) hS ?_
      simp only [List.setIfInBounds_toArray, List.set_cons_succ, List.set_cons_zero]
      refine vtake 16 32 (.pointer (some ⟨b1, o1 + k * 2 + 1, none⟩)) rfl rfl (by kernel_rfl) (by kernel_rfl) (by kernel_rfl) (fun _ _ _ _ h => h) (by rfl) (fun W hW => by clear hS hW; go_simp) hS ?_
      simp only [List.setIfInBounds_toArray, List.set_cons_succ, List.set_cons_zero]
      refine vtake 17 33 (.slice u1 (h.lg N).length v1) rfl rfl (by kernel_rfl) (by kernel_rfl) (by kernel_rfl) (fun _ _ _ _ h => h) (by rfl) (fun W hW => by have u := (hW.cell (p := ⟨b1, o1 + k * 2 + 1, none⟩) (cell_block F1.out)).trans F1.out; clear hS hW; go_simp) hS ?_
      simp only [List.setIfInBounds_toArray, List.set_cons_succ, List.set_cons_zero]
      refine vtake 18 34 (.slice (some ⟨b2, o2, none⟩) L.length c2) rfl rfl (by kernel_rfl) (by kernel_rfl) (by kernel_rfl) (fun _ _ _ _ h => h) (by rfl) (fun W hW => by clear hS hW; go_simp) hS ?_
      simp only [List.setIfInBounds_toArray, List.set_cons_succ, List.set_cons_zero]
      refine vtake 19 35 (.int .i64 (k : Nat)) rfl rfl (by kernel_rfl) (by kernel_rfl) (by kernel_rfl) (fun _ _ _ _ h => h) (by rfl) (fun W hW => by clear hS hW; go_simp) hS ?_
      simp only [List.setIfInBounds_toArray, List.set_cons_succ, List.set_cons_zero]
      refine vtake 20 36 (.pointer (some ⟨b2, o2 + k * 2, none⟩)) rfl rfl (by kernel_rfl) (by kernel_rfl) (by kernel_rfl) (fun _ _ _ _ h => h) (by rfl) (fun W hW => by clear hS hW; go_simp) hS ?_
      simp only [List.setIfInBounds_toArray, List.set_cons_succ, List.set_cons_zero]
      refine vtake 21 37 (.pointer (some ⟨b2, o2 + k * 2 + 1, none⟩)) rfl rfl (by kernel_rfl) (by kernel_rfl) (by kernel_rfl) (fun _ _ _ _ h => h) (by rfl) (fun W hW => by clear hS hW; go_simp) hS ?_
      simp only [List.setIfInBounds_toArray, List.set_cons_succ, List.set_cons_zero]
      refine vtake 22 38 (.slice u2 (h.lg N).length v2) rfl rfl (by kernel_rfl) (by kernel_rfl) (by kernel_rfl) (fun _ _ _ _ h => h) (by rfl) (fun W hW => by have u := (hW.cell (p := ⟨b2, o2 + k * 2 + 1, none⟩) (cell_block F2.out)).trans F2.out; clear hS hW; go_simp) hS ?_
      simp only [List.setIfInBounds_toArray, List.set_cons_succ, List.set_cons_zero]
      refine wpAnyH_ready (rs := [23]) (by kernel_rfl) (by simp) ?_
      refine AllReadyH.cons (o := _) rfl (fun K hK => ?_) AllReadyH.nil
      rw [if_pos (by rfl)]
      go_simp
      refine Calls.mono (HSG.out N _ _ _ (G1.out.below hS) (G2.out.below hS)) ?_
      rintro e Y2 ⟨rfl, hb8⟩
      refine hK.out _ _ (hS.trans (hb8.mono hS.size)) (fun hS1 => ?_)
      clear hK hS K
      have hS := hS1
      clear hS1
      refine vtake 24 40 (.bool false) rfl rfl (by kernel_rfl) (by kernel_rfl) (by kernel_rfl) (fun _ _ _ _ h => h) (by rfl) (fun W hW => by clear hS hW; go_simp) hS ?_
      simp only [List.setIfInBounds_toArray, List.set_cons_succ, List.set_cons_zero]
      refine vtake 25 41 (.bool false) rfl rfl (by kernel_rfl) (by kernel_rfl) (by kernel_rfl) (fun _ _ _ _ h => h) (by rfl) (fun W hW => by clear hS hW; go_simp) hS ?_
      simp only [List.setIfInBounds_toArray, List.set_cons_succ, List.set_cons_zero]
      refine wpAnyH_done (by kernel_rfl) ?_ _
      refine NoPanic.normal ?_
      have HS := (show Hid _ from hS)
      clear hS
      go_wp2_with fail
      go_roundw
      case rel => exact ⟨k + 1, HLT.out, by go_num, HS.out⟩
      case measure => have := HLT.out; simp [intOf]; omega
    · obtain rfl : k = L.length := by omega
      have hnn : ¬ ((L.length : Nat) : Int) < ((L.length : Nat) : Int) := by omega
      go_wp2
      go_ret
      exact ⟨rfl, hbe⟩
end Go.Proofs.Ytbbpbcmpemmgjaa

/-
  BombeSearches, where the document lets it search.
-/
namespace Go.Proofs.Ytbbpbcmpemmgjaa
open Go.RowKit PK Vg Go.Conc Cs
noncomputable def mB : Code := Try.f5.body.getD .skip
noncomputable def mT1 : Code := match mB with | .seq _ r => r | _ => .skip
noncomputable def mO1 : Array Oper := match mT1 with | .seq (.region _ o _) _ => o | _ => #[]
noncomputable def mT2 : Code := match mT1 with | .seq _ r => r | _ => .skip
theorem vr_pairB {E : Env} {u v : Value} (h : VR E u v) : VR E (.tuple #[u, .int .i64 0]) (.tuple #[v, .int .i64 0]) := by
  refine .tuple rfl fun i x y hx hy => ?_
  match i, hx, hy with
  | 0, hx, hy => simp at hx hy; subst hx hy; exact h
  | 1, hx, hy => simp at hx hy; subst hx hy; exact .int .i64 0
  | i + 2, hx, hy => simp at hx
theorem bms_rgs {g : Gm} {hl : Hl} {cr te : ByteArray} (hB : BmS g hl cr te) (N : Nat) (vm : Value) (W : World) (hm : MacAt W vm (gmN g N)) : Calls Try.prog 37 #[vm, .string cr, .string te] W fun e w' => ∃ v B, e = .returned v ∧ OwnsG w' B v (hl.gs N) (hl.lg N) ∧ Below W.heap.size W w' := by
  obtain ⟨A, ok, pr, ht, e1, e2⟩ := hB.t N
  refine (rgs_any vm (gmN g N) cr te A ok pr ht W hm).mono ?_
  rintro e w' ⟨v, B, rfl, _, k1, k2⟩
  exact ⟨v, B, rfl, by rw [e1, e2]; exact k1, k2⟩
theorem bms_same {g : Gm} {hl : Hl} {cr te : ByteArray} (hB : BmS g hl cr te) (N : Nat) (x y : Value) (W : World) (hx : GsAt W x (hl.gs N) (hl.lg N)) (hy : GsAt W y (hl.gs N) (hl.lg N)) : Calls Try.prog 38 #[x, y] W fun e w' => e = .returned (.bool true) ∧ Below W.heap.size W w' := by
  obtain ⟨A, ok, pr, ht, e1, e2⟩ := hB.t N
  rw [e1, e2] at hx hy
  exact bsame_ok x y A pr (okTo ok 26) (by have := ok_len ok 26; omega) W hx hy
theorem fnd_small {g : Gm} {hl : Hl} (hn3 : g.n ≤ 3) : (hl.fnd (26 ^ g.n)).length ≤ 1000000 := by
  refine Nat.le_trans (hl.fnd_len _) ?_
  rcases (by omega : g.n = 0 ∨ g.n = 1 ∨ g.n = 2 ∨ g.n = 3) with h | h | h | h <;> rw [h] <;> decide
set_option maxRecDepth 100000 in
set_option maxHeartbeats 4000000 in
theorem law_restB (v0 v5 v6 v7 v8 v9 v10 v11 v12 v13 v14 v15 v16 v17 v19 v20 v21 v22 v23 v24 v25 v26 v27 v28 v29 v30 v31 v32 v33 v34 v35 v36 : Value) (bM : Nat) (a b c u : Value) (g : Gm) (cr te : ByteArray) (hl : Hl) (hBm : BmS g hl cr te) (h : Int) (hW0 : bwE g cr.data.toList te.data.toList = 0) (hE : swE g h = 0) (TM : TypeId) (fM : Nat × Nat) (w : World) (hM : w.heap[bM]? = some (.cells (mac a b c g.rf g.pl) TM fM)) (hm : MacAt w (.agg (mac a b c g.rf g.pl)) g) (hu : HsA w u (hl.fnd (26 ^ g.n)) hl) :
    wpOps Try.prog mO1 (Exit.then (mT2.wp Try.prog (bodyPost Try.prog Try.f5 (Cs.PostE fun v _ => v = .bool true))) (bodyPost Try.prog Try.f5 (Cs.PostE fun v _ => v = .bool true))) (List.range' 5 5) ⟨#[v0, .string cr, .string te, .int .i64 h, .pointer (some ⟨bM, 0, none⟩), v5, v6, v7, v8, v9, v10, v11, v12, v13, v14, v15, v16, v17, .tuple #[u, .int .i64 0], v19, v20, v21, v22, v23, v24, v25, v26, v27, v28, v29, v30, v31, v32, v33, v34, v35, v36], []⟩ w := by
  obtain ⟨_, hn3, _⟩ := swE_n hE
  have hlen := fnd_small (hl := hl) hn3
  have HF := (show Hid (∀ W, Below w.heap.size w W → Calls Try.prog 14 #[.agg (mac a b c g.rf g.pl), .string cr, .string te, .int .i64 h] W fun e w' => ∃ v, e = .returned (.tuple #[v, .int .i64 0]) ∧ HsO w' W.heap.size v (hl.fnd (26 ^ g.n)) hl ∧ Below W.heap.size W w') from fun W hb => rsearch_ok _ g cr te h hW0 hE hl hBm.n W (hm.below hb) (fun N vm' W' _ hm' => bms_rgs hBm N vm' W' hm'))
  have HU := (show Hid (HsA w u (hl.fnd (26 ^ g.n)) hl) from hu)
  have HSG := (show Hid _ from bms_same hBm)
  generalize hl.fnd (26 ^ g.n) = L at *
  have hA0s : (mac a b c g.rf g.pl).size = 55 := mac_size _ _ _ _ _
  generalize mac a b c g.rf g.pl = A0 at *
  clear hm hu hE hW0 hBm
  refine ops_from 5 5 rfl ?_
  simp only [mO1, mT2, mT1, mB, Try.f5, Option.getD_some, List.drop]
  go_wp2_with (first | refine wpList_load_row rfl 27 _ rfl bM rfl TM A0 fM _ hM Try.underlying27 rfl (by rw [hA0s]; exact v_info_mac) ?_)
  refine (HF.out _ (Below.refl _ _)).mono ?_
  rintro e W1 ⟨v, rfl, hv, hb⟩
  have HS := (show Hid (∀ W, Below W1.heap.size W1 W → Calls Try.prog 15 #[u, v] W fun e w' => e = .returned (.bool true) ∧ Below W.heap.size W w') from fun W hb2 => samehalts_ok u v L hlen hl W ((HU.out.below hb).below hb2).r (hv.below hb2).r (fun N x y W hx hy => HSG.out N x y W hx hy))
  clear HF HU hM hv hb hlen HSG
  go_wp2_with fail
  refine (HS.out _ (Below.refl _ _)).mono ?_
  rintro e W2 ⟨rfl, hb2⟩
  clear HS
  go_wp2_with fail
  refine ⟨rfl, .bool true, ?_, _, rfl, rfl⟩
  simp [results, Array.mapM_eq_mapM_toList, List.mapM_cons]
theorem bs_item : [Item.inRegion mO1 (List.range' 5 5), .code mT2].all (itemOk Try.prog) = true := by kernel_rfl
set_option maxRecDepth 100000 in
set_option maxHeartbeats 4000000 in
theorem bsearches_ghost (v0 v5 v6 v7 v8 v9 v10 v11 v12 v13 v14 v15 v16 v17 v19 v20 v21 v22 v23 v24 v25 v26 v27 v28 v29 v30 v31 v32 v33 v34 v35 v36 : Value) (bM : Nat) (a b c u : Value) (g : Gm) (cr te : ByteArray) (hl : Hl) (hBm : BmS g hl cr te) (h : Int) (hW0 : bwE g cr.data.toList te.data.toList = 0) (hE : swE g h = 0) (TM : TypeId) (fM : Nat × Nat) (w : World) (hM : w.heap[bM]? = some (.cells (mac a b c g.rf g.pl) TM fM)) (ha : WhR w a g.n g.wi g.nl g.no) (hb : NumsAt w b g.rl g.ri) (hc : NumsAt w c g.sl g.st) (ra : Rt w a) (rb : Rt w b) (rc : Rt w c) (hu : HsC w u (hl.fnd (26 ^ g.n)) hl) :
    ∃ E gl wl, InCall Try.prog (fun v _ => v = .bool true) [] E gl wl (G (mkF 5 #[v0, .string cr, .string te, .int .i64 h, .pointer (some ⟨bM, 0, none⟩), v5, v6, v7, v8, v9, v10, v11, v12, v13, v14, v15, v16, v17, .tuple #[u, .int .i64 0], v19, v20, v21, v22, v23, v24, v25, v26, v27, v28, v29, v30, v31, v32, v33, v34, v35, v36] [.inRegion mO1 (List.range' 5 5), .code mT2] .run) []) w ∧ ∀ b q s o, E b = some (q, s, o) → o = false := by
  obtain ⟨E1, wl1, a', b', c', p1, q1, ra', rb', rc', hm1⟩ := cp_mac (Cp.nil (P := Try.prog) w) no_type ha hb hc ra rb rc
  obtain ⟨E3, wl3, u', p3, q3, r1, h1⟩ := cp_halts p1 no_type hu
  have hlm : LR E3 (mac a' b' c' g.rf g.pl) (mac a b c g.rf g.pl) := lr_mac (ra'.mono q3.le) (rb'.mono q3.le) (rc'.mono q3.le)
  obtain ⟨E9, wl9, dM, p9, q9, rM, kM⟩ := cp_whole p3 no_type hM (mac a' b' c' g.rf g.pl) (fun i u hu => hlm.get hu)
  have hm9 := mac_keep q9 (mac_keep q3 hm1)
  have h19 := hsa_keep q9 h1
  have r19 := r1.mono q9.le
  clear r1
  have r1 := r19
  obtain ⟨jv0, hv0⟩ := junk E9 v0
  obtain ⟨jv5, hv5⟩ := junk E9 v5
  obtain ⟨jv6, hv6⟩ := junk E9 v6
  obtain ⟨jv7, hv7⟩ := junk E9 v7
  obtain ⟨jv8, hv8⟩ := junk E9 v8
  obtain ⟨jv9, hv9⟩ := junk E9 v9
  obtain ⟨jv10, hv10⟩ := junk E9 v10
  obtain ⟨jv11, hv11⟩ := junk E9 v11
  obtain ⟨jv12, hv12⟩ := junk E9 v12
  obtain ⟨jv13, hv13⟩ := junk E9 v13
  obtain ⟨jv14, hv14⟩ := junk E9 v14
  obtain ⟨jv15, hv15⟩ := junk E9 v15
  obtain ⟨jv16, hv16⟩ := junk E9 v16
  obtain ⟨jv17, hv17⟩ := junk E9 v17
  obtain ⟨jv19, hv19⟩ := junk E9 v19
  obtain ⟨jv20, hv20⟩ := junk E9 v20
  obtain ⟨jv21, hv21⟩ := junk E9 v21
  obtain ⟨jv22, hv22⟩ := junk E9 v22
  obtain ⟨jv23, hv23⟩ := junk E9 v23
  obtain ⟨jv24, hv24⟩ := junk E9 v24
  obtain ⟨jv25, hv25⟩ := junk E9 v25
  obtain ⟨jv26, hv26⟩ := junk E9 v26
  obtain ⟨jv27, hv27⟩ := junk E9 v27
  obtain ⟨jv28, hv28⟩ := junk E9 v28
  obtain ⟨jv29, hv29⟩ := junk E9 v29
  obtain ⟨jv30, hv30⟩ := junk E9 v30
  obtain ⟨jv31, hv31⟩ := junk E9 v31
  obtain ⟨jv32, hv32⟩ := junk E9 v32
  obtain ⟨jv33, hv33⟩ := junk E9 v33
  obtain ⟨jv34, hv34⟩ := junk E9 v34
  obtain ⟨jv35, hv35⟩ := junk E9 v35
  obtain ⟨jv36, hv36⟩ := junk E9 v36
  have lL := (lr_cons hv0 (lr_cons (.string cr) (lr_cons (.string te) (lr_cons (.int .i64 h) (lr_cons rM (lr_cons hv5 (lr_cons hv6 (lr_cons hv7 (lr_cons hv8 (lr_cons hv9 (lr_cons hv10 (lr_cons hv11 (lr_cons hv12 (lr_cons hv13 (lr_cons hv14 (lr_cons hv15 (lr_cons hv16 (lr_cons hv17 (lr_cons (vr_pairB r1) (lr_cons hv19 (lr_cons hv20 (lr_cons hv21 (lr_cons hv22 (lr_cons hv23 (lr_cons hv24 (lr_cons hv25 (lr_cons hv26 (lr_cons hv27 (lr_cons hv28 (lr_cons hv29 (lr_cons hv30 (lr_cons hv31 (lr_cons hv32 (lr_cons hv33 (lr_cons hv34 (lr_cons hv35 (lr_cons hv36 lr_nil)))))))))))))))))))))))))))))))))))))
  exact ⟨E9, _, wl9, InCall.mid ⟨_, Try.func5⟩ lL p9.wr p9.big bs_item (fun τ => reach_region Try.func5 (law_restB jv0 jv5 jv6 jv7 jv8 jv9 jv10 jv11 jv12 jv13 jv14 jv15 jv16 jv17 jv19 jv20 jv21 jv22 jv23 jv24 jv25 jv26 jv27 jv28 jv29 jv30 jv31 jv32 jv33 jv34 jv35 jv36 dM a' b' c' u' g cr te hl hBm h hW0 hE _ _ (wl9.tp τ) kM hm9 h19)), p9.sh⟩
set_option maxRecDepth 100000 in
set_option maxHeartbeats 4000000 in
theorem sb_head (A : Array Value) (hA : A.size = 55) (cr te : ByteArray) (n : Nat) (cs : List Frame) (H : Array Obj) (o : Os) (out : Array (Nat × ByteArray)) (w : World) (hI : HI H o out w) : ∃ mu, Goes Try.prog true AtRel DW (fun g w' => g = G ((base 13).at ⟨#[.agg A, .string cr, .string te, .int .i64 (n : Nat), undef, undef, undef, undef, undef, undef, undef, undef, undef, undef, undef, undef, undef, undef, undef, undef, undef, undef, undef, undef, undef, undef, undef, undef], []⟩ [.code bB]) ((base 5).at ⟨#[.agg A, .string cr, .string te, .int .i64 (n : Nat), .pointer (some ⟨H.size, 0, none⟩), undef, undef, undef, .bool false, undef, undef, undef, undef, undef, .agg A, .string cr, .string te, .int .i64 (n : Nat), undef, undef, undef, undef, undef, undef, undef, undef, undef, undef, undef, undef, undef, undef, undef, undef, undef, undef, undef], []⟩ [.inRegion mO1 (4 :: List.range' 5 5), .code mT2] :: cs) ∧ HI (H.push (.cells A 27)) o out w') mu (G ((base 5).at ⟨#[.agg A, .string cr, .string te, .int .i64 (n : Nat), undef, undef, undef, undef, undef, undef, undef, undef, undef, undef, undef, undef, undef, undef, undef, undef, undef, undef, undef, undef, undef, undef, undef, undef, undef, undef, undef, undef, undef, undef, undef, undef, undef], []⟩ [.code mB]) cs) w := by
  have hiA : (Try.prog.info? 27).map (·.size) = some A.size := by rw [hA]; exact v_info_mac
  refine ⟨40, ?_⟩
  simp only [mB, Try.f5, Option.getD_some]
  repeat (refine gstep hI rfl (fun w₁ h₁ => ?_); walk_rw; refine ⟨dw_same _, ?_⟩; clear hI; have hI := h₁; clear h₁)
  refine gstep hI rfl (fun w₁ h₁ => ?_)
  refine goes_oper_k rfl rfl (by decide) (fun K hK => ?_)
  go_simp
  refine hK _ _ ⟨⟨by simp, fun e he => ?_⟩, ?_⟩
  · have hm := mem_listed he
    simp [go_sem] at hm
  clear hK K hI
  have hI := h₁.alloc (.cells A 27)
  rw [h₁.1]
  clear h₁
  refine gstep hI rfl (fun w₁ h₁ => ?_)
  refine goes_oper_k rfl rfl (by decide) (fun K hK => ?_)
  go_simp
  refine hK _ _ ⟨⟨by simp, fun e he => ?_⟩, ?_⟩
  · have hm := mem_listed he
    simp [go_sem] at hm
  clear hK K hI
  have hI := h₁
  clear h₁
  repeat (refine gstep hI rfl (fun w₁ h₁ => ?_); walk_rw; refine ⟨dw_same _, ?_⟩; clear hI; have hI := h₁; clear h₁)
  refine gstep hI rfl (fun w₁ h₁ => ?_)
  have hWr := show w₁.heap[H.size]? = some (.cells A 27 (0, 0)) from by rw [h₁.1, Array.getElem?_push, if_pos rfl]
  rw [stepG_value (v := .agg A) (w' := w₁) rfl rfl (by decide) (run_exec_load rfl rfl (ld_row hWr Try.underlying27 rfl hiA))]
  simp only [goes_go]
  refine ⟨⟨Nat.le_refl _, fun e he => ev_row hWr Try.underlying27 rfl hiA e (by have hm := mem_listed he; rw [events_exec_load rfl rfl] at hm; exact hm)⟩, ?_⟩
  clear hWr hI
  have hI := h₁
  clear h₁
  refine gstep hI rfl (fun w₁ h₁ => ?_)
  refine goes_oper_k rfl rfl (by decide) (fun K hK => ?_)
  go_simp
  refine hK _ _ ⟨⟨by simp, fun e he => ?_⟩, ?_⟩
  · have hm := mem_listed he
    simp [go_sem] at hm
  clear hK K hI
  have hI := h₁
  clear h₁
  refine gstep hI rfl (fun w₁ h₁ => ?_)
  refine goes_oper_k rfl rfl (by decide) (fun K hK => ?_)
  go_simp
  refine hK _ _ ⟨⟨by simp, fun e he => ?_⟩, ?_⟩
  · have hm := mem_listed he
    simp [go_sem] at hm
  clear hK K hI
  have hI := h₁
  clear h₁
  refine gstep hI rfl (fun w₁ h₁ => ?_)
  refine goes_oper_k rfl rfl (by decide) (fun K hK => ?_)
  go_simp
  refine hK _ _ ⟨⟨by simp, fun e he => ?_⟩, ?_⟩
  · have hm := mem_listed he
    simp [go_sem] at hm
  clear hK K hI
  have hI := h₁
  clear h₁
  refine gstep hI rfl (fun w₁ h₁ => ?_)
  refine goes_call rfl rfl (by decide) rfl Try.func13 (by kernel_rfl) rfl ?_
  refine ⟨dw_same _, ?_⟩
  exact Goes.stop fun w₂ h₂ => by
    obtain ⟨d, rfl⟩ := h₂
    refine ⟨?_, h₁⟩
    have e1 : ∀ (a : Act), a.eval (.tmp 14) = .agg A → a.eval (.tmp 15) = .string cr → a.eval (.tmp 16) = .string te → a.eval (.tmp 17) = .int .i64 (n : Nat) → (#[Operand.tmp 14, .tmp 15, .tmp 16, .tmp 17].map a.eval ++ Array.replicate (Try.f13.ntmps - (#[Operand.tmp 14, .tmp 15, .tmp 16, .tmp 17].map a.eval).size) undef) = #[.agg A, .string cr, .string te, .int .i64 (n : Nat), undef, undef, undef, undef, undef, undef, undef, undef, undef, undef, undef, undef, undef, undef, undef, undef, undef, undef, undef, undef, undef, undef, undef, undef] := fun a k0 k1 k2 k3 => by
      simp [k0, k1, k2, k3, Array.replicate, List.replicate]
    rw [e1 _ rfl rfl rfl rfl]
    rfl
theorem enter_bs (A : Array Value) (cr te : ByteArray) (n : Nat) : Frame.enter Try.prog 5 #[.agg A, .string cr, .string te, .int .i64 (n : Nat)] .normal = (base 5).at ⟨#[.agg A, .string cr, .string te, .int .i64 (n : Nat), undef, undef, undef, undef, undef, undef, undef, undef, undef, undef, undef, undef, undef, undef, undef, undef, undef, undef, undef, undef, undef, undef, undef, undef, undef, undef, undef, undef, undef, undef, undef, undef, undef], []⟩ [.code mB] := by
  simp [Frame.enter, Try.func5, Try.f5, mB, base, Frame.at, Array.replicate, List.replicate]
theorem keptB_trans {w1 w2 w3 : World} (h : Kept w1 w2) (k : Kept w2 w3) : Kept w1 w3 := ⟨fun b hb => (k.1 b (by
  have h1 := h.1 b hb
  have h2 : (w2.heap[b]?).isSome = true := by rw [h1]; simp [hb]
  simpa using h2)).trans (h.1 b hb), k.2.1.trans h.2.1, k.2.2.trans h.2.2⟩
/-- Where goroutine 0 comes to its end beside goroutines that only leave, the run is good. -/
theorem good_end {W w10 : World} {g0 g10 : Goroutine} {gs10 : Array Goroutine} {sl10 : Option (Nat × Nat)} {t10 : Trace} {q10 : Nat → Nat} {NN : Nat} (hr : runNT Try.prog NN (crowd #[g0] W none) #[] = (.next (crowd gs10 w10 sl10), t10)) (i10 : gs10[0]? = some g10) (hrun10 : g10.status = .running) (hend10 : ∀ W, stepG Try.prog true g10 W = .ended (.done (.bool true)) W #[]) (Q10 : Qt Try.prog gs10 t10 q10 w10.heap.size) (hkept : Kept W w10) :
    ∃ N last o w' t', runNT Try.prog (N + 1) (solo g0 W) #[] = (.ended o w', t') ∧ runN Try.prog N (solo g0 W) = .next last ∧ step Try.prog last = .ended o w' ∧ Conc.Good Try.prog (fun v W' => v = .bool true ∧ Kept W W') last o w' t' := by
  obtain ⟨B0, hP⟩ := Q10.past
  obtain ⟨N11, last, o, w', t', e1, e2, e3, e4⟩ := beside_ends (P := Try.prog) (Shun := fun _ => False) (B := B0) (D := fun _ _ _ => False) (Post := fun v W' => v = .bool true ∧ Kept W W') (sl := sl10) (n := 0) (fun _ _ _ h => h.elim) i10 Q10.leavers (hP B0 (Nat.le_refl _)) (Goes.stop fun w₂ h₂ => by
    obtain ⟨d, rfl⟩ := h₂
    exact ⟨hrun10, .bool true, #[], hend10 _, fun e he => by simp at he, rfl, hkept⟩)
  rw [solo_eq_crowd]
  refine ⟨NN + N11, last, o, w', t', ?_, ?_, e3, e4⟩
  · rw [Nat.add_assoc NN N11 1, runNT_add, hr]
    exact e1
  · rw [← runNT_fst _ _ _ #[], runNT_add, hr]
    show (runNT Try.prog N11 (crowd gs10 w10 sl10) t10).1 = _
    rw [runNT_fst]
    exact e2
set_option maxRecDepth 100000 in
set_option maxHeartbeats 8000000 in
theorem bsearches_run (a b c : Value) (g : Gm) (cr te : ByteArray) (hW0 : bwE g cr.data.toList te.data.toList = 0) (n : Nat) (hE : swE g (n : Int) = 0) (hfit : ∀ r, r < g.n → g.nl r * 8 ≤ 140737488355328) (hrl : g.rl * 8 ≤ 140737488355328) (W : World) (ha : WhR W a g.n g.wi g.nl g.no) (hb : NumsAt W b g.rl g.ri) (hc : NumsAt W c g.sl g.st) (ra : Rt W a) (rb : Rt W b) (rc : Rt W c) :
    ∃ N last o w' t', runNT Try.prog (N + 1) (solo (G (Frame.enter Try.prog 5 #[.agg (mac a b c g.rf g.pl), .string cr, .string te, .int .i64 (n : Nat)] .normal) []) W) #[] = (.ended o w', t') ∧ runN Try.prog N (solo (G (Frame.enter Try.prog 5 #[.agg (mac a b c g.rf g.pl), .string cr, .string te, .int .i64 (n : Nat)] .normal) []) W) = .next last ∧ step Try.prog last = .ended o w' ∧ Conc.Good Try.prog (fun v W' => v = .bool true ∧ Kept W W') last o w' t' := by
  have hG : Try.prog.globals.size ≤ Fns.G := Nat.le_refl _
  obtain ⟨hl, hBm⟩ := bms_exists hW0
  obtain ⟨A, hA0⟩ : ∃ A, A = mac a b c g.rf g.pl := ⟨_, rfl⟩
  have hA : A.size = 55 := by rw [hA0]; exact mac_size ..
  rw [← hA0, enter_bs]
  obtain ⟨mu1, G1⟩ := sb_head A hA cr te n [] W.heap W.os W.output W ⟨rfl, rfl, rfl⟩
  obtain ⟨N1, gs1, w1, sl1, t1, q1, g1, r1, z1, i1, ⟨rfl, I1⟩, Q1⟩ := beside_walk (sl := none) (gs := #[_]) (fun _ _ _ h => h) (fun g w h => by rw [h.1]; rfl) rfl G1 (qt_one Try.prog _ (fun _ => 0) W.heap.size)
  have d1 : w1.heap[W.heap.size]? = some (.cells A 27 (0, 0)) := by rw [I1.1, Array.getElem?_push, if_pos rfl]
  have o1 : ∀ b, b < W.heap.size → w1.heap[b]? = W.heap[b]? := fun b hb => by rw [I1.1, Array.getElem?_push, if_neg (by omega)]
  have k1 : Kept W w1 := ⟨o1, I1.2.1, I1.2.2⟩
  obtain ⟨N2, gs2, w2, sl2, t2, q2, u, r2, i2, hu, k2, Q2⟩ := bsearch_call a b c g cr te hl hBm hW0 n hE hfit hrl A hA0 w1 (whr_ag o1 ha) (nums_ag o1 hb) (nums_ag o1 hc) (rt_ag o1 ra) (rt_ag o1 rb) (rt_ag o1 rc) _ _ i1 Q1 sl1
  have k12 := keptB_trans k1 k2
  have d2 : w2.heap[W.heap.size]? = some (.cells (mac a b c g.rf g.pl) 27 (0, 0)) := by rw [← hA0]; exact (k2.1 _ (heap_lt d1)).trans d1
  obtain ⟨E, gl, wl, hin, hsh⟩ := bsearches_ghost (.agg A) undef undef undef (.bool false) undef undef undef undef undef (.agg A) (.string cr) (.string te) (.int .i64 (n : Nat)) undef undef undef undef undef undef undef undef undef undef undef undef undef undef undef undef undef undef W.heap.size a b c u g cr te hl hBm (n : Int) hW0 hE _ _ w2 d2 (whr_ag k12.1 ha) (nums_ag k12.1 hb) (nums_ag k12.1 hc) (rt_ag k12.1 ra) (rt_ag k12.1 rb) (rt_ag k12.1 rc) hu
  obtain ⟨N3, gs3, w3, sl3, t3, q3, E3, gl3, wl3, g3, r3, z3, i3, in3, st3, la3, fc3, Q3⟩ := beside_stop (sl := sl2) hG fd_fnsCode i2 hin Q2
  obtain ⟨v, v', wl4, hp, vr, hs, hend⟩ := in3.atEnd st3 (fn0 := 5) (t := 8) (la3.trans rfl) Try.func5 rfl (by kernel_rfl)
  subst hp
  cases vr
  have k3 : Kept w2 w3 := ⟨fun b hb => fc3.keep b hb (fun b' s e => by have := hsh _ _ _ _ e; cases this), fc3.os, fc3.output⟩
  refine good_end (NN := N1 + (N2 + N3)) (sl10 := sl3) ?_ i3 hs hend Q3 (keptB_trans k12 k3)
  rw [runNT_add]
  have r1' : runNT Try.prog N1 (crowd #[G ((base 5).at ⟨#[.agg A, .string cr, .string te, .int .i64 (n : Nat), undef, undef, undef, undef, undef, undef, undef, undef, undef, undef, undef, undef, undef, undef, undef, undef, undef, undef, undef, undef, undef, undef, undef, undef, undef, undef, undef, undef, undef, undef, undef, undef, undef], []⟩ [.code mB]) []] W none) #[] = (.next (crowd gs1 w1 sl1), t1) := r1
  rw [r1']
  show runNT Try.prog (N2 + N3) (crowd gs1 w1 sl1) t1 = _
  rw [runNT_add, r2]
  exact r3
end Go.Proofs.Ytbbpbcmpemmgjaa
