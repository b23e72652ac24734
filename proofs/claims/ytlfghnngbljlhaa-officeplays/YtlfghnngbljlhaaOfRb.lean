/-
  The document's office (chapter 16): begin.
-/
import Derived.Test.YtlfghnngbljlhaaOfR
import Derived.OrdersHeld
import Derived.Deep.Upon
import Derived.Deep.RegionHeld
import Derived.Deep.RegionHeld3
namespace Go.Proofs.Ytlfghnngbljlhaa
open Go.RowKit PK Pd

set_option maxRecDepth 100000 in
set_option maxHeartbeats 2000000 in
theorem rbegin_bad {w : World} {b : Bk} {vp : Value} {D : Nat} {d : Nat → Int} {E se re : Int} {dd : Bool} (h : Ro7 w b vp D d E se re dd) (hE : E ≠ 0) : Calls Try.prog 15 #[.pointer (some ⟨b.be, 0, none⟩), .pointer (some ⟨b.bp, 0, none⟩), .pointer (some ⟨b.bd, 0, none⟩), .pointer (some ⟨b.bs, 0, none⟩), .pointer (some ⟨b.br, 0, none⟩), .pointer (some ⟨b.bx, 0, none⟩)] w fun e w' => w = w' ∧ e = .returned (.tuple #[]) := by
  have c1 : w.cell? ⟨b.be, 0, none⟩ = some (.int .i64 E) := h.re'.cell rfl
  have hE2 : (E == 0) = false := by simpa using hE
  clear h hE
  go_enter Try.func15, Try.ntmps15
  go_wp2
  refine bodyPost_end (results_none rfl _ _ _) rfl ?_
  exact ⟨rfl, rfl⟩
set_option maxRecDepth 100000 in
set_option maxHeartbeats 4000000 in
theorem rbegin_ok {w : World} {b : Bk} {a : Option Addr} {P c : Nat} {D : Nat} {d : Nat → Int} {se re : Int} {dd : Bool} (h : Ro7 w b (.slice a P c) D d 0 se re dd) (hP : P ≤ maxLen) (hD : 2 ≤ D) : Calls Try.prog 15 #[.pointer (some ⟨b.be, 0, none⟩), .pointer (some ⟨b.bp, 0, none⟩), .pointer (some ⟨b.bd, 0, none⟩), .pointer (some ⟨b.bs, 0, none⟩), .pointer (some ⟨b.br, 0, none⟩), .pointer (some ⟨b.bx, 0, none⟩)] w fun e w' => Fr [b.bs, b.br, b.bx] w w' ∧ e = .returned (.tuple #[]) ∧ Ro7 w' b (.slice a P c) D d 0 (Oc.us P (d 0) : Nat) (Oc.us P (d 1) : Nat) false := by
  have HPL : Hid (∀ W x, Calls Try.prog 16 #[.slice a P c, .int .i64 x] W fun e w' => W = w' ∧ e = .returned (.int .i64 (Oc.us P x : Nat))) := fun W x => rplace_any a P c hP x W
  obtain ⟨cap, cur, h1, h2, h3, h4⟩ := h.rd
  have c1 : w.cell? ⟨b.be, 0, none⟩ = some (.int .i64 0) := h.re'.cell rfl
  have c2 : w.cell? ⟨b.bp, 0, none⟩ = some (.slice a P c) := h.rp.cell rfl
  have c3 : w.cell? ⟨b.bd, 0, none⟩ = some (.slice (some ⟨b.g, 0, none⟩) D cap) := h1.cell rfl
  have c4 : w.cell? ⟨b.g, 0, none⟩ = some (.int .i64 (d 0)) := h2.cell (h3 0 (by omega))
  have c5 : w.cell? ⟨b.g, 1, none⟩ = some (.int .i64 (d 1)) := h2.cell (h3 1 (by omega))
  have c6 : w.cell? ⟨b.bs, 0, none⟩ = some (.int .i64 se) := h.rs.cell rfl
  have f6 := h.rs.frozen 0
  have hs1 := h.setS (Oc.us P (d 0) : Nat)
  have hs2 := hs1.setR (Oc.us P (d 1) : Nat)
  have hs3 := hs2.setX false
  have c7 := hs1.rr.cell (i := 0) rfl
  have f7 := hs1.rr.frozen 0
  have c8 := hs2.rx.cell (i := 0) rfl
  have f8 := hs2.rx.frozen 0
  have HX := (show Hid _ from hs3)
  have HH := (show Hid (Ro7 w b (.slice a P c) D d 0 se re dd) from h)
  have hf : Fr [b.bs, b.br, b.bx] w (((w.setCell ⟨b.bs, 0, none⟩ (.int .i64 (Oc.us P (d 0) : Nat))).setCell ⟨b.br, 0, none⟩ (.int .i64 (Oc.us P (d 1) : Nat))).setCell ⟨b.bx, 0, none⟩ (.bool false)) := ((Fr.set _ _ 0 _ (by simp)).trans (Fr.set _ _ 0 _ (by simp))).trans (Fr.set _ _ 0 _ (by simp))
  have HF := (show Hid _ from hf)
  have hD1 : (1 : Int) < (D : Int) := by omega
  have hD0 : (0 : Int) < (D : Int) := by omega
  have hDN0 : 0 < D := by omega
  have hDN1 : 1 < D := by omega
  unfold maxLen at h4
  clear h h1 h2 h3 hs1 hs2 hs3 hf hP
  go_enter Try.func15, Try.ntmps15
  go_upto_region 1 with fail
  have hSd : w.drew.cell? ⟨b.bp, 0, none⟩ = some (.slice a P c) ∧ w.drew.cell? ⟨b.bd, 0, none⟩ = some (.slice (some ⟨b.g, 0, none⟩) D cap) ∧ w.drew.cell? ⟨b.g, 0, none⟩ = some (.int .i64 (d 0)) ∧ w.drew.cell? ⟨b.g, 1, none⟩ = some (.int .i64 (d 1)) := ⟨c2, c3, c4, c5⟩
  have HFD : Hid (Fr [b.bs, b.br, b.bx] w (((w.drew.setCell ⟨b.bs, 0, none⟩ (.int .i64 (Oc.us P (d 0) : Nat))).setCell ⟨b.br, 0, none⟩ (.int .i64 (Oc.us P (d 1) : Nat))).setCell ⟨b.bx, 0, none⟩ (.bool false))) := (Fr.of_below _ (Below.refl _ _).drew).trans (((Fr.set _ _ 0 _ (by simp)).trans (Fr.set _ _ 0 _ (by simp))).trans (Fr.set _ _ 0 _ (by simp)))
  have HXD : Hid (Ro7 (((w.drew.setCell ⟨b.bs, 0, none⟩ (.int .i64 (Oc.us P (d 0) : Nat))).setCell ⟨b.br, 0, none⟩ (.int .i64 (Oc.us P (d 1) : Nat))).setCell ⟨b.bx, 0, none⟩ (.bool false)) b (.slice a P c) D d 0 (Oc.us P (d 0) : Nat) (Oc.us P (d 1) : Nat) false) := (((HH.out.below (Below.refl _ _).drew).setS _).setR _).setX _
  have HO := (show Hid (b.bp < b.g ∧ b.g < b.bd ∧ b.bd < b.be ∧ b.be < b.bs ∧ b.bs < b.br ∧ b.br < b.bx) from HH.out.ok)
  have HS0 : Hid (∀ (W : World) (k : Nat) (v : Value), k = b.bs ∨ k = b.br ∨ k = b.bx → (W.cell? ⟨b.bp, 0, none⟩ = some (.slice a P c) ∧ W.cell? ⟨b.bd, 0, none⟩ = some (.slice (some ⟨b.g, 0, none⟩) D cap) ∧ W.cell? ⟨b.g, 0, none⟩ = some (.int .i64 (d 0)) ∧ W.cell? ⟨b.g, 1, none⟩ = some (.int .i64 (d 1))) → ((W.setCell ⟨k, 0, none⟩ v).cell? ⟨b.bp, 0, none⟩ = some (.slice a P c) ∧ (W.setCell ⟨k, 0, none⟩ v).cell? ⟨b.bd, 0, none⟩ = some (.slice (some ⟨b.g, 0, none⟩) D cap) ∧ (W.setCell ⟨k, 0, none⟩ v).cell? ⟨b.g, 0, none⟩ = some (.int .i64 (d 0)) ∧ (W.setCell ⟨k, 0, none⟩ v).cell? ⟨b.g, 1, none⟩ = some (.int .i64 (d 1)))) := fun W k v hk hh => by
    have o := HO.out
    have hf := Fr.set [k] W 0 v (b := k) (by simp)
    exact ⟨hf.cell hh.1 (by simp; omega), hf.cell hh.2.1 (by simp; omega), hf.cell hh.2.2.1 (by simp; omega), hf.cell hh.2.2.2 (by simp; omega)⟩
  clear c2 c3 c4 c5 HH HF HX
  have HF := HFD
  have HX := HXD
  clear HFD HXD
  obtain ⟨c6d, f6d⟩ : w.drew.cell? ⟨b.bs, 0, none⟩ = some (.int .i64 se) ∧ w.drew.frozen? ⟨b.bs, 0, none⟩ = false := ⟨c6, f6⟩
  obtain ⟨c7d, f7d⟩ : (w.drew.setCell ⟨b.bs, 0, none⟩ (.int .i64 (Oc.us P (d 0) : Nat))).cell? ⟨b.br, 0, none⟩ = some (.int .i64 re) ∧ (w.drew.setCell ⟨b.bs, 0, none⟩ (.int .i64 (Oc.us P (d 0) : Nat))).frozen? ⟨b.br, 0, none⟩ = false := ⟨c7, f7⟩
  obtain ⟨c8d, f8d⟩ : ((w.drew.setCell ⟨b.bs, 0, none⟩ (.int .i64 (Oc.us P (d 0) : Nat))).setCell ⟨b.br, 0, none⟩ (.int .i64 (Oc.us P (d 1) : Nat))).cell? ⟨b.bx, 0, none⟩ = some (.bool dd) ∧ ((w.drew.setCell ⟨b.bs, 0, none⟩ (.int .i64 (Oc.us P (d 0) : Nat))).setCell ⟨b.br, 0, none⟩ (.int .i64 (Oc.us P (d 1) : Nat))).frozen? ⟨b.bx, 0, none⟩ = false := ⟨c8, f8⟩
  clear c6 f6 c7 f7 c8 f8
  obtain ⟨U, hU⟩ : ∃ U, U = w.drew := ⟨_, rfl⟩
  refine wp_region_noPanic ?_
  refine wp_region_held_drew (S := fun W => W.cell? ⟨b.bp, 0, none⟩ = some (.slice a P c) ∧ W.cell? ⟨b.bd, 0, none⟩ = some (.slice (some ⟨b.g, 0, none⟩) D cap) ∧ W.cell? ⟨b.g, 0, none⟩ = some (.int .i64 (d 0)) ∧ W.cell? ⟨b.g, 1, none⟩ = some (.int .i64 (d 1))) (by kernel_rfl) hSd (fun hS => ?_)
  clear hSd
  rw [← hU] at hS c6d f6d c7d f7d c8d f8d HF HX ⊢
  clear hU
  have HS1 := (show Hid (∀ {v : Value} {W : World}, (W.cell? ⟨b.bp, 0, none⟩ = some (.slice a P c) ∧ W.cell? ⟨b.bd, 0, none⟩ = some (.slice (some ⟨b.g, 0, none⟩) D cap) ∧ W.cell? ⟨b.g, 0, none⟩ = some (.int .i64 (d 0)) ∧ W.cell? ⟨b.g, 1, none⟩ = some (.int .i64 (d 1))) → ((W.setCell ⟨b.bs, 0, none⟩ v).cell? ⟨b.bp, 0, none⟩ = some (.slice a P c) ∧ (W.setCell ⟨b.bs, 0, none⟩ v).cell? ⟨b.bd, 0, none⟩ = some (.slice (some ⟨b.g, 0, none⟩) D cap) ∧ (W.setCell ⟨b.bs, 0, none⟩ v).cell? ⟨b.g, 0, none⟩ = some (.int .i64 (d 0)) ∧ (W.setCell ⟨b.bs, 0, none⟩ v).cell? ⟨b.g, 1, none⟩ = some (.int .i64 (d 1)))) from fun {v W} h => HS0.out W b.bs v (.inl rfl) h)
  have HS2 := (show Hid (∀ {v : Value} {W : World}, (W.cell? ⟨b.bp, 0, none⟩ = some (.slice a P c) ∧ W.cell? ⟨b.bd, 0, none⟩ = some (.slice (some ⟨b.g, 0, none⟩) D cap) ∧ W.cell? ⟨b.g, 0, none⟩ = some (.int .i64 (d 0)) ∧ W.cell? ⟨b.g, 1, none⟩ = some (.int .i64 (d 1))) → ((W.setCell ⟨b.br, 0, none⟩ v).cell? ⟨b.bp, 0, none⟩ = some (.slice a P c) ∧ (W.setCell ⟨b.br, 0, none⟩ v).cell? ⟨b.bd, 0, none⟩ = some (.slice (some ⟨b.g, 0, none⟩) D cap) ∧ (W.setCell ⟨b.br, 0, none⟩ v).cell? ⟨b.g, 0, none⟩ = some (.int .i64 (d 0)) ∧ (W.setCell ⟨b.br, 0, none⟩ v).cell? ⟨b.g, 1, none⟩ = some (.int .i64 (d 1)))) from fun {v W} h => HS0.out W b.br v (.inr (.inl rfl)) h)
  have HS3 := (show Hid (∀ {v : Value} {W : World}, (W.cell? ⟨b.bp, 0, none⟩ = some (.slice a P c) ∧ W.cell? ⟨b.bd, 0, none⟩ = some (.slice (some ⟨b.g, 0, none⟩) D cap) ∧ W.cell? ⟨b.g, 0, none⟩ = some (.int .i64 (d 0)) ∧ W.cell? ⟨b.g, 1, none⟩ = some (.int .i64 (d 1))) → ((W.setCell ⟨b.bx, 0, none⟩ v).cell? ⟨b.bp, 0, none⟩ = some (.slice a P c) ∧ (W.setCell ⟨b.bx, 0, none⟩ v).cell? ⟨b.bd, 0, none⟩ = some (.slice (some ⟨b.g, 0, none⟩) D cap) ∧ (W.setCell ⟨b.bx, 0, none⟩ v).cell? ⟨b.g, 0, none⟩ = some (.int .i64 (d 0)) ∧ (W.setCell ⟨b.bx, 0, none⟩ v).cell? ⟨b.g, 1, none⟩ = some (.int .i64 (d 1)))) from fun {v W} h => HS0.out W b.bx v (.inr (.inr rfl)) h)
  clear HS0
  refine vtake 0 8 (.slice a P c) rfl rfl (by kernel_rfl) (by kernel_rfl) (by kernel_rfl) (fun _ _ _ _ h => h) (by rfl) (fun W hW => by have k1 := hW.1; have k2 := hW.2.1; have k3 := hW.2.2.1; have k4 := hW.2.2.2; clear hS hW; go_simp) hS ?_
  simp only [List.setIfInBounds_toArray, List.set_cons_succ, List.set_cons_zero]
  refine vtake 1 9 (.slice (some ⟨b.g, 0, none⟩) D cap) rfl rfl (by kernel_rfl) (by kernel_rfl) (by kernel_rfl) (fun _ _ _ _ h => h) (by rfl) (fun W hW => by have k1 := hW.1; have k2 := hW.2.1; have k3 := hW.2.2.1; have k4 := hW.2.2.2; clear hS hW; go_simp) hS ?_
  simp only [List.setIfInBounds_toArray, List.set_cons_succ, List.set_cons_zero]
  refine vtake 2 10 (.pointer (some ⟨b.g, 0, none⟩)) rfl rfl (by kernel_rfl) (by kernel_rfl) (by kernel_rfl) (fun _ _ _ _ h => h) (by rfl) (fun W hW => by clear hS hW; go_simp) hS ?_
  simp only [List.setIfInBounds_toArray, List.set_cons_succ, List.set_cons_zero]
  refine vtake 3 11 (.int .i64 (d 0)) rfl rfl (by kernel_rfl) (by kernel_rfl) (by kernel_rfl) (fun _ _ _ _ h => h) (by rfl) (fun W hW => by have k1 := hW.1; have k2 := hW.2.1; have k3 := hW.2.2.1; have k4 := hW.2.2.2; clear hS hW; go_simp) hS ?_
  simp only [List.setIfInBounds_toArray, List.set_cons_succ, List.set_cons_zero]
  refine vtake 5 13 (.slice a P c) rfl rfl (by kernel_rfl) (by kernel_rfl) (by kernel_rfl) (fun _ _ _ _ h => h) (by rfl) (fun W hW => by have k1 := hW.1; have k2 := hW.2.1; have k3 := hW.2.2.1; have k4 := hW.2.2.2; clear hS hW; go_simp) hS ?_
  simp only [List.setIfInBounds_toArray, List.set_cons_succ, List.set_cons_zero]
  refine vtake 6 14 (.slice (some ⟨b.g, 0, none⟩) D cap) rfl rfl (by kernel_rfl) (by kernel_rfl) (by kernel_rfl) (fun _ _ _ _ h => h) (by rfl) (fun W hW => by have k1 := hW.1; have k2 := hW.2.1; have k3 := hW.2.2.1; have k4 := hW.2.2.2; clear hS hW; go_simp) hS ?_
  simp only [List.setIfInBounds_toArray, List.set_cons_succ, List.set_cons_zero]
  refine vtake 7 15 (.pointer (some ⟨b.g, 1, none⟩)) rfl rfl (by kernel_rfl) (by kernel_rfl) (by kernel_rfl) (fun _ _ _ _ h => h) (by rfl) (fun W hW => by clear hS hW; go_simp) hS ?_
  simp only [List.setIfInBounds_toArray, List.set_cons_succ, List.set_cons_zero]
  refine vtake 8 16 (.int .i64 (d 1)) rfl rfl (by kernel_rfl) (by kernel_rfl) (by kernel_rfl) (fun _ _ _ _ h => h) (by rfl) (fun W hW => by have k1 := hW.1; have k2 := hW.2.1; have k3 := hW.2.2.1; have k4 := hW.2.2.2; clear hS hW; go_simp) hS ?_
  simp only [List.setIfInBounds_toArray, List.set_cons_succ, List.set_cons_zero]
  refine wpAnyH_ready (rs := [4]) (by kernel_rfl) (by simp) ?_
  refine AllReadyH.cons (o := _) rfl (fun K hK => ?_) AllReadyH.nil
  rw [if_pos (by rfl)]
  go_simp
  refine Calls.mono (HPL.out _ _) ?_
  rintro e Y ⟨rfl, rfl⟩
  refine hK.out _ _ (hS) (fun hS1 => ?_)
  clear hK hS K
  have hS := hS1
  clear hS1
  refine wpAnyH_ready (rs := [9]) (by kernel_rfl) (by simp) ?_
  refine AllReadyH.cons (o := _) rfl (fun K hK => ?_) AllReadyH.nil
  rw [if_pos (by rfl)]
  go_simp
  refine Calls.mono (HPL.out _ _) ?_
  rintro e Y ⟨rfl, rfl⟩
  refine hK.out _ _ (hS) (fun hS1 => ?_)
  clear hK hS K
  have hS := hS1
  clear hS1
  refine wpAnyH_ready (rs := [10]) (by kernel_rfl) (by simp) ?_
  refine AllReadyH.cons (o := _) rfl (fun K hK => ?_) AllReadyH.nil
  rw [if_pos (by rfl)]
  go_simp
  refine hK.out _ _ (HS1.out hS) (fun hS1 => ?_)
  clear hK hS K
  have hS := hS1
  clear hS1
  refine wpAnyH_ready (rs := [11]) (by kernel_rfl) (by simp) ?_
  refine AllReadyH.cons (o := _) rfl (fun K hK => ?_) AllReadyH.nil
  rw [if_pos (by rfl)]
  go_simp
  refine hK.out _ _ (HS2.out hS) (fun hS1 => ?_)
  clear hK hS K
  have hS := hS1
  clear hS1
  refine wpAnyH_ready (rs := [12]) (by kernel_rfl) (by simp) ?_
  refine AllReadyH.cons (o := _) rfl (fun K hK => ?_) AllReadyH.nil
  rw [if_pos (by rfl)]
  go_simp
  refine hK.out _ _ (HS3.out hS) (fun hS1 => ?_)
  clear hK hS K hS1
  refine wpAnyH_done (by kernel_rfl) ?_ _
  refine NoPanic.normal ?_
  go_wp2_with fail
  refine bodyPost_end (results_none rfl _ _ _) rfl ?_
  exact ⟨HF.out, rfl, HX.out⟩
end Go.Proofs.Ytlfghnngbljlhaa
