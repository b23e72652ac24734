/-
  Contracts of (*Rotor).becomes, Now, Press.
-/
import Derived.Test.YtigamiehnjipcaaRoSt
import Derived.OrdersHeld
import Derived.Deep.Upon
namespace Go.Proofs.Ytigamiehnjipcaa
open Go.RowKit PK Vg

structure RbAt (w W : World) (b : Nat) (M : Om.Ma) (at' : Nat → Nat) : Prop where
  rot : RotAt W b M at'
  below : Below w.heap.size w W
section
variable {w W W' : World} {b : Nat} {M : Om.Ma} {at' : Nat → Nat}
theorem RbAt.new (h : RotAt w b M at') : RbAt w w b M at' := ⟨h, Below.refl _ _⟩
theorem RbAt.step (h : RbAt w W b M at') (hb : Below W.heap.size W W') : RbAt w W' b M at' := ⟨h.rot.below hb, h.below.trans (hb.mono h.below.size)⟩
theorem RbAt.drew (h : RbAt w W b M at') : RbAt w W.drew b M at' := ⟨h.rot.drew, h.below.drew⟩
theorem RbAt.alloc (h : RbAt w W b M at') (o : Obj) : RbAt w (W.alloc o) b M at' := ⟨h.rot.alloc o, h.below.alloc h.below.size o⟩
end
theorem Om.through_next {M : Om.Ma} (at' : Nat → Nat) {k : Nat} (hk : k < M.n) (x : Nat) : Om.wheel (M.wi k) (Om.by' M at' k) (Om.through M at' (M.n - (k + 1)) x) = Om.through M at' (M.n - k) x := by
  rw [show M.n - k = (M.n - (k + 1)) + 1 by omega]
  show _ = Om.wheel (M.wi (M.n - 1 - (M.n - (k + 1)))) (Om.by' M at' (M.n - 1 - (M.n - (k + 1)))) (Om.through M at' (M.n - (k + 1)) x)
  rw [show M.n - 1 - (M.n - (k + 1)) = k by omega]
set_option maxRecDepth 100000 in
set_option maxHeartbeats 4000000 in
theorem becomes_any (b : Nat) (M : Om.Ma) (at' : Nat → Nat) (c : Nat) (hc : c < 26) (w : World) (h : RotAt w b M at') : Calls Try.prog 48 #[.pointer (some ⟨b, 0, none⟩), .int .i64 (c : Nat)] w fun e w' => e = .returned (.int .i64 (Om.now M at' c : Nat)) ∧ Below w.heap.size w w' := by
  have hn4 := h.ok.most
  have hmany := h.many
  have hpl := h.plug hc
  have hlt := h.ok.pl.1 c hc
  have HOK := (show Hid (Om.Ok M) from h.ok)
  have HNOW := (show Hid _ from Om.now_eq h.ok at' hc)
  generalize Om.now M at' c = E at *
  generalize M.pl c = P1 at *
  have HP1 : Hid (P1 < 26) := hlt
  have h0 := RbAt.new h
  clear h
  go_enter Try.func48, Try.ntmps48
  go_wp2_with fail
  go_loopw [5, 1] (fun i x W => ∃ k : Nat, k ≤ M.n ∧ i = .int .i64 ((k : Int) - 1) ∧ x = .int .i64 (Om.through M at' (M.n - k) P1 : Nat) ∧ RbAt w W b M at') (fun i _ _ => (intOf i + 1).toNat)
  case atStart => exact ⟨M.n, by omega, rfl, by rw [Nat.sub_self]; rfl, h0⟩
  case round =>
    clear h0 hmany hpl hlt
    obtain ⟨k, hk, rfl, rfl, hg⟩ := hrel
    cases k with
    | zero =>
      have e0 : (((0 : Nat) : Int) - 1) = -1 := rfl
      rw [e0]
      clear e0
      have h1 := Om.through_lt (M := M) at' HP1.out M.n
      have HT := (show Hid (E = M.pl (Om.bk M at' M.n (M.rf (Om.through M at' M.n P1)))) from HNOW.out)
      rw [Nat.sub_zero]
      generalize Om.through M at' M.n P1 = T1 at *
      have hrf := hg.rot.refl h1
      have hr1 := HOK.out.rf.1 _ h1
      have hmany := hg.rot.many
      generalize M.rf T1 = R1 at *
      have HR1 : Hid (R1 < 26) := hr1
      have hg0 := hg
      clear hg hr1
      go_wp2_with fail
      go_loopw [46, 1] (fun i x W => ∃ k : Nat, k ≤ M.n ∧ i = .int .i64 (k : Nat) ∧ x = .int .i64 (Om.bk M at' k R1 : Nat) ∧ RbAt w W b M at') (fun i _ _ => ((M.n : Int) - intOf i).toNat)
      case atStart => exact ⟨0, by omega, rfl, rfl, hg0⟩
      case round =>
        clear hg0 hmany hrf h1
        obtain ⟨k, hk, rfl, rfl, hg⟩ := hrel
        by_cases hlt : k < M.n
        · have HLT : Hid (k < M.n) := hlt
          have HC : Hid (Om.bk M at' k R1 < 26) := Om.bk_lt at' HR1.out k
          have HPL := (show Hid (∀ c, c < 26 → Pm.inv (M.wi k) c < 26) from (HOK.out.wi k hlt).inv.1)
          have HNX := (show Hid (Om.wheel (Pm.inv (M.wi k)) (Om.by' M at' k) (Om.bk M at' k R1) = Om.bk M at' (k + 1) R1) from rfl)
          generalize Om.bk M at' k R1 = C at *
          go_upto_region 12 with fail
          refine wp_region_noPanic ?_
          refine wp_region_held_drew (S := fun W => RbAt w W b M at') (by kernel_rfl) hg.drew (fun hS => ?_)
          refine vtake 0 54 (.pointer (some ⟨b, k * 80, none⟩)) rfl rfl (by kernel_rfl) (by kernel_rfl) (by kernel_rfl) (fun _ _ _ _ h => h) (by rfl) (fun W hW => by clear hS hW; go_simp) hS ?_
          simp only [List.setIfInBounds_toArray, List.set_cons_succ, List.set_cons_zero]
          refine vtake 1 55 (.pointer (some ⟨b, k * 80, none⟩)) rfl rfl (by kernel_rfl) (by kernel_rfl) (by kernel_rfl) (fun _ _ _ _ h => h) (by rfl) (fun W hW => by clear hS hW; go_simp) hS ?_
          simp only [List.setIfInBounds_toArray, List.set_cons_succ, List.set_cons_zero]
          refine vtake 2 56 (.pointer (some ⟨b, k * 80 + 26, none⟩)) rfl rfl (by kernel_rfl) (by kernel_rfl) (by kernel_rfl) (fun _ _ _ _ h => h) (by rfl) (fun W hW => by clear hS hW; go_simp) hS ?_
          simp only [List.setIfInBounds_toArray, List.set_cons_succ, List.set_cons_zero]
          refine vtake 3 57 (.pointer (some ⟨b, k * 80, none⟩)) rfl rfl (by kernel_rfl) (by kernel_rfl) (by kernel_rfl) (fun _ _ _ _ h => h) (by rfl) (fun W hW => by clear hS hW; go_simp) hS ?_
          simp only [List.setIfInBounds_toArray, List.set_cons_succ, List.set_cons_zero]
          refine vtake 5 59 (.int .i64 (C : Nat)) rfl rfl (by kernel_rfl) (by kernel_rfl) (by kernel_rfl) (fun _ _ _ _ h => h) (by rfl) (fun W hW => by clear hS hW; go_simp) hS ?_
          simp only [List.setIfInBounds_toArray, List.set_cons_succ, List.set_cons_zero]
          refine wpAnyH_ready (rs := [4]) (by kernel_rfl) (by simp) ?_
          refine AllReadyH.cons (o := _) rfl (fun K hK => ?_) AllReadyH.nil
          rw [if_pos (by rfl)]
          go_simp
          refine Calls.mono (by_any b k M at' HLT.out _ hS.rot) ?_
          rintro e Y ⟨rfl, hb8⟩
          refine hK.out _ _ (hS.step hb8) (fun hS1 => ?_)
          clear hK hS K
          have hS := hS1
          clear hS1
          refine wpAnyH_ready (rs := [6]) (by kernel_rfl) (by simp) ?_
          refine AllReadyH.cons (o := _) rfl (fun K hK => ?_) AllReadyH.nil
          rw [if_pos (by rfl)]
          go_simp
          refine Calls.mono (thr_any b (k * 80 + 26) (Pm.inv (M.wi k)) (Om.by' M at' k) C (Om.by_lt _ _ _) HC.out HPL.out _ (fun _ h => hS.rot.back HLT.out h)) ?_
          rintro e Y ⟨rfl, rfl⟩
          refine hK.out _ _ (hS) (fun hS1 => ?_)
          clear hK hS K
          have hS := hS1
          clear hS1
          refine vtake 7 1 (.int .i64 (Om.wheel (Pm.inv (M.wi k)) (Om.by' M at' k) C : Nat)) rfl rfl (by kernel_rfl) (by kernel_rfl) (by kernel_rfl) (fun _ _ _ _ h => h) (by rfl) (fun W hW => by clear hS hW; go_simp) hS ?_
          simp only [List.setIfInBounds_toArray, List.set_cons_succ, List.set_cons_zero]
          refine wpAnyH_done (by kernel_rfl) ?_ _
          refine NoPanic.normal ?_
          go_wp2_with fail
          go_roundw
          case rel => exact ⟨k + 1, HLT.out, by go_num, by rw [HNX.out], hS⟩
          case measure => have := HLT.out; simp [intOf]; omega
        · obtain rfl : k = M.n := by omega
          have hnl : ¬ ((M.n : Nat) : Int) < ((M.n : Nat) : Int) := by omega
          have hB := Om.bk_lt (M := M) at' HR1.out M.n
          generalize Om.bk M at' M.n R1 = B1 at *
          have hpl := hg.rot.plug hB
          have hbe := hg.below
          clear hg
          go_wp2
          go_ret
          exact ⟨by rw [HT.out]; rfl, hbe⟩
    | succ k =>
      have hlt : k < M.n := by omega
      have HLT : Hid (k < M.n) := hlt
      have HNX := (show Hid _ from Om.through_next at' hlt P1)
      have HC : Hid (Om.through M at' (M.n - (k + 1)) P1 < 26) := Om.through_lt at' HP1.out _
      have HPL := (show Hid (∀ c, c < 26 → M.wi k c < 26) from (HOK.out.wi k hlt).1)
      generalize Om.through M at' (M.n - (k + 1)) P1 = C at *
      have e1 : (((k + 1 : Nat) : Int) - 1) = (k : Int) := by omega
      rw [e1]
      clear e1
      go_upto_region 6 with fail
      refine wp_region_noPanic ?_
      refine wp_region_held_drew (S := fun W => RbAt w W b M at') (by kernel_rfl) hg.drew (fun hS => ?_)
      refine vtake 0 29 (.pointer (some ⟨b, k * 80, none⟩)) rfl rfl (by kernel_rfl) (by kernel_rfl) (by kernel_rfl) (fun _ _ _ _ h => h) (by rfl) (fun W hW => by clear hS hW; go_simp) hS ?_
      simp only [List.setIfInBounds_toArray, List.set_cons_succ, List.set_cons_zero]
      refine vtake 1 30 (.pointer (some ⟨b, k * 80, none⟩)) rfl rfl (by kernel_rfl) (by kernel_rfl) (by kernel_rfl) (fun _ _ _ _ h => h) (by rfl) (fun W hW => by clear hS hW; go_simp) hS ?_
      simp only [List.setIfInBounds_toArray, List.set_cons_succ, List.set_cons_zero]
      refine vtake 2 31 (.pointer (some ⟨b, k * 80, none⟩)) rfl rfl (by kernel_rfl) (by kernel_rfl) (by kernel_rfl) (fun _ _ _ _ h => h) (by rfl) (fun W hW => by clear hS hW; go_simp) hS ?_
      simp only [List.setIfInBounds_toArray, List.set_cons_succ, List.set_cons_zero]
      refine vtake 3 32 (.pointer (some ⟨b, k * 80, none⟩)) rfl rfl (by kernel_rfl) (by kernel_rfl) (by kernel_rfl) (fun _ _ _ _ h => h) (by rfl) (fun W hW => by clear hS hW; go_simp) hS ?_
      simp only [List.setIfInBounds_toArray, List.set_cons_succ, List.set_cons_zero]
      refine vtake 5 34 (.int .i64 (C : Nat)) rfl rfl (by kernel_rfl) (by kernel_rfl) (by kernel_rfl) (fun _ _ _ _ h => h) (by rfl) (fun W hW => by clear hS hW; go_simp) hS ?_
      simp only [List.setIfInBounds_toArray, List.set_cons_succ, List.set_cons_zero]
      refine wpAnyH_ready (rs := [4]) (by kernel_rfl) (by simp) ?_
      refine AllReadyH.cons (o := _) rfl (fun K hK => ?_) AllReadyH.nil
      rw [if_pos (by rfl)]
      go_simp
      refine Calls.mono (by_any b k M at' HLT.out _ hS.rot) ?_
      rintro e Y ⟨rfl, hb8⟩
      refine hK.out _ _ (hS.step hb8) (fun hS1 => ?_)
      clear hK hS K
      have hS := hS1
      clear hS1
      refine wpAnyH_ready (rs := [6]) (by kernel_rfl) (by simp) ?_
      refine AllReadyH.cons (o := _) rfl (fun K hK => ?_) AllReadyH.nil
      rw [if_pos (by rfl)]
      go_simp
      refine Calls.mono (thr_any b (k * 80) (M.wi k) (Om.by' M at' k) C (Om.by_lt _ _ _) HC.out HPL.out _ (fun _ h => hS.rot.there HLT.out h)) ?_
      rintro e Y ⟨rfl, rfl⟩
      refine hK.out _ _ (hS) (fun hS1 => ?_)
      clear hK hS K
      have hS := hS1
      clear hS1
      refine vtake 7 1 (.int .i64 (Om.wheel (M.wi k) (Om.by' M at' k) C : Nat)) rfl rfl (by kernel_rfl) (by kernel_rfl) (by kernel_rfl) (fun _ _ _ _ h => h) (by rfl) (fun W hW => by clear hS hW; go_simp) hS ?_
      simp only [List.setIfInBounds_toArray, List.set_cons_succ, List.set_cons_zero]
      refine wpAnyH_done (by kernel_rfl) ?_ _
      refine NoPanic.normal ?_
      go_wp2_with fail
      go_roundw
      case rel => exact ⟨k, by have := HLT.out; omega, rfl, by rw [HNX.out], hS⟩
      case measure => simp [intOf]
end Go.Proofs.Ytigamiehnjipcaa
