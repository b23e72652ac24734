/-
  Several texts, joined: RoSt, RoBe.
-/
import Derived.Test.YtkohhdkkbaifoaaGreatDoorJn5
import Derived.Scope
import Derived.WalkMore
import Derived.ScopeJumps
import Derived.Laws.AppendOwn
import Derived.OrdersHeld
import Derived.Deep.Upon
/-
  Contract of (*Rotor).Step.
-/
namespace Go.Proofs.YtkohhdkkbaifoaaGreatDoor
open Go.RowKit PK Vg

theorem rg_refl (w : World) (r : Option Nat) : w.grownBy w r := ⟨rfl, rfl, rfl, Nat.le_refl _, fun _ _ _ => rfl⟩
theorem rg_trans {a w w' : World} {r : Option Nat} (h : a.grownBy w r) (k : w.grownBy w' r) : a.grownBy w' r := ⟨k.os.trans h.os, k.tape.trans h.tape, k.output.trans h.output, Nat.le_trans h.size k.size, fun i hi hne => (k.block i (Nat.lt_of_lt_of_le hi h.size) hne).trans (h.block i hi hne)⟩
theorem rg_set {a w : World} {g : Nat} (h : a.grownBy w (some g)) (i : Nat) (v : Value) : a.grownBy (w.setCell ⟨g, i, none⟩ v) (some g) := by
  have := (Below.refl 0 w).setCell (p := ⟨g, i, none⟩) (Nat.zero_le _) v
  exact rg_trans h ⟨this.os, this.tape, this.output, this.size, fun k _ hne => heap_setCell_other w ⟨g, i, none⟩ k v (fun e => hne (by rw [e]))⟩
theorem RotAt.drewN {w : World} {b : Nat} {M : Om.Ma} {at' : Nat → Nat} (h : RotAt w b M at') (n : Nat) : RotAt (w.drewN n) b M at' := ⟨h.row, h.ok, h.ins⟩
theorem rg_drewN {a w : World} {r : Option Nat} (h : a.grownBy w r) (n : Nat) : a.grownBy (w.drewN n) r := ⟨h.os, h.tape, h.output, h.size, h.block⟩
/-- What holds at the label. -/
def StJ (w : World) (b : Nat) (M : Om.Ma) (at' : Nat → Nat) (a : Act) (W : World) : Prop :=
  ∃ (k : Nat) (US : Int) (CB : Bool), k ≤ M.n ∧ RotAt W b M (Om.mid M at' k) ∧ w.grownBy W (some b) ∧ CB = Om.car M at' k ∧ US = (k : Int) - 1 ∧ ∃ (u4 u5 u6 u7 u8 u9 u10 u11 u12 u13 u14 u15 u16 u17 u18 u19 u20 u21 u22 u23 u24 u25 u26 u27 u28 u29 u30 u31 u32 u33 u34 u35 u36 u37 u38 u39 u40 u41 u42 u43 u44 u45 u46 : Value), a = { tmps := #[.pointer (some ⟨b, 0, none⟩), undef, .int .i64 US, .bool CB, u4, u5, u6, u7, u8, u9, u10, u11, u12, u13, u14, u15, u16, u17, u18, u19, u20, u21, u22, u23, u24, u25, u26, u27, u28, u29, u30, u31, u32, u33, u34, u35, u36, u37, u38, u39, u40, u41, u42, u43, u44, u45, u46], defers := [] }
set_option maxRecDepth 1000000 in
set_option maxHeartbeats 8000000 in
theorem step_any (b : Nat) (M : Om.Ma) (at' : Nat → Nat) (w : World) (h : RotAt w b M at') : Calls Tryz.prog 132 #[.pointer (some ⟨b, 0, none⟩)] w fun e w' => e = .returned (.tuple #[]) ∧ RotAt w' b M (Om.step M at') ∧ w.grownBy w' (some b) := by
  have hn4 := h.ok.most
  have hn1 := h.ok.pos
  have hmany := h.many
  have HIN := (show Hid (Om.In26 M at') from h.ins)
  have htop := Om.car_top M at'
  have hrt : RotAt w b M (Om.mid M at' M.n) := by
    refine ⟨?_, h.ok, fun i hi => by rw [Om.mid_now _ _ hi]; exact h.ins i hi⟩
    have e : rotA M (Om.mid M at' M.n) M.n = rotA M at' M.n := tab_ext fun i _ => by
      unfold rotC
      by_cases h1 : i < 320
      · rw [if_pos h1, if_pos h1]
        by_cases h2 : i / 80 < M.n
        · rw [if_pos h2, if_pos h2, Om.mid_now _ _ h2]
        · rw [if_neg h2, if_neg h2]
      · rw [if_neg h1, if_neg h1]
    rw [e]
    exact h.row
  have hg0 := rg_refl w (some b)
  obtain ⟨n, hn⟩ : ∃ n, M.n = n + 1 := ⟨M.n - 1, by omega⟩
  go_enter Tryz.func132, Tryz.ntmps132
  go_wp2
  refine wp_scope_jumps 0 (StJ w b M at') (fun a' _ => (intOf (a'.tmps.getD 2 undef) + 1).toNat) rfl ?_ ?_
  · go_wp2
    go_step3
    rw [hn] at hrt htop
    have hk : n + 1 ≤ M.n := by omega
    clear h hmany
    generalize w.grownBy w (some b) = X at hg0
    have hw := hrt.window (q := n) (by omega)
    rw [Om.mid_now _ _ (Nat.lt_succ_self n)] at hw
    have hfr := hrt.row.frozen (n * 80 + 79)
    have hin := HIN.out n (by omega)
    have hno := hrt.no (q := n) (by omega) hin
    have hcar := Om.car_in (M := M) at' (k := n) (by omega)
    have hturn := Om.turns_car M at' n
    have HQ := (show Hid (Om.turns M at' n = true → ∀ nq, RotAt ((w.drewN nq).setCell ⟨b, n * 80 + 79, none⟩ (.int .i64 (((at' n + 1) % 26 : Nat) : Int))) b M (Om.mid M at' n)) from fun ht nq => by
      have := (hrt.drewN nq).turn (q := n) (by omega) (v := (at' n + 1) % 26) (Nat.mod_lt _ (by decide))
      rw [Om.mid_turn ht] at this
      exact this)
    have HS := (show Hid (Om.turns M at' n = false → ∀ nq, RotAt (w.drewN nq) b M (Om.mid M at' n)) from fun ht nq => by
      have := hrt.drewN nq
      rw [Om.mid_stay ht] at this
      exact this)
    have HG := (show Hid (∀ nq, w.grownBy (w.drewN nq) (some b)) from fun nq => rg_drewN (rg_refl w _) nq)
    have HK : Hid (n ≤ M.n) := (by omega : n ≤ M.n)
    rw [htop] at hturn
    clear hrt htop hg0 X
    generalize Om.turns M at' n = TT at *
    generalize at' n = A at *
    generalize (M.no n).contains A = BB at *
    have e2 : ((A : Int) + 1).tmod 26 = (((A + 1) % 26 : Nat) : Int) := by rw [Int.tmod_eq_emod_of_nonneg (by omega)]; omega
    generalize (A + 1) % 26 = A2 at *
    have HC := (show Hid _ from hcar)
    have HT := (show Hid _ from hturn)
    clear hcar hturn
    cases BB with
    | true =>
      have HTT : Hid (TT = true) := by rw [Hid, HT.out]; simp
      go_upto_region 3 with fail
      go_quiet (fail)
      go_wp2
      go_step3
      refine ⟨rfl, n, _, _, HK.out, HQ.out HTT.out _, rg_set (HG.out _) _ _, HC.out.symm, ?_, _, _, _, _, _, _, _, _, _, _, _, _, _, _, _, _, _, _, _, _, _, _, _, _, _, _, _, _, _, _, _, _, _, _, _, _, _, _, _, _, _, _, _, rfl⟩
      · rfl
    | false =>
      have HTT : Hid (TT = true) := by rw [Hid, HT.out]; simp
      go_upto_region 3 with fail
      go_quiet (fail)
      go_wp2
      go_step3
      refine ⟨rfl, n, _, _, HK.out, HQ.out HTT.out _, rg_set (HG.out _) _ _, HC.out.symm, ?_, _, _, _, _, _, _, _, _, _, _, _, _, _, _, _, _, _, _, _, _, _, _, _, _, _, _, _, _, _, _, _, _, _, _, _, _, _, _, _, _, _, _, _, rfl⟩
      · rfl
  · rintro a' W ⟨k, US, CB, hk, hr, hgr, hcb, rfl, u4, u5, u6, u7, u8, u9, u10, u11, u12, u13, u14, u15, u16, u17, u18, u19, u20, u21, u22, u23, u24, u25, u26, u27, u28, u29, u30, u31, u32, u33, u34, u35, u36, u37, u38, u39, u40, u41, u42, u43, u44, u45, u46, rfl⟩
    clear hmany hrt htop hg0 h hn
    cases k with
    | zero =>
      go_wp2
      simp only [Exit.jump]
      rw [Om.mid_all] at hr
      exact bodyPost_ret (results_none rfl _ _ _) rfl ⟨rfl, hr, hgr⟩
    | succ k =>
      have e1 : (((k + 1 : Nat) : Int) - 1) = (k : Int) := by omega
      rw [e1]
      clear e1
      have hw := hr.window (q := k) (by omega)
      rw [Om.mid_now _ _ (Nat.lt_succ_self k)] at hw
      have hfr := hr.row.frozen (k * 80 + 79)
      have hin := HIN.out k (by omega)
      have hno := hr.no (q := k) (by omega) hin
      have hcar := Om.car_in (M := M) at' (k := k) (by omega)
      have hturn := Om.turns_car M at' k
      have HQ := (show Hid (Om.turns M at' k = true → ∀ nq, RotAt ((W.drewN nq).setCell ⟨b, k * 80 + 79, none⟩ (.int .i64 (((at' k + 1) % 26 : Nat) : Int))) b M (Om.mid M at' k)) from fun ht nq => by
        have := (hr.drewN nq).turn (q := k) (by omega) (v := (at' k + 1) % 26) (Nat.mod_lt _ (by decide))
        rw [Om.mid_turn ht] at this
        exact this)
      have HS := (show Hid (Om.turns M at' k = false → ∀ nq, RotAt (W.drewN nq) b M (Om.mid M at' k)) from fun ht nq => by
        have := hr.drewN nq
        rw [Om.mid_stay ht] at this
        exact this)
      have HG := (show Hid (∀ nq, w.grownBy (W.drewN nq) (some b)) from fun nq => rg_drewN hgr nq)
      have HK : Hid (k ≤ M.n) := (by omega : k ≤ M.n)
      rw [← hcb] at hturn
      clear hr hgr hcb
      generalize Om.turns M at' k = TT at *
      generalize at' k = A at *
      generalize (M.no k).contains A = BB at *
      have e2 : ((A : Int) + 1).tmod 26 = (((A + 1) % 26 : Nat) : Int) := by rw [Int.tmod_eq_emod_of_nonneg (by omega)]; omega
      generalize (A + 1) % 26 = A2 at *
      have HC := (show Hid _ from hcar)
      have HT := (show Hid _ from hturn)
      clear hcar hturn
      cases CB with
      | true =>
        cases BB with
        | true =>
          have HTT : Hid (TT = true) := by rw [Hid, HT.out]; simp
          go_upto_region 3 with fail
          go_quiet (fail)
          go_wp2
          go_step3
          refine ⟨rfl, ⟨k, _, _, HK.out, HQ.out HTT.out _, rg_set (HG.out _) _ _, HC.out.symm, ?_, _, _, _, _, _, _, _, _, _, _, _, _, _, _, _, _, _, _, _, _, _, _, _, _, _, _, _, _, _, _, _, _, _, _, _, _, _, _, _, _, _, _, _, rfl⟩, ?_⟩
          · rfl
          · simp [intOf] <;> omega
        | false =>
          have HTT : Hid (TT = true) := by rw [Hid, HT.out]; simp
          go_upto_region 3 with fail
          go_quiet (fail)
          go_wp2
          go_step3
          refine ⟨rfl, ⟨k, _, _, HK.out, HQ.out HTT.out _, rg_set (HG.out _) _ _, HC.out.symm, ?_, _, _, _, _, _, _, _, _, _, _, _, _, _, _, _, _, _, _, _, _, _, _, _, _, _, _, _, _, _, _, _, _, _, _, _, _, _, _, _, _, _, _, _, rfl⟩, ?_⟩
          · rfl
          · simp [intOf] <;> omega
      | false =>
        cases BB with
        | true =>
          by_cases hz : 0 < k
          · have hz1 : (0 : Int) < (k : Int) := by omega
            have HTT : Hid (TT = true) := by rw [Hid, HT.out]; simp [hz]
            clear hz
            go_upto_region 3 with fail
            go_quiet (fail)
            go_wp2
            go_step3
            refine ⟨rfl, ⟨k, _, _, HK.out, HQ.out HTT.out _, rg_set (HG.out _) _ _, HC.out.symm, ?_, _, _, _, _, _, _, _, _, _, _, _, _, _, _, _, _, _, _, _, _, _, _, _, _, _, _, _, _, _, _, _, _, _, _, _, _, _, _, _, _, _, _, _, rfl⟩, ?_⟩
            · rfl
            · simp [intOf] <;> omega
          · have hz1 : ¬ (0 : Int) < (k : Int) := by omega
            have HTT : Hid (TT = false) := by rw [Hid, HT.out]; simp [hz]
            clear hz
            go_upto_region 3 with fail
            go_quiet (fail)
            go_wp2
            go_step3
            refine ⟨rfl, ⟨k, _, _, HK.out, HS.out HTT.out _, HG.out _, HC.out.symm, ?_, _, _, _, _, _, _, _, _, _, _, _, _, _, _, _, _, _, _, _, _, _, _, _, _, _, _, _, _, _, _, _, _, _, _, _, _, _, _, _, _, _, _, _, rfl⟩, ?_⟩
            · rfl
            · simp [intOf] <;> omega
        | false =>
          have HTT : Hid (TT = false) := by rw [Hid, HT.out]; simp
          go_upto_region 3 with fail
          go_quiet (fail)
          go_wp2
          go_step3
          refine ⟨rfl, ⟨k, _, _, HK.out, HS.out HTT.out _, HG.out _, HC.out.symm, ?_, _, _, _, _, _, _, _, _, _, _, _, _, _, _, _, _, _, _, _, _, _, _, _, _, _, _, _, _, _, _, _, _, _, _, _, _, _, _, _, _, _, _, _, rfl⟩, ?_⟩
          · rfl
          · simp [intOf] <;> omega
end Go.Proofs.YtkohhdkkbaifoaaGreatDoor

/-
  Contracts of (*Rotor).becomes, Now, Press.
-/
namespace Go.Proofs.YtkohhdkkbaifoaaGreatDoor
open Go.RowKit PK Vg

structure RbAt (w W : World) (b : Nat) (M : Om.Ma) (at' : Nat → Nat) : Prop where
  rot : RotAt W b M at'
  below : Below w.heap.size w W
section
variable {w W W' : World} {b : Nat} {M : Om.Ma} {at' : Nat → Nat}
theorem RbAt.new (h : RotAt w b M at') : RbAt w w b M at' := ⟨h, Below.refl _ _⟩
theorem RbAt.step (h : RbAt w W b M at') (hb : Below W.heap.size W W') : RbAt w W' b M at' := ⟨h.rot.below hb, h.below.trans (hb.mono h.below.size)⟩
theorem RbAt.drew (h : RbAt w W b M at') : RbAt w W.drew b M at' := ⟨h.rot.drew, h.below.drew⟩
theorem RbAt.alloc (h : RbAt w W b M at') (o : Obj) : RbAt w (W.alloc o) b M at' := ⟨h.rot.alloc o, h.below.alloc h.below.size o⟩
end
theorem Om.through_next {M : Om.Ma} (at' : Nat → Nat) {k : Nat} (hk : k < M.n) (x : Nat) : Om.wheel (M.wi k) (Om.by' M at' k) (Om.through M at' (M.n - (k + 1)) x) = Om.through M at' (M.n - k) x := by
  rw [show M.n - k = (M.n - (k + 1)) + 1 by omega]
  show _ = Om.wheel (M.wi (M.n - 1 - (M.n - (k + 1)))) (Om.by' M at' (M.n - 1 - (M.n - (k + 1)))) (Om.through M at' (M.n - (k + 1)) x)
  rw [show M.n - 1 - (M.n - (k + 1)) = k by omega]
set_option maxRecDepth 100000 in
set_option maxHeartbeats 4000000 in
theorem becomes_any (b : Nat) (M : Om.Ma) (at' : Nat → Nat) (c : Nat) (hc : c < 26) (w : World) (h : RotAt w b M at') : Calls Tryz.prog 134 #[.pointer (some ⟨b, 0, none⟩), .int .i64 (c : Nat)] w fun e w' => e = .returned (.int .i64 (Om.now M at' c : Nat)) ∧ Below w.heap.size w w' := by
  have hn4 := h.ok.most
  have hmany := h.many
  have hpl := h.plug hc
  have hlt := h.ok.pl.1 c hc
  have HOK := (show Hid (Om.Ok M) from h.ok)
  have HNOW := (show Hid _ from Om.now_eq h.ok at' hc)
  generalize Om.now M at' c = E at *
  generalize M.pl c = P1 at *
  have HP1 : Hid (P1 < 26) := hlt
  have h0 := RbAt.new h
  clear h
  go_enter Tryz.func134, Tryz.ntmps134
  go_wp2_with fail
  go_loopw [5, 1] (fun i x W => ∃ k : Nat, k ≤ M.n ∧ i = .int .i64 ((k : Int) - 1) ∧ x = .int .i64 (Om.through M at' (M.n - k) P1 : Nat) ∧ RbAt w W b M at') (fun i _ _ => (intOf i + 1).toNat)
  case atStart => exact ⟨M.n, by omega, rfl, by rw [Nat.sub_self]; rfl, h0⟩
  case round =>
    clear h0 hmany hpl hlt
    obtain ⟨k, hk, rfl, rfl, hg⟩ := hrel
    cases k with
    | zero =>
      have e0 : (((0 : Nat) : Int) - 1) = -1 := rfl
      rw [e0]
      clear e0
      have h1 := Om.through_lt (M := M) at' HP1.out M.n
      have HT := (show Hid (E = M.pl (Om.bk M at' M.n (M.rf (Om.through M at' M.n P1)))) from HNOW.out)
      rw [Nat.sub_zero]
      generalize Om.through M at' M.n P1 = T1 at *
      have hrf := hg.rot.refl h1
      have hr1 := HOK.out.rf.1 _ h1
      have hmany := hg.rot.many
      generalize M.rf T1 = R1 at *
      have HR1 : Hid (R1 < 26) := hr1
      have hg0 := hg
      clear hg hr1
      go_wp2_with fail
      go_loopw [46, 1] (fun i x W => ∃ k : Nat, k ≤ M.n ∧ i = .int .i64 (k : Nat) ∧ x = .int .i64 (Om.bk M at' k R1 : Nat) ∧ RbAt w W b M at') (fun i _ _ => ((M.n : Int) - intOf i).toNat)
      case atStart => exact ⟨0, by omega, rfl, rfl, hg0⟩
      case round =>
        clear hg0 hmany hrf h1
        obtain ⟨k, hk, rfl, rfl, hg⟩ := hrel
        by_cases hlt : k < M.n
        · have HLT : Hid (k < M.n) := hlt
          have HC : Hid (Om.bk M at' k R1 < 26) := Om.bk_lt at' HR1.out k
          have HPL := (show Hid (∀ c, c < 26 → Pm.inv (M.wi k) c < 26) from (HOK.out.wi k hlt).inv.1)
          have HNX := (show Hid (Om.wheel (Pm.inv (M.wi k)) (Om.by' M at' k) (Om.bk M at' k R1) = Om.bk M at' (k + 1) R1) from rfl)
          generalize Om.bk M at' k R1 = C at *
          go_upto_region 12 with fail
          refine wp_region_noPanic ?_
          refine wp_region_held_drew (S := fun W => RbAt w W b M at') (by kernel_rfl) hg.drew (fun hS => ?_)
          refine vtake 0 54 (.pointer (some ⟨b, k * 80, none⟩)) rfl rfl (by kernel_rfl) (by kernel_rfl) (by kernel_rfl) (fun _ _ _ _ h => h) (by rfl) (fun W hW => by clear hS hW; go_simp) hS ?_
          simp only [List.setIfInBounds_toArray, List.set_cons_succ, List.set_cons_zero]
          refine vtake 1 55 (.pointer (some ⟨b, k * 80, none⟩)) rfl rfl (by kernel_rfl) (by kernel_rfl) (by kernel_rfl) (fun _ _ _ _ h => h) (by rfl) (fun W hW => by clear hS hW; go_simp) hS ?_
          simp only [List.setIfInBounds_toArray, List.set_cons_succ, List.set_cons_zero]
          refine vtake 2 56 (.pointer (some ⟨b, k * 80 + 26, none⟩)) rfl rfl (by kernel_rfl) (by kernel_rfl) (by kernel_rfl) (fun _ _ _ _ h => h) (by rfl) (fun W hW => by clear hS hW; go_simp) hS ?_
          simp only [List.setIfInBounds_toArray, List.set_cons_succ, List.set_cons_zero]
          refine vtake 3 57 (.pointer (some ⟨b, k * 80, none⟩)) rfl rfl (by kernel_rfl) (by kernel_rfl) (by kernel_rfl) (fun _ _ _ _ h => h) (by rfl) (fun W hW => by clear hS hW; go_simp) hS ?_
          simp only [List.setIfInBounds_toArray, List.set_cons_succ, List.set_cons_zero]
          refine vtake 5 59 (.int .i64 (C : Nat)) rfl rfl (by kernel_rfl) (by kernel_rfl) (by kernel_rfl) (fun _ _ _ _ h => h) (by rfl) (fun W hW => by clear hS hW; go_simp) hS ?_
          simp only [List.setIfInBounds_toArray, List.set_cons_succ, List.set_cons_zero]
          refine wpAnyH_ready (rs := [4]) (by kernel_rfl) (by simp) ?_
          refine AllReadyH.cons (o := _) rfl (fun K hK => ?_) AllReadyH.nil
          rw [if_pos (by rfl)]
          go_simp
          refine Calls.mono (by_any b k M at' HLT.out _ hS.rot) ?_
          rintro e Y ⟨rfl, hb8⟩
          refine hK.out _ _ (hS.step hb8) (fun hS1 => ?_)
          clear hK hS K
          have hS := hS1
          clear hS1
          refine wpAnyH_ready (rs := [6]) (by kernel_rfl) (by simp) ?_
          refine AllReadyH.cons (o := _) rfl (fun K hK => ?_) AllReadyH.nil
          rw [if_pos (by rfl)]
          go_simp
          refine Calls.mono (thr_any b (k * 80 + 26) (Pm.inv (M.wi k)) (Om.by' M at' k) C (Om.by_lt _ _ _) HC.out HPL.out _ (fun _ h => hS.rot.back HLT.out h)) ?_
          rintro e Y ⟨rfl, rfl⟩
          refine hK.out _ _ (hS) (fun hS1 => ?_)
          clear hK hS K
          have hS := hS1
          clear hS1
          refine vtake 7 1 (.int .i64 (Om.wheel (Pm.inv (M.wi k)) (Om.by' M at' k) C : Nat)) rfl rfl (by kernel_rfl) (by kernel_rfl) (by kernel_rfl) (fun _ _ _ _ h => h) (by rfl) (fun W hW => by clear hS hW; go_simp) hS ?_
          simp only [List.setIfInBounds_toArray, List.set_cons_succ, List.set_cons_zero]
          refine wpAnyH_done (by kernel_rfl) ?_ _
          refine NoPanic.normal ?_
          go_wp2_with fail
          go_roundw
          case rel => exact ⟨k + 1, HLT.out, by go_num, by rw [HNX.out], hS⟩
          case measure => have := HLT.out; simp [intOf]; omega
        · obtain rfl : k = M.n := by omega
          have hnl : ¬ ((M.n : Nat) : Int) < ((M.n : Nat) : Int) := by omega
          have hB := Om.bk_lt (M := M) at' HR1.out M.n
          generalize Om.bk M at' M.n R1 = B1 at *
          have hpl := hg.rot.plug hB
          have hbe := hg.below
          clear hg
          go_wp2
          go_ret
          exact ⟨by rw [HT.out]; rfl, hbe⟩
    | succ k =>
      have hlt : k < M.n := by omega
      have HLT : Hid (k < M.n) := hlt
      have HNX := (show Hid _ from Om.through_next at' hlt P1)
      have HC : Hid (Om.through M at' (M.n - (k + 1)) P1 < 26) := Om.through_lt at' HP1.out _
      have HPL := (show Hid (∀ c, c < 26 → M.wi k c < 26) from (HOK.out.wi k hlt).1)
      generalize Om.through M at' (M.n - (k + 1)) P1 = C at *
      have e1 : (((k + 1 : Nat) : Int) - 1) = (k : Int) := by omega
      rw [e1]
      clear e1
      go_upto_region 6 with fail
      refine wp_region_noPanic ?_
      refine wp_region_held_drew (S := fun W => RbAt w W b M at') (by kernel_rfl) hg.drew (fun hS => ?_)
      refine vtake 0 29 (.pointer (some ⟨b, k * 80, none⟩)) rfl rfl (by kernel_rfl) (by kernel_rfl) (by kernel_rfl) (fun _ _ _ _ h => h) (by rfl) (fun W hW => by clear hS hW; go_simp) hS ?_
      simp only [List.setIfInBounds_toArray, List.set_cons_succ, List.set_cons_zero]
      refine vtake 1 30 (.pointer (some ⟨b, k * 80, none⟩)) rfl rfl (by kernel_rfl) (by kernel_rfl) (by kernel_rfl) (fun _ _ _ _ h => h) (by rfl) (fun W hW => by clear hS hW; go_simp) hS ?_
      simp only [List.setIfInBounds_toArray, List.set_cons_succ, List.set_cons_zero]
      refine vtake 2 31 (.pointer (some ⟨b, k * 80, none⟩)) rfl rfl (by kernel_rfl) (by kernel_rfl) (by kernel_rfl) (fun _ _ _ _ h => h) (by rfl) (fun W hW => by clear hS hW; go_simp) hS ?_
      simp only [List.setIfInBounds_toArray, List.set_cons_succ, List.set_cons_zero]
      refine vtake 3 32 (.pointer (some ⟨b, k * 80, none⟩)) rfl rfl (by kernel_rfl) (by kernel_rfl) (by kernel_rfl) (fun _ _ _ _ h => h) (by rfl) (fun W hW => by clear hS hW; go_simp) hS ?_
      simp only [List.setIfInBounds_toArray, List.set_cons_succ, List.set_cons_zero]
      refine vtake 5 34 (.int .i64 (C : Nat)) rfl rfl (by kernel_rfl) (by kernel_rfl) (by kernel_rfl) (fun _ _ _ _ h => h) (by rfl) (fun W hW => by clear hS hW; go_simp) hS ?_
      simp only [List.setIfInBounds_toArray, List.set_cons_succ, List.set_cons_zero]
      refine wpAnyH_ready (rs := [4]) (by kernel_rfl) (by simp) ?_
      refine AllReadyH.cons (o := _) rfl (fun K hK => ?_) AllReadyH.nil
      rw [if_pos (by rfl)]
      go_simp
      refine Calls.mono (by_any b k M at' HLT.out _ hS.rot) ?_
      rintro e Y ⟨rfl, hb8⟩
      refine hK.out _ _ (hS.step hb8) (fun hS1 => ?_)
      clear hK hS K
      have hS := hS1
      clear hS1
      refine wpAnyH_ready (rs := [6]) (by kernel_rfl) (by simp) ?_
      refine AllReadyH.cons (o := _) rfl (fun K hK => ?_) AllReadyH.nil
      rw [if_pos (by rfl)]
      go_simp
      refine Calls.mono (thr_any b (k * 80) (M.wi k) (Om.by' M at' k) C (Om.by_lt _ _ _) HC.out HPL.out _ (fun _ h => hS.rot.there HLT.out h)) ?_
      rintro e Y ⟨rfl, rfl⟩
      refine hK.out _ _ (hS) (fun hS1 => ?_)
      clear hK hS K
      have hS := hS1
      clear hS1
      refine vtake 7 1 (.int .i64 (Om.wheel (M.wi k) (Om.by' M at' k) C : Nat)) rfl rfl (by kernel_rfl) (by kernel_rfl) (by kernel_rfl) (fun _ _ _ _ h => h) (by rfl) (fun W hW => by clear hS hW; go_simp) hS ?_
      simp only [List.setIfInBounds_toArray, List.set_cons_succ, List.set_cons_zero]
      refine wpAnyH_done (by kernel_rfl) ?_ _
      refine NoPanic.normal ?_
      go_wp2_with fail
      go_roundw
      case rel => exact ⟨k, by have := HLT.out; omega, rfl, by rw [HNX.out], hS⟩
      case measure => simp [intOf]
end Go.Proofs.YtkohhdkkbaifoaaGreatDoor
