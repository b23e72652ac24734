/-
  Contract of (*Rotor).Step.
-/
import Derived.Test.YtigamiehnjipcaaJn6
import Derived.Scope
import Derived.WalkMore
import Derived.ScopeJumps
import Derived.Laws.AppendOwn
namespace Go.Proofs.Ytigamiehnjipcaa
open Go.RowKit PK Vg

theorem rg_refl (w : World) (r : Option Nat) : w.grownBy w r := ⟨rfl, rfl, rfl, Nat.le_refl _, fun _ _ _ => rfl⟩
theorem rg_below {a w w' : World} {r : Option Nat} (h : a.grownBy w r) (k : Below w.heap.size w w') : a.grownBy w' r := ⟨k.os.trans h.os, k.tape.trans h.tape, k.output.trans h.output, Nat.le_trans h.size k.size, fun i hi hne => (k.block i (Nat.lt_of_lt_of_le hi h.size)).trans (h.block i hi hne)⟩
theorem rg_trans {a w w' : World} {r : Option Nat} (h : a.grownBy w r) (k : w.grownBy w' r) : a.grownBy w' r := ⟨k.os.trans h.os, k.tape.trans h.tape, k.output.trans h.output, Nat.le_trans h.size k.size, fun i hi hne => (k.block i (Nat.lt_of_lt_of_le hi h.size) hne).trans (h.block i hi hne)⟩
theorem rg_set {a w : World} {g : Nat} (h : a.grownBy w (some g)) (i : Nat) (v : Value) : a.grownBy (w.setCell ⟨g, i, none⟩ v) (some g) := by
  have := (Below.refl 0 w).setCell (p := ⟨g, i, none⟩) (Nat.zero_le _) v
  exact rg_trans h ⟨this.os, this.tape, this.output, this.size, fun k _ hne => heap_setCell_other w ⟨g, i, none⟩ k v (fun e => hne (by rw [e]))⟩
theorem rg_to {w w' : World} {g B : Nat} (h : w.grownBy w' (some g)) (hB : B ≤ w.heap.size) (hg : B ≤ g) : Below B w w' := ⟨h.os, h.tape, h.output, h.size, fun k hk => h.block k (by omega) (by intro e; cases e; omega)⟩
theorem RotAt.drewN {w : World} {b : Nat} {M : Om.Ma} {at' : Nat → Nat} (h : RotAt w b M at') (n : Nat) : RotAt (w.drewN n) b M at' := ⟨h.row, h.ok, h.ins⟩
theorem rg_drewN {a w : World} {r : Option Nat} (h : a.grownBy w r) (n : Nat) : a.grownBy (w.drewN n) r := ⟨h.os, h.tape, h.output, h.size, h.block⟩
/-- What holds at the label. -/
def StJ (w : World) (b : Nat) (M : Om.Ma) (at' : Nat → Nat) (a : Act) (W : World) : Prop :=
  ∃ (k : Nat) (US : Int) (CB : Bool), k ≤ M.n ∧ RotAt W b M (Om.mid M at' k) ∧ w.grownBy W (some b) ∧ CB = Om.car M at' k ∧ US = (k : Int) - 1 ∧ ∃ (u4 u5 u6 u7 u8 u9 u10 u11 u12 u13 u14 u15 u16 u17 u18 u19 u20 u21 u22 u23 u24 u25 u26 u27 u28 u29 u30 u31 u32 u33 u34 u35 u36 u37 u38 u39 u40 u41 u42 u43 u44 u45 u46 : Value), a = { tmps := #[.pointer (some ⟨b, 0, none⟩), undef, .int .i64 US, .bool CB, u4, u5, u6, u7, u8, u9, u10, u11, u12, u13, u14, u15, u16, u17, u18, u19, u20, u21, u22, u23, u24, u25, u26, u27, u28, u29, u30, u31, u32, u33, u34, u35, u36, u37, u38, u39, u40, u41, u42, u43, u44, u45, u46], defers := [] }
set_option maxRecDepth 1000000 in
set_option maxHeartbeats 8000000 in
theorem step_any (b : Nat) (M : Om.Ma) (at' : Nat → Nat) (w : World) (h : RotAt w b M at') : Calls Try.prog 27 #[.pointer (some ⟨b, 0, none⟩)] w fun e w' => e = .returned (.tuple #[]) ∧ RotAt w' b M (Om.step M at') ∧ w.grownBy w' (some b) := by
  have hn4 := h.ok.most
  have hn1 := h.ok.pos
  have hmany := h.many
  have HIN := (show Hid (Om.In26 M at') from h.ins)
  have htop := Om.car_top M at'
  have hrt : RotAt w b M (Om.mid M at' M.n) := by
    refine ⟨?_, h.ok, fun i hi => by rw [Om.mid_now _ _ hi]; exact h.ins i hi⟩
    have e : rotA M (Om.mid M at' M.n) M.n = rotA M at' M.n := tab_ext fun i _ => by
      unfold rotC
      by_cases h1 : i < 320
      · rw [if_pos h1, if_pos h1]
        by_cases h2 : i / 80 < M.n
        · rw [if_pos h2, if_pos h2, Om.mid_now _ _ h2]
        · rw [if_neg h2, if_neg h2]
      · rw [if_neg h1, if_neg h1]
    rw [e]
    exact h.row
  have hg0 := rg_refl w (some b)
  obtain ⟨n, hn⟩ : ∃ n, M.n = n + 1 := ⟨M.n - 1, by omega⟩
  go_enter Try.func27, Try.ntmps27
  go_wp2
  refine wp_scope_jumps 0 (StJ w b M at') (fun a' _ => (intOf (a'.tmps.getD 2 undef) + 1).toNat) rfl ?_ ?_
  · go_wp2
    go_step3
    rw [hn] at hrt htop
    have hk : n + 1 ≤ M.n := by omega
    clear h hmany
    generalize w.grownBy w (some b) = X at hg0
    have hw := hrt.window (q := n) (by omega)
    rw [Om.mid_now _ _ (Nat.lt_succ_self n)] at hw
    have hfr := hrt.row.frozen (n * 80 + 79)
    have hin := HIN.out n (by omega)
    have hno := hrt.no (q := n) (by omega) hin
    have hcar := Om.car_in (M := M) at' (k := n) (by omega)
    have hturn := Om.turns_car M at' n
    have HQ := (show Hid (Om.turns M at' n = true → ∀ nq, RotAt ((w.drewN nq).setCell ⟨b, n * 80 + 79, none⟩ (.int .i64 (((at' n + 1) % 26 : Nat) : Int))) b M (Om.mid M at' n)) from fun ht nq => by
      have := (hrt.drewN nq).turn (q := n) (by omega) (v := (at' n + 1) % 26) (Nat.mod_lt _ (by decide))
      rw [Om.mid_turn ht] at this
      exact this)
    have HS := (show Hid (Om.turns M at' n = false → ∀ nq, RotAt (w.drewN nq) b M (Om.mid M at' n)) from fun ht nq => by
      have := hrt.drewN nq
      rw [Om.mid_stay ht] at this
      exact this)
    have HG := (show Hid (∀ nq, w.grownBy (w.drewN nq) (some b)) from fun nq => rg_drewN (rg_refl w _) nq)
    have HK : Hid (n ≤ M.n) := (by omega : n ≤ M.n)
    rw [htop] at hturn
    clear hrt htop hg0 X
    generalize Om.turns M at' n = TT at *
    generalize at' n = A at *
    generalize (M.no n).contains A = BB at *
    have e2 : ((A : Int) + 1).tmod 26 = (((A + 1) % 26 : Nat) : Int) := by rw [Int.tmod_eq_emod_of_nonneg (by omega)]; omega
    generalize (A + 1) % 26 = A2 at *
    have HC := (show Hid _ from hcar)
    have HT := (show Hid _ from hturn)
    clear hcar hturn
    cases BB with
    | true =>
      have HTT : Hid (TT = true) := by rw [Hid, HT.out]; simp
      go_upto_region 3 with fail
      go_quiet (fail)
      go_wp2
      go_step3
      refine ⟨rfl, n, _, _, HK.out, HQ.out HTT.out _, rg_set (HG.out _) _ _, HC.out.symm, ?_, _, _, _, _, _, _, _, _, _, _, _, _, _, _, _, _, _, _, _, _, _, _, _, _, _, _, _, _, _, _, _, _, _, _, _, _, _, _, _, _, _, _, _, rfl⟩
      · rfl
    | false =>
      have HTT : Hid (TT = true) := by rw [Hid, HT.out]; simp
      go_upto_region 3 with fail
      go_quiet (fail)
      go_wp2
      go_step3
      refine ⟨rfl, n, _, _, HK.out, HQ.out HTT.out _, rg_set (HG.out _) _ _, HC.out.symm, ?_, _, _, _, _, _, _, _, _, _, _, _, _, _, _, _, _, _, _, _, _, _, _, _, _, _, _, _, _, _, _, _, _, _, _, _, _, _, _, _, _, _, _, _, rfl⟩
      · rfl
  · rintro a' W ⟨k, US, CB, hk, hr, hgr, hcb, rfl, u4, u5, u6, u7, u8, u9, u10, u11, u12, u13, u14, u15, u16, u17, u18, u19, u20, u21, u22, u23, u24, u25, u26, u27, u28, u29, u30, u31, u32, u33, u34, u35, u36, u37, u38, u39, u40, u41, u42, u43, u44, u45, u46, rfl⟩
    clear hmany hrt htop hg0 h hn
    cases k with
    | zero =>
      go_wp2
      simp only [Exit.jump]
      rw [Om.mid_all] at hr
      exact bodyPost_ret (results_none rfl _ _ _) rfl ⟨rfl, hr, hgr⟩
    | succ k =>
      have e1 : (((k + 1 : Nat) : Int) - 1) = (k : Int) := by omega
      rw [e1]
      clear e1
      have hw := hr.window (q := k) (by omega)
      rw [Om.mid_now _ _ (Nat.lt_succ_self k)] at hw
      have hfr := hr.row.frozen (k * 80 + 79)
      have hin := HIN.out k (by omega)
      have hno := hr.no (q := k) (by omega) hin
      have hcar := Om.car_in (M := M) at' (k := k) (by omega)
      have hturn := Om.turns_car M at' k
      have HQ := (show Hid (Om.turns M at' k = true → ∀ nq, RotAt ((W.drewN nq).setCell ⟨b, k * 80 + 79, none⟩ (.int .i64 (((at' k + 1) % 26 : Nat) : Int))) b M (Om.mid M at' k)) from fun ht nq => by
        have := (hr.drewN nq).turn (q := k) (by omega) (v := (at' k + 1) % 26) (Nat.mod_lt _ (by decide))
        rw [Om.mid_turn ht] at this
        exact this)
      have HS := (show Hid (Om.turns M at' k = false → ∀ nq, RotAt (W.drewN nq) b M (Om.mid M at' k)) from fun ht nq => by
        have := hr.drewN nq
        rw [Om.mid_stay ht] at this
        exact this)
      have HG := (show Hid (∀ nq, w.grownBy (W.drewN nq) (some b)) from fun nq => rg_drewN hgr nq)
      have HK : Hid (k ≤ M.n) := (by omega : k ≤ M.n)
      rw [← hcb] at hturn
      clear hr hgr hcb
      generalize Om.turns M at' k = TT at *
      generalize at' k = A at *
      generalize (M.no k).contains A = BB at *
      have e2 : ((A : Int) + 1).tmod 26 = (((A + 1) % 26 : Nat) : Int) := by rw [Int.tmod_eq_emod_of_nonneg (by omega)]; omega
      generalize (A + 1) % 26 = A2 at *
      have HC := (show Hid _ from hcar)
      have HT := (show Hid _ from hturn)
      clear hcar hturn
      cases CB with
      | true =>
        cases BB with
        | true =>
          have HTT : Hid (TT = true) := by rw [Hid, HT.out]; simp
          go_upto_region 3 with fail
          go_quiet (fail)
          go_wp2
          go_step3
          refine ⟨rfl, ⟨k, _, _, HK.out, HQ.out HTT.out _, rg_set (HG.out _) _ _, HC.out.symm, ?_, _, _, _, _, _, _, _, _, _, _, _, _, _, _, _, _, _, _, _, _, _, _, _, _, _, _, _, _, _, _, _, _, _, _, _, _, _, _, _, _, _, _, _, rfl⟩, ?_⟩
          · rfl
          · simp [intOf] <;> omega
        | false =>
          have HTT : Hid (TT = true) := by rw [Hid, HT.out]; simp
          go_upto_region 3 with fail
          go_quiet (fail)
          go_wp2
          go_step3
          refine ⟨rfl, ⟨k, _, _, HK.out, HQ.out HTT.out _, rg_set (HG.out _) _ _, HC.out.symm, ?_, _, _, _, _, _, _, _, _, _, _, _, _, _, _, _, _, _, _, _, _, _, _, _, _, _, _, _, _, _, _, _, _, _, _, _, _, _, _, _, _, _, _, _, rfl⟩, ?_⟩
          · rfl
          · simp [intOf] <;> omega
      | false =>
        cases BB with
        | true =>
          by_cases hz : 0 < k
          · have hz1 : (0 : Int) < (k : Int) := by omega
            have HTT : Hid (TT = true) := by rw [Hid, HT.out]; simp [hz]
            clear hz
            go_upto_region 3 with fail
            go_quiet (fail)
            go_wp2
            go_step3
            refine ⟨rfl, ⟨k, _, _, HK.out, HQ.out HTT.out _, rg_set (HG.out _) _ _, HC.out.symm, ?_, _, _, _, _, _, _, _, _, _, _, _, _, _, _, _, _, _, _, _, _, _, _, _, _, _, _, _, _, _, _, _, _, _, _, _, _, _, _, _, _, _, _, _, rfl⟩, ?_⟩
            · rfl
            · simp [intOf] <;> omega
          · have hz1 : ¬ (0 : Int) < (k : Int) := by omega
            have HTT : Hid (TT = false) := by rw [Hid, HT.out]; simp [hz]
            clear hz
            go_upto_region 3 with fail
            go_quiet (fail)
            go_wp2
            go_step3
            refine ⟨rfl, ⟨k, _, _, HK.out, HS.out HTT.out _, HG.out _, HC.out.symm, ?_, _, _, _, _, _, _, _, _, _, _, _, _, _, _, _, _, _, _, _, _, _, _, _, _, _, _, _, _, _, _, _, _, _, _, _, _, _, _, _, _, _, _, _, rfl⟩, ?_⟩
            · rfl
            · simp [intOf] <;> omega
        | false =>
          have HTT : Hid (TT = false) := by rw [Hid, HT.out]; simp
          go_upto_region 3 with fail
          go_quiet (fail)
          go_wp2
          go_step3
          refine ⟨rfl, ⟨k, _, _, HK.out, HS.out HTT.out _, HG.out _, HC.out.symm, ?_, _, _, _, _, _, _, _, _, _, _, _, _, _, _, _, _, _, _, _, _, _, _, _, _, _, _, _, _, _, _, _, _, _, _, _, _, _, _, _, _, _, _, _, rfl⟩, ?_⟩
          · rfl
          · simp [intOf] <;> omega
end Go.Proofs.Ytigamiehnjipcaa
