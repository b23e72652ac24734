/-
  Several texts, joined: RoSm, RoSt.
-/
import Derived.Test.YtibkcgjofcfoaaaRoKit
import Derived.Test.YtibkcgjofcfoaaaJn4
import Derived.RegionTactic
import Derived.Scope
import Derived.WalkMore
import Derived.ScopeJumps
import Derived.Laws.AppendOwn
/-
  Contracts of rotor's small functions.
-/
namespace Go.Proofs.Ytibkcgjofcfoaaa
open Go.RowKit PK Vg

def isN (n : Int) : Bool := decide (0 ≤ n ∧ n ≤ 25)
set_option maxHeartbeats 400000 in
theorem isLetter8_any (c : Int) (w : World) : Calls Try.prog 57 #[.int .i64 c] w fun e w' => e = .returned (.bool (isN c)) ∧ w = w' := by
  by_cases h1 : 0 ≤ c
  · by_cases h2 : c < 26
    · have e : isN c = true := by simp [isN]; omega
      go_enter Try.func57, Try.ntmps57
      go_wp2
      go_ret
      exact ⟨by rw [e]; rfl, rfl⟩
    · have e : isN c = false := by simp [isN]; omega
      go_enter Try.func57, Try.ntmps57
      go_wp2
      go_ret
      exact ⟨rfl, rfl⟩
  · have e : isN c = false := by simp [isN]; omega
    go_enter Try.func57, Try.ntmps57
    go_wp2
    go_ret
    exact ⟨rfl, rfl⟩
set_option maxRecDepth 100000 in
set_option maxHeartbeats 1000000 in
theorem areLetters_any (v : Value) (n : Nat) (f : Nat → Int) (w : World) (hv : NumsAt w v n f) : Calls Try.prog 68 #[v] w fun e w' => e = .returned (.bool (ins n f)) ∧ w = w' := by
  obtain ⟨a, cap, rfl, hm, hc⟩ := hv
  have HC := (show Hid _ from hc)
  unfold maxLen at hm
  clear hc
  have HU := (show Hid (∀ k, k < n → (f k < 0 ∨ 25 < f k) → ins n f = false) from fun k hk h => ins_upto hk h)
  have HA := (show Hid ((∀ i, i < n → 0 ≤ f i ∧ f i ≤ 25) → ins n f = true) from (ins_iff n f).2)
  generalize ins n f = B at *
  go_enter Try.func68, Try.ntmps68
  go_wp2_with fail
  go_loopw [7] (fun i W => ∃ k : Nat, k ≤ n ∧ i = .int .i64 (k : Nat) ∧ Hid (∀ i, i < k → 0 ≤ f i ∧ f i ≤ 25) ∧ w = W) (fun i _ => ((n : Int) - intOf i).toNat)
  case atStart => exact ⟨0, by omega, rfl, fun i hi => by omega, rfl⟩
  case round =>
    obtain ⟨k, hk, rfl, HS, rfl⟩ := hrel
    by_cases hlt : k < n
    · obtain ⟨b, o, rfl, hc0⟩ := HC.out k hlt
      have HLT : Hid (k < n) := hlt
      by_cases hx : isN (f k) = true
      · have hx3 : 0 ≤ f k ∧ f k ≤ 25 := by simpa [isN] using hx
        have HN : Hid (∀ i, i < k + 1 → 0 ≤ f i ∧ f i ≤ 25) := fun i hi => by
          by_cases e : i = k
          · rw [e]; exact hx3
          · exact HS.out i (by omega)
        have HL := (show Hid (∀ W, Calls Try.prog 57 #[.int .i64 (f k)] W fun e w' => e = .returned (.bool true) ∧ W = w') from fun W => by have := isLetter8_any (f k) W; rw [hx] at this; exact this)
        clear hx hx3
        go_wp2_with fail
        refine (HL.out _).mono ?_
        rintro e V ⟨rfl, rfl⟩
        go_wp2_with fail
        go_roundw
        case rel => exact ⟨k + 1, HLT.out, by go_num, HN.out, by first | rfl | trivial⟩
        case measure => have := HLT.out; simp [intOf] <;> omega
      · have hx2 : isN (f k) = false := by simpa using hx
        have hx3 : f k < 0 ∨ 25 < f k := by
          have : ¬ (0 ≤ f k ∧ f k ≤ 25) := by simpa [isN] using hx
          omega
        have HB : Hid (B = false) := HU.out k hlt hx3
        have HL := (show Hid (∀ W, Calls Try.prog 57 #[.int .i64 (f k)] W fun e w' => e = .returned (.bool false) ∧ W = w') from fun W => by have := isLetter8_any (f k) W; rw [hx2] at this; exact this)
        clear hx hx2 hx3
        go_wp2_with fail
        refine (HL.out _).mono ?_
        rintro e V ⟨rfl, rfl⟩
        go_wp2
        go_ret
        exact ⟨by rw [HB.out]; rfl, rfl⟩
    · obtain rfl : k = n := by omega
      have hlt2 : ¬ (k : Int) < (k : Int) := by omega
      have HB : Hid (B = true) := HA.out HS.out
      go_wp2
      go_ret
      exact ⟨by rw [HB.out]; rfl, rfl⟩
set_option maxHeartbeats 400000 in
theorem number_any (c : UInt8) (h : 65 ≤ c.toNat ∧ c.toNat ≤ 90) (w : World) : Calls Try.prog 29 #[.int .u8 (c.toNat : Nat)] w fun e w' => e = .returned (.int .i64 (num c : Nat)) ∧ w = w' := by
  have e : (num c : Int) = (c.toNat : Int) - 65 := by unfold num; omega
  go_enter Try.func29, Try.ntmps29
  go_wp2
  go_ret
  exact ⟨by rw [e]; go_num, rfl⟩
set_option maxHeartbeats 400000 in
theorem letter_any (n : Nat) (h : n < 26) (w : World) : Calls Try.prog 27 #[.int .i64 (n : Nat)] w fun e w' => e = .returned (.int .u8 ((ltr n).toNat : Nat)) ∧ w = w' := by
  have e := ltr_toNat h
  go_enter Try.func27, Try.ntmps27
  go_wp2
  go_ret
  exact ⟨by rw [e]; go_num, rfl⟩
set_option maxHeartbeats 400000 in
theorem thr_any (b o : Nat) (p : Nat → Nat) (y c : Nat) (hy : y < 26) (hc : c < 26) (hp : ∀ c, c < 26 → p c < 26) (w : World) (hcell : ∀ c, c < 26 → w.cell? ⟨b, o + c, none⟩ = some (.int .i64 (p c : Nat))) : Calls Try.prog 55 #[.pointer (some ⟨b, o, none⟩), .int .i64 (y : Nat), .int .i64 (c : Nat)] w fun e w' => e = .returned (.int .i64 (Om.wheel p y c : Nat)) ∧ w = w' := by
  have hm : (c + y) % 26 < 26 := Nat.mod_lt _ (by decide)
  have h1 := hcell _ hm
  have h2 := hp _ hm
  have HE : Hid (Om.wheel p y c = (p ((c + y) % 26) + 26 - y) % 26) := rfl
  generalize Om.wheel p y c = E at *
  generalize p ((c + y) % 26) = P1 at *
  obtain ⟨q, hq⟩ : ∃ q, q = (c + y) % 26 := ⟨_, rfl⟩
  rw [← hq] at h1 hm
  have e1 : ((c : Int) + (y : Int)).tmod 26 = (q : Int) := by rw [Int.tmod_eq_emod_of_nonneg (by omega)]; omega
  have e2 : ((P1 : Int) - (y : Int) + 26).tmod 26 = (E : Int) := by rw [HE.out, Int.tmod_eq_emod_of_nonneg (by omega)]; omega
  clear HE hq hcell hp
  go_enter Try.func55, Try.ntmps55
  go_wp2
  go_ret
  exact ⟨rfl, rfl⟩
set_option maxHeartbeats 400000 in
theorem by_any (b q : Nat) (M : Om.Ma) (at' : Nat → Nat) (hq : q < M.n) (w : World) (h : RotAt w b M at') : Calls Try.prog 56 #[.pointer (some ⟨b, q * 80, none⟩)] w fun e w' => e = .returned (.int .i64 (Om.by' M at' q : Nat)) ∧ Below w.heap.size w w' := by
  have hw := h.window hq
  have hr := h.ring hq
  have h1 := h.ins q hq
  have h2 := h.ok.ri q hq
  have HE : Hid (Om.by' M at' q = (at' q + 26 - M.ri q) % 26) := rfl
  generalize Om.by' M at' q = E at *
  generalize at' q = A at *
  generalize M.ri q = R at *
  have e2 : ((A : Int) - (R : Int) + 26).tmod 26 = (E : Int) := by rw [HE.out, Int.tmod_eq_emod_of_nonneg (by omega)]; omega
  clear HE h
  go_enter Try.func56, Try.ntmps56
  go_wp2_with fail
  go_quiet (fail)
  go_wp2
  go_ret
  exact ⟨rfl, ⟨rfl, rfl, rfl, Nat.le_refl _, fun _ _ => rfl⟩⟩
end Go.Proofs.Ytibkcgjofcfoaaa

/-
  Contract of (*Rotor).Step.
-/
namespace Go.Proofs.Ytibkcgjofcfoaaa
open Go.RowKit PK Vg

theorem rg_refl (w : World) (r : Option Nat) : w.grownBy w r := ⟨rfl, rfl, rfl, Nat.le_refl _, fun _ _ _ => rfl⟩
theorem rg_below {a w w' : World} {r : Option Nat} (h : a.grownBy w r) (k : Below w.heap.size w w') : a.grownBy w' r := ⟨k.os.trans h.os, k.tape.trans h.tape, k.output.trans h.output, Nat.le_trans h.size k.size, fun i hi hne => (k.block i (Nat.lt_of_lt_of_le hi h.size)).trans (h.block i hi hne)⟩
theorem rg_trans {a w w' : World} {r : Option Nat} (h : a.grownBy w r) (k : w.grownBy w' r) : a.grownBy w' r := ⟨k.os.trans h.os, k.tape.trans h.tape, k.output.trans h.output, Nat.le_trans h.size k.size, fun i hi hne => (k.block i (Nat.lt_of_lt_of_le hi h.size) hne).trans (h.block i hi hne)⟩
theorem rg_set {a w : World} {g : Nat} (h : a.grownBy w (some g)) (i : Nat) (v : Value) : a.grownBy (w.setCell ⟨g, i, none⟩ v) (some g) := by
  have := (Below.refl 0 w).setCell (p := ⟨g, i, none⟩) (Nat.zero_le _) v
  exact rg_trans h ⟨this.os, this.tape, this.output, this.size, fun k _ hne => heap_setCell_other w ⟨g, i, none⟩ k v (fun e => hne (by rw [e]))⟩
theorem rg_to {w w' : World} {g B : Nat} (h : w.grownBy w' (some g)) (hB : B ≤ w.heap.size) (hg : B ≤ g) : Below B w w' := ⟨h.os, h.tape, h.output, h.size, fun k hk => h.block k (by omega) (by intro e; cases e; omega)⟩
theorem RotAt.drewN {w : World} {b : Nat} {M : Om.Ma} {at' : Nat → Nat} (h : RotAt w b M at') (n : Nat) : RotAt (w.drewN n) b M at' := ⟨h.row, h.ok, h.ins⟩
theorem rg_drewN {a w : World} {r : Option Nat} (h : a.grownBy w r) (n : Nat) : a.grownBy (w.drewN n) r := ⟨h.os, h.tape, h.output, h.size, h.block⟩
/-- What holds at the label. -/
def StJ (w : World) (b : Nat) (M : Om.Ma) (at' : Nat → Nat) (a : Act) (W : World) : Prop :=
  ∃ (k : Nat) (US : Int) (CB : Bool), k ≤ M.n ∧ RotAt W b M (Om.mid M at' k) ∧ w.grownBy W (some b) ∧ CB = Om.car M at' k ∧ US = (k : Int) - 1 ∧ ∃ (u4 u5 u6 u7 u8 u9 u10 u11 u12 u13 u14 u15 u16 u17 u18 u19 u20 u21 u22 u23 u24 u25 u26 u27 u28 u29 u30 u31 u32 u33 u34 u35 u36 u37 u38 u39 u40 u41 u42 u43 u44 u45 u46 : Value), a = { tmps := #[.pointer (some ⟨b, 0, none⟩), undef, .int .i64 US, .bool CB, u4, u5, u6, u7, u8, u9, u10, u11, u12, u13, u14, u15, u16, u17, u18, u19, u20, u21, u22, u23, u24, u25, u26, u27, u28, u29, u30, u31, u32, u33, u34, u35, u36, u37, u38, u39, u40, u41, u42, u43, u44, u45, u46], defers := [] }
set_option maxRecDepth 1000000 in
set_option maxHeartbeats 8000000 in
theorem step_any (b : Nat) (M : Om.Ma) (at' : Nat → Nat) (w : World) (h : RotAt w b M at') : Calls Try.prog 26 #[.pointer (some ⟨b, 0, none⟩)] w fun e w' => e = .returned (.tuple #[]) ∧ RotAt w' b M (Om.step M at') ∧ w.grownBy w' (some b) := by
  have hn4 := h.ok.most
  have hn1 := h.ok.pos
  have hmany := h.many
  have HIN := (show Hid (Om.In26 M at') from h.ins)
  have htop := Om.car_top M at'
  have hrt : RotAt w b M (Om.mid M at' M.n) := by
    refine ⟨?_, h.ok, fun i hi => by rw [Om.mid_now _ _ hi]; exact h.ins i hi⟩
    have e : rotA M (Om.mid M at' M.n) M.n = rotA M at' M.n := tab_ext fun i _ => by
      unfold rotC
      by_cases h1 : i < 320
      · rw [if_pos h1, if_pos h1]
        by_cases h2 : i / 80 < M.n
        · rw [if_pos h2, if_pos h2, Om.mid_now _ _ h2]
        · rw [if_neg h2, if_neg h2]
      · rw [if_neg h1, if_neg h1]
    rw [e]
    exact h.row
  have hg0 := rg_refl w (some b)
  obtain ⟨n, hn⟩ : ∃ n, M.n = n + 1 := ⟨M.n - 1, by omega⟩
  go_enter Try.func26, Try.ntmps26
  go_wp2
  refine wp_scope_jumps 0 (StJ w b M at') (fun a' _ => (intOf (a'.tmps.getD 2 undef) + 1).toNat) rfl ?_ ?_
  · go_wp2
    go_step3
    rw [hn] at hrt htop
    have hk : n + 1 ≤ M.n := by omega
    clear h hmany
    generalize w.grownBy w (some b) = X at hg0
    have hw := hrt.window (q := n) (by omega)
    rw [Om.mid_now _ _ (Nat.lt_succ_self n)] at hw
    have hfr := hrt.row.frozen (n * 80 + 79)
    have hin := HIN.out n (by omega)
    have hno := hrt.no (q := n) (by omega) hin
    have hcar := Om.car_in (M := M) at' (k := n) (by omega)
    have hturn := Om.turns_car M at' n
    have HQ := (show Hid (Om.turns M at' n = true → ∀ nq, RotAt ((w.drewN nq).setCell ⟨b, n * 80 + 79, none⟩ (.int .i64 (((at' n + 1) % 26 : Nat) : Int))) b M (Om.mid M at' n)) from fun ht nq => by
      have := (hrt.drewN nq).turn (q := n) (by omega) (v := (at' n + 1) % 26) (Nat.mod_lt _ (by decide))
      rw [Om.mid_turn ht] at this
      exact this)
    have HS := (show Hid (Om.turns M at' n = false → ∀ nq, RotAt (w.drewN nq) b M (Om.mid M at' n)) from fun ht nq => by
      have := hrt.drewN nq
      rw [Om.mid_stay ht] at this
      exact this)
    have HG := (show Hid (∀ nq, w.grownBy (w.drewN nq) (some b)) from fun nq => rg_drewN (rg_refl w _) nq)
    have HK : Hid (n ≤ M.n) := (by omega : n ≤ M.n)
    rw [htop] at hturn
    clear hrt htop hg0 X
    generalize Om.turns M at' n = TT at *
    generalize at' n = A at *
    generalize (M.no n).contains A = BB at *
    have e2 : ((A : Int) + 1).tmod 26 = (((A + 1) % 26 : Nat) : Int) := by rw [Int.tmod_eq_emod_of_nonneg (by omega)]; omega
    generalize (A + 1) % 26 = A2 at *
    have HC := (show Hid _ from hcar)
    have HT := (show Hid _ from hturn)
    clear hcar hturn
    cases BB with
    | true =>
      have HTT : Hid (TT = true) := by rw [Hid, HT.out]; simp
      go_upto_region 3 with fail
      go_quiet (fail)
      go_wp2
      go_step3
      refine ⟨rfl, n, _, _, HK.out, HQ.out HTT.out _, rg_set (HG.out _) _ _, HC.out.symm, ?_, _, _, _, _, _, _, _, _, _, _, _, _, _, _, _, _, _, _, _, _, _, _, _, _, _, _, _, _, _, _, _, _, _, _, _, _, _, _, _, _, _, _, _, rfl⟩
      · rfl
    | false =>
      have HTT : Hid (TT = true) := by rw [Hid, HT.out]; simp
      go_upto_region 3 with fail
      go_quiet (fail)
      go_wp2
      go_step3
      refine ⟨rfl, n, _, _, HK.out, HQ.out HTT.out _, rg_set (HG.out _) _ _, HC.out.symm, ?_, _, _, _, _, _, _, _, _, _, _, _, _, _, _, _, _, _, _, _, _, _, _, _, _, _, _, _, _, _, _, _, _, _, _, _, _, _, _, _, _, _, _, _, rfl⟩
      · rfl
  · rintro a' W ⟨k, US, CB, hk, hr, hgr, hcb, rfl, u4, u5, u6, u7, u8, u9, u10, u11, u12, u13, u14, u15, u16, u17, u18, u19, u20, u21, u22, u23, u24, u25, u26, u27, u28, u29, u30, u31, u32, u33, u34, u35, u36, u37, u38, u39, u40, u41, u42, u43, u44, u45, u46, rfl⟩
    clear hmany hrt htop hg0 h hn
    cases k with
    | zero =>
      go_wp2
      simp only [Exit.jump]
      rw [Om.mid_all] at hr
      exact bodyPost_ret (results_none rfl _ _ _) rfl ⟨rfl, hr, hgr⟩
    | succ k =>
      have e1 : (((k + 1 : Nat) : Int) - 1) = (k : Int) := by omega
      rw [e1]
      clear e1
      have hw := hr.window (q := k) (by omega)
      rw [Om.mid_now _ _ (Nat.lt_succ_self k)] at hw
      have hfr := hr.row.frozen (k * 80 + 79)
      have hin := HIN.out k (by omega)
      have hno := hr.no (q := k) (by omega) hin
      have hcar := Om.car_in (M := M) at' (k := k) (by omega)
      have hturn := Om.turns_car M at' k
      have HQ := (show Hid (Om.turns M at' k = true → ∀ nq, RotAt ((W.drewN nq).setCell ⟨b, k * 80 + 79, none⟩ (.int .i64 (((at' k + 1) % 26 : Nat) : Int))) b M (Om.mid M at' k)) from fun ht nq => by
        have := (hr.drewN nq).turn (q := k) (by omega) (v := (at' k + 1) % 26) (Nat.mod_lt _ (by decide))
        rw [Om.mid_turn ht] at this
        exact this)
      have HS := (show Hid (Om.turns M at' k = false → ∀ nq, RotAt (W.drewN nq) b M (Om.mid M at' k)) from fun ht nq => by
        have := hr.drewN nq
        rw [Om.mid_stay ht] at this
        exact this)
      have HG := (show Hid (∀ nq, w.grownBy (W.drewN nq) (some b)) from fun nq => rg_drewN hgr nq)
      have HK : Hid (k ≤ M.n) := (by omega : k ≤ M.n)
      rw [← hcb] at hturn
      clear hr hgr hcb
      generalize Om.turns M at' k = TT at *
      generalize at' k = A at *
      generalize (M.no k).contains A = BB at *
      have e2 : ((A : Int) + 1).tmod 26 = (((A + 1) % 26 : Nat) : Int) := by rw [Int.tmod_eq_emod_of_nonneg (by omega)]; omega
      generalize (A + 1) % 26 = A2 at *
      have HC := (show Hid _ from hcar)
      have HT := (show Hid _ from hturn)
      clear hcar hturn
      cases CB with
      | true =>
        cases BB with
        | true =>
          have HTT : Hid (TT = true) := by rw [Hid, HT.out]; simp
          go_upto_region 3 with fail
          go_quiet (fail)
          go_wp2
          go_step3
          refine ⟨rfl, ⟨k, _, _, HK.out, HQ.out HTT.out _, rg_set (HG.out _) _ _, HC.out.symm, ?_, _, _, _, _, _, _, _, _, _, _, _, _, _, _, _, _, _, _, _, _, _, _, _, _, _, _, _, _, _, _, _, _, _, _, _, _, _, _, _, _, _, _, _, rfl⟩, ?_⟩
          · rfl
          · simp [intOf] <;> omega
        | false =>
          have HTT : Hid (TT = true) := by rw [Hid, HT.out]; simp
          go_upto_region 3 with fail
          go_quiet (fail)
          go_wp2
          go_step3
          refine ⟨rfl, ⟨k, _, _, HK.out, HQ.out HTT.out _, rg_set (HG.out _) _ _, HC.out.symm, ?_, _, _, _, _, _, _, _, _, _, _, _, _, _, _, _, _, _, _, _, _, _, _, _, _, _, _, _, _, _, _, _, _, _, _, _, _, _, _, _, _, _, _, _, rfl⟩, ?_⟩
          · rfl
          · simp [intOf] <;> omega
      | false =>
        cases BB with
        | true =>
          by_cases hz : 0 < k
          · have hz1 : (0 : Int) < (k : Int) := by omega
            have HTT : Hid (TT = true) := by rw [Hid, HT.out]; simp [hz]
            clear hz
            go_upto_region 3 with fail
            go_quiet (fail)
            go_wp2
            go_step3
            refine ⟨rfl, ⟨k, _, _, HK.out, HQ.out HTT.out _, rg_set (HG.out _) _ _, HC.out.symm, ?_, _, _, _, _, _, _, _, _, _, _, _, _, _, _, _, _, _, _, _, _, _, _, _, _, _, _, _, _, _, _, _, _, _, _, _, _, _, _, _, _, _, _, _, rfl⟩, ?_⟩
            · rfl
            · simp [intOf] <;> omega
          · have hz1 : ¬ (0 : Int) < (k : Int) := by omega
            have HTT : Hid (TT = false) := by rw [Hid, HT.out]; simp [hz]
            clear hz
            go_upto_region 3 with fail
            go_quiet (fail)
            go_wp2
            go_step3
            refine ⟨rfl, ⟨k, _, _, HK.out, HS.out HTT.out _, HG.out _, HC.out.symm, ?_, _, _, _, _, _, _, _, _, _, _, _, _, _, _, _, _, _, _, _, _, _, _, _, _, _, _, _, _, _, _, _, _, _, _, _, _, _, _, _, _, _, _, _, rfl⟩, ?_⟩
            · rfl
            · simp [intOf] <;> omega
        | false =>
          have HTT : Hid (TT = false) := by rw [Hid, HT.out]; simp
          go_upto_region 3 with fail
          go_quiet (fail)
          go_wp2
          go_step3
          refine ⟨rfl, ⟨k, _, _, HK.out, HS.out HTT.out _, HG.out _, HC.out.symm, ?_, _, _, _, _, _, _, _, _, _, _, _, _, _, _, _, _, _, _, _, _, _, _, _, _, _, _, _, _, _, _, _, _, _, _, _, _, _, _, _, _, _, _, _, rfl⟩, ?_⟩
          · rfl
          · simp [intOf] <;> omega
end Go.Proofs.Ytibkcgjofcfoaaa
