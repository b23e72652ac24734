/-
  The document's Count, alone.
-/
import Derived.Test.YtpdemelchhkfaaaJn26
namespace Go.Proofs.Ytpdemelchhkfaaa
open Go.RowKit PK Tl
/-- A pin as a number. -/
def pnN (p : Nat → Bool) (j : Nat) : Nat := if p j = true then 1 else 0
/-- The sum of the four changes at a letter. -/
def evS (f : Nat → Nat) (p : Nat → Bool) (la : Nat) (q : Nat → Bool) (lb x y i : Nat) : Nat := f i / 16 + f (i + 1) / 16 + f i / 8 + f (i + 1) / 8 + pnN p ((x + i) % la) + pnN p ((x + (i + 1)) % la) + pnN q ((y + i) % lb) + pnN q ((y + (i + 1)) % lb)
def ev (f : Nat → Nat) (p : Nat → Bool) (la : Nat) (q : Nat → Bool) (lb x y i : Nat) : Bool := evS f p la q lb x y i % 2 == 0
def cntN (f : Nat → Nat) (n : Nat) (p : Nat → Bool) (la : Nat) (q : Nat → Bool) (lb x y : Nat) : Nat := Tf.cn (ev f p la q lb x y) (n - 1)
set_option maxRecDepth 100000 in
set_option maxHeartbeats 4000000 in
theorem rcnt_any (v va vb : Value) (n la lb x y : Nat) (f : Nat → Nat) (p q : Nat → Bool) (hn : n ≤ 65536) (hf : ∀ i, i < n → f i < 32) (ha : 1 ≤ la ∧ la ≤ 47) (hb : 1 ≤ lb ∧ lb ≤ 47) (hx : x < 47) (hy : y < 47) (w : World) (hv : NumsAt w v n (fun i => (f i : Int))) (h1 : PinsAt w va la p) (h2 : PinsAt w vb lb q) :
    Calls Try.prog 27 #[v, va, vb, .int .i64 (x : Nat), .int .i64 (y : Nat)] w fun e w' => e = .returned (.int .i64 (cntN f n p la q lb x y : Nat)) ∧ Below w.heap.size w w' := by
  obtain ⟨a, cap, rfl, _, hca⟩ := hv
  have HA := (show Hid (∀ c, c < n → ∃ b o, a = some ⟨b, o, none⟩ ∧ w.cell? ⟨b, o + c, none⟩ = some (.int .i64 (f c : Int))) from hca)
  have HF := (show Hid (∀ i, i < n → f i < 32) from hf)
  have HO1 : Hid (∀ (s : Nat) W, s ≤ 131072 → Below w.heap.size w W → Calls Try.prog 50 #[va, .int .i64 (x : Nat), .int .i64 (s : Nat)] W fun e w' => e = .returned (.int .i64 (pnN p ((x + s) % la) : Nat)) ∧ W = w') := fun s W hs hW => (rout_any va la p ha.1 ha.2 x s (by omega) hs W (h1.below hW)).mono fun e w' h => ⟨by rw [h.1]; unfold pnN; split <;> rfl, h.2⟩
  have HO2 : Hid (∀ (s : Nat) W, s ≤ 131072 → Below w.heap.size w W → Calls Try.prog 50 #[vb, .int .i64 (y : Nat), .int .i64 (s : Nat)] W fun e w' => e = .returned (.int .i64 (pnN q ((y + s) % lb) : Nat)) ∧ W = w') := fun s W hs hW => (rout_any vb lb q hb.1 hb.2 y s (by omega) hs W (h2.below hW)).mono fun e w' h => ⟨by rw [h.1]; unfold pnN; split <;> rfl, h.2⟩
  have HC : Hid (∀ m, m + 1 = n ∨ (m = 0 ∧ n = 0) → Tf.cn (ev f p la q lb x y) m = cntN f n p la q lb x y) := fun m h => by unfold cntN; congr 1; omega
  obtain ⟨⟨b1, o1, k1, rfl, _, _⟩, ⟨b2, o2, k2, rfl, _, _⟩⟩ := And.intro (h1.form ha.1) (h2.form hb.1)
  clear hca hf h1 h2
  go_enter Try.func27, Try.ntmps27
  go_wp2_with fail
  go_loopw [12, 11] (fun i c W => ∃ m : Nat, (m + 1 ≤ n ∨ (m = 0 ∧ n = 0)) ∧ i = .int .i64 (m : Nat) ∧ c = .int .i64 (Tf.cn (ev f p la q lb x y) m : Nat) ∧ Below w.heap.size w W) (fun i _ _ => ((n : Int) - intOf i).toNat)
  case atStart => exact ⟨0, by omega, rfl, rfl, Below.refl _ w⟩
  case round =>
    obtain ⟨i, hi, rfl, rfl, hbe⟩ := hrel
    have hi2 : i < 65537 := by omega
    by_cases hlt : i + 1 < n
    case neg =>
      have HE := (show Hid (Tf.cn (ev f p la q lb x y) i = cntN f n p la q lb x y) from HC.out i (by omega))
      have HBE := (show Hid (Below w.heap.size w wr) from hbe)
      have hnn : ¬ ((i : Nat) : Int) + 1 < ((n : Nat) : Int) := by omega
      clear hbe hi
      go_wp2
      go_ret
      exact ⟨by rw [HE.out]; rfl, HBE.out⟩
    have HLT : Hid (i + 1 < n) := hlt
    have hlt2 : (i : Int) + 1 < (n : Int) := by omega
    have hlt3 : (i : Int) < (n : Int) := by omega
    obtain ⟨b, o, e0, c0⟩ := HA.out i (by omega)
    obtain ⟨b', o', e1, c1⟩ := HA.out (i + 1) hlt
    subst e0
    cases e1
    have HL : Hid (∀ W, Below w.heap.size w W → W.cell? ⟨b, o + i, none⟩ = some (.int .i64 (f i : Int)) ∧ W.cell? ⟨b, o + (i + 1), none⟩ = some (.int .i64 (f (i + 1) : Int))) := fun W hW => ⟨(hW.cell (p := ⟨b, o + i, none⟩) (cell_block c0)).trans c0, (hW.cell (p := ⟨b, o + (i + 1), none⟩) (cell_block c1)).trans c1⟩
    have hx0 := HF.out i (by omega)
    have hx1 := HF.out (i + 1) hlt
    have HK1 := (show Hid (∀ W, Below w.heap.size w W → Calls Try.prog 50 #[.slice (some ⟨b1, o1, none⟩) la k1, .int .i64 (x : Nat), .int .i64 (i : Nat)] W fun e w' => e = .returned (.int .i64 (pnN p ((x + i) % la) : Nat)) ∧ W = w') from fun W hW => HO1.out i W (by omega) hW)
    have HK2 := (show Hid (∀ W, Below w.heap.size w W → Calls Try.prog 50 #[.slice (some ⟨b1, o1, none⟩) la k1, .int .i64 (x : Nat), .int .i64 ((i : Int) + 1)] W fun e w' => e = .returned (.int .i64 (pnN p ((x + (i + 1)) % la) : Nat)) ∧ W = w') from fun W hW => HO1.out (i + 1) W (by omega) hW)
    have HK3 := (show Hid (∀ W, Below w.heap.size w W → Calls Try.prog 50 #[.slice (some ⟨b2, o2, none⟩) lb k2, .int .i64 (y : Nat), .int .i64 (i : Nat)] W fun e w' => e = .returned (.int .i64 (pnN q ((y + i) % lb) : Nat)) ∧ W = w') from fun W hW => HO2.out i W (by omega) hW)
    have HK4 := (show Hid (∀ W, Below w.heap.size w W → Calls Try.prog 50 #[.slice (some ⟨b2, o2, none⟩) lb k2, .int .i64 (y : Nat), .int .i64 ((i : Int) + 1)] W fun e w' => e = .returned (.int .i64 (pnN q ((y + (i + 1)) % lb) : Nat)) ∧ W = w') from fun W hW => HO2.out (i + 1) W (by omega) hW)
    have HN : Hid (Tf.cn (ev f p la q lb x y) (i + 1) = Tf.cn (ev f p la q lb x y) i + if (f i / 16 + f (i + 1) / 16 + f i / 8 + f (i + 1) / 8 + pnN p ((x + i) % la) + pnN p ((x + (i + 1)) % la) + pnN q ((y + i) % lb) + pnN q ((y + (i + 1)) % lb)) % 2 = 0 then 1 else 0) := by
      rw [Hid, Tf.cn]
      simp [ev, evS]
    have HM : Hid (Tf.cn (ev f p la q lb x y) i ≤ 65537) := Nat.le_trans (Tf.cn_le _ _) (by omega)
    have pl : ∀ (p : Nat → Bool) j, pnN p j ≤ 1 := fun p j => by unfold pnN; split <;> omega
    have l1 := pl p ((x + i) % la)
    have l2 := pl p ((x + (i + 1)) % la)
    have l3 := pl q ((y + i) % lb)
    have l4 := pl q ((y + (i + 1)) % lb)
    have t1 : (f i : Int).tdiv 16 = ((f i / 16 : Nat) : Int) := by rw [Int.tdiv_eq_ediv_of_nonneg (by omega)]; push_cast; rfl
    have t2 : (f (i + 1) : Int).tdiv 16 = ((f (i + 1) / 16 : Nat) : Int) := by rw [Int.tdiv_eq_ediv_of_nonneg (by omega)]; push_cast; rfl
    have t3 : (f i : Int).tdiv 8 = ((f i / 8 : Nat) : Int) := by rw [Int.tdiv_eq_ediv_of_nonneg (by omega)]; push_cast; rfl
    have t4 : (f (i + 1) : Int).tdiv 8 = ((f (i + 1) / 8 : Nat) : Int) := by rw [Int.tdiv_eq_ediv_of_nonneg (by omega)]; push_cast; rfl
    have m1 : f i / 16 < 2 := by omega
    have m2 : f (i + 1) / 16 < 2 := by omega
    have m3 : f i / 8 < 4 := by omega
    have m4 : f (i + 1) / 8 < 4 := by omega
    generalize pnN p ((x + i) % la) = y1 at *
    generalize pnN p ((x + (i + 1)) % la) = y2 at *
    generalize pnN q ((y + i) % lb) = y3 at *
    generalize pnN q ((y + (i + 1)) % lb) = y4 at *
    generalize f i / 16 = z1 at *
    generalize f (i + 1) / 16 = z2 at *
    generalize f i / 8 = z3 at *
    generalize f (i + 1) / 8 = z4 at *
    generalize f i = x0 at *
    generalize f (i + 1) = x1 at *
    generalize Tf.cn (ev f p la q lb x y) i = N at *
    have hge : ¬ (i : Int) + 1 < 0 := by omega
    have hwi : IntKind.i64.wrap ((i : Int) + 1) = (i : Int) + 1 := by rw [IntKind.wrap_i64]; omega
    have HBE := (show Hid (Below w.heap.size w wr) from hbe)
    clear pl c0 c1 hi hbe hlt HO1 HO2 HA HF HC
    go_upto_region 5 with fail
    refine wp_region_noPanic ?_
    refine wp_region_held_drew (S := fun W => Below w.heap.size w W) (by kernel_rfl) HBE.out.drew (fun hS => ?_)
    obtain ⟨U, hU⟩ : ∃ x, x = wr.drew := ⟨_, rfl⟩
    rw [← hU] at hS ⊢
    clear hU HBE
    refine vtake 0 21 (.slice (some ⟨b, o, none⟩) n cap) rfl rfl (by kernel_rfl) (by kernel_rfl) (by kernel_rfl) (fun _ _ _ _ h => h) (by rfl) (fun W hW => by clear hS hW; go_simp) hS ?_
    simp only [List.setIfInBounds_toArray, List.set_cons_succ, List.set_cons_zero]
    refine vtake 1 22 (.int .i64 (i : Nat)) rfl rfl (by kernel_rfl) (by kernel_rfl) (by kernel_rfl) (fun _ _ _ _ h => h) (by rfl) (fun W hW => by clear hS hW; go_simp) hS ?_
    simp only [List.setIfInBounds_toArray, List.set_cons_succ, List.set_cons_zero]
    refine vtake 2 23 (.pointer (some ⟨b, o + i, none⟩)) rfl rfl (by kernel_rfl) (by kernel_rfl) (by kernel_rfl) (fun _ _ _ _ h => h) (by rfl) (fun W hW => by clear hS hW; go_simp) hS ?_
    simp only [List.setIfInBounds_toArray, List.set_cons_succ, List.set_cons_zero]
    refine vtake 3 24 (.int .i64 (x0 : Nat)) rfl rfl (by kernel_rfl) (by kernel_rfl) (by kernel_rfl) (fun _ _ _ _ h => h) (by rfl) (fun W hW => by obtain ⟨e1, e2⟩ := HL.out W hW; clear hS hW; go_simp) hS ?_
    simp only [List.setIfInBounds_toArray, List.set_cons_succ, List.set_cons_zero]
    refine vtake 4 25 (.int .i64 (z1 : Nat)) rfl rfl (by kernel_rfl) (by kernel_rfl) (by kernel_rfl) (fun _ _ _ _ h => h) (by rfl) (fun W hW => by have u1 : IntKind.i64.wrap ((z1 : Nat) : Int) = ((z1 : Nat) : Int) := (by rw [IntKind.wrap_i64]; omega); clear hS hW; go_simp) hS ?_
    simp only [List.setIfInBounds_toArray, List.set_cons_succ, List.set_cons_zero]
    refine vtake 5 26 (.slice (some ⟨b, o, none⟩) n cap) rfl rfl (by kernel_rfl) (by kernel_rfl) (by kernel_rfl) (fun _ _ _ _ h => h) (by rfl) (fun W hW => by clear hS hW; go_simp) hS ?_
    simp only [List.setIfInBounds_toArray, List.set_cons_succ, List.set_cons_zero]
    refine vtake 6 27 (.int .i64 (i : Nat)) rfl rfl (by kernel_rfl) (by kernel_rfl) (by kernel_rfl) (fun _ _ _ _ h => h) (by rfl) (fun W hW => by clear hS hW; go_simp) hS ?_
    simp only [List.setIfInBounds_toArray, List.set_cons_succ, List.set_cons_zero]
    refine vtake 7 28 (.int .i64 ((i : Int) + 1)) rfl rfl (by kernel_rfl) (by kernel_rfl) (by kernel_rfl) (fun _ _ _ _ h => h) (by rfl) (fun W hW => by clear hS hW; go_simp) hS ?_
    simp only [List.setIfInBounds_toArray, List.set_cons_succ, List.set_cons_zero]
    refine vtake 8 29 (.pointer (some ⟨b, o + (i + 1), none⟩)) rfl rfl (by kernel_rfl) (by kernel_rfl) (by kernel_rfl) (fun _ _ _ _ h => h) (by rfl) (fun W hW => by clear hS hW; go_simp) hS ?_
    simp only [List.setIfInBounds_toArray, List.set_cons_succ, List.set_cons_zero]
    refine vtake 9 30 (.int .i64 (x1 : Nat)) rfl rfl (by kernel_rfl) (by kernel_rfl) (by kernel_rfl) (fun _ _ _ _ h => h) (by rfl) (fun W hW => by obtain ⟨e1, e2⟩ := HL.out W hW; clear hS hW; go_simp) hS ?_
    simp only [List.setIfInBounds_toArray, List.set_cons_succ, List.set_cons_zero]
    refine vtake 10 31 (.int .i64 (z2 : Nat)) rfl rfl (by kernel_rfl) (by kernel_rfl) (by kernel_rfl) (fun _ _ _ _ h => h) (by rfl) (fun W hW => by have u1 : IntKind.i64.wrap ((z2 : Nat) : Int) = ((z2 : Nat) : Int) := (by rw [IntKind.wrap_i64]; omega); clear hS hW; go_simp) hS ?_
    simp only [List.setIfInBounds_toArray, List.set_cons_succ, List.set_cons_zero]
    refine vtake 11 32 (.int .i64 ((z1 + z2 : Nat) : Int)) rfl rfl (by kernel_rfl) (by kernel_rfl) (by kernel_rfl) (fun _ _ _ _ h => h) (by rfl) (fun W hW => by have u1 : IntKind.i64.wrap ((z1 : Int) + (z2 : Int)) = (z1 : Int) + (z2 : Int) := (by rw [IntKind.wrap_i64]; omega); clear hS hW; go_simp) hS ?_
    simp only [List.setIfInBounds_toArray, List.set_cons_succ, List.set_cons_zero]
    refine vtake 12 33 (.slice (some ⟨b, o, none⟩) n cap) rfl rfl (by kernel_rfl) (by kernel_rfl) (by kernel_rfl) (fun _ _ _ _ h => h) (by rfl) (fun W hW => by clear hS hW; go_simp) hS ?_
    simp only [List.setIfInBounds_toArray, List.set_cons_succ, List.set_cons_zero]
    refine vtake 13 34 (.int .i64 (i : Nat)) rfl rfl (by kernel_rfl) (by kernel_rfl) (by kernel_rfl) (fun _ _ _ _ h => h) (by rfl) (fun W hW => by clear hS hW; go_simp) hS ?_
    simp only [List.setIfInBounds_toArray, List.set_cons_succ, List.set_cons_zero]
    refine vtake 14 35 (.pointer (some ⟨b, o + i, none⟩)) rfl rfl (by kernel_rfl) (by kernel_rfl) (by kernel_rfl) (fun _ _ _ _ h => h) (by rfl) (fun W hW => by clear hS hW; go_simp) hS ?_
    simp only [List.setIfInBounds_toArray, List.set_cons_succ, List.set_cons_zero]
    refine vtake 15 36 (.int .i64 (x0 : Nat)) rfl rfl (by kernel_rfl) (by kernel_rfl) (by kernel_rfl) (fun _ _ _ _ h => h) (by rfl) (fun W hW => by obtain ⟨e1, e2⟩ := HL.out W hW; clear hS hW; go_simp) hS ?_
    simp only [List.setIfInBounds_toArray, List.set_cons_succ, List.set_cons_zero]
    refine vtake 16 37 (.int .i64 (z3 : Nat)) rfl rfl (by kernel_rfl) (by kernel_rfl) (by kernel_rfl) (fun _ _ _ _ h => h) (by rfl) (fun W hW => by have u1 : IntKind.i64.wrap ((z3 : Nat) : Int) = ((z3 : Nat) : Int) := (by rw [IntKind.wrap_i64]; omega); clear hS hW; go_simp) hS ?_
    simp only [List.setIfInBounds_toArray, List.set_cons_succ, List.set_cons_zero]
    refine vtake 17 38 (.int .i64 ((z1 + z2 + z3 : Nat) : Int)) rfl rfl (by kernel_rfl) (by kernel_rfl) (by kernel_rfl) (fun _ _ _ _ h => h) (by rfl) (fun W hW => by have u1 : IntKind.i64.wrap ((z1 : Int) + (z2 : Int) + (z3 : Int)) = (z1 : Int) + (z2 : Int) + (z3 : Int) := (by rw [IntKind.wrap_i64]; omega); clear hS hW; go_simp) hS ?_
    simp only [List.setIfInBounds_toArray, List.set_cons_succ, List.set_cons_zero]
    refine vtake 18 39 (.slice (some ⟨b, o, none⟩) n cap) rfl rfl (by kernel_rfl) (by kernel_rfl) (by kernel_rfl) (fun _ _ _ _ h => h) (by rfl) (fun W hW => by clear hS hW; go_simp) hS ?_
    simp only [List.setIfInBounds_toArray, List.set_cons_succ, List.set_cons_zero]
    refine vtake 19 40 (.int .i64 (i : Nat)) rfl rfl (by kernel_rfl) (by kernel_rfl) (by kernel_rfl) (fun _ _ _ _ h => h) (by rfl) (fun W hW => by clear hS hW; go_simp) hS ?_
    simp only [List.setIfInBounds_toArray, List.set_cons_succ, List.set_cons_zero]
    refine vtake 20 41 (.int .i64 ((i : Int) + 1)) rfl rfl (by kernel_rfl) (by kernel_rfl) (by kernel_rfl) (fun _ _ _ _ h => h) (by rfl) (fun W hW => by clear hS hW; go_simp) hS ?_
    simp only [List.setIfInBounds_toArray, List.set_cons_succ, List.set_cons_zero]
    refine vtake 21 42 (.pointer (some ⟨b, o + (i + 1), none⟩)) rfl rfl (by kernel_rfl) (by kernel_rfl) (by kernel_rfl) (fun _ _ _ _ h => h) (by rfl) (fun W hW => by clear hS hW; go_simp) hS ?_
    simp only [List.setIfInBounds_toArray, List.set_cons_succ, List.set_cons_zero]
    refine vtake 22 43 (.int .i64 (x1 : Nat)) rfl rfl (by kernel_rfl) (by kernel_rfl) (by kernel_rfl) (fun _ _ _ _ h => h) (by rfl) (fun W hW => by obtain ⟨e1, e2⟩ := HL.out W hW; clear hS hW; go_simp) hS ?_
    simp only [List.setIfInBounds_toArray, List.set_cons_succ, List.set_cons_zero]
    refine vtake 23 44 (.int .i64 (z4 : Nat)) rfl rfl (by kernel_rfl) (by kernel_rfl) (by kernel_rfl) (fun _ _ _ _ h => h) (by rfl) (fun W hW => by have u1 : IntKind.i64.wrap ((z4 : Nat) : Int) = ((z4 : Nat) : Int) := (by rw [IntKind.wrap_i64]; omega); clear hS hW; go_simp) hS ?_
    simp only [List.setIfInBounds_toArray, List.set_cons_succ, List.set_cons_zero]
    refine vtake 24 45 (.int .i64 ((z1 + z2 + z3 + z4 : Nat) : Int)) rfl rfl (by kernel_rfl) (by kernel_rfl) (by kernel_rfl) (fun _ _ _ _ h => h) (by rfl) (fun W hW => by have u1 : IntKind.i64.wrap ((z1 : Int) + (z2 : Int) + (z3 : Int) + (z4 : Int)) = (z1 : Int) + (z2 : Int) + (z3 : Int) + (z4 : Int) := (by rw [IntKind.wrap_i64]; omega); clear hS hW; go_simp) hS ?_
    simp only [List.setIfInBounds_toArray, List.set_cons_succ, List.set_cons_zero]
    refine vtake 25 46 (.slice (some ⟨b1, o1, none⟩) la k1) rfl rfl (by kernel_rfl) (by kernel_rfl) (by kernel_rfl) (fun _ _ _ _ h => h) (by rfl) (fun W hW => by clear hS hW; go_simp) hS ?_
    simp only [List.setIfInBounds_toArray, List.set_cons_succ, List.set_cons_zero]
    refine vtake 26 47 (.int .i64 (x : Nat)) rfl rfl (by kernel_rfl) (by kernel_rfl) (by kernel_rfl) (fun _ _ _ _ h => h) (by rfl) (fun W hW => by clear hS hW; go_simp) hS ?_
    simp only [List.setIfInBounds_toArray, List.set_cons_succ, List.set_cons_zero]
    refine vtake 27 48 (.int .i64 (i : Nat)) rfl rfl (by kernel_rfl) (by kernel_rfl) (by kernel_rfl) (fun _ _ _ _ h => h) (by rfl) (fun W hW => by clear hS hW; go_simp) hS ?_
    simp only [List.setIfInBounds_toArray, List.set_cons_succ, List.set_cons_zero]
    refine vtake 30 51 (.slice (some ⟨b1, o1, none⟩) la k1) rfl rfl (by kernel_rfl) (by kernel_rfl) (by kernel_rfl) (fun _ _ _ _ h => h) (by rfl) (fun W hW => by clear hS hW; go_simp) hS ?_
    simp only [List.setIfInBounds_toArray, List.set_cons_succ, List.set_cons_zero]
    refine vtake 31 52 (.int .i64 (x : Nat)) rfl rfl (by kernel_rfl) (by kernel_rfl) (by kernel_rfl) (fun _ _ _ _ h => h) (by rfl) (fun W hW => by clear hS hW; go_simp) hS ?_
    simp only [List.setIfInBounds_toArray, List.set_cons_succ, List.set_cons_zero]
    refine vtake 32 53 (.int .i64 (i : Nat)) rfl rfl (by kernel_rfl) (by kernel_rfl) (by kernel_rfl) (fun _ _ _ _ h => h) (by rfl) (fun W hW => by clear hS hW; go_simp) hS ?_
    simp only [List.setIfInBounds_toArray, List.set_cons_succ, List.set_cons_zero]
    refine vtake 33 54 (.int .i64 ((i : Int) + 1)) rfl rfl (by kernel_rfl) (by kernel_rfl) (by kernel_rfl) (fun _ _ _ _ h => h) (by rfl) (fun W hW => by clear hS hW; go_simp) hS ?_
    simp only [List.setIfInBounds_toArray, List.set_cons_succ, List.set_cons_zero]
    refine vtake 36 57 (.slice (some ⟨b2, o2, none⟩) lb k2) rfl rfl (by kernel_rfl) (by kernel_rfl) (by kernel_rfl) (fun _ _ _ _ h => h) (by rfl) (fun W hW => by clear hS hW; go_simp) hS ?_
    simp only [List.setIfInBounds_toArray, List.set_cons_succ, List.set_cons_zero]
    refine vtake 37 58 (.int .i64 (y : Nat)) rfl rfl (by kernel_rfl) (by kernel_rfl) (by kernel_rfl) (fun _ _ _ _ h => h) (by rfl) (fun W hW => by clear hS hW; go_simp) hS ?_
    simp only [List.setIfInBounds_toArray, List.set_cons_succ, List.set_cons_zero]
    refine vtake 38 59 (.int .i64 (i : Nat)) rfl rfl (by kernel_rfl) (by kernel_rfl) (by kernel_rfl) (fun _ _ _ _ h => h) (by rfl) (fun W hW => by clear hS hW; go_simp) hS ?_
    simp only [List.setIfInBounds_toArray, List.set_cons_succ, List.set_cons_zero]
    refine vtake 41 62 (.slice (some ⟨b2, o2, none⟩) lb k2) rfl rfl (by kernel_rfl) (by kernel_rfl) (by kernel_rfl) (fun _ _ _ _ h => h) (by rfl) (fun W hW => by clear hS hW; go_simp) hS ?_
    simp only [List.setIfInBounds_toArray, List.set_cons_succ, List.set_cons_zero]
    refine vtake 42 63 (.int .i64 (y : Nat)) rfl rfl (by kernel_rfl) (by kernel_rfl) (by kernel_rfl) (fun _ _ _ _ h => h) (by rfl) (fun W hW => by clear hS hW; go_simp) hS ?_
    simp only [List.setIfInBounds_toArray, List.set_cons_succ, List.set_cons_zero]
    refine vtake 43 64 (.int .i64 (i : Nat)) rfl rfl (by kernel_rfl) (by kernel_rfl) (by kernel_rfl) (fun _ _ _ _ h => h) (by rfl) (fun W hW => by clear hS hW; go_simp) hS ?_
    simp only [List.setIfInBounds_toArray, List.set_cons_succ, List.set_cons_zero]
    refine vtake 44 65 (.int .i64 ((i : Int) + 1)) rfl rfl (by kernel_rfl) (by kernel_rfl) (by kernel_rfl) (fun _ _ _ _ h => h) (by rfl) (fun W hW => by clear hS hW; go_simp) hS ?_
    simp only [List.setIfInBounds_toArray, List.set_cons_succ, List.set_cons_zero]
    refine wpAnyH_ready (rs := [28]) (by kernel_rfl) (by simp) ?_
    refine AllReadyH.cons (o := _) rfl (fun K hK => ?_) AllReadyH.nil
    rw [if_pos (by rfl)]
    go_simp
    refine Calls.mono (HK1.out _ hS) ?_
    rintro e Y ⟨rfl, rfl⟩
    refine hK.out _ _ (hS) (fun hS1 => ?_)
    clear hK K
    clear hS1
    refine vtake 29 50 (.int .i64 ((z1 + z2 + z3 + z4 + y1 : Nat) : Int)) rfl rfl (by kernel_rfl) (by kernel_rfl) (by kernel_rfl) (fun _ _ _ _ h => h) (by rfl) (fun W hW => by have u1 : IntKind.i64.wrap ((z1 : Int) + (z2 : Int) + (z3 : Int) + (z4 : Int) + (y1 : Int)) = (z1 : Int) + (z2 : Int) + (z3 : Int) + (z4 : Int) + (y1 : Int) := (by rw [IntKind.wrap_i64]; omega); clear hS hW; go_simp) hS ?_
    simp only [List.setIfInBounds_toArray, List.set_cons_succ, List.set_cons_zero]
    refine wpAnyH_ready (rs := [34]) (by kernel_rfl) (by simp) ?_
    refine AllReadyH.cons (o := _) rfl (fun K hK => ?_) AllReadyH.nil
    rw [if_pos (by rfl)]
    go_simp
    refine Calls.mono (HK2.out _ hS) ?_
    rintro e Y ⟨rfl, rfl⟩
    refine hK.out _ _ (hS) (fun hS1 => ?_)
    clear hK K
    clear hS1
    refine vtake 35 56 (.int .i64 ((z1 + z2 + z3 + z4 + y1 + y2 : Nat) : Int)) rfl rfl (by kernel_rfl) (by kernel_rfl) (by kernel_rfl) (fun _ _ _ _ h => h) (by rfl) (fun W hW => by have u1 : IntKind.i64.wrap ((z1 : Int) + (z2 : Int) + (z3 : Int) + (z4 : Int) + (y1 : Int) + (y2 : Int)) = (z1 : Int) + (z2 : Int) + (z3 : Int) + (z4 : Int) + (y1 : Int) + (y2 : Int) := (by rw [IntKind.wrap_i64]; omega); clear hS hW; go_simp) hS ?_
    simp only [List.setIfInBounds_toArray, List.set_cons_succ, List.set_cons_zero]
    refine wpAnyH_ready (rs := [39]) (by kernel_rfl) (by simp) ?_
    refine AllReadyH.cons (o := _) rfl (fun K hK => ?_) AllReadyH.nil
    rw [if_pos (by rfl)]
    go_simp
    refine Calls.mono (HK3.out _ hS) ?_
    rintro e Y ⟨rfl, rfl⟩
    refine hK.out _ _ (hS) (fun hS1 => ?_)
    clear hK K
    clear hS1
    refine vtake 40 61 (.int .i64 ((z1 + z2 + z3 + z4 + y1 + y2 + y3 : Nat) : Int)) rfl rfl (by kernel_rfl) (by kernel_rfl) (by kernel_rfl) (fun _ _ _ _ h => h) (by rfl) (fun W hW => by have u1 : IntKind.i64.wrap ((z1 : Int) + (z2 : Int) + (z3 : Int) + (z4 : Int) + (y1 : Int) + (y2 : Int) + (y3 : Int)) = (z1 : Int) + (z2 : Int) + (z3 : Int) + (z4 : Int) + (y1 : Int) + (y2 : Int) + (y3 : Int) := (by rw [IntKind.wrap_i64]; omega); clear hS hW; go_simp) hS ?_
    simp only [List.setIfInBounds_toArray, List.set_cons_succ, List.set_cons_zero]
    refine wpAnyH_ready (rs := [45]) (by kernel_rfl) (by simp) ?_
    refine AllReadyH.cons (o := _) rfl (fun K hK => ?_) AllReadyH.nil
    rw [if_pos (by rfl)]
    go_simp
    refine Calls.mono (HK4.out _ hS) ?_
    rintro e Y ⟨rfl, rfl⟩
    refine hK.out _ _ (hS) (fun hS1 => ?_)
    clear hK K
    clear hS1
    refine vtake 46 67 (.int .i64 ((z1 + z2 + z3 + z4 + y1 + y2 + y3 + y4 : Nat) : Int)) rfl rfl (by kernel_rfl) (by kernel_rfl) (by kernel_rfl) (fun _ _ _ _ h => h) (by rfl) (fun W hW => by have u1 : IntKind.i64.wrap ((z1 : Int) + (z2 : Int) + (z3 : Int) + (z4 : Int) + (y1 : Int) + (y2 : Int) + (y3 : Int) + (y4 : Int)) = (z1 : Int) + (z2 : Int) + (z3 : Int) + (z4 : Int) + (y1 : Int) + (y2 : Int) + (y3 : Int) + (y4 : Int) := (by rw [IntKind.wrap_i64]; omega); clear hS hW; go_simp) hS ?_
    simp only [List.setIfInBounds_toArray, List.set_cons_succ, List.set_cons_zero]
    refine vtake 47 13 (.int .i64 ((z1 + z2 + z3 + z4 + y1 + y2 + y3 + y4 : Nat) : Int)) rfl rfl (by kernel_rfl) (by kernel_rfl) (by kernel_rfl) (fun _ _ _ _ h => h) (by rfl) (fun W hW => by clear hS hW; go_simp) hS ?_
    simp only [List.setIfInBounds_toArray, List.set_cons_succ, List.set_cons_zero]
    refine wpAnyH_done (by kernel_rfl) ?_ _
    refine NoPanic.normal ?_
    have HS := (show Hid (Below w.heap.size w U) from hS)
    obtain ⟨T, hT⟩ : ∃ T, T = z1 + z2 + z3 + z4 + y1 + y2 + y3 + y4 := ⟨_, rfl⟩
    rw [← hT] at HN ⊢
    have hT2 : T < 20 := by omega
    have hrem : (T : Int).tmod 2 = ((T % 2 : Nat) : Int) := by rw [Int.tmod_eq_emod_of_nonneg (by omega)]; push_cast; rfl
    have HM2 := HM.out
    clear hT hS
    rcases Nat.mod_two_eq_zero_or_one T with hm2 | hm2
    · have HE : Hid (Tf.cn (ev f p la q lb x y) (i + 1) = N + 1) := by rw [Hid, HN.out, if_pos hm2]
      have hr2 : (T : Int).tmod 2 = 0 := by rw [hrem, hm2]; rfl
      clear HN hrem hm2
      go_wp2
      all_goals go_roundw
      case rel => exact ⟨i + 1, .inl HLT.out, by go_num, by rw [HE.out]; go_num, HS.out⟩
      case measure => have := HLT.out; simp [intOf]; omega
    · have HE : Hid (Tf.cn (ev f p la q lb x y) (i + 1) = N) := by rw [Hid, HN.out, if_neg (by omega), Nat.add_zero]
      have hr2 : (T : Int).tmod 2 = 1 := by rw [hrem, hm2]; rfl
      clear HN hrem hm2
      go_wp2
      all_goals go_roundw
      case rel => exact ⟨i + 1, .inl HLT.out, by go_num, by rw [HE.out], HS.out⟩
      case measure => have := HLT.out; simp [intOf]; omega
end Go.Proofs.Ytpdemelchhkfaaa
