/-
  The document's Inverse where there is none, and of what is wrong.
-/
import Derived.Test.YtlgjgppojdamiabHRInv
import Derived.Test.YtlgjgppojdamiabHRef3
namespace Go.Proofs.Ytlgjgppojdamiab
open Go.RowKit PK

set_option maxRecDepth 100000 in
set_option maxHeartbeats 2000000 in
theorem rinv_none (v : Value) (n : Nat) (L : Nat → Nat) (Z : Nat → Nat → Int) (hg : GoodM n Z) (hL : ∀ r, r < n → L r = n) (hr : (recOf (detL n Z)).2 = 6) (w : World) (hv : MatAt w v n L Z) :
    Calls Try.prog 22 #[v] w fun e w' => e = .returned (.tuple #[.slice none 0 0, .int .i64 6]) ∧ Below w.heap.size w w' := by
  have H0 : Hid (matErr n L Z = 0) := (matErr_zero n L Z).2 ⟨hg, hL⟩
  have HV := (show Hid (MatAt w v n L Z) from hv)
  have hd := detL_bound n Z
  have HU : Hid (uTo (detL n Z) 26 = -1) := by rw [Hid, uTo_all _ hd, if_neg (by rw [hr]; decide)]
  obtain ⟨a0, c0, rfl, _⟩ := hv.len
  have HLB := (show Hid (Calls Try.prog 42 #[.slice a0 n c0] w fun e w' => e = .returned (.int .i64 (detL n Z)) ∧ Below w.heap.size w w') from leib_any n hg.pos hg.le Z hg.num _ w (hv.square hL))
  clear hv hr hg
  go_enter Try.func22, Try.ntmps22
  go_wp2_with fail
  refine Calls.mono (rw3_any _ n L Z w HV.out) ?_
  rintro e W1 ⟨rfl, rfl⟩
  rw [H0.out]
  go_wp2_with fail
  refine Calls.mono HLB.out ?_
  rintro e W0 ⟨rfl, hb0⟩
  generalize detL n Z = d at *
  go_wp2
  go_loop [7, 6] (fun i a => ∃ k : Nat, k ≤ 26 ∧ i = .int .i64 k ∧ a = .int .i64 (uTo d k)) (fun i _ => (26 - intOf i).toNat)
  case atStart => exact ⟨0, by omega, rfl, rfl⟩
  case round =>
    obtain ⟨k, hk, rfl, rfl⟩ := hrel
    by_cases hkl : k < 26
    · obtain ⟨p, hp⟩ : ∃ p, p = d * (k : Int) := ⟨_, rfl⟩
      have hpb := prod_bound hd (b := (k : Int)) (by omega)
      have HST : Hid (uTo d (k + 1) = if p % 26 == 1 then ((k : Nat) : Int) else uTo d k) := by rw [Hid, hp]; rfl
      rw [← hp] at hpb
      have hpw : IntKind.i64.wrap (d * (k : Int)) = p := by rw [← hp, IntKind.wrap_i64]; omega
      clear hp
      by_cases he : (p % 26 == 1) = true
      · have HE : Hid (uTo d (k + 1) = ((k : Nat) : Int)) := by rw [Hid, HST.out, if_pos he]
        go_wp2
        exact ⟨⟨k + 1, by omega, by go_num, by rw [HE.out]⟩, by simp [intOf]; omega⟩
      · have HE : Hid (uTo d (k + 1) = uTo d k) := by rw [Hid, HST.out, if_neg he]
        have he' : (p % 26 == 1) = false := by simpa using he
        clear he
        go_wp2
        exact ⟨⟨k + 1, by omega, by go_num, by rw [HE.out]⟩, by simp [intOf]; omega⟩
    · have hk26 : k = 26 := by omega
      subst hk26
      rw [HU.out]
      go_wp2
      go_ret2
      exact ⟨rfl, hb0⟩
set_option maxHeartbeats 1000000 in
theorem rinv_bad (v : Value) (n : Nat) (L : Nat → Nat) (Z : Nat → Nat → Int) (E : Int) (hE : (E != 0) = true) (he : matErr n L Z = E) (w : World) (hv : MatAt w v n L Z) :
    Calls Try.prog 22 #[v] w fun e w' => e = .returned (.tuple #[.slice none 0 0, .int .i64 E]) ∧ Below w.heap.size w w' := by
  have HV := (show Hid (MatAt w v n L Z) from hv)
  have HE : Hid (matErr n L Z = E) := he
  clear hv he
  go_enter Try.func22, Try.ntmps22
  go_wp2_with fail
  refine Calls.mono (rw3_any _ n L Z w HV.out) ?_
  rintro e W1 ⟨rfl, rfl⟩
  rw [HE.out]
  go_wp2
  go_ret2
  exact ⟨rfl, Below.refl _ _⟩
/-- Two functions answer alike: a matrix and OK, or nothing and an errno. -/
def AlikeM (k l : Nat) (args : Array Value) (w : World) : Prop :=
  ∃ (n : Nat) (Z : Nat → Nat → Int) (E : Int), n ≤ 4 ∧ ∀ f, (f = k ∨ f = l) → ∀ W, Below w.heap.size w W → Calls Try.prog f args W fun e w' => ∃ x, e = .returned (.tuple #[x, .int .i64 E]) ∧ MatAt w' x n (fun _ => n) Z ∧ Below W.heap.size W w'
theorem inv_alike (v : Value) (n : Nat) (L : Nat → Nat) (Z : Nat → Nat → Int) (w : World) (hv : MatAt w v n L Z) : AlikeM 21 22 #[v] w := by
  rcases matErr_cases n L Z with ⟨_, hg, hL⟩ | h0
  · rcases recOf_cases (detL n Z) with hr | hr
    · refine ⟨n, invL n Z, 0, hg.le, fun f hf W hW => ?_⟩
      rcases hf with rfl | rfl
      · exact hinv_ok v n L Z hg hL hr W (hv.below hW)
      · exact rinv_ok v n L Z hg hL hr W (hv.below hW)
    · refine ⟨0, fun _ _ => 0, 6, by omega, fun f hf W hW => ?_⟩
      rcases hf with rfl | rfl
      · exact (hinv_none v n L Z hg hL hr W (hv.below hW)).mono fun _ _ ⟨a, b⟩ => ⟨_, a, MatAt.nil _ _ _, b⟩
      · exact (rinv_none v n L Z hg hL hr W (hv.below hW)).mono fun _ _ ⟨a, b⟩ => ⟨_, a, MatAt.nil _ _ _, b⟩
  · refine ⟨0, fun _ _ => 0, matErr n L Z, by omega, fun f hf W hW => ?_⟩
    rcases hf with rfl | rfl
    · exact (hinv_bad v n L Z _ h0 rfl W (hv.below hW)).mono fun _ _ ⟨a, b⟩ => ⟨_, a, MatAt.nil _ _ _, b⟩
    · exact (rinv_bad v n L Z _ h0 rfl W (hv.below hW)).mono fun _ _ ⟨a, b⟩ => ⟨_, a, MatAt.nil _ _ _, b⟩
theorem prod_alike (u v : Value) (n m : Nat) (L M : Nat → Nat) (A B : Nat → Nat → Int) (w : World) (hu : MatAt w u n L A) (hv : MatAt w v m M B) : AlikeM 24 25 #[u, v] w := by
  by_cases hp : prodErr n L A m M B = 0
  · unfold prodErr at hp
    rcases matErr_cases n L A with ⟨hA0, hA, hL⟩ | h0
    · rcases matErr_cases m M B with ⟨hB0, hB, hM⟩ | h1
      · by_cases hnm : n = m
        · subst hnm
          refine ⟨n, mulL n A B, 0, hA.le, fun f hf W hW => ?_⟩
          rcases hf with rfl | rfl
          · exact hprod_ok u v n L M A B hA hL hB hM W (hu.below hW) (hv.below hW)
          · exact rprod_ok u v n L M A B hA hL hB hM W (hu.below hW) (hv.below hW)
        · rw [if_neg (by simp [hA0]), if_neg (by simp [hB0]), if_pos hnm] at hp
          cases hp
      · have h1' : matErr m M B ≠ 0 := by simpa using h1
        rw [if_neg (by simp [hA0]), if_pos h1'] at hp
        exact absurd hp h1'
    · have h0' : matErr n L A ≠ 0 := by simpa using h0
      rw [if_pos h0'] at hp
      exact absurd hp h0'
  · refine ⟨0, fun _ _ => 0, prodErr n L A m M B, by omega, fun f hf W hW => ?_⟩
    rcases hf with rfl | rfl
    · exact (hprod_bad u v n m L M A B _ (by simpa using hp) rfl W (hu.below hW) (hv.below hW)).mono fun _ _ ⟨a, b⟩ => ⟨_, a, MatAt.nil _ _ _, b⟩
    · exact (rprod_bad u v n m L M A B _ (by simpa using hp) rfl W (hu.below hW) (hv.below hW)).mono fun _ _ ⟨a, b⟩ => ⟨_, a, MatAt.nil _ _ _, b⟩
/-- .. a number and an errno. -/
def AlikeD (k l : Nat) (args : Array Value) (w : World) : Prop :=
  ∃ (d : Int) (E : Int), ∀ f, (f = k ∨ f = l) → ∀ W, Below w.heap.size w W → Calls Try.prog f args W fun e w' => e = .returned (.tuple #[.int .i64 d, .int .i64 E]) ∧ Below W.heap.size W w'
theorem det_alike (v : Value) (n : Nat) (L : Nat → Nat) (Z : Nat → Nat → Int) (w : World) (hv : MatAt w v n L Z) : AlikeD 19 20 #[v] w := by
  rcases matErr_cases n L Z with ⟨_, hg, hL⟩ | h0
  · refine ⟨detL n Z, 0, fun f hf W hW => ?_⟩
    rcases hf with rfl | rfl
    · exact hdet_ok v n L Z hg hL W (hv.below hW)
    · exact rdet_ok v n L Z hg hL W (hv.below hW)
  · refine ⟨0, matErr n L Z, fun f hf W hW => ?_⟩
    rcases hf with rfl | rfl
    · exact (hdet_bad v n L Z _ h0 rfl W (hv.below hW)).mono fun _ _ ⟨a, b⟩ => ⟨a, by rw [b]; exact Below.refl _ _⟩
    · exact (rdet_bad v n L Z _ h0 rfl W (hv.below hW)).mono fun _ _ ⟨a, b⟩ => ⟨a, by rw [b]; exact Below.refl _ _⟩
end Go.Proofs.Ytlgjgppojdamiab
