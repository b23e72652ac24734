/-
  Contract of the document's Product (chapter 3).
-/
import Derived.Test.YtlgjgppojdamiabHRef2
namespace Go.Proofs.Ytlgjgppojdamiab
open Go.RowKit PK

set_option maxHeartbeats 1000000 in
theorem rprod_ok (u v : Value) (n : Nat) (L M : Nat → Nat) (A B : Nat → Nat → Int) (hA : GoodM n A) (hL : ∀ r, r < n → L r = n) (hB : GoodM n B) (hM : ∀ r, r < n → M r = n) (w : World) (hu : MatAt w u n L A) (hv : MatAt w v n M B) :
    Calls Try.prog 25 #[u, v] w fun e w' => ∃ x, e = .returned (.tuple #[x, .int .i64 0]) ∧ MatAt w' x n (fun _ => n) (mulL n A B) ∧ Below w.heap.size w w' := by
  have HA0 : Hid (matErr n L A = 0) := (matErr_zero n L A).2 ⟨hA, hL⟩
  have HB0 : Hid (matErr n M B = 0) := (matErr_zero n M B).2 ⟨hB, hM⟩
  have HU := (show Hid (MatAt w u n L A) from hu)
  have HV := (show Hid (MatAt w v n M B) from hv)
  obtain ⟨a, cap, rfl, _⟩ := hu.len
  obtain ⟨a', cap', rfl, _⟩ := hv.len
  clear hu hv
  go_enter Try.func25, Try.ntmps25
  go_wp2_with fail
  refine Calls.mono (rw3_any _ n L A w HU.out) ?_
  rintro e W1 ⟨rfl, rfl⟩
  rw [HA0.out]
  go_wp2_with fail
  refine Calls.mono (rw3_any _ n M B w HV.out) ?_
  rintro e W1 ⟨rfl, rfl⟩
  rw [HB0.out]
  go_wp2_with fail
  refine Calls.mono (rtimes_any _ _ n hA.pos hA.le A B hA.num hB.num w (HU.out.square hL) (HV.out.square hM)) ?_
  rintro e W2 ⟨x, rfl, hx, hb2⟩
  go_wp2
  go_ret2
  exact ⟨_, rfl, OwnsM.square hx, hb2⟩
set_option maxHeartbeats 1000000 in
theorem rprod_bad (u v : Value) (n m : Nat) (L M : Nat → Nat) (A B : Nat → Nat → Int) (E : Int) (hE : (E != 0) = true) (he : prodErr n L A m M B = E) (w : World) (hu : MatAt w u n L A) (hv : MatAt w v m M B) :
    Calls Try.prog 25 #[u, v] w fun e w' => e = .returned (.tuple #[.slice none 0 0, .int .i64 E]) ∧ Below w.heap.size w w' := by
  have HU := (show Hid (MatAt w u n L A) from hu)
  have HV := (show Hid (MatAt w v m M B) from hv)
  obtain ⟨a, cap, rfl, _⟩ := hu.len
  obtain ⟨a', cap', rfl, _⟩ := hv.len
  have HE : Hid _ := he
  clear hu hv he
  go_enter Try.func25, Try.ntmps25
  go_wp2_with fail
  refine Calls.mono (rw3_any _ n L A w HU.out) ?_
  rintro e W1 ⟨rfl, rfl⟩
  have hP := HE.out
  unfold prodErr at hP
  rcases matErr_cases n L A with ⟨h0, _, _⟩ | h0
  · rw [h0] at hP ⊢
    rw [if_neg (by simp)] at hP
    go_wp2_with fail
    refine Calls.mono (rw3_any _ m M B w HV.out) ?_
    rintro e W1 ⟨rfl, rfl⟩
    rcases matErr_cases m M B with ⟨h1, _, _⟩ | h1
    · rw [h1] at hP ⊢
      rw [if_neg (by simp)] at hP
      by_cases hnm : n = m
      · rw [if_neg (by simpa using hnm)] at hP
        subst hP
        simp at hE
      · rw [if_pos hnm] at hP
        have hne : ((n : Int) != (m : Int)) = true := by simp; omega
        subst hP
        clear h0 h1
        go_wp2
        go_ret2
        exact ⟨rfl, Below.refl _ _⟩
    · rw [if_pos (by simpa using h1)] at hP
      rw [hP] at h1 ⊢
      clear hP h0 HE
      go_wp2
      go_ret2
      exact ⟨rfl, Below.refl _ _⟩
  · rw [if_pos (by simpa using h0)] at hP
    rw [hP] at h0 ⊢
    clear hP HE
    go_wp2
    go_ret2
    exact ⟨rfl, Below.refl _ _⟩
end Go.Proofs.Ytlgjgppojdamiab
