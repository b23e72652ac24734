/-
  HillReckons: the walk.
-/
import Derived.Test.YtlgjgppojdamiabHRInv2
import Derived.Test.YtlgjgppojdamiabHSame
namespace Go.Proofs.Ytlgjgppojdamiab
open Go.RowKit PK

set_option maxRecDepth 100000 in
set_option maxHeartbeats 4000000 in
theorem law_hreck (u v : Value) (n m : Nat) (L M : Nat → Nat) (A B : Nat → Nat → Int) (w : World) (hu : MatAt w u n L A) (hv : MatAt w v m M B) :
    Calls Try.prog 5 #[u, v] w fun e w' => e = .returned (.bool true) ∧ Below w.heap.size w w' := by
  obtain ⟨d, ED, hD⟩ := det_alike u n L A w hu
  obtain ⟨ni, ZI, EI, hni, hI⟩ := inv_alike u n L A w hu
  obtain ⟨np, ZP, EP, hnp, hP⟩ := prod_alike u v n m L M A B w hu hv
  have HD := (show Hid (∀ f, (f = 19 ∨ f = 20) → ∀ W, Below w.heap.size w W → Calls Try.prog f #[u] W fun e w' => e = .returned (.tuple #[.int .i64 d, .int .i64 ED]) ∧ Below W.heap.size W w') from hD)
  have HI := (show Hid (∀ f, (f = 21 ∨ f = 22) → ∀ W, Below w.heap.size w W → Calls Try.prog f #[u] W fun e w' => ∃ x, e = .returned (.tuple #[x, .int .i64 EI]) ∧ MatAt w' x ni (fun _ => ni) ZI ∧ Below W.heap.size W w') from hI)
  have HP := (show Hid (∀ f, (f = 24 ∨ f = 25) → ∀ W, Below w.heap.size w W → Calls Try.prog f #[u, v] W fun e w' => ∃ x, e = .returned (.tuple #[x, .int .i64 EP]) ∧ MatAt w' x np (fun _ => np) ZP ∧ Below W.heap.size W w') from hP)
  have HU := (show Hid (MatAt w u n L A) from hu)
  clear hD hI hP hu hv
  go_enter Try.func5, Try.ntmps5
  go_wp2_with fail
  refine Calls.mono (hwrong_any u n L A w HU.out) ?_
  rintro e W1 ⟨rfl, rfl⟩
  generalize hme : matErr n L A = E0
  have HME : Hid (matErr n L A = E0) := hme
  clear hme
  go_wp2_with fail
  refine Calls.mono (rw3_any u n L A w HU.out) ?_
  rintro e W1 ⟨rfl, rfl⟩
  rw [HME.out]
  go_wp2_with fail
  refine Calls.mono (HD.out _ (.inl rfl) w (Below.refl _ _)) ?_
  rintro e W1 ⟨rfl, hb⟩
  have hz := hb.size
  go_wp2_with fail
  refine Calls.mono (HD.out _ (.inr rfl) W1 hb) ?_
  rintro e W2 ⟨rfl, hc⟩
  have hz9 := hc.size
  replace hb := hb.trans (hc.mono hz)
  replace hz := Nat.le_trans hz hz9
  clear hc hz9
  go_wp2_with fail
  refine Calls.mono (HI.out _ (.inl rfl) W2 hb) ?_
  rintro e W3 ⟨x1, rfl, hx1, hc⟩
  have hz9 := hc.size
  replace hb := hb.trans (hc.mono hz)
  replace hz := Nat.le_trans hz hz9
  clear hc hz9
  go_wp2_with fail
  refine Calls.mono (HI.out _ (.inr rfl) W3 hb) ?_
  rintro e W4 ⟨y1, rfl, hy1, hc⟩
  have hz9 := hc.size
  replace hx1 := hx1.below hc
  replace hb := hb.trans (hc.mono hz)
  replace hz := Nat.le_trans hz hz9
  clear hc hz9
  go_wp2_with fail
  refine Calls.mono (rsame_ok x1 y1 ni hni ZI W4 hx1 hy1) ?_
  rintro e W5 ⟨rfl, hc⟩
  have hz9 := hc.size
  replace hb := hb.trans (hc.mono hz)
  replace hz := Nat.le_trans hz hz9
  clear hc hz9 hx1 hy1
  go_wp2_with fail
  refine Calls.mono (HP.out _ (.inl rfl) W5 hb) ?_
  rintro e W6 ⟨x2, rfl, hx2, hc⟩
  have hz9 := hc.size
  replace hb := hb.trans (hc.mono hz)
  replace hz := Nat.le_trans hz hz9
  clear hc hz9
  go_wp2_with fail
  refine Calls.mono (HP.out _ (.inr rfl) W6 hb) ?_
  rintro e W7 ⟨y2, rfl, hy2, hc⟩
  have hz9 := hc.size
  replace hx2 := hx2.below hc
  replace hb := hb.trans (hc.mono hz)
  replace hz := Nat.le_trans hz hz9
  clear hc hz9
  go_wp2_with fail
  refine Calls.mono (rsame_ok x2 y2 np hnp ZP W7 hx2 hy2) ?_
  rintro e W8 ⟨rfl, hc⟩
  replace hb := hb.trans (hc.mono hz)
  clear hc hx2 hy2
  go_wp2
  go_ret
  exact ⟨rfl, hb⟩
end Go.Proofs.Ytlgjgppojdamiab
