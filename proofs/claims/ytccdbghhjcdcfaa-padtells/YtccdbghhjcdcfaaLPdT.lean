/-
  PadTells: Chances, Secret, Split and Join of anything.
-/
import Derived.Test.YtccdbghhjcdcfaaPdL
namespace Go.Proofs.Ytccdbghhjcdcfaa
open Go.RowKit PK Pd

set_option maxRecDepth 100000 in
set_option maxHeartbeats 8000000 in
theorem padtells_of (n s k : Int) (vw vc vs : Value) (nw nc ns : Nat) (fw fc fs : Nat → Int) (w : World) (hw : Ans w vw nw fw) (hc : Ans w vc nc fc) (hs : Ans w vs ns fs) : Calls Try.prog 4 #[.int .i64 n, vw, .int .i64 s, .int .i64 k, vc, vs] w fun e w' => e = .returned (.bool true) ∧ Below w.heap.size w w' := by
  have H1 := (show Hid (∀ W, Below w.heap.size w W → Calls Try.prog 13 #[.int .i64 n, vw, .int .i64 s] W fun e w' => ∃ v, e = .returned (.tuple #[v, .int .i64 (wtE n s nw fw)]) ∧ Ans w' v (rl (wtE n s nw fw) n.toNat) (chF n s fw) ∧ Below W.heap.size W w') from fun W hb => pch_any n s vw nw fw W (hw.2.below hb))
  have H2 := (show Hid (∀ W, Below w.heap.size w W → Calls Try.prog 14 #[.int .i64 n, vw, .int .i64 s] W fun e w' => ∃ v, e = .returned (.tuple #[v, .int .i64 (wtE n s nw fw)]) ∧ Ans w' v (rl (wtE n s nw fw) n.toNat) (chF n s fw) ∧ Below W.heap.size W w') from fun W hb => rch_any n s vw nw fw W (hw.2.below hb))
  have H3 := (show Hid (∀ W, Below w.heap.size w W → Calls Try.prog 15 #[.int .i64 n, vw] W fun e w' => e = .returned (.tuple #[.bool (seB n nw fw), .int .i64 (wtE n 0 nw fw)]) ∧ Below W.heap.size W w') from fun W hb => pse_any n vw nw fw W (hw.2.below hb))
  have H4 := (show Hid (∀ W, Below w.heap.size w W → Calls Try.prog 16 #[.int .i64 n, vw] W fun e w' => e = .returned (.tuple #[.bool (seB n nw fw), .int .i64 (wtE n 0 nw fw)]) ∧ Below W.heap.size W w') from fun W hb => rse_any n vw nw fw W (hw.2.below hb))
  have H5 := (show Hid (∀ W, Below w.heap.size w W → Calls Try.prog 17 #[.int .i64 n, .int .i64 k, vc] W fun e w' => ∃ v, e = .returned (.tuple #[v, .int .i64 (spE n k nc fc)]) ∧ Ans w' v (rl (spE n k nc fc) (nc + 1)) (spF n k nc fc) ∧ Below W.heap.size W w') from fun W hb => (psp_any n k vc nc fc W (hc.2.below hb)).mono fun e w' ⟨v, h1, h2, _, h3⟩ => ⟨v, h1, h2, h3⟩)
  have H6 := (show Hid (∀ W, Below w.heap.size w W → Calls Try.prog 18 #[.int .i64 n, .int .i64 k, vc] W fun e w' => ∃ v, e = .returned (.tuple #[v, .int .i64 (spE n k nc fc)]) ∧ Ans w' v (rl (spE n k nc fc) (nc + 1)) (spF n k nc fc) ∧ Below W.heap.size W w') from fun W hb => rsp_any n k vc nc fc W (hc.below hb))
  have H7 := (show Hid (∀ W, Below w.heap.size w W → Calls Try.prog 19 #[.int .i64 n, vs] W fun e w' => e = .returned (.tuple #[.int .i64 (joN n ns fs), .int .i64 (joE n ns fs)]) ∧ Below W.heap.size W w') from fun W hb => pjo_any n vs ns fs W (hs.2.below hb))
  have H8 := (show Hid (∀ W, Below w.heap.size w W → Calls Try.prog 20 #[.int .i64 n, vs] W fun e w' => e = .returned (.tuple #[.int .i64 (joN n ns fs), .int .i64 (joE n ns fs)]) ∧ Below W.heap.size W w') from fun W hb => (rjo_any n vs ns fs W (hs.2.below hb)).mono fun e w' ⟨h1, h2⟩ => ⟨h2, by rw [← h1]; exact Below.refl _ _⟩)
  obtain ⟨⟨aw, cw, rfl, _⟩, _⟩ := hw
  obtain ⟨⟨ac, cc, rfl, _⟩, _⟩ := hc
  obtain ⟨⟨as', cs, rfl, _⟩, _⟩ := hs
  generalize wtE n s nw fw = E1 at *
  generalize wtE n 0 nw fw = E2 at *
  generalize spE n k nc fc = E3 at *
  generalize joE n ns fs = E4 at *
  generalize seB n nw fw = B at *
  generalize joN n ns fs = J at *
  generalize chF n s fw = F1 at *
  generalize spF n k nc fc = F2 at *
  have HB0 := (show Hid (Below w.heap.size w w) from Below.refl _ _)
  have e1 : (E1 != E1) = false := by simp
  have e2 : (E2 != E2) = false := by simp
  have e3 : (E3 != E3) = false := by simp
  have e4 : (B != B) = false := by simp
  go_enter Try.func4, Try.ntmps4
  go_wp2_with fail
  refine (H1.out _ HB0.out).mono ?_
  rintro e W1 ⟨v1, rfl, ha1, hb1⟩
  have HA1 := (show Hid _ from ha1)
  have HB1 := (show Hid (Below w.heap.size w W1) from HB0.out.trans (hb1.mono HB0.out.size))
  clear ha1 hb1 H1 HB0
  go_wp2_with fail
  refine (H2.out _ HB1.out).mono ?_
  rintro e W2 ⟨v2, rfl, ha2, hb2⟩
  have HS := (show Hid (Calls Try.prog 10 #[v1, v2] W2 fun e w' => e = .returned (.bool true) ∧ Below W2.heap.size W2 w') from ans_same (Ans.below HA1.out hb2) ha2 rfl fun _ _ => rfl)
  have HB2 := (show Hid (Below w.heap.size w W2) from HB1.out.trans (hb2.mono HB1.out.size))
  clear ha2 hb2 H2 HA1 HB1
  go_wp2_with fail
  refine Calls.mono HS.out ?_
  rintro e W3 ⟨rfl, hb3⟩
  have HB3 := (show Hid (Below w.heap.size w W3) from HB2.out.trans (hb3.mono HB2.out.size))
  clear hb3 HS HB2
  go_wp2_with fail
  refine (H3.out _ HB3.out).mono ?_
  rintro e W4 ⟨rfl, hb4⟩
  have HB4 := (show Hid (Below w.heap.size w W4) from HB3.out.trans (hb4.mono HB3.out.size))
  clear hb4 H3 HB3
  go_wp2_with fail
  refine (H4.out _ HB4.out).mono ?_
  rintro e W5 ⟨rfl, hb5⟩
  have HB5 := (show Hid (Below w.heap.size w W5) from HB4.out.trans (hb5.mono HB4.out.size))
  clear hb5 H4 HB4
  go_wp2_with fail
  refine (H5.out _ HB5.out).mono ?_
  rintro e W6 ⟨v6, rfl, ha6, hb6⟩
  have HA6 := (show Hid _ from ha6)
  have HB6 := (show Hid (Below w.heap.size w W6) from HB5.out.trans (hb6.mono HB5.out.size))
  clear ha6 hb6 H5 HB5
  go_wp2_with fail
  refine (H6.out _ HB6.out).mono ?_
  rintro e W7 ⟨v7, rfl, ha7, hb7⟩
  have HS := (show Hid (Calls Try.prog 10 #[v6, v7] W7 fun e w' => e = .returned (.bool true) ∧ Below W7.heap.size W7 w') from ans_same (Ans.below HA6.out hb7) ha7 rfl fun _ _ => rfl)
  have HB7 := (show Hid (Below w.heap.size w W7) from HB6.out.trans (hb7.mono HB6.out.size))
  clear ha7 hb7 H6 HA6 HB6
  go_wp2_with fail
  refine Calls.mono HS.out ?_
  rintro e W8 ⟨rfl, hb8⟩
  have HB8 := (show Hid (Below w.heap.size w W8) from HB7.out.trans (hb8.mono HB7.out.size))
  clear hb8 HS HB7
  go_wp2_with fail
  refine (H7.out _ HB8.out).mono ?_
  rintro e W9 ⟨rfl, hb9⟩
  have HB9 := (show Hid (Below w.heap.size w W9) from HB8.out.trans (hb9.mono HB8.out.size))
  clear hb9 H7 HB8
  go_wp2_with fail
  refine (H8.out _ HB9.out).mono ?_
  rintro e W10 ⟨rfl, hb10⟩
  have HB10 := (show Hid (Below w.heap.size w W10) from HB9.out.trans (hb10.mono HB9.out.size))
  clear hb10 H8 HB9
  go_wp2
  go_ret
  exact ⟨by simp, HB10.out⟩
end Go.Proofs.Ytccdbghhjcdcfaa
