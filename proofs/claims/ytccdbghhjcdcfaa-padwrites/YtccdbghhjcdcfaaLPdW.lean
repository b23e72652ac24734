/-
  PadWrites: Write and Read of anything.
-/
import Derived.Test.YtccdbghhjcdcfaaPdL
namespace Go.Proofs.Ytccdbghhjcdcfaa
open Go.RowKit PK Pd

set_option maxRecDepth 100000 in
set_option maxHeartbeats 8000000 in
theorem padwrites_of (n : Int) (vt vp : Value) (nt np : Nat) (ft fp : Nat → Int) (w : World) (ht : Ans w vt nt ft) (hp : Ans w vp np fp) : Calls Try.prog 3 #[.int .i64 n, vt, vp] w fun e w' => e = .returned (.bool true) ∧ Below w.heap.size w w' := by
  have H1 := (show Hid (∀ W, Below w.heap.size w W → Calls Try.prog 8 #[.int .i64 n, vt, vp] W fun e w' => ∃ v, e = .returned (.tuple #[v, .int .i64 (txE n nt np ft fp)]) ∧ Ans w' v (rl (txE n nt np ft fp) nt) (wrF n ft fp) ∧ Below W.heap.size W w') from fun W hb => pwr_any n vt vp nt np ft fp W (ht.2.below hb) (hp.2.below hb))
  have H2 := (show Hid (∀ W, Below w.heap.size w W → Calls Try.prog 9 #[.int .i64 n, vt, vp] W fun e w' => ∃ v, e = .returned (.tuple #[v, .int .i64 (txE n nt np ft fp)]) ∧ Ans w' v (rl (txE n nt np ft fp) nt) (wrF n ft fp) ∧ Below W.heap.size W w') from fun W hb => rwr_any n vt vp nt np ft fp W (ht.2.below hb) (hp.2.below hb))
  have H3 := (show Hid (∀ W, Below w.heap.size w W → Calls Try.prog 11 #[.int .i64 n, vt, vp] W fun e w' => ∃ v, e = .returned (.tuple #[v, .int .i64 (txE n nt np ft fp)]) ∧ Ans w' v (rl (txE n nt np ft fp) nt) (rdF n ft fp) ∧ Below W.heap.size W w') from fun W hb => prd_any n vt vp nt np ft fp W (ht.2.below hb) (hp.2.below hb))
  have H4 := (show Hid (∀ W, Below w.heap.size w W → Calls Try.prog 12 #[.int .i64 n, vt, vp] W fun e w' => ∃ v, e = .returned (.tuple #[v, .int .i64 (txE n nt np ft fp)]) ∧ Ans w' v (rl (txE n nt np ft fp) nt) (rdF n ft fp) ∧ Below W.heap.size W w') from fun W hb => rrd_any n vt vp nt np ft fp W (ht.2.below hb) (hp.2.below hb))
  obtain ⟨⟨at', ct, rfl, _⟩, _⟩ := ht
  obtain ⟨⟨ap, cp, rfl, _⟩, _⟩ := hp
  generalize txE n nt np ft fp = E at *
  generalize wrF n ft fp = F1 at *
  generalize rdF n ft fp = F2 at *
  have HB0 := (show Hid (Below w.heap.size w w) from Below.refl _ _)
  go_enter Try.func3, Try.ntmps3
  go_wp2_with fail
  refine (H1.out _ HB0.out).mono ?_
  rintro e W1 ⟨v1, rfl, ha1, hb1⟩
  have HA1 := (show Hid _ from ha1)
  have HB1 := (show Hid (Below w.heap.size w W1) from HB0.out.trans (hb1.mono HB0.out.size))
  clear ha1 hb1 H1 HB0
  go_wp2_with fail
  refine (H2.out _ HB1.out).mono ?_
  rintro e W2 ⟨v2, rfl, ha2, hb2⟩
  have HS := (show Hid (Calls Try.prog 10 #[v1, v2] W2 fun e w' => e = .returned (.bool true) ∧ Below W2.heap.size W2 w') from ans_same (Ans.below HA1.out hb2) ha2 rfl fun _ _ => rfl)
  have HB2 := (show Hid (Below w.heap.size w W2) from HB1.out.trans (hb2.mono HB1.out.size))
  clear ha2 hb2 H2 HA1 HB1
  go_wp2_with fail
  refine Calls.mono HS.out ?_
  rintro e W3 ⟨rfl, hb3⟩
  have HB3 := (show Hid (Below w.heap.size w W3) from HB2.out.trans (hb3.mono HB2.out.size))
  clear hb3 HS HB2
  have hee : (E != E) = false := by simp
  go_wp2_with fail
  refine (H3.out _ HB3.out).mono ?_
  rintro e W4 ⟨v4, rfl, ha4, hb4⟩
  have HA4 := (show Hid _ from ha4)
  have HB4 := (show Hid (Below w.heap.size w W4) from HB3.out.trans (hb4.mono HB3.out.size))
  clear ha4 hb4 H3 HB3
  go_wp2_with fail
  refine (H4.out _ HB4.out).mono ?_
  rintro e W5 ⟨v5, rfl, ha5, hb5⟩
  have HS := (show Hid (Calls Try.prog 10 #[v4, v5] W5 fun e w' => e = .returned (.bool true) ∧ Below W5.heap.size W5 w') from ans_same (Ans.below HA4.out hb5) ha5 rfl fun _ _ => rfl)
  have HB5 := (show Hid (Below w.heap.size w W5) from HB4.out.trans (hb5.mono HB4.out.size))
  clear ha5 hb5 H4 HA4 HB4
  go_wp2_with fail
  refine Calls.mono HS.out ?_
  rintro e W6 ⟨rfl, hb6⟩
  have HB6 := (show Hid (Below w.heap.size w W6) from HB5.out.trans (hb6.mono HB5.out.size))
  clear hb6 HS HB5
  go_wp2
  go_ret
  exact ⟨by simp, HB6.out⟩
end Go.Proofs.Ytccdbghhjcdcfaa
