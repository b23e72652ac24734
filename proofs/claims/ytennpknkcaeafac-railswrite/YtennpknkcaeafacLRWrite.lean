/-
  RailsWrite, walked.
-/
import Derived.Test.YtennpknkcaeafacYRef
import Derived.Test.YtennpknkcaeafacYRPer
namespace Go.Proofs.Ytennpknkcaeafac
open Go.RowKit PK

set_option maxRecDepth 100000 in
set_option maxHeartbeats 2000000 in
theorem law_rwrite (v : Value) (n : Nat) (f : Nat → Int) (s : ByteArray) (w : World) (hv : NumsAt w v n f) :
    Calls Try.prog 4 #[v, .string s] w fun e w' => e = .returned (.bool true) ∧ Below w.heap.size w w' := by
  have H1 := (show Hid (∀ W, Below w.heap.size w W → Calls Try.prog 15 #[v] W fun e w' => e = .returned (.int .i64 (ordE n f)) ∧ Below W.heap.size W w') from fun W hW => wrong_any v n f W (hv.below hW))
  have H2 := (show Hid (∀ W, Below w.heap.size w W → Calls Try.prog 16 #[v] W fun e w' => e = .returned (.int .i64 (ordE n f)) ∧ Below W.heap.size W w') from fun W hW => rwrong_any v n f W (hv.below hW))
  obtain ⟨T1, hT1⟩ : ∃ T : ByteArray, T = ⟨(if fitE n f s.data.toList = 0 then putL n f s.data.toList else []).toArray⟩ := ⟨_, rfl⟩
  obtain ⟨T2, hT2⟩ : ∃ T : ByteArray, T = ⟨(if fitE n f s.data.toList = 0 then putL n (backF f n) s.data.toList else []).toArray⟩ := ⟨_, rfl⟩
  have H3 := (show Hid (∀ W, Below w.heap.size w W → Calls Try.prog 17 #[v, .string s] W fun e w' => e = .returned (.tuple #[.string T1, .int .i64 (fitE n f s.data.toList)]) ∧ Below W.heap.size W w') from fun W hW => by rw [hT1]; exact ywrite_any v n f s W (hv.below hW))
  have H4 := (show Hid (∀ W, Below w.heap.size w W → Calls Try.prog 18 #[v, .string s] W fun e w' => e = .returned (.tuple #[.string T1, .int .i64 (fitE n f s.data.toList)]) ∧ Below W.heap.size W w') from fun W hW => by rw [hT1]; exact rwrite_any v n f s W (hv.below hW))
  have H5 := (show Hid (∀ W, Below w.heap.size w W → Calls Try.prog 19 #[v, .string s] W fun e w' => e = .returned (.tuple #[.string T2, .int .i64 (fitE n f s.data.toList)]) ∧ Below W.heap.size W w') from fun W hW => by rw [hT2]; exact yread_any v n f s W (hv.below hW))
  have H6 := (show Hid (∀ W, Below w.heap.size w W → Calls Try.prog 20 #[v, .string s] W fun e w' => e = .returned (.tuple #[.string T2, .int .i64 (fitE n f s.data.toList)]) ∧ Below W.heap.size W w') from fun W hW => by rw [hT2]; exact rread_any v n f s W (hv.below hW))
  have H7 := (show Hid (∀ W, Below w.heap.size w W → Calls Try.prog 21 #[v] W fun e w' => ∃ a E : Int, e = .returned (.tuple #[.int .i64 a, .int .i64 E]) ∧ PeriodOut n f a E ∧ Below W.heap.size W w') from fun W hW => period_any v n f W (hv.below hW))
  have H8 := (show Hid (∀ W, Below w.heap.size w W → Calls Try.prog 22 #[v] W fun e w' => ∃ a E : Int, e = .returned (.tuple #[.int .i64 a, .int .i64 E]) ∧ PeriodOut n f a E ∧ Below W.heap.size W w') from fun W hW => rperiod_any v n f W (hv.below hW))
  have hb0 : Below w.heap.size w w := Below.refl _ _
  generalize fitE n f s.data.toList = E at *
  generalize ordE n f = E1 at *
  clear hT1 hT2 hv
  go_enter Try.func4, Try.ntmps4
  go_wp2_with (first
    | (go_at_call 15; refine (H1.out _ hb0).mono ?_; rintro e W1 ⟨rfl, hb⟩; have hb1 := hb0.trans (hb.mono hb0.size); clear hb)
    | (go_at_call 16; refine (H2.out _ hb1).mono ?_; rintro e W2 ⟨rfl, hb⟩; have hb2 := hb1.trans (hb.mono hb1.size); clear hb)
    | (go_at_call 17; refine (H3.out _ hb2).mono ?_; rintro e W3 ⟨rfl, hb⟩; have hb3 := hb2.trans (hb.mono hb2.size); clear hb)
    | (go_at_call 18; refine (H4.out _ hb3).mono ?_; rintro e W4 ⟨rfl, hb⟩; have hb4 := hb3.trans (hb.mono hb3.size); clear hb)
    | (go_at_call 19; refine (H5.out _ hb4).mono ?_; rintro e W5 ⟨rfl, hb⟩; have hb5 := hb4.trans (hb.mono hb4.size); clear hb)
    | (go_at_call 20; refine (H6.out _ hb5).mono ?_; rintro e W6 ⟨rfl, hb⟩; have hb6 := hb5.trans (hb.mono hb5.size); clear hb)
    | (go_at_call 21; refine (H7.out _ hb6).mono ?_; rintro e W7 ⟨a, E7, rfl, hp, hb⟩; have hb7 := hb6.trans (hb.mono hb6.size); clear hb)
    | (go_at_call 22; refine (H8.out _ hb7).mono ?_; rintro e W8 ⟨a', E8, rfl, hp', hb⟩; obtain ⟨rfl, rfl⟩ := periodOut_uniq hp hp'; have hb8 := hb7.trans (hb.mono hb7.size); clear hb))
  go_ret
  exact ⟨rfl, hb8⟩
end Go.Proofs.Ytennpknkcaeafac
