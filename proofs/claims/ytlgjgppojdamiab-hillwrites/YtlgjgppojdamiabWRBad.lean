/-
  Contract of the document's Write (chapter 3) where something is wrong.
-/
import Derived.Test.YtlgjgppojdamiabWEnc
import Derived.Test.YtlgjgppojdamiabHRef1
import Derived.RegionTactic
namespace Go.Proofs.Ytlgjgppojdamiab
open Go.RowKit PK

set_option maxRecDepth 100000 in
set_option maxHeartbeats 2000000 in
theorem rwr_bad1 (v : Value) (n : Nat) (L : Nat → Nat) (Z : Nat → Nat → Int) (E : Int) (hE : (E != 0) = true) (he : matErr n L Z = E) (s : ByteArray) (w : World) (hv : MatAt w v n L Z) :
    Calls Try.prog 27 #[v, .string s] w fun e w' => e = .returned (.tuple #[.string ⟨#[]⟩, .agg #[.int .i64 E, .int .i64 0]]) ∧ Below w.heap.size w w' := by
  have HV := (show Hid (MatAt w v n L Z) from hv)
  have HE : Hid (matErr n L Z = E) := he
  clear hv he
  go_enter Try.func27, Try.ntmps27
  go_wp2_with fail
  refine Calls.mono (rw3_any _ n L Z _ (HV.out.alloc _)) ?_
  rintro e W1 ⟨rfl, rfl⟩
  rw [HE.out]
  go_wp2
  refine bodyPost_ret (v := .tuple #[.string ⟨#[]⟩, .agg #[.int .i64 E, .int .i64 0]]) (by simp [results, Try.results27, go_sem]) rfl ⟨rfl, ?_⟩
  exact (Below.refl _ _).alloc (Nat.le_refl _) _
set_option maxRecDepth 100000 in
set_option maxHeartbeats 2000000 in
theorem rwr_bad2 (v : Value) (n : Nat) (L : Nat → Nat) (Z : Nat → Nat → Int) (he : matErr n L Z = 0) (s : ByteArray) (hc : (ckE s.data.toList != 0) = true) (w : World) (hv : MatAt w v n L Z) :
    Calls Try.prog 27 #[v, .string s] w fun e w' => e = .returned (.tuple #[.string ⟨#[]⟩, .agg #[.int .i64 (ckE s.data.toList), .int .i64 (ckAt s.data.toList)]]) ∧ Below w.heap.size w w' := by
  have HV := (show Hid (MatAt w v n L Z) from hv)
  have HE : Hid (matErr n L Z = 0) := he
  have HCK := (show Hid (∀ W, Calls Try.prog 58 #[.string s] W fun e w' => e = .returned (.agg #[.int .i64 (ckE s.data.toList), .int .i64 (ckAt s.data.toList)]) ∧ Below W.heap.size W w') from fun W => rcheck_all s W)
  generalize ckE s.data.toList = E at *
  generalize ckAt s.data.toList = A at *
  clear hv he
  go_enter Try.func27, Try.ntmps27
  go_wp2_with fail
  refine Calls.mono (rw3_any _ n L Z _ (HV.out.alloc _)) ?_
  rintro e W1 ⟨rfl, rfl⟩
  rw [HE.out]
  go_wp2_with fail
  refine Calls.mono (HCK.out _) ?_
  rintro e W1 ⟨rfl, hb⟩
  have hb1 : Below (w.heap.size + 1) (w.alloc (.cells #[.int .i64 0, .int .i64 0] 37)) W1 := by simpa using hb
  have hz := hb1.size
  simp at hz
  have hb2 := hb1.alloc (by omega) (.cells #[.int .i64 E, .int .i64 A] 37)
  clear hb
  obtain ⟨c0, c1, f0, f1, hsz⟩ := Kit.two_cells hb2
  clear HCK HV HE
  go_wp2_with fail
  go_region
  all_goals (try go_wp2)
  have q := Kit.read_two (.int .i64 E) (.int .i64 A) c0 c1
  refine bodyPost_ret (v := .tuple #[.string ⟨#[]⟩, .agg #[.int .i64 E, .int .i64 A]]) (by simp [results, Try.results27, go_sem, q.1, q.2]) rfl ⟨rfl, ?_⟩
  exact (Kit.below_two hb2 _ _).drew
end Go.Proofs.Ytlgjgppojdamiab
