/-
  Contract of hill.Write where something is wrong.
-/
import Derived.Test.YtlgjgppojdamiabWEnc
import Derived.RegionTactic
namespace Go.Proofs.Ytlgjgppojdamiab
open Go.RowKit PK

set_option maxRecDepth 100000 in
set_option maxHeartbeats 2000000 in
theorem hwr_bad1 (v : Value) (n : Nat) (L : Nat → Nat) (Z : Nat → Nat → Int) (E : Int) (hE : (E != 0) = true) (he : matErr n L Z = E) (s : ByteArray) (w : World) (hv : MatAt w v n L Z) :
    Calls Try.prog 26 #[v, .string s] w fun e w' => e = .returned (.tuple #[.string ⟨#[]⟩, .agg #[.int .i64 E, .int .i64 0]]) ∧ Below w.heap.size w w' := by
  have HV := (show Hid (MatAt w v n L Z) from hv)
  have HE : Hid (matErr n L Z = E) := he
  clear hv he
  go_enter Try.func26, Try.ntmps26
  go_wp2_with fail
  refine Calls.mono (hwrong_any _ n L Z _ (HV.out.alloc _)) ?_
  rintro e W1 ⟨rfl, rfl⟩
  rw [HE.out]
  go_wp2
  refine bodyPost_ret (v := .tuple #[.string ⟨#[]⟩, .agg #[.int .i64 E, .int .i64 0]]) (by simp [results, Try.results26, go_sem]) rfl ⟨rfl, ?_⟩
  exact (Below.refl _ _).alloc (Nat.le_refl _) _
set_option maxRecDepth 100000 in
set_option maxHeartbeats 2000000 in
theorem hwr_bad2 (v : Value) (n : Nat) (L : Nat → Nat) (Z : Nat → Nat → Int) (he : matErr n L Z = 0) (s : ByteArray) (hc : (ckE s.data.toList != 0) = true) (w : World) (hv : MatAt w v n L Z) :
    Calls Try.prog 26 #[v, .string s] w fun e w' => e = .returned (.tuple #[.string ⟨#[]⟩, .agg #[.int .i64 (ckE s.data.toList), .int .i64 (ckAt s.data.toList)]]) ∧ Below w.heap.size w w' := by
  have HV := (show Hid (MatAt w v n L Z) from hv)
  have HE : Hid (matErr n L Z = 0) := he
  have HCK := (show Hid (∀ W, Calls Try.prog 53 #[.string s] W fun e w' => e = .returned (.agg #[.int .i64 (ckE s.data.toList), .int .i64 (ckAt s.data.toList)]) ∧ Below W.heap.size W w') from fun W => check_all s W)
  generalize ckE s.data.toList = E at *
  generalize ckAt s.data.toList = A at *
  clear hv he
  go_enter Try.func26, Try.ntmps26
  go_wp2_with fail
  refine Calls.mono (hwrong_any _ n L Z _ (HV.out.alloc _)) ?_
  rintro e W1 ⟨rfl, rfl⟩
  rw [HE.out]
  go_wp2_with fail
  refine Calls.mono (HCK.out _) ?_
  rintro e W1 ⟨rfl, hb⟩
  have hb1 : Below (w.heap.size + 1) (w.alloc (.cells #[.int .i64 0, .int .i64 0] 37)) W1 := by simpa using hb
  have hz := hb1.size
  simp at hz
  have hb2 := hb1.alloc (by omega) (.cells #[.int .i64 E, .int .i64 A] 37)
  clear hb
  obtain ⟨c0, c1, f0, f1, hsz⟩ := Kit.two_cells hb2
  clear HCK HV HE
  go_wp2_with fail
  go_region
  all_goals (try go_wp2)
  have q := Kit.read_two (.int .i64 E) (.int .i64 A) c0 c1
  refine bodyPost_ret (v := .tuple #[.string ⟨#[]⟩, .agg #[.int .i64 E, .int .i64 A]]) (by simp [results, Try.results26, go_sem, q.1, q.2]) rfl ⟨rfl, ?_⟩
  exact (Kit.below_two hb2 _ _).drew
set_option maxRecDepth 100000 in
set_option maxHeartbeats 2000000 in
theorem hwr_bad3 (v : Value) (n : Nat) (L : Nat → Nat) (Z : Nat → Nat → Int) (hg : GoodM n Z) (hL : ∀ r, r < n → L r = n) (s : ByteArray) (hs : s.size ≤ 65536) (hc : ckE s.data.toList = 0) (hc2 : ckAt s.data.toList = 0) (hlong : 65536 < (fullL n s.data.toList).length) (w : World) (hv : MatAt w v n L Z) :
    Calls Try.prog 26 #[v, .string s] w fun e w' => e = .returned (.tuple #[.string ⟨#[]⟩, .agg #[.int .i64 4, .int .i64 0]]) ∧ Below w.heap.size w w' := by
  have HV := (show Hid (MatAt w v n L Z) from hv)
  have HE : Hid (matErr n L Z = 0) := (matErr_zero n L Z).2 ⟨hg, hL⟩
  have HCK := (show Hid (∀ W, Calls Try.prog 53 #[.string s] W fun e w' => e = .returned (.agg #[.int .i64 0, .int .i64 0]) ∧ Below W.heap.size W w') from fun W => by have := check_all s W; rw [hc, hc2] at this; exact this)
  have h1 := hg.pos
  have h4 := hg.le
  obtain ⟨a0, c0', rfl, _⟩ := hv.len
  have HFL := (show Hid (∀ W, Calls Try.prog 54 #[.string s, .int .i64 (n : Nat)] W fun e w' => e = .returned (.string ⟨(fullL n s.data.toList).toArray⟩) ∧ Below W.heap.size W w') from fun W => filled_any s hs n h1 h4 W)
  have hT : 65536 < (⟨(fullL n s.data.toList).toArray⟩ : ByteArray).size := by simpa [ByteArray.size] using hlong
  generalize (⟨(fullL n s.data.toList).toArray⟩ : ByteArray) = T at *
  clear hv hg hL hlong hc hc2
  go_enter Try.func26, Try.ntmps26
  go_wp2_with fail
  refine Calls.mono (hwrong_any _ n L Z _ (HV.out.alloc _)) ?_
  rintro e W1 ⟨rfl, rfl⟩
  rw [HE.out]
  go_wp2_with fail
  refine Calls.mono (HCK.out _) ?_
  rintro e W1 ⟨rfl, hb⟩
  have hb1 : Below (w.heap.size + 1) (w.alloc (.cells #[.int .i64 0, .int .i64 0] 37)) W1 := by simpa using hb
  have hz := hb1.size
  simp at hz
  have hb2 := hb1.alloc (by omega) (.cells #[.int .i64 0, .int .i64 0] 37)
  clear hb
  go_wp2_with fail
  refine Calls.mono (HFL.out _) ?_
  rintro e W2 ⟨rfl, hb3⟩
  have hb4 := (hb2.trans (hb3.mono (by simp; omega))).alloc (by have := hb3.size; simp at this; omega) (.cells #[.string T] 9)
  obtain ⟨c0, c1, f0, f1, hsz⟩ := Kit.two_cells hb4
  clear hb3 HCK HV HE HFL
  go_wp2
  have q := Kit.read_two (.int .i64 4) (.int .i64 0) c0 c1
  refine bodyPost_ret (v := .tuple #[.string ⟨#[]⟩, .agg #[.int .i64 4, .int .i64 0]]) (by simp [results, Try.results26, go_sem, q.1, q.2]) rfl ⟨rfl, ?_⟩
  exact Kit.below_two hb4 _ _
end Go.Proofs.Ytlgjgppojdamiab
