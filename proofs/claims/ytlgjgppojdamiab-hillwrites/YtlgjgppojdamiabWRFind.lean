/-
  Contract of the document's Find (chapter 3).
-/
import Derived.Test.YtlgjgppojdamiabWRCol
import Derived.Test.YtlgjgppojdamiabHRInv2
namespace Go.Proofs.Ytlgjgppojdamiab
open Go.RowKit PK

theorem rcheck_ok0 (s : ByteArray) (h1 : ckE s.data.toList = 0) (h2 : ckAt s.data.toList = 0) (W : World) : Calls Try.prog 58 #[.string s] W fun e w' => e = .returned (.agg #[.int .i64 0, .int .i64 0]) ∧ Below W.heap.size W w' := by
  have := rcheck_all s W
  rw [h1, h2] at this
  exact this
set_option maxHeartbeats 1000000 in
theorem rfind_n (N : Int) (hN : N < 1 ∨ 4 < N) (s t : ByteArray) (w : World) : Calls Try.prog 29 #[.int .i64 N, .string s, .string t] w fun e w' => e = .returned (.tuple #[.slice none 0 0, .int .i64 5]) ∧ Below w.heap.size w w' := by
  have hN' : N < 1 ∨ (¬ N < 1 ∧ 4 < N) := by omega
  clear hN
  rcases hN' with h | ⟨h, h'⟩
  · go_enter Try.func29, Try.ntmps29
    go_wp2
    go_ret2
    exact ⟨rfl, (Below.refl _ _).alloc (Nat.le_refl _) _⟩
  · go_enter Try.func29, Try.ntmps29
    go_wp2
    go_ret2
    exact ⟨rfl, (Below.refl _ _).alloc (Nat.le_refl _) _⟩
set_option maxRecDepth 100000 in
set_option maxHeartbeats 2000000 in
theorem rfind_s (n : Nat) (h1 : 1 ≤ n) (h4 : n ≤ 4) (s t : ByteArray) (hE : (ckE s.data.toList != 0) = true) (w : World) : Calls Try.prog 29 #[.int .i64 (n : Nat), .string s, .string t] w fun e w' => e = .returned (.tuple #[.slice none 0 0, .int .i64 (ckE s.data.toList)]) ∧ Below w.heap.size w w' := by
  have HC1 := (show Hid (∀ W, Calls Try.prog 58 #[.string s] W fun e w' => e = .returned (.agg #[.int .i64 (ckE s.data.toList), .int .i64 (ckAt s.data.toList)]) ∧ Below W.heap.size W w') from rcheck_all s)
  generalize ckE s.data.toList = E at *
  generalize ckAt s.data.toList = A at *
  have hn1 : ¬ ((n : Nat) : Int) < 1 := by omega
  have hn4 : ¬ (4 : Int) < ((n : Nat) : Int) := by omega
  go_enter Try.func29, Try.ntmps29
  go_wp2_with fail
  have q3 := RowAt.new w 3 #[.int .i64 (n : Nat)]
  have hb : Below w.heap.size w (w.alloc (.cells #[.int .i64 (n : Nat)] 3)) := (Below.refl _ _).alloc (Nat.le_refl _) _
  have hz : w.heap.size < (w.alloc (.cells #[.int .i64 (n : Nat)] 3)).heap.size := by simp
  generalize w.alloc (.cells #[.int .i64 (n : Nat)] 3) = W0 at *
  refine Calls.mono (HC1.out _) ?_
  rintro e W1 ⟨rfl, hc⟩
  have hz9 := hc.size
  replace q3 := (q3.below hc q3.lt).alloc (.cells #[.int .i64 E, .int .i64 A] 37)
  replace hb := (hb.trans (hc.mono (by omega))).alloc (by omega) (.cells #[.int .i64 E, .int .i64 A] 37)
  replace hz : w.heap.size < (W1.alloc (.cells #[.int .i64 E, .int .i64 A] 37)).heap.size := by simp; omega
  clear hc hz9
  go_wp2_with fail
  go_quiet (fail)
  go_wp2
  go_ret2
  exact ⟨rfl, ⟨hb.os, hb.tape, hb.output, hb.size, hb.block⟩⟩
set_option maxRecDepth 100000 in
set_option maxHeartbeats 2000000 in
theorem rfind_t (n : Nat) (h1 : 1 ≤ n) (h4 : n ≤ 4) (s t : ByteArray) (hs1 : ckE s.data.toList = 0) (hs2 : ckAt s.data.toList = 0) (hE : (ckE t.data.toList != 0) = true) (w : World) : Calls Try.prog 29 #[.int .i64 (n : Nat), .string s, .string t] w fun e w' => e = .returned (.tuple #[.slice none 0 0, .int .i64 (ckE t.data.toList)]) ∧ Below w.heap.size w w' := by
  have HC1 := (show Hid (∀ W, Calls Try.prog 58 #[.string s] W fun e w' => e = .returned (.agg #[.int .i64 0, .int .i64 0]) ∧ Below W.heap.size W w') from rcheck_ok0 s hs1 hs2)
  have HC2 := (show Hid (∀ W, Calls Try.prog 58 #[.string t] W fun e w' => e = .returned (.agg #[.int .i64 (ckE t.data.toList), .int .i64 (ckAt t.data.toList)]) ∧ Below W.heap.size W w') from rcheck_all t)
  generalize ckE t.data.toList = E at *
  generalize ckAt t.data.toList = A at *
  clear hs1 hs2
  have hn1 : ¬ ((n : Nat) : Int) < 1 := by omega
  have hn4 : ¬ (4 : Int) < ((n : Nat) : Int) := by omega
  go_enter Try.func29, Try.ntmps29
  go_wp2_with fail
  have q3 := RowAt.new w 3 #[.int .i64 (n : Nat)]
  have hb : Below w.heap.size w (w.alloc (.cells #[.int .i64 (n : Nat)] 3)) := (Below.refl _ _).alloc (Nat.le_refl _) _
  have hz : w.heap.size < (w.alloc (.cells #[.int .i64 (n : Nat)] 3)).heap.size := by simp
  generalize w.alloc (.cells #[.int .i64 (n : Nat)] 3) = W0 at *
  refine Calls.mono (HC1.out _) ?_
  rintro e W1 ⟨rfl, hc⟩
  have hz9 := hc.size
  replace q3 := (q3.below hc q3.lt).alloc (.cells #[.int .i64 0, .int .i64 0] 37)
  replace hb := (hb.trans (hc.mono (by omega))).alloc (by omega) (.cells #[.int .i64 0, .int .i64 0] 37)
  replace hz : w.heap.size < (W1.alloc (.cells #[.int .i64 0, .int .i64 0] 37)).heap.size := by simp; omega
  clear hc hz9
  go_wp2_with fail
  refine Calls.mono (HC2.out _) ?_
  rintro e W2 ⟨rfl, hc⟩
  have hz9 := hc.size
  replace q3 := (q3.below hc q3.lt).alloc (.cells #[.int .i64 E, .int .i64 A] 37)
  replace hb := (hb.trans (hc.mono (by omega))).alloc (by omega) (.cells #[.int .i64 E, .int .i64 A] 37)
  replace hz : w.heap.size < (W2.alloc (.cells #[.int .i64 E, .int .i64 A] 37)).heap.size := by simp; omega
  clear hc hz9
  go_wp2_with fail
  go_quiet (fail)
  go_wp2
  go_ret2
  exact ⟨rfl, ⟨hb.os, hb.tape, hb.output, hb.size, hb.block⟩⟩
set_option maxRecDepth 100000 in
set_option maxHeartbeats 2000000 in
theorem rfind_few (n : Nat) (h1 : 1 ≤ n) (h4 : n ≤ 4) (s t : ByteArray) (hs1 : ckE s.data.toList = 0) (hs2 : ckAt s.data.toList = 0) (ht1 : ckE t.data.toList = 0) (ht2 : ckAt t.data.toList = 0) (hfew : s.size < n * n ∨ t.size < n * n) (w : World) :
    Calls Try.prog 29 #[.int .i64 (n : Nat), .string s, .string t] w fun e w' => e = .returned (.tuple #[.slice none 0 0, .int .i64 5]) ∧ Below w.heap.size w w' := by
  have HC1 := (show Hid (∀ W, Calls Try.prog 58 #[.string s] W fun e w' => e = .returned (.agg #[.int .i64 0, .int .i64 0]) ∧ Below W.heap.size W w') from rcheck_ok0 s hs1 hs2)
  have HC2 := (show Hid (∀ W, Calls Try.prog 58 #[.string t] W fun e w' => e = .returned (.agg #[.int .i64 0, .int .i64 0]) ∧ Below W.heap.size W w') from rcheck_ok0 t ht1 ht2)
  obtain ⟨p, hp⟩ : ∃ p, p = n * n := ⟨_, rfl⟩
  have hpw : IntKind.i64.wrap (((n : Nat) : Int) * ((n : Nat) : Int)) = ((p : Nat) : Int) := by
    have : n * n ≤ 16 := Nat.mul_le_mul h4 h4
    rw [← Int.natCast_mul, ← hp, IntKind.wrap_i64]; omega
  rw [← hp] at hfew
  clear hp hs1 hs2 ht1 ht2
  have hn1 : ¬ ((n : Nat) : Int) < 1 := by omega
  have hn4 : ¬ (4 : Int) < ((n : Nat) : Int) := by omega
  go_enter Try.func29, Try.ntmps29
  go_wp2_with fail
  have q3 := RowAt.new w 3 #[.int .i64 (n : Nat)]
  have hb : Below w.heap.size w (w.alloc (.cells #[.int .i64 (n : Nat)] 3)) := (Below.refl _ _).alloc (Nat.le_refl _) _
  have hz : w.heap.size < (w.alloc (.cells #[.int .i64 (n : Nat)] 3)).heap.size := by simp
  generalize w.alloc (.cells #[.int .i64 (n : Nat)] 3) = W0 at *
  refine Calls.mono (HC1.out _) ?_
  rintro e W1 ⟨rfl, hc⟩
  have hz9 := hc.size
  replace q3 := (q3.below hc q3.lt).alloc (.cells #[.int .i64 0, .int .i64 0] 37)
  replace hb := (hb.trans (hc.mono (by omega))).alloc (by omega) (.cells #[.int .i64 0, .int .i64 0] 37)
  replace hz : w.heap.size < (W1.alloc (.cells #[.int .i64 0, .int .i64 0] 37)).heap.size := by simp; omega
  clear hc hz9
  go_wp2_with fail
  refine Calls.mono (HC2.out _) ?_
  rintro e W2 ⟨rfl, hc⟩
  have hz9 := hc.size
  replace q3 := (q3.below hc q3.lt).alloc (.cells #[.int .i64 0, .int .i64 0] 37)
  replace hb := (hb.trans (hc.mono (by omega))).alloc (by omega) (.cells #[.int .i64 0, .int .i64 0] 37)
  replace hz : w.heap.size < (W2.alloc (.cells #[.int .i64 0, .int .i64 0] 37)).heap.size := by simp; omega
  clear hc hz9
  have c3 := q3.cell (i := 0) rfl
  have hfew2 : ((s.size : Nat) : Int) < ((p : Nat) : Int) ∨ (¬ ((s.size : Nat) : Int) < ((p : Nat) : Int) ∧ ((t.size : Nat) : Int) < ((p : Nat) : Int)) := by omega
  clear hfew HC1 HC2
  rcases hfew2 with h5 | ⟨h5, h6⟩
  · go_wp2
    go_ret2
    exact ⟨rfl, hb⟩
  · go_wp2
    go_ret2
    exact ⟨rfl, hb⟩
set_option maxRecDepth 100000 in
set_option maxHeartbeats 4000000 in
theorem rfind_head (n : Nat) (h1 : 1 ≤ n) (h4 : n ≤ 4) (s t : ByteArray) (hs1 : ckE s.data.toList = 0) (hs2 : ckAt s.data.toList = 0) (ht1 : ckE t.data.toList = 0) (ht2 : ckAt t.data.toList = 0) (hsl : Pl.Lets s.data.toList) (htl : Pl.Lets t.data.toList) (hs : s.size ≤ 65536) (ht : t.size ≤ 65536) (hns : n * n ≤ s.size) (hnt : n * n ≤ t.size) (w : World) :
    Calls Try.prog 29 #[.int .i64 (n : Nat), .string s, .string t] w fun e w' => ∃ v, e = .returned (.tuple #[v, .int .i64 (fErr n (colF n s.data.toList))]) ∧ FindIs w' v n (colF n s.data.toList) (colF n t.data.toList) ∧ Below w.heap.size w w' := by
  have hmf : ∀ (fn : Fn) (first cap : Array Value) (w : World), (Instr.makeFunc fn first cap).run Try.prog w = .ok (.func fn first cap) w := fun _ _ _ _ => rfl
  have HC1 := (show Hid (∀ W, Calls Try.prog 58 #[.string s] W fun e w' => e = .returned (.agg #[.int .i64 0, .int .i64 0]) ∧ Below W.heap.size W w') from rcheck_ok0 s hs1 hs2)
  have HC2 := (show Hid (∀ W, Calls Try.prog 58 #[.string t] W fun e w' => e = .returned (.agg #[.int .i64 0, .int .i64 0]) ∧ Below W.heap.size W w') from rcheck_ok0 t ht1 ht2)
  have HK1 := (show Hid (∀ bn W, W.cell? ⟨bn, 0, none⟩ = some (.int .i64 (n : Nat)) → Calls Try.prog 60 #[.string s, .pointer (some ⟨bn, 0, none⟩)] W fun e w' => ∃ v, e = .returned v ∧ MatAt w' v n (fun _ => n) (colF n s.data.toList) ∧ Below W.heap.size W w') from fun bn W hc => rcol_any s hsl (by omega) n h1 h4 hns bn W hc)
  have HK2 := (show Hid (∀ bn W, W.cell? ⟨bn, 0, none⟩ = some (.int .i64 (n : Nat)) → Calls Try.prog 60 #[.string t, .pointer (some ⟨bn, 0, none⟩)] W fun e w' => ∃ v, e = .returned v ∧ MatAt w' v n (fun _ => n) (colF n t.data.toList) ∧ Below W.heap.size W w') from fun bn W hc => rcol_any t htl (by omega) n h1 h4 hnt bn W hc)
  have HG1 := (show Hid (GoodM n (colF n s.data.toList)) from col_good h1 h4 hsl (by have := Pl.size_len s; omega))
  have HG2 := (show Hid (GoodM n (colF n t.data.toList)) from col_good h1 h4 htl (by have := Pl.size_len t; omega))
  generalize colF n s.data.toList = A at *
  generalize colF n t.data.toList = B at *
  obtain ⟨p, hp⟩ : ∃ p, p = n * n := ⟨_, rfl⟩
  have hpw : IntKind.i64.wrap (((n : Nat) : Int) * ((n : Nat) : Int)) = ((p : Nat) : Int) := by
    have : n * n ≤ 16 := Nat.mul_le_mul h4 h4
    rw [← Int.natCast_mul, ← hp, IntKind.wrap_i64]; omega
  rw [← hp] at hns hnt
  clear hp hsl htl hs1 hs2 ht1 ht2
  have hn1 : ¬ ((n : Nat) : Int) < 1 := by omega
  have hn4 : ¬ (4 : Int) < ((n : Nat) : Int) := by omega
  go_enter Try.func29, Try.ntmps29
  go_wp2_with fail
  have q3 := RowAt.new w 3 #[.int .i64 (n : Nat)]
  have hb : Below w.heap.size w (w.alloc (.cells #[.int .i64 (n : Nat)] 3)) := (Below.refl _ _).alloc (Nat.le_refl _) _
  have hz : w.heap.size < (w.alloc (.cells #[.int .i64 (n : Nat)] 3)).heap.size := by simp
  generalize w.alloc (.cells #[.int .i64 (n : Nat)] 3) = W0 at *
  refine Calls.mono (HC1.out _) ?_
  rintro e W1 ⟨rfl, hc⟩
  have hz9 := hc.size
  replace q3 := (q3.below hc q3.lt).alloc (.cells #[.int .i64 0, .int .i64 0] 37)
  replace hb := (hb.trans (hc.mono (by omega))).alloc (by omega) (.cells #[.int .i64 0, .int .i64 0] 37)
  replace hz : w.heap.size < (W1.alloc (.cells #[.int .i64 0, .int .i64 0] 37)).heap.size := by simp; omega
  clear hc hz9
  go_wp2_with fail
  refine Calls.mono (HC2.out _) ?_
  rintro e W2 ⟨rfl, hc⟩
  have hz9 := hc.size
  replace q3 := (q3.below hc q3.lt).alloc (.cells #[.int .i64 0, .int .i64 0] 37)
  replace hb := (hb.trans (hc.mono (by omega))).alloc (by omega) (.cells #[.int .i64 0, .int .i64 0] 37)
  replace hz : w.heap.size < (W2.alloc (.cells #[.int .i64 0, .int .i64 0] 37)).heap.size := by simp; omega
  clear hc hz9
  have c3 := q3.cell (i := 0) rfl
  have h5 : ¬ ((s.size : Nat) : Int) < ((p : Nat) : Int) := by omega
  have h6 : ¬ ((t.size : Nat) : Int) < ((p : Nat) : Int) := by omega
  clear HC1 HC2
  go_wp2_with fail
  generalize W2.alloc (.cells #[.int .i64 0, .int .i64 0] 37) = Y0 at *
  refine Calls.mono (HK1.out w.heap.size _ c3) ?_
  rintro e Y1 ⟨v1, rfl, hv1, hc⟩
  have hz9 := hc.size
  replace q3 := q3.below hc q3.lt
  replace hb := hb.trans (hc.mono (by omega))
  replace hz := Nat.lt_of_lt_of_le hz hz9
  clear hc hz9 c3
  go_wp2_with fail
  rcases recOf_cases (detL n A) with hr | hr
  · refine Calls.mono (rinv_ok v1 n (fun _ => n) A HG1.out (fun _ _ => rfl) hr Y1 hv1) ?_
    rintro e Y2 ⟨v2, rfl, hv2, hc⟩
    have hz9 := hc.size
    replace q3 := q3.below hc q3.lt
    replace hb := hb.trans (hc.mono (by omega))
    replace hz := Nat.lt_of_lt_of_le hz hz9
    clear hc hz9
    have HR : Hid (fErr n A = 0) := hr
    have c3 := q3.cell (i := 0) rfl
    clear hr hv1
    go_wp2_with fail
    refine Calls.mono (HK2.out w.heap.size _ c3) ?_
    rintro e Y3 ⟨v3, rfl, hv3, hc⟩
    have hz9 := hc.size
    replace hv2 := hv2.below hc
    replace hb := hb.trans (hc.mono (by omega))
    replace hz := Nat.lt_of_lt_of_le hz hz9
    clear hc hz9 c3 q3
    go_wp2_with fail
    refine Calls.mono (rtimes_any v3 v2 n h1 h4 B (invL n A) HG2.out.num (good_inv h1 h4 A).num Y3 hv3 hv2) ?_
    rintro e Y4 ⟨v4, rfl, hv4, hc⟩
    replace hb := hb.trans (hc.mono (by omega))
    clear hc
    go_wp2
    go_ret2
    exact ⟨_, by rw [HR.out]; rfl, by unfold FindIs; rw [if_pos HR.out]; exact OwnsM.square hv4, hb⟩
  · refine Calls.mono (rinv_none v1 n (fun _ => n) A HG1.out (fun _ _ => rfl) hr Y1 hv1) ?_
    rintro e Y2 ⟨rfl, hc⟩
    replace hb := hb.trans (hc.mono (by omega))
    clear hc
    have HR : Hid (fErr n A = 6) := hr
    clear hr
    go_wp2
    go_ret2
    exact ⟨_, by rw [HR.out]; rfl, by unfold FindIs; rw [HR.out, if_neg (by decide)]; rfl, hb⟩
end Go.Proofs.Ytlgjgppojdamiab
