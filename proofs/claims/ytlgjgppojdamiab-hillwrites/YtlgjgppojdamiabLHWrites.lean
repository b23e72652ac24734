/-
  HillWrites: the walk.
-/
import Derived.Test.YtlgjgppojdamiabWRWrite
import Derived.Test.YtlgjgppojdamiabWRFind
import Derived.Test.YtlgjgppojdamiabWFBad
import Derived.Test.YtlgjgppojdamiabHSame
namespace Go.Proofs.Ytlgjgppojdamiab
open Go.RowKit PK

theorem write_alike (v : Value) (n : Nat) (L : Nat → Nat) (Z : Nat → Nat → Int) (s : ByteArray) (w : World) (hv : MatAt w v n L Z) :
    ∃ (S : ByteArray) (E A : Int), ∀ f, (f = 26 ∨ f = 27) → ∀ W, Below w.heap.size w W → Calls Try.prog f #[v, .string s] W fun e w' => e = .returned (.tuple #[.string S, .agg #[.int .i64 E, .int .i64 A]]) ∧ Below W.heap.size W w' := by
  have hsl := Pl.size_len s
  rcases matErr_cases n L Z with ⟨h0, hg, hL⟩ | h0
  · rcases ck_cases s.data.toList with ⟨h1, h2, h3, h4⟩ | h1
    · by_cases h5 : 65536 < (fullL n s.data.toList).length
      · refine ⟨⟨#[]⟩, 4, 0, fun f hf W hW => ?_⟩
        rcases hf with rfl | rfl
        · exact hwr_bad3 v n L Z hg hL s (by omega) h1 h2 h5 W (hv.below hW)
        · exact rwr_bad3 v n L Z hg hL s (by omega) h1 h2 h5 W (hv.below hW)
      · refine ⟨⟨(encL n Z (fullL n s.data.toList) (fullL n s.data.toList).length).toArray⟩, 0, 0, fun f hf W hW => ?_⟩
        rcases hf with rfl | rfl
        · exact hwr_ok v n L Z hg hL s (by omega) h1 h2 h4 (by omega) W (hv.below hW)
        · exact rwr_ok v n L Z hg hL s h1 h2 h4 (by omega) W (hv.below hW)
    · refine ⟨⟨#[]⟩, ckE s.data.toList, ckAt s.data.toList, fun f hf W hW => ?_⟩
      rcases hf with rfl | rfl
      · exact hwr_bad2 v n L Z h0 s h1 W (hv.below hW)
      · exact rwr_bad2 v n L Z h0 s h1 W (hv.below hW)
  · refine ⟨⟨#[]⟩, matErr n L Z, 0, fun f hf W hW => ?_⟩
    rcases hf with rfl | rfl
    · exact hwr_bad1 v n L Z _ h0 rfl s W (hv.below hW)
    · exact rwr_bad1 v n L Z _ h0 rfl s W (hv.below hW)
/-- Nothing, and an errno. -/
theorem alike_none {k l : Nat} {args : Array Value} {w : World} (E : Int) (h : ∀ f, (f = k ∨ f = l) → ∀ W, Calls Try.prog f args W fun e w' => e = .returned (.tuple #[.slice none 0 0, .int .i64 E]) ∧ Below W.heap.size W w') : AlikeM k l args w :=
  ⟨0, fun _ _ => 0, E, by omega, fun f hf W _ => (h f hf W).mono fun _ _ ⟨a, b⟩ => ⟨_, a, MatAt.nil _ _ _, b⟩⟩
theorem find_alike (N : Int) (s t : ByteArray) (w : World) : AlikeM 28 29 #[.int .i64 N, .string s, .string t] w := by
  by_cases hN : N < 1 ∨ 4 < N
  · refine alike_none 5 fun f hf W => ?_
    rcases hf with rfl | rfl
    · exact find_n N hN s t W
    · exact rfind_n N hN s t W
  · obtain ⟨n, rfl⟩ : ∃ n : Nat, N = n := ⟨N.toNat, by omega⟩
    have h1 : 1 ≤ n := by omega
    have h4 : n ≤ 4 := by omega
    have hsl := Pl.size_len s
    have htl := Pl.size_len t
    rcases ck_cases s.data.toList with ⟨s1, s2, s3, s4⟩ | hs
    · rcases ck_cases t.data.toList with ⟨t1, t2, t3, t4⟩ | ht
      · by_cases hfew : s.size < n * n ∨ t.size < n * n
        · refine alike_none 5 fun f hf W => ?_
          rcases hf with rfl | rfl
          · exact find_few n h1 h4 s t s1 s2 t1 t2 hfew W
          · exact rfind_few n h1 h4 s t s1 s2 t1 t2 hfew W
        · have both : ∀ f, (f = 28 ∨ f = 29) → ∀ W, Calls Try.prog f #[.int .i64 (n : Nat), .string s, .string t] W fun e w' => ∃ v, e = .returned (.tuple #[v, .int .i64 (fErr n (colF n s.data.toList))]) ∧ FindIs w' v n (colF n s.data.toList) (colF n t.data.toList) ∧ Below W.heap.size W w' := fun f hf W => by
            rcases hf with rfl | rfl
            · exact find_head n h1 h4 s t s1 s2 t1 t2 s4 t4 (by omega) (by omega) (by omega) (by omega) W
            · exact rfind_head n h1 h4 s t s1 s2 t1 t2 s4 t4 (by omega) (by omega) (by omega) (by omega) W
          by_cases hr : fErr n (colF n s.data.toList) = 0
          · refine ⟨n, mulL n (colF n t.data.toList) (invL n (colF n s.data.toList)), fErr n (colF n s.data.toList), h4, fun f hf W _ => (both f hf W).mono ?_⟩
            rintro e w' ⟨v, he, hv, hb⟩
            unfold FindIs at hv
            rw [if_pos hr] at hv
            exact ⟨v, he, hv, hb⟩
          · refine ⟨0, fun _ _ => 0, fErr n (colF n s.data.toList), by omega, fun f hf W _ => (both f hf W).mono ?_⟩
            rintro e w' ⟨v, he, hv, hb⟩
            unfold FindIs at hv
            rw [if_neg hr] at hv
            subst hv
            exact ⟨_, he, MatAt.nil _ _ _, hb⟩
      · refine alike_none (ckE t.data.toList) fun f hf W => ?_
        rcases hf with rfl | rfl
        · exact find_t n h1 h4 s t s1 s2 ht W
        · exact rfind_t n h1 h4 s t s1 s2 ht W
    · refine alike_none (ckE s.data.toList) fun f hf W => ?_
      rcases hf with rfl | rfl
      · exact find_s n h1 h4 s t hs W
      · exact rfind_s n h1 h4 s t hs W
set_option maxRecDepth 100000 in
set_option maxHeartbeats 4000000 in
theorem law_hwrites (u : Value) (n : Nat) (L : Nat → Nat) (A : Nat → Nat → Int) (s : ByteArray) (N : Int) (t : ByteArray) (w : World) (hu : MatAt w u n L A) :
    Calls Try.prog 6 #[u, .string s, .int .i64 N, .string t] w fun e w' => e = .returned (.bool true) ∧ Below w.heap.size w w' := by
  obtain ⟨S, E, F, hW⟩ := write_alike u n L A s w hu
  obtain ⟨nf, ZF, EF, hnf, hF⟩ := find_alike N s t w
  have HW := (show Hid (∀ f, (f = 26 ∨ f = 27) → ∀ W, Below w.heap.size w W → Calls Try.prog f #[u, .string s] W fun e w' => e = .returned (.tuple #[.string S, .agg #[.int .i64 E, .int .i64 F]]) ∧ Below W.heap.size W w') from hW)
  have HF := (show Hid (∀ f, (f = 28 ∨ f = 29) → ∀ W, Below w.heap.size w W → Calls Try.prog f #[.int .i64 N, .string s, .string t] W fun e w' => ∃ x, e = .returned (.tuple #[x, .int .i64 EF]) ∧ MatAt w' x nf (fun _ => nf) ZF ∧ Below W.heap.size W w') from hF)
  have hmf : Try.prog.eqGuardType Try.prog.depth 37 = false := by kernel_rfl
  clear hW hF hu
  go_enter Try.func6, Try.ntmps6
  go_wp2_with fail
  refine Calls.mono (HW.out _ (.inl rfl) w (Below.refl _ _)) ?_
  rintro e W1 ⟨rfl, hb⟩
  have hz := hb.size
  have q1 := RowAt.new W1 37 #[.int .i64 E, .int .i64 F]
  replace hb := hb.alloc hz (.cells #[.int .i64 E, .int .i64 F] 37)
  have hzA : w.heap.size ≤ (W1.alloc (.cells #[.int .i64 E, .int .i64 F] 37)).heap.size := hb.size
  clear hz
  go_wp2_with fail
  refine Calls.mono (HW.out _ (.inr rfl) _ hb) ?_
  rintro e W2 ⟨rfl, hc⟩
  have hz9 := hc.size
  replace q1 := (q1.below hc q1.lt).alloc (.cells #[.int .i64 E, .int .i64 F] 37)
  have d0 := q1.cell (i := 0) rfl
  have d1 := q1.cell (i := 1) rfl
  replace hb := (hb.trans (hc.mono hzA)).alloc (by omega) (.cells #[.int .i64 E, .int .i64 F] 37)
  have hzB : w.heap.size ≤ (W2.alloc (.cells #[.int .i64 E, .int .i64 F] 37)).heap.size := hb.size
  clear hc hz9 hzA q1 HW
  go_wp2_with fail
  refine Calls.mono (HF.out _ (.inl rfl) _ hb) ?_
  rintro e W3 ⟨x1, rfl, hx1, hc⟩
  have hz9 := hc.size
  replace hb := hb.trans (hc.mono hzB)
  replace hzB := Nat.le_trans hzB hz9
  clear hc hz9 d0 d1
  go_wp2_with fail
  refine Calls.mono (HF.out _ (.inr rfl) _ hb) ?_
  rintro e W4 ⟨x2, rfl, hx2, hc⟩
  have hz9 := hc.size
  replace hx1 := hx1.below hc
  replace hb := hb.trans (hc.mono hzB)
  replace hzB := Nat.le_trans hzB hz9
  clear hc hz9
  go_wp2_with fail
  refine Calls.mono (rsame_ok x1 x2 nf hnf ZF W4 hx1 hx2) ?_
  rintro e W5 ⟨rfl, hc⟩
  replace hb := hb.trans (hc.mono hzB)
  clear hc hx1 hx2
  go_wp2
  go_ret
  exact ⟨rfl, hb⟩
end Go.Proofs.Ytlgjgppojdamiab
