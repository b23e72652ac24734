/-
  Contracts of hill.Det, hill.Product, hill.Inverse.
-/
import Derived.Test.YtlgjgppojdamiabHDet
namespace Go.Proofs.Ytlgjgppojdamiab
open Go.RowKit PK

theorem matErr_cases (n : Nat) (L : Nat → Nat) (Z : Nat → Nat → Int) : (matErr n L Z = 0 ∧ GoodM n Z ∧ ∀ r, r < n → L r = n) ∨ (matErr n L Z != 0) = true := by
  by_cases h : matErr n L Z = 0
  · exact .inl ⟨h, (matErr_zero n L Z).1 h⟩
  · exact .inr (by simpa using h)
/-- A matrix's rows are all as long. -/
theorem PK.MatAt.square {w : World} {v : Value} {n : Nat} {L : Nat → Nat} {Z : Nat → Nat → Int} (h : MatAt w v n L Z) (hL : ∀ r, r < n → L r = n) : MatAt w v n (fun _ => n) Z := h.congr hL fun _ _ _ _ => rfl
set_option maxHeartbeats 1000000 in
theorem hdet_ok (v : Value) (n : Nat) (L : Nat → Nat) (Z : Nat → Nat → Int) (hg : GoodM n Z) (hL : ∀ r, r < n → L r = n) (w : World) (hv : MatAt w v n L Z) :
    Calls Try.prog 19 #[v] w fun e w' => e = .returned (.tuple #[.int .i64 (detL n Z), .int .i64 0]) ∧ Below w.heap.size w w' := by
  have H0 : Hid (matErr n L Z = 0) := (matErr_zero n L Z).2 ⟨hg, hL⟩
  have HV := (show Hid (MatAt w v n L Z) from hv)
  have HD := (show Hid (Calls Try.prog 41 #[v] w fun e w' => e = .returned (.int .i64 (detL n Z)) ∧ Below w.heap.size w w') from det_any n hg.le Z v w (hv.square hL) hg.num)
  clear hg hL hv
  go_enter Try.func19, Try.ntmps19
  go_wp2_with fail
  refine Calls.mono (hwrong_any v n L Z w HV.out) ?_
  rintro e W1 ⟨rfl, rfl⟩
  rw [H0.out]
  go_wp2_with fail
  refine Calls.mono HD.out ?_
  rintro e W2 ⟨rfl, hb⟩
  go_wp2
  go_ret2
  exact ⟨rfl, hb⟩
set_option maxHeartbeats 1000000 in
theorem hdet_bad (v : Value) (n : Nat) (L : Nat → Nat) (Z : Nat → Nat → Int) (E : Int) (hE : (E != 0) = true) (he : matErr n L Z = E) (w : World) (hv : MatAt w v n L Z) :
    Calls Try.prog 19 #[v] w fun e w' => e = .returned (.tuple #[.int .i64 0, .int .i64 E]) ∧ w = w' := by
  have H0 : Hid (matErr n L Z = E) := he
  have HV := (show Hid (MatAt w v n L Z) from hv)
  clear hv he
  go_enter Try.func19, Try.ntmps19
  go_wp2_with fail
  refine Calls.mono (hwrong_any v n L Z w HV.out) ?_
  rintro e W1 ⟨rfl, rfl⟩
  rw [H0.out]
  go_wp2
  go_ret2
  exact ⟨rfl, rfl⟩
/-- Rows by columns, modulo 26. -/
def mulL (n : Nat) (A B : Nat → Nat → Int) : Nat → Nat → Int := fun y x => sumTo (A y) (fun k => B k x) n % 26
theorem prod11_any (n : Nat) (hn : n ≤ 4) (B : Nat → Nat → Int) (v : Value) (w : World) (hm : MatAt w v n (fun _ => n) B) (bm bx : Nat) (x : Nat) (hx : x < n) (hbm : w.cell? ⟨bm, 0, none⟩ = some v) (hbx : w.cell? ⟨bx, 0, none⟩ = some (.int .i64 (x : Nat))) (k : Nat) (hk : k < n) :
    Calls Try.prog 51 #[.int .i64 (k : Nat), .pointer (some ⟨bm, 0, none⟩), .pointer (some ⟨bx, 0, none⟩)] w fun e w' => e = .returned (.int .i64 (B k x)) ∧ Below w.heap.size w w' := by
  obtain ⟨b, o, cap, R, rfl, _, hc, hr⟩ := hm.form (by omega)
  have hrow := hc k hk
  obtain ⟨b', o', cap', e', _, hnum⟩ := (hr k hk).form (by omega)
  rw [e'] at hrow
  have hcell := hnum x hx
  clear hc hr hnum hm e'
  generalize B k x = z at *
  have h1 : (k : Int) < (n : Int) := by omega
  have h2 : (x : Int) < (n : Int) := by omega
  go_enter Try.func51, Try.ntmps51
  go_wp2
  go_quiet (fail)
  go_wp2
  go_ret
  exact ⟨rfl, rfl, rfl, rfl, Nat.le_refl _, fun _ _ => rfl⟩
set_option maxHeartbeats 1000000 in
theorem prod1_any (n : Nat) (hn : n ≤ 4) (A B : Nat → Nat → Int) (hA : ∀ r, r < n → ∀ c, c < n → 0 ≤ A r c ∧ A r c < 26) (hB : ∀ r, r < n → ∀ c, c < n → 0 ≤ B r c ∧ B r c < 26) (u v : Value) (w : World) (hu : MatAt w u n (fun _ => n) A) (hv : MatAt w v n (fun _ => n) B) (ba bb : Nat) (hba : w.cell? ⟨ba, 0, none⟩ = some u) (hbb : w.cell? ⟨bb, 0, none⟩ = some v) (y x : Nat) (hy : y < n) (hx : x < n) :
    Calls Try.prog 49 #[.int .i64 (y : Nat), .int .i64 (x : Nat), .pointer (some ⟨ba, 0, none⟩), .pointer (some ⟨bb, 0, none⟩)] w fun e w' => e = .returned (.int .i64 (mulL n A B y x)) ∧ Below w.heap.size w w' := by
  have hmf : ∀ (fn : Fn) (first cap : Array Value) (w : World), (Instr.makeFunc fn first cap).run Try.prog w = .ok (.func fn first cap) w := fun _ _ _ _ => rfl
  obtain ⟨b, o, cap, R, rfl, _, hc, hr⟩ := hu.form (by omega)
  have hrow := hc y hy
  have HR := (show Hid (NumsAt w (R y) n (A y)) from hr y hy)
  have HV := (show Hid (MatAt w v n (fun _ => n) B) from hv)
  have HBB := (show Hid (w.cell? ⟨bb, 0, none⟩ = some v) from hbb)
  have HAB := (show Hid (∀ k, k < n → (0 ≤ A y k ∧ A y k < 26) ∧ 0 ≤ B k x ∧ B k x < 26) from fun k hk => ⟨hA y hy k hk, hB k hk x hx⟩)
  have h1 : (y : Int) < (n : Int) := by omega
  have hbl := cell_block hba
  have hbl2 := cell_block hrow
  clear hu hv hc hr hA hB hbb
  go_enter Try.func49, Try.ntmps49
  go_wp2_with fail
  have q1 := RowAt.new w 3 #[.int .i64 (x : Nat)]
  have hb1 : Below w.heap.size w (w.alloc (.cells #[.int .i64 (x : Nat)] 3)) := (Below.refl _ _).alloc (Nat.le_refl _) _
  have hz1 := hb1.size
  generalize w.alloc (.cells #[.int .i64 (x : Nat)] 3) = W0 at *
  refine Calls.mono (times_any (R y) n hn (A y) (fun k => B k x) 51 #[.pointer (some ⟨bb, 0, none⟩), .pointer (some ⟨w.heap.size, 0, none⟩)] W0 (HR.out.below hb1) (by intro args W; go_simp) HAB.out (fun k hk W hW => prod11_any n hn B v W ((HV.out.below hb1).below hW) bb w.heap.size x hx ((hW.cell (p := ⟨bb, 0, none⟩) (Nat.lt_of_lt_of_le (cell_block HBB.out) hz1)).trans ((hb1.cell (p := ⟨bb, 0, none⟩) (cell_block HBB.out)).trans HBB.out)) ((q1.below hW q1.lt).cell rfl) k hk)) ?_
  rintro e W1 ⟨rfl, hb2⟩
  go_wp2
  go_ret
  exact ⟨rfl, hb1.trans (hb2.mono hz1)⟩
/-- Two variables, made one behind the other. -/
theorem two_new (w : World) (c1 c2 : Array Value) (T1 T2 : TypeId) : RowAt ((w.alloc (.cells c1 T1)).alloc (.cells c2 T2)) w.heap.size T1 c1 ∧ RowAt ((w.alloc (.cells c1 T1)).alloc (.cells c2 T2)) (w.heap.size + 1) T2 c2 ∧
    Below w.heap.size w ((w.alloc (.cells c1 T1)).alloc (.cells c2 T2)) ∧ w.heap.size + 2 ≤ ((w.alloc (.cells c1 T1)).alloc (.cells c2 T2)).heap.size := by
  have h2 := RowAt.new (w.alloc (.cells c1 T1)) T2 c2
  simp only [World.size_alloc] at h2
  exact ⟨(RowAt.new w _ _).alloc _, h2, ((Below.refl _ _).alloc (Nat.le_refl _) _).alloc (by simp) _, by simp⟩
set_option maxHeartbeats 1000000 in
theorem hprod_ok (u v : Value) (n : Nat) (L M : Nat → Nat) (A B : Nat → Nat → Int) (hA : GoodM n A) (hL : ∀ r, r < n → L r = n) (hB : GoodM n B) (hM : ∀ r, r < n → M r = n) (w : World) (hu : MatAt w u n L A) (hv : MatAt w v n M B) :
    Calls Try.prog 24 #[u, v] w fun e w' => ∃ x, e = .returned (.tuple #[x, .int .i64 0]) ∧ MatAt w' x n (fun _ => n) (mulL n A B) ∧ Below w.heap.size w w' := by
  have hmf : ∀ (fn : Fn) (first cap : Array Value) (w : World), (Instr.makeFunc fn first cap).run Try.prog w = .ok (.func fn first cap) w := fun _ _ _ _ => rfl
  have HA0 : Hid (matErr n L A = 0) := (matErr_zero n L A).2 ⟨hA, hL⟩
  have HB0 : Hid (matErr n M B = 0) := (matErr_zero n M B).2 ⟨hB, hM⟩
  have HU := (show Hid (MatAt w u n L A) from hu)
  have HV := (show Hid (MatAt w v n M B) from hv)
  obtain ⟨a, cap, rfl, _⟩ := hu.len
  obtain ⟨a', cap', rfl, _⟩ := hv.len
  have hn4 := hA.le
  clear hu hv
  go_enter Try.func24, Try.ntmps24
  go_wp2_with fail
  have hu1 := (HU.out.alloc (.cells #[.slice a n cap] 41)).alloc (.cells #[.slice a' n cap'] 41)
  have hv1 := (HV.out.alloc (.cells #[.slice a n cap] 41)).alloc (.cells #[.slice a' n cap'] 41)
  obtain ⟨q1, q2, hb, hz⟩ := two_new w #[.slice a n cap] #[.slice a' n cap'] 41 41
  generalize (w.alloc (.cells #[.slice a n cap] 41)).alloc (.cells #[.slice a' n cap'] 41) = W0 at *
  have c1 := q1.cell (i := 0) rfl
  have c2 := q2.cell (i := 0) rfl
  refine Calls.mono (hwrong_any _ n L A W0 hu1) ?_
  rintro e W1 ⟨rfl, rfl⟩
  rw [HA0.out]
  go_wp2_with fail
  refine Calls.mono (hwrong_any _ n M B W0 hv1) ?_
  rintro e W1 ⟨rfl, rfl⟩
  rw [HB0.out]
  go_wp2_with fail
  have hu2 := hu1.square hL
  have hv2 := hv1.square hM
  refine Calls.mono (made_any n hn4 (mulL n A B) 49 #[.pointer (some ⟨w.heap.size, 0, none⟩), .pointer (some ⟨w.heap.size + 1, 0, none⟩)] W0 (by intro args W; go_simp) (fun y hy x hx W hW => prod1_any n hn4 A B hA.num hB.num _ _ W (hu2.below hW) (hv2.below hW) _ _ ((q1.below hW q1.lt).cell rfl) ((q2.below hW q2.lt).cell rfl) y x hy hx)) ?_
  rintro e W2 ⟨x, rfl, hx, hb2⟩
  go_wp2
  go_ret2
  exact ⟨_, rfl, hx, hb.trans (hb2.mono (by omega))⟩
/-- What is wrong with two that are to be multiplied. -/
def prodErr (n : Nat) (L : Nat → Nat) (A : Nat → Nat → Int) (m : Nat) (M : Nat → Nat) (B : Nat → Nat → Int) : Int :=
  if matErr n L A ≠ 0 then matErr n L A else if matErr m M B ≠ 0 then matErr m M B else if n ≠ m then 8 else 0
set_option maxHeartbeats 1000000 in
theorem hprod_bad (u v : Value) (n m : Nat) (L M : Nat → Nat) (A B : Nat → Nat → Int) (E : Int) (hE : (E != 0) = true) (he : prodErr n L A m M B = E) (w : World) (hu : MatAt w u n L A) (hv : MatAt w v m M B) :
    Calls Try.prog 24 #[u, v] w fun e w' => e = .returned (.tuple #[.slice none 0 0, .int .i64 E]) ∧ Below w.heap.size w w' := by
  have HU := (show Hid (MatAt w u n L A) from hu)
  have HV := (show Hid (MatAt w v m M B) from hv)
  obtain ⟨a, cap, rfl, _⟩ := hu.len
  obtain ⟨a', cap', rfl, _⟩ := hv.len
  have HE : Hid _ := he
  clear hu hv he
  go_enter Try.func24, Try.ntmps24
  go_wp2_with fail
  have hu1 := (HU.out.alloc (.cells #[.slice a n cap] 41)).alloc (.cells #[.slice a' m cap'] 41)
  have hv1 := (HV.out.alloc (.cells #[.slice a n cap] 41)).alloc (.cells #[.slice a' m cap'] 41)
  obtain ⟨q1, q2, hb, hz⟩ := two_new w #[.slice a n cap] #[.slice a' m cap'] 41 41
  generalize (w.alloc (.cells #[.slice a n cap] 41)).alloc (.cells #[.slice a' m cap'] 41) = W0 at *
  have c1 := q1.cell (i := 0) rfl
  have c2 := q2.cell (i := 0) rfl
  refine Calls.mono (hwrong_any _ n L A W0 hu1) ?_
  rintro e W1 ⟨rfl, rfl⟩
  have hP := HE.out
  unfold prodErr at hP
  rcases matErr_cases n L A with ⟨h0, _, _⟩ | h0
  · rw [h0] at hP ⊢
    rw [if_neg (by simp)] at hP
    go_wp2_with fail
    refine Calls.mono (hwrong_any _ m M B W0 hv1) ?_
    rintro e W1 ⟨rfl, rfl⟩
    rcases matErr_cases m M B with ⟨h1, _, _⟩ | h1
    · rw [h1] at hP ⊢
      rw [if_neg (by simp)] at hP
      by_cases hnm : n = m
      · rw [if_neg (by simpa using hnm)] at hP
        subst hP
        simp at hE
      · rw [if_pos hnm] at hP
        have hne : ((n : Int) != (m : Int)) = true := by simp; omega
        subst hP
        clear h0 h1
        go_wp2
        go_ret2
        exact ⟨rfl, hb⟩
    · rw [if_pos (by simpa using h1)] at hP
      rw [hP] at h1 ⊢
      clear hP h0 HE
      go_wp2
      go_ret2
      exact ⟨rfl, hb⟩
  · rw [if_pos (by simpa using h0)] at hP
    rw [hP] at h0 ⊢
    clear hP HE
    go_wp2
    go_ret2
    exact ⟨rfl, hb⟩
end Go.Proofs.Ytlgjgppojdamiab
