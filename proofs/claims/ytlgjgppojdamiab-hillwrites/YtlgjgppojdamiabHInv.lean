/-
  Contract of hill.Inverse.
-/
import Derived.Test.YtlgjgppojdamiabHProd
import Derived.OrdersHeld
namespace Go.Proofs.Ytlgjgppojdamiab
open Go.RowKit PK

section
variable {P : Program} {ops : Array Oper} {Q : Exit → Act → World → Prop} {md : Region.Mode} {S : World → Prop}
/-- An operation that yields its value in every world that meets S is taken first. -/
theorem htake (i d : Nat) (v : Value) {oi : Oper} {fuel : Nat} {listed : Array Bool} {tm : Array Value} {df : List Deferred} {w : World} (hi : ops[i]? = some oi) (hd : oi.dst = some d)
    (hs : Region.noSelect ops = true) (hf : Region.free md ops listed i = true) (hr : (Region.ready md ops listed).contains i = true)
    (hQ : ∀ c a a' w, Q (.panic c) a' w → Q (.panic c) a w) (hw : Region.wanted oi (yielded ops tm) = true) (hrun : ∀ W, S W → (execOp (Act.eval ⟨tm, df⟩) oi).run P W = .ok (.value v) W) (hS : S w)
    (h : wpAnyH P md ops Q S fuel (listed.setIfInBounds i true) ⟨tm.setIfInBounds d v, df⟩ w) : wpAnyH P md ops Q S (fuel + 1) listed ⟨tm, df⟩ w := by
  refine wpAnyH_take (i := i) (oi := oi) (v := v) hi hs hf hr (fun c a w => hQ c a _ w) (Or.inl ⟨hw, fun W hW => hrun W hW⟩) hS ?_
  rw [hd]
  exact h
end
theorem keep_cells {W W' : World} {b1 b2 : Nat} {u v : Value} (h : W.cell? ⟨b1, 0, none⟩ = some u ∧ W.cell? ⟨b2, 0, none⟩ = some v) (hb : Below W.heap.size W W') : W'.cell? ⟨b1, 0, none⟩ = some u ∧ W'.cell? ⟨b2, 0, none⟩ = some v :=
  ⟨(hb.cell (p := ⟨b1, 0, none⟩) (cell_block h.1)).trans h.1, (hb.cell (p := ⟨b2, 0, none⟩) (cell_block h.2)).trans h.2⟩
set_option maxHeartbeats 1000000 in
theorem inv1_any (n : Nat) (hn : n < 4) (Z : Nat → Nat → Int) (hZ : ∀ r, r < n + 1 → ∀ c, c < n + 1 → 0 ≤ Z r c ∧ Z r c < 26) (v : Value) (w : World) (hm : MatAt w v (n + 1) (fun _ => n + 1) Z) (u : Int) (hu : 0 ≤ u ∧ u < 26) (bb bm : Nat) (hbb : w.cell? ⟨bb, 0, none⟩ = some (.int .i64 u)) (hbm : w.cell? ⟨bm, 0, none⟩ = some v)
    (y x : Nat) (hy : y < n + 1) (hx : x < n + 1) :
    Calls Try.prog 45 #[.int .i64 (y : Nat), .int .i64 (x : Nat), .pointer (some ⟨bb, 0, none⟩), .pointer (some ⟨bm, 0, none⟩)] w fun e w' => e = .returned (.int .i64 (u * cofL n Z x y % 26)) ∧ Below w.heap.size w w' := by
  have HC : Hid (∀ W, Below w.heap.size w W → Calls Try.prog 46 #[v, .int .i64 (x : Nat), .int .i64 (y : Nat)] W fun e w' => e = .returned (.int .i64 (cofL n Z x y)) ∧ Below W.heap.size W w') := fun W hW => cofactor_any n hn Z v W (hm.below hW) hZ x y hx hy
  have hcb := cofL_bound n Z x y
  have hpb := prod_bound hu hcb
  generalize cofL n Z x y = c at *
  obtain ⟨p, hp⟩ : ∃ p, p = u * c := ⟨_, rfl⟩
  have HV : Hid (u * c % 26 = p % 26) := by rw [Hid, hp]
  rw [← hp] at hpb
  have hpw : IntKind.i64.wrap (u * c) = p := by rw [← hp, IntKind.wrap_i64]; omega
  have hS0 : w.drew.cell? ⟨bb, 0, none⟩ = some (.int .i64 u) ∧ w.drew.cell? ⟨bm, 0, none⟩ = some v := ⟨hbb, hbm⟩
  clear hp hm hZ
  go_enter Try.func45, Try.ntmps45
  go_wp2
  refine wp_region_noPanic ?_
  refine wp_region_held_drew (S := fun W => W.cell? ⟨bb, 0, none⟩ = some (.int .i64 u) ∧ W.cell? ⟨bm, 0, none⟩ = some v) (by kernel_rfl) hS0 (fun hS => ?_)
  refine htake 0 7 (.int .i64 u) rfl rfl (by kernel_rfl) (by kernel_rfl) (by kernel_rfl) (fun _ _ _ _ h => h) (by rfl) (fun W hW => by have h1 := hW.1; clear hS hW HC; go_simp) hS ?_
  simp only [List.setIfInBounds_toArray, List.set_cons_succ, List.set_cons_zero]
  refine htake 1 8 v rfl rfl (by kernel_rfl) (by kernel_rfl) (by kernel_rfl) (fun _ _ _ _ h => h) (by rfl) (fun W hW => by have h1 := hW.2; clear hS hW HC; go_simp) hS ?_
  simp only [List.setIfInBounds_toArray, List.set_cons_succ, List.set_cons_zero]
  refine htake 2 9 (.int .i64 (x : Nat)) rfl rfl (by kernel_rfl) (by kernel_rfl) (by kernel_rfl) (fun _ _ _ _ h => h) (by rfl) (fun W hW => by clear hS hW HC; go_simp) hS ?_
  simp only [List.setIfInBounds_toArray, List.set_cons_succ, List.set_cons_zero]
  refine htake 3 10 (.int .i64 (y : Nat)) rfl rfl (by kernel_rfl) (by kernel_rfl) (by kernel_rfl) (fun _ _ _ _ h => h) (by rfl) (fun W hW => by clear hS hW HC; go_simp) hS ?_
  simp only [List.setIfInBounds_toArray, List.set_cons_succ, List.set_cons_zero]
  refine wpAnyH_ready (rs := [4]) (by kernel_rfl) (by simp) ?_
  refine AllReadyH.cons (o := _) rfl (fun K hK => ?_) AllReadyH.nil
  rw [if_pos (by rfl)]
  go_simp
  refine Calls.mono (HC.out w.drew ((Below.refl _ _).drew)) ?_
  rintro e X1 ⟨rfl, hcall⟩
  refine hK.out _ _ (keep_cells hS hcall) (fun hS1 => ?_)
  clear hK hS
  have hS := hS1
  clear hS1 K
  refine htake 5 12 (.int .i64 p) rfl rfl (by kernel_rfl) (by kernel_rfl) (by kernel_rfl) (fun _ _ _ _ h => h) (by rfl) (fun W hW => by clear hS hW HC; go_simp) hS ?_
  simp only [List.setIfInBounds_toArray, List.set_cons_succ, List.set_cons_zero]
  refine htake 6 13 (.int .i64 (p % 26)) rfl rfl (by kernel_rfl) (by kernel_rfl) (by kernel_rfl) (fun _ _ _ _ h => h) (by rfl) (fun W hW => by clear hS hW HC; go_simp; exact Int.tmod_eq_emod_of_nonneg hpb.1) hS ?_
  simp only [List.setIfInBounds_toArray, List.set_cons_succ, List.set_cons_zero]
  refine htake 7 6 (.int .i64 (p % 26)) rfl rfl (by kernel_rfl) (by kernel_rfl) (by kernel_rfl) (fun _ _ _ _ h => h) (by rfl) (fun W hW => by clear hS hW HC; go_simp) hS ?_
  simp only [List.setIfInBounds_toArray, List.set_cons_succ, List.set_cons_zero]
  refine wpAnyH_done (by kernel_rfl) ?_ _
  refine NoPanic.normal ?_
  go_wp2
  go_ret
  exact ⟨ret_int HV.out.symm, ⟨hcall.os, hcall.tape, hcall.output, hcall.size, hcall.block⟩⟩
theorem recOf_bound (d : Int) : 0 ≤ (recOf d).1 ∧ (recOf d).1 < 26 := by
  unfold recOf
  split
  · rename_i v h
    have := List.mem_of_find?_eq_some h
    simp at this
    show (0 : Int) ≤ (v : Int) ∧ (v : Int) < 26
    omega
  · show (0 : Int) ≤ 0 ∧ (0 : Int) < 26
    omega
theorem recOf_cases (d : Int) : (recOf d).2 = 0 ∨ (recOf d).2 = 6 := by
  unfold recOf
  split
  · exact .inl rfl
  · exact .inr rfl
/-- The inverse: what makes 1 of the determinant, times the cofactors, rows and places swapped. -/
def invL : Nat → (Nat → Nat → Int) → Nat → Nat → Int
  | 0, _ => fun _ _ => 0
  | n + 1, Z => fun y x => (recOf (detL (n + 1) Z)).1 * cofL n Z x y % 26
set_option maxHeartbeats 1000000 in
theorem hinv_ok (v : Value) (n : Nat) (L : Nat → Nat) (Z : Nat → Nat → Int) (hg : GoodM n Z) (hL : ∀ r, r < n → L r = n) (hr : (recOf (detL n Z)).2 = 0) (w : World) (hv : MatAt w v n L Z) :
    Calls Try.prog 21 #[v] w fun e w' => ∃ x, e = .returned (.tuple #[x, .int .i64 0]) ∧ MatAt w' x n (fun _ => n) (invL n Z) ∧ Below w.heap.size w w' := by
  have hmf : ∀ (fn : Fn) (first cap : Array Value) (w : World), (Instr.makeFunc fn first cap).run Try.prog w = .ok (.func fn first cap) w := fun _ _ _ _ => rfl
  have HV := (show Hid (MatAt w v n L Z) from hv)
  obtain ⟨a, cap, rfl, _⟩ := hv.len
  have HR : Hid ((recOf (detL n Z)).2 = 0) := hr
  have hn4 := hg.le
  clear hv hr
  go_enter Try.func21, Try.ntmps21
  go_wp2_with fail
  have hv1 := HV.out.alloc (.cells #[.slice a n cap] 41)
  have q1 := RowAt.new w 41 #[.slice a n cap]
  have hb1 : Below w.heap.size w (w.alloc (.cells #[.slice a n cap] 41)) := (Below.refl _ _).alloc (Nat.le_refl _) _
  have hz1 := hb1.size
  have hz2 : w.heap.size < (w.alloc (.cells #[.slice a n cap] 41)).heap.size := by simp
  generalize w.alloc (.cells #[.slice a n cap] 41) = W0 at *
  refine Calls.mono (hdet_ok _ n L Z hg hL W0 hv1) ?_
  rintro e W1 ⟨rfl, hb2⟩
  have hz3 := hb2.size
  replace hv1 := hv1.below hb2
  replace q1 := q1.below hb2 hz2
  replace hb1 := hb1.trans (hb2.mono hz1)
  clear hb2
  go_wp2_with fail
  refine Calls.mono (recip_any (detL n Z) (detL_bound _ _) W1) ?_
  rintro e W2 ⟨rfl, rfl⟩
  rw [HR.out]
  have hub := recOf_bound (detL n Z)
  have HU : Hid (∀ y x, ∀ k, n = k + 1 → invL n Z y x = (recOf (detL n Z)).1 * cofL k Z x y % 26) := fun y x k hk => by subst hk; rfl
  generalize (recOf (detL n Z)).1 = u at *
  have c1 := (q1.alloc (.cells #[.int .i64 u] 3)).cell (i := 0) rfl
  go_wp2_with fail
  have hv2 := (hv1.square hL).alloc (.cells #[.int .i64 u] 3)
  have q2 := q1.alloc (.cells #[.int .i64 u] 3)
  have q3 := RowAt.new W1 3 #[.int .i64 u]
  have hb4 : Below w.heap.size w (W1.alloc (.cells #[.int .i64 u] 3)) := hb1.alloc (by omega) _
  have hz5 := hb4.size
  generalize W1.alloc (.cells #[.int .i64 u] 3) = W3 at *
  obtain ⟨k, hk⟩ : ∃ k, n = k + 1 := ⟨n - 1, by have := hg.pos; omega⟩
  refine Calls.mono (made_any n hn4 (invL n Z) 45 #[.pointer (some ⟨W1.heap.size, 0, none⟩), .pointer (some ⟨w.heap.size, 0, none⟩)] W3 (by intro args W; go_simp) (fun y hy x hx W hW => ?_)) ?_
  · rw [HU.out y x k hk]
    subst hk
    exact inv1_any k (by omega) Z hg.num _ W (hv2.below hW) u hub _ _ ((q3.below hW q3.lt).cell rfl) ((q2.below hW q2.lt).cell rfl) y x hy hx
  rintro e W4 ⟨x, rfl, hx, hb6⟩
  go_wp2
  go_ret2
  exact ⟨_, rfl, hx, hb4.trans (hb6.mono hz5)⟩
set_option maxHeartbeats 1000000 in
theorem hinv_none (v : Value) (n : Nat) (L : Nat → Nat) (Z : Nat → Nat → Int) (hg : GoodM n Z) (hL : ∀ r, r < n → L r = n) (hr : (recOf (detL n Z)).2 = 6) (w : World) (hv : MatAt w v n L Z) :
    Calls Try.prog 21 #[v] w fun e w' => e = .returned (.tuple #[.slice none 0 0, .int .i64 6]) ∧ Below w.heap.size w w' := by
  have HV := (show Hid (MatAt w v n L Z) from hv)
  obtain ⟨a, cap, rfl, _⟩ := hv.len
  have HR : Hid ((recOf (detL n Z)).2 = 6) := hr
  clear hv hr
  go_enter Try.func21, Try.ntmps21
  go_wp2_with fail
  have hv1 := HV.out.alloc (.cells #[.slice a n cap] 41)
  have hb1 : Below w.heap.size w (w.alloc (.cells #[.slice a n cap] 41)) := (Below.refl _ _).alloc (Nat.le_refl _) _
  have hz1 := hb1.size
  generalize w.alloc (.cells #[.slice a n cap] 41) = W0 at *
  refine Calls.mono (hdet_ok _ n L Z hg hL W0 hv1) ?_
  rintro e W1 ⟨rfl, hb2⟩
  have hz3 := hb2.size
  replace hb1 := hb1.trans (hb2.mono hz1)
  clear hb2
  go_wp2_with fail
  refine Calls.mono (recip_any (detL n Z) (detL_bound _ _) W1) ?_
  rintro e W2 ⟨rfl, rfl⟩
  rw [HR.out]
  generalize (recOf (detL n Z)).1 = u at *
  go_wp2
  go_ret2
  exact ⟨rfl, hb1.alloc (by omega) _⟩
set_option maxHeartbeats 1000000 in
theorem hinv_bad (v : Value) (n : Nat) (L : Nat → Nat) (Z : Nat → Nat → Int) (E : Int) (hE : (E != 0) = true) (he : matErr n L Z = E) (w : World) (hv : MatAt w v n L Z) :
    Calls Try.prog 21 #[v] w fun e w' => e = .returned (.tuple #[.slice none 0 0, .int .i64 E]) ∧ Below w.heap.size w w' := by
  have HV := (show Hid (MatAt w v n L Z) from hv)
  obtain ⟨a, cap, rfl, _⟩ := hv.len
  have HE : Hid (matErr n L Z = E) := he
  clear hv he
  go_enter Try.func21, Try.ntmps21
  go_wp2_with fail
  have hv1 := HV.out.alloc (.cells #[.slice a n cap] 41)
  have hb1 : Below w.heap.size w (w.alloc (.cells #[.slice a n cap] 41)) := (Below.refl _ _).alloc (Nat.le_refl _) _
  generalize w.alloc (.cells #[.slice a n cap] 41) = W0 at *
  refine Calls.mono (hdet_bad _ n L Z E hE HE.out W0 hv1) ?_
  rintro e W1 ⟨rfl, rfl⟩
  go_wp2
  go_ret2
  exact ⟨rfl, hb1⟩
end Go.Proofs.Ytlgjgppojdamiab
