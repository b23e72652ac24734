/-
  alive (chapter 9).
-/
import Derived.Test.YthfjkhmedpilnaaJn27
import Derived.Test.YthfjkhmedpilnaaJn35
import Derived.Test.YthfjkhmedpilnaaORKw
namespace Go.Proofs.Ythfjkhmedpilnaa
open Go.RowKit PK Vg

def gA9 : Gm := ⟨1, fun _ => spl kw1, fun _ => 1, fun _ _ => 16, 1, fun _ => 0, 1, fun _ => 0, spl miB, Pm.up fun i => i⟩
set_option maxRecDepth 100000 in
theorem a9_gE : gE gA9 = 0 := by decide +kernel
theorem tyDown_sum_snoc (ls : List (List Nat)) (l : List Nat) (h2 : l.length ≤ 26) : ∀ k, k ≤ 26 → (tyDown (cnt (ls ++ [l])) k).sum = (tyDown (cnt ls) k).sum + if 26 - k < l.length then l.length else 0
  | 0, _ => by
    rw [if_neg (by omega)]
    rfl
  | k + 1, hk => by
    have ih := tyDown_sum_snoc ls l h2 k (by omega)
    show (tyDown (cnt (ls ++ [l])) k ++ List.replicate (cnt (ls ++ [l]) (26 - k)) (26 - k)).sum = (tyDown (cnt ls) k ++ List.replicate (cnt ls (26 - k)) (26 - k)).sum + _
    rw [List.sum_append, List.sum_append, ih]
    simp only [List.sum_replicate_nat]
    have hc : cnt (ls ++ [l]) (26 - k) = cnt ls (26 - k) + if l.length = 26 - k then 1 else 0 := by
      unfold cnt
      rw [List.filter_append, List.length_append]
      by_cases e : l.length = 26 - k <;> simp [e]
    rw [hc]
    by_cases e : l.length = 26 - k
    · rw [if_pos e, if_neg (by omega), if_pos (by omega), Nat.add_mul, e]
      omega
    · rw [if_neg e]
      by_cases e2 : 26 - k < l.length
      · rw [if_pos e2, if_pos (by omega), Nat.add_zero, Nat.add_right_comm]
      · rw [if_neg e2, if_neg (by omega)]; simp
theorem tyDown_zero : ∀ k, tyDown (cnt []) k = []
  | 0 => rfl
  | k + 1 => by
    show tyDown (cnt []) k ++ List.replicate (cnt [] (26 - k)) (26 - k) = []
    rw [tyDown_zero k]
    rfl
theorem type_sum_take (ls : List (List Nat)) (h : ∀ l ∈ ls, 0 < l.length ∧ l.length ≤ 26) : ∀ k, k ≤ ls.length → (tyDown (cnt (ls.take k)) 26).sum = (ls.take k).flatten.length
  | 0, _ => by rw [List.take_zero, tyDown_zero]; rfl
  | k + 1, hk => by
    have ih := type_sum_take ls h k (by omega)
    have hl := h ls[k] (List.getElem_mem _)
    rw [List.take_succ_eq_append_getElem (by omega), tyDown_sum_snoc _ _ hl.2 26 (Nat.le_refl _), ih, if_pos (by omega), List.flatten_append, List.length_append]
    simp only [List.flatten_cons, List.flatten_nil, List.append_nil]
theorem type_sum {p : Nat → Nat} (hp : Pm.IsPerm p) : (typeOf p).sum = 26 := by
  have := type_sum_take (Pm.cycs p 26) (cycs_each hp) (Pm.cycs p 26).length (Nat.le_refl _)
  rw [List.take_length] at this
  rw [typeOf, this, Pm.flat_length hp]
theorem sum_take_le (l : List Nat) (k : Nat) : (l.take k).sum ≤ l.sum := by
  have := congrArg List.sum (List.take_append_drop k l)
  rw [List.sum_append] at this
  omega
theorem row_ne {W : World} {b b' : Nat} {T T' : TypeId} {c c' : Array Value} (h : RowAt W b T c) (h' : RowAt W b' T' c') (ht : T ≠ T') : b ≠ b' := fun e => by
  subst e
  unfold RowAt at h h'
  rw [h] at h'
  simp at h'
  exact ht h'.2
theorem nums_sl {W : World} {b : Nat} {T : TypeId} {V : Nat → Value} (h : RowAt W b T (sl3 0 V)) (d : Array Value) {v : Value} {n : Nat} {f : Nat → Int} (hn : NumsAt W v n f) : NumsAt (W.setRow b d) v n f := by
  obtain ⟨a, cap, rfl, h2, h3⟩ := hn
  refine ⟨a, cap, rfl, h2, fun i hi => ?_⟩
  obtain ⟨b', o, rfl, hcell⟩ := h3 i hi
  refine ⟨b', o, rfl, ?_⟩
  by_cases e : b' = b
  · subst e
    have h4 := cell_of_row W b' (o + i) _ T (0, 0) h
    rw [hcell] at h4
    by_cases hlt : o + i < 3
    · rw [sl3_get _ _ hlt, if_neg (by omega)] at h4
      cases h4
    · rw [Array.getElem?_eq_none (by rw [sl3_size]; omega)] at h4
      cases h4
  · exact (cell_setRow_other W b d ⟨b', o + i, none⟩ e).trans hcell
/-- The wheel's and the mirror's variables. -/
structure K9 (w W : World) (q1 q4 : Nat) (R1 : Value) : Prop where
  a : RowAt W q1 62 (whl (spl kw1) R1)
  m : RowAt W q4 25 (ints 26 (spl miB))
  n1 : NumsAt W R1 1 fun _ => 16
  below : Below w.heap.size w W
section
variable {w W W' : World} {q1 q4 : Nat} {R1 : Value}
theorem K9.step (h : K9 w W q1 q4 R1) (hb : Below W.heap.size W W') : K9 w W' q1 q4 R1 := ⟨h.a.below hb h.a.lt, h.m.below hb h.m.lt, h.n1.below hb, h.below.trans (hb.mono h.below.size)⟩
theorem K9.alloc (h : K9 w W q1 q4 R1) (o : Obj) : K9 w (W.alloc o) q1 q4 R1 := h.step ((Below.refl _ _).alloc (Nat.le_refl _) o)
theorem K9.drew (h : K9 w W q1 q4 R1) : K9 w W.drew q1 q4 R1 := ⟨h.a, h.m, h.n1, h.below.drew⟩
theorem K9.store (h : K9 w W q1 q4 R1) {b : Nat} {V : Nat → Value} (hr : RowAt W b 28 (sl3 0 V)) (hb : w.heap.size ≤ b) (d : Array Value) : K9 w (W.setRow b d) q1 q4 R1 := ⟨h.a.rowOther _ _ (row_ne h.a hr (by decide)), h.m.rowOther _ _ (row_ne h.m hr (by decide)), nums_sl hr d h.n1, Below.setRow h.below _ hb _⟩
end
theorem mac_a9 {w W : World} {q1 q4 b1 b2 b3 : Nat} {R1 : Value} (h : K9 w W q1 q4 R1) (f1 : RowAt W b1 62 (whl (spl kw1) R1)) (f2 : RowAt W b2 3 #[.int .i64 0]) (f3 : RowAt W b3 3 #[.int .i64 0]) :
    MacAt W (.agg (mac (.slice (some ⟨b1, 0, none⟩) 1 1) (.slice (some ⟨b2, 0, none⟩) 1 1) (.slice (some ⟨b3, 0, none⟩) 1 1) (spl miB) (Pm.up fun i => i))) gA9 := by
  have z1 : ∀ b, RowAt W b 3 #[.int .i64 0] → NumsAt W (.slice (some ⟨b, 0, none⟩) 1 1) 1 fun _ => 0 := fun b f => ⟨_, 1, rfl, by decide, fun c hc => ⟨b, 0, rfl, by
    obtain rfl : c = 0 := by omega
    exact f.cell rfl⟩⟩
  refine ⟨_, _, _, rfl, ?_, z1 b2 f2, z1 b3 f3⟩
  refine ⟨_, 1, fun _ => R1, rfl, by decide, fun r hr => ⟨b1, 0, rfl, ?_⟩, fun r hr => h.n1⟩
  have hr1 : r < 1 := hr
  obtain rfl : r = 0 := by omega
  exact row_mid f1 _ _ fun j v hv => by rw [show 0 + 0 * 27 + j = j by omega]; exact hv
section
variable {P : Program}
theorem wp_build1c {op : Oper} {a : Act} {w : World} {K : Act → World → Prop} {Q : Exit → Act → World → Prop} (t e : TypeId) (x : Operand) (ho : op.op = .buildSlice t 1 #[(0, x)])
    (n : Nat) (hn : n * 2 ≤ 2 ^ 24) (h0 : 0 < n) (z c : Array Value) (hx : a.eval x = .agg c) (hu : P.underlying t = some (.slice e)) (hzs : z.size = n) (hc : c.size = n) (hz : (P.info? e).map (fun i => (i.zero, i.size)) = some (some (.agg z), n))
    (h : K (a.put op.dst (.slice (some ⟨w.heap.size, 0, none⟩) 1 1)) (w.alloc (.cells c e))) : op.wp P a w K Q := by
  unfold Oper.wp execOp
  have hm : (#[(0, x)] : Array (Nat × Operand)).map (fun (i, x) => (i, a.eval x)) = #[(0, .agg c)] := by simp [hx]
  simp only [ho, Sem.run_bind, hm, run_build1c w t e n hn h0 hu z c hzs hc hz, Result.andThen_ok]
  exact h
end
set_option maxRecDepth 100000 in
set_option maxHeartbeats 20000000 in
theorem alive9_run (w : World)
    (K1 : Hid (∀ W, Calls Try.prog 25 #[.string ⟨#[73]⟩] W fun e w' => ∃ R, e = .returned (.tuple #[.agg (whl (spl kw1) R), .int .i64 0]) ∧ NumsAt w' R [16].length (fun i => (([16].getD i 0 : Nat) : Int)) ∧ Below W.heap.size W w'))
    (KM : Hid (∀ W, Calls Try.prog 26 #[.string ⟨#[66]⟩] W fun e w' => e = .returned (.tuple #[.agg (ints 26 (spl miB)), .int .i64 0]) ∧ Below W.heap.size W w'))
    (C : Nat → Nat → Nat) (hC : Hid ((typeOf (C 0)).sum = 26)) (hCl : (typeOf (C 0)).length ≤ 1000000)
    (HWR : Hid (∀ W vm, MacAt W vm gA9 → Calls Try.prog 11 #[vm] W fun e w' => ∃ V, e = .returned (.tuple #[.agg (sl3 3 V), .int .i64 0]) ∧ TysAt w' V 3 C ∧ Below W.heap.size W w')) : Calls Try.prog 10 #[] w fun e w' => e = .returned (.bool true) ∧ Below w.heap.size w w' := by
  have hz27 := o_zero v_zero_whl
  have hz26 := o_zero v_zero_perm
  have hbe0 := Below.refl w.heap.size w
  have HCL := (show Hid ((typeOf (C 0)).length ≤ 1000000) from hCl)
  clear hCl
  go_enter Try.func10, Try.ntmps10
  go_wp2_with fail
  refine (K1.out _).mono ?_
  rintro e X1 ⟨R1, rfl, hnm, hb⟩
  replace hnm := nums_const hnm
  have HO1 : Hid (R1.oneCell' = true) := by obtain ⟨a', c', e', _⟩ := hnm; rw [Hid, e']; rfl
  have hbe1 := hbe0.trans (hb.mono hbe0.size)
  clear hb K1
  go_upto_region 2 with (first | refine wpList_store_row rfl 62 _ _ rfl X1.heap.size (whl (spl kw1) R1) rfl rfl 62 _ (RowAt.new X1 _ _) (by rw [whl_size]; exact v_info_whl) (by simp only [whl_size]) (whl_one HO1.out) ?_)
  have hr1 := (RowAt.new X1 62 (whl (fun _ => 0) (.slice none 0 0))).row (whl (spl kw1) R1)
  have hn1 := nums_new hnm (.cells (whl (fun _ => 0) (.slice none 0 0)) 62) (whl (spl kw1) R1)
  replace hbe1 : Below w.heap.size w ((X1.alloc (.cells (whl (fun _ => 0) (.slice none 0 0)) 62)).setRow X1.heap.size (whl (spl kw1) R1)) := Below.setRow (hbe1.alloc hbe1.size _) _ hbe1.size _
  generalize (X1.alloc (.cells (whl (fun _ => 0) (.slice none 0 0)) 62)).setRow X1.heap.size (whl (spl kw1) R1) = Y1 at *
  obtain ⟨q1, hq⟩ : ∃ q1, q1 = X1.heap.size := ⟨_, rfl⟩
  rw [← hq] at hr1 ⊢
  clear hq hnm HO1
  go_wp2_with fail
  refine (KM.out _).mono ?_
  rintro e X4 ⟨rfl, hb⟩
  have hbe4 := hbe1.trans (hb.mono hbe1.size)
  have hr1x := hr1.below hb hr1.lt
  have hn1x := hn1.below hb
  have hl1x := hr1x.lt
  clear hb KM hr1 hn1 hbe0 hbe1 hz27
  have hz3 := o_zero v_zero_sl3
  go_upto_region 3 with (first | refine wpList_store_row rfl 25 _ _ rfl X4.heap.size (ints 26 (spl miB)) rfl rfl 25 _ (RowAt.new X4 _ _) (by rw [ints_size]; exact info_perm) (by simp only [ints_size]) (ints_one _ _) ?_)
  have hk : K9 w ((X4.alloc (.cells (ints 26 fun _ => 0) 25)).setRow X4.heap.size (ints 26 (spl miB))) q1 X4.heap.size R1 := ⟨(hr1x.alloc _).rowOther _ _ (by omega), (RowAt.new X4 25 _).row _, nums_new hn1x _ _, Below.setRow (hbe4.alloc hbe4.size _) _ hbe4.size _⟩
  generalize (X4.alloc (.cells (ints 26 fun _ => 0) 25)).setRow X4.heap.size (ints 26 (spl miB)) = V at *
  obtain ⟨q4, hq⟩ : ∃ q4, q4 = X4.heap.size := ⟨_, rfl⟩
  rw [← hq] at hk ⊢
  clear hq hr1x hn1x hl1x hbe4 hz26
  refine wp_region_noPanic ?_
  refine wp_region_held_drew (S := fun W => K9 w W q1 q4 R1) (by kernel_rfl) hk.drew (fun hS => ?_)
  refine vtake 0 19 (.agg (whl (spl kw1) R1)) rfl rfl (by kernel_rfl) (by kernel_rfl) (by kernel_rfl) (fun _ _ _ _ h => h) (by rfl) (fun W hW => by have u := run_loadVar_row (P := Try.prog) W q1 62 62 (whl (spl kw1) R1) (0, 0) _ hW.a Try.underlying62 rfl (by rw [whl_size]; exact v_info_whl); clear hS hW; simp [execOp, Act.eval, Instr.loadAt, Instr.sureAddr, u]) hS ?_
  simp only [List.setIfInBounds_toArray, List.set_cons_succ, List.set_cons_zero]
  refine vtake 4 23 (.agg (ints 26 (spl miB))) rfl rfl (by kernel_rfl) (by kernel_rfl) (by kernel_rfl) (fun _ _ _ _ h => h) (by rfl) (fun W hW => by have u := run_loadVar_row (P := Try.prog) W q4 25 25 (ints 26 (spl miB)) (0, 0) _ hW.m Try.underlying25 rfl (by rw [ints_size]; exact info_perm); clear hS hW; simp [execOp, Act.eval, Instr.loadAt, Instr.sureAddr, u]) hS ?_
  simp only [List.setIfInBounds_toArray, List.set_cons_succ, List.set_cons_zero]
  have HS := (show Hid (∀ W, Calls Try.prog 27 #[] W fun e w' => e = .returned (.agg (ints 26 (Pm.up fun i => i))) ∧ Below W.heap.size W w') from same_any)
  refine with_pr (fun PR hPR => ?_)
  have g1_2_3_5_6_7_11 : ∀ (W : World) (b1 : Nat) (b2 : Nat) (b3 : Nat) (b11 : Nat) (V : Nat → Value), K9 w W q1 q4 R1 → RowAt W b1 62 (whl (spl kw1) R1) → RowAt W b2 3 #[.int .i64 0] → RowAt W b3 3 #[.int .i64 0] → (RowAt W b11 28 (sl3 0 fun _ => .slice none 0 0) ∧ w.heap.size ≤ b11) → TysAt W V 3 C → PR 5 #[true, true, true, true, true, true, true, true, false, false, false, true, false, false] (#[.bool false, .pointer (some ⟨q1, 0, none⟩), .int .i64 0, .pointer (some ⟨q4, 0, none⟩), .int .i64 0, .pointer (some ⟨b11, 0, none⟩), undef, undef, undef, undef, .tuple #[.agg (whl (spl kw1) R1), .int .i64 0], .tuple #[.agg (whl (spl kw1) R1), .int .i64 0], .agg (whl (spl kw1) R1), .int .i64 0, .tuple #[.agg (ints 26 (spl miB)), .int .i64 0], .tuple #[.agg (ints 26 (spl miB)), .int .i64 0], .agg (ints 26 (spl miB)), .int .i64 0, undef, .agg (whl (spl kw1) R1), .slice (some ⟨b1, 0, none⟩) 1 1, .slice (some ⟨b2, 0, none⟩) 1 1, .slice (some ⟨b3, 0, none⟩) 1 1, .agg (ints 26 (spl miB)), .agg (ints 26 (Pm.up fun i => i)), .agg (mac (.slice (some ⟨b1, 0, none⟩) 1 1) (.slice (some ⟨b2, 0, none⟩) 1 1) (.slice (some ⟨b3, 0, none⟩) 1 1) (spl miB) (Pm.up fun i => i)), .tuple #[.agg (sl3 3 V), .int .i64 0], undef, undef, undef, undef, undef, undef, undef, undef, undef, undef, undef, undef, undef, undef, undef, undef, undef, undef, undef, undef, undef, undef, undef, undef, undef, undef, undef]) W := by
    intro W b1 b2 b3 b11 V hS f1 f2 f3 f11 fT
    refine (hPR _ _ _ _).1 ?_
    refine vtake 8 18 (.tuple #[.agg (sl3 3 V), .int .i64 0]) rfl rfl (by kernel_rfl) (by kernel_rfl) (by kernel_rfl) (fun _ _ _ _ h => h) (by rfl) (fun W hW => by clear hS hW; go_simp) hS ?_
    simp only [List.setIfInBounds_toArray, List.set_cons_succ, List.set_cons_zero]
    refine vtake 9 27 (.agg (sl3 3 V)) rfl rfl (by kernel_rfl) (by kernel_rfl) (by kernel_rfl) (fun _ _ _ _ h => h) (by rfl) (fun W hW => by clear hS hW; go_simp) hS ?_
    simp only [List.setIfInBounds_toArray, List.set_cons_succ, List.set_cons_zero]
    refine vtake 10 28 (.int .i64 0) rfl rfl (by kernel_rfl) (by kernel_rfl) (by kernel_rfl) (fun _ _ _ _ h => h) (by rfl) (fun W hW => by clear hS hW; go_simp) hS ?_
    simp only [List.setIfInBounds_toArray, List.set_cons_succ, List.set_cons_zero]
    obtain ⟨W', hW'⟩ : ∃ W', W' = W := ⟨_, rfl⟩
    rw [← hW'] at hS f11 fT ⊢
    clear hW'
    have HON : Hid ((sl3 3 V).all (·.oneCell') = true) := sl3_one fun i hi => one_nums (fT i hi)
    refine wpAnyH_ready (rs := [12]) (by kernel_rfl) (by simp) ?_
    refine AllReadyH.cons (o := _) rfl (fun K hK => ?_) AllReadyH.nil
    rw [if_pos (by rfl)]
    refine wp_store_row 28 _ _ rfl b11 (sl3 3 V) rfl rfl 28 _ f11.1 (by rw [sl3_size]; exact v_info_sl3) (by simp only [sl3_size]) HON.out ?_
    have f11r := f11.1.row (sl3 3 V)
    have fT3 : NumsAt (W'.setRow b11 (sl3 3 V)) (V 0) (typeOf (C 0)).length fun j => (((typeOf (C 0)).getD j 0 : Nat) : Int) := nums_sl f11.1 _ (fT 0 (by decide))
    refine hK.out _ _ (hS.store f11.1 f11.2 _) (fun hS1 => ?_)
    clear hK K hS fT
    have hS := hS1
    clear hS1
    generalize W'.setRow b11 (sl3 3 V) = X at *
    refine vtake 13 6 (.int .i64 0) rfl rfl (by kernel_rfl) (by kernel_rfl) (by kernel_rfl) (fun _ _ _ _ h => h) (by rfl) (fun W hW => by clear hS hW; go_simp) hS ?_
    simp only [List.setIfInBounds_toArray, List.set_cons_succ, List.set_cons_zero]
    refine wpAnyH_done (by kernel_rfl) ?_ _
    refine NoPanic.normal ?_
    have hc0 := f11r.cell (sl3_get 3 V (by decide : 0 < 3))
    rw [if_pos (by decide)] at hc0
    obtain ⟨av, cv, hev, hmv, hcv⟩ := fT3
    rw [hev] at hc0
    have HCV := (show Hid (∀ c, c < (typeOf (C 0)).length → ∃ b o, av = some ⟨b, o, none⟩ ∧ X.cell? ⟨b, o + c, none⟩ = some (.int .i64 (((typeOf (C 0)).getD c 0 : Nat) : Int))) from hcv)
    have HBE := (show Hid (Below w.heap.size w X) from hS.below)
    have hln := HCL.out
    clear hS f11r hcv hev hmv hPR
    obtain ⟨l, hl⟩ : ∃ l, l = typeOf (C 0) := ⟨_, rfl⟩
    rw [← hl] at HCV hln hc0
    have HSM : Hid (l.sum = 26) := by rw [Hid, hl]; exact hC.out
    clear hl
    go_wp2_with fail
    go_loopw [32, 7] (fun i n W => ∃ k : Nat, k ≤ l.length ∧ i = .int .i64 (k : Nat) ∧ n = .int .i64 ((l.take k).sum : Nat) ∧ W = X) (fun i _ _ => ((l.length : Int) - intOf i).toNat)
    case atStart => exact ⟨0, by omega, rfl, rfl, rfl⟩
    case round =>
      obtain ⟨k, hk, rfl, rfl, rfl⟩ := hrel
      by_cases hlt : k < l.length
      · have HLT : Hid (k < l.length) := hlt
        have hlt2 : (k : Int) < (l.length : Int) := by omega
        obtain ⟨b, o, rfl, hck⟩ := HCV.out k hlt
        have hsum : (l.take (k + 1)).sum = (l.take k).sum + l.getD k 0 := by rw [List.take_succ_eq_append_getElem hlt, List.sum_append]; simp [List.getD_eq_getElem?_getD, hlt]
        have hle : (l.take (k + 1)).sum ≤ 26 := by rw [← HSM.out]; exact sum_take_le l (k + 1)
        have HSS := (show Hid _ from hsum)
        have hb1 : (((l.take k).sum : Nat) : Int) ≤ 26 := by omega
        have hb2 : ((l.getD k 0 : Nat) : Int) ≤ 26 := by omega
        clear hsum hle
        generalize l.getD k 0 = x at *
        generalize (l.take k).sum = y at *
        go_wp2
        go_roundw
        case rel => exact ⟨k + 1, HLT.out, by go_num, by rw [HSS.out]; go_num, by first | rfl | trivial⟩
        case measure => have := HLT.out; simp [intOf]; omega
      · obtain rfl : k = l.length := by omega
        have hnn : ¬ ((l.length : Nat) : Int) < ((l.length : Nat) : Int) := by omega
        rw [List.take_length, HSM.out]
        go_wp2
        go_ret
        exact ⟨rfl, HBE.out⟩
  have g1_2_3_5_6_7 : ∀ (W : World) (b1 : Nat) (b2 : Nat) (b3 : Nat) (V : Nat → Value), K9 w W q1 q4 R1 → RowAt W b1 62 (whl (spl kw1) R1) → RowAt W b2 3 #[.int .i64 0] → RowAt W b3 3 #[.int .i64 0] → TysAt W V 3 C → PR 6 #[true, true, true, true, true, true, true, true, false, false, false, false, false, false] (#[.bool false, .pointer (some ⟨q1, 0, none⟩), .int .i64 0, .pointer (some ⟨q4, 0, none⟩), .int .i64 0, undef, undef, undef, undef, undef, .tuple #[.agg (whl (spl kw1) R1), .int .i64 0], .tuple #[.agg (whl (spl kw1) R1), .int .i64 0], .agg (whl (spl kw1) R1), .int .i64 0, .tuple #[.agg (ints 26 (spl miB)), .int .i64 0], .tuple #[.agg (ints 26 (spl miB)), .int .i64 0], .agg (ints 26 (spl miB)), .int .i64 0, undef, .agg (whl (spl kw1) R1), .slice (some ⟨b1, 0, none⟩) 1 1, .slice (some ⟨b2, 0, none⟩) 1 1, .slice (some ⟨b3, 0, none⟩) 1 1, .agg (ints 26 (spl miB)), .agg (ints 26 (Pm.up fun i => i)), .agg (mac (.slice (some ⟨b1, 0, none⟩) 1 1) (.slice (some ⟨b2, 0, none⟩) 1 1) (.slice (some ⟨b3, 0, none⟩) 1 1) (spl miB) (Pm.up fun i => i)), .tuple #[.agg (sl3 3 V), .int .i64 0], undef, undef, undef, undef, undef, undef, undef, undef, undef, undef, undef, undef, undef, undef, undef, undef, undef, undef, undef, undef, undef, undef, undef, undef, undef, undef, undef]) W := by
    intro W b1 b2 b3 V hS f1 f2 f3 fT
    refine (hPR _ _ _ _).1 ?_
    refine vtake 8 18 (.tuple #[.agg (sl3 3 V), .int .i64 0]) rfl rfl (by kernel_rfl) (by kernel_rfl) (by kernel_rfl) (fun _ _ _ _ h => h) (by rfl) (fun W hW => by clear hS hW; go_simp) hS ?_
    simp only [List.setIfInBounds_toArray, List.set_cons_succ, List.set_cons_zero]
    refine vtake 9 27 (.agg (sl3 3 V)) rfl rfl (by kernel_rfl) (by kernel_rfl) (by kernel_rfl) (fun _ _ _ _ h => h) (by rfl) (fun W hW => by clear hS hW; go_simp) hS ?_
    simp only [List.setIfInBounds_toArray, List.set_cons_succ, List.set_cons_zero]
    refine vtake 10 28 (.int .i64 0) rfl rfl (by kernel_rfl) (by kernel_rfl) (by kernel_rfl) (fun _ _ _ _ h => h) (by rfl) (fun W hW => by clear hS hW; go_simp) hS ?_
    simp only [List.setIfInBounds_toArray, List.set_cons_succ, List.set_cons_zero]
    refine wpAnyH_ready (rs := [11]) (by kernel_rfl) (by simp) ?_
    refine AllReadyH.cons (o := _) rfl (fun K hK => ?_) AllReadyH.nil
    rw [if_pos (by rfl)]
    go_simp
    have f11 : RowAt (W.alloc (.cells (sl3 0 fun _ => .slice none 0 0) 28)) W.heap.size 28 (sl3 0 fun _ => .slice none 0 0) ∧ w.heap.size ≤ W.heap.size := ⟨RowAt.new W _ _, hS.below.size⟩
    have fT2 : TysAt (W.alloc (.cells (sl3 0 fun _ => .slice none 0 0) 28)) V 3 C := fun i hi => (fT i hi).below ((Below.refl _ _).alloc (Nat.le_refl _) _)
    refine hK.out _ _ (hS.alloc _) (fun hS1 => ?_)
    clear hK hS K fT
    have hS := hS1
    have fT := fT2
    clear hS1 fT2
    obtain ⟨b11, hb11⟩ : ∃ b, b = W.heap.size := ⟨_, rfl⟩
    rw [← hb11] at f11 ⊢
    clear hb11
    generalize W.alloc (.cells (sl3 0 fun _ => .slice none 0 0) 28) = W' at *
    have HON : Hid ((sl3 3 V).all (·.oneCell') = true) := sl3_one fun i hi => one_nums (fT i hi)
    refine wpAnyH_ready (rs := [12]) (by kernel_rfl) (by simp) ?_
    refine AllReadyH.cons (o := _) rfl (fun K hK => ?_) AllReadyH.nil
    rw [if_pos (by rfl)]
    refine wp_store_row 28 _ _ rfl b11 (sl3 3 V) rfl rfl 28 _ f11.1 (by rw [sl3_size]; exact v_info_sl3) (by simp only [sl3_size]) HON.out ?_
    have f11r := f11.1.row (sl3 3 V)
    have fT3 : NumsAt (W'.setRow b11 (sl3 3 V)) (V 0) (typeOf (C 0)).length fun j => (((typeOf (C 0)).getD j 0 : Nat) : Int) := nums_sl f11.1 _ (fT 0 (by decide))
    refine hK.out _ _ (hS.store f11.1 f11.2 _) (fun hS1 => ?_)
    clear hK K hS fT
    have hS := hS1
    clear hS1
    generalize W'.setRow b11 (sl3 3 V) = X at *
    refine vtake 13 6 (.int .i64 0) rfl rfl (by kernel_rfl) (by kernel_rfl) (by kernel_rfl) (fun _ _ _ _ h => h) (by rfl) (fun W hW => by clear hS hW; go_simp) hS ?_
    simp only [List.setIfInBounds_toArray, List.set_cons_succ, List.set_cons_zero]
    refine wpAnyH_done (by kernel_rfl) ?_ _
    refine NoPanic.normal ?_
    have hc0 := f11r.cell (sl3_get 3 V (by decide : 0 < 3))
    rw [if_pos (by decide)] at hc0
    obtain ⟨av, cv, hev, hmv, hcv⟩ := fT3
    rw [hev] at hc0
    have HCV := (show Hid (∀ c, c < (typeOf (C 0)).length → ∃ b o, av = some ⟨b, o, none⟩ ∧ X.cell? ⟨b, o + c, none⟩ = some (.int .i64 (((typeOf (C 0)).getD c 0 : Nat) : Int))) from hcv)
    have HBE := (show Hid (Below w.heap.size w X) from hS.below)
    have hln := HCL.out
    clear hS f11r hcv hev hmv hPR
    obtain ⟨l, hl⟩ : ∃ l, l = typeOf (C 0) := ⟨_, rfl⟩
    rw [← hl] at HCV hln hc0
    have HSM : Hid (l.sum = 26) := by rw [Hid, hl]; exact hC.out
    clear hl
    go_wp2_with fail
    go_loopw [32, 7] (fun i n W => ∃ k : Nat, k ≤ l.length ∧ i = .int .i64 (k : Nat) ∧ n = .int .i64 ((l.take k).sum : Nat) ∧ W = X) (fun i _ _ => ((l.length : Int) - intOf i).toNat)
    case atStart => exact ⟨0, by omega, rfl, rfl, rfl⟩
    case round =>
      obtain ⟨k, hk, rfl, rfl, rfl⟩ := hrel
      by_cases hlt : k < l.length
      · have HLT : Hid (k < l.length) := hlt
        have hlt2 : (k : Int) < (l.length : Int) := by omega
        obtain ⟨b, o, rfl, hck⟩ := HCV.out k hlt
        have hsum : (l.take (k + 1)).sum = (l.take k).sum + l.getD k 0 := by rw [List.take_succ_eq_append_getElem hlt, List.sum_append]; simp [List.getD_eq_getElem?_getD, hlt]
        have hle : (l.take (k + 1)).sum ≤ 26 := by rw [← HSM.out]; exact sum_take_le l (k + 1)
        have HSS := (show Hid _ from hsum)
        have hb1 : (((l.take k).sum : Nat) : Int) ≤ 26 := by omega
        have hb2 : ((l.getD k 0 : Nat) : Int) ≤ 26 := by omega
        clear hsum hle
        generalize l.getD k 0 = x at *
        generalize (l.take k).sum = y at *
        go_wp2
        go_roundw
        case rel => exact ⟨k + 1, HLT.out, by go_num, by rw [HSS.out]; go_num, by first | rfl | trivial⟩
        case measure => have := HLT.out; simp [intOf]; omega
      · obtain rfl : k = l.length := by omega
        have hnn : ¬ ((l.length : Nat) : Int) < ((l.length : Nat) : Int) := by omega
        rw [List.take_length, HSM.out]
        go_wp2
        go_ret
        exact ⟨rfl, HBE.out⟩
  have g1_2_3_5_6_11 : ∀ (W : World) (b1 : Nat) (b2 : Nat) (b3 : Nat) (b11 : Nat), K9 w W q1 q4 R1 → RowAt W b1 62 (whl (spl kw1) R1) → RowAt W b2 3 #[.int .i64 0] → RowAt W b3 3 #[.int .i64 0] → (RowAt W b11 28 (sl3 0 fun _ => .slice none 0 0) ∧ w.heap.size ≤ b11) → PR 6 #[true, true, true, true, true, true, true, false, false, false, false, true, false, false] (#[.bool false, .pointer (some ⟨q1, 0, none⟩), .int .i64 0, .pointer (some ⟨q4, 0, none⟩), .int .i64 0, .pointer (some ⟨b11, 0, none⟩), undef, undef, undef, undef, .tuple #[.agg (whl (spl kw1) R1), .int .i64 0], .tuple #[.agg (whl (spl kw1) R1), .int .i64 0], .agg (whl (spl kw1) R1), .int .i64 0, .tuple #[.agg (ints 26 (spl miB)), .int .i64 0], .tuple #[.agg (ints 26 (spl miB)), .int .i64 0], .agg (ints 26 (spl miB)), .int .i64 0, undef, .agg (whl (spl kw1) R1), .slice (some ⟨b1, 0, none⟩) 1 1, .slice (some ⟨b2, 0, none⟩) 1 1, .slice (some ⟨b3, 0, none⟩) 1 1, .agg (ints 26 (spl miB)), .agg (ints 26 (Pm.up fun i => i)), .agg (mac (.slice (some ⟨b1, 0, none⟩) 1 1) (.slice (some ⟨b2, 0, none⟩) 1 1) (.slice (some ⟨b3, 0, none⟩) 1 1) (spl miB) (Pm.up fun i => i)), undef, undef, undef, undef, undef, undef, undef, undef, undef, undef, undef, undef, undef, undef, undef, undef, undef, undef, undef, undef, undef, undef, undef, undef, undef, undef, undef, undef]) W := by
    intro W b1 b2 b3 b11 hS f1 f2 f3 f11
    refine (hPR _ _ _ _).1 ?_
    refine wpAnyH_ready (rs := [7]) (by kernel_rfl) (by simp) ?_
    refine AllReadyH.cons (o := _) rfl (fun K hK => ?_) AllReadyH.nil
    · rw [if_pos (by rfl)]
      go_simp
      refine Calls.mono (HWR.out _ _ (mac_a9 hS f1 f2 f3)) ?_
      rintro e Y ⟨V, rfl, fT, hb8⟩
      refine hK.out _ _ (hS.step hb8) (fun hS1 => ?_)
      simp only [List.setIfInBounds_toArray, List.set_cons_succ, List.set_cons_zero]
      refine (hPR _ _ _ _).2 (g1_2_3_5_6_7_11 _ b1 b2 b3 b11 V hS1 (f1.below hb8 f1.lt) (f2.below hb8 f2.lt) (f3.below hb8 f3.lt) ⟨f11.1.below hb8 f11.1.lt, f11.2⟩ fT)
  have g1_2_3_5_6 : ∀ (W : World) (b1 : Nat) (b2 : Nat) (b3 : Nat), K9 w W q1 q4 R1 → RowAt W b1 62 (whl (spl kw1) R1) → RowAt W b2 3 #[.int .i64 0] → RowAt W b3 3 #[.int .i64 0] → PR 7 #[true, true, true, true, true, true, true, false, false, false, false, false, false, false] (#[.bool false, .pointer (some ⟨q1, 0, none⟩), .int .i64 0, .pointer (some ⟨q4, 0, none⟩), .int .i64 0, undef, undef, undef, undef, undef, .tuple #[.agg (whl (spl kw1) R1), .int .i64 0], .tuple #[.agg (whl (spl kw1) R1), .int .i64 0], .agg (whl (spl kw1) R1), .int .i64 0, .tuple #[.agg (ints 26 (spl miB)), .int .i64 0], .tuple #[.agg (ints 26 (spl miB)), .int .i64 0], .agg (ints 26 (spl miB)), .int .i64 0, undef, .agg (whl (spl kw1) R1), .slice (some ⟨b1, 0, none⟩) 1 1, .slice (some ⟨b2, 0, none⟩) 1 1, .slice (some ⟨b3, 0, none⟩) 1 1, .agg (ints 26 (spl miB)), .agg (ints 26 (Pm.up fun i => i)), .agg (mac (.slice (some ⟨b1, 0, none⟩) 1 1) (.slice (some ⟨b2, 0, none⟩) 1 1) (.slice (some ⟨b3, 0, none⟩) 1 1) (spl miB) (Pm.up fun i => i)), undef, undef, undef, undef, undef, undef, undef, undef, undef, undef, undef, undef, undef, undef, undef, undef, undef, undef, undef, undef, undef, undef, undef, undef, undef, undef, undef, undef]) W := by
    intro W b1 b2 b3 hS f1 f2 f3
    refine (hPR _ _ _ _).1 ?_
    refine wpAnyH_ready (rs := [7, 11]) (by kernel_rfl) (by simp) ?_
    refine AllReadyH.cons (o := _) rfl (fun K hK => ?_) (AllReadyH.cons (o := _) rfl (fun K hK => ?_) AllReadyH.nil)
    · rw [if_pos (by rfl)]
      go_simp
      refine Calls.mono (HWR.out _ _ (mac_a9 hS f1 f2 f3)) ?_
      rintro e Y ⟨V, rfl, fT, hb8⟩
      refine hK.out _ _ (hS.step hb8) (fun hS1 => ?_)
      simp only [List.setIfInBounds_toArray, List.set_cons_succ, List.set_cons_zero]
      refine (hPR _ _ _ _).2 (g1_2_3_5_6_7 _ b1 b2 b3 V hS1 (f1.below hb8 f1.lt) (f2.below hb8 f2.lt) (f3.below hb8 f3.lt) fT)
    · rw [if_pos (by rfl)]
      go_simp
      refine hK.out _ _ (hS.alloc _) (fun hS1 => ?_)
      simp only [List.setIfInBounds_toArray, List.set_cons_succ, List.set_cons_zero]
      refine (hPR _ _ _ _).2 (g1_2_3_5_6_11 _ b1 b2 b3 W.heap.size hS1 (f1.alloc _) (f2.alloc _) (f3.alloc _) ⟨RowAt.new _ _ _, hS.below.size⟩)
  have g1_2_3_5_11 : ∀ (W : World) (b1 : Nat) (b2 : Nat) (b3 : Nat) (b11 : Nat), K9 w W q1 q4 R1 → RowAt W b1 62 (whl (spl kw1) R1) → RowAt W b2 3 #[.int .i64 0] → RowAt W b3 3 #[.int .i64 0] → (RowAt W b11 28 (sl3 0 fun _ => .slice none 0 0) ∧ w.heap.size ≤ b11) → PR 7 #[true, true, true, true, true, true, false, false, false, false, false, true, false, false] (#[.bool false, .pointer (some ⟨q1, 0, none⟩), .int .i64 0, .pointer (some ⟨q4, 0, none⟩), .int .i64 0, .pointer (some ⟨b11, 0, none⟩), undef, undef, undef, undef, .tuple #[.agg (whl (spl kw1) R1), .int .i64 0], .tuple #[.agg (whl (spl kw1) R1), .int .i64 0], .agg (whl (spl kw1) R1), .int .i64 0, .tuple #[.agg (ints 26 (spl miB)), .int .i64 0], .tuple #[.agg (ints 26 (spl miB)), .int .i64 0], .agg (ints 26 (spl miB)), .int .i64 0, undef, .agg (whl (spl kw1) R1), .slice (some ⟨b1, 0, none⟩) 1 1, .slice (some ⟨b2, 0, none⟩) 1 1, .slice (some ⟨b3, 0, none⟩) 1 1, .agg (ints 26 (spl miB)), .agg (ints 26 (Pm.up fun i => i)), undef, undef, undef, undef, undef, undef, undef, undef, undef, undef, undef, undef, undef, undef, undef, undef, undef, undef, undef, undef, undef, undef, undef, undef, undef, undef, undef, undef, undef]) W := by
    intro W b1 b2 b3 b11 hS f1 f2 f3 f11
    refine (hPR _ _ _ _).1 ?_
    refine vtake 6 25 (.agg (mac (.slice (some ⟨b1, 0, none⟩) 1 1) (.slice (some ⟨b2, 0, none⟩) 1 1) (.slice (some ⟨b3, 0, none⟩) 1 1) (spl miB) (Pm.up fun i => i))) rfl rfl (by kernel_rfl) (by kernel_rfl) (by kernel_rfl) (fun _ _ _ _ h => h) (by rfl) (fun W hW => by have u := run_build (P := Try.prog) W 27 #[(0, .slice (some ⟨b1, 0, none⟩) 1 1), (1, .slice (some ⟨b2, 0, none⟩) 1 1), (2, .slice (some ⟨b3, 0, none⟩) 1 1), (3, .agg (ints 26 (spl miB))), (4, .agg (ints 26 (Pm.up fun i => i)))] _ (built_mac _ _ _ _ _ _ _ _ _ _ _); clear hS hW; simp [execOp, Act.eval, u]) hS ?_
    simp only [List.setIfInBounds_toArray, List.set_cons_succ, List.set_cons_zero]
    exact (hPR _ _ _ _).2 (g1_2_3_5_6_11 _ b1 b2 b3 b11 hS f1 f2 f3 f11)
  have g1_2_3_5 : ∀ (W : World) (b1 : Nat) (b2 : Nat) (b3 : Nat), K9 w W q1 q4 R1 → RowAt W b1 62 (whl (spl kw1) R1) → RowAt W b2 3 #[.int .i64 0] → RowAt W b3 3 #[.int .i64 0] → PR 8 #[true, true, true, true, true, true, false, false, false, false, false, false, false, false] (#[.bool false, .pointer (some ⟨q1, 0, none⟩), .int .i64 0, .pointer (some ⟨q4, 0, none⟩), .int .i64 0, undef, undef, undef, undef, undef, .tuple #[.agg (whl (spl kw1) R1), .int .i64 0], .tuple #[.agg (whl (spl kw1) R1), .int .i64 0], .agg (whl (spl kw1) R1), .int .i64 0, .tuple #[.agg (ints 26 (spl miB)), .int .i64 0], .tuple #[.agg (ints 26 (spl miB)), .int .i64 0], .agg (ints 26 (spl miB)), .int .i64 0, undef, .agg (whl (spl kw1) R1), .slice (some ⟨b1, 0, none⟩) 1 1, .slice (some ⟨b2, 0, none⟩) 1 1, .slice (some ⟨b3, 0, none⟩) 1 1, .agg (ints 26 (spl miB)), .agg (ints 26 (Pm.up fun i => i)), undef, undef, undef, undef, undef, undef, undef, undef, undef, undef, undef, undef, undef, undef, undef, undef, undef, undef, undef, undef, undef, undef, undef, undef, undef, undef, undef, undef, undef]) W := by
    intro W b1 b2 b3 hS f1 f2 f3
    refine (hPR _ _ _ _).1 ?_
    refine vtake 6 25 (.agg (mac (.slice (some ⟨b1, 0, none⟩) 1 1) (.slice (some ⟨b2, 0, none⟩) 1 1) (.slice (some ⟨b3, 0, none⟩) 1 1) (spl miB) (Pm.up fun i => i))) rfl rfl (by kernel_rfl) (by kernel_rfl) (by kernel_rfl) (fun _ _ _ _ h => h) (by rfl) (fun W hW => by have u := run_build (P := Try.prog) W 27 #[(0, .slice (some ⟨b1, 0, none⟩) 1 1), (1, .slice (some ⟨b2, 0, none⟩) 1 1), (2, .slice (some ⟨b3, 0, none⟩) 1 1), (3, .agg (ints 26 (spl miB))), (4, .agg (ints 26 (Pm.up fun i => i)))] _ (built_mac _ _ _ _ _ _ _ _ _ _ _); clear hS hW; simp [execOp, Act.eval, u]) hS ?_
    simp only [List.setIfInBounds_toArray, List.set_cons_succ, List.set_cons_zero]
    exact (hPR _ _ _ _).2 (g1_2_3_5_6 _ b1 b2 b3 hS f1 f2 f3)
  have g1_2_3_11 : ∀ (W : World) (b1 : Nat) (b2 : Nat) (b3 : Nat) (b11 : Nat), K9 w W q1 q4 R1 → RowAt W b1 62 (whl (spl kw1) R1) → RowAt W b2 3 #[.int .i64 0] → RowAt W b3 3 #[.int .i64 0] → (RowAt W b11 28 (sl3 0 fun _ => .slice none 0 0) ∧ w.heap.size ≤ b11) → PR 8 #[true, true, true, true, true, false, false, false, false, false, false, true, false, false] (#[.bool false, .pointer (some ⟨q1, 0, none⟩), .int .i64 0, .pointer (some ⟨q4, 0, none⟩), .int .i64 0, .pointer (some ⟨b11, 0, none⟩), undef, undef, undef, undef, .tuple #[.agg (whl (spl kw1) R1), .int .i64 0], .tuple #[.agg (whl (spl kw1) R1), .int .i64 0], .agg (whl (spl kw1) R1), .int .i64 0, .tuple #[.agg (ints 26 (spl miB)), .int .i64 0], .tuple #[.agg (ints 26 (spl miB)), .int .i64 0], .agg (ints 26 (spl miB)), .int .i64 0, undef, .agg (whl (spl kw1) R1), .slice (some ⟨b1, 0, none⟩) 1 1, .slice (some ⟨b2, 0, none⟩) 1 1, .slice (some ⟨b3, 0, none⟩) 1 1, .agg (ints 26 (spl miB)), undef, undef, undef, undef, undef, undef, undef, undef, undef, undef, undef, undef, undef, undef, undef, undef, undef, undef, undef, undef, undef, undef, undef, undef, undef, undef, undef, undef, undef, undef]) W := by
    intro W b1 b2 b3 b11 hS f1 f2 f3 f11
    refine (hPR _ _ _ _).1 ?_
    refine wpAnyH_ready (rs := [5]) (by kernel_rfl) (by simp) ?_
    refine AllReadyH.cons (o := _) rfl (fun K hK => ?_) AllReadyH.nil
    · rw [if_pos (by rfl)]
      go_simp
      refine Calls.mono (HS.out _) ?_
      rintro e Y ⟨rfl, hb8⟩
      refine hK.out _ _ (hS.step hb8) (fun hS1 => ?_)
      simp only [List.setIfInBounds_toArray, List.set_cons_succ, List.set_cons_zero]
      refine (hPR _ _ _ _).2 (g1_2_3_5_11 _ b1 b2 b3 b11 hS1 (f1.below hb8 f1.lt) (f2.below hb8 f2.lt) (f3.below hb8 f3.lt) ⟨f11.1.below hb8 f11.1.lt, f11.2⟩)
  have g1_2_5_11 : ∀ (W : World) (b1 : Nat) (b2 : Nat) (b11 : Nat), K9 w W q1 q4 R1 → RowAt W b1 62 (whl (spl kw1) R1) → RowAt W b2 3 #[.int .i64 0] → (RowAt W b11 28 (sl3 0 fun _ => .slice none 0 0) ∧ w.heap.size ≤ b11) → PR 8 #[true, true, true, false, true, true, false, false, false, false, false, true, false, false] (#[.bool false, .pointer (some ⟨q1, 0, none⟩), .int .i64 0, .pointer (some ⟨q4, 0, none⟩), .int .i64 0, .pointer (some ⟨b11, 0, none⟩), undef, undef, undef, undef, .tuple #[.agg (whl (spl kw1) R1), .int .i64 0], .tuple #[.agg (whl (spl kw1) R1), .int .i64 0], .agg (whl (spl kw1) R1), .int .i64 0, .tuple #[.agg (ints 26 (spl miB)), .int .i64 0], .tuple #[.agg (ints 26 (spl miB)), .int .i64 0], .agg (ints 26 (spl miB)), .int .i64 0, undef, .agg (whl (spl kw1) R1), .slice (some ⟨b1, 0, none⟩) 1 1, .slice (some ⟨b2, 0, none⟩) 1 1, undef, .agg (ints 26 (spl miB)), .agg (ints 26 (Pm.up fun i => i)), undef, undef, undef, undef, undef, undef, undef, undef, undef, undef, undef, undef, undef, undef, undef, undef, undef, undef, undef, undef, undef, undef, undef, undef, undef, undef, undef, undef, undef]) W := by
    intro W b1 b2 b11 hS f1 f2 f11
    refine (hPR _ _ _ _).1 ?_
    refine wpAnyH_ready (rs := [3]) (by kernel_rfl) (by simp) ?_
    refine AllReadyH.cons (o := _) rfl (fun K hK => ?_) AllReadyH.nil
    · rw [if_pos (by rfl)]
      go_simp
      refine hK.out _ _ (hS.alloc _) (fun hS1 => ?_)
      simp only [List.setIfInBounds_toArray, List.set_cons_succ, List.set_cons_zero]
      refine (hPR _ _ _ _).2 (g1_2_3_5_11 _ b1 b2 W.heap.size b11 hS1 (f1.alloc _) (f2.alloc _) (RowAt.new _ _ _) ⟨f11.1.alloc _, f11.2⟩)
  have g1_3_5_11 : ∀ (W : World) (b1 : Nat) (b3 : Nat) (b11 : Nat), K9 w W q1 q4 R1 → RowAt W b1 62 (whl (spl kw1) R1) → RowAt W b3 3 #[.int .i64 0] → (RowAt W b11 28 (sl3 0 fun _ => .slice none 0 0) ∧ w.heap.size ≤ b11) → PR 8 #[true, true, false, true, true, true, false, false, false, false, false, true, false, false] (#[.bool false, .pointer (some ⟨q1, 0, none⟩), .int .i64 0, .pointer (some ⟨q4, 0, none⟩), .int .i64 0, .pointer (some ⟨b11, 0, none⟩), undef, undef, undef, undef, .tuple #[.agg (whl (spl kw1) R1), .int .i64 0], .tuple #[.agg (whl (spl kw1) R1), .int .i64 0], .agg (whl (spl kw1) R1), .int .i64 0, .tuple #[.agg (ints 26 (spl miB)), .int .i64 0], .tuple #[.agg (ints 26 (spl miB)), .int .i64 0], .agg (ints 26 (spl miB)), .int .i64 0, undef, .agg (whl (spl kw1) R1), .slice (some ⟨b1, 0, none⟩) 1 1, undef, .slice (some ⟨b3, 0, none⟩) 1 1, .agg (ints 26 (spl miB)), .agg (ints 26 (Pm.up fun i => i)), undef, undef, undef, undef, undef, undef, undef, undef, undef, undef, undef, undef, undef, undef, undef, undef, undef, undef, undef, undef, undef, undef, undef, undef, undef, undef, undef, undef, undef]) W := by
    intro W b1 b3 b11 hS f1 f3 f11
    refine (hPR _ _ _ _).1 ?_
    refine wpAnyH_ready (rs := [2]) (by kernel_rfl) (by simp) ?_
    refine AllReadyH.cons (o := _) rfl (fun K hK => ?_) AllReadyH.nil
    · rw [if_pos (by rfl)]
      go_simp
      refine hK.out _ _ (hS.alloc _) (fun hS1 => ?_)
      simp only [List.setIfInBounds_toArray, List.set_cons_succ, List.set_cons_zero]
      refine (hPR _ _ _ _).2 (g1_2_3_5_11 _ b1 W.heap.size b3 b11 hS1 (f1.alloc _) (RowAt.new _ _ _) (f3.alloc _) ⟨f11.1.alloc _, f11.2⟩)
  have g2_3_5_11 : ∀ (W : World) (b2 : Nat) (b3 : Nat) (b11 : Nat), K9 w W q1 q4 R1 → RowAt W b2 3 #[.int .i64 0] → RowAt W b3 3 #[.int .i64 0] → (RowAt W b11 28 (sl3 0 fun _ => .slice none 0 0) ∧ w.heap.size ≤ b11) → PR 8 #[true, false, true, true, true, true, false, false, false, false, false, true, false, false] (#[.bool false, .pointer (some ⟨q1, 0, none⟩), .int .i64 0, .pointer (some ⟨q4, 0, none⟩), .int .i64 0, .pointer (some ⟨b11, 0, none⟩), undef, undef, undef, undef, .tuple #[.agg (whl (spl kw1) R1), .int .i64 0], .tuple #[.agg (whl (spl kw1) R1), .int .i64 0], .agg (whl (spl kw1) R1), .int .i64 0, .tuple #[.agg (ints 26 (spl miB)), .int .i64 0], .tuple #[.agg (ints 26 (spl miB)), .int .i64 0], .agg (ints 26 (spl miB)), .int .i64 0, undef, .agg (whl (spl kw1) R1), undef, .slice (some ⟨b2, 0, none⟩) 1 1, .slice (some ⟨b3, 0, none⟩) 1 1, .agg (ints 26 (spl miB)), .agg (ints 26 (Pm.up fun i => i)), undef, undef, undef, undef, undef, undef, undef, undef, undef, undef, undef, undef, undef, undef, undef, undef, undef, undef, undef, undef, undef, undef, undef, undef, undef, undef, undef, undef, undef]) W := by
    intro W b2 b3 b11 hS f2 f3 f11
    refine (hPR _ _ _ _).1 ?_
    refine wpAnyH_ready (rs := [1]) (by kernel_rfl) (by simp) ?_
    refine AllReadyH.cons (o := _) rfl (fun K hK => ?_) AllReadyH.nil
    · rw [if_pos (by rfl)]
      refine wp_build1c 22 62 _ rfl 27 (by decide) (by decide) (whl (fun _ => 0) (.slice none 0 0)) (whl (spl kw1) R1) rfl Try.underlying22 (whl_size _ _) (whl_size _ _) o_zs_whl ?_
      refine hK.out _ _ (hS.alloc _) (fun hS1 => ?_)
      simp only [List.getElem_toArray, List.getElem_cons_succ, List.getElem_cons_zero, Act.put, List.setIfInBounds_toArray, List.set_cons_succ, List.set_cons_zero]
      refine (hPR _ _ _ _).2 (g1_2_3_5_11 _ W.heap.size b2 b3 b11 hS1 (RowAt.new _ _ _) (f2.alloc _) (f3.alloc _) ⟨f11.1.alloc _, f11.2⟩)
  have g1_2_3 : ∀ (W : World) (b1 : Nat) (b2 : Nat) (b3 : Nat), K9 w W q1 q4 R1 → RowAt W b1 62 (whl (spl kw1) R1) → RowAt W b2 3 #[.int .i64 0] → RowAt W b3 3 #[.int .i64 0] → PR 9 #[true, true, true, true, true, false, false, false, false, false, false, false, false, false] (#[.bool false, .pointer (some ⟨q1, 0, none⟩), .int .i64 0, .pointer (some ⟨q4, 0, none⟩), .int .i64 0, undef, undef, undef, undef, undef, .tuple #[.agg (whl (spl kw1) R1), .int .i64 0], .tuple #[.agg (whl (spl kw1) R1), .int .i64 0], .agg (whl (spl kw1) R1), .int .i64 0, .tuple #[.agg (ints 26 (spl miB)), .int .i64 0], .tuple #[.agg (ints 26 (spl miB)), .int .i64 0], .agg (ints 26 (spl miB)), .int .i64 0, undef, .agg (whl (spl kw1) R1), .slice (some ⟨b1, 0, none⟩) 1 1, .slice (some ⟨b2, 0, none⟩) 1 1, .slice (some ⟨b3, 0, none⟩) 1 1, .agg (ints 26 (spl miB)), undef, undef, undef, undef, undef, undef, undef, undef, undef, undef, undef, undef, undef, undef, undef, undef, undef, undef, undef, undef, undef, undef, undef, undef, undef, undef, undef, undef, undef, undef]) W := by
    intro W b1 b2 b3 hS f1 f2 f3
    refine (hPR _ _ _ _).1 ?_
    refine wpAnyH_ready (rs := [5, 11]) (by kernel_rfl) (by simp) ?_
    refine AllReadyH.cons (o := _) rfl (fun K hK => ?_) (AllReadyH.cons (o := _) rfl (fun K hK => ?_) AllReadyH.nil)
    · rw [if_pos (by rfl)]
      go_simp
      refine Calls.mono (HS.out _) ?_
      rintro e Y ⟨rfl, hb8⟩
      refine hK.out _ _ (hS.step hb8) (fun hS1 => ?_)
      simp only [List.setIfInBounds_toArray, List.set_cons_succ, List.set_cons_zero]
      refine (hPR _ _ _ _).2 (g1_2_3_5 _ b1 b2 b3 hS1 (f1.below hb8 f1.lt) (f2.below hb8 f2.lt) (f3.below hb8 f3.lt))
    · rw [if_pos (by rfl)]
      go_simp
      refine hK.out _ _ (hS.alloc _) (fun hS1 => ?_)
      simp only [List.setIfInBounds_toArray, List.set_cons_succ, List.set_cons_zero]
      refine (hPR _ _ _ _).2 (g1_2_3_11 _ b1 b2 b3 W.heap.size hS1 (f1.alloc _) (f2.alloc _) (f3.alloc _) ⟨RowAt.new _ _ _, hS.below.size⟩)
  have g1_2_5 : ∀ (W : World) (b1 : Nat) (b2 : Nat), K9 w W q1 q4 R1 → RowAt W b1 62 (whl (spl kw1) R1) → RowAt W b2 3 #[.int .i64 0] → PR 9 #[true, true, true, false, true, true, false, false, false, false, false, false, false, false] (#[.bool false, .pointer (some ⟨q1, 0, none⟩), .int .i64 0, .pointer (some ⟨q4, 0, none⟩), .int .i64 0, undef, undef, undef, undef, undef, .tuple #[.agg (whl (spl kw1) R1), .int .i64 0], .tuple #[.agg (whl (spl kw1) R1), .int .i64 0], .agg (whl (spl kw1) R1), .int .i64 0, .tuple #[.agg (ints 26 (spl miB)), .int .i64 0], .tuple #[.agg (ints 26 (spl miB)), .int .i64 0], .agg (ints 26 (spl miB)), .int .i64 0, undef, .agg (whl (spl kw1) R1), .slice (some ⟨b1, 0, none⟩) 1 1, .slice (some ⟨b2, 0, none⟩) 1 1, undef, .agg (ints 26 (spl miB)), .agg (ints 26 (Pm.up fun i => i)), undef, undef, undef, undef, undef, undef, undef, undef, undef, undef, undef, undef, undef, undef, undef, undef, undef, undef, undef, undef, undef, undef, undef, undef, undef, undef, undef, undef, undef]) W := by
    intro W b1 b2 hS f1 f2
    refine (hPR _ _ _ _).1 ?_
    refine wpAnyH_ready (rs := [3, 11]) (by kernel_rfl) (by simp) ?_
    refine AllReadyH.cons (o := _) rfl (fun K hK => ?_) (AllReadyH.cons (o := _) rfl (fun K hK => ?_) AllReadyH.nil)
    · rw [if_pos (by rfl)]
      go_simp
      refine hK.out _ _ (hS.alloc _) (fun hS1 => ?_)
      simp only [List.setIfInBounds_toArray, List.set_cons_succ, List.set_cons_zero]
      refine (hPR _ _ _ _).2 (g1_2_3_5 _ b1 b2 W.heap.size hS1 (f1.alloc _) (f2.alloc _) (RowAt.new _ _ _))
    · rw [if_pos (by rfl)]
      go_simp
      refine hK.out _ _ (hS.alloc _) (fun hS1 => ?_)
      simp only [List.setIfInBounds_toArray, List.set_cons_succ, List.set_cons_zero]
      refine (hPR _ _ _ _).2 (g1_2_5_11 _ b1 b2 W.heap.size hS1 (f1.alloc _) (f2.alloc _) ⟨RowAt.new _ _ _, hS.below.size⟩)
  have g1_2_11 : ∀ (W : World) (b1 : Nat) (b2 : Nat) (b11 : Nat), K9 w W q1 q4 R1 → RowAt W b1 62 (whl (spl kw1) R1) → RowAt W b2 3 #[.int .i64 0] → (RowAt W b11 28 (sl3 0 fun _ => .slice none 0 0) ∧ w.heap.size ≤ b11) → PR 9 #[true, true, true, false, true, false, false, false, false, false, false, true, false, false] (#[.bool false, .pointer (some ⟨q1, 0, none⟩), .int .i64 0, .pointer (some ⟨q4, 0, none⟩), .int .i64 0, .pointer (some ⟨b11, 0, none⟩), undef, undef, undef, undef, .tuple #[.agg (whl (spl kw1) R1), .int .i64 0], .tuple #[.agg (whl (spl kw1) R1), .int .i64 0], .agg (whl (spl kw1) R1), .int .i64 0, .tuple #[.agg (ints 26 (spl miB)), .int .i64 0], .tuple #[.agg (ints 26 (spl miB)), .int .i64 0], .agg (ints 26 (spl miB)), .int .i64 0, undef, .agg (whl (spl kw1) R1), .slice (some ⟨b1, 0, none⟩) 1 1, .slice (some ⟨b2, 0, none⟩) 1 1, undef, .agg (ints 26 (spl miB)), undef, undef, undef, undef, undef, undef, undef, undef, undef, undef, undef, undef, undef, undef, undef, undef, undef, undef, undef, undef, undef, undef, undef, undef, undef, undef, undef, undef, undef, undef]) W := by
    intro W b1 b2 b11 hS f1 f2 f11
    refine (hPR _ _ _ _).1 ?_
    refine wpAnyH_ready (rs := [3, 5]) (by kernel_rfl) (by simp) ?_
    refine AllReadyH.cons (o := _) rfl (fun K hK => ?_) (AllReadyH.cons (o := _) rfl (fun K hK => ?_) AllReadyH.nil)
    · rw [if_pos (by rfl)]
      go_simp
      refine hK.out _ _ (hS.alloc _) (fun hS1 => ?_)
      simp only [List.setIfInBounds_toArray, List.set_cons_succ, List.set_cons_zero]
      refine (hPR _ _ _ _).2 (g1_2_3_11 _ b1 b2 W.heap.size b11 hS1 (f1.alloc _) (f2.alloc _) (RowAt.new _ _ _) ⟨f11.1.alloc _, f11.2⟩)
    · rw [if_pos (by rfl)]
      go_simp
      refine Calls.mono (HS.out _) ?_
      rintro e Y ⟨rfl, hb8⟩
      refine hK.out _ _ (hS.step hb8) (fun hS1 => ?_)
      simp only [List.setIfInBounds_toArray, List.set_cons_succ, List.set_cons_zero]
      refine (hPR _ _ _ _).2 (g1_2_5_11 _ b1 b2 b11 hS1 (f1.below hb8 f1.lt) (f2.below hb8 f2.lt) ⟨f11.1.below hb8 f11.1.lt, f11.2⟩)
  have g1_3_5 : ∀ (W : World) (b1 : Nat) (b3 : Nat), K9 w W q1 q4 R1 → RowAt W b1 62 (whl (spl kw1) R1) → RowAt W b3 3 #[.int .i64 0] → PR 9 #[true, true, false, true, true, true, false, false, false, false, false, false, false, false] (#[.bool false, .pointer (some ⟨q1, 0, none⟩), .int .i64 0, .pointer (some ⟨q4, 0, none⟩), .int .i64 0, undef, undef, undef, undef, undef, .tuple #[.agg (whl (spl kw1) R1), .int .i64 0], .tuple #[.agg (whl (spl kw1) R1), .int .i64 0], .agg (whl (spl kw1) R1), .int .i64 0, .tuple #[.agg (ints 26 (spl miB)), .int .i64 0], .tuple #[.agg (ints 26 (spl miB)), .int .i64 0], .agg (ints 26 (spl miB)), .int .i64 0, undef, .agg (whl (spl kw1) R1), .slice (some ⟨b1, 0, none⟩) 1 1, undef, .slice (some ⟨b3, 0, none⟩) 1 1, .agg (ints 26 (spl miB)), .agg (ints 26 (Pm.up fun i => i)), undef, undef, undef, undef, undef, undef, undef, undef, undef, undef, undef, undef, undef, undef, undef, undef, undef, undef, undef, undef, undef, undef, undef, undef, undef, undef, undef, undef, undef]) W := by
    intro W b1 b3 hS f1 f3
    refine (hPR _ _ _ _).1 ?_
    refine wpAnyH_ready (rs := [2, 11]) (by kernel_rfl) (by simp) ?_
    refine AllReadyH.cons (o := _) rfl (fun K hK => ?_) (AllReadyH.cons (o := _) rfl (fun K hK => ?_) AllReadyH.nil)
    · rw [if_pos (by rfl)]
      go_simp
      refine hK.out _ _ (hS.alloc _) (fun hS1 => ?_)
      simp only [List.setIfInBounds_toArray, List.set_cons_succ, List.set_cons_zero]
      refine (hPR _ _ _ _).2 (g1_2_3_5 _ b1 W.heap.size b3 hS1 (f1.alloc _) (RowAt.new _ _ _) (f3.alloc _))
    · rw [if_pos (by rfl)]
      go_simp
      refine hK.out _ _ (hS.alloc _) (fun hS1 => ?_)
      simp only [List.setIfInBounds_toArray, List.set_cons_succ, List.set_cons_zero]
      refine (hPR _ _ _ _).2 (g1_3_5_11 _ b1 b3 W.heap.size hS1 (f1.alloc _) (f3.alloc _) ⟨RowAt.new _ _ _, hS.below.size⟩)
  have g1_3_11 : ∀ (W : World) (b1 : Nat) (b3 : Nat) (b11 : Nat), K9 w W q1 q4 R1 → RowAt W b1 62 (whl (spl kw1) R1) → RowAt W b3 3 #[.int .i64 0] → (RowAt W b11 28 (sl3 0 fun _ => .slice none 0 0) ∧ w.heap.size ≤ b11) → PR 9 #[true, true, false, true, true, false, false, false, false, false, false, true, false, false] (#[.bool false, .pointer (some ⟨q1, 0, none⟩), .int .i64 0, .pointer (some ⟨q4, 0, none⟩), .int .i64 0, .pointer (some ⟨b11, 0, none⟩), undef, undef, undef, undef, .tuple #[.agg (whl (spl kw1) R1), .int .i64 0], .tuple #[.agg (whl (spl kw1) R1), .int .i64 0], .agg (whl (spl kw1) R1), .int .i64 0, .tuple #[.agg (ints 26 (spl miB)), .int .i64 0], .tuple #[.agg (ints 26 (spl miB)), .int .i64 0], .agg (ints 26 (spl miB)), .int .i64 0, undef, .agg (whl (spl kw1) R1), .slice (some ⟨b1, 0, none⟩) 1 1, undef, .slice (some ⟨b3, 0, none⟩) 1 1, .agg (ints 26 (spl miB)), undef, undef, undef, undef, undef, undef, undef, undef, undef, undef, undef, undef, undef, undef, undef, undef, undef, undef, undef, undef, undef, undef, undef, undef, undef, undef, undef, undef, undef, undef]) W := by
    intro W b1 b3 b11 hS f1 f3 f11
    refine (hPR _ _ _ _).1 ?_
    refine wpAnyH_ready (rs := [2, 5]) (by kernel_rfl) (by simp) ?_
    refine AllReadyH.cons (o := _) rfl (fun K hK => ?_) (AllReadyH.cons (o := _) rfl (fun K hK => ?_) AllReadyH.nil)
    · rw [if_pos (by rfl)]
      go_simp
      refine hK.out _ _ (hS.alloc _) (fun hS1 => ?_)
      simp only [List.setIfInBounds_toArray, List.set_cons_succ, List.set_cons_zero]
      refine (hPR _ _ _ _).2 (g1_2_3_11 _ b1 W.heap.size b3 b11 hS1 (f1.alloc _) (RowAt.new _ _ _) (f3.alloc _) ⟨f11.1.alloc _, f11.2⟩)
    · rw [if_pos (by rfl)]
      go_simp
      refine Calls.mono (HS.out _) ?_
      rintro e Y ⟨rfl, hb8⟩
      refine hK.out _ _ (hS.step hb8) (fun hS1 => ?_)
      simp only [List.setIfInBounds_toArray, List.set_cons_succ, List.set_cons_zero]
      refine (hPR _ _ _ _).2 (g1_3_5_11 _ b1 b3 b11 hS1 (f1.below hb8 f1.lt) (f3.below hb8 f3.lt) ⟨f11.1.below hb8 f11.1.lt, f11.2⟩)
  have g1_5_11 : ∀ (W : World) (b1 : Nat) (b11 : Nat), K9 w W q1 q4 R1 → RowAt W b1 62 (whl (spl kw1) R1) → (RowAt W b11 28 (sl3 0 fun _ => .slice none 0 0) ∧ w.heap.size ≤ b11) → PR 9 #[true, true, false, false, true, true, false, false, false, false, false, true, false, false] (#[.bool false, .pointer (some ⟨q1, 0, none⟩), .int .i64 0, .pointer (some ⟨q4, 0, none⟩), .int .i64 0, .pointer (some ⟨b11, 0, none⟩), undef, undef, undef, undef, .tuple #[.agg (whl (spl kw1) R1), .int .i64 0], .tuple #[.agg (whl (spl kw1) R1), .int .i64 0], .agg (whl (spl kw1) R1), .int .i64 0, .tuple #[.agg (ints 26 (spl miB)), .int .i64 0], .tuple #[.agg (ints 26 (spl miB)), .int .i64 0], .agg (ints 26 (spl miB)), .int .i64 0, undef, .agg (whl (spl kw1) R1), .slice (some ⟨b1, 0, none⟩) 1 1, undef, undef, .agg (ints 26 (spl miB)), .agg (ints 26 (Pm.up fun i => i)), undef, undef, undef, undef, undef, undef, undef, undef, undef, undef, undef, undef, undef, undef, undef, undef, undef, undef, undef, undef, undef, undef, undef, undef, undef, undef, undef, undef, undef]) W := by
    intro W b1 b11 hS f1 f11
    refine (hPR _ _ _ _).1 ?_
    refine wpAnyH_ready (rs := [2, 3]) (by kernel_rfl) (by simp) ?_
    refine AllReadyH.cons (o := _) rfl (fun K hK => ?_) (AllReadyH.cons (o := _) rfl (fun K hK => ?_) AllReadyH.nil)
    · rw [if_pos (by rfl)]
      go_simp
      refine hK.out _ _ (hS.alloc _) (fun hS1 => ?_)
      simp only [List.setIfInBounds_toArray, List.set_cons_succ, List.set_cons_zero]
      refine (hPR _ _ _ _).2 (g1_2_5_11 _ b1 W.heap.size b11 hS1 (f1.alloc _) (RowAt.new _ _ _) ⟨f11.1.alloc _, f11.2⟩)
    · rw [if_pos (by rfl)]
      go_simp
      refine hK.out _ _ (hS.alloc _) (fun hS1 => ?_)
      simp only [List.setIfInBounds_toArray, List.set_cons_succ, List.set_cons_zero]
      refine (hPR _ _ _ _).2 (g1_3_5_11 _ b1 W.heap.size b11 hS1 (f1.alloc _) (RowAt.new _ _ _) ⟨f11.1.alloc _, f11.2⟩)
  have g2_3_5 : ∀ (W : World) (b2 : Nat) (b3 : Nat), K9 w W q1 q4 R1 → RowAt W b2 3 #[.int .i64 0] → RowAt W b3 3 #[.int .i64 0] → PR 9 #[true, false, true, true, true, true, false, false, false, false, false, false, false, false] (#[.bool false, .pointer (some ⟨q1, 0, none⟩), .int .i64 0, .pointer (some ⟨q4, 0, none⟩), .int .i64 0, undef, undef, undef, undef, undef, .tuple #[.agg (whl (spl kw1) R1), .int .i64 0], .tuple #[.agg (whl (spl kw1) R1), .int .i64 0], .agg (whl (spl kw1) R1), .int .i64 0, .tuple #[.agg (ints 26 (spl miB)), .int .i64 0], .tuple #[.agg (ints 26 (spl miB)), .int .i64 0], .agg (ints 26 (spl miB)), .int .i64 0, undef, .agg (whl (spl kw1) R1), undef, .slice (some ⟨b2, 0, none⟩) 1 1, .slice (some ⟨b3, 0, none⟩) 1 1, .agg (ints 26 (spl miB)), .agg (ints 26 (Pm.up fun i => i)), undef, undef, undef, undef, undef, undef, undef, undef, undef, undef, undef, undef, undef, undef, undef, undef, undef, undef, undef, undef, undef, undef, undef, undef, undef, undef, undef, undef, undef]) W := by
    intro W b2 b3 hS f2 f3
    refine (hPR _ _ _ _).1 ?_
    refine wpAnyH_ready (rs := [1, 11]) (by kernel_rfl) (by simp) ?_
    refine AllReadyH.cons (o := _) rfl (fun K hK => ?_) (AllReadyH.cons (o := _) rfl (fun K hK => ?_) AllReadyH.nil)
    · rw [if_pos (by rfl)]
      refine wp_build1c 22 62 _ rfl 27 (by decide) (by decide) (whl (fun _ => 0) (.slice none 0 0)) (whl (spl kw1) R1) rfl Try.underlying22 (whl_size _ _) (whl_size _ _) o_zs_whl ?_
      refine hK.out _ _ (hS.alloc _) (fun hS1 => ?_)
      simp only [List.getElem_toArray, List.getElem_cons_succ, List.getElem_cons_zero, Act.put, List.setIfInBounds_toArray, List.set_cons_succ, List.set_cons_zero]
      refine (hPR _ _ _ _).2 (g1_2_3_5 _ W.heap.size b2 b3 hS1 (RowAt.new _ _ _) (f2.alloc _) (f3.alloc _))
    · rw [if_pos (by rfl)]
      go_simp
      refine hK.out _ _ (hS.alloc _) (fun hS1 => ?_)
      simp only [List.setIfInBounds_toArray, List.set_cons_succ, List.set_cons_zero]
      refine (hPR _ _ _ _).2 (g2_3_5_11 _ b2 b3 W.heap.size hS1 (f2.alloc _) (f3.alloc _) ⟨RowAt.new _ _ _, hS.below.size⟩)
  have g2_3_11 : ∀ (W : World) (b2 : Nat) (b3 : Nat) (b11 : Nat), K9 w W q1 q4 R1 → RowAt W b2 3 #[.int .i64 0] → RowAt W b3 3 #[.int .i64 0] → (RowAt W b11 28 (sl3 0 fun _ => .slice none 0 0) ∧ w.heap.size ≤ b11) → PR 9 #[true, false, true, true, true, false, false, false, false, false, false, true, false, false] (#[.bool false, .pointer (some ⟨q1, 0, none⟩), .int .i64 0, .pointer (some ⟨q4, 0, none⟩), .int .i64 0, .pointer (some ⟨b11, 0, none⟩), undef, undef, undef, undef, .tuple #[.agg (whl (spl kw1) R1), .int .i64 0], .tuple #[.agg (whl (spl kw1) R1), .int .i64 0], .agg (whl (spl kw1) R1), .int .i64 0, .tuple #[.agg (ints 26 (spl miB)), .int .i64 0], .tuple #[.agg (ints 26 (spl miB)), .int .i64 0], .agg (ints 26 (spl miB)), .int .i64 0, undef, .agg (whl (spl kw1) R1), undef, .slice (some ⟨b2, 0, none⟩) 1 1, .slice (some ⟨b3, 0, none⟩) 1 1, .agg (ints 26 (spl miB)), undef, undef, undef, undef, undef, undef, undef, undef, undef, undef, undef, undef, undef, undef, undef, undef, undef, undef, undef, undef, undef, undef, undef, undef, undef, undef, undef, undef, undef, undef]) W := by
    intro W b2 b3 b11 hS f2 f3 f11
    refine (hPR _ _ _ _).1 ?_
    refine wpAnyH_ready (rs := [1, 5]) (by kernel_rfl) (by simp) ?_
    refine AllReadyH.cons (o := _) rfl (fun K hK => ?_) (AllReadyH.cons (o := _) rfl (fun K hK => ?_) AllReadyH.nil)
    · rw [if_pos (by rfl)]
      refine wp_build1c 22 62 _ rfl 27 (by decide) (by decide) (whl (fun _ => 0) (.slice none 0 0)) (whl (spl kw1) R1) rfl Try.underlying22 (whl_size _ _) (whl_size _ _) o_zs_whl ?_
      refine hK.out _ _ (hS.alloc _) (fun hS1 => ?_)
      simp only [List.getElem_toArray, List.getElem_cons_succ, List.getElem_cons_zero, Act.put, List.setIfInBounds_toArray, List.set_cons_succ, List.set_cons_zero]
      refine (hPR _ _ _ _).2 (g1_2_3_11 _ W.heap.size b2 b3 b11 hS1 (RowAt.new _ _ _) (f2.alloc _) (f3.alloc _) ⟨f11.1.alloc _, f11.2⟩)
    · rw [if_pos (by rfl)]
      go_simp
      refine Calls.mono (HS.out _) ?_
      rintro e Y ⟨rfl, hb8⟩
      refine hK.out _ _ (hS.step hb8) (fun hS1 => ?_)
      simp only [List.setIfInBounds_toArray, List.set_cons_succ, List.set_cons_zero]
      refine (hPR _ _ _ _).2 (g2_3_5_11 _ b2 b3 b11 hS1 (f2.below hb8 f2.lt) (f3.below hb8 f3.lt) ⟨f11.1.below hb8 f11.1.lt, f11.2⟩)
  have g2_5_11 : ∀ (W : World) (b2 : Nat) (b11 : Nat), K9 w W q1 q4 R1 → RowAt W b2 3 #[.int .i64 0] → (RowAt W b11 28 (sl3 0 fun _ => .slice none 0 0) ∧ w.heap.size ≤ b11) → PR 9 #[true, false, true, false, true, true, false, false, false, false, false, true, false, false] (#[.bool false, .pointer (some ⟨q1, 0, none⟩), .int .i64 0, .pointer (some ⟨q4, 0, none⟩), .int .i64 0, .pointer (some ⟨b11, 0, none⟩), undef, undef, undef, undef, .tuple #[.agg (whl (spl kw1) R1), .int .i64 0], .tuple #[.agg (whl (spl kw1) R1), .int .i64 0], .agg (whl (spl kw1) R1), .int .i64 0, .tuple #[.agg (ints 26 (spl miB)), .int .i64 0], .tuple #[.agg (ints 26 (spl miB)), .int .i64 0], .agg (ints 26 (spl miB)), .int .i64 0, undef, .agg (whl (spl kw1) R1), undef, .slice (some ⟨b2, 0, none⟩) 1 1, undef, .agg (ints 26 (spl miB)), .agg (ints 26 (Pm.up fun i => i)), undef, undef, undef, undef, undef, undef, undef, undef, undef, undef, undef, undef, undef, undef, undef, undef, undef, undef, undef, undef, undef, undef, undef, undef, undef, undef, undef, undef, undef]) W := by
    intro W b2 b11 hS f2 f11
    refine (hPR _ _ _ _).1 ?_
    refine wpAnyH_ready (rs := [1, 3]) (by kernel_rfl) (by simp) ?_
    refine AllReadyH.cons (o := _) rfl (fun K hK => ?_) (AllReadyH.cons (o := _) rfl (fun K hK => ?_) AllReadyH.nil)
    · rw [if_pos (by rfl)]
      refine wp_build1c 22 62 _ rfl 27 (by decide) (by decide) (whl (fun _ => 0) (.slice none 0 0)) (whl (spl kw1) R1) rfl Try.underlying22 (whl_size _ _) (whl_size _ _) o_zs_whl ?_
      refine hK.out _ _ (hS.alloc _) (fun hS1 => ?_)
      simp only [List.getElem_toArray, List.getElem_cons_succ, List.getElem_cons_zero, Act.put, List.setIfInBounds_toArray, List.set_cons_succ, List.set_cons_zero]
      refine (hPR _ _ _ _).2 (g1_2_5_11 _ W.heap.size b2 b11 hS1 (RowAt.new _ _ _) (f2.alloc _) ⟨f11.1.alloc _, f11.2⟩)
    · rw [if_pos (by rfl)]
      go_simp
      refine hK.out _ _ (hS.alloc _) (fun hS1 => ?_)
      simp only [List.setIfInBounds_toArray, List.set_cons_succ, List.set_cons_zero]
      refine (hPR _ _ _ _).2 (g2_3_5_11 _ b2 W.heap.size b11 hS1 (f2.alloc _) (RowAt.new _ _ _) ⟨f11.1.alloc _, f11.2⟩)
  have g3_5_11 : ∀ (W : World) (b3 : Nat) (b11 : Nat), K9 w W q1 q4 R1 → RowAt W b3 3 #[.int .i64 0] → (RowAt W b11 28 (sl3 0 fun _ => .slice none 0 0) ∧ w.heap.size ≤ b11) → PR 9 #[true, false, false, true, true, true, false, false, false, false, false, true, false, false] (#[.bool false, .pointer (some ⟨q1, 0, none⟩), .int .i64 0, .pointer (some ⟨q4, 0, none⟩), .int .i64 0, .pointer (some ⟨b11, 0, none⟩), undef, undef, undef, undef, .tuple #[.agg (whl (spl kw1) R1), .int .i64 0], .tuple #[.agg (whl (spl kw1) R1), .int .i64 0], .agg (whl (spl kw1) R1), .int .i64 0, .tuple #[.agg (ints 26 (spl miB)), .int .i64 0], .tuple #[.agg (ints 26 (spl miB)), .int .i64 0], .agg (ints 26 (spl miB)), .int .i64 0, undef, .agg (whl (spl kw1) R1), undef, undef, .slice (some ⟨b3, 0, none⟩) 1 1, .agg (ints 26 (spl miB)), .agg (ints 26 (Pm.up fun i => i)), undef, undef, undef, undef, undef, undef, undef, undef, undef, undef, undef, undef, undef, undef, undef, undef, undef, undef, undef, undef, undef, undef, undef, undef, undef, undef, undef, undef, undef]) W := by
    intro W b3 b11 hS f3 f11
    refine (hPR _ _ _ _).1 ?_
    refine wpAnyH_ready (rs := [1, 2]) (by kernel_rfl) (by simp) ?_
    refine AllReadyH.cons (o := _) rfl (fun K hK => ?_) (AllReadyH.cons (o := _) rfl (fun K hK => ?_) AllReadyH.nil)
    · rw [if_pos (by rfl)]
      refine wp_build1c 22 62 _ rfl 27 (by decide) (by decide) (whl (fun _ => 0) (.slice none 0 0)) (whl (spl kw1) R1) rfl Try.underlying22 (whl_size _ _) (whl_size _ _) o_zs_whl ?_
      refine hK.out _ _ (hS.alloc _) (fun hS1 => ?_)
      simp only [List.getElem_toArray, List.getElem_cons_succ, List.getElem_cons_zero, Act.put, List.setIfInBounds_toArray, List.set_cons_succ, List.set_cons_zero]
      refine (hPR _ _ _ _).2 (g1_3_5_11 _ W.heap.size b3 b11 hS1 (RowAt.new _ _ _) (f3.alloc _) ⟨f11.1.alloc _, f11.2⟩)
    · rw [if_pos (by rfl)]
      go_simp
      refine hK.out _ _ (hS.alloc _) (fun hS1 => ?_)
      simp only [List.setIfInBounds_toArray, List.set_cons_succ, List.set_cons_zero]
      refine (hPR _ _ _ _).2 (g2_3_5_11 _ W.heap.size b3 b11 hS1 (RowAt.new _ _ _) (f3.alloc _) ⟨f11.1.alloc _, f11.2⟩)
  have g1_2 : ∀ (W : World) (b1 : Nat) (b2 : Nat), K9 w W q1 q4 R1 → RowAt W b1 62 (whl (spl kw1) R1) → RowAt W b2 3 #[.int .i64 0] → PR 10 #[true, true, true, false, true, false, false, false, false, false, false, false, false, false] (#[.bool false, .pointer (some ⟨q1, 0, none⟩), .int .i64 0, .pointer (some ⟨q4, 0, none⟩), .int .i64 0, undef, undef, undef, undef, undef, .tuple #[.agg (whl (spl kw1) R1), .int .i64 0], .tuple #[.agg (whl (spl kw1) R1), .int .i64 0], .agg (whl (spl kw1) R1), .int .i64 0, .tuple #[.agg (ints 26 (spl miB)), .int .i64 0], .tuple #[.agg (ints 26 (spl miB)), .int .i64 0], .agg (ints 26 (spl miB)), .int .i64 0, undef, .agg (whl (spl kw1) R1), .slice (some ⟨b1, 0, none⟩) 1 1, .slice (some ⟨b2, 0, none⟩) 1 1, undef, .agg (ints 26 (spl miB)), undef, undef, undef, undef, undef, undef, undef, undef, undef, undef, undef, undef, undef, undef, undef, undef, undef, undef, undef, undef, undef, undef, undef, undef, undef, undef, undef, undef, undef, undef]) W := by
    intro W b1 b2 hS f1 f2
    refine (hPR _ _ _ _).1 ?_
    refine wpAnyH_ready (rs := [3, 5, 11]) (by kernel_rfl) (by simp) ?_
    refine AllReadyH.cons (o := _) rfl (fun K hK => ?_) (AllReadyH.cons (o := _) rfl (fun K hK => ?_) (AllReadyH.cons (o := _) rfl (fun K hK => ?_) AllReadyH.nil))
    · rw [if_pos (by rfl)]
      go_simp
      refine hK.out _ _ (hS.alloc _) (fun hS1 => ?_)
      simp only [List.setIfInBounds_toArray, List.set_cons_succ, List.set_cons_zero]
      refine (hPR _ _ _ _).2 (g1_2_3 _ b1 b2 W.heap.size hS1 (f1.alloc _) (f2.alloc _) (RowAt.new _ _ _))
    · rw [if_pos (by rfl)]
      go_simp
      refine Calls.mono (HS.out _) ?_
      rintro e Y ⟨rfl, hb8⟩
      refine hK.out _ _ (hS.step hb8) (fun hS1 => ?_)
      simp only [List.setIfInBounds_toArray, List.set_cons_succ, List.set_cons_zero]
      refine (hPR _ _ _ _).2 (g1_2_5 _ b1 b2 hS1 (f1.below hb8 f1.lt) (f2.below hb8 f2.lt))
    · rw [if_pos (by rfl)]
      go_simp
      refine hK.out _ _ (hS.alloc _) (fun hS1 => ?_)
      simp only [List.setIfInBounds_toArray, List.set_cons_succ, List.set_cons_zero]
      refine (hPR _ _ _ _).2 (g1_2_11 _ b1 b2 W.heap.size hS1 (f1.alloc _) (f2.alloc _) ⟨RowAt.new _ _ _, hS.below.size⟩)
  have g1_3 : ∀ (W : World) (b1 : Nat) (b3 : Nat), K9 w W q1 q4 R1 → RowAt W b1 62 (whl (spl kw1) R1) → RowAt W b3 3 #[.int .i64 0] → PR 10 #[true, true, false, true, true, false, false, false, false, false, false, false, false, false] (#[.bool false, .pointer (some ⟨q1, 0, none⟩), .int .i64 0, .pointer (some ⟨q4, 0, none⟩), .int .i64 0, undef, undef, undef, undef, undef, .tuple #[.agg (whl (spl kw1) R1), .int .i64 0], .tuple #[.agg (whl (spl kw1) R1), .int .i64 0], .agg (whl (spl kw1) R1), .int .i64 0, .tuple #[.agg (ints 26 (spl miB)), .int .i64 0], .tuple #[.agg (ints 26 (spl miB)), .int .i64 0], .agg (ints 26 (spl miB)), .int .i64 0, undef, .agg (whl (spl kw1) R1), .slice (some ⟨b1, 0, none⟩) 1 1, undef, .slice (some ⟨b3, 0, none⟩) 1 1, .agg (ints 26 (spl miB)), undef, undef, undef, undef, undef, undef, undef, undef, undef, undef, undef, undef, undef, undef, undef, undef, undef, undef, undef, undef, undef, undef, undef, undef, undef, undef, undef, undef, undef, undef]) W := by
    intro W b1 b3 hS f1 f3
    refine (hPR _ _ _ _).1 ?_
    refine wpAnyH_ready (rs := [2, 5, 11]) (by kernel_rfl) (by simp) ?_
    refine AllReadyH.cons (o := _) rfl (fun K hK => ?_) (AllReadyH.cons (o := _) rfl (fun K hK => ?_) (AllReadyH.cons (o := _) rfl (fun K hK => ?_) AllReadyH.nil))
    · rw [if_pos (by rfl)]
      go_simp
      refine hK.out _ _ (hS.alloc _) (fun hS1 => ?_)
      simp only [List.setIfInBounds_toArray, List.set_cons_succ, List.set_cons_zero]
      refine (hPR _ _ _ _).2 (g1_2_3 _ b1 W.heap.size b3 hS1 (f1.alloc _) (RowAt.new _ _ _) (f3.alloc _))
    · rw [if_pos (by rfl)]
      go_simp
      refine Calls.mono (HS.out _) ?_
      rintro e Y ⟨rfl, hb8⟩
      refine hK.out _ _ (hS.step hb8) (fun hS1 => ?_)
      simp only [List.setIfInBounds_toArray, List.set_cons_succ, List.set_cons_zero]
      refine (hPR _ _ _ _).2 (g1_3_5 _ b1 b3 hS1 (f1.below hb8 f1.lt) (f3.below hb8 f3.lt))
    · rw [if_pos (by rfl)]
      go_simp
      refine hK.out _ _ (hS.alloc _) (fun hS1 => ?_)
      simp only [List.setIfInBounds_toArray, List.set_cons_succ, List.set_cons_zero]
      refine (hPR _ _ _ _).2 (g1_3_11 _ b1 b3 W.heap.size hS1 (f1.alloc _) (f3.alloc _) ⟨RowAt.new _ _ _, hS.below.size⟩)
  have g1_5 : ∀ (W : World) (b1 : Nat), K9 w W q1 q4 R1 → RowAt W b1 62 (whl (spl kw1) R1) → PR 10 #[true, true, false, false, true, true, false, false, false, false, false, false, false, false] (#[.bool false, .pointer (some ⟨q1, 0, none⟩), .int .i64 0, .pointer (some ⟨q4, 0, none⟩), .int .i64 0, undef, undef, undef, undef, undef, .tuple #[.agg (whl (spl kw1) R1), .int .i64 0], .tuple #[.agg (whl (spl kw1) R1), .int .i64 0], .agg (whl (spl kw1) R1), .int .i64 0, .tuple #[.agg (ints 26 (spl miB)), .int .i64 0], .tuple #[.agg (ints 26 (spl miB)), .int .i64 0], .agg (ints 26 (spl miB)), .int .i64 0, undef, .agg (whl (spl kw1) R1), .slice (some ⟨b1, 0, none⟩) 1 1, undef, undef, .agg (ints 26 (spl miB)), .agg (ints 26 (Pm.up fun i => i)), undef, undef, undef, undef, undef, undef, undef, undef, undef, undef, undef, undef, undef, undef, undef, undef, undef, undef, undef, undef, undef, undef, undef, undef, undef, undef, undef, undef, undef]) W := by
    intro W b1 hS f1
    refine (hPR _ _ _ _).1 ?_
    refine wpAnyH_ready (rs := [2, 3, 11]) (by kernel_rfl) (by simp) ?_
    refine AllReadyH.cons (o := _) rfl (fun K hK => ?_) (AllReadyH.cons (o := _) rfl (fun K hK => ?_) (AllReadyH.cons (o := _) rfl (fun K hK => ?_) AllReadyH.nil))
    · rw [if_pos (by rfl)]
      go_simp
      refine hK.out _ _ (hS.alloc _) (fun hS1 => ?_)
      simp only [List.setIfInBounds_toArray, List.set_cons_succ, List.set_cons_zero]
      refine (hPR _ _ _ _).2 (g1_2_5 _ b1 W.heap.size hS1 (f1.alloc _) (RowAt.new _ _ _))
    · rw [if_pos (by rfl)]
      go_simp
      refine hK.out _ _ (hS.alloc _) (fun hS1 => ?_)
      simp only [List.setIfInBounds_toArray, List.set_cons_succ, List.set_cons_zero]
      refine (hPR _ _ _ _).2 (g1_3_5 _ b1 W.heap.size hS1 (f1.alloc _) (RowAt.new _ _ _))
    · rw [if_pos (by rfl)]
      go_simp
      refine hK.out _ _ (hS.alloc _) (fun hS1 => ?_)
      simp only [List.setIfInBounds_toArray, List.set_cons_succ, List.set_cons_zero]
      refine (hPR _ _ _ _).2 (g1_5_11 _ b1 W.heap.size hS1 (f1.alloc _) ⟨RowAt.new _ _ _, hS.below.size⟩)
  have g1_11 : ∀ (W : World) (b1 : Nat) (b11 : Nat), K9 w W q1 q4 R1 → RowAt W b1 62 (whl (spl kw1) R1) → (RowAt W b11 28 (sl3 0 fun _ => .slice none 0 0) ∧ w.heap.size ≤ b11) → PR 10 #[true, true, false, false, true, false, false, false, false, false, false, true, false, false] (#[.bool false, .pointer (some ⟨q1, 0, none⟩), .int .i64 0, .pointer (some ⟨q4, 0, none⟩), .int .i64 0, .pointer (some ⟨b11, 0, none⟩), undef, undef, undef, undef, .tuple #[.agg (whl (spl kw1) R1), .int .i64 0], .tuple #[.agg (whl (spl kw1) R1), .int .i64 0], .agg (whl (spl kw1) R1), .int .i64 0, .tuple #[.agg (ints 26 (spl miB)), .int .i64 0], .tuple #[.agg (ints 26 (spl miB)), .int .i64 0], .agg (ints 26 (spl miB)), .int .i64 0, undef, .agg (whl (spl kw1) R1), .slice (some ⟨b1, 0, none⟩) 1 1, undef, undef, .agg (ints 26 (spl miB)), undef, undef, undef, undef, undef, undef, undef, undef, undef, undef, undef, undef, undef, undef, undef, undef, undef, undef, undef, undef, undef, undef, undef, undef, undef, undef, undef, undef, undef, undef]) W := by
    intro W b1 b11 hS f1 f11
    refine (hPR _ _ _ _).1 ?_
    refine wpAnyH_ready (rs := [2, 3, 5]) (by kernel_rfl) (by simp) ?_
    refine AllReadyH.cons (o := _) rfl (fun K hK => ?_) (AllReadyH.cons (o := _) rfl (fun K hK => ?_) (AllReadyH.cons (o := _) rfl (fun K hK => ?_) AllReadyH.nil))
    · rw [if_pos (by rfl)]
      go_simp
      refine hK.out _ _ (hS.alloc _) (fun hS1 => ?_)
      simp only [List.setIfInBounds_toArray, List.set_cons_succ, List.set_cons_zero]
      refine (hPR _ _ _ _).2 (g1_2_11 _ b1 W.heap.size b11 hS1 (f1.alloc _) (RowAt.new _ _ _) ⟨f11.1.alloc _, f11.2⟩)
    · rw [if_pos (by rfl)]
      go_simp
      refine hK.out _ _ (hS.alloc _) (fun hS1 => ?_)
      simp only [List.setIfInBounds_toArray, List.set_cons_succ, List.set_cons_zero]
      refine (hPR _ _ _ _).2 (g1_3_11 _ b1 W.heap.size b11 hS1 (f1.alloc _) (RowAt.new _ _ _) ⟨f11.1.alloc _, f11.2⟩)
    · rw [if_pos (by rfl)]
      go_simp
      refine Calls.mono (HS.out _) ?_
      rintro e Y ⟨rfl, hb8⟩
      refine hK.out _ _ (hS.step hb8) (fun hS1 => ?_)
      simp only [List.setIfInBounds_toArray, List.set_cons_succ, List.set_cons_zero]
      refine (hPR _ _ _ _).2 (g1_5_11 _ b1 b11 hS1 (f1.below hb8 f1.lt) ⟨f11.1.below hb8 f11.1.lt, f11.2⟩)
  have g2_3 : ∀ (W : World) (b2 : Nat) (b3 : Nat), K9 w W q1 q4 R1 → RowAt W b2 3 #[.int .i64 0] → RowAt W b3 3 #[.int .i64 0] → PR 10 #[true, false, true, true, true, false, false, false, false, false, false, false, false, false] (#[.bool false, .pointer (some ⟨q1, 0, none⟩), .int .i64 0, .pointer (some ⟨q4, 0, none⟩), .int .i64 0, undef, undef, undef, undef, undef, .tuple #[.agg (whl (spl kw1) R1), .int .i64 0], .tuple #[.agg (whl (spl kw1) R1), .int .i64 0], .agg (whl (spl kw1) R1), .int .i64 0, .tuple #[.agg (ints 26 (spl miB)), .int .i64 0], .tuple #[.agg (ints 26 (spl miB)), .int .i64 0], .agg (ints 26 (spl miB)), .int .i64 0, undef, .agg (whl (spl kw1) R1), undef, .slice (some ⟨b2, 0, none⟩) 1 1, .slice (some ⟨b3, 0, none⟩) 1 1, .agg (ints 26 (spl miB)), undef, undef, undef, undef, undef, undef, undef, undef, undef, undef, undef, undef, undef, undef, undef, undef, undef, undef, undef, undef, undef, undef, undef, undef, undef, undef, undef, undef, undef, undef]) W := by
    intro W b2 b3 hS f2 f3
    refine (hPR _ _ _ _).1 ?_
    refine wpAnyH_ready (rs := [1, 5, 11]) (by kernel_rfl) (by simp) ?_
    refine AllReadyH.cons (o := _) rfl (fun K hK => ?_) (AllReadyH.cons (o := _) rfl (fun K hK => ?_) (AllReadyH.cons (o := _) rfl (fun K hK => ?_) AllReadyH.nil))
    · rw [if_pos (by rfl)]
      refine wp_build1c 22 62 _ rfl 27 (by decide) (by decide) (whl (fun _ => 0) (.slice none 0 0)) (whl (spl kw1) R1) rfl Try.underlying22 (whl_size _ _) (whl_size _ _) o_zs_whl ?_
      refine hK.out _ _ (hS.alloc _) (fun hS1 => ?_)
      simp only [List.getElem_toArray, List.getElem_cons_succ, List.getElem_cons_zero, Act.put, List.setIfInBounds_toArray, List.set_cons_succ, List.set_cons_zero]
      refine (hPR _ _ _ _).2 (g1_2_3 _ W.heap.size b2 b3 hS1 (RowAt.new _ _ _) (f2.alloc _) (f3.alloc _))
    · rw [if_pos (by rfl)]
      go_simp
      refine Calls.mono (HS.out _) ?_
      rintro e Y ⟨rfl, hb8⟩
      refine hK.out _ _ (hS.step hb8) (fun hS1 => ?_)
      simp only [List.setIfInBounds_toArray, List.set_cons_succ, List.set_cons_zero]
      refine (hPR _ _ _ _).2 (g2_3_5 _ b2 b3 hS1 (f2.below hb8 f2.lt) (f3.below hb8 f3.lt))
    · rw [if_pos (by rfl)]
      go_simp
      refine hK.out _ _ (hS.alloc _) (fun hS1 => ?_)
      simp only [List.setIfInBounds_toArray, List.set_cons_succ, List.set_cons_zero]
      refine (hPR _ _ _ _).2 (g2_3_11 _ b2 b3 W.heap.size hS1 (f2.alloc _) (f3.alloc _) ⟨RowAt.new _ _ _, hS.below.size⟩)
  have g2_5 : ∀ (W : World) (b2 : Nat), K9 w W q1 q4 R1 → RowAt W b2 3 #[.int .i64 0] → PR 10 #[true, false, true, false, true, true, false, false, false, false, false, false, false, false] (#[.bool false, .pointer (some ⟨q1, 0, none⟩), .int .i64 0, .pointer (some ⟨q4, 0, none⟩), .int .i64 0, undef, undef, undef, undef, undef, .tuple #[.agg (whl (spl kw1) R1), .int .i64 0], .tuple #[.agg (whl (spl kw1) R1), .int .i64 0], .agg (whl (spl kw1) R1), .int .i64 0, .tuple #[.agg (ints 26 (spl miB)), .int .i64 0], .tuple #[.agg (ints 26 (spl miB)), .int .i64 0], .agg (ints 26 (spl miB)), .int .i64 0, undef, .agg (whl (spl kw1) R1), undef, .slice (some ⟨b2, 0, none⟩) 1 1, undef, .agg (ints 26 (spl miB)), .agg (ints 26 (Pm.up fun i => i)), undef, undef, undef, undef, undef, undef, undef, undef, undef, undef, undef, undef, undef, undef, undef, undef, undef, undef, undef, undef, undef, undef, undef, undef, undef, undef, undef, undef, undef]) W := by
    intro W b2 hS f2
    refine (hPR _ _ _ _).1 ?_
    refine wpAnyH_ready (rs := [1, 3, 11]) (by kernel_rfl) (by simp) ?_
    refine AllReadyH.cons (o := _) rfl (fun K hK => ?_) (AllReadyH.cons (o := _) rfl (fun K hK => ?_) (AllReadyH.cons (o := _) rfl (fun K hK => ?_) AllReadyH.nil))
    · rw [if_pos (by rfl)]
      refine wp_build1c 22 62 _ rfl 27 (by decide) (by decide) (whl (fun _ => 0) (.slice none 0 0)) (whl (spl kw1) R1) rfl Try.underlying22 (whl_size _ _) (whl_size _ _) o_zs_whl ?_
      refine hK.out _ _ (hS.alloc _) (fun hS1 => ?_)
      simp only [List.getElem_toArray, List.getElem_cons_succ, List.getElem_cons_zero, Act.put, List.setIfInBounds_toArray, List.set_cons_succ, List.set_cons_zero]
      refine (hPR _ _ _ _).2 (g1_2_5 _ W.heap.size b2 hS1 (RowAt.new _ _ _) (f2.alloc _))
    · rw [if_pos (by rfl)]
      go_simp
      refine hK.out _ _ (hS.alloc _) (fun hS1 => ?_)
      simp only [List.setIfInBounds_toArray, List.set_cons_succ, List.set_cons_zero]
      refine (hPR _ _ _ _).2 (g2_3_5 _ b2 W.heap.size hS1 (f2.alloc _) (RowAt.new _ _ _))
    · rw [if_pos (by rfl)]
      go_simp
      refine hK.out _ _ (hS.alloc _) (fun hS1 => ?_)
      simp only [List.setIfInBounds_toArray, List.set_cons_succ, List.set_cons_zero]
      refine (hPR _ _ _ _).2 (g2_5_11 _ b2 W.heap.size hS1 (f2.alloc _) ⟨RowAt.new _ _ _, hS.below.size⟩)
  have g2_11 : ∀ (W : World) (b2 : Nat) (b11 : Nat), K9 w W q1 q4 R1 → RowAt W b2 3 #[.int .i64 0] → (RowAt W b11 28 (sl3 0 fun _ => .slice none 0 0) ∧ w.heap.size ≤ b11) → PR 10 #[true, false, true, false, true, false, false, false, false, false, false, true, false, false] (#[.bool false, .pointer (some ⟨q1, 0, none⟩), .int .i64 0, .pointer (some ⟨q4, 0, none⟩), .int .i64 0, .pointer (some ⟨b11, 0, none⟩), undef, undef, undef, undef, .tuple #[.agg (whl (spl kw1) R1), .int .i64 0], .tuple #[.agg (whl (spl kw1) R1), .int .i64 0], .agg (whl (spl kw1) R1), .int .i64 0, .tuple #[.agg (ints 26 (spl miB)), .int .i64 0], .tuple #[.agg (ints 26 (spl miB)), .int .i64 0], .agg (ints 26 (spl miB)), .int .i64 0, undef, .agg (whl (spl kw1) R1), undef, .slice (some ⟨b2, 0, none⟩) 1 1, undef, .agg (ints 26 (spl miB)), undef, undef, undef, undef, undef, undef, undef, undef, undef, undef, undef, undef, undef, undef, undef, undef, undef, undef, undef, undef, undef, undef, undef, undef, undef, undef, undef, undef, undef, undef]) W := by
    intro W b2 b11 hS f2 f11
    refine (hPR _ _ _ _).1 ?_
    refine wpAnyH_ready (rs := [1, 3, 5]) (by kernel_rfl) (by simp) ?_
    refine AllReadyH.cons (o := _) rfl (fun K hK => ?_) (AllReadyH.cons (o := _) rfl (fun K hK => ?_) (AllReadyH.cons (o := _) rfl (fun K hK => ?_) AllReadyH.nil))
    · rw [if_pos (by rfl)]
      refine wp_build1c 22 62 _ rfl 27 (by decide) (by decide) (whl (fun _ => 0) (.slice none 0 0)) (whl (spl kw1) R1) rfl Try.underlying22 (whl_size _ _) (whl_size _ _) o_zs_whl ?_
      refine hK.out _ _ (hS.alloc _) (fun hS1 => ?_)
      simp only [List.getElem_toArray, List.getElem_cons_succ, List.getElem_cons_zero, Act.put, List.setIfInBounds_toArray, List.set_cons_succ, List.set_cons_zero]
      refine (hPR _ _ _ _).2 (g1_2_11 _ W.heap.size b2 b11 hS1 (RowAt.new _ _ _) (f2.alloc _) ⟨f11.1.alloc _, f11.2⟩)
    · rw [if_pos (by rfl)]
      go_simp
      refine hK.out _ _ (hS.alloc _) (fun hS1 => ?_)
      simp only [List.setIfInBounds_toArray, List.set_cons_succ, List.set_cons_zero]
      refine (hPR _ _ _ _).2 (g2_3_11 _ b2 W.heap.size b11 hS1 (f2.alloc _) (RowAt.new _ _ _) ⟨f11.1.alloc _, f11.2⟩)
    · rw [if_pos (by rfl)]
      go_simp
      refine Calls.mono (HS.out _) ?_
      rintro e Y ⟨rfl, hb8⟩
      refine hK.out _ _ (hS.step hb8) (fun hS1 => ?_)
      simp only [List.setIfInBounds_toArray, List.set_cons_succ, List.set_cons_zero]
      refine (hPR _ _ _ _).2 (g2_5_11 _ b2 b11 hS1 (f2.below hb8 f2.lt) ⟨f11.1.below hb8 f11.1.lt, f11.2⟩)
  have g3_5 : ∀ (W : World) (b3 : Nat), K9 w W q1 q4 R1 → RowAt W b3 3 #[.int .i64 0] → PR 10 #[true, false, false, true, true, true, false, false, false, false, false, false, false, false] (#[.bool false, .pointer (some ⟨q1, 0, none⟩), .int .i64 0, .pointer (some ⟨q4, 0, none⟩), .int .i64 0, undef, undef, undef, undef, undef, .tuple #[.agg (whl (spl kw1) R1), .int .i64 0], .tuple #[.agg (whl (spl kw1) R1), .int .i64 0], .agg (whl (spl kw1) R1), .int .i64 0, .tuple #[.agg (ints 26 (spl miB)), .int .i64 0], .tuple #[.agg (ints 26 (spl miB)), .int .i64 0], .agg (ints 26 (spl miB)), .int .i64 0, undef, .agg (whl (spl kw1) R1), undef, undef, .slice (some ⟨b3, 0, none⟩) 1 1, .agg (ints 26 (spl miB)), .agg (ints 26 (Pm.up fun i => i)), undef, undef, undef, undef, undef, undef, undef, undef, undef, undef, undef, undef, undef, undef, undef, undef, undef, undef, undef, undef, undef, undef, undef, undef, undef, undef, undef, undef, undef]) W := by
    intro W b3 hS f3
    refine (hPR _ _ _ _).1 ?_
    refine wpAnyH_ready (rs := [1, 2, 11]) (by kernel_rfl) (by simp) ?_
    refine AllReadyH.cons (o := _) rfl (fun K hK => ?_) (AllReadyH.cons (o := _) rfl (fun K hK => ?_) (AllReadyH.cons (o := _) rfl (fun K hK => ?_) AllReadyH.nil))
    · rw [if_pos (by rfl)]
      refine wp_build1c 22 62 _ rfl 27 (by decide) (by decide) (whl (fun _ => 0) (.slice none 0 0)) (whl (spl kw1) R1) rfl Try.underlying22 (whl_size _ _) (whl_size _ _) o_zs_whl ?_
      refine hK.out _ _ (hS.alloc _) (fun hS1 => ?_)
      simp only [List.getElem_toArray, List.getElem_cons_succ, List.getElem_cons_zero, Act.put, List.setIfInBounds_toArray, List.set_cons_succ, List.set_cons_zero]
      refine (hPR _ _ _ _).2 (g1_3_5 _ W.heap.size b3 hS1 (RowAt.new _ _ _) (f3.alloc _))
    · rw [if_pos (by rfl)]
      go_simp
      refine hK.out _ _ (hS.alloc _) (fun hS1 => ?_)
      simp only [List.setIfInBounds_toArray, List.set_cons_succ, List.set_cons_zero]
      refine (hPR _ _ _ _).2 (g2_3_5 _ W.heap.size b3 hS1 (RowAt.new _ _ _) (f3.alloc _))
    · rw [if_pos (by rfl)]
      go_simp
      refine hK.out _ _ (hS.alloc _) (fun hS1 => ?_)
      simp only [List.setIfInBounds_toArray, List.set_cons_succ, List.set_cons_zero]
      refine (hPR _ _ _ _).2 (g3_5_11 _ b3 W.heap.size hS1 (f3.alloc _) ⟨RowAt.new _ _ _, hS.below.size⟩)
  have g3_11 : ∀ (W : World) (b3 : Nat) (b11 : Nat), K9 w W q1 q4 R1 → RowAt W b3 3 #[.int .i64 0] → (RowAt W b11 28 (sl3 0 fun _ => .slice none 0 0) ∧ w.heap.size ≤ b11) → PR 10 #[true, false, false, true, true, false, false, false, false, false, false, true, false, false] (#[.bool false, .pointer (some ⟨q1, 0, none⟩), .int .i64 0, .pointer (some ⟨q4, 0, none⟩), .int .i64 0, .pointer (some ⟨b11, 0, none⟩), undef, undef, undef, undef, .tuple #[.agg (whl (spl kw1) R1), .int .i64 0], .tuple #[.agg (whl (spl kw1) R1), .int .i64 0], .agg (whl (spl kw1) R1), .int .i64 0, .tuple #[.agg (ints 26 (spl miB)), .int .i64 0], .tuple #[.agg (ints 26 (spl miB)), .int .i64 0], .agg (ints 26 (spl miB)), .int .i64 0, undef, .agg (whl (spl kw1) R1), undef, undef, .slice (some ⟨b3, 0, none⟩) 1 1, .agg (ints 26 (spl miB)), undef, undef, undef, undef, undef, undef, undef, undef, undef, undef, undef, undef, undef, undef, undef, undef, undef, undef, undef, undef, undef, undef, undef, undef, undef, undef, undef, undef, undef, undef]) W := by
    intro W b3 b11 hS f3 f11
    refine (hPR _ _ _ _).1 ?_
    refine wpAnyH_ready (rs := [1, 2, 5]) (by kernel_rfl) (by simp) ?_
    refine AllReadyH.cons (o := _) rfl (fun K hK => ?_) (AllReadyH.cons (o := _) rfl (fun K hK => ?_) (AllReadyH.cons (o := _) rfl (fun K hK => ?_) AllReadyH.nil))
    · rw [if_pos (by rfl)]
      refine wp_build1c 22 62 _ rfl 27 (by decide) (by decide) (whl (fun _ => 0) (.slice none 0 0)) (whl (spl kw1) R1) rfl Try.underlying22 (whl_size _ _) (whl_size _ _) o_zs_whl ?_
      refine hK.out _ _ (hS.alloc _) (fun hS1 => ?_)
      simp only [List.getElem_toArray, List.getElem_cons_succ, List.getElem_cons_zero, Act.put, List.setIfInBounds_toArray, List.set_cons_succ, List.set_cons_zero]
      refine (hPR _ _ _ _).2 (g1_3_11 _ W.heap.size b3 b11 hS1 (RowAt.new _ _ _) (f3.alloc _) ⟨f11.1.alloc _, f11.2⟩)
    · rw [if_pos (by rfl)]
      go_simp
      refine hK.out _ _ (hS.alloc _) (fun hS1 => ?_)
      simp only [List.setIfInBounds_toArray, List.set_cons_succ, List.set_cons_zero]
      refine (hPR _ _ _ _).2 (g2_3_11 _ W.heap.size b3 b11 hS1 (RowAt.new _ _ _) (f3.alloc _) ⟨f11.1.alloc _, f11.2⟩)
    · rw [if_pos (by rfl)]
      go_simp
      refine Calls.mono (HS.out _) ?_
      rintro e Y ⟨rfl, hb8⟩
      refine hK.out _ _ (hS.step hb8) (fun hS1 => ?_)
      simp only [List.setIfInBounds_toArray, List.set_cons_succ, List.set_cons_zero]
      refine (hPR _ _ _ _).2 (g3_5_11 _ b3 b11 hS1 (f3.below hb8 f3.lt) ⟨f11.1.below hb8 f11.1.lt, f11.2⟩)
  have g5_11 : ∀ (W : World) (b11 : Nat), K9 w W q1 q4 R1 → (RowAt W b11 28 (sl3 0 fun _ => .slice none 0 0) ∧ w.heap.size ≤ b11) → PR 10 #[true, false, false, false, true, true, false, false, false, false, false, true, false, false] (#[.bool false, .pointer (some ⟨q1, 0, none⟩), .int .i64 0, .pointer (some ⟨q4, 0, none⟩), .int .i64 0, .pointer (some ⟨b11, 0, none⟩), undef, undef, undef, undef, .tuple #[.agg (whl (spl kw1) R1), .int .i64 0], .tuple #[.agg (whl (spl kw1) R1), .int .i64 0], .agg (whl (spl kw1) R1), .int .i64 0, .tuple #[.agg (ints 26 (spl miB)), .int .i64 0], .tuple #[.agg (ints 26 (spl miB)), .int .i64 0], .agg (ints 26 (spl miB)), .int .i64 0, undef, .agg (whl (spl kw1) R1), undef, undef, undef, .agg (ints 26 (spl miB)), .agg (ints 26 (Pm.up fun i => i)), undef, undef, undef, undef, undef, undef, undef, undef, undef, undef, undef, undef, undef, undef, undef, undef, undef, undef, undef, undef, undef, undef, undef, undef, undef, undef, undef, undef, undef]) W := by
    intro W b11 hS f11
    refine (hPR _ _ _ _).1 ?_
    refine wpAnyH_ready (rs := [1, 2, 3]) (by kernel_rfl) (by simp) ?_
    refine AllReadyH.cons (o := _) rfl (fun K hK => ?_) (AllReadyH.cons (o := _) rfl (fun K hK => ?_) (AllReadyH.cons (o := _) rfl (fun K hK => ?_) AllReadyH.nil))
    · rw [if_pos (by rfl)]
      refine wp_build1c 22 62 _ rfl 27 (by decide) (by decide) (whl (fun _ => 0) (.slice none 0 0)) (whl (spl kw1) R1) rfl Try.underlying22 (whl_size _ _) (whl_size _ _) o_zs_whl ?_
      refine hK.out _ _ (hS.alloc _) (fun hS1 => ?_)
      simp only [List.getElem_toArray, List.getElem_cons_succ, List.getElem_cons_zero, Act.put, List.setIfInBounds_toArray, List.set_cons_succ, List.set_cons_zero]
      refine (hPR _ _ _ _).2 (g1_5_11 _ W.heap.size b11 hS1 (RowAt.new _ _ _) ⟨f11.1.alloc _, f11.2⟩)
    · rw [if_pos (by rfl)]
      go_simp
      refine hK.out _ _ (hS.alloc _) (fun hS1 => ?_)
      simp only [List.setIfInBounds_toArray, List.set_cons_succ, List.set_cons_zero]
      refine (hPR _ _ _ _).2 (g2_5_11 _ W.heap.size b11 hS1 (RowAt.new _ _ _) ⟨f11.1.alloc _, f11.2⟩)
    · rw [if_pos (by rfl)]
      go_simp
      refine hK.out _ _ (hS.alloc _) (fun hS1 => ?_)
      simp only [List.setIfInBounds_toArray, List.set_cons_succ, List.set_cons_zero]
      refine (hPR _ _ _ _).2 (g3_5_11 _ W.heap.size b11 hS1 (RowAt.new _ _ _) ⟨f11.1.alloc _, f11.2⟩)
  have g1 : ∀ (W : World) (b1 : Nat), K9 w W q1 q4 R1 → RowAt W b1 62 (whl (spl kw1) R1) → PR 11 #[true, true, false, false, true, false, false, false, false, false, false, false, false, false] (#[.bool false, .pointer (some ⟨q1, 0, none⟩), .int .i64 0, .pointer (some ⟨q4, 0, none⟩), .int .i64 0, undef, undef, undef, undef, undef, .tuple #[.agg (whl (spl kw1) R1), .int .i64 0], .tuple #[.agg (whl (spl kw1) R1), .int .i64 0], .agg (whl (spl kw1) R1), .int .i64 0, .tuple #[.agg (ints 26 (spl miB)), .int .i64 0], .tuple #[.agg (ints 26 (spl miB)), .int .i64 0], .agg (ints 26 (spl miB)), .int .i64 0, undef, .agg (whl (spl kw1) R1), .slice (some ⟨b1, 0, none⟩) 1 1, undef, undef, .agg (ints 26 (spl miB)), undef, undef, undef, undef, undef, undef, undef, undef, undef, undef, undef, undef, undef, undef, undef, undef, undef, undef, undef, undef, undef, undef, undef, undef, undef, undef, undef, undef, undef, undef]) W := by
    intro W b1 hS f1
    refine (hPR _ _ _ _).1 ?_
    refine wpAnyH_ready (rs := [2, 3, 5, 11]) (by kernel_rfl) (by simp) ?_
    refine AllReadyH.cons (o := _) rfl (fun K hK => ?_) (AllReadyH.cons (o := _) rfl (fun K hK => ?_) (AllReadyH.cons (o := _) rfl (fun K hK => ?_) (AllReadyH.cons (o := _) rfl (fun K hK => ?_) AllReadyH.nil)))
    · rw [if_pos (by rfl)]
      go_simp
      refine hK.out _ _ (hS.alloc _) (fun hS1 => ?_)
      simp only [List.setIfInBounds_toArray, List.set_cons_succ, List.set_cons_zero]
      refine (hPR _ _ _ _).2 (g1_2 _ b1 W.heap.size hS1 (f1.alloc _) (RowAt.new _ _ _))
    · rw [if_pos (by rfl)]
      go_simp
      refine hK.out _ _ (hS.alloc _) (fun hS1 => ?_)
      simp only [List.setIfInBounds_toArray, List.set_cons_succ, List.set_cons_zero]
      refine (hPR _ _ _ _).2 (g1_3 _ b1 W.heap.size hS1 (f1.alloc _) (RowAt.new _ _ _))
    · rw [if_pos (by rfl)]
      go_simp
      refine Calls.mono (HS.out _) ?_
      rintro e Y ⟨rfl, hb8⟩
      refine hK.out _ _ (hS.step hb8) (fun hS1 => ?_)
      simp only [List.setIfInBounds_toArray, List.set_cons_succ, List.set_cons_zero]
      refine (hPR _ _ _ _).2 (g1_5 _ b1 hS1 (f1.below hb8 f1.lt))
    · rw [if_pos (by rfl)]
      go_simp
      refine hK.out _ _ (hS.alloc _) (fun hS1 => ?_)
      simp only [List.setIfInBounds_toArray, List.set_cons_succ, List.set_cons_zero]
      refine (hPR _ _ _ _).2 (g1_11 _ b1 W.heap.size hS1 (f1.alloc _) ⟨RowAt.new _ _ _, hS.below.size⟩)
  have g2 : ∀ (W : World) (b2 : Nat), K9 w W q1 q4 R1 → RowAt W b2 3 #[.int .i64 0] → PR 11 #[true, false, true, false, true, false, false, false, false, false, false, false, false, false] (#[.bool false, .pointer (some ⟨q1, 0, none⟩), .int .i64 0, .pointer (some ⟨q4, 0, none⟩), .int .i64 0, undef, undef, undef, undef, undef, .tuple #[.agg (whl (spl kw1) R1), .int .i64 0], .tuple #[.agg (whl (spl kw1) R1), .int .i64 0], .agg (whl (spl kw1) R1), .int .i64 0, .tuple #[.agg (ints 26 (spl miB)), .int .i64 0], .tuple #[.agg (ints 26 (spl miB)), .int .i64 0], .agg (ints 26 (spl miB)), .int .i64 0, undef, .agg (whl (spl kw1) R1), undef, .slice (some ⟨b2, 0, none⟩) 1 1, undef, .agg (ints 26 (spl miB)), undef, undef, undef, undef, undef, undef, undef, undef, undef, undef, undef, undef, undef, undef, undef, undef, undef, undef, undef, undef, undef, undef, undef, undef, undef, undef, undef, undef, undef, undef]) W := by
    intro W b2 hS f2
    refine (hPR _ _ _ _).1 ?_
    refine wpAnyH_ready (rs := [1, 3, 5, 11]) (by kernel_rfl) (by simp) ?_
    refine AllReadyH.cons (o := _) rfl (fun K hK => ?_) (AllReadyH.cons (o := _) rfl (fun K hK => ?_) (AllReadyH.cons (o := _) rfl (fun K hK => ?_) (AllReadyH.cons (o := _) rfl (fun K hK => ?_) AllReadyH.nil)))
    · rw [if_pos (by rfl)]
      refine wp_build1c 22 62 _ rfl 27 (by decide) (by decide) (whl (fun _ => 0) (.slice none 0 0)) (whl (spl kw1) R1) rfl Try.underlying22 (whl_size _ _) (whl_size _ _) o_zs_whl ?_
      refine hK.out _ _ (hS.alloc _) (fun hS1 => ?_)
      simp only [List.getElem_toArray, List.getElem_cons_succ, List.getElem_cons_zero, Act.put, List.setIfInBounds_toArray, List.set_cons_succ, List.set_cons_zero]
      refine (hPR _ _ _ _).2 (g1_2 _ W.heap.size b2 hS1 (RowAt.new _ _ _) (f2.alloc _))
    · rw [if_pos (by rfl)]
      go_simp
      refine hK.out _ _ (hS.alloc _) (fun hS1 => ?_)
      simp only [List.setIfInBounds_toArray, List.set_cons_succ, List.set_cons_zero]
      refine (hPR _ _ _ _).2 (g2_3 _ b2 W.heap.size hS1 (f2.alloc _) (RowAt.new _ _ _))
    · rw [if_pos (by rfl)]
      go_simp
      refine Calls.mono (HS.out _) ?_
      rintro e Y ⟨rfl, hb8⟩
      refine hK.out _ _ (hS.step hb8) (fun hS1 => ?_)
      simp only [List.setIfInBounds_toArray, List.set_cons_succ, List.set_cons_zero]
      refine (hPR _ _ _ _).2 (g2_5 _ b2 hS1 (f2.below hb8 f2.lt))
    · rw [if_pos (by rfl)]
      go_simp
      refine hK.out _ _ (hS.alloc _) (fun hS1 => ?_)
      simp only [List.setIfInBounds_toArray, List.set_cons_succ, List.set_cons_zero]
      refine (hPR _ _ _ _).2 (g2_11 _ b2 W.heap.size hS1 (f2.alloc _) ⟨RowAt.new _ _ _, hS.below.size⟩)
  have g3 : ∀ (W : World) (b3 : Nat), K9 w W q1 q4 R1 → RowAt W b3 3 #[.int .i64 0] → PR 11 #[true, false, false, true, true, false, false, false, false, false, false, false, false, false] (#[.bool false, .pointer (some ⟨q1, 0, none⟩), .int .i64 0, .pointer (some ⟨q4, 0, none⟩), .int .i64 0, undef, undef, undef, undef, undef, .tuple #[.agg (whl (spl kw1) R1), .int .i64 0], .tuple #[.agg (whl (spl kw1) R1), .int .i64 0], .agg (whl (spl kw1) R1), .int .i64 0, .tuple #[.agg (ints 26 (spl miB)), .int .i64 0], .tuple #[.agg (ints 26 (spl miB)), .int .i64 0], .agg (ints 26 (spl miB)), .int .i64 0, undef, .agg (whl (spl kw1) R1), undef, undef, .slice (some ⟨b3, 0, none⟩) 1 1, .agg (ints 26 (spl miB)), undef, undef, undef, undef, undef, undef, undef, undef, undef, undef, undef, undef, undef, undef, undef, undef, undef, undef, undef, undef, undef, undef, undef, undef, undef, undef, undef, undef, undef, undef]) W := by
    intro W b3 hS f3
    refine (hPR _ _ _ _).1 ?_
    refine wpAnyH_ready (rs := [1, 2, 5, 11]) (by kernel_rfl) (by simp) ?_
    refine AllReadyH.cons (o := _) rfl (fun K hK => ?_) (AllReadyH.cons (o := _) rfl (fun K hK => ?_) (AllReadyH.cons (o := _) rfl (fun K hK => ?_) (AllReadyH.cons (o := _) rfl (fun K hK => ?_) AllReadyH.nil)))
    · rw [if_pos (by rfl)]
      refine wp_build1c 22 62 _ rfl 27 (by decide) (by decide) (whl (fun _ => 0) (.slice none 0 0)) (whl (spl kw1) R1) rfl Try.underlying22 (whl_size _ _) (whl_size _ _) o_zs_whl ?_
      refine hK.out _ _ (hS.alloc _) (fun hS1 => ?_)
      simp only [List.getElem_toArray, List.getElem_cons_succ, List.getElem_cons_zero, Act.put, List.setIfInBounds_toArray, List.set_cons_succ, List.set_cons_zero]
      refine (hPR _ _ _ _).2 (g1_3 _ W.heap.size b3 hS1 (RowAt.new _ _ _) (f3.alloc _))
    · rw [if_pos (by rfl)]
      go_simp
      refine hK.out _ _ (hS.alloc _) (fun hS1 => ?_)
      simp only [List.setIfInBounds_toArray, List.set_cons_succ, List.set_cons_zero]
      refine (hPR _ _ _ _).2 (g2_3 _ W.heap.size b3 hS1 (RowAt.new _ _ _) (f3.alloc _))
    · rw [if_pos (by rfl)]
      go_simp
      refine Calls.mono (HS.out _) ?_
      rintro e Y ⟨rfl, hb8⟩
      refine hK.out _ _ (hS.step hb8) (fun hS1 => ?_)
      simp only [List.setIfInBounds_toArray, List.set_cons_succ, List.set_cons_zero]
      refine (hPR _ _ _ _).2 (g3_5 _ b3 hS1 (f3.below hb8 f3.lt))
    · rw [if_pos (by rfl)]
      go_simp
      refine hK.out _ _ (hS.alloc _) (fun hS1 => ?_)
      simp only [List.setIfInBounds_toArray, List.set_cons_succ, List.set_cons_zero]
      refine (hPR _ _ _ _).2 (g3_11 _ b3 W.heap.size hS1 (f3.alloc _) ⟨RowAt.new _ _ _, hS.below.size⟩)
  have g5 : ∀ (W : World) , K9 w W q1 q4 R1 → PR 11 #[true, false, false, false, true, true, false, false, false, false, false, false, false, false] (#[.bool false, .pointer (some ⟨q1, 0, none⟩), .int .i64 0, .pointer (some ⟨q4, 0, none⟩), .int .i64 0, undef, undef, undef, undef, undef, .tuple #[.agg (whl (spl kw1) R1), .int .i64 0], .tuple #[.agg (whl (spl kw1) R1), .int .i64 0], .agg (whl (spl kw1) R1), .int .i64 0, .tuple #[.agg (ints 26 (spl miB)), .int .i64 0], .tuple #[.agg (ints 26 (spl miB)), .int .i64 0], .agg (ints 26 (spl miB)), .int .i64 0, undef, .agg (whl (spl kw1) R1), undef, undef, undef, .agg (ints 26 (spl miB)), .agg (ints 26 (Pm.up fun i => i)), undef, undef, undef, undef, undef, undef, undef, undef, undef, undef, undef, undef, undef, undef, undef, undef, undef, undef, undef, undef, undef, undef, undef, undef, undef, undef, undef, undef, undef]) W := by
    intro W  hS 
    refine (hPR _ _ _ _).1 ?_
    refine wpAnyH_ready (rs := [1, 2, 3, 11]) (by kernel_rfl) (by simp) ?_
    refine AllReadyH.cons (o := _) rfl (fun K hK => ?_) (AllReadyH.cons (o := _) rfl (fun K hK => ?_) (AllReadyH.cons (o := _) rfl (fun K hK => ?_) (AllReadyH.cons (o := _) rfl (fun K hK => ?_) AllReadyH.nil)))
    · rw [if_pos (by rfl)]
      refine wp_build1c 22 62 _ rfl 27 (by decide) (by decide) (whl (fun _ => 0) (.slice none 0 0)) (whl (spl kw1) R1) rfl Try.underlying22 (whl_size _ _) (whl_size _ _) o_zs_whl ?_
      refine hK.out _ _ (hS.alloc _) (fun hS1 => ?_)
      simp only [List.getElem_toArray, List.getElem_cons_succ, List.getElem_cons_zero, Act.put, List.setIfInBounds_toArray, List.set_cons_succ, List.set_cons_zero]
      refine (hPR _ _ _ _).2 (g1_5 _ W.heap.size hS1 (RowAt.new _ _ _))
    · rw [if_pos (by rfl)]
      go_simp
      refine hK.out _ _ (hS.alloc _) (fun hS1 => ?_)
      simp only [List.setIfInBounds_toArray, List.set_cons_succ, List.set_cons_zero]
      refine (hPR _ _ _ _).2 (g2_5 _ W.heap.size hS1 (RowAt.new _ _ _))
    · rw [if_pos (by rfl)]
      go_simp
      refine hK.out _ _ (hS.alloc _) (fun hS1 => ?_)
      simp only [List.setIfInBounds_toArray, List.set_cons_succ, List.set_cons_zero]
      refine (hPR _ _ _ _).2 (g3_5 _ W.heap.size hS1 (RowAt.new _ _ _))
    · rw [if_pos (by rfl)]
      go_simp
      refine hK.out _ _ (hS.alloc _) (fun hS1 => ?_)
      simp only [List.setIfInBounds_toArray, List.set_cons_succ, List.set_cons_zero]
      refine (hPR _ _ _ _).2 (g5_11 _ W.heap.size hS1 ⟨RowAt.new _ _ _, hS.below.size⟩)
  have g11 : ∀ (W : World) (b11 : Nat), K9 w W q1 q4 R1 → (RowAt W b11 28 (sl3 0 fun _ => .slice none 0 0) ∧ w.heap.size ≤ b11) → PR 11 #[true, false, false, false, true, false, false, false, false, false, false, true, false, false] (#[.bool false, .pointer (some ⟨q1, 0, none⟩), .int .i64 0, .pointer (some ⟨q4, 0, none⟩), .int .i64 0, .pointer (some ⟨b11, 0, none⟩), undef, undef, undef, undef, .tuple #[.agg (whl (spl kw1) R1), .int .i64 0], .tuple #[.agg (whl (spl kw1) R1), .int .i64 0], .agg (whl (spl kw1) R1), .int .i64 0, .tuple #[.agg (ints 26 (spl miB)), .int .i64 0], .tuple #[.agg (ints 26 (spl miB)), .int .i64 0], .agg (ints 26 (spl miB)), .int .i64 0, undef, .agg (whl (spl kw1) R1), undef, undef, undef, .agg (ints 26 (spl miB)), undef, undef, undef, undef, undef, undef, undef, undef, undef, undef, undef, undef, undef, undef, undef, undef, undef, undef, undef, undef, undef, undef, undef, undef, undef, undef, undef, undef, undef, undef]) W := by
    intro W b11 hS f11
    refine (hPR _ _ _ _).1 ?_
    refine wpAnyH_ready (rs := [1, 2, 3, 5]) (by kernel_rfl) (by simp) ?_
    refine AllReadyH.cons (o := _) rfl (fun K hK => ?_) (AllReadyH.cons (o := _) rfl (fun K hK => ?_) (AllReadyH.cons (o := _) rfl (fun K hK => ?_) (AllReadyH.cons (o := _) rfl (fun K hK => ?_) AllReadyH.nil)))
    · rw [if_pos (by rfl)]
      refine wp_build1c 22 62 _ rfl 27 (by decide) (by decide) (whl (fun _ => 0) (.slice none 0 0)) (whl (spl kw1) R1) rfl Try.underlying22 (whl_size _ _) (whl_size _ _) o_zs_whl ?_
      refine hK.out _ _ (hS.alloc _) (fun hS1 => ?_)
      simp only [List.getElem_toArray, List.getElem_cons_succ, List.getElem_cons_zero, Act.put, List.setIfInBounds_toArray, List.set_cons_succ, List.set_cons_zero]
      refine (hPR _ _ _ _).2 (g1_11 _ W.heap.size b11 hS1 (RowAt.new _ _ _) ⟨f11.1.alloc _, f11.2⟩)
    · rw [if_pos (by rfl)]
      go_simp
      refine hK.out _ _ (hS.alloc _) (fun hS1 => ?_)
      simp only [List.setIfInBounds_toArray, List.set_cons_succ, List.set_cons_zero]
      refine (hPR _ _ _ _).2 (g2_11 _ W.heap.size b11 hS1 (RowAt.new _ _ _) ⟨f11.1.alloc _, f11.2⟩)
    · rw [if_pos (by rfl)]
      go_simp
      refine hK.out _ _ (hS.alloc _) (fun hS1 => ?_)
      simp only [List.setIfInBounds_toArray, List.set_cons_succ, List.set_cons_zero]
      refine (hPR _ _ _ _).2 (g3_11 _ W.heap.size b11 hS1 (RowAt.new _ _ _) ⟨f11.1.alloc _, f11.2⟩)
    · rw [if_pos (by rfl)]
      go_simp
      refine Calls.mono (HS.out _) ?_
      rintro e Y ⟨rfl, hb8⟩
      refine hK.out _ _ (hS.step hb8) (fun hS1 => ?_)
      simp only [List.setIfInBounds_toArray, List.set_cons_succ, List.set_cons_zero]
      refine (hPR _ _ _ _).2 (g5_11 _ b11 hS1 ⟨f11.1.below hb8 f11.1.lt, f11.2⟩)
  have g : ∀ (W : World) , K9 w W q1 q4 R1 → PR 12 #[true, false, false, false, true, false, false, false, false, false, false, false, false, false] (#[.bool false, .pointer (some ⟨q1, 0, none⟩), .int .i64 0, .pointer (some ⟨q4, 0, none⟩), .int .i64 0, undef, undef, undef, undef, undef, .tuple #[.agg (whl (spl kw1) R1), .int .i64 0], .tuple #[.agg (whl (spl kw1) R1), .int .i64 0], .agg (whl (spl kw1) R1), .int .i64 0, .tuple #[.agg (ints 26 (spl miB)), .int .i64 0], .tuple #[.agg (ints 26 (spl miB)), .int .i64 0], .agg (ints 26 (spl miB)), .int .i64 0, undef, .agg (whl (spl kw1) R1), undef, undef, undef, .agg (ints 26 (spl miB)), undef, undef, undef, undef, undef, undef, undef, undef, undef, undef, undef, undef, undef, undef, undef, undef, undef, undef, undef, undef, undef, undef, undef, undef, undef, undef, undef, undef, undef, undef]) W := by
    intro W  hS 
    refine (hPR _ _ _ _).1 ?_
    refine wpAnyH_ready (rs := [1, 2, 3, 5, 11]) (by kernel_rfl) (by simp) ?_
    refine AllReadyH.cons (o := _) rfl (fun K hK => ?_) (AllReadyH.cons (o := _) rfl (fun K hK => ?_) (AllReadyH.cons (o := _) rfl (fun K hK => ?_) (AllReadyH.cons (o := _) rfl (fun K hK => ?_) (AllReadyH.cons (o := _) rfl (fun K hK => ?_) AllReadyH.nil))))
    · rw [if_pos (by rfl)]
      refine wp_build1c 22 62 _ rfl 27 (by decide) (by decide) (whl (fun _ => 0) (.slice none 0 0)) (whl (spl kw1) R1) rfl Try.underlying22 (whl_size _ _) (whl_size _ _) o_zs_whl ?_
      refine hK.out _ _ (hS.alloc _) (fun hS1 => ?_)
      simp only [List.getElem_toArray, List.getElem_cons_succ, List.getElem_cons_zero, Act.put, List.setIfInBounds_toArray, List.set_cons_succ, List.set_cons_zero]
      refine (hPR _ _ _ _).2 (g1 _ W.heap.size hS1 (RowAt.new _ _ _))
    · rw [if_pos (by rfl)]
      go_simp
      refine hK.out _ _ (hS.alloc _) (fun hS1 => ?_)
      simp only [List.setIfInBounds_toArray, List.set_cons_succ, List.set_cons_zero]
      refine (hPR _ _ _ _).2 (g2 _ W.heap.size hS1 (RowAt.new _ _ _))
    · rw [if_pos (by rfl)]
      go_simp
      refine hK.out _ _ (hS.alloc _) (fun hS1 => ?_)
      simp only [List.setIfInBounds_toArray, List.set_cons_succ, List.set_cons_zero]
      refine (hPR _ _ _ _).2 (g3 _ W.heap.size hS1 (RowAt.new _ _ _))
    · rw [if_pos (by rfl)]
      go_simp
      refine Calls.mono (HS.out _) ?_
      rintro e Y ⟨rfl, hb8⟩
      refine hK.out _ _ (hS.step hb8) (fun hS1 => ?_)
      simp only [List.setIfInBounds_toArray, List.set_cons_succ, List.set_cons_zero]
      refine (hPR _ _ _ _).2 (g5 _  hS1 )
    · rw [if_pos (by rfl)]
      go_simp
      refine hK.out _ _ (hS.alloc _) (fun hS1 => ?_)
      simp only [List.setIfInBounds_toArray, List.set_cons_succ, List.set_cons_zero]
      refine (hPR _ _ _ _).2 (g11 _ W.heap.size hS1 ⟨RowAt.new _ _ _, hS.below.size⟩)
  exact g _ hS
theorem alive9_any (w : World) : Calls Try.prog 10 #[] w fun e w' => e = .returned (.bool true) ∧ Below w.heap.size w w' := by
  obtain ⟨hM, _⟩ := ok_maOf a9_gE
  refine alive9_run w (fun W => rknown_any ⟨#[73]⟩ W) (fun W => ?_) (chC (maOf gA9)) (type_sum (chC_perm hM 0)) (type_len _) (fun W vm hm => (types_any vm gA9 W hm).mono ?_)
  · have := rmirror_any ⟨#[66]⟩ W
    exact this
  · rintro e w' (⟨h, _⟩ | ⟨_, h⟩)
    · exact absurd a9_gE h
    · exact h
end Go.Proofs.Ythfjkhmedpilnaa
