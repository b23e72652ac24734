/-
  Contract of chart.Types.
-/
import Derived.Test.YthfjkhmedpilnaaChCh
import Derived.Test.YthfjkhmedpilnaaJn24
namespace Go.Proofs.Ythfjkhmedpilnaa
open Go.RowKit PK Vg

theorem run_index_three (P : Nat → Nat → Nat) (k : Nat) (hk : k < 3) (w : World) : (Instr.index 68 (.agg (ints 78 (flat P))) (.int .i64 (k : Int))).run Try.prog w = .ok (.agg (ints 26 (Pm.up (P k)))) w := by
  have hs : (sizeOf 25).run Try.prog w = .ok 26 w := by
    obtain ⟨i, hi, hz⟩ := Option.map_eq_some_iff.1 info_perm
    simp [sizeOf, typeInfo, hi, hz]
  have he : ((ints 78 (flat P)).extract (k * 26) (k * 26 + 26)) = ints 26 (Pm.up (P k)) := by
    apply Array.ext_getElem?
    intro j
    by_cases hj : j < 26
    · rw [ints_get _ hj, Array.getElem?_extract, if_pos (by rw [ints_size]; omega), ints_get _ (by omega)]
      unfold flat Pm.up
      rw [show (k * 26 + j) / 26 = k by omega, show (k * 26 + j) % 26 = j by omega]
    · rw [Array.getElem?_eq_none (by simp [ints_size]; omega), Array.getElem?_eq_none (by simp [ints_size]; omega)]
  have hp : (part 25 (ints 78 (flat P)) (k * 26)).run Try.prog w = .ok (.agg (ints 26 (Pm.up (P k)))) w := by
    unfold part isAgg
    simp only [Sem.run_bind, run_underlying Try.underlying25, Result.andThen_ok, Sem.run_pure, if_true, hs, he]
  generalize ints 78 (flat P) = cs at *
  generalize ints 26 (Pm.up (P k)) = cs2 at *
  simp [Instr.index, asIntOf, Sem.run_bind, run_underlying Try.underlying68, hs, hk, hp]
/-- Three slices. -/
def sl3 (k : Nat) (V : Nat → Value) : Array Value := tab 3 fun i => if i < k then V i else .slice none 0 0
theorem sl3_size (k : Nat) (V : Nat → Value) : (sl3 k V).size = 3 := tab_size _ _
theorem sl3_get (k : Nat) (V : Nat → Value) {i : Nat} (h : i < 3) : (sl3 k V)[i]? = some (if i < k then V i else .slice none 0 0) := tab_get _ h
theorem sl3_set {k : Nat} (V : Nat → Value) (v : Value) : (sl3 k V).setIfInBounds k v = sl3 (k + 1) (fun i => if i = k then v else V i) := by
  unfold sl3
  rw [tab_set]
  refine tab_ext fun i _ => ?_
  show (if i = k then v else if i < k then V i else .slice none 0 0) = if i < k + 1 then (if i = k then v else V i) else .slice none 0 0
  by_cases h : i = k
  · rw [if_pos h, if_pos (by omega), if_pos h]
  · rw [if_neg h]
    by_cases h2 : i < k
    · rw [if_pos h2, if_pos (by omega), if_neg h]
    · rw [if_neg h2, if_neg (by omega)]
theorem sl3_one {k : Nat} {V : Nat → Value} (h : ∀ i, i < k → (V i).oneCell' = true) : (sl3 k V).all (·.oneCell') = true := by
  rw [Array.all_eq_true_iff_forall_mem]
  intro v hv
  simp [sl3, tab] at hv
  obtain ⟨i, _, rfl⟩ := hv
  by_cases e : i < k
  · rw [if_pos e]; exact h i e
  · rw [if_neg e]; rfl
theorem v_info_sl3 : (Try.prog.info? 28).map (·.size) = some 3 := by kernel_rfl
theorem v_zero_sl3 : (Try.prog.info? 28).map (·.zero) = some (some (.agg (sl3 0 fun _ => .slice none 0 0))) := by kernel_rfl
theorem built_sl3 : Try.prog.built 28 [] = some (sl3 0 fun _ => .slice none 0 0) := by kernel_rfl
theorem nums_of_own {w : World} {B : Nat} {v : Value} {l : List Nat} (h : OwnsN w B v l) : NumsAt w v l.length fun i => ((l.getD i 0 : Nat) : Int) := by
  have h' : w.ownsRow B 3 1 v l.length (nums l) := h
  rcases h'.2 with ⟨rfl, h0⟩ | ⟨g, cap, cur, rfl, hB, hg, hnc, hcm, hcs, htake⟩
  · exact ⟨none, 0, by rw [h0], by rw [h0]; decide, fun i hi => by omega⟩
  · refine ⟨_, cap, rfl, by omega, fun i hi => ⟨g, 0, rfl, ?_⟩⟩
    have h1 : (nums l)[i]? = some (.int .i64 ((l.getD i 0 : Nat) : Int)) := by simp [nums, hi, List.getD_eq_getElem?_getD]
    rw [← htake, List.getElem?_take_of_lt (by omega)] at h1
    rw [Nat.zero_add]
    exact RowAt.cell (w := w) (b := g) (T := 3) hg (by simpa using h1)
theorem own_slice' {w : World} {B : Nat} {v : Value} {l : List Nat} (h : OwnsN w B v l) : ∃ a c, v = .slice a l.length c := by
  have h' : w.ownsRow B 3 1 v l.length (nums l) := h
  rcases h'.2 with ⟨rfl, e⟩ | ⟨g, cap, cur, rfl, _⟩
  · exact ⟨none, 0, by rw [e]⟩
  · exact ⟨_, _, rfl⟩
theorem grown_row (W : World) (b : Nat) (d : Array Value) : W.grownBy (W.setRow b d) (some b) := by
  have := Below.setRow (Below.refl 0 W) b (Nat.zero_le _) d
  exact ⟨this.os, this.tape, this.output, this.size, fun k _ hne => setRow_other W b k d (fun e => hne (by rw [e]))⟩
/-- The types of the first k, told in slices. -/
def TysAt (W : World) (V : Nat → Value) (k : Nat) (P : Nat → Nat → Nat) : Prop := ∀ i, i < k → NumsAt W (V i) (typeOf (P i)).length fun j => (((typeOf (P i)).getD j 0 : Nat) : Int)
/-- What Types holds. -/
structure TyS (w W : World) (a b c : Value) (rf pl : Nat → Int) (P : Nat → Nat → Nat) (q4 q6 k : Nat) (V : Nat → Value) : Prop where
  mg : MgAt w W a b c rf pl
  res : RowAt W (w.heap.size + 1) 28 (sl3 0 fun _ => .slice none 0 0)
  out : RowAt W q6 28 (sl3 k V)
  q1 : w.heap.size + 1 < q4
  q2 : q4 < q6
  rows : TysAt W V k P
  far : ∀ i, i < k → ∀ p, (V i).ownBlock = some p → q6 < p
section
variable {w W W' : World} {a b c : Value} {rf pl : Nat → Int} {P : Nat → Nat → Nat} {q4 q6 k : Nat} {V : Nat → Value}
theorem TyS.step (h : TyS w W a b c rf pl P q4 q6 k V) (hb : Below W.heap.size W W') : TyS w W' a b c rf pl P q4 q6 k V := ⟨h.mg.step hb, h.res.below hb h.res.lt, h.out.below hb h.out.lt, h.q1, h.q2, fun i hi => (h.rows i hi).below hb, h.far⟩
theorem TyS.put (h : TyS w W a b c rf pl P q4 q6 k V) {v : Value} {B : Nat} (hB : q6 < B) (ho : OwnsN W B v (typeOf (P k))) : TyS w (W.setCell ⟨q6, k, none⟩ v) a b c rf pl P q4 q6 (k + 1) (fun i => if i = k then v else V i) := by
  have h1 := h.q1
  have h2 := h.q2
  have hgs := grown_set W q6 k v
  have hfv : ∀ p, v.ownBlock = some p → q6 < p := fun p hp => by
    have h3 : W.ownsRow B 3 1 v (typeOf (P k)).length (nums (typeOf (P k))) := ho
    have := (World.ownsRow.lt h3 p hp).1
    omega
  refine ⟨⟨h.mg.row.setOther _ _ (by show w.heap.size ≠ q6; omega), h.mg.below.setCell (p := ⟨q6, k, none⟩) (by show w.heap.size ≤ q6; omega) _⟩, h.res.setOther _ _ (by show w.heap.size + 1 ≠ q6; omega), ?_, h.q1, h.q2, fun i hi => ?_, fun i hi p hp => ?_⟩
  · have := h.out.set k v
    rw [sl3_set] at this
    exact this
  · show NumsAt _ (if i = k then v else V i) _ _
    by_cases e : i = k
    · rw [if_pos e, e]
      exact nums_grown (nums_of_own ho) hgs (fun p hp e2 => by have := hfv p hp; cases e2; omega)
    · rw [if_neg e]
      exact nums_grown (h.rows i (by omega)) hgs (fun p hp e2 => by have := h.far i (by omega) p hp; cases e2; omega)
  · have hp' : (if i = k then v else V i).ownBlock = some p := hp
    by_cases e : i = k
    · rw [if_pos e] at hp'; exact hfv p hp'
    · rw [if_neg e] at hp'; exact h.far i (by omega) p hp'
end
structure TzAt (w W : World) (a b c : Value) (rf pl : Nat → Int) : Prop where
  mg : MgAt w W a b c rf pl
  res : RowAt W (w.heap.size + 1) 28 (sl3 0 fun _ => .slice none 0 0)
theorem TzAt.new (w : World) (a b c : Value) (rf pl : Nat → Int) : TzAt w ((w.alloc (.cells (mac a b c rf pl) 27)).alloc (.cells (sl3 0 fun _ => .slice none 0 0) 28)) a b c rf pl := by
  have h := RowAt.new (w.alloc (.cells (mac a b c rf pl) 27)) 28 (sl3 0 fun _ => .slice none 0 0)
  rw [World.size_alloc] at h
  exact ⟨(MgAt.new w a b c rf pl).alloc _, h⟩
theorem TzAt.step {w W W' : World} {a b c : Value} {rf pl : Nat → Int} (h : TzAt w W a b c rf pl) (hb : Below W.heap.size W W') : TzAt w W' a b c rf pl := ⟨h.mg.step hb, h.res.below hb h.res.lt⟩
set_option maxRecDepth 100000 in
set_option maxHeartbeats 2000000 in
theorem types_bad (a b c : Value) (rf pl : Nat → Int) (A : Array Value) (hA : Hid (A.size = 78)) (hA1 : Hid (A.all (·.oneCell') = true)) (E : Int) (hE : (E != 0) = true) (w : World) (HW : Hid (∀ W, Below w.heap.size w W → Calls Try.prog 28 #[.agg (mac a b c rf pl)] W fun e w' => e = .returned (.tuple #[.agg A, .int .i64 E]) ∧ Below W.heap.size W w')) : Calls Try.prog 11 #[.agg (mac a b c rf pl)] w fun e w' => e = .returned (.tuple #[.agg (sl3 0 fun _ => .slice none 0 0), .int .i64 E]) ∧ Below w.heap.size w w' := by
  have h0 := TzAt.new w a b c rf pl
  have hz3 := o_zero v_zero_sl3
  have hz78 := o_zero v_zero_three
  go_enter Try.func11, Try.ntmps11
  go_wp2_with (first | refine wpList_load_row rfl 27 _ rfl w.heap.size rfl 27 (mac a b c rf pl) (0, 0) _ h0.mg.row Try.underlying27 rfl (by rw [mac_size]; exact v_info_mac) ?_)
  refine (HW.out _ h0.mg.below).mono ?_
  rintro e W1 ⟨rfl, hb⟩
  have h1 := h0.step hb
  have hl1 := h1.res.lt
  clear hb h0 HW hz3
  have HR := (show Hid (RowAt ((W1.alloc (.cells (ints 78 fun _ => 0) 68)).setRow W1.heap.size A) (w.heap.size + 1) 28 (sl3 0 fun _ => .slice none 0 0)) from (h1.res.alloc (.cells (ints 78 fun _ => 0) 68)).rowOther W1.heap.size A (by omega))
  have HBE := (show Hid _ from Below.setRow (Below.setRow (h1.mg.below.alloc h1.mg.below.size (.cells (ints 78 fun _ => 0) 68)) W1.heap.size h1.mg.below.size A) (w.heap.size + 1) (by omega) (sl3 0 fun _ => .slice none 0 0))
  clear h1 hl1
  go_wp2_with (first | refine wpList_build0 rfl 28 rfl (sl3 0 fun _ => .slice none 0 0) built_sl3 ?_ | refine wpList_store_row rfl 68 _ _ rfl W1.heap.size A rfl rfl 68 _ (RowAt.new W1 _ _) (by rw [hA.out]; exact v_info_three) (by rw [hA.out, ints_size]) hA1.out ?_ | refine wpList_store_row rfl 28 _ _ rfl (w.heap.size + 1) (sl3 0 fun _ => .slice none 0 0) rfl rfl 28 _ HR.out (by rw [sl3_size]; exact v_info_sl3) (by simp only [sl3_size]) (sl3_one fun i hi => by omega) ?_)
  exact bodyPost_ret (v := .tuple #[.agg (sl3 0 fun _ => .slice none 0 0), .int .i64 E]) (results_cell_tmp2 rfl _ _ (w.heap.size + 1) 28 _ (0, 0) _ _ rfl rfl (HR.out.row _) Try.underlying28 rfl (by rw [sl3_size]; exact v_info_sl3)) rfl ⟨rfl, HBE.out⟩
set_option maxRecDepth 100000 in
set_option maxHeartbeats 4000000 in
theorem types_ok (P : Nat → Nat → Nat) (hP : ∀ k, Pm.IsPerm (P k)) (a b c : Value) (rf pl : Nat → Int) (w : World) (HW : Hid (∀ W, Below w.heap.size w W → Calls Try.prog 28 #[.agg (mac a b c rf pl)] W fun e w' => e = .returned (.tuple #[.agg (ints 78 (flat P)), .int .i64 0]) ∧ Below W.heap.size W w')) : Calls Try.prog 11 #[.agg (mac a b c rf pl)] w fun e w' => ∃ V, e = .returned (.tuple #[.agg (sl3 3 V), .int .i64 0]) ∧ TysAt w' V 3 P ∧ Below w.heap.size w w' := by
  have h0 := TzAt.new w a b c rf pl
  have hz3 := o_zero v_zero_sl3
  have hz78 := o_zero v_zero_three
  have HPP := (show Hid _ from hP)
  clear hP
  go_enter Try.func11, Try.ntmps11
  go_wp2_with (first | refine wpList_load_row rfl 27 _ rfl w.heap.size rfl 27 (mac a b c rf pl) (0, 0) _ h0.mg.row Try.underlying27 rfl (by rw [mac_size]; exact v_info_mac) ?_)
  refine (HW.out _ h0.mg.below).mono ?_
  rintro e W1 ⟨rfl, hb⟩
  have h1 := h0.step hb
  have hl1 := h1.res.lt
  clear hb h0 HW
  go_upto_region 4 with (first | refine wpList_store_row rfl 68 _ _ rfl W1.heap.size (ints 78 (flat P)) rfl rfl 68 _ (RowAt.new W1 _ _) (by rw [ints_size]; exact v_info_three) (by simp only [ints_size]) (ints_one _ _) ?_)
  have hr4 := (RowAt.new W1 68 (ints 78 fun _ => 0)).row (ints 78 (flat P))
  have hb4 := Below.setRow ((Below.refl W1.heap.size W1).alloc (Nat.le_refl _) (.cells (ints 78 fun _ => 0) 68)) W1.heap.size (Nat.le_refl _) (ints 78 (flat P))
  have h4 := h1.step hb4
  clear hb4
  generalize (W1.alloc (.cells (ints 78 fun _ => 0) 68)).setRow W1.heap.size (ints 78 (flat P)) = V4 at *
  obtain ⟨q4, hq4⟩ : ∃ x, x = W1.heap.size := ⟨_, rfl⟩
  rw [← hq4] at hr4 hl1 ⊢
  have hl4 := hr4.lt
  clear hq4 h1 hz78
  go_upto_region 5 with fail
  have hr4' := hr4.alloc (.cells (sl3 0 fun _ => .slice none 0 0) 28)
  have hg0 : TyS w (V4.alloc (.cells (sl3 0 fun _ => .slice none 0 0) 28)) a b c rf pl P q4 V4.heap.size 0 (fun _ => .slice none 0 0) := ⟨h4.mg.alloc _, h4.res.alloc _, RowAt.new V4 _ _, hl1, hl4, fun i hi => by omega, fun i hi => by omega⟩
  generalize V4.alloc (.cells (sl3 0 fun _ => .slice none 0 0) 28) = V5 at *
  obtain ⟨q6, hq6⟩ : ∃ x, x = V4.heap.size := ⟨_, rfl⟩
  rw [← hq6] at hg0 ⊢
  clear hq6 h4 hr4 hl1 hl4 hz3
  go_wp2_with (first | refine wpList_load_row rfl 68 _ rfl q4 rfl 68 (ints 78 (flat P)) (0, 0) _ hr4' Try.underlying68 rfl (by rw [ints_size]; exact v_info_three) ?_)
  clear hr4'
  go_loopw [19] (fun i W => ∃ (k : Nat) (V : Nat → Value), k ≤ 3 ∧ i = .int .i64 (k : Nat) ∧ TyS w W a b c rf pl P q4 q6 k V) (fun i _ => ((3 : Int) - intOf i).toNat)
  case atStart => exact ⟨0, _, by omega, rfl, hg0⟩
  case round =>
    clear hg0
    obtain ⟨k, V, hk, rfl, hg⟩ := hrel
    by_cases hlt : k < 3
    · have HLT : Hid (k < 3) := hlt
      have hlt2 : (k : Int) < 3 := by omega
      have hix := run_index_three P k hlt
      have hz26 := o_zero v_zero_perm
      have hpk := HPP.out k
      obtain ⟨pk, hpe⟩ : ∃ p, p = P k := ⟨_, rfl⟩
      rw [← hpe] at hix hpk
      have HPE := (show Hid _ from hpe)
      have HG := (show Hid _ from hg)
      clear hpe hg hlt
      go_upto_region 8 with (first | refine wpList_store_row rfl 25 _ _ rfl wr.heap.size (ints 26 (Pm.up pk)) rfl rfl 25 _ (RowAt.new wr _ _) (by rw [ints_size]; exact info_perm) (by simp only [ints_size]) (ints_one _ _) ?_)
      have hr8 := (RowAt.new wr 25 (ints 26 fun _ => 0)).row (ints 26 (Pm.up pk))
      have hb8 := Below.setRow ((Below.refl wr.heap.size wr).alloc (Nat.le_refl _) (.cells (ints 26 fun _ => 0) 25)) wr.heap.size (Nat.le_refl _) (ints 26 (Pm.up pk))
      have hg8 := HG.out.step hb8
      generalize (wr.alloc (.cells (ints 26 fun _ => 0) 25)).setRow wr.heap.size (ints 26 (Pm.up pk)) = X at *
      obtain ⟨q8, hq8⟩ : ∃ x, x = wr.heap.size := ⟨_, rfl⟩
      rw [← hq8] at hr8 ⊢
      clear hq8 hix hz26 hb8 HG
      go_wp2_with (first | refine wpList_load_row rfl 25 _ rfl q8 rfl 25 (ints 26 (Pm.up pk)) (0, 0) _ hr8 Try.underlying25 rfl (by rw [ints_size]; exact info_perm) ?_)
      refine (type_ok pk hpk _).mono ?_
      rintro e Y ⟨v, rfl, hov, hb⟩
      have hg9 := hg8.step hb
      rw [HPE.out] at hov
      have HNX := (show Hid _ from hg9.put hg8.out.lt hov)
      obtain ⟨av, cv, hev⟩ := own_slice' hov
      have hck := hg9.out.cell (sl3_get k V HLT.out)
      rw [if_neg (Nat.lt_irrefl _)] at hck
      have hfk := hg9.out.frozen k
      clear hg8 hg9 hb hov hr8 hpk
      rw [hev] at HNX ⊢
      clear hev
      go_wp2
      go_roundw
      case rel => exact ⟨k + 1, _, HLT.out, by go_num, HNX.out⟩
      case measure => have := HLT.out; simp [intOf]; omega
    · obtain rfl : k = 3 := by omega
      have hor := hg.out
      have hrs := hg.res
      have hbe := hg.mg.below
      have hq1 := hg.q1
      have hq2 := hg.q2
      have hone : (sl3 3 V).all (·.oneCell') = true := sl3_one fun i hi => one_nums (hg.rows i hi)
      have HRW : Hid (TysAt (wr.setRow (w.heap.size + 1) (sl3 3 V)) V 3 P) := fun i hi => nums_grown (hg.rows i hi) (grown_row wr (w.heap.size + 1) (sl3 3 V)) (fun p hp e => by have := hg.far i hi p hp; cases e; omega)
      have HONE := (show Hid _ from hone)
      clear hg hlt hone
      go_wp2_with (first | refine wpList_load_row rfl 28 _ rfl q6 rfl 28 (sl3 3 V) (0, 0) _ hor Try.underlying28 rfl (by rw [sl3_size]; exact v_info_sl3) ?_ | refine wpList_store_row rfl 28 _ _ rfl (w.heap.size + 1) (sl3 3 V) rfl rfl 28 _ hrs (by rw [sl3_size]; exact v_info_sl3) (by simp only [sl3_size]) HONE.out ?_)
      exact bodyPost_ret (v := .tuple #[.agg (sl3 3 V), .int .i64 0]) (results_cell_tmp2 rfl _ _ (w.heap.size + 1) 28 _ (0, 0) _ _ rfl rfl (hrs.row _) Try.underlying28 rfl (by rw [sl3_size]; exact v_info_sl3)) rfl ⟨V, rfl, HRW.out, Below.setRow hbe _ (by omega) _⟩
theorem chC_perm {M : Om.Ma} (hM : Om.Ok M) (k : Nat) : Pm.IsPerm (chC M k) := (Om.now_perm hM _).comp (Om.now_perm hM _)
/-- What Types says. -/
theorem types_any (vm : Value) (g : Gm) (w : World) (hm : MacAt w vm g) : Calls Try.prog 11 #[vm] w fun e w' => (gE g ≠ 0 ∧ e = .returned (.tuple #[.agg (sl3 0 fun _ => .slice none 0 0), .int .i64 (gE g)]) ∧ Below w.heap.size w w') ∨ (gE g = 0 ∧ ∃ V, e = .returned (.tuple #[.agg (sl3 3 V), .int .i64 0]) ∧ TysAt w' V 3 (chC (maOf g)) ∧ Below w.heap.size w w') := by
  have HC := fun W (hb : Below w.heap.size w W) => chart_any vm g W (hm.below hb)
  obtain ⟨a, b, c, rfl, _⟩ := hm
  unfold chA at HC
  by_cases hg : gE g = 0
  · obtain ⟨hM, _⟩ := ok_maOf hg
    rw [if_pos hg, hg] at HC
    refine (types_ok _ (chC_perm hM) a b c g.rf g.pl w HC).mono ?_
    rintro e w' h
    exact .inr ⟨hg, h⟩
  · rw [if_neg hg] at HC
    refine (types_bad a b c g.rf g.pl _ (ints_size _ _) (ints_one _ _) _ (by simpa using hg) w HC).mono ?_
    rintro e w' h
    exact .inl ⟨hg, h⟩
end Go.Proofs.Ythfjkhmedpilnaa
