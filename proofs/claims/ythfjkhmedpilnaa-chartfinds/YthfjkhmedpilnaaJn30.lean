/-
  Several texts, joined: ChTy, Fd1, Fd2.
-/
import Derived.Test.YthfjkhmedpilnaaChCh
import Derived.Test.YthfjkhmedpilnaaJn29
import Derived.Laws.AppendOwn
import Derived.Laws.AppendOwnNone
import Derived.WalkSpells
/-
  Contract of chart.Types.
-/
namespace Go.Proofs.Ythfjkhmedpilnaa
open Go.RowKit PK Vg

theorem run_index_three (P : Nat → Nat → Nat) (k : Nat) (hk : k < 3) (w : World) : (Instr.index 68 (.agg (ints 78 (flat P))) (.int .i64 (k : Int))).run Try.prog w = .ok (.agg (ints 26 (Pm.up (P k)))) w := by
  have hs : (sizeOf 25).run Try.prog w = .ok 26 w := by
    obtain ⟨i, hi, hz⟩ := Option.map_eq_some_iff.1 info_perm
    simp [sizeOf, typeInfo, hi, hz]
  have he : ((ints 78 (flat P)).extract (k * 26) (k * 26 + 26)) = ints 26 (Pm.up (P k)) := by
    apply Array.ext_getElem?
    intro j
    by_cases hj : j < 26
    · rw [ints_get _ hj, Array.getElem?_extract, if_pos (by rw [ints_size]; omega), ints_get _ (by omega)]
      unfold flat Pm.up
      rw [show (k * 26 + j) / 26 = k by omega, show (k * 26 + j) % 26 = j by omega]
    · rw [Array.getElem?_eq_none (by simp [ints_size]; omega), Array.getElem?_eq_none (by simp [ints_size]; omega)]
  have hp : (part 25 (ints 78 (flat P)) (k * 26)).run Try.prog w = .ok (.agg (ints 26 (Pm.up (P k)))) w := by
    unfold part isAgg
    simp only [Sem.run_bind, run_underlying Try.underlying25, Result.andThen_ok, Sem.run_pure, if_true, hs, he]
  generalize ints 78 (flat P) = cs at *
  generalize ints 26 (Pm.up (P k)) = cs2 at *
  simp [Instr.index, asIntOf, Sem.run_bind, run_underlying Try.underlying68, hs, hk, hp]
/-- Three slices. -/
def sl3 (k : Nat) (V : Nat → Value) : Array Value := tab 3 fun i => if i < k then V i else .slice none 0 0
theorem sl3_size (k : Nat) (V : Nat → Value) : (sl3 k V).size = 3 := tab_size _ _
theorem sl3_get (k : Nat) (V : Nat → Value) {i : Nat} (h : i < 3) : (sl3 k V)[i]? = some (if i < k then V i else .slice none 0 0) := tab_get _ h
theorem sl3_set {k : Nat} (V : Nat → Value) (v : Value) : (sl3 k V).setIfInBounds k v = sl3 (k + 1) (fun i => if i = k then v else V i) := by
  unfold sl3
  rw [tab_set]
  refine tab_ext fun i _ => ?_
  show (if i = k then v else if i < k then V i else .slice none 0 0) = if i < k + 1 then (if i = k then v else V i) else .slice none 0 0
  by_cases h : i = k
  · rw [if_pos h, if_pos (by omega), if_pos h]
  · rw [if_neg h]
    by_cases h2 : i < k
    · rw [if_pos h2, if_pos (by omega), if_neg h]
    · rw [if_neg h2, if_neg (by omega)]
theorem sl3_one {k : Nat} {V : Nat → Value} (h : ∀ i, i < k → (V i).oneCell' = true) : (sl3 k V).all (·.oneCell') = true := by
  rw [Array.all_eq_true_iff_forall_mem]
  intro v hv
  simp [sl3, tab] at hv
  obtain ⟨i, _, rfl⟩ := hv
  by_cases e : i < k
  · rw [if_pos e]; exact h i e
  · rw [if_neg e]; rfl
theorem v_info_sl3 : (Try.prog.info? 28).map (·.size) = some 3 := by kernel_rfl
theorem v_zero_sl3 : (Try.prog.info? 28).map (·.zero) = some (some (.agg (sl3 0 fun _ => .slice none 0 0))) := by kernel_rfl
theorem built_sl3 : Try.prog.built 28 [] = some (sl3 0 fun _ => .slice none 0 0) := by kernel_rfl
theorem sl3_none (V : Nat → Value) : sl3 0 V = sl3 0 fun _ => .slice none 0 0 := tab_ext fun i _ => by rw [if_neg (by omega), if_neg (by omega)]
theorem nums_of_own {w : World} {B : Nat} {v : Value} {l : List Nat} (h : OwnsN w B v l) : NumsAt w v l.length fun i => ((l.getD i 0 : Nat) : Int) := by
  have h' : w.ownsRow B 3 1 v l.length (nums l) := h
  rcases h'.2 with ⟨rfl, h0⟩ | ⟨g, cap, cur, rfl, hB, hg, hnc, hcm, hcs, htake⟩
  · exact ⟨none, 0, by rw [h0], by rw [h0]; decide, fun i hi => by omega⟩
  · refine ⟨_, cap, rfl, by omega, fun i hi => ⟨g, 0, rfl, ?_⟩⟩
    have h1 : (nums l)[i]? = some (.int .i64 ((l.getD i 0 : Nat) : Int)) := by simp [nums, hi, List.getD_eq_getElem?_getD]
    rw [← htake, List.getElem?_take_of_lt (by omega)] at h1
    rw [Nat.zero_add]
    exact RowAt.cell (w := w) (b := g) (T := 3) hg (by simpa using h1)
theorem own_slice' {w : World} {B : Nat} {v : Value} {l : List Nat} (h : OwnsN w B v l) : ∃ a c, v = .slice a l.length c := by
  have h' : w.ownsRow B 3 1 v l.length (nums l) := h
  rcases h'.2 with ⟨rfl, e⟩ | ⟨g, cap, cur, rfl, _⟩
  · exact ⟨none, 0, by rw [e]⟩
  · exact ⟨_, _, rfl⟩
theorem grown_row (W : World) (b : Nat) (d : Array Value) : W.grownBy (W.setRow b d) (some b) := by
  have := Below.setRow (Below.refl 0 W) b (Nat.zero_le _) d
  exact ⟨this.os, this.tape, this.output, this.size, fun k _ hne => setRow_other W b k d (fun e => hne (by rw [e]))⟩
/-- The types of the first k, told in slices. -/
def TysAt (W : World) (V : Nat → Value) (k : Nat) (P : Nat → Nat → Nat) : Prop := ∀ i, i < k → NumsAt W (V i) (typeOf (P i)).length fun j => (((typeOf (P i)).getD j 0 : Nat) : Int)
/-- What Types holds. -/
structure TyS (w W : World) (a b c : Value) (rf pl : Nat → Int) (P : Nat → Nat → Nat) (q4 q6 k : Nat) (V : Nat → Value) : Prop where
  mg : MgAt w W a b c rf pl
  res : RowAt W (w.heap.size + 1) 28 (sl3 0 fun _ => .slice none 0 0)
  out : RowAt W q6 28 (sl3 k V)
  q1 : w.heap.size + 1 < q4
  q2 : q4 < q6
  rows : TysAt W V k P
  far : ∀ i, i < k → ∀ p, (V i).ownBlock = some p → q6 < p
section
variable {w W W' : World} {a b c : Value} {rf pl : Nat → Int} {P : Nat → Nat → Nat} {q4 q6 k : Nat} {V : Nat → Value}
theorem TyS.step (h : TyS w W a b c rf pl P q4 q6 k V) (hb : Below W.heap.size W W') : TyS w W' a b c rf pl P q4 q6 k V := ⟨h.mg.step hb, h.res.below hb h.res.lt, h.out.below hb h.out.lt, h.q1, h.q2, fun i hi => (h.rows i hi).below hb, h.far⟩
theorem TyS.put (h : TyS w W a b c rf pl P q4 q6 k V) {v : Value} {B : Nat} (hB : q6 < B) (ho : OwnsN W B v (typeOf (P k))) : TyS w (W.setCell ⟨q6, k, none⟩ v) a b c rf pl P q4 q6 (k + 1) (fun i => if i = k then v else V i) := by
  have h1 := h.q1
  have h2 := h.q2
  have hgs := grown_set W q6 k v
  have hfv : ∀ p, v.ownBlock = some p → q6 < p := fun p hp => by
    have h3 : W.ownsRow B 3 1 v (typeOf (P k)).length (nums (typeOf (P k))) := ho
    have := (World.ownsRow.lt h3 p hp).1
    omega
  refine ⟨⟨h.mg.row.setOther _ _ (by show w.heap.size ≠ q6; omega), h.mg.below.setCell (p := ⟨q6, k, none⟩) (by show w.heap.size ≤ q6; omega) _⟩, h.res.setOther _ _ (by show w.heap.size + 1 ≠ q6; omega), ?_, h.q1, h.q2, fun i hi => ?_, fun i hi p hp => ?_⟩
  · have := h.out.set k v
    rw [sl3_set] at this
    exact this
  · show NumsAt _ (if i = k then v else V i) _ _
    by_cases e : i = k
    · rw [if_pos e, e]
      exact nums_grown (nums_of_own ho) hgs (fun p hp e2 => by have := hfv p hp; cases e2; omega)
    · rw [if_neg e]
      exact nums_grown (h.rows i (by omega)) hgs (fun p hp e2 => by have := h.far i (by omega) p hp; cases e2; omega)
  · have hp' : (if i = k then v else V i).ownBlock = some p := hp
    by_cases e : i = k
    · rw [if_pos e] at hp'; exact hfv p hp'
    · rw [if_neg e] at hp'; exact h.far i (by omega) p hp'
end
structure TzAt (w W : World) (a b c : Value) (rf pl : Nat → Int) : Prop where
  mg : MgAt w W a b c rf pl
  res : RowAt W (w.heap.size + 1) 28 (sl3 0 fun _ => .slice none 0 0)
theorem TzAt.new (w : World) (a b c : Value) (rf pl : Nat → Int) : TzAt w ((w.alloc (.cells (mac a b c rf pl) 27)).alloc (.cells (sl3 0 fun _ => .slice none 0 0) 28)) a b c rf pl := by
  have h := RowAt.new (w.alloc (.cells (mac a b c rf pl) 27)) 28 (sl3 0 fun _ => .slice none 0 0)
  rw [World.size_alloc] at h
  exact ⟨(MgAt.new w a b c rf pl).alloc _, h⟩
theorem TzAt.step {w W W' : World} {a b c : Value} {rf pl : Nat → Int} (h : TzAt w W a b c rf pl) (hb : Below W.heap.size W W') : TzAt w W' a b c rf pl := ⟨h.mg.step hb, h.res.below hb h.res.lt⟩
set_option maxRecDepth 100000 in
set_option maxHeartbeats 2000000 in
theorem types_bad (a b c : Value) (rf pl : Nat → Int) (A : Array Value) (hA : Hid (A.size = 78)) (hA1 : Hid (A.all (·.oneCell') = true)) (E : Int) (hE : (E != 0) = true) (w : World) (HW : Hid (∀ W, Below w.heap.size w W → Calls Try.prog 28 #[.agg (mac a b c rf pl)] W fun e w' => e = .returned (.tuple #[.agg A, .int .i64 E]) ∧ Below W.heap.size W w')) : Calls Try.prog 11 #[.agg (mac a b c rf pl)] w fun e w' => e = .returned (.tuple #[.agg (sl3 0 fun _ => .slice none 0 0), .int .i64 E]) ∧ Below w.heap.size w w' := by
  have h0 := TzAt.new w a b c rf pl
  have hz3 := o_zero v_zero_sl3
  have hz78 := o_zero v_zero_three
  go_enter Try.func11, Try.ntmps11
  go_wp2_with (first | refine wpList_load_row rfl 27 _ rfl w.heap.size rfl 27 (mac a b c rf pl) (0, 0) _ h0.mg.row Try.underlying27 rfl (by rw [mac_size]; exact v_info_mac) ?_)
  refine (HW.out _ h0.mg.below).mono ?_
  rintro e W1 ⟨rfl, hb⟩
  have h1 := h0.step hb
  have hl1 := h1.res.lt
  clear hb h0 HW hz3
  have HR := (show Hid (RowAt ((W1.alloc (.cells (ints 78 fun _ => 0) 68)).setRow W1.heap.size A) (w.heap.size + 1) 28 (sl3 0 fun _ => .slice none 0 0)) from (h1.res.alloc (.cells (ints 78 fun _ => 0) 68)).rowOther W1.heap.size A (by omega))
  have HBE := (show Hid _ from Below.setRow (Below.setRow (h1.mg.below.alloc h1.mg.below.size (.cells (ints 78 fun _ => 0) 68)) W1.heap.size h1.mg.below.size A) (w.heap.size + 1) (by omega) (sl3 0 fun _ => .slice none 0 0))
  clear h1 hl1
  go_wp2_with (first | refine wpList_build0 rfl 28 rfl (sl3 0 fun _ => .slice none 0 0) built_sl3 ?_ | refine wpList_store_row rfl 68 _ _ rfl W1.heap.size A rfl rfl 68 _ (RowAt.new W1 _ _) (by rw [hA.out]; exact v_info_three) (by rw [hA.out, ints_size]) hA1.out ?_ | refine wpList_store_row rfl 28 _ _ rfl (w.heap.size + 1) (sl3 0 fun _ => .slice none 0 0) rfl rfl 28 _ HR.out (by rw [sl3_size]; exact v_info_sl3) (by simp only [sl3_size]) (sl3_one fun i hi => by omega) ?_)
  exact bodyPost_ret (v := .tuple #[.agg (sl3 0 fun _ => .slice none 0 0), .int .i64 E]) (results_cell_tmp2 rfl _ _ (w.heap.size + 1) 28 _ (0, 0) _ _ rfl rfl (HR.out.row _) Try.underlying28 rfl (by rw [sl3_size]; exact v_info_sl3)) rfl ⟨rfl, HBE.out⟩
set_option maxRecDepth 100000 in
set_option maxHeartbeats 4000000 in
theorem types_ok (P : Nat → Nat → Nat) (hP : ∀ k, Pm.IsPerm (P k)) (a b c : Value) (rf pl : Nat → Int) (w : World) (HW : Hid (∀ W, Below w.heap.size w W → Calls Try.prog 28 #[.agg (mac a b c rf pl)] W fun e w' => e = .returned (.tuple #[.agg (ints 78 (flat P)), .int .i64 0]) ∧ Below W.heap.size W w')) : Calls Try.prog 11 #[.agg (mac a b c rf pl)] w fun e w' => ∃ V, e = .returned (.tuple #[.agg (sl3 3 V), .int .i64 0]) ∧ TysAt w' V 3 P ∧ Below w.heap.size w w' := by
  have h0 := TzAt.new w a b c rf pl
  have hz3 := o_zero v_zero_sl3
  have hz78 := o_zero v_zero_three
  have HPP := (show Hid _ from hP)
  clear hP
  go_enter Try.func11, Try.ntmps11
  go_wp2_with (first | refine wpList_load_row rfl 27 _ rfl w.heap.size rfl 27 (mac a b c rf pl) (0, 0) _ h0.mg.row Try.underlying27 rfl (by rw [mac_size]; exact v_info_mac) ?_)
  refine (HW.out _ h0.mg.below).mono ?_
  rintro e W1 ⟨rfl, hb⟩
  have h1 := h0.step hb
  have hl1 := h1.res.lt
  clear hb h0 HW
  go_upto_region 4 with (first | refine wpList_store_row rfl 68 _ _ rfl W1.heap.size (ints 78 (flat P)) rfl rfl 68 _ (RowAt.new W1 _ _) (by rw [ints_size]; exact v_info_three) (by simp only [ints_size]) (ints_one _ _) ?_)
  have hr4 := (RowAt.new W1 68 (ints 78 fun _ => 0)).row (ints 78 (flat P))
  have hb4 := Below.setRow ((Below.refl W1.heap.size W1).alloc (Nat.le_refl _) (.cells (ints 78 fun _ => 0) 68)) W1.heap.size (Nat.le_refl _) (ints 78 (flat P))
  have h4 := h1.step hb4
  clear hb4
  generalize (W1.alloc (.cells (ints 78 fun _ => 0) 68)).setRow W1.heap.size (ints 78 (flat P)) = V4 at *
  obtain ⟨q4, hq4⟩ : ∃ x, x = W1.heap.size := ⟨_, rfl⟩
  rw [← hq4] at hr4 hl1 ⊢
  have hl4 := hr4.lt
  clear hq4 h1 hz78
  go_upto_region 5 with fail
  have hr4' := hr4.alloc (.cells (sl3 0 fun _ => .slice none 0 0) 28)
  have hg0 : TyS w (V4.alloc (.cells (sl3 0 fun _ => .slice none 0 0) 28)) a b c rf pl P q4 V4.heap.size 0 (fun _ => .slice none 0 0) := ⟨h4.mg.alloc _, h4.res.alloc _, RowAt.new V4 _ _, hl1, hl4, fun i hi => by omega, fun i hi => by omega⟩
  generalize V4.alloc (.cells (sl3 0 fun _ => .slice none 0 0) 28) = V5 at *
  obtain ⟨q6, hq6⟩ : ∃ x, x = V4.heap.size := ⟨_, rfl⟩
  rw [← hq6] at hg0 ⊢
  clear hq6 h4 hr4 hl1 hl4 hz3
  go_wp2_with (first | refine wpList_load_row rfl 68 _ rfl q4 rfl 68 (ints 78 (flat P)) (0, 0) _ hr4' Try.underlying68 rfl (by rw [ints_size]; exact v_info_three) ?_)
  clear hr4'
  go_loopw [19] (fun i W => ∃ (k : Nat) (V : Nat → Value), k ≤ 3 ∧ i = .int .i64 (k : Nat) ∧ TyS w W a b c rf pl P q4 q6 k V) (fun i _ => ((3 : Int) - intOf i).toNat)
  case atStart => exact ⟨0, _, by omega, rfl, hg0⟩
  case round =>
    clear hg0
    obtain ⟨k, V, hk, rfl, hg⟩ := hrel
    by_cases hlt : k < 3
    · have HLT : Hid (k < 3) := hlt
      have hlt2 : (k : Int) < 3 := by omega
      have hix := run_index_three P k hlt
      have hz26 := o_zero v_zero_perm
      have hpk := HPP.out k
      obtain ⟨pk, hpe⟩ : ∃ p, p = P k := ⟨_, rfl⟩
      rw [← hpe] at hix hpk
      have HPE := (show Hid _ from hpe)
      have HG := (show Hid _ from hg)
      clear hpe hg hlt
      go_upto_region 8 with (first | refine wpList_store_row rfl 25 _ _ rfl wr.heap.size (ints 26 (Pm.up pk)) rfl rfl 25 _ (RowAt.new wr _ _) (by rw [ints_size]; exact info_perm) (by simp only [ints_size]) (ints_one _ _) ?_)
      have hr8 := (RowAt.new wr 25 (ints 26 fun _ => 0)).row (ints 26 (Pm.up pk))
      have hb8 := Below.setRow ((Below.refl wr.heap.size wr).alloc (Nat.le_refl _) (.cells (ints 26 fun _ => 0) 25)) wr.heap.size (Nat.le_refl _) (ints 26 (Pm.up pk))
      have hg8 := HG.out.step hb8
      generalize (wr.alloc (.cells (ints 26 fun _ => 0) 25)).setRow wr.heap.size (ints 26 (Pm.up pk)) = X at *
      obtain ⟨q8, hq8⟩ : ∃ x, x = wr.heap.size := ⟨_, rfl⟩
      rw [← hq8] at hr8 ⊢
      clear hq8 hix hz26 hb8 HG
      go_wp2_with (first | refine wpList_load_row rfl 25 _ rfl q8 rfl 25 (ints 26 (Pm.up pk)) (0, 0) _ hr8 Try.underlying25 rfl (by rw [ints_size]; exact info_perm) ?_)
      refine (type_ok pk hpk _).mono ?_
      rintro e Y ⟨v, rfl, hov, hb⟩
      have hg9 := hg8.step hb
      rw [HPE.out] at hov
      have HNX := (show Hid _ from hg9.put hg8.out.lt hov)
      obtain ⟨av, cv, hev⟩ := own_slice' hov
      have hck := hg9.out.cell (sl3_get k V HLT.out)
      rw [if_neg (Nat.lt_irrefl _)] at hck
      have hfk := hg9.out.frozen k
      clear hg8 hg9 hb hov hr8 hpk
      rw [hev] at HNX ⊢
      clear hev
      go_wp2
      go_roundw
      case rel => exact ⟨k + 1, _, HLT.out, by go_num, HNX.out⟩
      case measure => have := HLT.out; simp [intOf]; omega
    · obtain rfl : k = 3 := by omega
      have hor := hg.out
      have hrs := hg.res
      have hbe := hg.mg.below
      have hq1 := hg.q1
      have hq2 := hg.q2
      have hone : (sl3 3 V).all (·.oneCell') = true := sl3_one fun i hi => one_nums (hg.rows i hi)
      have HRW : Hid (TysAt (wr.setRow (w.heap.size + 1) (sl3 3 V)) V 3 P) := fun i hi => nums_grown (hg.rows i hi) (grown_row wr (w.heap.size + 1) (sl3 3 V)) (fun p hp e => by have := hg.far i hi p hp; cases e; omega)
      have HONE := (show Hid _ from hone)
      clear hg hlt hone
      go_wp2_with (first | refine wpList_load_row rfl 28 _ rfl q6 rfl 28 (sl3 3 V) (0, 0) _ hor Try.underlying28 rfl (by rw [sl3_size]; exact v_info_sl3) ?_ | refine wpList_store_row rfl 28 _ _ rfl (w.heap.size + 1) (sl3 3 V) rfl rfl 28 _ hrs (by rw [sl3_size]; exact v_info_sl3) (by simp only [sl3_size]) HONE.out ?_)
      exact bodyPost_ret (v := .tuple #[.agg (sl3 3 V), .int .i64 0]) (results_cell_tmp2 rfl _ _ (w.heap.size + 1) 28 _ (0, 0) _ _ rfl rfl (hrs.row _) Try.underlying28 rfl (by rw [sl3_size]; exact v_info_sl3)) rfl ⟨V, rfl, HRW.out, Below.setRow hbe _ (by omega) _⟩
theorem chC_perm {M : Om.Ma} (hM : Om.Ok M) (k : Nat) : Pm.IsPerm (chC M k) := (Om.now_perm hM _).comp (Om.now_perm hM _)
/-- What Types says. -/
theorem types_any (vm : Value) (g : Gm) (w : World) (hm : MacAt w vm g) : Calls Try.prog 11 #[vm] w fun e w' => (gE g ≠ 0 ∧ e = .returned (.tuple #[.agg (sl3 0 fun _ => .slice none 0 0), .int .i64 (gE g)]) ∧ Below w.heap.size w w') ∨ (gE g = 0 ∧ ∃ V, e = .returned (.tuple #[.agg (sl3 3 V), .int .i64 0]) ∧ TysAt w' V 3 (chC (maOf g)) ∧ Below w.heap.size w w') := by
  have HC := fun W (hb : Below w.heap.size w W) => chart_any vm g W (hm.below hb)
  obtain ⟨a, b, c, rfl, _⟩ := hm
  unfold chA at HC
  by_cases hg : gE g = 0
  · obtain ⟨hM, _⟩ := ok_maOf hg
    rw [if_pos hg, hg] at HC
    refine (types_ok _ (chC_perm hM) a b c g.rf g.pl w HC).mono ?_
    rintro e w' h
    exact .inr ⟨hg, h⟩
  · rw [if_neg hg] at HC
    refine (types_bad a b c g.rf g.pl _ (ints_size _ _) (ints_one _ _) _ (by simpa using hg) w HC).mono ?_
    rintro e w' h
    exact .inl ⟨hg, h⟩
end Go.Proofs.Ythfjkhmedpilnaa

/-
  Contracts of chart's windows, and of slices.Clone of numbers (chapter 9).
-/
namespace Go.Proofs.Ythfjkhmedpilnaa
open Go.RowKit PK Vg

/-- The letters that come N-th in m windows. -/
def dig (m N i : Nat) : Nat := N / 26 ^ (m - 1 - i) % 26
theorem dig_lt (m N i : Nat) : dig m N i < 26 := Nat.mod_lt _ (by decide)
/-- The last ones are told, from k on. -/
def digF (m N k : Nat) : Nat → Int := fun i => if k ≤ i then ((dig m N i : Nat) : Int) else 0
theorem digF_start (m N : Nat) : (ints m fun _ => 0) = ints m (digF m N m) := ints_ext fun i hi => by unfold digF; rw [if_neg (by omega)]
theorem digF_next (m N k : Nat) : ints m (upd (digF m N (k + 1)) k ((dig m N k : Nat) : Int)) = ints m (digF m N k) := ints_ext fun i hi => by
  unfold upd
  by_cases e : i = k
  · rw [if_pos e]
    unfold digF
    rw [if_pos (by omega), e]
  · rw [if_neg e]
    unfold digF
    by_cases e2 : k ≤ i
    · rw [if_pos e2, if_pos (by omega)]
    · rw [if_neg e2, if_neg (by omega)]
theorem digF_all (m N : Nat) : ints m (digF m N 0) = ints m fun i => ((dig m N i : Nat) : Int) := ints_ext fun i hi => by unfold digF; rw [if_pos (Nat.zero_le _)]
theorem f_made_tab (z : Value) (n : Nat) : madeCells #[z] n = tab n fun _ => z := by
  unfold madeCells tab
  apply Array.ext
  · simp
  · intro i h1 h2
    simp [Nat.mod_one]
theorem f_info_int : (Try.prog.info? 3).map (fun i => (i.zero, i.size, i.bytes)) = some (some (.int .i64 0), 1, 8) := by kernel_rfl
theorem f_info_parts {P : Program} {e : TypeId} {z : Value} {s b : Nat} (h : (P.info? e).map (fun i => (i.zero, i.size, i.bytes)) = some (some z, s, b)) : ∃ i, P.info? e = some i ∧ i.zero = some z ∧ i.size = s ∧ i.bytes = b := by
  obtain ⟨i, hi, hzz⟩ := Option.map_eq_some_iff.1 h
  simp only [Prod.mk.injEq] at hzz
  exact ⟨i, hi, hzz.1, hzz.2.1, hzz.2.2⟩
theorem pow26_le {m : Nat} (hm : m ≤ 4) : 26 ^ m ≤ 456976 := by
  rcases (by omega : m = 0 ∨ m = 1 ∨ m = 2 ∨ m = 3 ∨ m = 4) with rfl | rfl | rfl | rfl | rfl <;> decide
set_option maxRecDepth 100000 in
set_option maxHeartbeats 2000000 in
theorem pwin_any (m N : Nat) (hm : m ≤ 4) (hN : N < 26 ^ m) (w : World) : Calls Try.prog 79 #[.int .i64 (m : Nat), .int .i64 (N : Nat)] w fun e w' => ∃ g, e = .returned (.slice (some ⟨g, 0, none⟩) m m) ∧ RowAt w' g 3 (ints m fun i => ((dig m N i : Nat) : Int)) ∧ w.heap.size ≤ g ∧ Below w.heap.size w w' := by
  have hmk := run_make_row' (P := Try.prog) 23 3 (.int .i64 0) 8 Try.underlying23 f_info_int rfl .i64 .i64 m (by omega) (by omega)
  rw [f_made_tab] at hmk
  have h2 : RowAt (w.alloc (.cells (tab m fun _ => .int .i64 0) 3)) w.heap.size 3 (ints m fun _ => 0) := RowAt.new w _ _
  rw [digF_start m N] at h2
  have hb2 := (Below.refl w.heap.size w).alloc (Nat.le_refl _) (.cells (tab m fun _ => .int .i64 0) 3)
  have hNb : N < 456976 := Nat.lt_of_lt_of_le hN (pow26_le hm)
  clear hN
  go_enter Try.func79, Try.ntmps79
  go_upto_region 2 with fail
  generalize w.alloc (.cells (tab m fun _ => .int .i64 0) 3) = W2 at *
  clear hmk
  go_wp2_with fail
  go_loopw [1, 6] (fun n x W => ∃ k D : Nat, k ≤ m ∧ D ≤ N ∧ n = .int .i64 (D : Nat) ∧ x = .int .i64 ((k : Int) - 1) ∧ Hid (D = N / 26 ^ (m - k)) ∧ RowAt W w.heap.size 3 (ints m (digF m N k)) ∧ Below w.heap.size w W) (fun _ x _ => (intOf x + 1).toNat)
  case atStart => exact ⟨m, N, Nat.le_refl _, Nat.le_refl _, rfl, rfl, by rw [Hid, Nat.sub_self, Nat.pow_zero, Nat.div_one], h2, hb2⟩
  case round =>
    clear h2 hb2
    obtain ⟨k, D, hk, hD, rfl, rfl, HD, hro, hbe⟩ := hrel
    cases k with
    | zero =>
      rw [digF_all] at hro
      have HRO := (show Hid _ from hro)
      have HBE := (show Hid _ from hbe)
      clear hro hbe HD
      go_wp2
      go_ret
      exact ⟨w.heap.size, by first | rfl | trivial, HRO.out, Nat.le_refl _, HBE.out⟩
    | succ c =>
      have hcs : (((c + 1 : Nat) : Int)) - 1 = (c : Int) := by omega
      rw [hcs]
      have HCM : Hid (c < m) := hk
      have hcm : (c : Int) < (m : Int) := by omega
      have hcell := hro.cell (ints_get (digF m N (c + 1)) (i := c) hk)
      have hfz := hro.frozen c
      have hrem : ((D : Int)).tmod 26 = ((D % 26 : Nat) : Int) := by rw [Int.tmod_eq_emod_of_nonneg (by omega)]; push_cast; rfl
      have hrem2 : ((D : Int)) % 26 = ((D % 26 : Nat) : Int) := by push_cast; rfl
      have hquo : ((D : Int)).tdiv 26 = ((D / 26 : Nat) : Int) := by rw [Int.tdiv_eq_ediv_of_nonneg (by omega)]; push_cast; rfl
      have hquo2 : ((D : Int)) / 26 = ((D / 26 : Nat) : Int) := by push_cast; rfl
      have HDG : Hid (D % 26 = dig m N c) := by rw [Hid, HD.out]; unfold dig; rw [show m - (c + 1) = m - 1 - c by omega]
      have HDN : Hid (D / 26 = N / 26 ^ (m - c)) := by rw [Hid, HD.out, Nat.div_div_eq_div_mul, ← Nat.pow_succ, Nat.succ_eq_add_one, show m - (c + 1) + 1 = m - c by omega]
      have hdl : D / 26 ≤ D := Nat.div_le_self _ _
      have hml := Nat.mod_lt D (show 0 < 26 by decide)
      have HST := (show Hid _ from digF_next m N c)
      have HN : Hid (∀ x, x = D % 26 → RowAt (wr.setCell ⟨w.heap.size, c, none⟩ (.int .i64 ((x : Nat) : Int))) w.heap.size 3 (ints m (digF m N c)) ∧ Below w.heap.size w (wr.setCell ⟨w.heap.size, c, none⟩ (.int .i64 ((x : Nat) : Int)))) := fun x hx => by
        refine ⟨?_, hbe.setCell (p := ⟨w.heap.size, c, none⟩) (Nat.le_refl _) _⟩
        have h1 := hro.set c (.int .i64 ((x : Nat) : Int))
        rw [ints_set, hx, HDG.out, HST.out] at h1
        rw [hx, HDG.out]
        exact h1
      have HN2 := (show Hid _ from HN.out _ rfl)
      generalize digF m N (c + 1) c = oc at *
      generalize D % 26 = x at *
      generalize D / 26 = D2 at *
      clear hro hbe HD HN HST HDG hcs hk
      go_wp2
      go_roundw
      case rel => exact ⟨c, D2, by have := HCM.out; omega, by omega, by first | rfl | go_num, by go_num, HDN.out, HN2.out.1, HN2.out.2⟩
      case measure => simp [intOf]
/-- What the call owns is numbers. -/
theorem own_nums {w : World} {B n : Nat} {v : Value} {f : Nat → Int} (h : w.ownsRow B 3 1 v n (ints n f).toList) : NumsAt w v n f := by
  have hx := h
  rcases h.2 with ⟨rfl, h0⟩ | ⟨g, cap, cur, rfl, hbg, hg, hnc, hcm, hcs, htake⟩
  · exact ⟨none, 0, by rw [h0], by rw [h0]; decide, fun c hc => by omega⟩
  · refine ⟨some ⟨g, 0, none⟩, cap, rfl, by omega, fun c hc => ⟨g, 0, rfl, ?_⟩⟩
    have h1 : (ints n f).toList[c]? = some (.int .i64 (f c)) := by
      have ex : (ints n f).toList[c]? = (ints n f)[c]? := Array.getElem?_toList
      rw [ex, ints_get f hc]
    have := World.ownsRow.cells (g := g) hx rfl c _ h1
    have e : ((⟨g, 0, none⟩ : Addr).add c) = ⟨g, 0 + c, none⟩ := by unfold Addr.add; by_cases e0 : c = 0 <;> simp [e0]
    rw [e] at this
    exact this
theorem f_own_full {w : World} {g B n : Nat} {T : TypeId} {c : Array Value} (h : RowAt w g T c) (hB : B ≤ g) (hn : c.size = n) (hm : n ≤ maxLen) : w.ownsRow B T 1 (.slice (some ⟨g, 0, none⟩) n n) n c.toList :=
  ⟨by simp [hn], .inr ⟨g, n, c, rfl, hB, h, Nat.le_refl _, hm, by simp [hn], by rw [Nat.mul_one, ← hn, ← Array.length_toList, List.take_length]⟩⟩
theorem add_none (b o j : Nat) : ((⟨b, o, none⟩ : Addr).add j) = ⟨b, o + j, none⟩ := by unfold Addr.add; by_cases e0 : j = 0 <;> simp [e0]
set_option maxRecDepth 100000 in
set_option maxHeartbeats 2000000 in
theorem pclone_any (v : Value) (n : Nat) (f : Nat → Int) (hn : n * 8 ≤ 140737488355328) (w : World) (hv : NumsAt w v n f) : Calls Try.prog 35 #[v] w fun e w' => ∃ v', e = .returned v' ∧ NumsAt w' v' n f ∧ (∀ b o cp, v' = .slice (some ⟨b, o, none⟩) n cp → w.heap.size ≤ b) ∧ Below w.heap.size w w' := by
  obtain ⟨i0, hi0, hz0, hz1, hz2⟩ := f_info_parts f_info_int
  obtain ⟨a, cap, rfl, hmx, hc⟩ := hv
  unfold maxLen at hmx
  cases a with
  | none =>
    have h0 : n = 0 := by
      rcases Nat.eq_zero_or_pos n with h | h
      · exact h
      · obtain ⟨b, o, e, _⟩ := hc 0 h
        cases e
    subst h0
    clear hc
    have heq : ∀ W, (binOp .eql 23 (.slice none 0 cap) (.slice none 0 0)).run Try.prog W = .ok (.bool true) W := fun _ => rfl
    go_enter Try.func35, Try.ntmps35
    go_wp2
    go_ret
    exact ⟨_, rfl, ⟨none, 0, rfl, by decide, fun c hc => by omega⟩, fun b o cp e => (by cases e), Below.refl _ _⟩
  | some ad =>
    have hnews : ∀ W, Below w.heap.size w W → ∀ j u, (ints n f).toList[j]? = some u → W.cell? (ad.add j) = some u := fun W hb j u hu => by
      have ex : (ints n f).toList[j]? = (ints n f)[j]? := Array.getElem?_toList
      rw [ex] at hu
      have hj : j < n := by have := (Array.getElem?_eq_some_iff.1 hu).1; rwa [ints_size] at this
      rw [ints_get f hj] at hu
      obtain ⟨b, o, e, hcell⟩ := hc j hj
      cases e
      rw [add_none, ← hu]
      exact (hb.cell (p := ⟨b, o + j, none⟩) (cell_block hcell)).trans hcell
    have HNW := (show Hid _ from hnews)
    have hone : ∀ u ∈ (ints n f).toList, u.oneCell' = true := fun u hu => by
      have := ints_one n f
      rw [Array.all_eq_true_iff_forall_mem] at this
      exact this u (by simpa using hu)
    have HON := (show Hid _ from hone)
    have how : (w.alloc (.cells #[] 3)).ownsRow w.heap.size 3 1 (.slice (some ⟨w.heap.size, 0, none⟩) 0 0) 0 [] := f_own_full (RowAt.new w 3 #[]) (Nat.le_refl _) rfl (by decide)
    have hb1 := (Below.refl w.heap.size w).alloc (Nat.le_refl _) (.cells #[] 3)
    have heq : ∀ W, (binOp .eql 23 (.slice (some ad) n cap) (.slice none 0 0)).run Try.prog W = .ok (.bool false) W := fun _ => rfl
    clear hc hnews hone
    go_enter Try.func35, Try.ntmps35
    go_wp2_with (first | (at_builtin; refine wpList_append_own _ rfl _ _ 23 rfl w.heap.size 3 i0 (.int .i64 0) 1 8 Try.underlying23 hi0 hz0 hz1 hz2 rfl (by decide) _ _ _ rfl how ad n cap (ints n f).toList rfl (by rw [Array.length_toList, ints_size, Nat.mul_one]) (HNW.out _ hb1) HON.out (by unfold maxLen; omega) (by omega) (by simp) ?_; intro v' w1 hown' hgrow _))
    go_ret
    rw [Nat.zero_add, List.nil_append] at hown'
    refine ⟨v', rfl, own_nums hown', fun b o cp e => ?_, hb1.grown hgrow (by simp) (fun p hp => (World.ownsRow.lt how p hp).1)⟩
    rcases hown'.2 with ⟨e2, _⟩ | ⟨g, _, _, e2, hbg, _⟩
    · rw [e2] at e; cases e
    · rw [e2] at e; cases e; exact hbg
end Go.Proofs.Ythfjkhmedpilnaa

/-
  Contracts of slices.Clone of wheels, and of chart's standing (chapter 9).
-/
namespace Go.Proofs.Ythfjkhmedpilnaa
open Go.RowKit PK Vg

theorem mac_set2 (a b c c2 : Value) (rf pl : Nat → Int) : (mac a b c rf pl).setIfInBounds 2 c2 = mac a b c2 rf pl := by
  unfold mac
  rw [Array.append_assoc, Array.append_assoc, Array.setIfInBounds_append_left (by simp)]
  rfl
theorem mac_set1 (a b c c2 : Value) (rf pl : Nat → Int) : (mac a b c rf pl).setIfInBounds 1 c2 = mac a c2 c rf pl := by
  unfold mac
  rw [Array.append_assoc, Array.append_assoc, Array.setIfInBounds_append_left (by simp)]
  rfl
theorem mac_set0 (a b c c2 : Value) (rf pl : Nat → Int) : (mac a b c rf pl).setIfInBounds 0 c2 = mac c2 b c rf pl := by
  unfold mac
  rw [Array.append_assoc, Array.append_assoc, Array.setIfInBounds_append_left (by simp)]
  rfl
/-- The cells of wheels, one behind the other. -/
def whC (wi : Nat → Nat → Int) (R : Nat → Value) (i : Nat) : Value := if i % 27 < 26 then .int .i64 (wi (i / 27) (i % 27)) else R (i / 27)
theorem whC_whl (wi : Nat → Nat → Int) (R : Nat → Value) (r j : Nat) (hj : j < 27) : (whl (wi r) (R r))[j]? = some (whC wi R (r * 27 + j)) := by
  unfold whC
  rw [show (r * 27 + j) / 27 = r by omega, show (r * 27 + j) % 27 = j by omega]
  by_cases h : j < 26
  · rw [if_pos h, whl_get _ _ h]
  · rw [if_neg h, show j = 26 by omega, whl_last]
theorem whC_one {wi : Nat → Nat → Int} {R : Nat → Value} {n : Nat} (h : ∀ r, r < n → (R r).oneCell' = true) : ∀ u ∈ (tab (n * 27) (whC wi R)).toList, u.oneCell' = true := fun u hu => by
  simp [tab] at hu
  obtain ⟨i, hi, rfl⟩ := hu
  unfold whC
  by_cases h1 : i % 27 < 26
  · rw [if_pos h1]; rfl
  · rw [if_neg h1]; exact h _ (by omega)
theorem f_info_wheel : (Try.prog.info? 62).map (fun i => (i.zero, i.size, i.bytes)) = some (some (.agg (whl (fun _ => 0) (.slice none 0 0))), 27, 232) := by kernel_rfl
theorem f_size_wheel : (Try.prog.info? 62).map (·.size) = some 27 := by kernel_rfl
theorem f_zero_wheel : (Try.prog.info? 62).map (·.zero) = some (some (.agg (whl (fun _ => 0) (.slice none 0 0)))) := by kernel_rfl
theorem f_size_ints : (Try.prog.info? 23).map (·.size) = some 1 := by kernel_rfl
theorem f_size_wheels : (Try.prog.info? 22).map (·.size) = some 1 := by kernel_rfl
set_option maxRecDepth 100000 in
set_option maxHeartbeats 2000000 in
theorem pclw_any (b o n cap : Nat) (wi : Nat → Nat → Int) (R : Nat → Value) (hn : n ≤ 4) (hR : ∀ r, r < n → (R r).oneCell' = true) (w : World) (hc : ∀ r, r < n → w.rangeAt b (o + r * 27) (whl (wi r) (R r)).toList) :
    Calls Try.prog 94 #[.slice (some ⟨b, o, none⟩) n cap] w fun e w' => ∃ g cp cur, e = .returned (.slice (some ⟨g, 0, none⟩) n cp) ∧ RowAt w' g 62 cur ∧ (∀ i, i < n * 27 → cur[i]? = some (whC wi R i)) ∧ w.heap.size ≤ g ∧ Below w.heap.size w w' := by
  obtain ⟨i0, hi0, hz0, hz1, hz2⟩ := f_info_parts f_info_wheel
  have hlen : (tab (n * 27) (whC wi R)).toList.length = n * 27 := by rw [Array.length_toList, tab_size]
  have hget : ∀ j, j < n * 27 → (tab (n * 27) (whC wi R)).toList[j]? = some (whC wi R j) := fun j hj => by
    have ex : (tab (n * 27) (whC wi R)).toList[j]? = (tab (n * 27) (whC wi R))[j]? := Array.getElem?_toList
    rw [ex, tab_get _ hj]
  have hnews : ∀ W, Below w.heap.size w W → ∀ j u, (tab (n * 27) (whC wi R)).toList[j]? = some u → W.cell? ((⟨b, o, none⟩ : Addr).add j) = some u := fun W hb j u hu => by
    have hj : j < n * 27 := by have := (List.getElem?_eq_some_iff.1 hu).1; rwa [hlen] at this
    rw [hget j hj] at hu
    have h1 := hc (j / 27) (by omega) (j % 27) (whC wi R j) (by
      have ex : (whl (wi (j / 27)) (R (j / 27))).toList[j % 27]? = (whl (wi (j / 27)) (R (j / 27)))[j % 27]? := Array.getElem?_toList
      rw [ex, whC_whl _ _ _ _ (Nat.mod_lt _ (by decide)), show j / 27 * 27 + j % 27 = j by omega])
    rw [show o + j / 27 * 27 + j % 27 = o + j by omega] at h1
    rw [add_none, ← hu]
    exact (hb.cell (p := ⟨b, o + j, none⟩) (cell_block h1)).trans h1
  have HNW := (show Hid _ from hnews)
  have HON := (show Hid _ from whC_one (wi := wi) hR)
  have HGT := (show Hid _ from hget)
  have how : (w.alloc (.cells #[] 62)).ownsRow w.heap.size 62 27 (.slice (some ⟨w.heap.size, 0, none⟩) 0 0) 0 [] := ⟨by simp, .inr ⟨w.heap.size, 0, #[], rfl, Nat.le_refl _, RowAt.new w 62 #[], Nat.le_refl _, by decide, by simp, by simp⟩⟩
  have hb1 := (Below.refl w.heap.size w).alloc (Nat.le_refl _) (.cells #[] 62)
  have heq : ∀ W, (binOp .eql 22 (.slice (some ⟨b, o, none⟩) n cap) (.slice none 0 0)).run Try.prog W = .ok (.bool false) W := fun _ => rfl
  generalize (tab (n * 27) (whC wi R)).toList = L at *
  clear hc hnews hget hR
  go_enter Try.func94, Try.ntmps94
  go_wp2_with (first | (at_builtin; refine wpList_append_own _ rfl _ _ 22 rfl w.heap.size 62 i0 (.agg (whl (fun _ => 0) (.slice none 0 0))) 27 232 Try.underlying22 hi0 hz0 hz1 hz2 (whl_size _ _) (by decide) _ _ _ rfl how ⟨b, o, none⟩ n cap L rfl hlen (HNW.out _ hb1) HON.out (by unfold maxLen; omega) (by omega) (by simp) ?_; intro v' w1 hown' hgrow hnil))
  go_ret
  rw [Nat.zero_add, List.nil_append] at hown'
  have hbw := hb1.grown hgrow (by simp) (fun p hp => (World.ownsRow.lt how p hp).1)
  rcases hown'.2 with ⟨rfl, _⟩ | ⟨g, cp, cur, rfl, hbg, hg, hnc, hcm, hcs, htake⟩
  · exact absurd (hnil.1 rfl).1 (by intro e; cases e)
  · refine ⟨g, cp, cur, rfl, hg, fun i hi => ?_, hbg, hbw⟩
    have h1 := HGT.out i hi
    rw [← htake, List.getElem?_take_of_lt hi] at h1
    rw [← Array.getElem?_toList]
    exact h1
end Go.Proofs.Ythfjkhmedpilnaa
