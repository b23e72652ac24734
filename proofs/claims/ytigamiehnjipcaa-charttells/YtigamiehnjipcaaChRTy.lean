/-
  Contract of the document's Types (chapter 9).
-/
import Derived.Test.YtigamiehnjipcaaChRCh
import Derived.Test.YtigamiehnjipcaaChTy
import Derived.Test.YtigamiehnjipcaaKRTy
namespace Go.Proofs.Ytigamiehnjipcaa
open Go.RowKit PK Vg

theorem flat_in3 {W : World} {g : Nat} {T : TypeId} {P : Nat → Nat → Nat} {j : Nat} (h : RowAt W g T (ints 78 (flat P))) (hj : j < 3) : W.rangeAt g (j * 26) (ints 26 (Pm.up (P j))).toList := row_mid h _ _ fun i v hv => by
  obtain ⟨h1, rfl⟩ := at_ints hv
  rw [ints_get _ (by omega)]
  unfold flat Pm.up
  rw [show (j * 26 + i) / 26 = j by omega, show (j * 26 + i) % 26 = i by omega]
/-- What the document's Types holds ahead of the chart. -/
structure RuS (w W : World) (a b c : Value) (rf pl : Nat → Int) : Prop where
  z : TzAt w W a b c rf pl
  out : RowAt W (w.heap.size + 2) 33 (sl3 0 fun _ => .slice none 0 0)
theorem RuS.new (w : World) (a b c : Value) (rf pl : Nat → Int) : RuS w (((w.alloc (.cells (mac a b c rf pl) 27)).alloc (.cells (sl3 0 fun _ => .slice none 0 0) 33)).alloc (.cells (sl3 0 fun _ => .slice none 0 0) 33)) a b c rf pl := by
  have h := RowAt.new ((w.alloc (.cells (mac a b c rf pl) 27)).alloc (.cells (sl3 0 fun _ => .slice none 0 0) 33)) 33 (sl3 0 fun _ => .slice none 0 0)
  rw [World.size_alloc, World.size_alloc] at h
  exact ⟨(TzAt.new w a b c rf pl).step ((Below.refl _ _).alloc (Nat.le_refl _) _), h⟩
theorem RuS.step {w W W' : World} {a b c : Value} {rf pl : Nat → Int} (h : RuS w W a b c rf pl) (hb : Below W.heap.size W W') : RuS w W' a b c rf pl := ⟨h.z.step hb, h.out.below hb h.out.lt⟩
/-- What it holds behind. -/
structure RtS (w W : World) (a b c : Value) (rf pl : Nat → Int) (P : Nat → Nat → Nat) (q k : Nat) (V : Nat → Value) : Prop where
  mg : MgAt w W a b c rf pl
  res : RowAt W (w.heap.size + 1) 33 (sl3 0 fun _ => .slice none 0 0)
  out : RowAt W (w.heap.size + 2) 33 (sl3 k V)
  ch : RowAt W q 29 (ints 78 (flat P))
  q1 : w.heap.size + 2 < q
  rows : TysAt W V k P
  far : ∀ i, i < k → ∀ p, (V i).ownBlock = some p → q < p
section
variable {w W W' : World} {a b c : Value} {rf pl : Nat → Int} {P : Nat → Nat → Nat} {q k : Nat} {V : Nat → Value}
theorem RtS.step (h : RtS w W a b c rf pl P q k V) (hb : Below W.heap.size W W') : RtS w W' a b c rf pl P q k V := ⟨h.mg.step hb, h.res.below hb h.res.lt, h.out.below hb h.out.lt, h.ch.below hb h.ch.lt, h.q1, fun i hi => (h.rows i hi).below hb, h.far⟩
theorem RtS.put (h : RtS w W a b c rf pl P q k V) {v : Value} {B : Nat} (hB : q < B) (ho : OwnsN W B v (typeOf (P k))) : RtS w (W.setCell ⟨w.heap.size + 2, k, none⟩ v) a b c rf pl P q (k + 1) (fun i => if i = k then v else V i) := by
  have h1 := h.q1
  have hgs := grown_set W (w.heap.size + 2) k v
  have hfv : ∀ p, v.ownBlock = some p → q < p := fun p hp => by
    have h3 : W.ownsRow B 3 1 v (typeOf (P k)).length (nums (typeOf (P k))) := ho
    have := (World.ownsRow.lt h3 p hp).1
    omega
  refine ⟨⟨h.mg.row.setOther _ _ (by show w.heap.size ≠ w.heap.size + 2; omega), h.mg.below.setCell (p := ⟨w.heap.size + 2, k, none⟩) (by show w.heap.size ≤ w.heap.size + 2; omega) _⟩, h.res.setOther _ _ (by show w.heap.size + 1 ≠ w.heap.size + 2; omega), ?_, h.ch.setOther _ _ (by show q ≠ w.heap.size + 2; omega), h.q1, fun i hi => ?_, fun i hi p hp => ?_⟩
  · have := h.out.set k v
    rw [sl3_set] at this
    exact this
  · show NumsAt _ (if i = k then v else V i) _ _
    by_cases e : i = k
    · rw [if_pos e, e]
      exact nums_grown (nums_of_own ho) hgs (fun p hp e2 => by have := hfv p hp; cases e2; omega)
    · rw [if_neg e]
      exact nums_grown (h.rows i (by omega)) hgs (fun p hp e2 => by have := h.far i (by omega) p hp; cases e2; omega)
  · have hp' : (if i = k then v else V i).ownBlock = some p := hp
    by_cases e : i = k
    · rw [if_pos e] at hp'; exact hfv p hp'
    · rw [if_neg e] at hp'; exact h.far i (by omega) p hp'
end
set_option maxRecDepth 100000 in
set_option maxHeartbeats 2000000 in
theorem rtypes_bad (a b c : Value) (rf pl : Nat → Int) (A : Array Value) (hA : Hid (A.size = 78)) (hA1 : Hid (A.all (·.oneCell') = true)) (E : Int) (hE : (E != 0) = true) (w : World) (HW : Hid (∀ W, Below w.heap.size w W → Calls Try.prog 8 #[.agg (mac a b c rf pl)] W fun e w' => e = .returned (.tuple #[.agg A, .int .i64 E]) ∧ Below W.heap.size W w')) : Calls Try.prog 10 #[.agg (mac a b c rf pl)] w fun e w' => e = .returned (.tuple #[.agg (sl3 0 fun _ => .slice none 0 0), .int .i64 E]) ∧ Below w.heap.size w w' := by
  have h0 := RuS.new w a b c rf pl
  have hz3 := o_zero v_zero_sl3
  have hz78 := o_zero v_zero_three
  go_enter Try.func10, Try.ntmps10
  go_upto_region 2 with fail
  generalize ((w.alloc (.cells (mac a b c rf pl) 27)).alloc (.cells (sl3 0 fun _ => .slice none 0 0) 33)).alloc (.cells (sl3 0 fun _ => .slice none 0 0) 33) = W0 at *
  have hld := h0.z.mg.row
  go_wp2_with (first | refine wpList_load_row rfl 27 _ rfl w.heap.size rfl 27 (mac a b c rf pl) (0, 0) _ hld Try.underlying27 rfl (by rw [mac_size]; exact v_info_mac) ?_)
  refine (HW.out _ h0.z.mg.below).mono ?_
  rintro e W1 ⟨rfl, hb⟩
  have h1 := h0.step hb
  have hl1 := h1.out.lt
  clear hb h0 HW hz3 hld
  have HR := (show Hid (RowAt ((W1.alloc (.cells (ints 78 fun _ => 0) 29)).setRow W1.heap.size A) (w.heap.size + 1) 33 (sl3 0 fun _ => .slice none 0 0)) from (h1.z.res.alloc (.cells (ints 78 fun _ => 0) 29)).rowOther W1.heap.size A (by omega))
  have HO := (show Hid (RowAt ((W1.alloc (.cells (ints 78 fun _ => 0) 29)).setRow W1.heap.size A) (w.heap.size + 2) 33 (sl3 0 fun _ => .slice none 0 0)) from (h1.out.alloc (.cells (ints 78 fun _ => 0) 29)).rowOther W1.heap.size A (by omega))
  have HBE := (show Hid _ from Below.setRow (Below.setRow (h1.z.mg.below.alloc h1.z.mg.below.size (.cells (ints 78 fun _ => 0) 29)) W1.heap.size h1.z.mg.below.size A) (w.heap.size + 1) (by omega) (sl3 0 fun _ => .slice none 0 0))
  clear h1 hl1
  go_wp2_with (first | refine wpList_load_row rfl 33 _ rfl (w.heap.size + 2) rfl 33 (sl3 0 fun _ => .slice none 0 0) (0, 0) _ HO.out Try.underlying33 rfl (by rw [sl3_size]; exact v_info_sl3) ?_ | refine wpList_store_row rfl 29 _ _ rfl W1.heap.size A rfl rfl 29 _ (RowAt.new W1 _ _) (by rw [hA.out]; exact v_info_three) (by rw [hA.out, ints_size]) hA1.out ?_ | refine wpList_store_row rfl 33 _ _ rfl (w.heap.size + 1) (sl3 0 fun _ => .slice none 0 0) rfl rfl 33 _ HR.out (by rw [sl3_size]; exact v_info_sl3) (by simp only [sl3_size]) (sl3_one fun i hi => by omega) ?_)
  exact bodyPost_ret (v := .tuple #[.agg (sl3 0 fun _ => .slice none 0 0), .int .i64 E]) (results_cell_tmp2 rfl _ _ (w.heap.size + 1) 33 _ (0, 0) _ _ rfl rfl (HR.out.row _) Try.underlying33 rfl (by rw [sl3_size]; exact v_info_sl3)) rfl ⟨rfl, HBE.out⟩
set_option maxRecDepth 100000 in
set_option maxHeartbeats 4000000 in
theorem rtypes_ok (P : Nat → Nat → Nat) (hP : ∀ k, Pm.IsPerm (P k)) (a b c : Value) (rf pl : Nat → Int) (w : World) (HW : Hid (∀ W, Below w.heap.size w W → Calls Try.prog 8 #[.agg (mac a b c rf pl)] W fun e w' => e = .returned (.tuple #[.agg (ints 78 (flat P)), .int .i64 0]) ∧ Below W.heap.size W w')) : Calls Try.prog 10 #[.agg (mac a b c rf pl)] w fun e w' => ∃ V, e = .returned (.tuple #[.agg (sl3 3 V), .int .i64 0]) ∧ TysAt w' V 3 P ∧ Below w.heap.size w w' := by
  have h0 := RuS.new w a b c rf pl
  have hz3 := o_zero v_zero_sl3
  have hz78 := o_zero v_zero_three
  have HPP := (show Hid _ from hP)
  clear hP
  go_enter Try.func10, Try.ntmps10
  go_upto_region 2 with fail
  generalize ((w.alloc (.cells (mac a b c rf pl) 27)).alloc (.cells (sl3 0 fun _ => .slice none 0 0) 33)).alloc (.cells (sl3 0 fun _ => .slice none 0 0) 33) = W0 at *
  have hld := h0.z.mg.row
  go_wp2_with (first | refine wpList_load_row rfl 27 _ rfl w.heap.size rfl 27 (mac a b c rf pl) (0, 0) _ hld Try.underlying27 rfl (by rw [mac_size]; exact v_info_mac) ?_)
  refine (HW.out _ h0.z.mg.below).mono ?_
  rintro e W1 ⟨rfl, hb⟩
  have h1 := h0.step hb
  have hl1 := h1.out.lt
  clear hb h0 HW hz3 hld
  go_upto_region 3 with (first | refine wpList_store_row rfl 29 _ _ rfl W1.heap.size (ints 78 (flat P)) rfl rfl 29 _ (RowAt.new W1 _ _) (by rw [ints_size]; exact v_info_three) (by simp only [ints_size]) (ints_one _ _) ?_)
  have hr4 := (RowAt.new W1 29 (ints 78 fun _ => 0)).row (ints 78 (flat P))
  have hb4 := Below.setRow ((Below.refl W1.heap.size W1).alloc (Nat.le_refl _) (.cells (ints 78 fun _ => 0) 29)) W1.heap.size (Nat.le_refl _) (ints 78 (flat P))
  have h4 := h1.step hb4
  have hg0 : RtS w ((W1.alloc (.cells (ints 78 fun _ => 0) 29)).setRow W1.heap.size (ints 78 (flat P))) a b c rf pl P W1.heap.size 0 (fun _ => .slice none 0 0) := ⟨h4.z.mg, h4.z.res, h4.out, hr4, hl1, fun i hi => by omega, fun i hi => by omega⟩
  clear hb4 h4 hr4 h1 hl1 hz78
  generalize (W1.alloc (.cells (ints 78 fun _ => 0) 29)).setRow W1.heap.size (ints 78 (flat P)) = V4 at *
  obtain ⟨q, hq⟩ : ∃ x, x = W1.heap.size := ⟨_, rfl⟩
  rw [← hq] at hg0 ⊢
  clear hq
  go_wp2_with fail
  go_loopw [17] (fun i W => ∃ (k : Nat) (V : Nat → Value), k ≤ 3 ∧ i = .int .i64 (k : Nat) ∧ RtS w W a b c rf pl P q k V) (fun i _ => ((3 : Int) - intOf i).toNat)
  case atStart => exact ⟨0, _, by omega, rfl, hg0⟩
  case round =>
    clear hg0
    obtain ⟨k, V, hk, rfl, hg⟩ := hrel
    by_cases hlt : k < 3
    · have HLT : Hid (k < 3) := hlt
      have hlt2 : (k : Int) < 3 := by omega
      have hpk := HPP.out k
      have hrg := flat_in3 hg.ch hlt
      obtain ⟨pk, hpe⟩ : ∃ p, p = P k := ⟨_, rfl⟩
      rw [← hpe] at hpk hrg
      have HPE := (show Hid _ from hpe)
      have HG := (show Hid _ from hg)
      have HRG := (show Hid _ from hrg)
      clear hpe hg hlt hrg
      go_wp2_with (first | refine wpList_load_mid rfl 25 _ rfl q (k * 26) rfl (ints 26 (Pm.up pk)).toList _ HRG.out Try.underlying25 rfl (by rw [Array.length_toList, ints_size]; exact info_perm) ?_)
      refine (rtype_ok pk hpk _).mono ?_
      rintro e Y ⟨v, rfl, hov, hb⟩
      have hg9 := HG.out.step hb
      rw [HPE.out] at hov
      have HNX := (show Hid _ from hg9.put HG.out.ch.lt hov)
      obtain ⟨av, cv, hev⟩ := own_slice' hov
      have hck := hg9.out.cell (sl3_get k V HLT.out)
      rw [if_neg (Nat.lt_irrefl _)] at hck
      have hfk := hg9.out.frozen k
      clear HG hg9 hb hov hpk HRG
      rw [hev] at HNX ⊢
      clear hev
      go_wp2
      go_roundw
      case rel => exact ⟨k + 1, _, HLT.out, by go_num, HNX.out⟩
      case measure => have := HLT.out; simp [intOf]; omega
    · obtain rfl : k = 3 := by omega
      have hor := hg.out
      have hrs := hg.res
      have hbe := hg.mg.below
      have hq1 := hg.q1
      have hone : (sl3 3 V).all (·.oneCell') = true := sl3_one fun i hi => one_nums (hg.rows i hi)
      have HRW : Hid (TysAt (wr.setRow (w.heap.size + 1) (sl3 3 V)) V 3 P) := fun i hi => nums_grown (hg.rows i hi) (grown_row wr (w.heap.size + 1) (sl3 3 V)) (fun p hp e => by have := hg.far i hi p hp; cases e; omega)
      have HONE := (show Hid _ from hone)
      clear hg hlt hone
      go_wp2_with (first | refine wpList_load_row rfl 33 _ rfl (w.heap.size + 2) rfl 33 (sl3 3 V) (0, 0) _ hor Try.underlying33 rfl (by rw [sl3_size]; exact v_info_sl3) ?_ | refine wpList_store_row rfl 33 _ _ rfl (w.heap.size + 1) (sl3 3 V) rfl rfl 33 _ hrs (by rw [sl3_size]; exact v_info_sl3) (by simp only [sl3_size]) HONE.out ?_)
      exact bodyPost_ret (v := .tuple #[.agg (sl3 3 V), .int .i64 0]) (results_cell_tmp2 rfl _ _ (w.heap.size + 1) 33 _ (0, 0) _ _ rfl rfl (hrs.row _) Try.underlying33 rfl (by rw [sl3_size]; exact v_info_sl3)) rfl ⟨V, rfl, HRW.out, Below.setRow hbe _ (by omega) _⟩
/-- What the document's Types says. -/
theorem rtypes_any (vm : Value) (g : Gm) (w : World) (hm : MacAt w vm g) : Calls Try.prog 10 #[vm] w fun e w' => (gE g ≠ 0 ∧ e = .returned (.tuple #[.agg (sl3 0 fun _ => .slice none 0 0), .int .i64 (gE g)]) ∧ Below w.heap.size w w') ∨ (gE g = 0 ∧ ∃ V, e = .returned (.tuple #[.agg (sl3 3 V), .int .i64 0]) ∧ TysAt w' V 3 (chC (maOf g)) ∧ Below w.heap.size w w') := by
  have HC := fun W (hb : Below w.heap.size w W) => rchart_any vm g W (hm.below hb)
  obtain ⟨a, b, c, rfl, _⟩ := hm
  unfold chA at HC
  by_cases hg : gE g = 0
  · obtain ⟨hM, _⟩ := ok_maOf hg
    rw [if_pos hg, hg] at HC
    refine (rtypes_ok _ (chC_perm hM) a b c g.rf g.pl w HC).mono ?_
    rintro e w' h
    exact .inr ⟨hg, h⟩
  · rw [if_neg hg] at HC
    refine (rtypes_bad a b c g.rf g.pl _ (ints_size _ _) (ints_one _ _) _ (by simpa using hg) w HC).mono ?_
    rintro e w' h
    exact .inl ⟨hg, h⟩
end Go.Proofs.Ytigamiehnjipcaa
