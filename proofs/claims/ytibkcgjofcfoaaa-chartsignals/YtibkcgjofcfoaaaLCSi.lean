/-
  ChartSignals, over the contracts of Chart, Double and Signals.
-/
import Derived.Test.YtibkcgjofcfoaaaKSig
import Derived.Test.YtibkcgjofcfoaaaJn7
import Derived.Test.YtibkcgjofcfoaaaKEq3
import Derived.Deep.DeepCutAuto
namespace Go.Proofs.Ytibkcgjofcfoaaa
open Go.RowKit PK Vg

/-- Texts, one behind the other. -/
def stL (T : Nat → ByteArray) (m : Nat) : List Value := (List.range m).map fun i => .string (T i)
theorem stL_succ (T : Nat → ByteArray) (m : Nat) : stL T (m + 1) = stL T m ++ [.string (T m)] := by
  unfold stL
  rw [List.range_succ, List.map_append]
  rfl
theorem own_strs {w : World} {B : Nat} {v : Value} {m : Nat} {T : Nat → ByteArray} (h : w.ownsRow B 9 1 v m (stL T m)) : StrsAt w v m T := by
  rcases h.2 with ⟨rfl, h0⟩ | ⟨g, cap, cur, rfl, hB, hg, hnc, hcm, hcs, htake⟩
  · subst h0
    exact ⟨none, 0, rfl, by decide, fun i hi => by omega⟩
  · refine ⟨_, cap, rfl, by omega, fun i hi => ⟨g, 0, rfl, ?_⟩⟩
    have h1 : (stL T m)[i]? = some (.string (T i)) := by simp [stL, hi]
    rw [← htake, List.getElem?_take_of_lt (by omega)] at h1
    rw [Nat.zero_add]
    exact RowAt.cell (w := w) (b := g) (T := 9) hg (by simpa using h1)
theorem v_info_str : (Try.prog.info? 9).map (fun i => (i.zero, i.size, i.bytes)) = some (some (.string ByteArray.empty), 1, 16) := by kernel_rfl
/-- The machine, its chart, and messages. -/
structure LsS (w W : World) (a b c : Value) (rf pl : Nat → Int) (q7 : Nat) (C : Nat → Nat → Nat) (v : Value) (T : Nat → ByteArray) (k : Nat) : Prop where
  mg : MgAt w W a b c rf pl
  r : RowAt W q7 43 (ints 78 (flat C))
  lt : w.heap.size < q7
  own : W.ownsRow (q7 + 1) 9 1 v k (stL T k)
section
variable {w W W' : World} {a b c : Value} {rf pl : Nat → Int} {q7 : Nat} {C : Nat → Nat → Nat} {v v' : Value} {T : Nat → ByteArray} {k : Nat}
theorem LsS.step (h : LsS w W a b c rf pl q7 C v T k) (hb : Below W.heap.size W W') : LsS w W' a b c rf pl q7 C v T k := ⟨h.mg.step hb, h.r.below hb h.r.lt, h.lt, own_step h.own hb⟩
theorem LsS.grow (h : LsS w W a b c rf pl q7 C v T k) (o : Obj) (hg : (W.alloc o).grownBy W' v.ownBlock) (ho : W'.ownsRow (q7 + 1) 9 1 v' (k + 1) (stL T k ++ [.string (T k)])) : LsS w W' a b c rf pl q7 C v' T (k + 1) := by
  have hl := h.lt
  have hlo : ∀ p, v.ownBlock = some p → q7 < p := fun p hp => by have := (World.ownsRow.lt h.own p hp).1; omega
  have hne : ∀ p, p ≤ q7 → some p ≠ v.ownBlock := fun p hp e => by have := hlo p e.symm; omega
  have hm := h.mg.alloc o
  have hr := h.r.alloc o
  refine ⟨⟨(hg.block _ hm.row.lt (hne _ (by omega))).trans hm.row, hm.below.grown hg hm.below.size (fun p hp => by have := hlo p hp; omega)⟩, (hg.block _ hr.lt (hne _ (Nat.le_refl _))).trans hr, h.lt, by rw [stL_succ]; exact ho⟩
end
/-- And what is compared with it. -/
structure L2S (w W : World) (a b c : Value) (rf pl : Nat → Int) (q7 q14 : Nat) (C : Nat → Nat → Nat) (v : Value) (T : Nat → ByteArray) (k : Nat) : Prop where
  s : LsS w W a b c rf pl q14 C v T k
  r7 : RowAt W q7 43 (ints 78 (flat C))
  lt : q7 < q14
theorem L2S.step {w W W' : World} {a b c : Value} {rf pl : Nat → Int} {q7 q14 : Nat} {C : Nat → Nat → Nat} {v : Value} {T : Nat → ByteArray} {k : Nat} (h : L2S w W a b c rf pl q7 q14 C v T k) (hb : Below W.heap.size W W') : L2S w W' a b c rf pl q7 q14 C v T k := ⟨h.s.step hb, h.r7.below hb h.r7.lt, h.lt⟩
theorem L2S.grow {w W W' : World} {a b c : Value} {rf pl : Nat → Int} {q7 q14 : Nat} {C : Nat → Nat → Nat} {v v' : Value} {T : Nat → ByteArray} {k : Nat} (h : L2S w W a b c rf pl q7 q14 C v T k) (o : Obj) (hg : (W.alloc o).grownBy W' v.ownBlock) (ho : W'.ownsRow (q14 + 1) 9 1 v' (k + 1) (stL T k ++ [.string (T k)])) : L2S w W' a b c rf pl q7 q14 C v' T (k + 1) := by
  have hl := h.lt
  exact ⟨h.s.grow o hg ho, (hg.block _ (h.r7.alloc o).lt (fun e => by have := (World.ownsRow.lt h.s.own q7 e.symm).1; omega)).trans (h.r7.alloc o), h.lt⟩
/-- A key of three letters. -/
def kb (x y z : Nat) : ByteArray := ⟨#[ltr x, ltr y, ltr z]⟩
theorem own_new (W : World) (c : Array Value) (T : TypeId) (n : Nat) (hn : c.size = n) (hm : n ≤ maxLen) : (W.alloc (.cells c T)).ownsRow W.heap.size T 1 (.slice (some ⟨W.heap.size, 0, none⟩) n n) n c.toList :=
  ⟨by simp [hn], .inr ⟨W.heap.size, n, c, rfl, Nat.le_refl _, heap_alloc_new W _, Nat.le_refl _, hm, by simp [hn], by rw [Nat.mul_one, ← hn, ← Array.length_toList, List.take_length]⟩⟩
theorem run_key {x y z : Nat} (W : World) (X Y Z : Int) (hX : ((ltr x).toNat : Int) = X) (hY : ((ltr y).toNat : Int) = Y) (hZ : ((ltr z).toNat : Int) = Z) : (convert 57 9 (.slice (some ⟨W.heap.size, 0, none⟩) 3 3)).run Try.prog (W.alloc (.cells #[.int .u8 X, .int .u8 Y, .int .u8 Z] 5)) = .ok (.string (kb x y z)) (W.alloc (.cells #[.int .u8 X, .int .u8 Y, .int .u8 Z] 5)) := by
  subst hX hY hZ
  have h := own_new W #[.int .u8 ((ltr x).toNat : Int), .int .u8 ((ltr y).toNat : Int), .int .u8 ((ltr z).toNat : Int)] 5 3 rfl (by decide)
  have h2 : Kit.Owns (W.alloc (.cells #[.int .u8 ((ltr x).toNat : Int), .int .u8 ((ltr y).toNat : Int), .int .u8 ((ltr z).toNat : Int)] 5)) W.heap.size 5 (.slice (some ⟨W.heap.size, 0, none⟩) 3 3) [ltr x, ltr y, ltr z] := h
  exact Kit.run_string_of_own (P := Try.prog) _ 57 9 5 Try.underlying57 Try.underlying5 Try.underlying9 h2
set_option maxRecDepth 100000 in
set_option maxHeartbeats 8000000 in
theorem signals_run (a b c : Value) (rf pl : Nat → Int) (C : Nat → Nat → Nat) (by' : Int) (v1 : Value) (n : Nat) (T1 : Nat → ByteArray) (w : World)
    (HA : Hid (∀ W, Calls Try.prog 19 #[] W fun e w' => e = .returned (.bool true) ∧ Below W.heap.size W w'))
    (HC : Hid (∀ W, Below w.heap.size w W → Calls Try.prog 10 #[.agg (mac a b c rf pl)] W fun e w' => e = .returned (.tuple #[.agg (ints 78 (flat C)), .int .i64 0]) ∧ Below W.heap.size W w'))
    (S : ByteArray → ByteArray) (E At : ByteArray → Int) (HD : Hid (∀ W t, Below w.heap.size w W → Calls Try.prog 15 #[.agg (mac a b c rf pl), .string t] W fun e w' => e = .returned (.tuple #[.string (S t), .agg #[.int .i64 (E t), .int .i64 (At t)]]) ∧ Below W.heap.size W w'))
    (Y : Nat → Nat) (hY : ∀ k, k < 26 → Y k < 26 ∧ ((Y k : Nat) : Int) = ((k : Int) * 3 + by'.tmod 26 + 26) % 26)
    (HK : Hid (∀ k, k < 26 → E (kb k (Y k) (25 - k)) = 0 ∧ (S (kb k (Y k) (25 - k))).size = 6)) (hr1 : -25 ≤ by'.tmod 26) (hr2 : by'.tmod 26 ≤ 25)
    (HS1 : Hid (∀ W v, Below w.heap.size w W → StrsAt W v 26 (fun k => S (kb k (Y k) (25 - k))) → Calls Try.prog 17 #[v] W fun e w' => e = .returned (.tuple #[.agg (ints 78 (flat C)), .int .i64 0]) ∧ Below W.heap.size W w'))
    (hv1 : StrsAt w v1 n T1) (hn : n ≤ 8796093022208)
    (HS2 : Hid (∀ W v, Below w.heap.size w W → StrsAt W v n (fun j => S (T1 j)) → (∀ j, j < n → E (T1 j) = 0) → Calls Try.prog 17 #[v] W fun e w' => (∃ D F, e = .returned (.tuple #[.agg D, .int .i64 F]) ∧ ((F = 6 ∧ D.size = 78 ∧ D.all (·.oneCell') = true) ∨ (F = 0 ∧ D = ints 78 (flat C)))) ∧ Below W.heap.size W w')) :
    Calls Try.prog 6 #[.agg (mac a b c rf pl), v1, .int .i64 by'] w fun e w' => e = .returned (.bool true) ∧ Below w.heap.size w w' := by
  have h0 := MgAt.new w a b c rf pl
  have hz78 := o_zero v_zero_three
  have HYY := (show Hid _ from hY)
  obtain ⟨av, cv, rfl, hmv, hcv⟩ := hv1
  have HCV := (show Hid (∀ i, i < n → ∃ b o, av = some ⟨b, o, none⟩ ∧ w.cell? ⟨b, o + i, none⟩ = some (.string (T1 i))) from hcv)
  have HNN := (show Hid (n ≤ 8796093022208) from hn)
  clear hY hcv hmv hn
  go_enter Try.func6, Try.ntmps6
  go_wp2_with fail
  refine (HA.out _).mono ?_
  rintro e W1 ⟨rfl, hb⟩
  have h1 := h0.step hb
  clear hb h0 HA
  go_wp2_with (first | refine wpList_load_row rfl 27 _ rfl w.heap.size rfl 27 (mac a b c rf pl) (0, 0) _ h1.row Try.underlying27 rfl (by rw [mac_size]; exact v_info_mac) ?_)
  refine (HC.out _ h1.below).mono ?_
  rintro e W2 ⟨rfl, hb⟩
  have h2 := h1.step hb
  clear hb h1 HC
  go_upto_region 4 with (first | refine wpList_store_row rfl 43 _ _ rfl W2.heap.size (ints 78 (flat C)) rfl rfl 43 _ (RowAt.new W2 _ _) (by rw [ints_size]; exact v_info_three) (by simp only [ints_size]) (ints_one _ _) ?_)
  have hbx := Below.setRow ((Below.refl W2.heap.size W2).alloc (Nat.le_refl _) (.cells (ints 78 fun _ => 0) 43)) W2.heap.size (Nat.le_refl _) (ints 78 (flat C))
  have hg0 : LsS w ((W2.alloc (.cells (ints 78 fun _ => 0) 43)).setRow W2.heap.size (ints 78 (flat C))) a b c rf pl W2.heap.size C (.slice none 0 0) (fun k => S (kb k (Y k) (25 - k))) 0 := ⟨h2.step hbx, (RowAt.new W2 _ _).row _, h2.lt, World.ownsRow_nil _ _ _ _⟩
  generalize (W2.alloc (.cells (ints 78 fun _ => 0) 43)).setRow W2.heap.size (ints 78 (flat C)) = V3 at *
  obtain ⟨q7, hq⟩ : ∃ x, x = W2.heap.size := ⟨_, rfl⟩
  rw [← hq] at hg0 ⊢
  clear hq hbx h2
  go_wp2_with fail
  go_loopw [9, 10] (fun y i W => ∃ (k : Nat) (v9 : Value), k ≤ 26 ∧ i = .int .i64 (k : Nat) ∧ v9 = y ∧ LsS w W a b c rf pl q7 C v9 (fun k => S (kb k (Y k) (25 - k))) k) (fun _ i _ => ((26 : Int) - intOf i).toNat)
  case atStart => exact ⟨0, _, by omega, rfl, rfl, hg0⟩
  case round =>
    clear hg0
    obtain ⟨k, v9, hk, rfl, rfl, hg⟩ := hrel
    by_cases hlt : k < 26
    · have HLT : Hid (k < 26) := hlt
      have hlt2 : (k : Int) < 26 := by omega
      have HG := (show Hid _ from hg)
      clear hg hlt
      obtain ⟨hy1, hy2⟩ := HYY.out k HLT.out
      obtain ⟨hE0, hS6⟩ := HK.out k HLT.out
      have hst := run_key (x := k) (y := Y k) (z := 25 - k) wr (65 + (k : Int)) (65 + ((k : Int) * 3 + by'.tmod 26) % 26) (65 + (25 - (k : Int)) % 26) (by rw [ltr_toNat HLT.out]; omega) (by rw [ltr_toNat hy1]; omega) (by rw [ltr_toNat (by omega)]; omega)
      have hb10 := (Below.refl wr.heap.size wr).alloc (Nat.le_refl _) (.cells #[.int .u8 (65 + (k : Int)), .int .u8 (65 + ((k : Int) * 3 + by'.tmod 26) % 26), .int .u8 (65 + (25 - (k : Int)) % 26)] 5)
      have HG2 := (show Hid _ from HG.out.step hb10)
      obtain ⟨KB, hKB⟩ : ∃ x, x = kb k (Y k) (25 - k) := ⟨_, rfl⟩
      rw [← hKB] at hst hE0 hS6
      have HKB := (show Hid _ from hKB)
      clear hy1 hy2 hb10 HG hKB
      go_upto_region 11 with fail
      generalize wr.alloc (.cells #[.int .u8 (65 + (k : Int)), .int .u8 (65 + ((k : Int) * 3 + by'.tmod 26) % 26), .int .u8 (65 + (25 - (k : Int)) % 26)] 5) = X at *
      have hmr := HG2.out.mg.row
      clear hst
      go_wp2_with (first | refine wpList_load_row rfl 27 _ rfl w.heap.size rfl 27 (mac a b c rf pl) (0, 0) _ hmr Try.underlying27 rfl (by rw [mac_size]; exact v_info_mac) ?_)
      refine (HD.out _ KB HG2.out.mg.below).mono ?_
      rintro e X2 ⟨rfl, hb⟩
      have hg3 := HG2.out.step hb
      rw [hE0]
      obtain ⟨ST, hST⟩ : ∃ x, x = S KB := ⟨_, rfl⟩
      rw [← hST] at hS6 ⊢
      obtain ⟨AT, hAT⟩ : ∃ x, x = At KB := ⟨_, rfl⟩
      rw [← hAT]
      have HST : Hid (ST = S (kb k (Y k) (25 - k))) := by rw [Hid, hST, HKB.out]
      have hb12 := (Below.refl X2.heap.size X2).alloc (Nat.le_refl _) (.cells #[.int .i64 0, .int .i64 AT] 31)
      have hg4 := hg3.step hb12
      have c0 := (RowAt.new X2 31 #[.int .i64 0, .int .i64 AT]).cell (i := 0) rfl
      have h6 : ((ST.size : Int) != 6) = false := by rw [hS6]; rfl
      have HG4 := (show Hid _ from hg4)
      clear hb hg3 hg4 HG2 hE0 hS6 hST hAT hb12 hmr
      go_upto_region 12 with fail
      generalize X2.alloc (.cells #[.int .i64 0, .int .i64 AT] 31) = X3 at *
      generalize X2.heap.size = q13 at *
      have hl7 := HG4.out.r.lt
      go_wp2_with (first | (at_builtin; obtain ⟨i1, hi1, hz1, hz2, hz3⟩ := x_info_parts v_info_str; refine wpList_append_own _ rfl _ _ 42 rfl (q7 + 1) 9 i1 (.string ByteArray.empty) 1 16 Try.underlying42 hi1 hz1 hz2 hz3 rfl (by decide) _ _ _ rfl (World.ownsRow.alloc HG4.out.own _) ⟨X3.heap.size, 0, none⟩ 1 1 [.string ST] rfl rfl (cell_one_new _ _ _) (fun u hu => by simp at hu; subst hu; rfl) (by unfold maxLen; have := HLT.out; omega) (by have := HLT.out; omega) (by simp; omega) ?_; intro v5 w5 hown5 hgrow5 _; have HG6 := (show Hid _ from HG4.out.grow _ hgrow5 (by rw [HST.out] at hown5; exact hown5)); clear hgrow5 hown5 hi1 hz1 hz2 hz3))
      go_roundw
      case rel => exact ⟨k + 1, v5, HLT.out, by go_num, rfl, HG6.out⟩
      case measure => have := HLT.out; simp [intOf]; omega
    · obtain rfl : k = 26 := by omega
      have hstr := own_strs hg.own
      have HG := (show Hid _ from hg)
      have HSTR := (show Hid (StrsAt wr v9 26 (fun k => S (kb k (Y k) (25 - k)))) from hstr)
      clear hg hstr hlt HK HYY hr1 hr2
      go_wp2_with fail
      refine (HS1.out _ v9 HG.out.mg.below HSTR.out).mono ?_
      rintro e W5 ⟨rfl, hb⟩
      have h5 := HG.out.step hb
      clear hb HG HSTR HS1
      go_upto_region 16 with (first | refine wpList_store_row rfl 43 _ _ rfl W5.heap.size (ints 78 (flat C)) rfl rfl 43 _ (RowAt.new W5 _ _) (by rw [ints_size]; exact v_info_three) (by simp only [ints_size]) (ints_one _ _) ?_)
      have hbx := Below.setRow ((Below.refl W5.heap.size W5).alloc (Nat.le_refl _) (.cells (ints 78 fun _ => 0) 43)) W5.heap.size (Nat.le_refl _) (ints 78 (flat C))
      have h6 := h5.step hbx
      have hl7 := h5.r.lt
      have hlm := h5.mg.lt
      have hg0 : L2S w ((W5.alloc (.cells (ints 78 fun _ => 0) 43)).setRow W5.heap.size (ints 78 (flat C))) a b c rf pl q7 W5.heap.size C (.slice none 0 0) (fun j => S (T1 j)) 0 := ⟨⟨h6.mg, (RowAt.new W5 _ _).row _, hlm, World.ownsRow_nil _ _ _ _⟩, h6.r, hl7⟩
      generalize (W5.alloc (.cells (ints 78 fun _ => 0) 43)).setRow W5.heap.size (ints 78 (flat C)) = V6 at *
      obtain ⟨q14, hq⟩ : ∃ x, x = W5.heap.size := ⟨_, rfl⟩
      rw [← hq] at hg0 ⊢
      clear hq hbx h5 h6 hl7 hlm hz78
      have heq := run_eq_three C
      have hr14 := hg0.s.r.range
      have hr7 := hg0.r7.range
      go_wp2_with (first | refine wpList_load_arr_w rfl 43 _ rfl q14 0 rfl (ints 78 (flat C)) _ hr14 Try.underlying43 rfl (by rw [ints_size]; exact v_info_three) ?_ | refine wpList_load_arr_w rfl 43 _ rfl q7 0 rfl (ints 78 (flat C)) _ hr7 Try.underlying43 rfl (by rw [ints_size]; exact v_info_three) ?_)
      clear heq hr14 hr7
      go_loopw [15, 84] (fun y i W => ∃ (j : Nat) (v : Value), j ≤ n ∧ i = .int .i64 (j : Nat) ∧ v = y ∧ (∀ m, m < j → E (T1 m) = 0) ∧ L2S w W a b c rf pl q7 q14 C v (fun j => S (T1 j)) j) (fun _ i _ => ((n : Int) - intOf i).toNat)
      case atStart => exact ⟨0, _, by omega, rfl, rfl, fun m hm => by omega, hg0⟩
      case round =>
        clear hg0
        obtain ⟨j, v, hj, rfl, rfl, hes, hg⟩ := hrel
        have HES := (show Hid (∀ m, m < j → E (T1 m) = 0) from hes)
        by_cases hlt : j < n
        · have HLT : Hid (j < n) := hlt
          have hnn := HNN.out
          have hlt2 : (j : Int) < (n : Int) := by omega
          obtain ⟨bs, os, rfl, hcs⟩ := HCV.out j hlt
          have hcs2 := (hg.s.mg.below.cell (p := ⟨bs, os + j, none⟩) (cell_block hcs)).trans hcs
          have hmr := hg.s.mg.row
          have HG := (show Hid _ from hg)
          clear hes hcs hg hlt
          go_wp2_with (first | refine wpList_load_row rfl 27 _ rfl w.heap.size rfl 27 (mac a b c rf pl) (0, 0) _ hmr Try.underlying27 rfl (by rw [mac_size]; exact v_info_mac) ?_)
          refine (HD.out _ (T1 j) HG.out.s.mg.below).mono ?_
          rintro e X2 ⟨rfl, hb⟩
          have hg3 := HG.out.step hb
          obtain ⟨ST, hST⟩ : ∃ x, x = S (T1 j) := ⟨_, rfl⟩
          obtain ⟨AT, hAT⟩ : ∃ x, x = At (T1 j) := ⟨_, rfl⟩
          obtain ⟨ER, hER⟩ : ∃ x, x = E (T1 j) := ⟨_, rfl⟩
          rw [← hST, ← hAT, ← hER]
          have HST : Hid (ST = S (T1 j)) := hST
          have HER : Hid (ER = E (T1 j)) := hER
          have hb12 := (Below.refl X2.heap.size X2).alloc (Nat.le_refl _) (.cells #[.int .i64 ER, .int .i64 AT] 31)
          have HG4 := (show Hid _ from hg3.step hb12)
          have c0 := (RowAt.new X2 31 #[.int .i64 ER, .int .i64 AT]).cell (i := 0) rfl
          clear hb hg3 HG hST hAT hER hb12 hmr hcs2
          go_upto_region 23 with fail
          generalize X2.alloc (.cells #[.int .i64 ER, .int .i64 AT] 31) = X3 at *
          generalize X2.heap.size = q19 at *
          by_cases h0 : ER = 0
          · have h0b : (ER != 0) = false := by simpa using h0
            have HE2 : Hid (∀ m, m < j + 1 → E (T1 m) = 0) := fun m hm => by
              by_cases e : m = j
              · rw [e, ← HER.out]; exact h0
              · exact HES.out m (by omega)
            have hl14 := HG4.out.s.r.lt
            clear h0
            go_wp2_with (first | (at_builtin; obtain ⟨i1, hi1, hz1, hz2, hz3⟩ := x_info_parts v_info_str; refine wpList_append_own _ rfl _ _ 42 rfl (q14 + 1) 9 i1 (.string ByteArray.empty) 1 16 Try.underlying42 hi1 hz1 hz2 hz3 rfl (by decide) _ _ _ rfl (World.ownsRow.alloc HG4.out.s.own _) ⟨X3.heap.size, 0, none⟩ 1 1 [.string ST] rfl rfl (cell_one_new _ _ _) (fun u hu => by simp at hu; subst hu; rfl) (by unfold maxLen; have := HLT.out; omega) (by have := HLT.out; omega) (by simp; omega) ?_; intro v5 w5 hown5 hgrow5 _; have HG6 := (show Hid _ from HG4.out.grow _ hgrow5 (by rw [HST.out] at hown5; exact hown5)); clear hgrow5 hown5 hi1 hz1 hz2 hz3))
            go_roundw
            case rel => exact ⟨j + 1, v5, HLT.out, by go_num, rfl, HE2.out, HG6.out⟩
            case measure => have := HLT.out; simp [intOf]; omega
          · have h0b : (ER != 0) = true := by simpa using h0
            have HBE := (show Hid (Below w.heap.size w X3) from HG4.out.s.mg.below)
            clear h0
            go_wp2
            go_ret
            exact ⟨rfl, HBE.out⟩
        · obtain rfl : j = n := by omega
          have hnl : ¬ ((j : Nat) : Int) < ((j : Nat) : Int) := by omega
          have HSTR := (show Hid (StrsAt wr v j (fun j => S (T1 j))) from own_strs hg.s.own)
          have HG := (show Hid _ from hg)
          clear hes hg hlt HCV
          go_wp2_with fail
          refine (HS2.out _ v HG.out.s.mg.below HSTR.out HES.out).mono ?_
          rintro e W9 ⟨⟨D, F, rfl, hDF⟩, hb⟩
          have h9 := HG.out.step hb
          clear hb HG HSTR HS2 HES
          rcases hDF with ⟨rfl, hDs, hDo⟩ | ⟨rfl, rfl⟩
          · have hrr := h9.s.r
            have HDS := (show Hid _ from hDs)
            have HDO := (show Hid _ from hDo)
            have hl := h9.s.lt
            have HBE := (show Hid _ from Below.setRow h9.s.mg.below q14 (by omega) D)
            clear h9 hDs hDo hl
            go_wp2_with (first | refine wpList_store_row rfl 43 _ _ rfl q14 D rfl rfl 43 _ hrr (by rw [HDS.out]; exact v_info_three) (by rw [HDS.out, ints_size]) HDO.out ?_)
            go_ret
            exact ⟨rfl, HBE.out⟩
          · have hrr := h9.s.r
            have hl := h9.s.lt
            have hl2 := h9.lt
            have hr14 := (h9.s.r.row (ints 78 (flat C))).range
            have hr7 := (h9.r7.rowOther q14 (ints 78 (flat C)) (by omega)).range
            have HBE := (show Hid _ from Below.setRow h9.s.mg.below q14 (by omega) (ints 78 (flat C)))
            have heq := run_eq_three C
            clear h9 hl hl2
            go_wp2_with (first | refine wpList_store_row rfl 43 _ _ rfl q14 (ints 78 (flat C)) rfl rfl 43 _ hrr (by rw [ints_size]; exact v_info_three) (by simp only [ints_size]) (ints_one _ _) ?_ | refine wpList_load_arr_w rfl 43 _ rfl q14 0 rfl (ints 78 (flat C)) _ hr14 Try.underlying43 rfl (by rw [ints_size]; exact v_info_three) ?_ | refine wpList_load_arr_w rfl 43 _ rfl q7 0 rfl (ints 78 (flat C)) _ hr7 Try.underlying43 rfl (by rw [ints_size]; exact v_info_three) ?_)
            go_ret
            exact ⟨rfl, HBE.out⟩
end Go.Proofs.Ytibkcgjofcfoaaa
