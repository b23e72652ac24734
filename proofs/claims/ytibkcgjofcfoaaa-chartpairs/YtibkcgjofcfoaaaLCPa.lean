/-
  ChartPairs, over the contracts of Types and Chart.
-/
import Derived.Test.YtibkcgjofcfoaaaJn8
import Derived.Test.YtibkcgjofcfoaaaKRej
import Derived.Test.YtibkcgjofcfoaaaJn10
import Derived.Test.YtibkcgjofcfoaaaJn7
import Derived.Test.YtibkcgjofcfoaaaJn6
import Derived.Deep.DeepCutAuto
namespace Go.Proofs.Ytibkcgjofcfoaaa
open Go.RowKit PK Vg

theorem run_index_sl3 (V : Nat → Value) (k : Nat) (hk : k < 3) (w : World) : (Instr.index 46 (.agg (sl3 3 V)) (.int .i64 (k : Int))).run Try.prog w = .ok (V k) w := by
  have hs : (sizeOf 23).run Try.prog w = .ok 1 w := by
    obtain ⟨i, hi, hz⟩ := Option.map_eq_some_iff.1 v_info_nums
    simp [sizeOf, typeInfo, hi, hz]
  have hg : (sl3 3 V)[k]? = some (V k) := by rw [sl3_get _ _ hk, if_pos hk]
  have hp : (part 23 (sl3 3 V) k).run Try.prog w = .ok (V k) w := by
    unfold part isAgg
    simp [Sem.run_bind, run_underlying Try.underlying23, hg]
  generalize sl3 3 V = cs at *
  simp [Instr.index, asIntOf, Sem.run_bind, run_underlying Try.underlying46, hs, hk, hp]
theorem run_slice_sl3 (b : Nat) (W : World) : (Instr.sliceAt 46 (.pointer (some ⟨b, 0, none⟩)) none none none).run Try.prog W = .ok (.slice (some ⟨b, 0, none⟩) 3 3) W := by
  simp [Instr.sliceAt, Sem.run_bind, go_sem, run_underlying Try.underlying46]
/-- The machine, and what Types said. -/
structure PpS (w W : World) (a b c : Value) (rf pl : Nat → Int) (q3 : Nat) (V : Nat → Value) (C : Nat → Nat → Nat) : Prop where
  mg : MgAt w W a b c rf pl
  t : RowAt W q3 46 (sl3 3 V)
  tys : TysAt W V 3 C
  lt : w.heap.size < q3
section
variable {w W W' : World} {a b c : Value} {rf pl : Nat → Int} {q3 : Nat} {V : Nat → Value} {C : Nat → Nat → Nat}
theorem PpS.step (h : PpS w W a b c rf pl q3 V C) (hb : Below W.heap.size W W') : PpS w W' a b c rf pl q3 V C := ⟨h.mg.step hb, h.t.below hb h.t.lt, fun i hi => (h.tys i hi).below hb, h.lt⟩
theorem PpS.drewN (h : PpS w W a b c rf pl q3 V C) (n : Nat) : PpS w (W.drewN n) a b c rf pl q3 V C := ⟨⟨h.mg.row, h.mg.below.trans ⟨rfl, rfl, rfl, Nat.le_refl _, fun _ _ => rfl⟩⟩, h.t, h.tys, h.lt⟩
end
theorem lists_of {W : World} {q : Nat} {V : Nat → Value} {C C2 : Nat → Nat → Nat} (h : RowAt W q 46 (sl3 3 V)) (ht : TysAt W V 3 C2) (he : ∀ i, i < 3 → typeOf (C2 i) = typeOf (C i)) : ListsAt W (.slice (some ⟨q, 0, none⟩) 3 3) 3 V (fun i => (typeOf (C i)).length) (fun i j => (((typeOf (C i)).getD j 0 : Nat) : Int)) := by
  refine ⟨q, 0, 3, rfl, fun i hi => ⟨?_, ?_⟩⟩
  · have := h.cell (sl3_get 3 V hi)
    rw [if_pos hi] at this
    rw [Nat.zero_add]
    exact this
  · have := ht i hi
    rw [he i hi] at this
    exact this
/-- The machine, another one, and what Types said of both. -/
structure PrS (w W : World) (a b c : Value) (rf pl : Nat → Int) (q3 q8 q9 : Nat) (V V2 : Nat → Value) (C C2 : Nat → Nat → Nat) : Prop where
  p : PpS w W a b c rf pl q3 V C
  n : RowAt W q8 27 (mac a b c rf (Pm.up fun i => i))
  u : RowAt W q9 46 (sl3 3 V2)
  uty : TysAt W V2 3 C2
  lt : w.heap.size < q8
section
variable {w W W' : World} {a b c : Value} {rf pl : Nat → Int} {q3 q8 q9 : Nat} {V V2 : Nat → Value} {C C2 : Nat → Nat → Nat}
theorem PrS.step (h : PrS w W a b c rf pl q3 q8 q9 V V2 C C2) (hb : Below W.heap.size W W') : PrS w W' a b c rf pl q3 q8 q9 V V2 C C2 := ⟨h.p.step hb, h.n.below hb h.n.lt, h.u.below hb h.u.lt, fun i hi => (h.uty i hi).below hb, h.lt⟩
theorem PrS.drew (h : PrS w W a b c rf pl q3 q8 q9 V V2 C C2) : PrS w W.drew a b c rf pl q3 q8 q9 V V2 C C2 := ⟨h.p.drewN 1, h.n, h.u, h.uty, h.lt⟩
end
/-- The machine and two charts. -/
structure PtS (w W : World) (a b c : Value) (rf pl : Nat → Int) (q10 q11 : Nat) (C C2 : Nat → Nat → Nat) : Prop where
  mg : MgAt w W a b c rf pl
  ra : RowAt W q10 43 (ints 78 (flat C))
  rb : RowAt W q11 43 (ints 78 (flat C2))
section
variable {w W W' : World} {a b c : Value} {rf pl : Nat → Int} {q10 q11 : Nat} {C C2 : Nat → Nat → Nat}
theorem PtS.step (h : PtS w W a b c rf pl q10 q11 C C2) (hb : Below W.heap.size W W') : PtS w W' a b c rf pl q10 q11 C C2 := ⟨h.mg.step hb, h.ra.below hb h.ra.lt, h.rb.below hb h.rb.lt⟩
theorem PtS.alloc (h : PtS w W a b c rf pl q10 q11 C C2) (o : Obj) : PtS w (W.alloc o) a b c rf pl q10 q11 C C2 := h.step ((Below.refl _ _).alloc (Nat.le_refl _) o)
theorem PtS.drew (h : PtS w W a b c rf pl q10 q11 C C2) : PtS w W.drew a b c rf pl q10 q11 C C2 := ⟨h.mg.drew, h.ra, h.rb⟩
end
theorem PtS.other {w W : World} {a b c : Value} {rf pl : Nat → Int} {q10 q11 : Nat} {C C2 : Nat → Nat → Nat} (h : PtS w W a b c rf pl q10 q11 C C2) (p : Nat) (h1 : w.heap.size < p) (h2 : q10 < p) (h3 : q11 < p) (d : Array Value) : PtS w (W.setRow p d) a b c rf pl q10 q11 C C2 := ⟨h.mg.setRow _ h1 _, h.ra.rowOther _ _ (by omega), h.rb.rowOther _ _ (by omega)⟩
theorem flat_in {W : World} {g : Nat} {T : TypeId} {P : Nat → Nat → Nat} {j N : Nat} (h : RowAt W g T (ints N (flat P))) (hj : j * 26 + 26 ≤ N) : W.rangeAt g (j * 26) (ints 26 (Pm.up (P j))).toList := row_mid h _ _ fun i v hv => by
  obtain ⟨h1, rfl⟩ := at_ints hv
  rw [ints_get _ (by omega)]
  unfold flat Pm.up
  rw [show (j * 26 + i) / 26 = j by omega, show (j * 26 + i) % 26 = i by omega]
set_option maxRecDepth 100000 in
set_option maxHeartbeats 2000000 in
theorem pairs_bad (a b c : Value) (rf pl : Nat → Int) (E : Int) (hE : (E != 0) = true) (w : World) (HA : Hid (∀ W, Calls Try.prog 19 #[] W fun e w' => e = .returned (.bool true) ∧ Below W.heap.size W w'))
    (H1 : Hid (∀ W, Below w.heap.size w W → Calls Try.prog 12 #[.agg (mac a b c rf pl)] W fun e w' => e = .returned (.tuple #[.agg (sl3 0 fun _ => .slice none 0 0), .int .i64 E]) ∧ Below W.heap.size W w')) : Calls Try.prog 5 #[.agg (mac a b c rf pl)] w fun e w' => e = .returned (.bool true) ∧ Below w.heap.size w w' := by
  have h0 := MgAt.new w a b c rf pl
  have hz3 := o_zero v_zero_sl3
  go_enter Try.func5, Try.ntmps5
  go_wp2_with fail
  refine (HA.out _).mono ?_
  rintro e W1 ⟨rfl, hb⟩
  have h1 := h0.step hb
  clear hb h0 HA
  go_wp2_with (first | refine wpList_load_row rfl 27 _ rfl w.heap.size rfl 27 (mac a b c rf pl) (0, 0) _ h1.row Try.underlying27 rfl (by rw [mac_size]; exact v_info_mac) ?_)
  refine (H1.out _ h1.below).mono ?_
  rintro e W2 ⟨rfl, hb⟩
  have h2 := h1.step hb
  have HBE := (show Hid _ from Below.setRow (h2.below.alloc h2.below.size (.cells (sl3 0 fun _ => .slice none 0 0) 46)) W2.heap.size h2.below.size (sl3 0 fun _ => .slice none 0 0))
  clear hb h1 H1 h2
  go_wp2_with (first | refine wpList_store_row rfl 46 _ _ rfl W2.heap.size (sl3 0 fun _ => .slice none 0 0) rfl rfl 46 _ (RowAt.new W2 _ _) (by rw [sl3_size]; exact v_info_sl3) (by simp only [sl3_size]) (sl3_one fun i hi => by omega) ?_)
  go_ret
  exact ⟨rfl, HBE.out⟩
set_option maxRecDepth 100000 in
set_option maxHeartbeats 8000000 in
theorem pairs_run (a b c : Value) (ha : a.oneCell' = true) (hb0 : b.oneCell' = true) (hc0 : c.oneCell' = true) (rf : Nat → Int) (P : Nat → Nat) (hP : Pm.IsPerm P) (C C2 : Nat → Nat → Nat) (hC2 : ∀ k, Pm.IsPerm (C2 k)) (w : World)
    (HA : Hid (∀ W, Calls Try.prog 19 #[] W fun e w' => e = .returned (.bool true) ∧ Below W.heap.size W w'))
    (T1 : Hid (∀ W, Below w.heap.size w W → Calls Try.prog 12 #[.agg (mac a b c rf (Pm.up P))] W fun e w' => ∃ V, e = .returned (.tuple #[.agg (sl3 3 V), .int .i64 0]) ∧ TysAt w' V 3 C ∧ Below W.heap.size W w'))
    (T2 : Hid (∀ W, Below w.heap.size w W → Calls Try.prog 12 #[.agg (mac a b c rf (Pm.up fun i => i))] W fun e w' => ∃ V, e = .returned (.tuple #[.agg (sl3 3 V), .int .i64 0]) ∧ TysAt w' V 3 C2 ∧ Below W.heap.size W w'))
    (C1' : Hid (∀ W, Below w.heap.size w W → Calls Try.prog 10 #[.agg (mac a b c rf (Pm.up P))] W fun e w' => e = .returned (.tuple #[.agg (ints 78 (flat C)), .int .i64 0]) ∧ Below W.heap.size W w'))
    (C2' : Hid (∀ W, Below w.heap.size w W → Calls Try.prog 10 #[.agg (mac a b c rf (Pm.up fun i => i))] W fun e w' => e = .returned (.tuple #[.agg (ints 78 (flat C2)), .int .i64 0]) ∧ Below W.heap.size W w'))
    (HIP : Hid (∀ k, k < 3 → Rj.InPairs (typeOf (C k)))) (HLN : Hid (∀ k, (typeOf (C k)).length ≤ 1000000)) (HTE : Hid (∀ k, k < 3 → typeOf (C2 k) = typeOf (C k))) (HCJ : Hid (∀ k, k < 3 → ints 26 (Pm.up (Pm.conj (C2 k) P)) = ints 26 (Pm.up (C k)))) :
    Calls Try.prog 5 #[.agg (mac a b c rf (Pm.up P))] w fun e w' => e = .returned (.bool true) ∧ Below w.heap.size w w' := by
  have h0 := MgAt.new w a b c rf (Pm.up P)
  have HS := (show Hid (∀ W, Calls Try.prog 20 #[] W fun e w' => e = .returned (.agg (ints 26 (Pm.up fun i => i))) ∧ Below W.heap.size W w') from same_any)
  have HONE : Hid ((mac a b c rf (Pm.up P)).all (·.oneCell') = true) := mac_one ha hb0 hc0
  have HPP := (show Hid _ from hP)
  have HP2 := (show Hid (∀ k, Pm.IsPerm (C2 k)) from hC2)
  have hz3 := o_zero v_zero_sl3
  clear ha hb0 hc0 hP hC2
  go_enter Try.func5, Try.ntmps5
  go_wp2_with fail
  refine (HA.out _).mono ?_
  rintro e W1 ⟨rfl, hb⟩
  have h1 := h0.step hb
  clear hb h0 HA
  go_wp2_with (first | refine wpList_load_row rfl 27 _ rfl w.heap.size rfl 27 (mac a b c rf (Pm.up P)) (0, 0) _ h1.row Try.underlying27 rfl (by rw [mac_size]; exact v_info_mac) ?_)
  refine (T1.out _ h1.below).mono ?_
  rintro e W2 ⟨V, rfl, hty, hb⟩
  have h2 := h1.step hb
  have HV1 : Hid ((sl3 3 V).all (·.oneCell') = true) := sl3_one fun i hi => one_nums (hty i hi)
  clear hb h1 T1
  go_upto_region 6 with (first | refine wpList_store_row rfl 46 _ _ rfl W2.heap.size (sl3 3 V) rfl rfl 46 _ (RowAt.new W2 _ _) (by rw [sl3_size]; exact v_info_sl3) (by simp only [sl3_size]) HV1.out ?_)
  have hbx := Below.setRow ((Below.refl W2.heap.size W2).alloc (Nat.le_refl _) (.cells (sl3 0 fun _ => .slice none 0 0) 46)) W2.heap.size (Nat.le_refl _) (sl3 3 V)
  have hg0 : PpS w ((W2.alloc (.cells (sl3 0 fun _ => .slice none 0 0) 46)).setRow W2.heap.size (sl3 3 V)) a b c rf (Pm.up P) W2.heap.size V C := ⟨h2.step hbx, (RowAt.new W2 _ _).row _, fun i hi => (hty i hi).below hbx, h2.lt⟩
  generalize (W2.alloc (.cells (sl3 0 fun _ => .slice none 0 0) 46)).setRow W2.heap.size (sl3 3 V) = V3 at *
  obtain ⟨q3, hq⟩ : ∃ x, x = W2.heap.size := ⟨_, rfl⟩
  rw [← hq] at hg0 ⊢
  clear hq hbx h2 hty hz3
  have ht0 := hg0.t
  go_wp2_with (first | refine wpList_load_row rfl 46 _ rfl q3 rfl 46 (sl3 3 V) (0, 0) _ ht0 Try.underlying46 rfl (by rw [sl3_size]; exact v_info_sl3) ?_)
  clear ht0
  go_loopw [26] (fun i W => ∃ k : Nat, k ≤ 3 ∧ i = .int .i64 (k : Nat) ∧ PpS w W a b c rf (Pm.up P) q3 V C) (fun i _ => ((3 : Int) - intOf i).toNat)
  case atStart => exact ⟨0, by omega, rfl, hg0⟩
  case round =>
    clear hg0
    obtain ⟨k, hk, rfl, hg⟩ := hrel
    by_cases hlt : k < 3
    · have HLT : Hid (k < 3) := hlt
      have hlt2 : (k : Int) < 3 := by omega
      have hix := run_index_sl3 V k hlt
      obtain ⟨av, cv, hev, hmv, hcv⟩ := hg.tys k hlt
      rw [hev] at hix
      have hip := HIP.out k hlt
      have hln := HLN.out k
      obtain ⟨l, hl⟩ : ∃ l, l = typeOf (C k) := ⟨_, rfl⟩
      rw [← hl] at hip hln hix hcv
      have hev2 : ((l.length : Int).tmod 2 != 0) = false := by have := hip.even; rw [Int.tmod_eq_emod_of_nonneg (by omega)]; simp; omega
      have hev3 : (((l.length : Int) % 2) != 0) = false := by have := hip.even; simp; omega
      have HEV := (show Hid _ from hip.even)
      have HPR := (show Hid (∀ i, i + i + 1 < l.length → l.getD (i + i) 0 = l.getD (i + i + 1) 0) from hip.pair)
      have HG := (show Hid _ from hg)
      obtain ⟨V0, rfl⟩ : ∃ x, x = wr := ⟨_, rfl⟩
      have HCV := (show Hid (∀ c, c < l.length → ∃ b o, av = some ⟨b, o, none⟩ ∧ V0.cell? ⟨b, o + c, none⟩ = some (.int .i64 ((l.getD c 0 : Nat) : Int))) from hcv)
      clear hip hg hcv hev hmv hl
      go_wp2_with fail
      clear hix hev2 hev3
      go_loopw [7] (fun i W => ∃ j : Nat, j + j ≤ l.length ∧ i = .int .i64 ((j + j : Nat) : Int) ∧ Below V0.heap.size V0 W) (fun i _ => ((l.length : Int) - intOf i).toNat)
      case atStart => exact ⟨0, by omega, rfl, Below.refl _ _⟩
      case round =>
        obtain ⟨j, hj, rfl, hbe⟩ := hrel
        obtain ⟨i, hi⟩ : ∃ i, i = j + j := ⟨_, rfl⟩
        rw [← hi] at hj ⊢
        by_cases hlt3 : i < l.length
        · have HI := (show Hid (i = j + j) from hi)
          have hi1 : i + 1 < l.length := by have := HEV.out; omega
          have HI1 := (show Hid (i + 1 < l.length) from hi1)
          obtain ⟨b1, o1, hav, h1c⟩ := HCV.out i hlt3
          obtain ⟨b2, o2, hav2, h2c⟩ := HCV.out (i + 1) hi1
          rw [hav] at hav2
          cases hav2
          subst hav
          have hpe := HPR.out j (by omega)
          rw [← hi] at hpe
          have d1 := (hbe.cell (p := ⟨b1, o1 + i, none⟩) (cell_block h1c)).trans h1c
          have d2 := (hbe.cell (p := ⟨b1, o1 + (i + 1), none⟩) (cell_block h2c)).trans h2c
          rw [← hpe] at d2
          have HBE := (show Hid _ from hbe)
          generalize l.getD i 0 = x at *
          have hxx : (((x : Nat) : Int) != ((x : Nat) : Int)) = false := by simp
          have hli : (i : Int) < (l.length : Int) := by omega
          have hli1 : (i : Int) + 1 < (l.length : Int) := by omega
          have hi0 : ¬ (i : Int) + 1 < 0 := by omega
          have ht1 : ((i : Int) + 1).toNat = i + 1 := by omega
          clear hbe h1c h2c hpe hi hi1 HPR HCV
          go_upto_region 14 with fail
          go_quiet (fail)
          go_wp2
          go_roundw
          case rel => exact ⟨j + 1, by have := HI1.out; have := HI.out; omega, by have := HI.out; rw [show ((j + 1 + (j + 1) : Nat) : Int) = (i : Int) + 2 by omega], HBE.out.trans ⟨rfl, rfl, rfl, Nat.le_refl _, fun _ _ => rfl⟩⟩
          case measure => have := HI1.out; simp [intOf]; omega
        · have hnl : ¬ (i : Int) < (l.length : Int) := by omega
          have HGN := (show Hid _ from HG.out.step hbe)
          clear hbe HCV HPR HG hi
          go_wp2
          go_roundw
          case rel => exact ⟨k + 1, HLT.out, by go_num, HGN.out⟩
          case measure => have := HLT.out; simp [intOf]; omega
    · obtain rfl : k = 3 := by omega
      have hz55 := o_zero v_zero_mac
      have hmr := hg.mg.row
      have HG := (show Hid _ from hg)
      clear hg hlt
      go_upto_region 18 with (first | refine wpList_load_row rfl 27 _ rfl w.heap.size rfl 27 (mac a b c rf (Pm.up P)) (0, 0) _ hmr Try.underlying27 rfl (by rw [mac_size]; exact v_info_mac) ?_ | refine wpList_store_row rfl 27 _ _ rfl wr.heap.size (mac a b c rf (Pm.up P)) rfl rfl 27 _ (RowAt.new wr _ _) (by rw [mac_size]; exact v_info_mac) (by simp only [mac_size]) HONE.out ?_)
      have hbx := Below.setRow ((Below.refl wr.heap.size wr).alloc (Nat.le_refl _) (.cells (mac (.slice none 0 0) (.slice none 0 0) (.slice none 0 0) (fun _ => 0) (fun _ => 0)) 27)) wr.heap.size (Nat.le_refl _) (mac a b c rf (Pm.up P))
      have h4 := HG.out.step hbx
      have hn4 := (RowAt.new wr 27 (mac (.slice none 0 0) (.slice none 0 0) (.slice none 0 0) (fun _ => 0) (fun _ => 0))).row (mac a b c rf (Pm.up P))
      have hl4 := HG.out.mg.lt
      have hl5 := HG.out.t.lt
      generalize (wr.alloc (.cells (mac (.slice none 0 0) (.slice none 0 0) (.slice none 0 0) (fun _ => 0) (fun _ => 0)) 27)).setRow wr.heap.size (mac a b c rf (Pm.up P)) = V4 at *
      obtain ⟨q8, hq⟩ : ∃ x, x = wr.heap.size := ⟨_, rfl⟩
      have HQ := (show Hid (q8 = wr.heap.size) from hq)
      have HBX := (show Hid _ from hbx)
      rw [← hq] at hn4 hl4 hl5 ⊢
      clear hq hbx hmr hz55 h4
      go_wp2_with fail
      refine (HS.out _).mono ?_
      rintro e W4 ⟨rfl, hb⟩
      have hn5 := hn4.below hb hn4.lt
      have HB6 : Hid (Below wr.heap.size wr (W4.setCells q8 29 (ints 26 (Pm.up fun i => i)).toList)) := below_setCells (by rw [HQ.out]; exact Nat.le_refl _) (HBX.out.trans (hb.mono HBX.out.size))
      clear hb hn4 HS HBX
      have hth := there_row hn5 (o := 29) (n := 26) (by rw [mac_size]; decide)
      go_upto_region 19 with (first | refine wpList_store_mid rfl 25 _ _ rfl q8 29 (ints 26 (Pm.up fun i => i)) rfl rfl (by rw [ints_size]; exact hth) (by rw [ints_size]; exact info_perm) (ints_one _ _) ?_)
      have hn6 := row_setCells (l := (ints 26 (Pm.up fun i => i)).toList) (o := 29) hn5
      rw [mac_plugs] at hn6
      have h6 := HG.out.step HB6.out
      generalize W4.setCells q8 29 (ints 26 (Pm.up fun i => i)).toList = V5 at *
      clear HG HB6 HQ hth hn5 hl5
      go_wp2_with (first | refine wpList_load_row rfl 27 _ rfl q8 rfl 27 (mac a b c rf (Pm.up fun i => i)) (0, 0) _ hn6 Try.underlying27 rfl (by rw [mac_size]; exact v_info_mac) ?_)
      refine (T2.out _ h6.mg.below).mono ?_
      rintro e W6 ⟨V2, rfl, hty2, hb⟩
      have h7 := h6.step hb
      have hn7 := hn6.below hb hn6.lt
      have HV2 : Hid ((sl3 3 V2).all (·.oneCell') = true) := sl3_one fun i hi => one_nums (hty2 i hi)
      clear hb h6 hn6 T2
      have hz3 := o_zero v_zero_sl3
      go_upto_region 20 with (first | refine wpList_store_row rfl 46 _ _ rfl W6.heap.size (sl3 3 V2) rfl rfl 46 _ (RowAt.new W6 _ _) (by rw [sl3_size]; exact v_info_sl3) (by simp only [sl3_size]) HV2.out ?_)
      have hbx := Below.setRow ((Below.refl W6.heap.size W6).alloc (Nat.le_refl _) (.cells (sl3 0 fun _ => .slice none 0 0) 46)) W6.heap.size (Nat.le_refl _) (sl3 3 V2)
      have h8 : PrS w ((W6.alloc (.cells (sl3 0 fun _ => .slice none 0 0) 46)).setRow W6.heap.size (sl3 3 V2)) a b c rf (Pm.up P) q3 q8 W6.heap.size V V2 C C2 := ⟨h7.step hbx, hn7.below hbx hn7.lt, (RowAt.new W6 _ _).row _, fun i hi => (hty2 i hi).below hbx, hl4⟩
      generalize (W6.alloc (.cells (sl3 0 fun _ => .slice none 0 0) 46)).setRow W6.heap.size (sl3 3 V2) = V6 at *
      obtain ⟨q9, hq⟩ : ∃ x, x = W6.heap.size := ⟨_, rfl⟩
      rw [← hq] at h8 ⊢
      clear hq hbx h7 hn7 hty2 hz3 hl4
      refine wp_region_noPanic ?_
      refine wp_region_held_drew (S := fun W => PrS w W a b c rf (Pm.up P) q3 q8 q9 V V2 C C2) (by kernel_rfl) h8.drew (fun hS => ?_)
      obtain ⟨Z, hZ⟩ : ∃ x, x = V6.drew := ⟨_, rfl⟩
      rw [← hZ] at hS ⊢
      clear hZ h8
      refine vtake 0 58 (.int .i64 0) rfl rfl (by kernel_rfl) (by kernel_rfl) (by kernel_rfl) (fun _ _ _ _ h => h) (by rfl) (fun W hW => by clear hS hW; go_simp) hS ?_
      simp only [List.setIfInBounds_toArray, List.set_cons_succ, List.set_cons_zero]
      refine vtake 1 59 (.bool false) rfl rfl (by kernel_rfl) (by kernel_rfl) (by kernel_rfl) (fun _ _ _ _ h => h) (by rfl) (fun W hW => by clear hS hW; go_simp) hS ?_
      simp only [List.setIfInBounds_toArray, List.set_cons_succ, List.set_cons_zero]
      refine vtake 2 60 (.bool false) rfl rfl (by kernel_rfl) (by kernel_rfl) (by kernel_rfl) (fun _ _ _ _ h => h) (by rfl) (fun W hW => by clear hS hW; go_simp) hS ?_
      simp only [List.setIfInBounds_toArray, List.set_cons_succ, List.set_cons_zero]
      refine vtake 3 61 (.slice (some ⟨q3, 0, none⟩) 3 3) rfl rfl (by kernel_rfl) (by kernel_rfl) (by kernel_rfl) (fun _ _ _ _ h => h) (by rfl) (fun W hW => by have u := run_slice_sl3 q3 W; clear hS hW; simp [execOp, Act.eval, u]) hS ?_
      simp only [List.setIfInBounds_toArray, List.set_cons_succ, List.set_cons_zero]
      refine vtake 4 62 (.slice (some ⟨q9, 0, none⟩) 3 3) rfl rfl (by kernel_rfl) (by kernel_rfl) (by kernel_rfl) (fun _ _ _ _ h => h) (by rfl) (fun W hW => by have u := run_slice_sl3 q9 W; clear hS hW; simp [execOp, Act.eval, u]) hS ?_
      simp only [List.setIfInBounds_toArray, List.set_cons_succ, List.set_cons_zero]
      refine wpAnyH_ready (rs := [5]) (by kernel_rfl) (by simp) ?_
      refine AllReadyH.cons (o := _) rfl (fun K hK => ?_) AllReadyH.nil
      rw [if_pos (by rfl)]
      go_simp
      refine Calls.mono (samelists_ok _ _ 3 (by decide) V V2 (fun i => (typeOf (C i)).length) (fun i j => (((typeOf (C i)).getD j 0 : Nat) : Int)) _ (lists_of hS.p.t hS.p.tys (fun _ _ => rfl)) (lists_of hS.u hS.uty HTE.out)) ?_
      rintro e Y ⟨rfl, hb8⟩
      refine hK.out _ _ (hS.step hb8) (fun hS1 => ?_)
      clear hK hS K
      have hS := hS1
      clear hS1
      refine vtake 6 64 (.bool false) rfl rfl (by kernel_rfl) (by kernel_rfl) (by kernel_rfl) (fun _ _ _ _ h => h) (by rfl) (fun W hW => by clear hS hW; go_simp) hS ?_
      simp only [List.setIfInBounds_toArray, List.set_cons_succ, List.set_cons_zero]
      refine vtake 7 65 (.bool false) rfl rfl (by kernel_rfl) (by kernel_rfl) (by kernel_rfl) (fun _ _ _ _ h => h) (by rfl) (fun W hW => by clear hS hW; go_simp) hS ?_
      simp only [List.setIfInBounds_toArray, List.set_cons_succ, List.set_cons_zero]
      refine wpAnyH_done (by kernel_rfl) ?_ _
      refine NoPanic.normal ?_
      have HP8 := (show Hid _ from hS)
      have hmr := hS.p.mg.row
      clear hS
      have hz78 := o_zero v_zero_three
      go_wp2_with (first | refine wpList_load_row rfl 27 _ rfl w.heap.size rfl 27 (mac a b c rf (Pm.up P)) (0, 0) _ hmr Try.underlying27 rfl (by rw [mac_size]; exact v_info_mac) ?_)
      refine (C1'.out _ HP8.out.p.mg.below).mono ?_
      rintro e W7 ⟨rfl, hb⟩
      have h9 := HP8.out.step hb
      clear hb HP8 hmr C1'
      go_upto_region 23 with (first | refine wpList_store_row rfl 43 _ _ rfl W7.heap.size (ints 78 (flat C)) rfl rfl 43 _ (RowAt.new W7 _ _) (by rw [ints_size]; exact v_info_three) (by simp only [ints_size]) (ints_one _ _) ?_)
      have hbx := Below.setRow ((Below.refl W7.heap.size W7).alloc (Nat.le_refl _) (.cells (ints 78 fun _ => 0) 43)) W7.heap.size (Nat.le_refl _) (ints 78 (flat C))
      have h10 := h9.step hbx
      have hra := (RowAt.new W7 43 (ints 78 fun _ => 0)).row (ints 78 (flat C))
      generalize (W7.alloc (.cells (ints 78 fun _ => 0) 43)).setRow W7.heap.size (ints 78 (flat C)) = V7 at *
      obtain ⟨q10, hq⟩ : ∃ x, x = W7.heap.size := ⟨_, rfl⟩
      rw [← hq] at hra ⊢
      clear hq hbx h9
      have hnr := h10.n
      have HMG := (show Hid _ from h10.p.mg)
      clear h10
      go_wp2_with (first | refine wpList_load_row rfl 27 _ rfl q8 rfl 27 (mac a b c rf (Pm.up fun i => i)) (0, 0) _ hnr Try.underlying27 rfl (by rw [mac_size]; exact v_info_mac) ?_)
      refine (C2'.out _ HMG.out.below).mono ?_
      rintro e W8 ⟨rfl, hb⟩
      have hm8 := HMG.out.step hb
      have hra8 := hra.below hb hra.lt
      clear hb HMG hra hnr C2'
      go_upto_region 26 with (first | refine wpList_store_row rfl 43 _ _ rfl W8.heap.size (ints 78 (flat C2)) rfl rfl 43 _ (RowAt.new W8 _ _) (by rw [ints_size]; exact v_info_three) (by simp only [ints_size]) (ints_one _ _) ?_)
      have hbx := Below.setRow ((Below.refl W8.heap.size W8).alloc (Nat.le_refl _) (.cells (ints 78 fun _ => 0) 43)) W8.heap.size (Nat.le_refl _) (ints 78 (flat C2))
      have hg0 : PtS w ((W8.alloc (.cells (ints 78 fun _ => 0) 43)).setRow W8.heap.size (ints 78 (flat C2))) a b c rf (Pm.up P) q10 W8.heap.size C C2 := ⟨hm8.step hbx, hra8.below hbx hra8.lt, (RowAt.new W8 _ _).row _⟩
      generalize (W8.alloc (.cells (ints 78 fun _ => 0) 43)).setRow W8.heap.size (ints 78 (flat C2)) = V8 at *
      obtain ⟨q11, hq⟩ : ∃ x, x = W8.heap.size := ⟨_, rfl⟩
      rw [← hq] at hg0 ⊢
      clear hq hbx hm8 hra8 hz78
      go_wp2_with fail
      go_loopw [82] (fun i W => ∃ k : Nat, k ≤ 3 ∧ i = .int .i64 (k : Nat) ∧ PtS w W a b c rf (Pm.up P) q10 q11 C C2) (fun i _ => ((3 : Int) - intOf i).toNat)
      case atStart => exact ⟨0, by omega, rfl, hg0⟩
      case round =>
        clear hg0
        obtain ⟨k, hk, rfl, hg⟩ := hrel
        by_cases hlt : k < 3
        · have HLT : Hid (k < 3) := hlt
          have hlt2 : (k : Int) < 3 := by omega
          have HCJC : Hid (∀ W, Calls Try.prog 21 #[.agg (ints 26 (Pm.up (C2 k))), .agg (ints 26 (Pm.up P))] W fun e w' => e = .returned (.tuple #[.agg (ints 26 (Pm.up (C k))), .int .i64 0]) ∧ Below W.heap.size W w') := fun W => by
            have := conj_ok (C2 k) P (HP2.out k) HPP.out W
            rw [HCJ.out k HLT.out] at this
            exact this
          have hz26 := o_zero v_zero_perm
          have HG := (show Hid _ from hg)
          clear hg hlt
          go_upto_region 29 with fail
          go_cut [14, 15] (fun p e W => e = .int .i64 0 ∧ ∃ q14, p = .pointer (some ⟨q14, 0, none⟩) ∧ PtS w W a b c rf (Pm.up P) q10 q11 C C2 ∧ RowAt W q14 25 (ints 26 (Pm.up (C k))))
          case first =>
            have hSd := HG.out.drew
            obtain ⟨U, hU⟩ : ∃ x, x = wr.drew := ⟨_, rfl⟩
            refine wp_region_noPanic ?_
            refine wp_region_held_drew (S := fun W => PtS w W a b c rf (Pm.up P) q10 q11 C C2) (by kernel_rfl) hSd (fun hS => ?_)
            clear hSd
            rw [← hU] at hS ⊢
            clear hU HG
            refine vtake 0 86 (.int .i64 (k : Nat)) rfl rfl (by kernel_rfl) (by kernel_rfl) (by kernel_rfl) (fun _ _ _ _ h => h) (by rfl) (fun W hW => by clear hS hW; go_simp) hS ?_
            simp only [List.setIfInBounds_toArray, List.set_cons_succ, List.set_cons_zero]
            refine vtake 1 87 (.pointer (some ⟨q11, k * 26, none⟩)) rfl rfl (by kernel_rfl) (by kernel_rfl) (by kernel_rfl) (fun _ _ _ _ h => h) (by rfl) (fun W hW => by have u1 : ¬ (3 : Int) ≤ (k : Int) := (by have := HLT.out; omega); clear hS hW; go_simp) hS ?_
            simp only [List.setIfInBounds_toArray, List.set_cons_succ, List.set_cons_zero]
            refine vtake 2 88 (.agg (ints 26 (Pm.up (C2 k)))) rfl rfl (by kernel_rfl) (by kernel_rfl) (by kernel_rfl) (fun _ _ _ _ h => h) (by rfl) (fun W hW => by have u := run_loadAt_mid (P := Try.prog) W q11 (k * 26) 25 (ints 26 (Pm.up (C2 k))).toList _ (flat_in hW.rb (by have := HLT.out; omega)) Try.underlying25 rfl (by rw [Array.length_toList, ints_size]; exact info_perm); clear hS hW; simp [execOp, Act.eval, u]) hS ?_
            simp only [List.setIfInBounds_toArray, List.set_cons_succ, List.set_cons_zero]
            refine vtake 3 89 (.pointer (some ⟨w.heap.size, 29, none⟩)) rfl rfl (by kernel_rfl) (by kernel_rfl) (by kernel_rfl) (fun _ _ _ _ h => h) (by rfl) (fun W hW => by clear hS hW; go_simp) hS ?_
            simp only [List.setIfInBounds_toArray, List.set_cons_succ, List.set_cons_zero]
            refine vtake 4 90 (.agg (ints 26 (Pm.up P))) rfl rfl (by kernel_rfl) (by kernel_rfl) (by kernel_rfl) (fun _ _ _ _ h => h) (by rfl) (fun W hW => by have u := run_loadAt_mid (P := Try.prog) W w.heap.size 29 25 (ints 26 (Pm.up P)).toList _ (mid_pl hW.mg.row) Try.underlying25 rfl (by rw [Array.length_toList, ints_size]; exact info_perm); clear hS hW; simp [execOp, Act.eval, u]) hS ?_
            simp only [List.setIfInBounds_toArray, List.set_cons_succ, List.set_cons_zero]
            refine wpAnyH_ready (rs := [5, 9]) (by kernel_rfl) (by simp) ?_
            refine AllReadyH.cons (o := _) rfl (fun K hK => ?_) (AllReadyH.cons (o := _) rfl (fun K hK => ?_) AllReadyH.nil)
            · rw [if_pos (by rfl)]
              go_simp
              refine Calls.mono (HCJC.out _) ?_
              rintro e Y ⟨rfl, hb8⟩
              refine hK.out _ _ (hS.step hb8) (fun hS1 => ?_)
              clear hK hS K hb8
              have hS := hS1
              clear hS1
              refine vtake 6 85 (.tuple #[.agg (ints 26 (Pm.up (C k))), .int .i64 0]) rfl rfl (by kernel_rfl) (by kernel_rfl) (by kernel_rfl) (fun _ _ _ _ h => h) (by rfl) (fun W hW => by clear hS hW; go_simp) hS ?_
              simp only [List.setIfInBounds_toArray, List.set_cons_succ, List.set_cons_zero]
              refine vtake 7 92 (.agg (ints 26 (Pm.up (C k)))) rfl rfl (by kernel_rfl) (by kernel_rfl) (by kernel_rfl) (fun _ _ _ _ h => h) (by rfl) (fun W hW => by clear hS hW; go_simp) hS ?_
              simp only [List.setIfInBounds_toArray, List.set_cons_succ, List.set_cons_zero]
              refine vtake 8 93 (.int .i64 0) rfl rfl (by kernel_rfl) (by kernel_rfl) (by kernel_rfl) (fun _ _ _ _ h => h) (by rfl) (fun W hW => by clear hS hW; go_simp) hS ?_
              simp only [List.setIfInBounds_toArray, List.set_cons_succ, List.set_cons_zero]
              refine wpAnyH_ready (rs := [9]) (by kernel_rfl) (by simp) ?_
              refine AllReadyH.cons (o := _) rfl (fun K hK => ?_) AllReadyH.nil
              rw [if_pos (by rfl)]
              go_simp
              have hr2 := RowAt.new Y 25 (ints 26 fun _ => 0)
              have hl1 := hS.mg.lt
              have hl2 := hS.ra.lt
              have hl3 := hS.rb.lt
              refine hK.out _ _ (hS.alloc _) (fun hS1 => ?_)
              clear hK hS K
              have hS := hS1
              clear hS1
              obtain ⟨q14, hq14⟩ : ∃ x, x = Y.heap.size := ⟨_, rfl⟩
              rw [← hq14] at hr2 hl1 hl2 hl3 ⊢
              generalize Y.alloc (.cells (ints 26 fun _ => 0) 25) = V9 at *
              clear hq14
              refine storeH 10 _ (by kernel_rfl) rfl (by kernel_rfl) 25 (Operand.tmp 14) (Operand.tmp 92) rfl q14 (ints 26 (Pm.up (C k))) rfl rfl 25 _ hr2 (by rw [ints_size]; exact info_perm) (by simp only [ints_size]) (ints_one _ _) rfl (hS.other q14 hl1 hl2 hl3 _) (fun hS1 => ?_)
              have hr3 := hr2.row (ints 26 (Pm.up (C k)))
              clear hS hr2
              have hS := hS1
              clear hS1
              refine vtake 11 15 (.int .i64 0) rfl rfl (by kernel_rfl) (by kernel_rfl) (by kernel_rfl) (fun _ _ _ _ h => h) (by rfl) (fun W hW => by clear hS hW; go_simp) hS ?_
              simp only [List.setIfInBounds_toArray, List.set_cons_succ, List.set_cons_zero]
              refine wpAnyH_done (by kernel_rfl) ?_ _
              refine NoPanic.normal ?_
              go_wp2_with fail
              go_meet
              exact ⟨rfl, q14, rfl, hS, hr3⟩
            · rw [if_pos (by rfl)]
              go_simp
              have hr2 := RowAt.new U 25 (ints 26 fun _ => 0)
              have hl1 := hS.mg.lt
              have hl2 := hS.ra.lt
              have hl3 := hS.rb.lt
              refine hK.out _ _ (hS.alloc _) (fun hS1 => ?_)
              clear hK hS K
              have hS := hS1
              clear hS1
              obtain ⟨q14, hq14⟩ : ∃ x, x = U.heap.size := ⟨_, rfl⟩
              rw [← hq14] at hr2 hl1 hl2 hl3 ⊢
              generalize U.alloc (.cells (ints 26 fun _ => 0) 25) = V9 at *
              clear hq14
              refine wpAnyH_ready (rs := [5]) (by kernel_rfl) (by simp) ?_
              refine AllReadyH.cons (o := _) rfl (fun K hK => ?_) AllReadyH.nil
              rw [if_pos (by rfl)]
              go_simp
              refine Calls.mono (HCJC.out _) ?_
              rintro e Y ⟨rfl, hb8⟩
              refine hK.out _ _ (hS.step hb8) (fun hS1 => ?_)
              have hr4 := hr2.below hb8 hr2.lt
              clear hK hS K hb8 hr2
              have hS := hS1
              have hr2 := hr4
              clear hS1 hr4
              refine vtake 6 85 (.tuple #[.agg (ints 26 (Pm.up (C k))), .int .i64 0]) rfl rfl (by kernel_rfl) (by kernel_rfl) (by kernel_rfl) (fun _ _ _ _ h => h) (by rfl) (fun W hW => by clear hS hW; go_simp) hS ?_
              simp only [List.setIfInBounds_toArray, List.set_cons_succ, List.set_cons_zero]
              refine vtake 7 92 (.agg (ints 26 (Pm.up (C k)))) rfl rfl (by kernel_rfl) (by kernel_rfl) (by kernel_rfl) (fun _ _ _ _ h => h) (by rfl) (fun W hW => by clear hS hW; go_simp) hS ?_
              simp only [List.setIfInBounds_toArray, List.set_cons_succ, List.set_cons_zero]
              refine vtake 8 93 (.int .i64 0) rfl rfl (by kernel_rfl) (by kernel_rfl) (by kernel_rfl) (fun _ _ _ _ h => h) (by rfl) (fun W hW => by clear hS hW; go_simp) hS ?_
              simp only [List.setIfInBounds_toArray, List.set_cons_succ, List.set_cons_zero]
              refine storeH 10 _ (by kernel_rfl) rfl (by kernel_rfl) 25 (Operand.tmp 14) (Operand.tmp 92) rfl q14 (ints 26 (Pm.up (C k))) rfl rfl 25 _ hr2 (by rw [ints_size]; exact info_perm) (by simp only [ints_size]) (ints_one _ _) rfl (hS.other q14 hl1 hl2 hl3 _) (fun hS1 => ?_)
              have hr3 := hr2.row (ints 26 (Pm.up (C k)))
              clear hS hr2
              have hS := hS1
              clear hS1
              refine vtake 11 15 (.int .i64 0) rfl rfl (by kernel_rfl) (by kernel_rfl) (by kernel_rfl) (fun _ _ _ _ h => h) (by rfl) (fun W hW => by clear hS hW; go_simp) hS ?_
              simp only [List.setIfInBounds_toArray, List.set_cons_succ, List.set_cons_zero]
              refine wpAnyH_done (by kernel_rfl) ?_ _
              refine NoPanic.normal ?_
              go_wp2_with fail
              go_meet
              exact ⟨rfl, q14, rfl, hS, hr3⟩
          case rest =>
            obtain ⟨rfl, q14, rfl, h12, hr14⟩ := hcut
            clear HG hz26 HCJC
            go_upto_region 30 with fail
            refine wp_region_noPanic ?_
            refine wp_region_held_drew (S := fun W => PtS w W a b c rf (Pm.up P) q10 q11 C C2 ∧ RowAt W q14 25 (ints 26 (Pm.up (C k)))) (by kernel_rfl) ⟨h12.drew, hr14⟩ (fun hS => ?_)
            obtain ⟨U, hU⟩ : ∃ x, x = wc.drew := ⟨_, rfl⟩
            rw [← hU] at hS ⊢
            clear hU h12 hr14
            refine vtake 0 94 (.int .i64 0) rfl rfl (by kernel_rfl) (by kernel_rfl) (by kernel_rfl) (fun _ _ _ _ h => h) (by rfl) (fun W hW => by clear hS hW; go_simp) hS ?_
            simp only [List.setIfInBounds_toArray, List.set_cons_succ, List.set_cons_zero]
            refine vtake 1 95 (.bool false) rfl rfl (by kernel_rfl) (by kernel_rfl) (by kernel_rfl) (fun _ _ _ _ h => h) (by rfl) (fun W hW => by clear hS hW; go_simp) hS ?_
            simp only [List.setIfInBounds_toArray, List.set_cons_succ, List.set_cons_zero]
            refine vtake 2 96 (.bool false) rfl rfl (by kernel_rfl) (by kernel_rfl) (by kernel_rfl) (fun _ _ _ _ h => h) (by rfl) (fun W hW => by clear hS hW; go_simp) hS ?_
            simp only [List.setIfInBounds_toArray, List.set_cons_succ, List.set_cons_zero]
            refine vtake 3 97 (.agg (ints 26 (Pm.up (C k)))) rfl rfl (by kernel_rfl) (by kernel_rfl) (by kernel_rfl) (fun _ _ _ _ h => h) (by rfl) (fun W hW => by have u := run_loadVar_row (P := Try.prog) W q14 25 25 (ints 26 (Pm.up (C k))) (0, 0) _ hW.2 Try.underlying25 rfl (by rw [ints_size]; exact info_perm); clear hS hW; simp [execOp, Act.eval, Instr.loadAt, Instr.sureAddr, u]) hS ?_
            simp only [List.setIfInBounds_toArray, List.set_cons_succ, List.set_cons_zero]
            refine vtake 4 98 (.int .i64 (k : Nat)) rfl rfl (by kernel_rfl) (by kernel_rfl) (by kernel_rfl) (fun _ _ _ _ h => h) (by rfl) (fun W hW => by clear hS hW; go_simp) hS ?_
            simp only [List.setIfInBounds_toArray, List.set_cons_succ, List.set_cons_zero]
            refine vtake 5 99 (.pointer (some ⟨q10, k * 26, none⟩)) rfl rfl (by kernel_rfl) (by kernel_rfl) (by kernel_rfl) (fun _ _ _ _ h => h) (by rfl) (fun W hW => by have u1 : ¬ (3 : Int) ≤ (k : Int) := (by have := HLT.out; omega); clear hS hW; go_simp) hS ?_
            simp only [List.setIfInBounds_toArray, List.set_cons_succ, List.set_cons_zero]
            refine vtake 6 100 (.agg (ints 26 (Pm.up (C k)))) rfl rfl (by kernel_rfl) (by kernel_rfl) (by kernel_rfl) (fun _ _ _ _ h => h) (by rfl) (fun W hW => by have u := run_loadAt_mid (P := Try.prog) W q10 (k * 26) 25 (ints 26 (Pm.up (C k))).toList _ (flat_in hW.1.ra (by have := HLT.out; omega)) Try.underlying25 rfl (by rw [Array.length_toList, ints_size]; exact info_perm); clear hS hW; simp [execOp, Act.eval, u]) hS ?_
            simp only [List.setIfInBounds_toArray, List.set_cons_succ, List.set_cons_zero]
            refine vtake 7 101 (.bool false) rfl rfl (by kernel_rfl) (by kernel_rfl) (by kernel_rfl) (fun _ _ _ _ h => h) (by rfl) (fun W hW => by have u := run_neq_perm (Pm.up (C k)); clear hS hW; go_simp) hS ?_
            simp only [List.setIfInBounds_toArray, List.set_cons_succ, List.set_cons_zero]
            refine vtake 8 102 (.bool false) rfl rfl (by kernel_rfl) (by kernel_rfl) (by kernel_rfl) (fun _ _ _ _ h => h) (by rfl) (fun W hW => by clear hS hW; go_simp) hS ?_
            simp only [List.setIfInBounds_toArray, List.set_cons_succ, List.set_cons_zero]
            refine wpAnyH_done (by kernel_rfl) ?_ _
            refine NoPanic.normal ?_
            have HX := (show Hid _ from hS.1)
            clear hS
            go_wp2_with fail
            go_roundw
            case rel => exact ⟨k + 1, HLT.out, by go_num, HX.out⟩
            case measure => have := HLT.out; simp [intOf]; omega
        · obtain rfl : k = 3 := by omega
          have hbe := hg.mg.below
          clear hg hlt
          go_wp2
          go_ret
          exact ⟨rfl, hbe⟩
theorem steps_unplugged (M : Om.Ma) (at' : Nat → Nat) : ∀ k, Om.steps (Om.unplugged M) at' k = Om.steps M at' k
  | 0 => rfl
  | k + 1 => by
    show Om.step (Om.unplugged M) (Om.steps (Om.unplugged M) at' k) = Om.step M (Om.steps M at' k)
    rw [steps_unplugged M at' k]
    rfl
theorem chE_plugs {M : Om.Ma} (h : Om.Ok M) (k : Nat) {c : Nat} (hc : c < 26) : chE M k c = M.pl (chE (Om.unplugged M) k (M.pl c)) := by
  unfold chE
  rw [steps_unplugged]
  exact Om.now_plugs h _ hc
theorem chC_conj {M : Om.Ma} (h : Om.Ok M) (k : Nat) : ∀ i, i < 26 → Pm.conj (chC (Om.unplugged M) k) M.pl i = chC M k i := fun i hi => by
  have hU := Om.ok_unplugged h
  have hp := h.pl.lt i hi
  have e : Pm.inv M.pl i = M.pl i := Om.inv_unique h.pl hp (h.pl2 i hi)
  have hy : chE (Om.unplugged M) k (M.pl i) < 26 := (Om.now_perm hU (Om.steps (Om.unplugged M) (Om.unplugged M).st (k + 1))).lt _ hp
  show M.pl (chE (Om.unplugged M) (k + 3) (chE (Om.unplugged M) k (Pm.inv M.pl i))) = chE M (k + 3) (chE M k i)
  rw [e, chE_plugs h k hi, chE_plugs h (k + 3) (h.pl.lt _ hy), h.pl2 _ hy]
/-- ChartPairs, of any machine. -/
theorem chartpairs_of (HA : ∀ W, Calls Try.prog 19 #[] W fun e w' => e = .returned (.bool true) ∧ Below W.heap.size W w') (vm : Value) (g : Gm) (w : World) (hm : MacAt w vm g) : Calls Try.prog 5 #[vm] w fun e w' => e = .returned (.bool true) ∧ Below w.heap.size w w' := by
  have TY := fun W (hb : Below w.heap.size w W) => types_any vm g W (hm.below hb)
  have CH := fun W (hb : Below w.heap.size w W) => chart_any vm g W (hm.below hb)
  by_cases hg : gE g = 0
  · obtain ⟨hM, _⟩ := ok_maOf hg
    have hbg := gE_bare hg
    have hMb := (ok_maOf hbg).1
    obtain ⟨a, b, c, rfl, m1, m2, m3⟩ := hm
    have hmac : mac a b c g.rf g.pl = mac a b c g.rf (Pm.up (maOf g).pl) := mac_ext (fun _ _ => rfl) (perm_toNat (gE_zero hg).2.2.2.2.2.1).2 a b c
    have TB := fun W (hb : Below w.heap.size w W) => types_any (.agg (mac a b c g.rf (Pm.up fun i => i))) (bare g) W ⟨a, b, c, rfl, m1.below hb, m2.below hb, m3.below hb⟩
    have CB := fun W (hb : Below w.heap.size w W) => chart_any (.agg (mac a b c g.rf (Pm.up fun i => i))) (bare g) W ⟨a, b, c, rfl, m1.below hb, m2.below hb, m3.below hb⟩
    unfold chA at CH CB
    rw [if_pos hg, hg] at CH
    rw [if_pos hbg, hbg] at CB
    rw [hmac] at TY CH ⊢
    have hcj := chC_conj hM
    rw [← ma_bare] at hcj
    refine pairs_run a b c (one_wheels m1) (one_nums m2) (one_nums m3) g.rf (maOf g).pl hM.pl (chC (maOf g)) (chC (maOf (bare g))) (chC_perm hMb) w HA (fun W hb => (TY W hb).mono ?_) (fun W hb => (TB W hb).mono ?_) CH CB (fun k _ => Rj.rejewski (p := chE (maOf g) k) (q := chE (maOf g) (k + 3)) (now_pairing hM _) (now_pairing hM _)) (fun k => type_len _) (fun k _ => ?_) (fun k _ => ints_ext fun i hi => ?_)
    · rintro e w' (⟨h, _⟩ | ⟨_, h⟩)
      · exact absurd hg h
      · exact h
    · rintro e w' (⟨h, _⟩ | ⟨_, h⟩)
      · exact absurd hbg h
      · exact h
    · have h1 := type_congr ((chC_perm hMb k).conj hM.pl) (chC_perm hM k) (hcj k)
      rw [type_conj (chC_perm hMb k) hM.pl] at h1
      exact h1
    · show ((Pm.conj (chC (maOf (bare g)) k) (maOf g).pl i : Nat) : Int) = ((chC (maOf g) k i : Nat) : Int)
      rw [hcj k i hi]
  · obtain ⟨a, b, c, rfl, _⟩ := hm
    exact pairs_bad a b c g.rf g.pl _ (by simpa using hg) w HA (fun W hb => (TY W hb).mono (by
      rintro e w' (⟨_, h⟩ | ⟨h, _⟩)
      · exact h
      · exact absurd h hg))
end Go.Proofs.Ytibkcgjofcfoaaa
