/-
  Several texts, joined: BoUn, BoRp.
-/
import Derived.Test.YtigamiehnjipcaaJn11
import Derived.Test.YtigamiehnjipcaaRoNe
import Derived.Test.YtigamiehnjipcaaJn8
import Derived.Test.YtigamiehnjipcaaRoSt
import Derived.Test.YtigamiehnjipcaaBoSm
import Derived.Test.YtigamiehnjipcaaORWt
/-
  Contract of bombe.unplugged.
-/
namespace Go.Proofs.Ytigamiehnjipcaa
open Go.RowKit PK Vg

theorem b_info_perm : (Try.prog.info? 25).map (fun i => (i.zero, i.size, i.bytes)) = some (some (.agg (ints 26 fun _ => 0)), 26, 208) := by kernel_rfl
theorem made_ints (n : Nat) : madeCells (ints 26 fun _ => 0) (n * 26) = ints (n * 26) fun _ => 0 := by
  apply Array.ext_getElem?
  intro i
  by_cases hi : i < n * 26
  · rw [ints_get _ hi]
    have h2 : (ints 26 fun _ => 0)[i % 26]? = some (.int .i64 0) := ints_get (fun _ => 0) (Nat.mod_lt _ (by decide))
    simp [madeCells, hi, ints_size]
    rw [getElem!_def, h2]
  · rw [Array.getElem?_eq_none (by rw [size_madeCells]; omega), Array.getElem?_eq_none (by rw [ints_size]; omega)]
theorem run_make_perms (n : Nat) (hn : n ≤ 1000) (w : World) : (Instr.makeSlice 57 (.int .i64 (n : Int)) (.int .i64 (n : Int))).run Try.prog w = .ok (.slice (some ⟨w.heap.size, 0, none⟩) n n) (w.alloc (.cells (ints (n * 26) fun _ => 0) 25)) := by
  obtain ⟨i, hi, hz, hs, hb⟩ := x_info_parts b_info_perm
  have hr := run_make (P := Try.prog) w 57 25 i _ Try.underlying57 hi hz .i64 .i64 n n (by omega) (Int.le_refl _) (by rw [hb]; omega) (by omega)
  rw [hr, hs]
  have hc : (Value.agg (ints 26 fun _ => 0)).cells = ints 26 fun _ => 0 := rfl
  simp only [Int.toNat_natCast, hc, made_ints]
/-- What is held while the keys are pressed. -/
structure UnS (w W : World) (a b c : Value) (rf pl : Nat → Int) (M : Om.Ma) (q q7 n k : Nat) : Prop where
  mg : MgAt w W a b c rf pl
  rot : RotAt W q M (Om.steps M M.st k)
  keys : RowAt W q7 25 (ints (n * 26) (flatTo (chE M) k))
  q1 : w.heap.size < q
  q2 : q < q7
set_option maxRecDepth 100000 in
set_option maxHeartbeats 4000000 in
theorem unpl_run (M : Om.Ma) (n : Nat) (hn : n ≤ 1000) (a b c : Value) (rf pl : Nat → Int) (w : World) (HW : Hid (∀ W, Below w.heap.size w W → Calls Try.prog 26 #[.agg (mac a b c rf (Pm.up fun i => i))] W fun e w' => ∃ q, e = .returned (.tuple #[.pointer (some ⟨q, 0, none⟩), .int .i64 0]) ∧ W.heap.size ≤ q ∧ RotAt w' q M M.st ∧ Below W.heap.size W w')) : Calls Try.prog 67 #[.agg (mac a b c rf pl), .int .i64 (n : Nat)] w fun e w' => ∃ q7, e = .returned (.slice (some ⟨q7, 0, none⟩) n n) ∧ w.heap.size ≤ q7 ∧ RowAt w' q7 25 (ints (n * 26) (flat (chE M))) ∧ Below w.heap.size w w' := by
  have h0 := MgAt.new w a b c rf pl
  have HS := (show Hid (∀ W, Calls Try.prog 24 #[] W fun e w' => e = .returned (.agg (ints 26 (Pm.up fun i => i))) ∧ Below W.heap.size W w') from same_any)
  go_enter Try.func67, Try.ntmps67
  go_wp2_with fail
  refine (HS.out _).mono ?_
  rintro e W1 ⟨rfl, hb⟩
  have h1 := h0.step hb
  clear hb h0 HS
  have hth := there_row h1.row (o := 29) (n := 26) (by rw [mac_size]; decide)
  go_upto_region 2 with (first | refine wpList_store_mid rfl 25 _ _ rfl w.heap.size 29 (ints 26 (Pm.up fun i => i)) rfl rfl (by rw [ints_size]; exact hth) (by rw [ints_size]; exact info_perm) (ints_one _ _) ?_)
  have h2 : MgAt w (W1.setCells w.heap.size 29 (ints 26 (Pm.up fun i => i)).toList) a b c rf (Pm.up fun i => i) := by
    refine ⟨?_, below_setCells (Nat.le_refl _) h1.below⟩
    have := row_setCells (l := (ints 26 (Pm.up fun i => i)).toList) (o := 29) h1.row
    rw [mac_plugs] at this
    exact this
  generalize W1.setCells w.heap.size 29 (ints 26 (Pm.up fun i => i)).toList = V1 at *
  clear h1 hth
  have hmr := h2.row
  go_wp2_with (first | refine wpList_load_row rfl 27 _ rfl w.heap.size rfl 27 (mac a b c rf (Pm.up fun i => i)) (0, 0) _ hmr Try.underlying27 rfl (by rw [mac_size]; exact v_info_mac) ?_)
  refine (HW.out _ h2.below).mono ?_
  rintro e W2 ⟨q, rfl, hq, hrot, hb⟩
  have h3 := h2.step hb
  have hq1 : w.heap.size < q := by have := h2.lt; omega
  have hlq := hrot.row.lt
  have hmk := run_make_perms n hn
  clear hb h2 HW hmr hq
  go_upto_region 4 with fail
  have hg0 : UnS w (W2.alloc (.cells (ints (n * 26) fun _ => 0) 25)) a b c rf (Pm.up fun i => i) M q W2.heap.size n 0 := ⟨h3.alloc _, hrot.alloc _, by rw [flatTo_zero]; exact RowAt.new W2 _ _, hq1, hlq⟩
  generalize W2.alloc (.cells (ints (n * 26) fun _ => 0) 25) = V2 at *
  obtain ⟨q7, hq7⟩ : ∃ x, x = W2.heap.size := ⟨_, rfl⟩
  rw [← hq7] at hg0 ⊢
  clear hq7 hmk h3 hrot hq1 hlq
  go_wp2_with fail
  go_loopw [19] (fun i W => ∃ k : Nat, k ≤ n ∧ i = .int .i64 (k : Nat) ∧ UnS w W a b c rf (Pm.up fun i => i) M q q7 n k) (fun i _ => ((n : Int) - intOf i).toNat)
  case atStart => exact ⟨0, by omega, rfl, hg0⟩
  case round =>
    clear hg0
    obtain ⟨k, hk, rfl, hg⟩ := hrel
    by_cases hlt : k < n
    · have HLT : Hid (k < n) := hlt
      have hlt2 : (k : Int) < (n : Int) := by omega
      have HSTK := (show Hid (Om.step M (Om.steps M M.st k) = Om.steps M M.st (k + 1)) from rfl)
      go_wp2_with fail
      refine (step_any q M _ _ hg.rot).mono ?_
      rintro e W3 ⟨rfl, hr, hgr⟩
      rw [HSTK.out] at hr
      have hq1 := hg.q1
      have hq2 := hg.q2
      have hz3 : MgAt w W3 a b c rf (Pm.up fun i => i) := ⟨(hgr.block _ hg.mg.row.lt (fun e => by cases e; omega)).trans hg.mg.row, hg.mg.below.grown hgr hg.mg.below.size (fun k hk => by cases hk; omega)⟩
      have hk3 : RowAt W3 q7 25 (ints (n * 26) (flatTo (chE M) k)) := (hgr.block _ hg.keys.lt (fun e => by cases e; omega)).trans hg.keys
      clear hg hgr
      go_wp2_with fail
      refine (now_any q M _ _ hr).mono ?_
      rintro e W4 ⟨rfl, hb⟩
      have hz4 := hz3.step hb
      have hk4 := hk3.below hb hk3.lt
      have hr4 := hr.below hb
      clear hb hz3 hk3 hr
      obtain ⟨AW, hAW⟩ : ∃ AW, AW = ints 26 (Pm.up (Om.now M (Om.steps M M.st (k + 1)))) := ⟨_, rfl⟩
      have HSZ : Hid (AW.size = 26) := by rw [Hid, hAW, ints_size]
      have HON : Hid (AW.all (·.oneCell') = true) := by rw [Hid, hAW]; exact ints_one _ _
      rw [← hAW]
      have HTH := (show Hid (W4.there q7 (k * 26) 26) from there_row (o := k * 26) (n := 26) hk4 (by rw [ints_size]; omega))
      have HN : Hid (UnS w (W4.setCells q7 (k * 26) AW.toList) a b c rf (Pm.up fun i => i) M q q7 n (k + 1)) := by
        rw [hAW]
        refine ⟨⟨row_setCells_other (by omega) hz4.row, below_setCells (by omega) hz4.below⟩, ⟨row_setCells_other (by omega) hr4.row, hr4.ok, hr4.ins⟩, ?_, hq1, hq2⟩
        have := row_setCells (o := k * 26) (l := (ints 26 (Pm.up (chE M k))).toList) hk4
        rw [flat_lay (n := n) _ rfl HLT.out] at this
        exact this
      clear hz4 hk4 hr4 hq1 hq2 hAW
      go_wp2_with (first | refine wpList_store_mid rfl 25 _ _ rfl q7 (k * 26) AW rfl rfl (by rw [HSZ.out]; exact HTH.out) (by rw [HSZ.out]; exact info_perm) HON.out ?_)
      go_roundw
      case rel => exact ⟨k + 1, HLT.out, by go_num, HN.out⟩
      case measure => have := HLT.out; simp [intOf]; omega
    · obtain rfl : k = n := by omega
      have hnn : ¬ ((k : Nat) : Int) < ((k : Nat) : Int) := by omega
      have hkr := hg.keys
      rw [flatTo_all _ k rfl] at hkr
      have HKR := (show Hid _ from hkr)
      have HBE := (show Hid _ from hg.mg.below)
      have HQ : Hid (w.heap.size ≤ q7) := by have := hg.q1; have := hg.q2; rw [Hid]; omega
      clear hg hlt hkr
      go_wp2
      go_ret
      exact ⟨q7, rfl, HQ.out, HKR.out, HBE.out⟩
theorem unpl_any (vm : Value) (g : Gm) (hg : gE g = 0) (n : Nat) (hn : n ≤ 1000) (w : World) (hm : MacAt w vm g) : Calls Try.prog 67 #[vm, .int .i64 (n : Nat)] w fun e w' => ∃ q7, e = .returned (.slice (some ⟨q7, 0, none⟩) n n) ∧ w.heap.size ≤ q7 ∧ RowAt w' q7 25 (ints (n * 26) (flat (chE (Om.unplugged (maOf g))))) ∧ Below w.heap.size w w' := by
  have hbg := gE_bare hg
  obtain ⟨a, b, c, rfl, m1, m2, m3⟩ := hm
  have HN := fun W (hb : Below w.heap.size w W) => new_any (.agg (mac a b c g.rf (Pm.up fun i => i))) (bare g) W ⟨a, b, c, rfl, m1.below hb, m2.below hb, m3.below hb⟩
  refine unpl_run (Om.unplugged (maOf g)) n hn a b c g.rf g.pl w (fun W hb => (HN W hb).mono ?_)
  rintro e w' (⟨h1, _⟩ | ⟨_, h2⟩)
  · exact absurd hbg h1
  · exact h2
end Go.Proofs.Ytigamiehnjipcaa

/-
  Contract of the document's Places (chapter 10).
-/
namespace Go.Proofs.Ytigamiehnjipcaa
open Go.RowKit PK Vg

set_option maxRecDepth 100000 in
set_option maxHeartbeats 2000000 in
theorem rplaces_bad1 (t c : ByteArray) (E A : Int) (hE : (E != 0) = true) (w : World) (HT : Hid (∀ W, Calls Try.prog 37 #[.string t] W fun e w' => e = .returned (.agg #[.int .i64 E, .int .i64 A]) ∧ Below W.heap.size W w')) : Calls Try.prog 17 #[.string t, .string c] w fun e w' => e = .returned (.tuple #[.slice none 0 0, .agg #[.int .i64 E, .int .i64 A]]) ∧ Below w.heap.size w w' := by
  go_enter Try.func17, Try.ntmps17
  go_wp2_with fail
  refine (HT.out _).mono ?_
  rintro e W1 ⟨rfl, hb⟩
  have hb1 : Below (w.heap.size + 1) (w.alloc (.cells #[.int .i64 0, .int .i64 0] 39)) W1 := by simpa using hb
  have hz := hb1.size
  simp at hz
  have hb2 := hb1.alloc (by omega) (.cells #[.int .i64 E, .int .i64 A] 39)
  clear hb
  obtain ⟨c0, c1, f0, f1, hsz⟩ := Kit.two_cells hb2
  clear HT hb1
  go_wp2_with fail
  go_region
  all_goals (try go_wp2)
  have q := Kit.read_two (.int .i64 E) (.int .i64 A) c0 c1
  refine bodyPost_ret (v := .tuple #[.slice none 0 0, .agg #[.int .i64 E, .int .i64 A]]) (by simp [results, Try.results17, go_sem, q.1, q.2]) rfl ⟨rfl, ?_⟩
  exact (Kit.below_two hb2 _ _).drew
set_option maxRecDepth 100000 in
set_option maxHeartbeats 2000000 in
theorem rplaces_bad2 (t c : ByteArray) (E A : Int) (hE : (E != 0) = true) (w : World) (HT : Hid (∀ W, Calls Try.prog 37 #[.string t] W fun e w' => e = .returned (.agg #[.int .i64 0, .int .i64 0]) ∧ Below W.heap.size W w')) (HC : Hid (∀ W, Calls Try.prog 37 #[.string c] W fun e w' => e = .returned (.agg #[.int .i64 E, .int .i64 A]) ∧ Below W.heap.size W w')) : Calls Try.prog 17 #[.string t, .string c] w fun e w' => e = .returned (.tuple #[.slice none 0 0, .agg #[.int .i64 E, .int .i64 A]]) ∧ Below w.heap.size w w' := by
  go_enter Try.func17, Try.ntmps17
  go_wp2_with fail
  refine (HT.out _).mono ?_
  rintro e W1 ⟨rfl, hb⟩
  have hb1 : Below (w.heap.size + 1) (w.alloc (.cells #[.int .i64 0, .int .i64 0] 39)) W1 := by simpa using hb
  have hz := hb1.size
  simp at hz
  have hb2 := hb1.alloc (by omega) (.cells #[.int .i64 0, .int .i64 0] 39)
  clear hb HT hb1
  go_wp2_with fail
  refine (HC.out _).mono ?_
  rintro e W2 ⟨rfl, hb⟩
  have hb3 := hb2.trans (hb.mono (by have := hb2.size; simp at this ⊢; omega))
  have hb4 := hb3.alloc (by have := hb3.size; simp at this; omega) (.cells #[.int .i64 E, .int .i64 A] 39)
  clear hb hb2 hb3 HC
  obtain ⟨c0, c1, f0, f1, hsz⟩ := Kit.two_cells hb4
  go_wp2_with fail
  go_region
  all_goals (try go_wp2)
  have q := Kit.read_two (.int .i64 E) (.int .i64 A) c0 c1
  refine bodyPost_ret (v := .tuple #[.slice none 0 0, .agg #[.int .i64 E, .int .i64 A]]) (by simp [results, Try.results17, go_sem, q.1, q.2]) rfl ⟨rfl, ?_⟩
  exact (Kit.below_two hb4 _ _).drew

set_option maxRecDepth 100000 in
set_option maxHeartbeats 4000000 in
theorem rplaces_ok (t c : ByteArray) (ht : t.size ≤ 65536) (hc : c.size ≤ 65536) (w : World) (HT : Hid (∀ W, Calls Try.prog 37 #[.string t] W fun e w' => e = .returned (.agg #[.int .i64 0, .int .i64 0]) ∧ Below W.heap.size W w')) (HC : Hid (∀ W, Calls Try.prog 37 #[.string c] W fun e w' => e = .returned (.agg #[.int .i64 0, .int .i64 0]) ∧ Below W.heap.size W w')) : Calls Try.prog 17 #[.string t, .string c] w fun e w' => ∃ v, e = .returned (.tuple #[v, .agg #[.int .i64 0, .int .i64 0]]) ∧ OwnsN w' (w.heap.size + 1) v (plTo t.data.toList c.data.toList (plN t.data.toList c.data.toList)) ∧ Below w.heap.size w w' := by
  obtain ⟨i0, hi0, hz0, hz1, hz2⟩ := info_parts info_int3
  have HPN : Hid (plN t.data.toList c.data.toList = t.size + 1 - c.size) := by unfold plN; rw [Hid, Pl.size_len t, Pl.size_len c]
  go_enter Try.func17, Try.ntmps17
  go_wp2_with fail
  refine (HT.out _).mono ?_
  rintro e W1 ⟨rfl, hb⟩
  have hb1 : Below (w.heap.size + 1) (w.alloc (.cells #[.int .i64 0, .int .i64 0] 39)) W1 := by simpa using hb
  have hz := hb1.size
  simp at hz
  have hb2 := hb1.alloc (by omega) (.cells #[.int .i64 0, .int .i64 0] 39)
  clear hb HT hb1 hz
  go_wp2_with fail
  refine (HC.out _).mono ?_
  rintro e W2 ⟨rfl, hb⟩
  have hb3 := hb2.trans (hb.mono (by have := hb2.size; simp at this ⊢; omega))
  have hb4 := hb3.alloc (by have := hb3.size; simp at this; omega) (.cells #[.int .i64 0, .int .i64 0] 39)
  clear hb hb2 hb3 HC
  go_upto_region 8 with fail
  generalize W2.alloc (.cells #[.int .i64 0, .int .i64 0] 39) = V at *
  have hsz := (Kit.two_cells hb4).2.2.2.2
  have HVZ : Hid ((w.alloc (.cells #[.int .i64 0, .int .i64 0] 39)).heap.size = w.heap.size + 1) := by simp [Hid]
  obtain ⟨w1, hw1⟩ : ∃ x, x = w.alloc (.cells #[.int .i64 0, .int .i64 0] 39) := ⟨_, rfl⟩
  rw [← hw1] at hb4 HVZ
  have HW1 := (show Hid _ from hw1)
  clear hw1

  obtain ⟨n, hn⟩ : ∃ n, n = t.size + 1 - c.size := ⟨_, rfl⟩
  have HNE := (show Hid _ from hn)
  rw [← hn] at HPN
  have hn2 : n ≤ 65537 := by omega
  have HLC : Hid (c.size = c.data.toList.length) := Pl.size_len c
  clear hn
  go_wp2_with fail
  go_loopw [8, 9] (fun o i W => ∃ (k : Nat) (v : Value), k ≤ n ∧ i = .int .i64 (k : Nat) ∧ v = o ∧ OwnsN W (w.heap.size + 1) v (plTo t.data.toList c.data.toList k) ∧ Below (w.heap.size + 1) w1 W) (fun _ i _ => ((n : Int) - intOf i).toNat)
  case atStart => exact ⟨0, _, by omega, rfl, rfl, World.ownsRow_nil _ _ _ _, hb4⟩
  case round =>
    clear hb4
    obtain ⟨k, v, hk, rfl, rfl, hown, hbe⟩ := hrel
    have hln := plTo_len t.data.toList c.data.toList k
    have hbz := hbe.size
    have HBX := (show Hid _ from hbe)
    have HOWN := (show Hid _ from hown)
    by_cases hlt : k < n
    · have HLT : Hid (k < n) := hlt
      have hlt2 : (k : Int) ≤ (t.size : Int) - (c.size : Int) := by have := HNE.out; omega
      have hkt : k + c.size ≤ t.size := by omega
      have hcv := fun w => Lib.run_convert_string_bytes (P := Try.prog) w 9 59 5 c Try.underlying9 Try.underlying59 Try.underlying5
      clear hlt
      go_wp2_with fail
      have hbB : Below wr.heap.size wr (Lib.bytesWorld wr 5 c) := below_bytes wr (Nat.le_refl _) 5 c
      have hownB := own_stepN hown hbB
      have hbeB := hbe.trans (hbB.mono (by rw [← HVZ.out]; exact hbe.size))
      generalize Lib.bytesWorld wr 5 c = V2 at *
      clear hcv hbB hown hbe HBX HOWN hbz
      go_loopw [10, 36] (fun f i W => ∃ (j : Nat) (b : Bool), j ≤ c.size ∧ i = .int .i64 (j : Nat) ∧ f = .bool b ∧ (b = true → ∀ q, q < j → t.data.toList.getD (k + q) 0 ≠ c.data.toList.getD q 0) ∧ (b = false → mt t.data.toList c.data.toList k = true) ∧ OwnsN W (w.heap.size + 1) v (plTo t.data.toList c.data.toList k) ∧ Below (w.heap.size + 1) w1 W) (fun _ i _ => ((c.size : Int) - intOf i).toNat)
      case atStart => exact ⟨0, true, by omega, rfl, rfl, fun _ q hq => by omega, (fun h => by cases h), hownB, hbeB⟩
      case round =>
        clear hownB hbeB
        obtain ⟨j, b, hj, rfl, rfl, hf0, hf1, hown, hbe⟩ := hrel
        have HBX := (show Hid _ from hbe)
        have HOWN := (show Hid _ from hown)
        have hz5 : w.heap.size + 1 ≤ wr.heap.size := by rw [← HVZ.out]; exact hbe.size
        by_cases hlt : j < c.size
        · have HLJ : Hid (j < c.size) := hlt
          have hl1 : (j : Int) < (c.size : Int) := by omega
          have hl2 : (k : Int) + (j : Int) < (t.size : Int) := by omega
          have hl4 : k + j < t.size := by omega
          have hl5 : ((k : Int) + (j : Int)).toNat = k + j := by omega
          have hl6 : ¬ (k : Int) + (j : Int) < 0 := by omega
          have hx := (getD_byte t (k + j) hl4).symm
          have hy := (getD_byte c j hlt).symm
          have HF1 := (show Hid _ from hf1)
          have HNX : Hid (b = true → t.data.toList.getD (k + j) 0 ≠ c.data.toList.getD j 0 → ∀ q, q < j + 1 → t.data.toList.getD (k + q) 0 ≠ c.data.toList.getD q 0) := fun hb h q hq => by
            by_cases e : q = j
            · rw [e]; exact h
            · exact hf0 hb q (by omega)
          have HYES : Hid (t.data.toList.getD (k + j) 0 = c.data.toList.getD j 0 → mt t.data.toList c.data.toList k = true) := fun h => mt_true (i := j) (by rw [← HLC.out]; exact HLJ.out) h
          generalize t.data.toList.getD (k + j) 0 = x at *
          generalize c.data.toList.getD j 0 = y at *
          clear hown hbe hf0 hf1
          cases b
          · clear hx hy hl2 hl5 hl6
            go_upto_region 15 with fail
            go_quiet (fail)
            go_wp2
            go_roundw
            case rel => exact ⟨j + 1, false, HLJ.out, by go_num, rfl, (fun h => by cases h), HF1.out, HOWN.out, HBX.out.trans ⟨rfl, rfl, rfl, Nat.le_refl _, fun _ _ => rfl⟩⟩
            case measure => have := HLJ.out; simp [intOf]; omega
          · by_cases hxy : x = y
            · subst hxy
              have HT := (show Hid _ from HYES.out rfl)
              have hb : (((x.toNat : Nat) : Int) != ((x.toNat : Nat) : Int)) = false := by simp
              clear HYES HNX HF1
              go_upto_region 15 with fail
              go_quiet (fail)
              go_wp2
              go_roundw
              case rel => exact ⟨j + 1, false, HLJ.out, by go_num, rfl, (fun h => by cases h), (fun _ => HT.out), HOWN.out, HBX.out.trans ⟨rfl, rfl, rfl, Nat.le_refl _, fun _ _ => rfl⟩⟩
              case measure => have := HLJ.out; simp [intOf]; omega
            · have HNN := (show Hid _ from HNX.out rfl hxy)
              have hb : (((x.toNat : Nat) : Int) != ((y.toNat : Nat) : Int)) = true := by have := byte_ne hxy; simp at this ⊢; exact this
              clear HYES HNX hxy HF1
              go_upto_region 15 with fail
              go_quiet (fail)
              go_wp2
              go_roundw
              case rel => exact ⟨j + 1, true, HLJ.out, by go_num, rfl, (fun _ => HNN.out), (fun h => by cases h), HOWN.out, HBX.out.trans ⟨rfl, rfl, rfl, Nat.le_refl _, fun _ _ => rfl⟩⟩
              case measure => have := HLJ.out; simp [intOf]; omega
        · obtain rfl : j = c.size := by omega
          have hnn : ¬ ((c.size : Nat) : Int) < ((c.size : Nat) : Int) := by omega
          clear hlt HBX HOWN
          cases b
          · have HPL : Hid (plTo t.data.toList c.data.toList (k + 1) = plTo t.data.toList c.data.toList k) := plTo_no (hf1 rfl)
            clear hf0 hf1
            go_wp2
            go_roundw
            case rel => exact ⟨k + 1, v, HLT.out, by go_num, rfl, by rw [HPL.out]; exact hown, hbe⟩
            case measure => have := HLT.out; simp [intOf]; omega
          · have HPL : Hid (plTo t.data.toList c.data.toList (k + 1) = plTo t.data.toList c.data.toList k ++ [k]) := plTo_yes (mt_false fun i hi => hf0 rfl i (by rw [HLC.out]; exact hi))
            clear hf0 hf1
            generalize plTo t.data.toList c.data.toList k = L at *
            go_wp2_with (first | (at_builtin; refine wpList_append_own _ rfl _ _ 23 rfl (w.heap.size + 1) 3 i0 (.int .i64 0) 1 8 Try.underlying23 hi0 hz0 hz1 hz2 rfl (by decide) _ _ _ rfl (World.ownsRow.alloc hown _) ⟨wr.heap.size, 0, none⟩ 1 1 [.int .i64 (k : Nat)] rfl rfl (cell_one_new _ _ _) (fun u hu => by simp at hu; subst hu; rfl) (by unfold maxLen; omega) (by omega) (by simp; omega) ?_; intro v' w1' hown' hgrow _))
            go_roundw
            case rel =>
              refine ⟨k + 1, v', HLT.out, by go_num, rfl, ?_, ?_⟩
              · rw [HPL.out, OwnsN, nums_append, List.length_append]
                exact hown'
              · exact (hbe.alloc (by omega) _).grown hgrow (by simp; omega) (fun j hj => by have := (World.ownsRow.lt hown j hj).1; omega)
            case measure => have := HLT.out; simp [intOf]; omega
    · obtain rfl : k = n := by omega
      have hnn : ¬ ((k : Nat) : Int) ≤ (t.size : Int) - (c.size : Int) := by have := HNE.out; omega
      have HKN : Hid (k = plN t.data.toList c.data.toList) := HPN.out.symm
      clear hlt hown hbe

      have hbx := HBX.out
      rw [HW1.out] at hbx
      obtain ⟨c0, c1, f0, f1, hsz⟩ := Kit.two_cells hbx
      obtain ⟨av, cv, hev⟩ := own_slice' HOWN.out
      have HEV := (show Hid _ from hev)
      clear hev hsz hbx
      go_wp2
      have q := Kit.read_two (.int .i64 0) (.int .i64 0) c0 c1
      have hbx := HBX.out
      rw [HW1.out] at hbx
      refine bodyPost_ret (v := .tuple #[v, .agg #[.int .i64 0, .int .i64 0]]) (by simp [results, Try.results17, go_sem, q.1, q.2]) rfl ⟨v, rfl, ?_, Kit.below_two hbx _ _⟩
      rw [← HKN.out]
      exact own_two HOWN.out

theorem rplaces_any (t c : ByteArray) (w : World) : Calls Try.prog 17 #[.string t, .string c] w fun e w' => ∃ v, e = .returned (.tuple #[v, .agg #[.int .i64 (plE t.data.toList c.data.toList), .int .i64 (plAt t.data.toList c.data.toList)]]) ∧ OwnsN w' (w.heap.size + 1) v (plL t.data.toList c.data.toList) ∧ Below w.heap.size w w' := by
  have HT := fun W => rcheck_all t W
  have HC := fun W => rcheck_all c W
  have s1 := Pl.size_len t
  have s2 := Pl.size_len c
  unfold plE plAt plL plE
  rcases ck_cases t.data.toList with ⟨e1, e2, e3, _⟩ | h1
  · rw [e1, e2] at HT
    rcases ck_cases c.data.toList with ⟨d1, d2, d3, _⟩ | h2
    · rw [d1, d2] at HC
      simp only [e1, e2, d1, d2, ne_eq, not_true_eq_false, if_false]
      exact rplaces_ok t c (by omega) (by omega) w HT HC
    · have h3 : ckE c.data.toList ≠ 0 := by simpa using h2
      simp only [e1, e2, h3, ne_eq, not_true_eq_false, not_false_eq_true, if_true, if_false]
      exact (rplaces_bad2 t c _ _ h2 w HT HC).mono fun e w' h => ⟨_, h.1, World.ownsRow_nil _ _ _ _, h.2⟩
  · have h3 : ckE t.data.toList ≠ 0 := by simpa using h1
    simp only [h3, ne_eq, not_false_eq_true, if_true]
    exact (rplaces_bad1 t c _ _ h1 w HT).mono fun e w' h => ⟨_, h.1, World.ownsRow_nil _ _ _ _, h.2⟩
end Go.Proofs.Ytigamiehnjipcaa
