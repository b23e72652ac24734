/-
  Several texts, joined: TAl, TIx, ThM.
-/
import Derived.Test.YtkohhdkkbaifoaaGreatDoorJn33
import Derived.Deep.RegionWith
import Derived.RegionTactic
import Derived.Test.YtkohhdkkbaifoaaGreatDoorScI
/-
  Contract of tally.alike: pairs of a text's columns, each counted once.
-/
namespace Go.Proofs.YtkohhdkkbaifoaaGreatDoor
open Go.RowKit PK Vg Tl

/-- The result's variable and the ratio that grows. -/
structure AlAt (w W : World) (u d : Value) : Prop where
  r : RowAt W w.heap.size 53 #[.int .i64 0, .int .i64 0]
  o : RowAt W (w.heap.size + 1) 53 #[u, d]
  below : Below w.heap.size w W
theorem AlAt.new (w : World) : AlAt w ((w.alloc (.cells #[.int .i64 0, .int .i64 0] 53)).alloc (.cells #[.int .i64 0, .int .i64 0] 53)) (.int .i64 0) (.int .i64 0) := by
  have h3 := RowAt.new (w.alloc (.cells #[.int .i64 0, .int .i64 0] 53)) 53 #[.int .i64 0, .int .i64 0]
  simp only [World.size_alloc] at h3
  exact ⟨(RowAt.new w _ _).alloc _, h3, ((Below.refl _ w).alloc (Nat.le_refl _) _).alloc (by simp only [World.size_alloc]; omega) _⟩
theorem AlAt.step {w W W' : World} {u d : Value} (h : AlAt w W u d) (hb : Below W.heap.size W W') : AlAt w W' u d := ⟨h.r.below hb h.r.lt, h.o.below hb h.o.lt, h.below.trans (hb.mono h.below.size)⟩
theorem AlAt.drew {w W : World} {u d : Value} (h : AlAt w W u d) : AlAt w W.drew u d := ⟨h.r, h.o, h.below.drew⟩
theorem AlAt.setU {w W : World} {u d : Value} (h : AlAt w W u d) (v : Value) : AlAt w (W.setCell ⟨w.heap.size + 1, 0, none⟩ v) v d := ⟨h.r.setOther _ _ (by simp), h.o.set 0 v, h.below.setCell (p := ⟨w.heap.size + 1, 0, none⟩) (by simp) _⟩
theorem AlAt.setD {w W : World} {u d : Value} (h : AlAt w W u d) (v : Value) : AlAt w (W.setCell ⟨w.heap.size + 1, 1, none⟩ v) u v := ⟨h.r.setOther _ _ (by simp), h.o.set 1 v, h.below.setCell (p := ⟨w.heap.size + 1, 1, none⟩) (by simp) _⟩
set_option maxRecDepth 100000 in
set_option maxHeartbeats 2000000 in
theorem tal_any (t : ByteArray) (ht : Ls t.data.toList) (hs : t.size ≤ 65536) (n : Nat) (hn2 : n ≤ 64) (w : World) : Calls Tryz.prog 63 #[.string t, .int .i64 (n : Nat)] w fun e w' => e = .returned (.agg #[.int .i64 (halfA t.data.toList n : Nat), .int .i64 (halfP t.data.toList n : Nat)]) ∧ Below w.heap.size w w' := by
  have HCN := (show Hid (∀ c, c < n → ∀ W, Calls Tryz.prog 112 #[.string t, .int .i64 (c : Nat), .int .i64 (n : Nat)] W fun e w' => e = .returned (.agg (ints 26 fun k => (cnt (col t.data.toList n c) k : Nat))) ∧ Below W.heap.size W w') from fun c hc W => tcn_any t ht hs c n hc hn2 W)
  have HPR := (show Hid (∀ m : Nat, m ≤ 65536 → ∀ W, Calls Tryz.prog 113 #[.int .i64 (m : Nat)] W fun e w' => e = .returned (.int .i64 (hp m : Nat)) ∧ W = w') from fun m hm W => tpairs_any m hm W)
  have HLEN : Hid (∀ c, (col t.data.toList n c).length ≤ 65536) := fun c => Nat.le_trans (colTo_le t.data.toList n c t.data.toList.length) (by rw [← Pl.size_len]; exact hs)
  have HLS : Hid (∀ c, Ls (col t.data.toList n c)) := fun c => col_ls ht n c
  have HAB : Hid (∀ c, c ≤ 64 → Tl.sumTo (halfC t.data.toList n) c ≤ 64 * (26 * 4294967296)) := fun c hc => Nat.le_trans (sumTo_boundN (B := 26 * 4294967296) fun k _ => sumTo_boundN (B := 4294967296) fun q _ => Nat.le_trans (hp_le (B := 65536) (Nat.le_trans (cnt_le _ _) (HLEN.out k))) (by decide)) (Nat.mul_le_mul_right _ hc)
  have HAL : Hid (∀ c, c ≤ 64 → Tl.sumTo (fun c => hp (col t.data.toList n c).length) c ≤ 64 * 4294967296) := fun c hc => Nat.le_trans (sumTo_boundN (B := 4294967296) fun k _ => Nat.le_trans (hp_le (B := 65536) (HLEN.out k)) (by decide)) (Nat.mul_le_mul_right _ hc)
  have HA1 : Hid (∀ c, Tl.sumTo (halfC t.data.toList n) (c + 1) = Tl.sumTo (halfC t.data.toList n) c + Tl.sumTo (fun k => hp (cnt (col t.data.toList n c) k)) 26) := fun _ => rfl
  have HL1 : Hid (∀ c, Tl.sumTo (fun c => hp (col t.data.toList n c).length) (c + 1) = Tl.sumTo (fun c => hp (col t.data.toList n c).length) c + hp (col t.data.toList n c).length) := fun _ => rfl
  have HE1 : Hid (halfA t.data.toList n = Tl.sumTo (halfC t.data.toList n) n) := rfl
  have HE2 : Hid (halfP t.data.toList n = Tl.sumTo (fun c => hp (col t.data.toList n c).length) n) := rfl
  go_enter Tryz.func63, Tryz.ntmps63
  go_wp2_with fail
  have h2 := AlAt.new w
  go_loopw [11] (fun i W => ∃ c : Nat, c ≤ n ∧ i = .int .i64 (c : Nat) ∧ AlAt w W (.int .i64 (Tl.sumTo (halfC t.data.toList n) c : Nat)) (.int .i64 (Tl.sumTo (fun c => hp (col t.data.toList n c).length) c : Nat))) (fun i _ => ((n : Int) - intOf i).toNat)
  case atStart => exact ⟨0, by omega, rfl, h2⟩
  case round =>
    clear h2
    obtain ⟨c, hc, rfl, hg⟩ := hrel
    by_cases hlt : c < n
    · have hlt2 : (c : Int) < (n : Int) := by omega
      have hab := HAB.out c (by omega)
      have hal := HAL.out c (by omega)
      have hlen := HLEN.out c
      have HA2 := (show Hid _ from HA1.out c)
      have HL2 := (show Hid _ from HL1.out c)
      have HC2 := (show Hid _ from HCN.out c hlt)
      have HSUM : Hid (Tl.sumTo (cnt (col t.data.toList n c)) 26 = (col t.data.toList n c).length) := cnt_sum (HLS.out c)
      have HCB : Hid (∀ k, cnt (col t.data.toList n c) k ≤ 65536) := fun k => Nat.le_trans (cnt_le _ k) hlen
      generalize Tl.sumTo (halfC t.data.toList n) c = A at *
      generalize Tl.sumTo (fun c => hp (col t.data.toList n c).length) c = L at *
      generalize col t.data.toList n c = q at *
      have HSB : Hid (∀ k, k ≤ 26 → Tl.sumTo (fun k => hp (cnt q k)) k ≤ 26 * 4294967296) := fun k hk => Nat.le_trans (sumTo_boundN (B := 4294967296) fun j _ => Nat.le_trans (hp_le (B := 65536) (HCB.out j)) (by decide)) (Nat.mul_le_mul_right _ hk)
      have HLB : Hid (∀ k, k ≤ 26 → Tl.sumTo (cnt q) k ≤ 26 * 65536) := fun k hk => Nat.le_trans (sumTo_boundN (B := 65536) fun j _ => HCB.out j) (Nat.mul_le_mul_right _ hk)
      have HS1 : Hid (∀ k, Tl.sumTo (fun k => hp (cnt q k)) (k + 1) = Tl.sumTo (fun k => hp (cnt q k)) k + hp (cnt q k)) := fun _ => rfl
      have HS2 : Hid (∀ k, Tl.sumTo (cnt q) (k + 1) = Tl.sumTo (cnt q) k + cnt q k) := fun _ => rfl
      go_wp2_with fail
      refine (HC2.out _).mono ?_
      rintro e W1 ⟨rfl, hb1⟩
      have hg1 := hg.step hb1
      clear hb1 hg
      go_wp2_with fail
      go_loopw [18, 7] (fun i l W => ∃ k : Nat, k ≤ 26 ∧ i = .int .i64 (k : Nat) ∧ l = .int .i64 (Tl.sumTo (cnt q) k : Nat) ∧ AlAt w W (.int .i64 ((A + Tl.sumTo (fun k => hp (cnt q k)) k : Nat) : Int)) (.int .i64 (L : Nat))) (fun i _ _ => ((26 : Int) - intOf i).toNat)
      case atStart => exact ⟨0, by omega, rfl, rfl, hg1⟩
      case round =>
        clear hg1
        obtain ⟨k, hk, rfl, rfl, hg⟩ := hrel
        by_cases hk2 : k < 26
        · have hk3 : (k : Int) < 26 := by omega
          have hsb := HSB.out k (by omega)
          have hlb := HLB.out k (by omega)
          have hcb := HCB.out k
          have HS3 := (show Hid _ from HS1.out k)
          have HS4 := (show Hid _ from HS2.out k)
          have HP2 := (show Hid _ from HPR.out _ hcb)
          have hidx := run_index_cts (fun k => ((cnt q k : Nat) : Int)) k hk2
          have hpb := hp_le hcb
          generalize Tl.sumTo (fun k => hp (cnt q k)) k = S at *
          generalize Tl.sumTo (cnt q) k = LO at *
          generalize cnt q k = C at *
          generalize hp C = HC at *
          have c0 := hg.o.cell (i := 0) rfl
          have f0 := hg.o.frozen 0
          go_upto_region 9 with fail
          go_region_with (first | (go_at_call 113; refine (HP2.out _).mono ?_; rintro e X1 ⟨rfl, rfl⟩))
          all_goals
            go_wp2
            go_roundw
            case rel => exact ⟨k + 1, by omega, by go_num, by rw [HS4.out]; go_num, by rw [HS3.out, ← Nat.add_assoc]; exact hg.drew.setU _⟩
            case measure => simp [intOf]; omega
        · obtain rfl : k = 26 := by omega
          have HP2 := (show Hid _ from HPR.out _ hlen)
          have hpb := hp_le hlen
          have hk3 : ¬ ((26 : Nat) : Int) < 26 := by omega
          rw [HSUM.out]
          rw [← HA2.out] at hg
          generalize q.length = Q at *
          generalize hp Q = HQ at *
          have c1 := hg.o.cell (i := 1) rfl
          have f1 := hg.o.frozen 1
          go_upto_region 12 with fail
          go_region_with (first | (go_at_call 113; refine (HP2.out _).mono ?_; rintro e X1 ⟨rfl, rfl⟩))
          all_goals
            go_wp2
            go_roundw
            case rel => exact ⟨c + 1, by omega, by go_num, by rw [HL2.out]; exact hg.drew.setD _⟩
            case measure => simp [intOf]; omega
    · obtain rfl : c = n := by omega
      rw [← HE1.out, ← HE2.out] at hg
      have c0 := hg.o.cell (i := 0) rfl
      have c1 := hg.o.cell (i := 1) rfl
      have d0 := hg.r.cell (i := 0) rfl
      have d1 := hg.r.cell (i := 1) rfl
      have g0 := hg.r.frozen 0
      have g1 := hg.r.frozen 1
      have hlt2 : ¬ (c : Int) < (c : Int) := by omega
      obtain ⟨X, hX⟩ : ∃ X, X = halfA t.data.toList c := ⟨_, rfl⟩
      obtain ⟨Y, hY⟩ : ∃ Y, Y = halfP t.data.toList c := ⟨_, rfl⟩
      rw [← hX] at c0
      rw [← hY] at c1
      have HXY : Hid (X = halfA t.data.toList c ∧ Y = halfP t.data.toList c) := ⟨hX, hY⟩
      have hbe := hg.below
      clear hX hY hg
      go_wp2
      have q := Kit.read_two (.int .i64 (X : Nat)) (.int .i64 (Y : Nat)) d0 d1
      exact bodyPost_ret (v := .agg #[.int .i64 (X : Nat), .int .i64 (Y : Nat)]) (by simp [results, Tryz.results63, go_sem, q.1, q.2]) rfl ⟨by rw [HXY.out.1, HXY.out.2], (hbe.setCell (p := ⟨w.heap.size, 0, none⟩) (Nat.le_refl _) _).setCell (p := ⟨w.heap.size, 1, none⟩) (Nat.le_refl _) _⟩
end Go.Proofs.YtkohhdkkbaifoaaGreatDoor

/-
  Contract of tally.Index.
-/
namespace Go.Proofs.YtkohhdkkbaifoaaGreatDoor
open Go.RowKit PK Vg Tl

set_option maxRecDepth 100000 in
set_option maxHeartbeats 2000000 in
theorem tix_bad (t : ByteArray) (n : Int) (E A : Int) (hE : (E != 0) = true) (HT : Hid (∀ W, Calls Tryz.prog 62 #[.string t, .int .i64 n] W fun e w' => e = .returned (.agg #[.int .i64 E, .int .i64 A]) ∧ Below W.heap.size W w')) (w : World) : Calls Tryz.prog 25 #[.string t, .int .i64 n] w fun e w' => e = .returned (.tuple #[.agg #[.int .i64 0, .int .i64 0], .agg #[.int .i64 E, .int .i64 A]]) ∧ Below w.heap.size w w' := by
  go_enter Tryz.func25, Tryz.ntmps25
  go_wp2_with fail
  refine (HT.out _).mono ?_
  rintro e W1 ⟨rfl, hb⟩
  have h2 := ((TwoAt.new w 53).step hb).alloc (.cells #[.int .i64 E, .int .i64 A] 35)
  obtain ⟨⟨c0, c1, f0, f1⟩, d0, d1, g0, g1⟩ := h2.cells
  have l1 : w.heap.size + 2 ≤ W1.heap.size := by have := hb.size; simpa using this
  have n0 : ¬ W1.heap.size = w.heap.size := by omega
  have n1 : ¬ W1.heap.size = w.heap.size + 1 := by omega
  have n2 : ¬ w.heap.size = W1.heap.size := by omega
  have n3 : ¬ w.heap.size + 1 = W1.heap.size := by omega
  clear hb HT
  go_wp2_with fail
  go_region
  all_goals (try go_wp2)
  have q := h2.drew.done (.int .i64 0) (.int .i64 0) (.int .i64 E) (.int .i64 A)
  exact bodyPost_ret (v := .tuple #[.agg #[.int .i64 0, .int .i64 0], .agg #[.int .i64 E, .int .i64 A]]) (results_cells2 Tryz.results25 _ _ _ _ _ _ _ _ _ _ _ _ rfl rfl q.1 q.2.1 Tryz.underlying53 rfl v_info_ratio Tryz.underlying35 rfl v_info_fault) rfl ⟨rfl, (h2.done (.int .i64 0) (.int .i64 0) (.int .i64 E) (.int .i64 A)).2.2.drew⟩
set_option maxRecDepth 100000 in
set_option maxHeartbeats 2000000 in
theorem tix_none (t : ByteArray) (n A : Nat) (HT : Hid (∀ W, Calls Tryz.prog 62 #[.string t, .int .i64 (n : Nat)] W fun e w' => e = .returned (.agg #[.int .i64 0, .int .i64 0]) ∧ Below W.heap.size W w')) (HP : Hid (∀ W, Calls Tryz.prog 63 #[.string t, .int .i64 (n : Nat)] W fun e w' => e = .returned (.agg #[.int .i64 (A : Nat), .int .i64 0]) ∧ Below W.heap.size W w')) (w : World) : Calls Tryz.prog 25 #[.string t, .int .i64 (n : Nat)] w fun e w' => e = .returned (.tuple #[.agg #[.int .i64 0, .int .i64 0], .agg #[.int .i64 5, .int .i64 0]]) ∧ Below w.heap.size w w' := by
  go_enter Tryz.func25, Tryz.ntmps25
  go_wp2_with fail
  refine (HT.out _).mono ?_
  rintro e W1 ⟨rfl, hb⟩
  have h2 := ((TwoAt.new w 53).step hb).alloc (.cells #[.int .i64 0, .int .i64 0] 35)
  clear hb HT
  go_wp2_with fail
  refine (HP.out _).mono ?_
  rintro e W2 ⟨rfl, hb⟩
  have h5 := (h2.step hb).alloc (.cells #[.int .i64 (A : Nat), .int .i64 0] 53)
  obtain ⟨⟨c0, c1, f0, f1⟩, d0, d1, g0, g1⟩ := h5.cells
  clear hb HP h2
  have q := h5.done (.int .i64 0) (.int .i64 0) (.int .i64 5) (.int .i64 0)
  go_wp2
  exact bodyPost_ret (v := .tuple #[.agg #[.int .i64 0, .int .i64 0], .agg #[.int .i64 5, .int .i64 0]]) (results_cells2 Tryz.results25 _ _ _ _ _ _ _ _ _ _ _ _ rfl rfl q.1 q.2.1 Tryz.underlying53 rfl v_info_ratio Tryz.underlying35 rfl v_info_fault) rfl ⟨rfl, q.2.2⟩
set_option maxRecDepth 100000 in
set_option maxHeartbeats 2000000 in
theorem tix_ok (t : ByteArray) (n U D : Nat) (hU : U ≤ 4294967296) (hD : D ≤ 4294967296) (h0 : 0 < D) (HT : Hid (∀ W, Calls Tryz.prog 62 #[.string t, .int .i64 (n : Nat)] W fun e w' => e = .returned (.agg #[.int .i64 0, .int .i64 0]) ∧ Below W.heap.size W w')) (HP : Hid (∀ W, Calls Tryz.prog 63 #[.string t, .int .i64 (n : Nat)] W fun e w' => e = .returned (.agg #[.int .i64 (U : Nat), .int .i64 (D : Nat)]) ∧ Below W.heap.size W w')) (w : World) : Calls Tryz.prog 25 #[.string t, .int .i64 (n : Nat)] w fun e w' => e = .returned (.tuple #[.agg #[.int .i64 ((U / Nat.gcd U D : Nat) : Int), .int .i64 ((D / Nat.gcd U D : Nat) : Int)], .agg #[.int .i64 0, .int .i64 0]]) ∧ Below w.heap.size w w' := by
  have h5 : ((D : Int) == 0) = false := beq_false_of_ne (by omega)
  have HG := (show Hid (∀ W, Calls Tryz.prog 64 #[.int .i64 (U : Nat), .int .i64 (D : Nat)] W fun e w' => e = .returned (.int .i64 (Nat.gcd U D : Nat)) ∧ Below W.heap.size W w') from fun W => tdiv_any U D hU hD W)
  have hgp : 0 < Nat.gcd U D := Nat.gcd_pos_of_pos_right _ h0
  have HWU : Hid (wrap64 ((U : Int) / ((Nat.gcd U D : Nat) : Int)) = ((U / Nat.gcd U D : Nat) : Int)) := wrap_div hU rfl
  have HWD : Hid (wrap64 ((D : Int) / ((Nat.gcd U D : Nat) : Int)) = ((D / Nat.gcd U D : Nat) : Int)) := wrap_div hD rfl
  obtain ⟨y, hy⟩ : ∃ y, y = Nat.gcd U D := ⟨_, rfl⟩
  rw [← hy] at HG hgp HWU HWD
  have HY : Hid (y = Nat.gcd U D) := hy
  rw [← hy]
  clear hy
  have hy1 : ((y : Int) == 0) = false := beq_false_of_ne (by omega)
  have hy2 : (y : Int) ≠ 0 := by omega
  go_enter Tryz.func25, Tryz.ntmps25
  go_wp2_with fail
  refine (HT.out _).mono ?_
  rintro e W1 ⟨rfl, hb⟩
  have h6 := ((TwoAt.new w 53).step hb).alloc (.cells #[.int .i64 0, .int .i64 0] 35)
  clear hb HT
  go_wp2_with fail
  refine (HP.out _).mono ?_
  rintro e W2 ⟨rfl, hb⟩
  have h7 := (h6.step hb).alloc (.cells #[.int .i64 (U : Nat), .int .i64 (D : Nat)] 53)
  have hrr := RowAt.new W2 53 #[.int .i64 (U : Nat), .int .i64 (D : Nat)]
  have l1 : w.heap.size + 2 ≤ W2.heap.size := by have h1 := h6.f.lt; have h2 := hb.size; simp at h1 h2; omega
  have u0 := hrr.cell (i := 0) rfl
  have u1 := hrr.cell (i := 1) rfl
  clear hb HP h6
  go_wp2_with fail
  refine (HG.out _).mono ?_
  rintro e W3 ⟨rfl, hb⟩
  have h8 := h7.step hb
  have hr8 := hrr.below hb hrr.lt
  clear hb HG h7 hrr u0 u1
  have u0 := hr8.cell (i := 0) rfl
  have u1 := hr8.cell (i := 1) rfl
  obtain ⟨⟨c0, c1, f0, f1⟩, d0, d1, g0, g1⟩ := h8.cells
  have n0 : ¬ W2.heap.size = w.heap.size := by omega
  have n1 : ¬ W2.heap.size = w.heap.size + 1 := by omega
  have n2 : ¬ w.heap.size = W2.heap.size := by omega
  have n3 : ¬ w.heap.size + 1 = W2.heap.size := by omega
  have q := h8.drew.done (.int .i64 (wrap64 ((U : Int) / (y : Int)))) (.int .i64 (wrap64 ((D : Int) / (y : Int)))) (.int .i64 0) (.int .i64 0)
  go_wp2_with fail
  go_region
  all_goals (try go_wp2)
  all_goals
    generalize wrap64 ((U : Int) / (y : Int)) = X1 at *
    generalize wrap64 ((D : Int) / (y : Int)) = X2 at *
    exact bodyPost_ret (v := .tuple #[.agg #[.int .i64 X1, .int .i64 X2], .agg #[.int .i64 0, .int .i64 0]]) (results_cells2 Tryz.results25 _ _ _ _ _ _ _ _ _ _ _ _ rfl rfl q.1 q.2.1 Tryz.underlying53 rfl v_info_ratio Tryz.underlying35 rfl v_info_fault) rfl ⟨by rw [HWU.out, HWD.out], (h8.done (.int .i64 X1) (.int .i64 X2) (.int .i64 0) (.int .i64 0)).2.2.drew⟩
theorem tix_any (t : ByteArray) (n : Int) (w : World) : Calls Tryz.prog 25 #[.string t, .int .i64 n] w fun e w' => e = .returned (.tuple #[.agg #[.int .i64 (ixU t.data.toList n : Nat), .int .i64 (ixD t.data.toList n : Nat)], .agg #[.int .i64 (ixE t.data.toList n), .int .i64 (ixAt t.data.toList)]]) ∧ Below w.heap.size w w' := by
  have hsz := Pl.size_len t
  have HW := fun W => twrong_any t n W
  by_cases hw : wnE t.data.toList n = 0
  · have hk : ckE t.data.toList = 0 := by
      by_cases h : ckE t.data.toList = 0
      · exact h
      · unfold wnE at hw; rw [if_pos h] at hw; exact absurd hw h
    have h0 : ¬ ckE t.data.toList ≠ 0 := fun h => h hk
    have hn : ¬ (n < 1 ∨ 64 < n) := fun h => by unfold wnE at hw; rw [if_neg h0, if_pos h] at hw; cases hw
    have hat : ixAt t.data.toList = 0 := by unfold ixAt; rw [if_neg h0]
    rcases ck_cases t.data.toList with ⟨_, k1, k2, k3⟩ | k1
    · obtain ⟨m, rfl⟩ : ∃ m : Nat, n = m := ⟨n.toNat, by omega⟩
      rw [hw, hat] at HW
      have hp := fun W => tal_any t (ls_of k3) (by omega) m (by omega) W
      have e2 := halfP_two t.data.toList m
      have e1 := halfA_two t.data.toList m
      unfold ixU ixD
      rw [hat]
      by_cases hz : allP t.data.toList m = 0
      · have e : ixE t.data.toList (m : Int) = 5 := by unfold ixE; rw [if_neg h0, if_neg hn, Int.toNat_natCast, if_pos hz]
        rw [e, if_pos (by decide), if_pos (by decide)]
        rw [show halfP t.data.toList m = 0 by omega] at hp
        exact tix_none t m _ HW hp w
      · have e : ixE t.data.toList (m : Int) = 0 := by unfold ixE; rw [if_neg h0, if_neg hn, Int.toNat_natCast, if_neg hz]
        rw [e, if_neg (by decide), if_neg (by decide), Int.toNat_natCast, ← e1, ← e2, half_div, half_div2]
        have hb := halfP_le k2 (m := m) (by omega)
        have ha := halfA_le (ls_of k3) m
        exact tix_ok t m _ _ (by omega) (by omega) (by omega) HW hp w
    · rw [hk] at k1; cases k1
  · have e : ixE t.data.toList n = wnE t.data.toList n := by
      unfold wnE at hw ⊢
      unfold ixE
      by_cases h : ckE t.data.toList ≠ 0
      · rw [if_pos h, if_pos h]
      · rw [if_neg h] at hw ⊢
        by_cases hn : n < 1 ∨ 64 < n
        · rw [if_neg h, if_pos hn, if_pos hn]
        · rw [if_neg hn] at hw; exact absurd rfl hw
    unfold ixU ixD
    rw [e, if_pos hw, if_pos hw]
    exact tix_bad t n _ _ (by simpa using hw) HW w
end Go.Proofs.YtkohhdkkbaifoaaGreatDoor

/-
  Keys of as many letters don't hide how often letters are alike: of a chain of them.
-/
namespace Go.Proofs.YtkohhdkkbaifoaaGreatDoor
open Go.RowKit PK Vg Tl

/-- What Index tells of two texts is the same. -/
def SameIx (a b : List UInt8) (n : Int) : Prop := ixE a n = ixE b n ∧ ixAt a = ixAt b ∧ ixU a n = ixU b n ∧ ixD a n = ixD b n
theorem same_ix {kind : Nat} (h : 1 ≤ kind ∧ kind ≤ 3) {k t : List UInt8} (hk : Ls k) (ht : ckE t = 0) : SameIx (writeL kind k t) t (k.length : Int) := by
  obtain ⟨hl, hn⟩ := ls_ck ht
  have c2 := ck_ls (writeL_ls kind k t) (by rw [writeL_length]; exact hn)
  have n1 : ¬ ckE t ≠ 0 := fun e => e ht
  have n2 : ¬ ckE (writeL kind k t) ≠ 0 := fun e => e c2
  have e1 : ixE (writeL kind k t) (k.length : Int) = ixE t (k.length : Int) := by
    unfold ixE
    rw [if_neg n1, if_neg n2, Int.toNat_natCast, allP_write]
  refine ⟨e1, ?_, ?_, ?_⟩
  · unfold ixAt; rw [if_neg n1, if_neg n2]
  · unfold ixU; rw [e1, Int.toNat_natCast, allP_write, alike_write h hk hl]
  · unfold ixD; rw [e1, Int.toNat_natCast, allP_write, alike_write h hk hl]
theorem hid_run (w : World) {n m : Nat} {l : Nat → Sp} (hst : ∀ i, i < n → stE (l i) = 0) (hl : ∀ i, i < n → (l i).k = 2 ∧ (l i).n ≤ 3 ∧ (l i).key.data.toList.length = m) {t : List UInt8} (ht : ckE t = 0) : ∀ k, k ≤ n → SameIx (runT l t k) t (m : Int)
  | 0, _ => ⟨rfl, rfl, rfl, rfl⟩
  | k + 1, hk => by
    obtain ⟨a1, a2, a3, a4⟩ := hid_run w hst hl ht k (by omega)
    obtain ⟨h1, _⟩ := runT_right w hst ht k (by omega)
    obtain ⟨k1, k2, k3⟩ := hl k (by omega)
    obtain ⟨⟨k4, _⟩, k5, _⟩ := st_tab (hst k (by omega)) k1
    have h2 := same_ix (kind := (l k).n.toNat) (k := (l k).key.data.toList) (by omega) (ls_ck k5).1 h1
    rw [k3] at h2
    obtain ⟨b1, b2, b3, b4⟩ := h2
    show SameIx (one (l k) (runT l t k)) t (m : Int)
    rw [one_2 k1]
    exact ⟨b1.trans a1, b2.trans a2, b3.trans a3, b4.trans a4⟩
end Go.Proofs.YtkohhdkkbaifoaaGreatDoor
