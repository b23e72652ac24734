/-
  Contract of tally.alike: pairs of a text's columns, each counted once.
-/
import Derived.Test.YteomoeaoboaclaeTSm
import Derived.Test.YteomoeaoboaclaeTCn
import Derived.Deep.RegionWith
namespace Go.Proofs.Yteomoeaoboaclae
open Go.RowKit PK Vg Tl

/-- The result's variable and the ratio that grows. -/
structure AlAt (w W : World) (u d : Value) : Prop where
  r : RowAt W w.heap.size 29 #[.int .i64 0, .int .i64 0]
  o : RowAt W (w.heap.size + 1) 29 #[u, d]
  below : Below w.heap.size w W
theorem AlAt.new (w : World) : AlAt w ((w.alloc (.cells #[.int .i64 0, .int .i64 0] 29)).alloc (.cells #[.int .i64 0, .int .i64 0] 29)) (.int .i64 0) (.int .i64 0) := by
  have h3 := RowAt.new (w.alloc (.cells #[.int .i64 0, .int .i64 0] 29)) 29 #[.int .i64 0, .int .i64 0]
  simp only [World.size_alloc] at h3
  exact ⟨(RowAt.new w _ _).alloc _, h3, ((Below.refl _ w).alloc (Nat.le_refl _) _).alloc (by simp only [World.size_alloc]; omega) _⟩
theorem AlAt.step {w W W' : World} {u d : Value} (h : AlAt w W u d) (hb : Below W.heap.size W W') : AlAt w W' u d := ⟨h.r.below hb h.r.lt, h.o.below hb h.o.lt, h.below.trans (hb.mono h.below.size)⟩
theorem AlAt.drew {w W : World} {u d : Value} (h : AlAt w W u d) : AlAt w W.drew u d := ⟨h.r, h.o, h.below.drew⟩
theorem AlAt.setU {w W : World} {u d : Value} (h : AlAt w W u d) (v : Value) : AlAt w (W.setCell ⟨w.heap.size + 1, 0, none⟩ v) v d := ⟨h.r.setOther _ _ (by simp), h.o.set 0 v, h.below.setCell (p := ⟨w.heap.size + 1, 0, none⟩) (by simp) _⟩
theorem AlAt.setD {w W : World} {u d : Value} (h : AlAt w W u d) (v : Value) : AlAt w (W.setCell ⟨w.heap.size + 1, 1, none⟩ v) u v := ⟨h.r.setOther _ _ (by simp), h.o.set 1 v, h.below.setCell (p := ⟨w.heap.size + 1, 1, none⟩) (by simp) _⟩
set_option maxRecDepth 100000 in
set_option maxHeartbeats 2000000 in
theorem tal_any (t : ByteArray) (ht : Ls t.data.toList) (hs : t.size ≤ 65536) (n : Nat) (hn2 : n ≤ 64) (w : World) : Calls Try.prog 26 #[.string t, .int .i64 (n : Nat)] w fun e w' => e = .returned (.agg #[.int .i64 (halfA t.data.toList n : Nat), .int .i64 (halfP t.data.toList n : Nat)]) ∧ Below w.heap.size w w' := by
  have HCN := (show Hid (∀ c, c < n → ∀ W, Calls Try.prog 22 #[.string t, .int .i64 (c : Nat), .int .i64 (n : Nat)] W fun e w' => e = .returned (.agg (ints 26 fun k => (cnt (col t.data.toList n c) k : Nat))) ∧ Below W.heap.size W w') from fun c hc W => tcn_any t ht hs c n hc hn2 W)
  have HPR := (show Hid (∀ m : Nat, m ≤ 65536 → ∀ W, Calls Try.prog 40 #[.int .i64 (m : Nat)] W fun e w' => e = .returned (.int .i64 (hp m : Nat)) ∧ W = w') from fun m hm W => tpairs_any m hm W)
  have HLEN : Hid (∀ c, (col t.data.toList n c).length ≤ 65536) := fun c => Nat.le_trans (colTo_le t.data.toList n c t.data.toList.length) (by rw [← Pl.size_len]; exact hs)
  have HLS : Hid (∀ c, Ls (col t.data.toList n c)) := fun c => col_ls ht n c
  have HAB : Hid (∀ c, c ≤ 64 → sumTo (halfC t.data.toList n) c ≤ 64 * (26 * 4294967296)) := fun c hc => Nat.le_trans (sumTo_bound (B := 26 * 4294967296) fun k _ => sumTo_bound (B := 4294967296) fun q _ => Nat.le_trans (hp_le (B := 65536) (Nat.le_trans (cnt_le _ _) (HLEN.out k))) (by decide)) (Nat.mul_le_mul_right _ hc)
  have HAL : Hid (∀ c, c ≤ 64 → sumTo (fun c => hp (col t.data.toList n c).length) c ≤ 64 * 4294967296) := fun c hc => Nat.le_trans (sumTo_bound (B := 4294967296) fun k _ => Nat.le_trans (hp_le (B := 65536) (HLEN.out k)) (by decide)) (Nat.mul_le_mul_right _ hc)
  have HA1 : Hid (∀ c, sumTo (halfC t.data.toList n) (c + 1) = sumTo (halfC t.data.toList n) c + sumTo (fun k => hp (cnt (col t.data.toList n c) k)) 26) := fun _ => rfl
  have HL1 : Hid (∀ c, sumTo (fun c => hp (col t.data.toList n c).length) (c + 1) = sumTo (fun c => hp (col t.data.toList n c).length) c + hp (col t.data.toList n c).length) := fun _ => rfl
  have HE1 : Hid (halfA t.data.toList n = sumTo (halfC t.data.toList n) n) := rfl
  have HE2 : Hid (halfP t.data.toList n = sumTo (fun c => hp (col t.data.toList n c).length) n) := rfl
  go_enter Try.func26, Try.ntmps26
  go_wp2_with fail
  have h2 := AlAt.new w
  go_loopw [11] (fun i W => ∃ c : Nat, c ≤ n ∧ i = .int .i64 (c : Nat) ∧ AlAt w W (.int .i64 (sumTo (halfC t.data.toList n) c : Nat)) (.int .i64 (sumTo (fun c => hp (col t.data.toList n c).length) c : Nat))) (fun i _ => ((n : Int) - intOf i).toNat)
  case atStart => exact ⟨0, by omega, rfl, h2⟩
  case round =>
    clear h2
    obtain ⟨c, hc, rfl, hg⟩ := hrel
    by_cases hlt : c < n
    · have hlt2 : (c : Int) < (n : Int) := by omega
      have hab := HAB.out c (by omega)
      have hal := HAL.out c (by omega)
      have hlen := HLEN.out c
      have HA2 := (show Hid _ from HA1.out c)
      have HL2 := (show Hid _ from HL1.out c)
      have HC2 := (show Hid _ from HCN.out c hlt)
      have HSUM : Hid (sumTo (cnt (col t.data.toList n c)) 26 = (col t.data.toList n c).length) := cnt_sum (HLS.out c)
      have HCB : Hid (∀ k, cnt (col t.data.toList n c) k ≤ 65536) := fun k => Nat.le_trans (cnt_le _ k) hlen
      generalize sumTo (halfC t.data.toList n) c = A at *
      generalize sumTo (fun c => hp (col t.data.toList n c).length) c = L at *
      generalize col t.data.toList n c = q at *
      have HSB : Hid (∀ k, k ≤ 26 → sumTo (fun k => hp (cnt q k)) k ≤ 26 * 4294967296) := fun k hk => Nat.le_trans (sumTo_bound (B := 4294967296) fun j _ => Nat.le_trans (hp_le (B := 65536) (HCB.out j)) (by decide)) (Nat.mul_le_mul_right _ hk)
      have HLB : Hid (∀ k, k ≤ 26 → sumTo (cnt q) k ≤ 26 * 65536) := fun k hk => Nat.le_trans (sumTo_bound (B := 65536) fun j _ => HCB.out j) (Nat.mul_le_mul_right _ hk)
      have HS1 : Hid (∀ k, sumTo (fun k => hp (cnt q k)) (k + 1) = sumTo (fun k => hp (cnt q k)) k + hp (cnt q k)) := fun _ => rfl
      have HS2 : Hid (∀ k, sumTo (cnt q) (k + 1) = sumTo (cnt q) k + cnt q k) := fun _ => rfl
      go_wp2_with fail
      refine (HC2.out _).mono ?_
      rintro e W1 ⟨rfl, hb1⟩
      have hg1 := hg.step hb1
      clear hb1 hg
      go_wp2_with fail
      go_loopw [18, 7] (fun i l W => ∃ k : Nat, k ≤ 26 ∧ i = .int .i64 (k : Nat) ∧ l = .int .i64 (sumTo (cnt q) k : Nat) ∧ AlAt w W (.int .i64 ((A + sumTo (fun k => hp (cnt q k)) k : Nat) : Int)) (.int .i64 (L : Nat))) (fun i _ _ => ((26 : Int) - intOf i).toNat)
      case atStart => exact ⟨0, by omega, rfl, rfl, hg1⟩
      case round =>
        clear hg1
        obtain ⟨k, hk, rfl, rfl, hg⟩ := hrel
        by_cases hk2 : k < 26
        · have hk3 : (k : Int) < 26 := by omega
          have hsb := HSB.out k (by omega)
          have hlb := HLB.out k (by omega)
          have hcb := HCB.out k
          have HS3 := (show Hid _ from HS1.out k)
          have HS4 := (show Hid _ from HS2.out k)
          have HP2 := (show Hid _ from HPR.out _ hcb)
          have hidx := run_index_cts (fun k => ((cnt q k : Nat) : Int)) k hk2
          have hpb := hp_le hcb
          generalize sumTo (fun k => hp (cnt q k)) k = S at *
          generalize sumTo (cnt q) k = LO at *
          generalize cnt q k = C at *
          generalize hp C = HC at *
          have c0 := hg.o.cell (i := 0) rfl
          have f0 := hg.o.frozen 0
          go_upto_region 9 with fail
          go_region_with (first | (go_at_call 40; refine (HP2.out _).mono ?_; rintro e X1 ⟨rfl, rfl⟩))
          all_goals
            go_wp2
            go_roundw
            case rel => exact ⟨k + 1, by omega, by go_num, by rw [HS4.out]; go_num, by rw [HS3.out, ← Nat.add_assoc]; exact hg.drew.setU _⟩
            case measure => simp [intOf]; omega
        · obtain rfl : k = 26 := by omega
          have HP2 := (show Hid _ from HPR.out _ hlen)
          have hpb := hp_le hlen
          have hk3 : ¬ ((26 : Nat) : Int) < 26 := by omega
          rw [HSUM.out]
          rw [← HA2.out] at hg
          generalize q.length = Q at *
          generalize hp Q = HQ at *
          have c1 := hg.o.cell (i := 1) rfl
          have f1 := hg.o.frozen 1
          go_upto_region 12 with fail
          go_region_with (first | (go_at_call 40; refine (HP2.out _).mono ?_; rintro e X1 ⟨rfl, rfl⟩))
          all_goals
            go_wp2
            go_roundw
            case rel => exact ⟨c + 1, by omega, by go_num, by rw [HL2.out]; exact hg.drew.setD _⟩
            case measure => simp [intOf]; omega
    · obtain rfl : c = n := by omega
      rw [← HE1.out, ← HE2.out] at hg
      have c0 := hg.o.cell (i := 0) rfl
      have c1 := hg.o.cell (i := 1) rfl
      have d0 := hg.r.cell (i := 0) rfl
      have d1 := hg.r.cell (i := 1) rfl
      have g0 := hg.r.frozen 0
      have g1 := hg.r.frozen 1
      have hlt2 : ¬ (c : Int) < (c : Int) := by omega
      obtain ⟨X, hX⟩ : ∃ X, X = halfA t.data.toList c := ⟨_, rfl⟩
      obtain ⟨Y, hY⟩ : ∃ Y, Y = halfP t.data.toList c := ⟨_, rfl⟩
      rw [← hX] at c0
      rw [← hY] at c1
      have HXY : Hid (X = halfA t.data.toList c ∧ Y = halfP t.data.toList c) := ⟨hX, hY⟩
      have hbe := hg.below
      clear hX hY hg
      go_wp2
      have q := Kit.read_two (.int .i64 (X : Nat)) (.int .i64 (Y : Nat)) d0 d1
      exact bodyPost_ret (v := .agg #[.int .i64 (X : Nat), .int .i64 (Y : Nat)]) (by simp [results, Try.results26, go_sem, q.1, q.2]) rfl ⟨by rw [HXY.out.1, HXY.out.2], (hbe.setCell (p := ⟨w.heap.size, 0, none⟩) (Nat.le_refl _) _).setCell (p := ⟨w.heap.size, 1, none⟩) (Nat.le_refl _) _⟩
end Go.Proofs.Yteomoeaoboaclae
