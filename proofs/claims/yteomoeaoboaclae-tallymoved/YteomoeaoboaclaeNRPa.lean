/-
  Contract of the document's Pairs (chapter 7).
-/
import Derived.Test.YteomoeaoboaclaeNRef
namespace Go.Proofs.Yteomoeaoboaclae
open Go.RowKit PK Vg Tl

theorem mul_bound {n B : Nat} (h : n ≤ B) : n * (n - 1) ≤ B * B := Nat.mul_le_mul h (by omega)
theorem wrap_mul {n : Nat} (h : n ≤ 65536) : IntKind.i64.wrap ((n : Int) * ((n : Int) - 1)) = ((n * (n - 1) : Nat) : Int) := by
  rw [sub_one_int]
  have := mul_bound h
  exact IntWalk.i64_in _ (by omega)
set_option maxRecDepth 100000 in
set_option maxHeartbeats 2000000 in
theorem rpairs_any (t : ByteArray) (ht : Ls t.data.toList) (hs : t.size ≤ 65536) (n : Nat) (hn : 0 < n) (hn2 : n ≤ 64) (w : World) : Calls Try.prog 28 #[.string t, .int .i64 (n : Nat)] w fun e w' => e = .returned (.tuple #[.int .i64 (alike t.data.toList n : Nat), .int .i64 (allP t.data.toList n : Nat)]) ∧ Below w.heap.size w w' := by
  have HCL := (show Hid (∀ c W, Calls Try.prog 41 #[.string t, .int .i64 (c : Nat), .int .i64 (n : Nat)] W fun e w' => e = .returned (.string ⟨(col t.data.toList n c).toArray⟩) ∧ Below W.heap.size W w') from fun c W => column_any t (by omega) c n hn (by omega) W)
  have HLEN : Hid (∀ c, (col t.data.toList n c).length ≤ 65536) := fun c => Nat.le_trans (colTo_le t.data.toList n c t.data.toList.length) (by rw [← Pl.size_len]; exact hs)
  have HAB : Hid (∀ c, c ≤ 64 → sumTo (alikeC t.data.toList n) c ≤ 64 * (26 * 4294967296)) := fun c hc => Nat.le_trans (sumTo_bound (B := 26 * 4294967296) fun k _ => sumTo_bound (B := 4294967296) fun q _ => Nat.le_trans (mul_bound (B := 65536) (Nat.le_trans (cnt_le _ _) (HLEN.out k))) (by decide)) (Nat.mul_le_mul_right _ hc)
  have HAL : Hid (∀ c, c ≤ 64 → sumTo (fun c => (col t.data.toList n c).length * ((col t.data.toList n c).length - 1)) c ≤ 64 * 4294967296) := fun c hc => Nat.le_trans (sumTo_bound (B := 4294967296) fun k _ => Nat.le_trans (mul_bound (B := 65536) (HLEN.out k)) (by decide)) (Nat.mul_le_mul_right _ hc)
  have HLS : Hid (∀ c, Ls (col t.data.toList n c)) := fun c => col_ls ht n c
  have HA1 : Hid (∀ c, sumTo (alikeC t.data.toList n) (c + 1) = sumTo (alikeC t.data.toList n) c + sumTo (fun k => cnt (col t.data.toList n c) k * (cnt (col t.data.toList n c) k - 1)) 26) := fun _ => rfl
  have HL1 : Hid (∀ c, sumTo (fun c => (col t.data.toList n c).length * ((col t.data.toList n c).length - 1)) (c + 1) = sumTo (fun c => (col t.data.toList n c).length * ((col t.data.toList n c).length - 1)) c + (col t.data.toList n c).length * ((col t.data.toList n c).length - 1)) := fun _ => rfl
  have HE1 : Hid (alike t.data.toList n = sumTo (alikeC t.data.toList n) n) := rfl
  have HE2 : Hid (allP t.data.toList n = sumTo (fun c => (col t.data.toList n c).length * ((col t.data.toList n c).length - 1)) n) := rfl
  go_enter Try.func28, Try.ntmps28
  go_wp2_with fail
  go_loopw [6, 7, 8] (fun a b i W => ∃ c : Nat, c ≤ n ∧ i = .int .i64 (c : Nat) ∧ a = .int .i64 (sumTo (alikeC t.data.toList n) c : Nat) ∧ b = .int .i64 (sumTo (fun c => (col t.data.toList n c).length * ((col t.data.toList n c).length - 1)) c : Nat) ∧ Below w.heap.size w W) (fun _ _ i _ => ((n : Int) - intOf i).toNat)
  case atStart => exact ⟨0, by omega, rfl, rfl, rfl, Below.refl _ _⟩
  case round =>
    obtain ⟨c, hc, rfl, rfl, rfl, hbv⟩ := hrel
    by_cases hlt : c < n
    · have hlt2 : (c : Int) < (n : Int) := by omega
      have hab := HAB.out c (by omega)
      have hal := HAL.out c (by omega)
      have hlen := HLEN.out c
      have hls := HLS.out c
      have HA2 := (show Hid _ from HA1.out c)
      have HL2 := (show Hid _ from HL1.out c)
      have HC2 := (show Hid _ from HCL.out c)
      generalize sumTo (alikeC t.data.toList n) c = A at *
      generalize sumTo (fun c => (col t.data.toList n c).length * ((col t.data.toList n c).length - 1)) c = L at *
      generalize col t.data.toList n c = q at *
      obtain ⟨Q, hQ⟩ : ∃ Q : ByteArray, Q = ⟨q.toArray⟩ := ⟨_, rfl⟩
      have hQs : Q.size = q.length := by rw [hQ]; exact ba_size q
      have hQl : Q.data.toList = q := by rw [hQ]
      have HIN := (show Hid (∀ k W, Calls Try.prog 24 #[.string Q, .int .i64 (k : Nat)] W fun e w' => e = .returned (.int .i64 (cnt q k : Nat)) ∧ W = w') from fun k W => by have := in_any Q (by rw [hQl]; exact hls) (by omega) k W; rw [hQl] at this; exact this)
      rw [← hQ] at HC2
      have HQS : Hid (Q.size = q.length) := hQs
      have hQ6 : Q.size ≤ 65536 := by omega
      have HCB : Hid (∀ k, cnt q k ≤ 65536) := fun k => Nat.le_trans (cnt_le q k) hlen
      have HSB : Hid (∀ k, k ≤ 26 → sumTo (fun k => cnt q k * (cnt q k - 1)) k ≤ 26 * 4294967296) := fun k hk => Nat.le_trans (sumTo_bound (B := 4294967296) fun j _ => Nat.le_trans (mul_bound (B := 65536) (HCB.out j)) (by decide)) (Nat.mul_le_mul_right _ hk)
      have HS1 : Hid (∀ k, sumTo (fun k => cnt q k * (cnt q k - 1)) (k + 1) = sumTo (fun k => cnt q k * (cnt q k - 1)) k + cnt q k * (cnt q k - 1)) := fun _ => rfl
      rw [← hQs] at HL2
      have hwl := wrap_mul hQ6
      clear hQ hQl hQs hls hlen
      go_wp2_with fail
      refine (HC2.out _).mono ?_
      rintro e W1 ⟨rfl, hb1⟩
      have hb2 := hbv.trans (hb1.mono hbv.size)
      clear hb1 hbv
      go_wp2_with fail
      go_loopw [6, 10] (fun a i W => ∃ k : Nat, k ≤ 26 ∧ i = .int .i64 (k : Nat) ∧ a = .int .i64 ((A + sumTo (fun k => cnt q k * (cnt q k - 1)) k : Nat) : Int) ∧ W1 = W) (fun _ i _ => ((26 : Int) - intOf i).toNat)
      case atStart => exact ⟨0, by omega, rfl, rfl, rfl⟩
      case round =>
        obtain ⟨k, hk, rfl, rfl, rfl⟩ := hrel
        by_cases hk2 : k < 26
        · have hk3 : (k : Int) < 26 := by omega
          have hsb := HSB.out k (by omega)
          have hcb := HCB.out k
          have HS2 := (show Hid _ from HS1.out k)
          have HI2 := (show Hid _ from HIN.out k)
          generalize sumTo (fun k => cnt q k * (cnt q k - 1)) k = S at *
          generalize cnt q k = N at *
          have hwm := wrap_mul hcb
          have hmb := mul_bound hcb
          generalize N * (N - 1) = NN at *
          go_wp2_with fail
          refine (HI2.out _).mono ?_
          rintro e W2 ⟨rfl, rfl⟩
          go_wp2_with fail
          go_roundw
          case rel => exact ⟨k + 1, by omega, by go_num, by rw [HS2.out]; go_num, by first | rfl | trivial⟩
          case measure => simp [intOf]; omega
        · obtain rfl : k = 26 := by omega
          have hsb := HSB.out 26 (by omega)
          have hmb := mul_bound hQ6
          rw [← HA2.out] at *
          generalize Q.size * (Q.size - 1) = QQ at *
          go_wp2_with fail
          go_roundw
          case rel => exact ⟨c + 1, by omega, by go_num, rfl, by rw [HL2.out]; go_num, hb2⟩
          case measure => simp [intOf]; omega
    · obtain rfl : c = n := by omega
      go_wp2
      exact bodyPost_ret (v := .tuple #[.int .i64 (alike t.data.toList c : Nat), .int .i64 (allP t.data.toList c : Nat)]) (by rw [HE1.out, HE2.out]; simp [results, Try.results28, go_sem]) rfl ⟨rfl, hbv⟩
end Go.Proofs.Yteomoeaoboaclae
