/-
  TableauKasiski, walked.
-/
import Derived.Test.YtlgijlfojkpeaadLVUnd
import Derived.Test.YtlgijlfojkpeaadVRepA
namespace Go.Proofs.Ytlgijlfojkpeaad
open Go.RowKit PK Vg

theorem mod_add {i k L : Nat} (h : i % L = k % L) (j : Nat) : (i + j) % L = (k + j) % L := by rw [Nat.add_mod, h, ← Nat.add_mod]
theorem pcs_length (t : List UInt8) (n i : Nat) (h : i + n ≤ t.length) : (pcs t n i).length = n := by simp [pcs]; omega
theorem pcs_at (t : List UInt8) (n i j : Nat) (hj : j < n) : (pcs t n i).getD j 0 = t.getD (i + j) 0 := by
  unfold pcs
  simp only [List.getD_eq_getElem?_getD]
  rw [List.getElem?_take_of_lt hj, List.getElem?_drop]
/-- KASISKI. -/
theorem kasiski {kind : Nat} {key t : List UInt8} (h4 : kind ≠ 4) {n i k : Nat} (hi : i + n ≤ t.length) (hk : k + n ≤ t.length) (hm : i % key.length = k % key.length) (e : pcs t n i = pcs t n k) : pcs (writeL kind key t) n i = pcs (writeL kind key t) n k := by
  have hl := writeL_length kind key t
  refine ext_getD (by rw [pcs_length _ _ _ (by omega), pcs_length _ _ _ (by omega)]) fun j hj => ?_
  rw [pcs_length _ _ _ (by omega)] at hj
  rw [pcs_at _ _ _ _ hj, pcs_at _ _ _ _ hj]
  refine again h4 (by omega) (by omega) (mod_add hm j) ?_
  rw [← pcs_at t n i j hj, ← pcs_at t n k j hj, e]
set_option maxRecDepth 100000 in
set_option maxHeartbeats 2000000 in
theorem kas_bad (k : Int) (key t : ByteArray) (n : Int) (hE : (lkE k key.data.toList t.data.toList != 0) = true) (w : World) : Calls Try.prog 5 #[.int .i64 k, .string key, .string t, .int .i64 n] w fun e w' => e = .returned (.bool true) ∧ Below w.heap.size w w' := by
  have HA := (show Hid (∀ W, Calls Try.prog 11 #[] W fun e w' => e = .returned (.bool true) ∧ Below W.heap.size W w') from valive_any)
  have HW := (show Hid (∀ W, Calls Try.prog 12 #[.int .i64 k, .string key, .string t] W fun e w' => e = .returned (.tuple #[.string ⟨#[]⟩, .agg #[.int .i64 (lkE k key.data.toList t.data.toList), .int .i64 (lkAt k key.data.toList t.data.toList)]]) ∧ Below W.heap.size W w') from fun W => vwr_bad k key t hE W)
  generalize lkE k key.data.toList t.data.toList = E at *
  generalize lkAt k key.data.toList t.data.toList = A at *
  have hE2 : (E == 0) = false := by simpa using hE
  go_enter Try.func5, Try.ntmps5
  go_wp2_with fail
  refine (HA.out _).mono ?_
  rintro e W0 ⟨rfl, hb0⟩
  go_wp2_with fail
  refine (HW.out _).mono ?_
  rintro e W1 ⟨rfl, hb1⟩
  have hb := (hb0.trans (hb1.mono hb0.size)).alloc (by have := hb0.size; have := hb1.size; omega) (.cells #[.int .i64 E, .int .i64 A] 25)
  clear hb0 hb1
  go_wp2
  go_ret
  exact ⟨rfl, hb⟩
set_option maxRecDepth 100000 in
set_option maxHeartbeats 2000000 in
theorem kas_off (k : Nat) (key t S : ByteArray) (n : Int) (hoff : k = 4 ∨ 300 < t.size) (w : World) (hW : ∀ W, Calls Try.prog 12 #[.int .i64 (k : Nat), .string key, .string t] W fun e w' => e = .returned (.tuple #[.string S, .agg #[.int .i64 0, .int .i64 0]]) ∧ Below W.heap.size W w') : Calls Try.prog 5 #[.int .i64 (k : Nat), .string key, .string t, .int .i64 n] w fun e w' => e = .returned (.bool true) ∧ Below w.heap.size w w' := by
  have HA := (show Hid (∀ W, Calls Try.prog 11 #[] W fun e w' => e = .returned (.bool true) ∧ Below W.heap.size W w') from valive_any)
  have HW := (show Hid (∀ W, Calls Try.prog 12 #[.int .i64 (k : Nat), .string key, .string t] W fun e w' => e = .returned (.tuple #[.string S, .agg #[.int .i64 0, .int .i64 0]]) ∧ Below W.heap.size W w') from hW)
  clear hW
  go_enter Try.func5, Try.ntmps5
  go_wp2_with fail
  refine (HA.out _).mono ?_
  rintro e W0 ⟨rfl, hb0⟩
  go_wp2_with fail
  refine (HW.out _).mono ?_
  rintro e W1 ⟨rfl, hb1⟩
  have u1 : UAt w (W1.alloc (.cells #[.int .i64 0, .int .i64 0] 25)) W1.heap.size := ⟨RowAt.new _ _ _, (hb0.trans (hb1.mono hb0.size)).alloc (by have := hb0.size; have := hb1.size; omega) _, by have := hb0.size; have := hb1.size; omega⟩
  clear hb0 hb1 HA HW
  by_cases k4 : k = 4
  · subst k4
    go_wp2
    go_ret
    exact ⟨rfl, u1.below⟩
  · have k44 : ((k : Int) == 4) = false := beq_false_of_ne (by omega)
    have h3 : (300 : Int) < (t.size : Int) := by omega
    go_wp2
    go_ret
    exact ⟨rfl, u1.below⟩
set_option maxRecDepth 100000 in
set_option maxHeartbeats 2000000 in
theorem kas_low (k : Nat) (key t S : ByteArray) (n : Int) (hk : k ≠ 4) (ht : t.size ≤ 300) (hn : n < 1) (w : World) (hW : ∀ W, Calls Try.prog 12 #[.int .i64 (k : Nat), .string key, .string t] W fun e w' => e = .returned (.tuple #[.string S, .agg #[.int .i64 0, .int .i64 0]]) ∧ Below W.heap.size W w')
    (hR : ∀ W, Calls Try.prog 6 #[.string S, .int .i64 n] W fun e w' => e = .returned (.tuple #[.slice none 0 0, .agg #[.int .i64 3, .int .i64 0]]) ∧ Below W.heap.size W w') : Calls Try.prog 5 #[.int .i64 (k : Nat), .string key, .string t, .int .i64 n] w fun e w' => e = .returned (.bool true) ∧ Below w.heap.size w w' := by
  have HR := (show Hid (∀ W, Calls Try.prog 6 #[.string S, .int .i64 n] W fun e w' => e = .returned (.tuple #[.slice none 0 0, .agg #[.int .i64 3, .int .i64 0]]) ∧ Below W.heap.size W w') from hR)
  clear hR
  have HA := (show Hid (∀ W, Calls Try.prog 11 #[] W fun e w' => e = .returned (.bool true) ∧ Below W.heap.size W w') from valive_any)
  have HW := (show Hid (∀ W, Calls Try.prog 12 #[.int .i64 (k : Nat), .string key, .string t] W fun e w' => e = .returned (.tuple #[.string S, .agg #[.int .i64 0, .int .i64 0]]) ∧ Below W.heap.size W w') from hW)
  clear hW
  go_enter Try.func5, Try.ntmps5
  go_wp2_with fail
  refine (HA.out _).mono ?_
  rintro e W0 ⟨rfl, hb0⟩
  go_wp2_with fail
  refine (HW.out _).mono ?_
  rintro e W1 ⟨rfl, hb1⟩
  have u1 : UAt w (W1.alloc (.cells #[.int .i64 0, .int .i64 0] 25)) W1.heap.size := ⟨RowAt.new _ _ _, (hb0.trans (hb1.mono hb0.size)).alloc (by have := hb0.size; have := hb1.size; omega) _, by have := hb0.size; have := hb1.size; omega⟩
  clear hb0 hb1 HA HW
  have k44 : ((k : Int) == 4) = false := beq_false_of_ne (by omega)
  have h3 : ¬ (300 : Int) < (t.size : Int) := by omega
  have h31 : (t.size : Int) ≤ 300 := by omega
  go_wp2_with fail
  refine (HR.out _).mono ?_
  rintro e W2 ⟨rfl, hb2⟩
  have u2 := u1.step hb2
  obtain ⟨c0, c1, f0, f1⟩ := u2.cells
  have q := Kit.read_two (.int .i64 3) (.int .i64 0) c0 c1
  obtain ⟨q1, q2⟩ := q
  go_wp2
  go_ret
  exact ⟨rfl, (u2.below.setCell (p := ⟨W1.heap.size, 0, none⟩) u2.le _).setCell (p := ⟨W1.heap.size, 1, none⟩) u2.le _⟩
set_option maxRecDepth 100000 in
set_option maxHeartbeats 2000000 in
theorem kas_high (k : Nat) (key t S : ByteArray) (n : Nat) (hk : k ≠ 4) (ht : t.size ≤ 300) (hn : t.size < n) (hn2 : n ≤ 9223372036854775807) (w : World) (hW : ∀ W, Calls Try.prog 12 #[.int .i64 (k : Nat), .string key, .string t] W fun e w' => e = .returned (.tuple #[.string S, .agg #[.int .i64 0, .int .i64 0]]) ∧ Below W.heap.size W w')
    (hR : ∀ W, Calls Try.prog 6 #[.string S, .int .i64 (n : Nat)] W fun e w' => ∃ v, e = .returned (.tuple #[v, .agg #[.int .i64 0, .int .i64 0]]) ∧ Below W.heap.size W w') : Calls Try.prog 5 #[.int .i64 (k : Nat), .string key, .string t, .int .i64 (n : Nat)] w fun e w' => e = .returned (.bool true) ∧ Below w.heap.size w w' := by
  have HR := (show Hid (∀ W, Calls Try.prog 6 #[.string S, .int .i64 (n : Nat)] W fun e w' => ∃ v, e = .returned (.tuple #[v, .agg #[.int .i64 0, .int .i64 0]]) ∧ Below W.heap.size W w') from hR)
  clear hR
  have HA := (show Hid (∀ W, Calls Try.prog 11 #[] W fun e w' => e = .returned (.bool true) ∧ Below W.heap.size W w') from valive_any)
  have HW := (show Hid (∀ W, Calls Try.prog 12 #[.int .i64 (k : Nat), .string key, .string t] W fun e w' => e = .returned (.tuple #[.string S, .agg #[.int .i64 0, .int .i64 0]]) ∧ Below W.heap.size W w') from hW)
  clear hW
  go_enter Try.func5, Try.ntmps5
  go_wp2_with fail
  refine (HA.out _).mono ?_
  rintro e W0 ⟨rfl, hb0⟩
  go_wp2_with fail
  refine (HW.out _).mono ?_
  rintro e W1 ⟨rfl, hb1⟩
  have u1 : UAt w (W1.alloc (.cells #[.int .i64 0, .int .i64 0] 25)) W1.heap.size := ⟨RowAt.new _ _ _, (hb0.trans (hb1.mono hb0.size)).alloc (by have := hb0.size; have := hb1.size; omega) _, by have := hb0.size; have := hb1.size; omega⟩
  clear hb0 hb1 HA HW
  have k44 : ((k : Int) == 4) = false := beq_false_of_ne (by omega)
  have h3 : ¬ (300 : Int) < (t.size : Int) := by omega
  have h31 : (t.size : Int) ≤ 300 := by omega
  go_wp2_with fail
  refine (HR.out _).mono ?_
  rintro e W2 ⟨v, rfl, hb2⟩
  have u2 := u1.step hb2
  obtain ⟨c0, c1, f0, f1⟩ := u2.cells
  have u3 := u2.set
  obtain ⟨d0, d1, g0, g1⟩ := u3.cells
  have hnl : ¬ (n : Int) ≤ (t.size : Int) := by omega
  have hnl2 : ¬ n ≤ t.size := by omega
  clear hb2 u1 u2
  go_wp2_with fail
  go_loopw [12] (fun i W => i = .int .i64 0 ∧ W = (W2.setCell ⟨W1.heap.size, 0, none⟩ (.int .i64 0)).setCell ⟨W1.heap.size, 1, none⟩ (.int .i64 0)) (fun _ _ => 0)
  case atStart => exact ⟨rfl, rfl⟩
  case round =>
    obtain ⟨rfl, rfl⟩ := hrel
    go_wp2
    go_ret
    exact ⟨rfl, u3.below⟩
end Go.Proofs.Ytlgijlfojkpeaad
