/-
  Contract of keyAt.
-/
import Derived.Test.YteomoeaoboaclaeVForBZ
namespace Go.Proofs.Yteomoeaoboaclae
open Go.RowKit PK Vg

set_option maxRecDepth 100000 in
set_option maxHeartbeats 1000000 in
theorem keyAt_plain (x0 x1 x2 : Value) (key : ByteArray) (i : Nat) (hi : key.size ≤ i) (h6 : i ≤ 65536) (g n cap : Nat) (hn : i - key.size < n) (c : UInt8) (hc : 65 ≤ c.toNat ∧ c.toNat ≤ 90) (w : World) (hw : w.cell? ⟨g, i - key.size, none⟩ = some (.int .u8 c.toNat)) :
    Calls Try.prog 38 #[.agg #[x0, x1, x2, .bool true], .string key, .slice (some ⟨g, 0, none⟩) n cap, .int .i64 i] w fun e w' => e = .returned (.int .i64 (num c : Nat)) ∧ Below w.heap.size w w' := by
  have HN := (show Hid (∀ W, Calls Try.prog 37 #[.int .u8 c.toNat] W fun e w' => e = .returned (.int .i64 (num c : Nat)) ∧ W = w') from fun W => number_any c hc W)
  obtain ⟨j, hj⟩ : ∃ j, i = key.size + j := ⟨i - key.size, by omega⟩
  subst hj
  rw [Nat.add_sub_cancel_left] at hw hn
  have hgl := cell_block hw
  have hn2 : (j : Int) < (n : Int) := by omega
  have hw2 : (w.alloc (.cells #[x0, x1, x2, .bool true] 63)).cell? ⟨g, j, none⟩ = some (.int .u8 c.toNat) := by rw [World.cell?_alloc_lt _ _ _ hgl]; exact hw
  generalize num c = d at *
  generalize c.toNat = cc at *
  clear hw hc
  go_enter Try.func38, Try.ntmps38
  go_wp2_with (first | (go_at_call 37; refine (HN.out _).mono ?_; rintro e W1 ⟨rfl, rfl⟩))
  go_ret
  exact ⟨rfl, (Below.refl _ _).alloc (Nat.le_refl _) _⟩
set_option maxRecDepth 100000 in
set_option maxHeartbeats 1000000 in
theorem keyAt_key (x0 x1 x2 : Value) (B : Bool) (v : Value) (key : ByteArray) (i : Nat) (h0 : 0 < key.size) (h6 : i ≤ 65536) (hB : B = false ∨ i < key.size) (hl : Ls key.data.toList) (w : World) :
    Calls Try.prog 38 #[.agg #[x0, x1, x2, .bool B], .string key, v, .int .i64 i] w fun e w' => e = .returned (.int .i64 (num (key.data.toList.getD (i % key.size) 0) : Nat)) ∧ Below w.heap.size w w' := by
  have hm : i % key.size < key.size := Nat.mod_lt _ h0
  have hc := hl.at (getD_size hm)
  have HN := (show Hid (∀ W, Calls Try.prog 37 #[.int .u8 (key.data.toList.getD (i % key.size) 0).toNat] W fun e w' => e = .returned (.int .i64 (num (key.data.toList.getD (i % key.size) 0) : Nat)) ∧ W = w') from fun W => number_any _ hc W)
  rw [getD_byte key _ hm] at HN ⊢
  have hjt : ((i % key.size : Nat) : Int) = (i : Int).tmod (key.size : Int) := by rw [Int.tmod_eq_emod_of_nonneg (by omega)]; omega
  clear hc hl
  generalize i % key.size = j at *
  have hjt2 := hjt.symm
  have h00 : ¬ ((key.size : Int) = 0) := by omega
  have h01 : ((key.size : Int) == 0) = false := beq_false_of_ne h00
  have hm2 : (j : Int) < (key.size : Int) := by omega
  have HM : Hid (j < key.size) := hm
  clear hjt
  rcases hB with rfl | hB
  · go_enter Try.func38, Try.ntmps38
    go_wp2_with (first | (go_at_call 37; refine (HN.out _).mono ?_; rintro e W1 ⟨rfl, rfl⟩))
    go_ret
    exact ⟨rfl, (Below.refl _ _).alloc (Nat.le_refl _) _⟩
  · have hB2 : ¬ ((key.size : Int) ≤ (i : Int)) := by omega
    have hB3 : decide ((key.size : Int) ≤ (i : Int)) = false := by simp; omega
    have hB4 : ¬ (key.size ≤ i) := by omega
    cases B
    · go_enter Try.func38, Try.ntmps38
      go_wp2_with (first | (go_at_call 37; refine (HN.out _).mono ?_; rintro e W1 ⟨rfl, rfl⟩))
      go_ret
      exact ⟨rfl, (Below.refl _ _).alloc (Nat.le_refl _) _⟩
    · go_enter Try.func38, Try.ntmps38
      go_wp2_with (first | (go_at_call 37; refine (HN.out _).mono ?_; rintro e W1 ⟨rfl, rfl⟩))
      go_ret
      exact ⟨rfl, (Below.refl _ _).alloc (Nat.le_refl _) _⟩
end Go.Proofs.Yteomoeaoboaclae
