/-
  Rows of words: their bits; contract of the document's bit (chapter 11).
-/
import Derived.Test.YtflehdigikdhmaaRgK
namespace Go.Proofs.Ytflehdigikdhmaa
open Go.RowKit PK

/-- Five words. -/
def u64s (n : Nat) (f : Nat → Nat) : Array Value := tab n fun i => .int .u64 (f i : Nat)
theorem u64s_size (n : Nat) (f : Nat → Nat) : (u64s n f).size = n := tab_size _ _
theorem u64s_get {n : Nat} (f : Nat → Nat) {i : Nat} (h : i < n) : (u64s n f)[i]? = some (.int .u64 (f i : Nat)) := tab_get _ h
theorem u64s_ext {n : Nat} {f g : Nat → Nat} (h : ∀ i, i < n → f i = g i) : u64s n f = u64s n g := tab_ext fun i hi => by rw [h i hi]
theorem u64s_set (n : Nat) (f : Nat → Nat) (i : Nat) (v : Nat) : (u64s n f).setIfInBounds i (.int .u64 (v : Nat)) = u64s n (upd f i v) := by
  unfold u64s
  rw [tab_set]
  refine tab_ext fun j _ => ?_
  unfold upd
  by_cases h : j = i
  · rw [if_pos h, if_pos h]
  · rw [if_neg h, if_neg h]
theorem u64s_one (n : Nat) (f : Nat → Nat) : (u64s n f).all (·.oneCell') = true := by
  rw [Array.all_eq_true_iff_forall_mem]
  intro v hv
  simp [u64s, tab] at hv
  obtain ⟨i, _, rfl⟩ := hv
  rfl
/-- Words are below 2^64. -/
def Wd (R : Nat → Nat) : Prop := ∀ j, R j < 2 ^ 64
/-- Bit k of a row. -/
def rbit (R : Nat → Nat) (k : Nat) : Bool := (R (k / 64)).testBit (k % 64)
theorem and_pow (a t : Nat) : (a &&& 2 ^ t != 0) = a.testBit t := by
  cases h : a.testBit t
  · have : a &&& 2 ^ t = 0 := by
      apply Nat.eq_of_testBit_eq
      intro i
      rw [Nat.testBit_and, Nat.testBit_two_pow, Nat.zero_testBit]
      by_cases e : t = i
      · subst e; simp [h]
      · simp [e]
    simp [this]
  · simp
    intro e
    have h2 : (a &&& 2 ^ t).testBit t = true := by rw [Nat.testBit_and, h, Nat.testBit_two_pow_self]; rfl
    rw [e, Nat.zero_testBit] at h2
    cases h2
theorem int_bne (x : Nat) : (((x : Nat) : Int) != 0) = (x != 0) := by
  by_cases h : x = 0
  · subst h; rfl
  · have h2 : ((x : Nat) : Int) ≠ 0 := by omega
    rw [bne_iff_ne.2 h2, bne_iff_ne.2 h]
theorem bv_nat {a : Nat} (h : a < 2 ^ 64) : (BitVec.ofInt 64 (a : Int)).toNat = a := by
  rw [BitVec.ofInt_natCast, BitVec.toNat_ofNat]
  exact Nat.mod_eq_of_lt h
theorem u64_nat {a : Nat} (h : a < 2 ^ 64) : IntKind.u64.wrap (a : Int) = (a : Int) := by
  rw [IntKind.wrap_u64]
  omega
theorem bits_and64 {a b : Nat} (ha : a < 2 ^ 64) (hb : b < 2 ^ 64) : bits .and .u64 (a : Int) (b : Int) = ((a &&& b : Nat) : Int) := by
  show IntKind.u64.wrap ((BitVec.ofInt 64 (a : Int) &&& BitVec.ofInt 64 (b : Int)).toNat : Int) = _
  rw [BitVec.toNat_and, bv_nat ha, bv_nat hb]
  exact u64_nat (Nat.lt_of_le_of_lt Nat.and_le_left ha)
theorem bits_or64 {a b : Nat} (ha : a < 2 ^ 64) (hb : b < 2 ^ 64) : bits .or .u64 (a : Int) (b : Int) = ((a ||| b : Nat) : Int) := by
  show IntKind.u64.wrap ((BitVec.ofInt 64 (a : Int) ||| BitVec.ofInt 64 (b : Int)).toNat : Int) = _
  rw [BitVec.toNat_or, bv_nat ha, bv_nat hb]
  exact u64_nat (Nat.or_lt_two_pow ha hb)
theorem bits_xor64 {a b : Nat} (ha : a < 2 ^ 64) (hb : b < 2 ^ 64) : bits .xor .u64 (a : Int) (b : Int) = ((a ^^^ b : Nat) : Int) := by
  show IntKind.u64.wrap ((BitVec.ofInt 64 (a : Int) ^^^ BitVec.ofInt 64 (b : Int)).toNat : Int) = _
  rw [BitVec.toNat_xor, bv_nat ha, bv_nat hb]
  exact u64_nat (Nat.xor_lt_two_pow ha hb)
theorem pow_lt64 {t : Nat} (h : t < 64) : 2 ^ t < 2 ^ 64 := Nat.pow_lt_pow_right (by decide) h
theorem shl64 {t : Nat} (h : t < 64) : IntKind.u64.wrap ((2 : Int) ^ t) = ((2 ^ t : Nat) : Int) := by
  have h1 : ((2 : Int) ^ t) = ((2 ^ t : Nat) : Int) := by simp
  rw [h1]
  exact u64_nat (pow_lt64 h)
theorem g_info_row : (Try.prog.info? 48).map (·.size) = some 5 := by kernel_rfl
set_option maxRecDepth 100000 in
set_option maxHeartbeats 2000000 in
theorem rbit_any (R : Nat → Nat) (hR : Wd R) (k : Nat) (hk : k < 320) (w : World) : Calls Try.prog 25 #[.agg (u64s 5 R), .int .i64 (k : Nat)] w fun e w' => e = .returned (.bool (rbit R k)) ∧ Below w.heap.size w w' := by
  have h0 : RowAt (w.alloc (.cells (u64s 5 R) 48)) w.heap.size 48 (u64s 5 R) := RowAt.new w _ _
  have hb0 := (Below.refl w.heap.size w).alloc (Nat.le_refl _) (.cells (u64s 5 R) 48)
  have hj : k / 64 < 5 := by omega
  have ht : k % 64 < 64 := by omega
  have HB : Hid (rbit R k = (R (k / 64)).testBit (k % 64)) := rfl
  have hw := hR (k / 64)
  have hap := and_pow (R (k / 64)) (k % 64)
  have hkd : (k : Int).tdiv 64 = ((k / 64 : Nat) : Int) := by rw [Int.tdiv_eq_ediv_of_nonneg (by omega)]; omega
  have hkm : (k : Int).tmod 64 = ((k % 64 : Nat) : Int) := by rw [Int.tmod_eq_emod_of_nonneg (by omega)]; omega
  obtain ⟨j, hje⟩ : ∃ j, j = k / 64 := ⟨_, rfl⟩
  obtain ⟨t, hte⟩ : ∃ t, t = k % 64 := ⟨_, rfl⟩
  rw [← hje] at hj hw hap HB hkd
  rw [← hte] at ht hap HB hkm
  have hk2 : (k : Int) / 64 = (j : Int) := by omega
  have hk3 : (k : Int) % 64 = (t : Int) := by omega
  have HAP := (show Hid _ from hap)
  have HW := (show Hid _ from hw)
  clear hje hte hap hw
  go_enter Try.func25, Try.ntmps25
  go_upto_region 1 with fail
  generalize w.alloc (.cells (u64s 5 R) 48) = W0 at *
  have h0d : RowAt W0.drew w.heap.size 48 (u64s 5 R) := h0
  refine wp_region_noPanic ?_
  refine wp_region_held_drew (S := fun W => RowAt W w.heap.size 48 (u64s 5 R) ∧ Below w.heap.size w W) (by kernel_rfl) ⟨h0d, hb0.drew⟩ (fun hS => ?_)
  obtain ⟨U, hU⟩ : ∃ x, x = W0.drew := ⟨_, rfl⟩
  rw [← hU] at hS ⊢
  clear hU h0 hb0 h0d
  refine vtake 0 5 (.int .i64 (k : Nat)) rfl rfl (by kernel_rfl) (by kernel_rfl) (by kernel_rfl) (fun _ _ _ _ h => h) (by rfl) (fun W hW => by clear hS hW; go_simp) hS ?_
  simp only [List.setIfInBounds_toArray, List.set_cons_succ, List.set_cons_zero]
  refine vtake 1 6 (.int .i64 (j : Nat)) rfl rfl (by kernel_rfl) (by kernel_rfl) (by kernel_rfl) (fun _ _ _ _ h => h) (by rfl) (fun W hW => by clear hS hW; go_simp; rw [IntKind.wrap_i64]; omega) hS ?_
  simp only [List.setIfInBounds_toArray, List.set_cons_succ, List.set_cons_zero]
  refine vtake 2 7 (.pointer (some ⟨w.heap.size, j, none⟩)) rfl rfl (by kernel_rfl) (by kernel_rfl) (by kernel_rfl) (fun _ _ _ _ h => h) (by rfl) (fun W hW => by have u1 : ¬ (5 : Int) ≤ (j : Int) := (by omega); clear hS hW; go_simp) hS ?_
  simp only [List.setIfInBounds_toArray, List.set_cons_succ, List.set_cons_zero]
  refine vtake 3 8 (.int .u64 (R j : Nat)) rfl rfl (by kernel_rfl) (by kernel_rfl) (by kernel_rfl) (fun _ _ _ _ h => h) (by rfl) (fun W hW => by obtain ⟨hW, _⟩ := hW; have u := hW.cell (u64s_get R hj); clear hS hW; go_simp) hS ?_
  simp only [List.setIfInBounds_toArray, List.set_cons_succ, List.set_cons_zero]
  refine vtake 4 9 (.int .i64 (k : Nat)) rfl rfl (by kernel_rfl) (by kernel_rfl) (by kernel_rfl) (fun _ _ _ _ h => h) (by rfl) (fun W hW => by clear hS hW; go_simp) hS ?_
  simp only [List.setIfInBounds_toArray, List.set_cons_succ, List.set_cons_zero]
  refine vtake 5 10 (.int .i64 (t : Nat)) rfl rfl (by kernel_rfl) (by kernel_rfl) (by kernel_rfl) (fun _ _ _ _ h => h) (by rfl) (fun W hW => by clear hS hW; go_simp) hS ?_
  simp only [List.setIfInBounds_toArray, List.set_cons_succ, List.set_cons_zero]
  refine vtake 6 11 (.int .u64 ((2 ^ t : Nat) : Int)) rfl rfl (by kernel_rfl) (by kernel_rfl) (by kernel_rfl) (fun _ _ _ _ h => h) (by rfl) (fun W hW => by have u := shl64 ht; clear hS hW; go_simp) hS ?_
  simp only [List.setIfInBounds_toArray, List.set_cons_succ, List.set_cons_zero]
  refine vtake 7 12 (.int .u64 ((R j &&& 2 ^ t : Nat) : Int)) rfl rfl (by kernel_rfl) (by kernel_rfl) (by kernel_rfl) (fun _ _ _ _ h => h) (by rfl) (fun W hW => by have u := bits_and64 HW.out (pow_lt64 ht); rw [show ((2 ^ t : Nat) : Int) = (2 : Int) ^ t by simp] at u; clear hS hW; go_simp) hS ?_
  simp only [List.setIfInBounds_toArray, List.set_cons_succ, List.set_cons_zero]
  refine vtake 8 13 (.bool ((R j).testBit t)) rfl rfl (by kernel_rfl) (by kernel_rfl) (by kernel_rfl) (fun _ _ _ _ h => h) (by rfl) (fun W hW => by rw [← HAP.out]; have u := int_bne (R j &&& 2 ^ t); clear hS hW; go_simp) hS ?_
  simp only [List.setIfInBounds_toArray, List.set_cons_succ, List.set_cons_zero]
  refine vtake 9 4 (.bool ((R j).testBit t)) rfl rfl (by kernel_rfl) (by kernel_rfl) (by kernel_rfl) (fun _ _ _ _ h => h) (by rfl) (fun W hW => by clear hS hW; go_simp) hS ?_
  simp only [List.setIfInBounds_toArray, List.set_cons_succ, List.set_cons_zero]
  refine wpAnyH_done (by kernel_rfl) ?_ _
  refine NoPanic.normal ?_
  have HBE := (show Hid _ from hS.2)
  clear hS
  go_wp2_with fail
  go_ret
  exact ⟨by rw [HB.out]; rfl, HBE.out⟩
end Go.Proofs.Ytflehdigikdhmaa
