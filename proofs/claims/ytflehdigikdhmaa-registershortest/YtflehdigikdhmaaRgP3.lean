/-
  Contract of register's added (chapter 11).
-/
import Derived.Test.YtflehdigikdhmaaRgP2
namespace Go.Proofs.Ytflehdigikdhmaa
open Go.RowKit PK Rg

/-- m of the second one are added. -/
def adT (A B : Nat → Bool) (d m : Nat) : Nat → Bool := fun k => xor (A k) (decide (d ≤ k ∧ k - d < m) && B (k - d))
theorem adT_start {A : Nat → Bool} (B : Nat → Bool) (d : Nat) {la N : Nat} (hA : Sup A la) : ints N (cpF (fun _ => 0) (bi A) (min la N)) = ints N (bi (adT A B d 0)) := ints_ext fun i hi => by
  unfold cpF bi adT
  have e0 : decide (d ≤ i ∧ i - d < 0) = false := by simp
  rw [e0]
  by_cases e : i < min la N
  · rw [if_pos e]
    cases A i <;> rfl
  · rw [if_neg e, hA i (by omega)]
    rfl
theorem adT_next (A B : Nat → Bool) (d m N : Nat) : ints N (upd (bi (adT A B d m)) (m + d) (b1 (xor (adT A B d m (m + d)) (B m)))) = ints N (bi (adT A B d (m + 1))) := ints_ext fun i hi => by
  unfold upd
  by_cases e : i = m + d
  · rw [if_pos e, e]
    unfold bi adT
    have e1 : decide (d ≤ m + d ∧ m + d - d < m) = false := by simp
    have e2 : decide (d ≤ m + d ∧ m + d - d < m + 1) = true := by simp
    rw [e1, e2, show m + d - d = m by omega]
    cases A (m + d) <;> cases B m <;> rfl
  · rw [if_neg e]
    unfold bi adT
    have e1 : decide (d ≤ i ∧ i - d < m) = decide (d ≤ i ∧ i - d < m + 1) := decide_eq_decide.2 (by omega)
    rw [e1]
theorem adT_all (A : Nat → Bool) {B : Nat → Bool} (d : Nat) {lb : Nat} (N : Nat) (hB : Sup B lb) : ints N (bi (adT A B d lb)) = ints N (bi (ad A B d)) := ints_ext fun i hi => by
  unfold bi adT ad
  by_cases e : i < d
  · rw [if_pos e]
    have e1 : decide (d ≤ i ∧ i - d < lb) = false := by simp; omega
    rw [e1]
    rfl
  · rw [if_neg e]
    by_cases e2 : i - d < lb
    · have e1 : decide (d ≤ i ∧ i - d < lb) = true := by simp; omega
      rw [e1]
      rfl
    · have e1 : decide (d ≤ i ∧ i - d < lb) = false := by simp; omega
      rw [e1, hB (i - d) (by omega)]
      rfl
set_option maxRecDepth 100000 in
set_option maxHeartbeats 4000000 in
theorem padd_any (va vb : Value) (la lb d : Nat) (A B : Nat → Bool) (hA : Sup A la) (hB : Sup B lb) (N : Nat) (hNe : N = max la (lb + d)) (hN : N ≤ 65536) (w : World) (ha : NumsAt w va la (bi A)) (hb : NumsAt w vb lb (bi B)) :
    Calls Try.prog 24 #[va, vb, .int .i64 (d : Nat)] w fun e w' => e = .returned (.slice (some ⟨w.heap.size, 0, none⟩) N N) ∧ RowAt w' w.heap.size 3 (ints N (bi (ad A B d))) ∧ Below w.heap.size w w' := by
  have hmk := run_make_row' (P := Try.prog) 22 3 (.int .i64 0) 8 Try.underlying22 g_info_int rfl .i64 .i64 N (by omega) (by omega)
  rw [made_tabT] at hmk
  have H0 := (show Hid _ from adT_start (A := A) B d (N := N) hA)
  have HALL := (show Hid _ from adT_all A d N hB)
  have HVA := (show Hid _ from ha)
  have HVB := (show Hid _ from hb)
  obtain ⟨aa, ca, rfl, hma, _⟩ := ha
  obtain ⟨ab, cb, rfl, hmb, hcb⟩ := hb
  have HCB := (show Hid (∀ c, c < lb → ∃ b o, ab = some ⟨b, o, none⟩ ∧ w.cell? ⟨b, o + c, none⟩ = some (.int .i64 (bi B c))) from hcb)
  clear hcb hA hB
  have hla : la ≤ N := by omega
  have hlb : lb + d ≤ N := by omega
  have hmax : (if (la : Int) < (lb : Int) + (d : Int) then (lb : Int) + (d : Int) else (la : Int)) = (N : Int) := by
    by_cases h : (la : Int) < (lb : Int) + (d : Int)
    · rw [if_pos h]; omega
    · rw [if_neg h]; omega
  clear hNe
  go_enter Try.func24, Try.ntmps24
  go_upto_region 2 with fail
  have hr2 : RowAt (w.alloc (.cells (tab N fun _ => .int .i64 0) 3)) w.heap.size 3 (ints N fun _ => 0) := RowAt.new w _ _
  have hb2 := (Below.refl w.heap.size w).alloc (Nat.le_refl _) (.cells (tab N fun _ => .int .i64 0) 3)
  generalize w.alloc (.cells (tab N fun _ => .int .i64 0) 3) = W0 at *
  obtain ⟨W1, hcp, hr1, hb1⟩ := run_copy_ints hr2 (NumsAt.below HVA.out hb2) hb2 (Nat.le_refl _)
  rw [H0.out] at hr1
  have hmin : min la N = la := by omega
  rw [hmin] at hcp
  clear hmin hmax hmk hr2 hb2 H0 HVA HVB
  go_wp2_with fail
  go_loopw [23] (fun x W => ∃ m : Nat, m ≤ lb ∧ x = .int .i64 (m : Nat) ∧ RowAt W w.heap.size 3 (ints N (bi (adT A B d m))) ∧ Below w.heap.size w W) (fun x _ => ((lb : Int) - intOf x).toNat)
  case atStart => exact ⟨0, by omega, rfl, hr1, hb1⟩
  case round =>
    clear hr1 hb1 hcp
    obtain ⟨m, hm, rfl, hro, hbe⟩ := hrel
    by_cases hlt : m < lb
    case neg =>
      obtain rfl : m = lb := by omega
      have hnn : ¬ ((m : Nat) : Int) < ((m : Nat) : Int) := by omega
      rw [HALL.out] at hro
      have HRO := (show Hid _ from hro)
      have HBE := (show Hid _ from hbe)
      clear hro hbe hlt
      go_wp2
      go_ret
      exact ⟨rfl, HRO.out, HBE.out⟩
    have HLT : Hid (m < lb) := hlt
    have hlt2 : (m : Int) < (lb : Int) := by omega
    obtain ⟨b, o, rfl, h1⟩ := HCB.out m hlt
    have h2 := (hbe.cell (p := ⟨b, o + m, none⟩) (cell_block h1)).trans h1
    have hq1 : m + d < N := by omega
    have hq2 : (m : Int) + (d : Int) = ((m + d : Nat) : Int) := by omega
    have hc3 := hro.cell (ints_get (bi (adT A B d m)) hq1)
    have hf3 := hro.frozen (m + d)
    have hx := b1_xor (adT A B d m (m + d)) (B m)
    have HN : Hid (RowAt (wr.setCell ⟨w.heap.size, m + d, none⟩ (.int .i64 (b1 (xor (adT A B d m (m + d)) (B m))))) w.heap.size 3 (ints N (bi (adT A B d (m + 1)))) ∧ Below w.heap.size w (wr.setCell ⟨w.heap.size, m + d, none⟩ (.int .i64 (b1 (xor (adT A B d m (m + d)) (B m)))))) := by
      refine ⟨?_, hbe.setCell (p := ⟨w.heap.size, m + d, none⟩) (Nat.le_refl _) _⟩
      have h1 := hro.set (m + d) (.int .i64 (b1 (xor (adT A B d m (m + d)) (B m))))
      rw [ints_set, adT_next] at h1
      exact h1
    have h2' : wr.cell? ⟨b, o + m, none⟩ = some (.int .i64 (b1 (B m))) := h2
    have hc3' : wr.cell? ⟨w.heap.size, m + d, none⟩ = some (.int .i64 (b1 (adT A B d m (m + d)))) := hc3
    generalize b1 (xor (adT A B d m (m + d)) (B m)) = z at *
    generalize b1 (adT A B d m (m + d)) = z1 at *
    generalize b1 (B m) = z2 at *
    have hq3 : ((m + d : Nat) : Int) < (N : Int) := by omega
    obtain ⟨q, hq⟩ : ∃ q, q = m + d := ⟨_, rfl⟩
    rw [← hq] at hq1 hq2 hf3 HN hc3' hq3
    clear hlt hro hbe h1 h2 hc3 hq
    go_wp2
    go_roundw
    case rel => exact ⟨m + 1, HLT.out, by go_num, HN.out.1, HN.out.2⟩
    case measure => have := HLT.out; simp [intOf]; omega
end Go.Proofs.Ytflehdigikdhmaa
