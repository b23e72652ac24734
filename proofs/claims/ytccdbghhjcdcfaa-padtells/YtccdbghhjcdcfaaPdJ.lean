/-
  Contracts of pad's Split and Join (chapter 14).
-/
import Derived.Test.YtccdbghhjcdcfaaPdQ
namespace Go.Proofs.Ytccdbghhjcdcfaa
open Go.RowKit PK Pd

/-- The first m of h, behind them f. -/
def cpF (f h : Nat → Int) (m : Nat) : Nat → Int := fun i => if i < m then h i else f i
theorem splice_ints {N k : Nat} (hk : k ≤ N) (f h : Nat → Int) : (splice (ints N f).toList 0 ((List.range k).map fun i => Value.int .i64 (h i))).toArray = ints N (cpF f h k) := by
  unfold splice
  apply Array.ext_getElem?
  intro j
  simp only [List.take_zero, List.nil_append, Nat.zero_add, List.length_map, List.length_range, List.getElem?_toArray]
  by_cases hj : j < N
  · rw [ints_get _ hj]
    by_cases e : j < k
    · rw [List.getElem?_append_left (by simpa using e)]
      simp [cpF, e]
    · rw [List.getElem?_append_right (by simpa using e)]
      simp only [List.length_map, List.length_range, List.getElem?_drop, Array.getElem?_toList]
      rw [show k + (j - k) = j by omega, ints_get _ hj]
      simp [cpF, e]
  · have h1 : (ints N (cpF f h k))[j]? = none := by simp [ints, tab]; omega
    rw [h1, List.getElem?_eq_none]
    simp [ints, tab]
    omega
/-- copy(out, v): out is a row of N numbers of the call's own. -/
theorem run_copy_ints {w : World} {g N : Nat} {f : Nat → Int} (hrow : RowAt w g 3 (ints N f)) {v : Value} {k : Nat} {h : Nat → Int} (hv : NumsAt w v k h) {B : Nat} {w0 : World} (hb : Below B w0 w) (hBg : B ≤ g) :
    ∃ w', (∀ ty, (Builtin.copy_ #[22, 22] ty #[.slice (some ⟨g, 0, none⟩) N N, v]).run Try.prog w = .ok (.int .i64 (min k N : Nat)) w') ∧ RowAt w' g 3 (ints N (cpF f h (min k N))) ∧ Below B w0 w' := by
  obtain ⟨ad', cap, rfl, _, hc⟩ := hv
  have hsz : (Try.prog.info? 3).map (·.size) = some 1 := by kernel_rfl
  have hl : ((List.range (min k N)).map fun i => Value.int .i64 (h i)).length = min k N := by simp
  by_cases h0 : min k N = 0
  · refine ⟨w, fun ty => ?_, ?_, hb⟩
    · rw [run_copy_none (P := Try.prog) w 22 22 ty 3 (some ⟨g, 0, none⟩) ad' N N k cap Try.underlying22 hsz h0, h0]
      rfl
    · have e : ints N (cpF f h (min k N)) = ints N f := ints_ext fun i hi => by
        unfold cpF
        rw [if_neg (by omega)]
      rw [e]
      exact hrow
  · obtain ⟨b, o', rfl, _⟩ := hc 0 (by omega)
    have hsrc : ∀ (j : Nat) (v : Value), ((List.range (min k N)).map fun i => Value.int .i64 (h i))[j]? = some v → w.cell? ((⟨b, o', none⟩ : Addr).add j) = some v := fun j v hj => by
      have hjk : j < min k N := by
        have := (List.getElem?_eq_some_iff.1 hj).1
        simpa using this
      obtain ⟨b2, o2, e2, hcell⟩ := hc j (by omega)
      cases e2
      have e : v = .int .i64 (h j) := by
        simp [hjk] at hj
        rw [← hj]
      rw [e]
      have ea : ((⟨b, o', none⟩ : Addr).add j) = ⟨b, o' + j, none⟩ := by unfold Addr.add; by_cases e0 : j = 0 <;> simp [e0]
      rw [ea]
      exact hcell
    have h1 : ∀ v ∈ ((List.range (min k N)).map fun i => Value.int .i64 (h i)), v.oneCell' = true := fun u hu => by
      simp at hu
      obtain ⟨i, _, rfl⟩ := hu
      rfl
    refine ⟨w.setRow g (ints N (cpF f h (min k N))), fun ty => ?_, hrow.row _, Below.setRow hb g hBg _⟩
    have hr := run_copy_row (P := Try.prog) w 22 22 ty 3 g 0 N N ⟨b, o', none⟩ k cap (ints N f) 3 ((List.range (min k N)).map fun i => Value.int .i64 (h i)) Try.underlying22 hsz hrow hl hsrc (by rw [hl, ints_size]; omega) h1
    rw [hr]
    have hs := splice_ints (N := N) (k := min k N) (by omega) f h
    unfold splice at hs
    rw [← List.append_assoc] at hs
    rw [hs, hl]
    rfl
theorem sgE_split (n s : Int) (m : Nat) (f : Nat → Int) : sgE n 2 (or2 1 m) (or2 (fun _ => s) f) = if n < 2 ∨ 64 < n then 1 else if (s < 0 ∨ n ≤ s) ∨ inB n m f = false then 3 else 0 := by
  rw [sgE_two]
  by_cases h : n < 2 ∨ 64 < n
  · rw [if_pos h, if_pos h]
  rw [if_neg h, if_neg h]
  by_cases h2 : (s < 0 ∨ n ≤ s) ∨ inB n m f = false
  · rw [if_pos h2, if_pos (by rw [inB_one]; exact h2)]
  · rw [if_neg h2, if_neg (by rw [inB_one]; exact h2)]
/-- signsWrong(n, []int{s}, chance). -/
theorem psig_split (n s : Int) (v : Value) (m : Nat) (f : Nat → Int) (w : World) (hv : NumsAt w v m f) : Calls Try.prog 27 #[.int .i64 n, .slice (some ⟨w.heap.size + 1, 0, none⟩) 2 2] ((w.alloc (.cells #[.int .i64 s] 3)).alloc (.cells #[.slice (some ⟨w.heap.size, 0, none⟩) 1 1, v] 22)) fun e w' => (w.alloc (.cells #[.int .i64 s] 3)).alloc (.cells #[.slice (some ⟨w.heap.size, 0, none⟩) 1 1, v] 22) = w' ∧ e = .returned (.int .i64 (if n < 2 ∨ 64 < n then 1 else if (s < 0 ∨ n ≤ s) ∨ inB n m f = false then 3 else 0)) := by
  have h := two_mat (w.alloc (.cells #[.int .i64 s] 3)) _ v 1 m (fun _ => s) f (one_num w s) (hv.alloc _)
  have hz : (w.alloc (.cells #[.int .i64 s] 3)).heap.size = w.heap.size + 1 := by simp
  rw [hz] at h
  have := psig_any n _ 2 _ _ _ h
  rw [sgE_split] at this
  exact this
/-- Split's list ahead of its last sign, and with it. -/
theorem spF_last (n s : Int) (m : Nat) (f : Nat → Int) (z : Int) (hz : spF n s m f m = z) : ints (m + 1) (upd (cpF (fun _ => 0) f m) m z) = ints (m + 1) (spF n s m f) := ints_ext fun i hi => by
  unfold upd
  by_cases e : i = m
  · rw [if_pos e, e, hz]
  · rw [if_neg e]
    unfold cpF spF
    rw [if_pos (by omega), if_pos (by omega)]
set_option maxRecDepth 100000 in
set_option maxHeartbeats 4000000 in
theorem psp_any (n s : Int) (v : Value) (m : Nat) (f : Nat → Int) (w : World) (hv : NumsAt w v m f) : Calls Try.prog 17 #[.int .i64 n, .int .i64 s, v] w fun e w' => ∃ v', e = .returned (.tuple #[v', .int .i64 (spE n s m f)]) ∧ Ans w' v' (rl (spE n s m f) (m + 1)) (spF n s m f) ∧ (spE n s m f = 0 → ∃ b, v' = .slice (some b) (m + 1) (m + 1)) ∧ Below w.heap.size w w' := by
  have HM := (show Hid (Calls Try.prog 27 #[.int .i64 n, .slice (some ⟨w.heap.size + 1, 0, none⟩) 2 2] ((w.alloc (.cells #[.int .i64 s] 3)).alloc (.cells #[.slice (some ⟨w.heap.size, 0, none⟩) 1 1, v] 22)) fun e w' => (w.alloc (.cells #[.int .i64 s] 3)).alloc (.cells #[.slice (some ⟨w.heap.size, 0, none⟩) 1 1, v] 22) = w' ∧ e = .returned (.int .i64 (if n < 2 ∨ 64 < n then 1 else if (s < 0 ∨ n ≤ s) ∨ inB n m f = false then 3 else 0))) from psig_split n s v m f w hv)
  have HB := (show Hid (Below w.heap.size w ((w.alloc (.cells #[.int .i64 s] 3)).alloc (.cells #[.slice (some ⟨w.heap.size, 0, none⟩) 1 1, v] 22))) from ((Below.refl _ _).alloc (Nat.le_refl _) _).alloc (by simp) _)
  have HV := (show Hid (NumsAt w v m f) from hv)
  obtain ⟨a, c, rfl, hm, _⟩ := hv
  unfold maxLen at hm
  by_cases h1 : n < 2 ∨ 64 < n
  · have HE : Hid (spE n s m f = 1) := by unfold spE; rw [Hid, if_pos h1]
    rw [if_pos h1] at HM
    clear h1 HV
    go_enter Try.func17, Try.ntmps17
    go_wp2_with fail
    refine HM.out.mono ?_
    rintro e W1 ⟨rfl, rfl⟩
    clear HM
    go_wp2
    go_ret2
    exact ⟨_, by rw [HE.out]; rfl, by rw [HE.out]; exact Ans.nil _ _, (by rw [HE.out]; intro h; cases h), HB.out⟩
  rw [if_neg h1] at HM
  by_cases h2 : (s < 0 ∨ n ≤ s) ∨ inB n m f = false
  · have HE : Hid (spE n s m f = 3) := by unfold spE; rw [Hid, if_neg h1, if_pos h2]
    rw [if_pos h2] at HM
    clear h1 h2 HV
    go_enter Try.func17, Try.ntmps17
    go_wp2_with fail
    refine HM.out.mono ?_
    rintro e W1 ⟨rfl, rfl⟩
    clear HM
    go_wp2
    go_ret2
    exact ⟨_, by rw [HE.out]; rfl, by rw [HE.out]; exact Ans.nil _ _, (by rw [HE.out]; intro h; cases h), HB.out⟩
  rw [if_neg h2] at HM
  by_cases h3 : 15 < m
  · have HE : Hid (spE n s m f = 5) := by unfold spE; rw [Hid, if_neg h1, if_neg h2, if_pos h3]
    have h4 : (16 : Int) ≤ (m : Int) := by omega
    clear h1 h2 h3 HV
    go_enter Try.func17, Try.ntmps17
    go_wp2_with fail
    refine HM.out.mono ?_
    rintro e W1 ⟨rfl, rfl⟩
    clear HM
    go_wp2
    go_ret2
    exact ⟨_, by rw [HE.out]; rfl, by rw [HE.out]; exact Ans.nil _ _, (by rw [HE.out]; intro h; cases h), HB.out⟩
  have h4 : ¬ (16 : Int) ≤ (m : Int) := by omega
  have HE : Hid (spE n s m f = 0) := by unfold spE; rw [Hid, if_neg h1, if_neg h2, if_neg h3]
  obtain ⟨k1, k2, k3, k4, k5, k6⟩ := spE_zero HE.out
  clear h1 h2 h3
  obtain ⟨N, rfl⟩ : ∃ N : Nat, n = (N : Int) := ⟨n.toNat, by omega⟩
  obtain ⟨x, rfl⟩ : ∃ x : Nat, s = (x : Int) := ⟨s.toNat, by omega⟩
  have hN1 : 2 ≤ N := by omega
  have hN2 : N ≤ 64 := by omega
  have hx3 : x < N := by omega
  have HF : Hid (∀ i, i < m → f i = (((f i).toNat : Nat) : Int) ∧ (f i).toNat < N) := fun i hi => by have := k5 i hi; omega
  have HL : Hid (spF (N : Int) (x : Int) m f m = ((lst N x (sm N (fun i => (f i).toNat) m) : Nat) : Int)) := by
    rw [Hid]
    unfold spF
    rw [if_neg (by omega), Int.toNat_natCast, Int.toNat_natCast]
  have hq1 : sm N (fun i => (f i).toNat) m < N := sm_lt (by omega) _ m
  have HADD := (show Hid (∀ W, Below w.heap.size w W → Calls Try.prog 23 #[.int .i64 (N : Nat), .slice a m c] W fun e w' => W = w' ∧ e = .returned (.int .i64 ((sm N (fun i => (f i).toNat) m : Nat) : Int))) from fun W hb => padd_any N hN1 hN2 _ m (fun i => (f i).toNat) (fun i hi => (HF.out i hi).2) W (nums_ext (HV.out.below hb) fun i hi => (HF.out i hi).1))
  obtain ⟨q, hq⟩ : ∃ q, q = sm N (fun i => (f i).toNat) m := ⟨_, rfl⟩
  rw [← hq] at hq1 HADD HL
  clear hq
  have hmk := run_make_row' (P := Try.prog) 22 3 (.int .i64 0) 8 Try.underlying22 g_info_int rfl .i64 .i64 (m + 1) (by omega) (by omega)
  rw [made_tabT, Int.natCast_add, Int.natCast_one] at hmk
  clear k1 k2 k3 k4 k5
  go_enter Try.func17, Try.ntmps17
  go_wp2_with fail
  refine HM.out.mono ?_
  rintro e W1 ⟨rfl, rfl⟩
  clear HM
  have hbe0 := HB.out
  clear HB
  generalize (w.alloc (.cells #[.int .i64 (x : Int)] 3)).alloc (.cells #[.slice (some ⟨w.heap.size, 0, none⟩) 1 1, .slice a m c] 22) = W1 at *
  go_upto_region 7 with fail
  have hr6 : RowAt (W1.alloc (.cells (tab (m + 1) fun _ => .int .i64 0) 3)) W1.heap.size 3 (ints (m + 1) fun _ => 0) := RowAt.new W1 _ _
  have hb6 := hbe0.alloc hbe0.size (.cells (tab (m + 1) fun _ => .int .i64 0) 3)
  generalize W1.alloc (.cells (tab (m + 1) fun _ => .int .i64 0) 3) = W3 at *
  have hz0 := hbe0.size
  generalize W1.heap.size = g at *
  clear hmk hbe0
  obtain ⟨W4, hcp, hr4, hb4⟩ := run_copy_ints hr6 (HV.out.below hb6) hb6 hz0
  rw [Nat.min_eq_left (by omega : m ≤ m + 1)] at hcp hr4
  clear hr6 hb6 HV
  go_wp2_with fail
  refine (HADD.out _ hb4).mono ?_
  rintro e W5 ⟨rfl, rfl⟩
  clear HADD hcp
  go_wp2_with fail
  refine (popp_any N q hN1 hN2 hq1 W4).mono ?_
  rintro e W5 ⟨rfl, rfl⟩
  have hy4 : (N - q) % N < N := Nat.mod_lt _ (by omega)
  have hle : lst N x q = (x + (N - q) % N) % N := rfl
  rw [hle] at HL
  clear hle
  obtain ⟨y', hy'⟩ : ∃ y', y' = (N - q) % N := ⟨_, rfl⟩
  rw [← hy'] at hy4 HL ⊢
  clear hy'
  go_wp2_with fail
  refine (padd_two N x y' hN1 hN2 hx3 hy4 W4).mono ?_
  rintro e W5 ⟨rfl, rfl⟩
  have hro5 := hr4.alloc (.cells #[.int .i64 (x : Nat), .int .i64 (y' : Nat)] 3)
  have hbe5 := hb4.alloc hb4.size (.cells #[.int .i64 (x : Nat), .int .i64 (y' : Nat)] 3)
  have hcell := hro5.cell (ints_get (cpF (fun _ => 0) f m) (Nat.lt_succ_self m))
  have hfz := hro5.frozen m
  generalize W4.alloc (.cells #[.int .i64 (x : Nat), .int .i64 (y' : Nat)] 3) = W5 at *
  generalize (x + y') % N = z at *
  have HN : Hid (RowAt (W5.setCell ⟨g, m, none⟩ (.int .i64 (z : Int))) g 3 (ints (m + 1) (spF (N : Int) (x : Int) m f)) ∧ Below w.heap.size w (W5.setCell ⟨g, m, none⟩ (.int .i64 (z : Int)))) := by
    refine ⟨?_, hbe5.setCell (p := ⟨g, m, none⟩) hz0 _⟩
    have h1 := hro5.set m (.int .i64 (z : Int))
    rw [ints_set, spF_last _ _ _ _ _ HL.out] at h1
    exact h1
  clear hro5 hbe5 hr4 hb4 HL HF
  have hlm : (m : Int) < (m : Int) + 1 := by omega
  go_wp2
  go_ret2
  exact ⟨_, by rw [HE.out]; rfl, by rw [HE.out]; exact Ans.row HN.out.1 (by unfold maxLen; omega), fun _ => ⟨_, rfl⟩, HN.out.2⟩
set_option maxRecDepth 100000 in
set_option maxHeartbeats 4000000 in
theorem pjo_any (n : Int) (v : Value) (m : Nat) (f : Nat → Int) (w : World) (hv : NumsAt w v m f) : Calls Try.prog 19 #[.int .i64 n, v] w fun e w' => e = .returned (.tuple #[.int .i64 (joN n m f), .int .i64 (joE n m f)]) ∧ Below w.heap.size w w' := by
  have HM := (show Hid (Calls Try.prog 27 #[.int .i64 n, .slice (some ⟨w.heap.size, 0, none⟩) 1 1] (w.alloc (.cells #[v] 22)) fun e w' => w.alloc (.cells #[v] 22) = w' ∧ e = .returned (.int .i64 (if n < 2 ∨ 64 < n then 1 else if inB n m f = false then 3 else 0))) from by
    have := psig_any n _ 1 _ _ _ (one_mat w v m f hv)
    rw [sgE_one] at this
    exact this)
  have HB := (show Hid (Below w.heap.size w (w.alloc (.cells #[v] 22))) from (Below.refl _ _).alloc (Nat.le_refl _) _)
  have HV := (show Hid (NumsAt w v m f) from hv)
  have HJ := (show Hid (joN n m f = if joE n m f = 0 then ((sm n.toNat (fun i => (f i).toNat) m : Nat) : Int) else 0) from rfl)
  obtain ⟨a, c, rfl, hm, _⟩ := hv
  unfold maxLen at hm
  obtain ⟨J, hJ⟩ : ∃ J, J = joN n m f := ⟨_, rfl⟩
  rw [← hJ] at HJ ⊢
  clear hJ
  by_cases h1 : n < 2 ∨ 64 < n
  · have HE : Hid (joE n m f = 1) := by unfold joE; rw [Hid, if_pos h1]
    have HJ0 : Hid (J = 0) := by rw [Hid, HJ.out, HE.out, if_neg (by decide)]
    rw [if_pos h1] at HM
    clear h1 HV
    go_enter Try.func19, Try.ntmps19
    go_wp2_with fail
    refine HM.out.mono ?_
    rintro e W1 ⟨rfl, rfl⟩
    clear HM
    go_wp2
    go_ret2
    exact ⟨by rw [HE.out, HJ0.out]; rfl, HB.out⟩
  rw [if_neg h1] at HM
  by_cases h2 : inB n m f = false
  · have HE : Hid (joE n m f = 3) := by unfold joE; rw [Hid, if_neg h1, if_pos h2]
    have HJ0 : Hid (J = 0) := by rw [Hid, HJ.out, HE.out, if_neg (by decide)]
    rw [if_pos h2] at HM
    clear h1 h2 HV
    go_enter Try.func19, Try.ntmps19
    go_wp2_with fail
    refine HM.out.mono ?_
    rintro e W1 ⟨rfl, rfl⟩
    clear HM
    go_wp2
    go_ret2
    exact ⟨by rw [HE.out, HJ0.out]; rfl, HB.out⟩
  rw [if_neg h2] at HM
  by_cases h3 : m < 1 ∨ 16 < m
  · have HE : Hid (joE n m f = 5) := by unfold joE; rw [Hid, if_neg h1, if_neg h2, if_pos h3]
    have HJ0 : Hid (J = 0) := by rw [Hid, HJ.out, HE.out, if_neg (by decide)]
    clear h1 h2 HV
    by_cases h4 : m = 0
    · subst h4
      clear h3
      go_enter Try.func19, Try.ntmps19
      go_wp2_with fail
      refine HM.out.mono ?_
      rintro e W1 ⟨rfl, rfl⟩
      clear HM
      go_wp2
      go_ret2
      exact ⟨by rw [HE.out, HJ0.out]; rfl, HB.out⟩
    · have h5 : ((m : Int) == 0) = false := by simp; omega
      have h6 : (16 : Int) < (m : Int) := by omega
      clear h3 h4
      go_enter Try.func19, Try.ntmps19
      go_wp2_with fail
      refine HM.out.mono ?_
      rintro e W1 ⟨rfl, rfl⟩
      clear HM
      go_wp2
      go_ret2
      exact ⟨by rw [HE.out, HJ0.out]; rfl, HB.out⟩
  have h5 : ((m : Int) == 0) = false := by simp; omega
  have h6 : ¬ (16 : Int) < (m : Int) := by omega
  have HE : Hid (joE n m f = 0) := by unfold joE; rw [Hid, if_neg h1, if_neg h2, if_neg h3]
  obtain ⟨k1, k2, k3, k4, k5⟩ := joE_zero HE.out
  clear h1 h2 h3
  obtain ⟨N, rfl⟩ : ∃ N : Nat, n = (N : Int) := ⟨n.toNat, by omega⟩
  have hN1 : 2 ≤ N := by omega
  have hN2 : N ≤ 64 := by omega
  have HADD := (show Hid (∀ W, Below w.heap.size w W → Calls Try.prog 23 #[.int .i64 (N : Nat), .slice a m c] W fun e w' => W = w' ∧ e = .returned (.int .i64 ((sm N (fun i => (f i).toNat) m : Nat) : Int))) from fun W hb => padd_any N hN1 hN2 _ m (fun i => (f i).toNat) (fun i hi => by have := k3 i hi; omega) W (nums_ext (HV.out.below hb) fun i hi => by have := k3 i hi; show f i = (((f i).toNat : Nat) : Int); omega))
  have HJ0 : Hid (J = ((sm N (fun i => (f i).toNat) m : Nat) : Int)) := by rw [Hid, HJ.out, HE.out, if_pos rfl, Int.toNat_natCast]
  obtain ⟨q, hq⟩ : ∃ q, q = sm N (fun i => (f i).toNat) m := ⟨_, rfl⟩
  rw [← hq] at HADD HJ0
  clear hq k1 k2 k3 k4 k5 HV HJ
  go_enter Try.func19, Try.ntmps19
  go_wp2_with fail
  refine HM.out.mono ?_
  rintro e W1 ⟨rfl, rfl⟩
  clear HM
  go_wp2_with fail
  refine (HADD.out _ HB.out).mono ?_
  rintro e W1 ⟨rfl, rfl⟩
  clear HADD
  go_wp2
  go_ret2
  exact ⟨by rw [HE.out, HJ0.out]; rfl, HB.out⟩
end Go.Proofs.Ytccdbghhjcdcfaa
