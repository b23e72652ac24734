/-
  Contracts of the document's own Two, Then, Back, Conjugate.
-/
import Derived.Test.YtlgjgppojdamiaaRRef
namespace Go.Proofs.Ytlgjgppojdamiaa
open Go.RowKit PK

theorem pair_bad (f g : Nat → Int) : Pm.firstBad (pair f g) 2 = if Pm.wrong f ≠ 0 then Pm.wrong f else Pm.wrong g := by
  have h1 : Pm.firstBad (pair f g) 1 = Pm.wrong f := Pm.firstBad_succ (pair f g) 0 rfl
  show (if Pm.firstBad (pair f g) 1 ≠ 0 then Pm.firstBad (pair f g) 1 else Pm.wrong g) = _
  rw [h1]

set_option maxHeartbeats 1000000 in
theorem rtwo_any (f g : Nat → Int) (w : World) : Calls Try.prog 44 #[.agg (ints 26 f), .agg (ints 26 g)] w fun e w' => e = .returned (.int .i64 (Pm.firstBad (pair f g) 2)) ∧ Below w.heap.size w w' := by
  have HP := pair_bad f g
  have HX : Hid (Pm.firstBad (pair f g) 2 = if Pm.wrong f ≠ 0 then Pm.wrong f else Pm.wrong g) := HP
  clear HP
  have hX : Pm.wrong f = 0 ∨ (Pm.wrong f != 0) = true := by by_cases e : Pm.wrong f = 0 <;> simp [e]
  have HW : Hid (∀ W, Calls Try.prog 19 #[.agg (ints 26 f)] W fun e w' => e = .returned (.int .i64 (Pm.wrong f)) ∧ Below W.heap.size W w') := fun W => rwrong_any f W
  have HV : Hid (∀ W, Calls Try.prog 19 #[.agg (ints 26 g)] W fun e w' => e = .returned (.int .i64 (Pm.wrong g)) ∧ Below W.heap.size W w') := fun W => rwrong_any g W
  generalize Pm.wrong f = x at *
  generalize Pm.wrong g = y at *
  generalize Pm.firstBad (pair f g) 2 = z at *
  go_enter Try.func44, Try.ntmps44
  go_wp2_with (first | refine load_perm rfl _ rfl _ rfl _ ((RowAt.new w _ _).alloc _) ?_)
  refine (HW.out _).mono ?_
  rintro e W1 ⟨rfl, hb0⟩
  have r2 : RowAt W1 (w.heap.size + 1) 35 (ints 26 g) := RowAt.below (RowAt.newAt (by simp)) hb0 (by simp)
  have hs := hb0.size
  simp only [World.size_alloc] at hs
  have hb1 : Below w.heap.size w W1 := (((Below.refl _ _).alloc (Nat.le_refl _) _).alloc (by simp) _).trans (hb0.mono (by simp; omega))
  clear hb0
  rcases hX with rfl | hX
  · go_wp2_with (first | refine load_perm rfl _ rfl _ rfl _ r2 ?_)
    refine (HV.out _).mono ?_
    rintro e W2 ⟨rfl, hb2⟩
    go_wp2
    go_ret
    exact ⟨ret_int (by rw [HX.out]; simp), hb1.trans (hb2.mono (by omega))⟩
  · go_wp2
    go_ret
    exact ⟨ret_int (by rw [HX.out, if_pos (by simpa using hX)]), hb1⟩

/-- Two boxed arrays and the result's place, behind a call. -/
theorem after2r {w W1 : World} {T : TypeId} {f g z : Nat → Int} (hb : Below (((w.alloc (.cells (ints 26 f) T)).alloc (.cells (ints 26 g) T)).alloc (.cells (ints 26 z) T)).heap.size (((w.alloc (.cells (ints 26 f) T)).alloc (.cells (ints 26 g) T)).alloc (.cells (ints 26 z) T)) W1) :
    RowAt W1 w.heap.size T (ints 26 f) ∧ RowAt W1 (w.heap.size + 1) T (ints 26 g) ∧ RowAt W1 (w.heap.size + 1 + 1) T (ints 26 z) ∧ Below w.heap.size w W1 ∧ w.heap.size + 3 ≤ W1.heap.size := after3 hb
theorem after1r {w W1 : World} {T : TypeId} {f z : Nat → Int} (hb : Below ((w.alloc (.cells (ints 26 f) T)).alloc (.cells (ints 26 z) T)).heap.size ((w.alloc (.cells (ints 26 f) T)).alloc (.cells (ints 26 z) T)) W1) :
    RowAt W1 w.heap.size T (ints 26 f) ∧ RowAt W1 (w.heap.size + 1) T (ints 26 z) ∧ Below w.heap.size w W1 ∧ w.heap.size + 2 ≤ W1.heap.size := by
  have hs := hb.size
  simp at hs
  exact ⟨RowAt.below ((RowAt.new w _ _).alloc _) hb (by simp; omega), RowAt.below (RowAt.newAt (by simp)) hb (by simp), (((Below.refl _ _).alloc (Nat.le_refl _) _).alloc (by simp) _).trans (hb.mono (by simp; omega)), hs⟩
/-- The first k places filled. -/
def fillTo (v : Nat → Int) (k : Nat) : Nat → Int := fun i => if i < k then v i else 0
theorem fillTo_step (v : Nat → Int) (k : Nat) : upd (fillTo v k) k (v k) = fillTo v (k + 1) := by
  funext i
  unfold fillTo upd
  by_cases e : i = k
  · subst e; simp
  · by_cases h : i < k
    · simp [e, h]; omega
    · have : ¬ i < k + 1 := by omega
      simp [e, h, this]
theorem fillTo_zero (v : Nat → Int) : ints 26 (fillTo v 0) = ints 26 fun _ => 0 := ints_ext fun i _ => by simp [fillTo]
theorem fillTo_all (v : Nat → Int) : ints 26 (fillTo v 26) = ints 26 v := ints_ext fun i hi => by simp [fillTo, hi]

set_option maxHeartbeats 2000000 in
theorem rthen_ok (p q : Nat → Nat) (hp : Pm.IsPerm p) (hq : Pm.IsPerm q) (w : World) :
    Calls Try.prog 21 #[.agg (ints 26 (Pm.up p)), .agg (ints 26 (Pm.up q))] w fun e w' => e = .returned (.tuple #[.agg (ints 26 (Pm.up (fun i => q (p i)))), .int .i64 0]) ∧ Below w.heap.size w w' := by
  have H0 : Hid (Pm.firstBad (pair (Pm.up p) (Pm.up q)) 2 = 0) := pair_ok p q hp hq
  go_enter Try.func21, Try.ntmps21
  go_wp2_with (first
    | refine load_perm rfl _ rfl w.heap.size rfl (Pm.up p) (((RowAt.new w _ _).alloc _).alloc _) ?_
    | refine load_perm rfl _ rfl (w.heap.size + 1) rfl (Pm.up q) ((RowAt.newAt (by simp)).alloc _) ?_)
  rw [zero26]
  refine (rtwo_any (Pm.up p) (Pm.up q) _).mono ?_
  rintro e W1 ⟨rfl, hb0⟩
  obtain ⟨r1, r2, r3, hb1, hs1⟩ := after2r hb0
  clear hb0
  rw [H0.out]
  go_wp2
  rw [zero26]
  go_loopw [8] (fun i W => ∃ k : Nat, k ≤ 26 ∧ i = .int .i64 k ∧ RowAt W W1.heap.size 35 (ints 26 (fillTo (Pm.up (fun i => q (p i))) k)) ∧ RowAt W w.heap.size 35 (ints 26 (Pm.up p)) ∧ RowAt W (w.heap.size + 1) 35 (ints 26 (Pm.up q)) ∧ RowAt W (w.heap.size + 1 + 1) 35 (ints 26 fun _ => 0) ∧ Below w.heap.size w W ∧ W1.heap.size < W.heap.size) (fun i _ => (26 - intOf i).toNat)
  case atStart => exact ⟨0, by omega, rfl, by rw [fillTo_zero]; exact RowAt.new _ _ _, r1.alloc _, r2.alloc _, r3.alloc _, hb1.alloc (by omega) _, by simp⟩
  case round =>
    clear r1 r3 hb1 r2
    obtain ⟨k, hk, rfl, ro, r1, r2, r3, hb, hsz⟩ := hrel
    by_cases hlt : k < 26
    · have hco := ro.cell (ints_get (fillTo (Pm.up (fun i => q (p i))) k) hlt)
      have hfo := ro.frozen k
      have HST : Hid (upd (fillTo (Pm.up (fun i => q (p i))) k) k (Pm.up (fun i => q (p i)) k) = fillTo (Pm.up (fun i => q (p i))) (k + 1)) := fillTo_step _ k
      have hpi := hp.lt k hlt
      have hc1 := r1.cell (ints_get (Pm.up p) hlt)
      have hc2 := r2.cell (ints_get (Pm.up q) hpi)
      simp only [Pm.up] at hc1 hc2
      have HV : Hid (Pm.up (fun i => q (p i)) k = ((q (p k) : Nat) : Int)) := rfl
      generalize p k = n at *
      clear hk
      go_wp2
      go_roundw
      case rel =>
        refine ⟨k + 1, by omega, by go_num, ?_, r1.setOther _ _ (by simp; omega), r2.setOther _ _ (by simp; omega), r3.setOther _ _ (by simp; omega), hb.setCell (by simp; omega) _, by simpa using hsz⟩
        rw [← HST.out, HV.out, ← ints_set]
        exact ro.set k _
      case measure => simp [intOf]; omega
    · have HK : Hid (k = 26) := by rw [Hid]; omega
      rw [HK.out, fillTo_all] at ro
      go_wp2_with (first
        | refine load_perm rfl _ rfl _ rfl _ ro ?_
        | refine wpList_store_row rfl 35 _ _ rfl (w.heap.size + 1 + 1) (ints 26 (Pm.up (fun i => q (p i)))) rfl rfl 35 _ r3 (by rw [ints_size]; exact info_perm) (by simp only [ints_size]) (ints_one _ _) ?_)
      exact bodyPost_ret (v := .tuple #[.agg (ints 26 (Pm.up (fun i => q (p i)))), .int .i64 0]) (results_cell_tmp2 rfl _ _ (w.heap.size + 1 + 1) 35 _ (0, 0) _ _ rfl rfl (r3.row _) Try.underlying35 rfl (by rw [ints_size]; exact info_perm)) rfl ⟨rfl, Below.setRow hb _ (by omega) _⟩

set_option maxHeartbeats 2000000 in
theorem rthen_bad (f g : Nat → Int) (E : Int) (hE : (E != 0) = true) (hw : Pm.firstBad (pair f g) 2 = E) (w : World) :
    Calls Try.prog 21 #[.agg (ints 26 f), .agg (ints 26 g)] w fun e w' => e = .returned (.tuple #[.agg (ints 26 fun _ => 0), .int .i64 E]) ∧ Below w.heap.size w w' := by
  have H0 : Hid (Pm.firstBad (pair f g) 2 = E) := hw
  clear hw
  go_enter Try.func21, Try.ntmps21
  go_wp2_with (first
    | refine load_perm rfl _ rfl w.heap.size rfl (f) (((RowAt.new w _ _).alloc _).alloc _) ?_
    | refine load_perm rfl _ rfl (w.heap.size + 1) rfl (g) ((RowAt.newAt (by simp)).alloc _) ?_)
  rw [zero26]
  refine (rtwo_any (f) (g) _).mono ?_
  rintro e W1 ⟨rfl, hb0⟩
  obtain ⟨r1, r2, r3, hb1, hs1⟩ := after2r hb0
  clear hb0
  rw [H0.out]
  go_wp2_with (first
    | refine wpList_build0 rfl 35 rfl _ built_perm ?_
    | refine wpList_store_row rfl 35 _ _ rfl (w.heap.size + 1 + 1) (ints 26 fun _ => 0) rfl rfl 35 _ r3 (by rw [ints_size]; exact info_perm) (by simp only [ints_size]) (ints_one _ _) ?_)
  exact bodyPost_ret (v := .tuple #[.agg (ints 26 fun _ => 0), .int .i64 E]) (results_cell_tmp2 rfl _ _ (w.heap.size + 1 + 1) 35 _ (0, 0) _ _ rfl rfl (r3.row _) Try.underlying35 rfl (by rw [ints_size]; exact info_perm)) rfl ⟨rfl, Below.setRow hb1 _ (by omega) _⟩

set_option maxHeartbeats 2000000 in
theorem rback_ok (p : Nat → Nat) (hp : Pm.IsPerm p) (w : World) :
    Calls Try.prog 23 #[.agg (ints 26 (Pm.up p))] w fun e w' => e = .returned (.tuple #[.agg (ints 26 (Pm.up (Pm.inv p))), .int .i64 0]) ∧ Below w.heap.size w w' := by
  have H0 : Hid (Pm.wrong (Pm.up p) = 0) := Pm.wrong_up p hp
  go_enter Try.func23, Try.ntmps23
  go_wp2_with (first
    | refine load_perm rfl _ rfl w.heap.size rfl (Pm.up p) ((RowAt.new w _ _).alloc _) ?_)
  rw [zero26]
  refine (rwrong_any (Pm.up p) _).mono ?_
  rintro e W1 ⟨rfl, hb0⟩
  obtain ⟨r1, r3, hb1, hs1⟩ := after1r hb0
  clear hb0
  rw [H0.out]
  go_wp2
  rw [zero26]
  go_loopw [6] (fun i W => ∃ k : Nat, k ≤ 26 ∧ i = .int .i64 k ∧ RowAt W W1.heap.size 35 (ints 26 (fillTo (Pm.up (Pm.inv p)) k)) ∧ RowAt W w.heap.size 35 (ints 26 (Pm.up p)) ∧ RowAt W (w.heap.size + 1) 35 (ints 26 fun _ => 0) ∧ Below w.heap.size w W ∧ W1.heap.size < W.heap.size) (fun i _ => (26 - intOf i).toNat)
  case atStart => exact ⟨0, by omega, rfl, by rw [fillTo_zero]; exact RowAt.new _ _ _, r1.alloc _, r3.alloc _, hb1.alloc (by omega) _, by simp⟩
  case round =>
    clear r1 r3 hb1
    obtain ⟨k, hk, rfl, ro, r1, r3, hb, hsz⟩ := hrel
    by_cases hlt : k < 26
    · have hco := ro.cell (ints_get (fillTo (Pm.up (Pm.inv p)) k) hlt)
      have hfo := ro.frozen k
      have HST : Hid (upd (fillTo (Pm.up (Pm.inv p)) k) k (Pm.up (Pm.inv p) k) = fillTo (Pm.up (Pm.inv p)) (k + 1)) := fillTo_step _ k
      have HV : Hid (Pm.up (Pm.inv p) k = ((Pm.inv p k : Nat) : Int)) := rfl
      go_wp2_with (first | refine load_perm rfl _ rfl _ rfl _ r1 ?_)
      refine (rfrom_any p hp k hlt _).mono ?_
      rintro e W2 ⟨rfl, hc⟩
      have hs2 := hc.size
      have ro2 := ro.below hc ro.lt
      have hco2 := ro2.cell (ints_get (fillTo (Pm.up (Pm.inv p)) k) hlt)
      have hfo2 := ro2.frozen k
      clear hco hfo
      go_wp2
      go_roundw
      case rel =>
        refine ⟨k + 1, by omega, by go_num, ?_, (r1.below hc r1.lt).setOther _ _ (by simp; omega), (r3.below hc r3.lt).setOther _ _ (by simp; omega), (hb.trans (hc.mono (by omega))).setCell (by simp; omega) _, by simp; omega⟩
        rw [← HST.out, HV.out, ← ints_set]
        exact ro2.set k _
      case measure => simp [intOf]; omega
    · have HK : Hid (k = 26) := by rw [Hid]; omega
      rw [HK.out, fillTo_all] at ro
      go_wp2_with (first
        | refine load_perm rfl _ rfl _ rfl _ ro ?_
        | refine wpList_store_row rfl 35 _ _ rfl (w.heap.size + 1) (ints 26 (Pm.up (Pm.inv p))) rfl rfl 35 _ r3 (by rw [ints_size]; exact info_perm) (by simp only [ints_size]) (ints_one _ _) ?_)
      exact bodyPost_ret (v := .tuple #[.agg (ints 26 (Pm.up (Pm.inv p))), .int .i64 0]) (results_cell_tmp2 rfl _ _ (w.heap.size + 1) 35 _ (0, 0) _ _ rfl rfl (r3.row _) Try.underlying35 rfl (by rw [ints_size]; exact info_perm)) rfl ⟨rfl, Below.setRow hb _ (by omega) _⟩

set_option maxHeartbeats 2000000 in
theorem rback_bad (f : Nat → Int) (E : Int) (hE : (E != 0) = true) (hw : Pm.wrong f = E) (w : World) :
    Calls Try.prog 23 #[.agg (ints 26 f)] w fun e w' => e = .returned (.tuple #[.agg (ints 26 fun _ => 0), .int .i64 E]) ∧ Below w.heap.size w w' := by
  have H0 : Hid (Pm.wrong f = E) := hw
  clear hw
  go_enter Try.func23, Try.ntmps23
  go_wp2_with (first
    | refine load_perm rfl _ rfl w.heap.size rfl (f) ((RowAt.new w _ _).alloc _) ?_)
  rw [zero26]
  refine (rwrong_any (f) _).mono ?_
  rintro e W1 ⟨rfl, hb0⟩
  obtain ⟨r1, r3, hb1, hs1⟩ := after1r hb0
  clear hb0
  rw [H0.out]
  go_wp2_with (first
    | refine wpList_build0 rfl 35 rfl _ built_perm ?_
    | refine wpList_store_row rfl 35 _ _ rfl (w.heap.size + 1) (ints 26 fun _ => 0) rfl rfl 35 _ r3 (by rw [ints_size]; exact info_perm) (by simp only [ints_size]) (ints_one _ _) ?_)
  exact bodyPost_ret (v := .tuple #[.agg (ints 26 fun _ => 0), .int .i64 E]) (results_cell_tmp2 rfl _ _ (w.heap.size + 1) 35 _ (0, 0) _ _ rfl rfl (r3.row _) Try.underlying35 rfl (by rw [ints_size]; exact info_perm)) rfl ⟨rfl, Below.setRow hb1 _ (by omega) _⟩

set_option maxHeartbeats 2000000 in
theorem rconj_ok (p q : Nat → Nat) (hp : Pm.IsPerm p) (hq : Pm.IsPerm q) (w : World) :
    Calls Try.prog 25 #[.agg (ints 26 (Pm.up p)), .agg (ints 26 (Pm.up q))] w fun e w' => e = .returned (.tuple #[.agg (ints 26 (Pm.up (Pm.conj p q))), .int .i64 0]) ∧ Below w.heap.size w w' := by
  have H0 : Hid (Pm.firstBad (pair (Pm.up p) (Pm.up q)) 2 = 0) := pair_ok p q hp hq
  go_enter Try.func25, Try.ntmps25
  go_wp2_with (first
    | refine load_perm rfl _ rfl w.heap.size rfl (Pm.up p) (((RowAt.new w _ _).alloc _).alloc _) ?_
    | refine load_perm rfl _ rfl (w.heap.size + 1) rfl (Pm.up q) ((RowAt.newAt (by simp)).alloc _) ?_)
  rw [zero26]
  refine (rtwo_any (Pm.up p) (Pm.up q) _).mono ?_
  rintro e W1 ⟨rfl, hb0⟩
  obtain ⟨r1, r2, r3, hb1, hs1⟩ := after2r hb0
  clear hb0
  rw [H0.out]
  go_wp2
  rw [zero26]
  go_loopw [8] (fun i W => ∃ k : Nat, k ≤ 26 ∧ i = .int .i64 k ∧ RowAt W W1.heap.size 35 (ints 26 (fillTo (Pm.up (Pm.conj p q)) k)) ∧ RowAt W w.heap.size 35 (ints 26 (Pm.up p)) ∧ RowAt W (w.heap.size + 1) 35 (ints 26 (Pm.up q)) ∧ RowAt W (w.heap.size + 1 + 1) 35 (ints 26 fun _ => 0) ∧ Below w.heap.size w W ∧ W1.heap.size < W.heap.size) (fun i _ => (26 - intOf i).toNat)
  case atStart => exact ⟨0, by omega, rfl, by rw [fillTo_zero]; exact RowAt.new _ _ _, r1.alloc _, r2.alloc _, r3.alloc _, hb1.alloc (by omega) _, by simp⟩
  case round =>
    clear r1 r3 hb1 r2
    obtain ⟨k, hk, rfl, ro, r1, r2, r3, hb, hsz⟩ := hrel
    by_cases hlt : k < 26
    · have hco := ro.cell (ints_get (fillTo (Pm.up (Pm.conj p q)) k) hlt)
      have hfo := ro.frozen k
      have HST : Hid (upd (fillTo (Pm.up (Pm.conj p q)) k) k (Pm.up (Pm.conj p q) k) = fillTo (Pm.up (Pm.conj p q)) (k + 1)) := fillTo_step _ k
      have hik := (hq.inv_spec k hlt).1
      have hpk := hp.lt _ hik
      have HV : Hid (Pm.up (Pm.conj p q) k = ((q (p (Pm.inv q k)) : Nat) : Int)) := rfl
      go_wp2_with (first | refine load_perm rfl _ rfl _ rfl _ r2 ?_)
      refine (rfrom_any q hq k hlt _).mono ?_
      rintro e W2 ⟨rfl, hc⟩
      have hs2 := hc.size
      have ro2 := ro.below hc ro.lt
      have hco2 := ro2.cell (ints_get (fillTo (Pm.up (Pm.conj p q)) k) hlt)
      have hfo2 := ro2.frozen k
      have r12 := r1.below hc r1.lt
      have r22 := r2.below hc r2.lt
      have hc1 := r12.cell (ints_get (Pm.up p) hik)
      have hc2 := r22.cell (ints_get (Pm.up q) hpk)
      simp only [Pm.up] at hc1 hc2
      clear hco hfo
      generalize Pm.inv q k = n at *
      generalize p n = m at *
      go_wp2
      go_roundw
      case rel =>
        refine ⟨k + 1, by omega, by go_num, ?_, r12.setOther _ _ (by simp; omega), r22.setOther _ _ (by simp; omega), (r3.below hc r3.lt).setOther _ _ (by simp; omega), (hb.trans (hc.mono (by omega))).setCell (by simp; omega) _, by simp; omega⟩
        rw [← HST.out, HV.out, ← ints_set]
        exact ro2.set k _
      case measure => simp [intOf]; omega
    · have HK : Hid (k = 26) := by rw [Hid]; omega
      rw [HK.out, fillTo_all] at ro
      go_wp2_with (first
        | refine load_perm rfl _ rfl _ rfl _ ro ?_
        | refine wpList_store_row rfl 35 _ _ rfl (w.heap.size + 1 + 1) (ints 26 (Pm.up (Pm.conj p q))) rfl rfl 35 _ r3 (by rw [ints_size]; exact info_perm) (by simp only [ints_size]) (ints_one _ _) ?_)
      exact bodyPost_ret (v := .tuple #[.agg (ints 26 (Pm.up (Pm.conj p q))), .int .i64 0]) (results_cell_tmp2 rfl _ _ (w.heap.size + 1 + 1) 35 _ (0, 0) _ _ rfl rfl (r3.row _) Try.underlying35 rfl (by rw [ints_size]; exact info_perm)) rfl ⟨rfl, Below.setRow hb _ (by omega) _⟩

set_option maxHeartbeats 2000000 in
theorem rconj_bad (f g : Nat → Int) (E : Int) (hE : (E != 0) = true) (hw : Pm.firstBad (pair f g) 2 = E) (w : World) :
    Calls Try.prog 25 #[.agg (ints 26 f), .agg (ints 26 g)] w fun e w' => e = .returned (.tuple #[.agg (ints 26 fun _ => 0), .int .i64 E]) ∧ Below w.heap.size w w' := by
  have H0 : Hid (Pm.firstBad (pair f g) 2 = E) := hw
  clear hw
  go_enter Try.func25, Try.ntmps25
  go_wp2_with (first
    | refine load_perm rfl _ rfl w.heap.size rfl (f) (((RowAt.new w _ _).alloc _).alloc _) ?_
    | refine load_perm rfl _ rfl (w.heap.size + 1) rfl (g) ((RowAt.newAt (by simp)).alloc _) ?_)
  rw [zero26]
  refine (rtwo_any (f) (g) _).mono ?_
  rintro e W1 ⟨rfl, hb0⟩
  obtain ⟨r1, r2, r3, hb1, hs1⟩ := after2r hb0
  clear hb0
  rw [H0.out]
  go_wp2_with (first
    | refine wpList_build0 rfl 35 rfl _ built_perm ?_
    | refine wpList_store_row rfl 35 _ _ rfl (w.heap.size + 1 + 1) (ints 26 fun _ => 0) rfl rfl 35 _ r3 (by rw [ints_size]; exact info_perm) (by simp only [ints_size]) (ints_one _ _) ?_)
  exact bodyPost_ret (v := .tuple #[.agg (ints 26 fun _ => 0), .int .i64 E]) (results_cell_tmp2 rfl _ _ (w.heap.size + 1 + 1) 35 _ (0, 0) _ _ rfl rfl (r3.row _) Try.underlying35 rfl (by rw [ints_size]; exact info_perm)) rfl ⟨rfl, Below.setRow hb1 _ (by omega) _⟩
end Go.Proofs.Ytlgjgppojdamiaa
