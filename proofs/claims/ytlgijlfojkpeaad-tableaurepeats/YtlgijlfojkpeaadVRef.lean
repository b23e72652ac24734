/-
  Contract of the document's Repeats.
-/
import Derived.Test.YtlgijlfojkpeaadVRefB
namespace Go.Proofs.Ytlgijlfojkpeaad
open Go.RowKit PK Vg

theorem nx_first {p : Nat → List UInt8} {q : List UInt8} {j n k : Nat} (h1 : j ≤ k) (h2 : k < j + n) (e : p k = q) (hno : ∀ i, j ≤ i → i < k → p i ≠ q) : nx p q j n = some k := by
  obtain ⟨m, hm, hle⟩ := nx_le h1 h2 e
  have h3 := nx_some hm
  have : m = k := by
    apply Classical.byContradiction
    intro hne
    exact hno m h3.1 (by omega) h3.2.2.1
  rw [hm, this]
theorem nx_no {p : Nat → List UInt8} {q : List UInt8} {j n : Nat} (hno : ∀ i, j ≤ i → i < j + n → p i ≠ q) : nx p q j n = none := by
  cases h : nx p q j n with
  | none => rfl
  | some m => exact absurd (nx_some h).2.2.1 (hno m (nx_some h).1 (nx_some h).2.1)
theorem ext_iff2 (t : ByteArray) (n a b : Nat) : t.extract a (a + n) = t.extract b (b + n) ↔ pcs t.data.toList n a = pcs t.data.toList n b := by
  rw [← ext_pcs, ← ext_pcs]
  constructor
  · intro e; rw [e]
  · intro e
    have : ∀ x y : ByteArray, x.data.toList = y.data.toList → x = y := fun x y h => by cases x; cases y; simp at h; rw [h]
    exact this _ _ e
set_option maxRecDepth 100000 in
set_option maxHeartbeats 2000000 in
theorem rrep_ok (t : ByteArray) (n : Nat) (hn : 1 ≤ n) (h63 : n ≤ 9223372036854775807) (hk : ckE t.data.toList = 0) (hk2 : ckAt t.data.toList = 0) (hs : t.size ≤ 4096) (w : World) :
    Calls Try.prog 7 #[.string t, .int .i64 (n : Nat)] w fun e w' => ∃ v, e = .returned (.tuple #[v, .agg #[.int .i64 0, .int .i64 0]]) ∧ PairsAt w' v (rpL t.data.toList n).length (fun k => (((rpL t.data.toList n).getD k (0, 0)).1 : Nat)) (fun k => (((rpL t.data.toList n).getD k (0, 0)).2 : Nat)) ∧ Below w.heap.size w w' := by
  have hsl := Pl.size_len t
  have HCK := (show Hid (∀ W, Calls Try.prog 17 #[.string t] W fun e w' => e = .returned (.agg #[.int .i64 0, .int .i64 0]) ∧ Below W.heap.size W w') from fun W => by have := rcheck_all t W; rw [hk, hk2] at this; exact this)
  by_cases hlong : t.size < n
  · have HR : Hid (rpL t.data.toList n = []) := by
      rw [Hid]; unfold rpL
      have : rpN t.data.toList n = 0 := by unfold rpN; omega
      rw [this]; rfl
    rw [HR.out]
    have hlongI : (t.size : Int) < (n : Int) := by omega
    clear hk hk2 hsl HR
    go_enter Try.func7, Try.ntmps7
    go_wp2_with fail
    refine (HCK.out _).mono ?_
    rintro e W1 ⟨rfl, hb⟩
    have hb1 : Below (w.heap.size + 1) (w.alloc (.cells #[.int .i64 0, .int .i64 0] 25)) W1 := by simpa using hb
    have hz := hb1.size
    simp at hz
    have hb2 := hb1.alloc (by omega) (.cells #[.int .i64 0, .int .i64 0] 25)
    clear hb hb1 HCK
    obtain ⟨c0, c1, f0, f1, hsz⟩ := Kit.two_cells hb2
    go_wp2
    have q := Kit.read_two (.int .i64 0) (.int .i64 0) c0 c1
    refine bodyPost_ret (v := .tuple #[.slice none 0 0, .agg #[.int .i64 0, .int .i64 0]]) (by simp [results, Try.results7, go_sem, q.1, q.2]) rfl ⟨_, rfl, PairsAt.nil _ _ _, ?_⟩
    exact Kit.below_two hb2 _ _
  · obtain ⟨M, hM⟩ : ∃ M, t.size = n + M := ⟨t.size - n, by omega⟩
    obtain ⟨p, hp⟩ : ∃ p, p = pcs t.data.toList n := ⟨_, rfl⟩
    have HR : Hid (rpL t.data.toList n = repsF p (M + 1) M) := by
      rw [Hid]; unfold rpL
      have : rpN t.data.toList n = M + 1 := by unfold rpN; omega
      rw [this, hp]
      show repsF _ _ M ++ rep _ _ M = _
      rw [rep_last, List.append_nil]
    have HP := (show Hid (∀ a b, t.extract a (a + n) = t.extract b (b + n) ↔ p a = p b) from fun a b => by rw [hp]; exact ext_iff2 t n a b)
    obtain ⟨i0, hi0, hz0, hz1, hz2⟩ := v_info_parts v_info_rep
    rw [HR.out]
    have hM1 : M ≤ 4096 := by omega
    have hlongI : ¬ (t.size : Int) < (n : Int) := by omega
    have hMI : (t.size : Int) - (n : Int) = (M : Int) := by omega
    have HM : Hid (t.size = n + M) := hM
    have hsI : ¬ (4096 : Int) < (t.size : Int) := by omega
    have hnI : ¬ (n : Int) < 1 := by omega
    clear hk hk2 hsl HR hp hM
    go_enter Try.func7, Try.ntmps7
    go_wp2_with fail
    refine (HCK.out _).mono ?_
    rintro e W1 ⟨rfl, hb⟩
    have hb1 : Below (w.heap.size + 1) (w.alloc (.cells #[.int .i64 0, .int .i64 0] 25)) W1 := by simpa using hb
    have hz := hb1.size
    simp at hz
    have hb2 := hb1.alloc (by omega) (.cells #[.int .i64 0, .int .i64 0] 25)
    clear hb hb1 HCK
    go_wp2_with fail
    obtain ⟨V, hV⟩ : ∃ V, V = W1.alloc (.cells #[.int .i64 0, .int .i64 0] 25) := ⟨_, rfl⟩
    have hVs : w.heap.size + 1 ≤ V.heap.size := by rw [hV]; simp; omega
    rw [← hV] at hb2 ⊢
    clear hV hz
    go_loopw [8, 7] (fun i v W => ∃ (m : Nat) (v' : Value), m ≤ M ∧ i = .int .i64 m ∧ v' = v ∧ OwnsP W V.heap.size v' (repsF p (M + 1) m) ∧ Below V.heap.size V W) (fun i _ _ => ((M : Int) - intOf i).toNat)
    case atStart => exact ⟨0, _, by omega, rfl, rfl, OwnsP.nil _ _, Below.refl _ _⟩
    case round =>
      obtain ⟨m, v, hm, rfl, rfl, hown, hbv⟩ := hrel
      by_cases hlt : m < M
      · have hltI : (m : Int) < (M : Int) := by omega
        have HRF := (show Hid (repsF p (M + 1) (m + 1) = repsF p (M + 1) m ++ rep p (M + 1) m) from rfl)
        have hlen : (repsF p (M + 1) m).length ≤ 4096 := by have := repsF_length p (M + 1) m; omega
        obtain ⟨acc, hacc⟩ : ∃ acc, acc = repsF p (M + 1) m := ⟨_, rfl⟩
        rw [← hacc] at hown HRF hlen
        clear hacc
        obtain ⟨X, hX⟩ : ∃ X, X = wr := ⟨_, rfl⟩
        rw [← hX] at hown hbv ⊢
        clear hX
        go_wp2_with fail
        go_loopw [9, 7] (fun i v2 W => ∃ k : Nat, m < k ∧ k ≤ M + 1 ∧ i = .int .i64 k ∧ v = v2 ∧ Hid (∀ j, m + 1 ≤ j → j < k → p j ≠ p m) ∧ OwnsP W V.heap.size v acc ∧ Below V.heap.size V W) (fun i _ _ => ((M : Int) + 1 - intOf i).toNat)
        case atStart => exact ⟨m + 1, by omega, by omega, by go_num, rfl, fun j h1 h2 => by omega, hown, hbv⟩
        case round =>
          clear hown hbv
          obtain ⟨k, hmk, hkM, rfl, rfl, HNO, hown, hbv⟩ := hrel
          by_cases hkl : k ≤ M
          · have hklI : (k : Int) ≤ (M : Int) := by omega
            have hmn : (m : Int) + (n : Int) ≤ (t.size : Int) := by have := HM.out; omega
            have hkn : (k : Int) + (n : Int) ≤ (t.size : Int) := by have := HM.out; omega
            have hmnN : m + n ≤ t.size := by omega
            have hknN : k + n ≤ t.size := by omega
            by_cases hE : t.extract m (m + n) = t.extract k (k + n)
            · have HREP := (show Hid (rep p (M + 1) m = [(m, k - m)]) from rep_some (nx_first (by omega) (by omega) ((HP.out m k).1 hE).symm HNO.out))
              have e1 := ba_eq hE
              obtain ⟨f, rfl⟩ : ∃ f, k = m + f := ⟨k - m, by omega⟩
              rw [Nat.add_sub_cancel_left] at HREP
              have hsub : (m : Int) + (f : Int) - (m : Int) = (f : Int) := by omega
              clear hE
              go_wp2_with fail
              go_quiet (fail)
              have hownY : OwnsP (wr.drewN nq) V.heap.size v acc := hown
              have hbvY : Below V.heap.size V (wr.drewN nq) := ⟨hbv.os, hbv.tape, hbv.output, hbv.size, hbv.block⟩
              clear hown hbv
              generalize wr.drewN nq = Y at *
              go_wp2_with (first
                | (at_builtin; refine wpList_append_own _ rfl _ _ 22 rfl V.heap.size 38 i0 (.agg #[.int .i64 0, .int .i64 0]) 2 16 Try.underlying22 hi0 hz0 hz1 hz2 rfl (by decide) _ _ _ rfl (World.ownsRow.alloc hownY _) ⟨Y.heap.size, 0, none⟩ 1 1 [.int .i64 (m : Nat), .int .i64 (f : Nat)] rfl rfl (cell_two_new _ _ _ _) (fun u hu => by simp at hu; rcases hu with rfl | rfl <;> rfl) (by unfold maxLen; omega) (by omega) (by have := hbvY.size; simp; omega) ?_; intro v5 w5 hown5 hgrow5 _))
              go_roundw
              case rel =>
                refine ⟨m + 1, _, by omega, by go_num, rfl, ?_, ?_⟩
                · rw [HRF.out, HREP.out]
                  unfold OwnsP
                  rw [prCells_snoc, List.length_append]
                  exact hown5
                · exact (hbvY.alloc hbvY.size (.cells #[.int .i64 (m : Nat), .int .i64 (f : Nat)] 38)).grown hgrow5 (by have := hbvY.size; simp; omega) (fun j hj => (World.ownsRow.lt hownY j hj).1)
              case measure => simp [intOf] <;> omega
            · have e1 := ba_ne hE
              have HNE := (show Hid (∀ j, m + 1 ≤ j → j < k + 1 → p j ≠ p m) from fun j h1 h2 e => by
                by_cases hjk : j = k
                · subst hjk; exact hE ((HP.out m j).2 e.symm)
                · exact HNO.out j h1 (by omega) e)
              clear hE
              go_wp2_with fail
              go_quiet (fail)
              go_wp2
              go_roundw
              case rel => exact ⟨k + 1, by omega, by omega, by go_num, rfl, HNE.out, hown, ⟨hbv.os, hbv.tape, hbv.output, hbv.size, hbv.block⟩⟩
              case measure => simp [intOf] <;> omega
          · have hklI : ¬ (k : Int) ≤ (M : Int) := by omega
            have HREP := (show Hid (rep p (M + 1) m = []) from rep_none (nx_no (fun i h1 h2 => HNO.out i h1 (by omega))))
            go_wp2
            go_roundw
            case rel => exact ⟨m + 1, _, by omega, by go_num, rfl, by rw [HRF.out, HREP.out, List.append_nil]; exact hown, hbv⟩
            case measure => simp [intOf] <;> omega
      · obtain rfl : m = M := by omega
        have hbw := hb2.trans (hbv.mono hVs)
        obtain ⟨c0, c1, f0, f1, hsz⟩ := Kit.two_cells hbw
        go_wp2
        have q := Kit.read_two (.int .i64 0) (.int .i64 0) c0 c1
        refine bodyPost_ret (v := .tuple #[v, .agg #[.int .i64 0, .int .i64 0]]) (by simp [results, Try.results7, go_sem, q.1, q.2]) rfl ⟨_, rfl, ?_, ?_⟩
        · rcases hown.form with ⟨rfl, hnil⟩ | ⟨g, cap, cur, rfl, hg, hr, hlm, hpr⟩
          · rw [hnil]; exact PairsAt.nil _ _ _
          · exact PairsAt.of_prs ((hr.setOther ⟨w.heap.size, 0, none⟩ _ (by show g ≠ w.heap.size; omega)).setOther ⟨w.heap.size, 1, none⟩ _ (by show g ≠ w.heap.size; omega)) hlm hpr
        · exact Kit.below_two hbw _ _
/-- What the document answers. -/
theorem rrep_any (t : ByteArray) (n : Int) (hn : n ≤ 9223372036854775807) (w : World) : Calls Try.prog 7 #[.string t, .int .i64 n] w fun e w' => ∃ v, e = .returned (.tuple #[v, .agg #[.int .i64 (rpE t.data.toList n), .int .i64 (rpAt t.data.toList)]]) ∧ PairsAt w' v (rpS t.data.toList n).length (fun k => (((rpS t.data.toList n).getD k (0, 0)).1 : Nat)) (fun k => (((rpS t.data.toList n).getD k (0, 0)).2 : Nat)) ∧ Below w.heap.size w w' := by
  have hsl := Pl.size_len t
  unfold rpS rpE rpAt
  rcases ck_cases t.data.toList with ⟨b1, b2, b3, b4⟩ | b1
  · have b0 : ¬ (ckE t.data.toList ≠ 0) := fun h => h b1
    simp only [if_neg b0]
    by_cases h1 : 4096 < t.data.toList.length
    · simp only [if_pos h1]
      rw [if_neg (by decide)]
      refine (rrep_bad2 t n b1 b2 (by omega) w).mono ?_
      rintro e W ⟨rfl, hb⟩
      exact ⟨_, rfl, PairsAt.nil _ _ _, hb⟩
    · simp only [if_neg h1]
      by_cases h2 : n < 1
      · simp only [if_pos h2]
        rw [if_neg (by decide)]
        refine (rrep_bad3 t n b1 b2 (by omega) h2 w).mono ?_
        rintro e W ⟨rfl, hb⟩
        exact ⟨_, rfl, PairsAt.nil _ _ _, hb⟩
      · simp only [if_neg h2]
        obtain ⟨m, rfl⟩ : ∃ m : Nat, n = m := ⟨n.toNat, by omega⟩
        rw [if_pos trivial, Int.toNat_natCast]
        exact rrep_ok t m (by omega) (by omega) b1 b2 (by omega) w
  · have b0 : ckE t.data.toList ≠ 0 := by simpa using b1
    simp only [if_pos b0]
    rw [if_neg b0]
    refine (rrep_bad1 t n b1 w).mono ?_
    rintro e W ⟨rfl, hb⟩
    exact ⟨_, rfl, PairsAt.nil _ _ _, hb⟩
end Go.Proofs.Ytlgijlfojkpeaad
