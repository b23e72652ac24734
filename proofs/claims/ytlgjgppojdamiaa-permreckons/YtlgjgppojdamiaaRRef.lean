/-
  Contracts of the document's own Wrong, Two, From, Long, First.
-/
import Derived.Test.YtlgjgppojdamiaaPLoc
import Derived.Test.YtlgjgppojdamiaaPCycF
namespace Go.Proofs.Ytlgjgppojdamiaa
open Go.RowKit PK

theorem run_slice_perm (b k : Nat) (hk : k ≤ 26) (W : World) : (Instr.sliceAt 35 (.pointer (some ⟨b, 0, none⟩)) none (some (.int .i64 (k : Int))) none).run Try.prog W = .ok (.slice (some ⟨b, 0, none⟩) k 26) W := by
  have ha : Try.prog.arrayLen 35 = 26 := by kernel_rfl
  have he : Try.prog.elem 35 = 3 := by kernel_rfl
  have h1 := run_sliceAt_array_h (P := Try.prog) W 35 ⟨b, 0, none⟩ (by rw [ha, he]; exact Try.underlying35) .i64 (k : Int) (by omega) (by rw [ha]; omega)
  rw [h1, ha, he]
  cases hq : Try.prog.info? 3 with
  | none => have := info_int; simp [hq] at this
  | some i =>
    have hs : i.size = 1 := by have := info_int; simpa [hq] using this
    simp [sizeOf, typeInfo, hq, hs, slicedAt, Addr.add_mid]

set_option maxHeartbeats 1000000 in
theorem rwrong_any (f : Nat → Int) (w : World) : Calls Try.prog 19 #[.agg (ints 26 f)] w fun e w' => e = .returned (.int .i64 (Pm.wrong f)) ∧ Below w.heap.size w w' := by
  go_enter Try.func19, Try.ntmps19
  go_wp2_with (refine wpList_load_row rfl 35 _ rfl w.heap.size rfl 35 (ints 26 f) (0, 0) _ (RowAt.new w _ _) Try.underlying35 rfl (by rw [ints_size]; exact info_perm) ?_)
  have hrow := RowAt.new w 35 (ints 26 f)
  have hb : Below w.heap.size w (w.alloc (.cells (ints 26 f) 35)) := (Below.refl _ _).alloc (Nat.le_refl _) _
  generalize w.alloc (.cells (ints 26 f) 35) = W at hrow hb ⊢
  go_loop [8] (fun i => ∃ k : Nat, k ≤ 26 ∧ i = .int .i64 k ∧ Hid (Pm.wrongN f k = 0)) (fun i => (26 - intOf i).toNat)
  case atStart => exact ⟨0, by omega, rfl, rfl⟩
  case round =>
    obtain ⟨k, hk, rfl, HN⟩ := hrel
    by_cases hlt : k < 26
    · have hg := run_index_ints 35 3 26 Try.underlying35 Try.underlying3 info_int f k hlt
      by_cases hr : f k < 0 ∨ 26 ≤ f k
      · have H : Hid (Pm.wrong f = 3) := by rw [Hid, Pm.wrong_stop f k HN.out (by rw [Pm.bad_range f k hr]; decide) hlt, Pm.bad_range f k hr]
        rcases hr with hr | hr
        · go_wp2
          go_ret
          exact ⟨ret_int H.out.symm, hb⟩
        · have hr0 : ¬ f k < 0 := by omega
          have hr1 : 25 < f k := by omega
          go_wp2
          go_ret
          exact ⟨ret_int H.out.symm, hb⟩
      · obtain ⟨n, hn⟩ : ∃ n : Nat, f k = n := ⟨(f k).toNat, by omega⟩
        have hn26 : n < 26 := by omega
        have hn25 : ¬ (25 < n) := by omega
        have HM : Hid (f k = n) := hn
        rw [hn] at hg
        clear hr hn
        have hsl := run_slice_perm w.heap.size k (by omega)
        go_wp2
        clear hsl
        go_loop [21] (fun i => ∃ m : Nat, m ≤ k ∧ i = .int .i64 m ∧ Hid (Pm.seen f m n = false)) (fun i => (k - intOf i).toNat)
        case atStart => exact ⟨0, by omega, rfl, rfl⟩
        case round =>
          obtain ⟨m, hm, rfl, HS⟩ := hrel
          by_cases hmk : m < k
          · have hc := hrow.cell (ints_get f (i := m) (by omega))
            have hss := Pm.seen_succ f m n
            rw [HS.out, Bool.false_or] at hss
            cases he : (f m == (n : Int))
            · rw [he] at hss
              have HSS : Hid (Pm.seen f (m + 1) n = false) := hss
              clear hss
              go_wp2
              exact ⟨⟨m + 1, by omega, by go_num, HSS⟩, by simp [intOf]; omega⟩
            · have hsk : Pm.seen f k n = true := by
                unfold Pm.seen
                simp
                exact ⟨m, hmk, eq_of_beq he⟩
              have H8 : Hid (Pm.wrong f = 8) := by
                have h8 := Pm.bad_fit f k n HM.out hn26 hsk
                rw [Hid, Pm.wrong_stop f k HN.out (by rw [h8]; decide) hlt, h8]
              clear hss hsk
              go_wp2
              go_ret
              exact ⟨ret_int H8.out.symm, hb⟩
          · have HMK : Hid (m = k) := by rw [Hid]; omega
            go_wp2
            exact ⟨⟨k + 1, by omega, by go_num, by rw [Hid, Pm.wrongN_succ f k HN.out, Pm.bad_ok f k n HM.out hn26 (by rw [← HMK.out]; exact HS.out)]⟩, by simp [intOf]; omega⟩
    · have HK : Hid (k = 26) := by rw [Hid]; omega
      go_wp2
      go_ret
      exact ⟨ret_int (Pm.wrong_end f k HN.out HK.out).symm, hb⟩

set_option maxHeartbeats 1000000 in
theorem rlong_any (p : Nat → Nat) (hp : Pm.IsPerm p) (i : Nat) (hi : i < 26) (w : World) :
    Calls Try.prog 50 #[.agg (ints 26 (Pm.up p)), .int .i64 (i : Nat)] w fun e w' => e = .returned (.int .i64 (Pm.len p i : Nat)) ∧ Below w.heap.size w w' := by
  have hlen := Pm.len_is hp i hi
  go_enter Try.func50, Try.ntmps50
  have hc0 : (ints 26 (Pm.up p))[i]? = some (.int .i64 (p i : Nat)) := ints_get (Pm.up p) hi
  go_wp2
  have hrow := RowAt.new w 35 (ints 26 (Pm.up p))
  have hb : Below w.heap.size w (w.alloc (.cells (ints 26 (Pm.up p)) 35)) := (Below.refl _ _).alloc (Nat.le_refl _) _
  generalize w.alloc (.cells (ints 26 (Pm.up p)) 35) = W at hrow hb ⊢
  clear hc0
  go_loop [5, 6] (fun n a => ∃ m : Nat, 1 ≤ m ∧ m ≤ Pm.len p i ∧ n = .int .i64 m ∧ a = .int .i64 (Pm.iter p m i : Nat)) (fun n _ => (27 - intOf n).toNat)
  case atStart => exact ⟨1, Nat.le_refl _, hlen.pos, rfl, rfl⟩
  case round =>
    obtain ⟨m, hm1, hm2, rfl, rfl⟩ := hrel
    have hx := Pm.iter_lt hp i hi m
    have hle := hlen.le
    by_cases hlt : m < Pm.len p i
    · have hne : ((Pm.iter p m i : Nat) : Int) ≠ ((i : Nat) : Int) := by have := hlen.min m (by omega) hlt; omega
      have HS : Hid (Pm.iter p (m + 1) i = p (Pm.iter p m i)) := rfl
      have hbne : (((Pm.iter p m i : Nat) : Int) != ((i : Nat) : Int)) = true := by simpa using hne
      have hc := hrow.cell (ints_get (Pm.up p) hx)
      simp only [Pm.up] at hc
      generalize Pm.iter p m i = x at *
      clear hne
      go_wp2
      exact ⟨⟨m + 1, by omega, by omega, by go_num, by rw [HS.out]⟩, by simp [intOf]; omega⟩
    · have HM : Hid (m = Pm.len p i) := by rw [Hid]; omega
      have hret : Pm.iter p m i = i := by rw [HM.out]; exact hlen.ret
      have hbe : (((Pm.iter p m i : Nat) : Int) != ((i : Nat) : Int)) = false := by rw [hret]; simp
      clear hret
      go_wp2
      go_ret
      exact ⟨ret_int (by rw [HM.out]), hb⟩

set_option maxHeartbeats 1000000 in
theorem rfrom_any (p : Nat → Nat) (hp : Pm.IsPerm p) (k : Nat) (hk : k < 26) (w : World) :
    Calls Try.prog 46 #[.agg (ints 26 (Pm.up p)), .int .i64 (k : Nat)] w fun e w' => e = .returned (.int .i64 (Pm.inv p k : Nat)) ∧ Below w.heap.size w w' := by
  obtain ⟨hv1, hv2⟩ := hp.inv_spec k hk
  obtain ⟨v, hv⟩ : ∃ v, v = Pm.inv p k := ⟨_, rfl⟩
  rw [← hv] at hv1 hv2 ⊢
  clear hv
  go_enter Try.func46, Try.ntmps46
  go_wp2_with (refine wpList_load_row rfl 35 _ rfl w.heap.size rfl 35 (ints 26 (Pm.up p)) (0, 0) _ (RowAt.new w _ _) Try.underlying35 rfl (by rw [ints_size]; exact info_perm) ?_)
  have hb : Below w.heap.size w (w.alloc (.cells (ints 26 (Pm.up p)) 35)) := (Below.refl _ _).alloc (Nat.le_refl _) _
  generalize w.alloc (.cells (ints 26 (Pm.up p)) 35) = W at hb ⊢
  have HV : Hid (p v = k) := hv2
  clear hv2
  go_loop [8] (fun i => ∃ m : Nat, m ≤ v ∧ i = .int .i64 m) (fun i => (26 - intOf i).toNat)
  case atStart => exact ⟨0, by omega, rfl⟩
  case round =>
    obtain ⟨m, hm, rfl⟩ := hrel
    have hm26 : m < 26 := by omega
    have hg := run_index_ints 35 3 26 Try.underlying35 Try.underlying3 info_int (Pm.up p) m hm26
    simp only [Pm.up] at hg
    by_cases e : m = v
    · have HE : Hid (m = v) := e
      have he : (((p m : Nat) : Int) == ((k : Nat) : Int)) = true := by rw [e, HV.out]; simp
      clear e
      go_wp2
      go_ret
      exact ⟨ret_int (by rw [HE.out]), hb⟩
    · have he : (((p m : Nat) : Int) == ((k : Nat) : Int)) = false := by
        simp
        intro h2
        exact e (hp.inj m v hm26 hv1 (by rw [HV.out]; omega))
      go_wp2
      exact ⟨⟨m + 1, by omega, by go_num⟩, by simp [intOf]; omega⟩
end Go.Proofs.Ytlgjgppojdamiaa
