/-
  PermTurns: for every 26 numbers the statement's function returns true, and its argument reads as before. No condition.
-/
import Derived.Test.YtphlnfmpbbefnabPLoc
import Derived.Test.YtphlnfmpbbefnabPTurn
namespace Go.Proofs.Ytphlnfmpbbefnab
open Go.RowKit PK

theorem one_boxed {w W1 : World} {T : TypeId} {f : Nat → Int} (hb : Below (w.alloc (.cells (ints 26 f) T)).heap.size (w.alloc (.cells (ints 26 f) T)) W1) : RowAt W1 w.heap.size T (ints 26 f) ∧ Below w.heap.size w W1 ∧ w.heap.size + 1 ≤ W1.heap.size := by
  have hs := hb.size
  simp at hs
  exact ⟨RowAt.below (RowAt.new w _ _) hb (by simp), ((Below.refl _ _).alloc (Nat.le_refl _) _).trans (hb.mono (by simp)), hs⟩

set_option maxHeartbeats 1000000 in
theorem print_bad (f : Nat → Int) (E : Int) (hE : (E != 0) = true) (hw : Pm.firstBad (fun _ => f) 1 = E) (w : World) :
    Calls Try.prog 11 #[.agg (ints 26 f)] w fun e w' => e = .returned (.tuple #[.string ⟨#[]⟩, .int .i64 E]) ∧ Below w.heap.size w w' := by
  have H0 : Hid (Pm.firstBad (fun _ => f) 1 = E) := hw
  clear hw
  go_enter Try.func11, Try.ntmps11
  go_wp2_with (first
    | refine wpList_load_row rfl 23 _ rfl w.heap.size rfl 23 (ints 26 f) (0, 0) _ (RowAt.new w _ _) Try.underlying23 rfl (by rw [ints_size]; exact info_perm) ?_
    | refine wpList_build1 rfl 57 23 _ rfl 26 f rfl (by decide) Try.underlying57 zero_perm (by decide) ?_)
  refine (firstWrong_any (fun _ => f) 1 (by decide) _ _ (by simp) (range_one (RowAt.newAt (by simp)))).mono ?_
  rintro e W1 ⟨rfl, hb0⟩
  obtain ⟨r1, hb1, hs1⟩ := after0 hb0
  clear hb0
  rw [H0.out]
  go_wp2
  go_ret2
  exact ⟨rfl, hb1⟩

theorem read_print (p : Nat → Nat) (hp : Pm.IsPerm p) (w : World) : Calls Try.prog 12 #[.string ⟨(wrAll (Pm.cycs p 26)).toArray⟩] w fun e w' => e = .returned (.tuple #[.agg (ints 26 (Pm.up p)), .agg #[.int .i64 0, .int .i64 0]]) ∧ Below w.heap.size w w' := by
  obtain ⟨q, hq, hqp⟩ := print_read hp
  have hl := wrAll_len (Pm.cycs p 26) (fun l hl => (cycs_each hp l hl).2)
  have hc := Pm.cycs_len p 26
  have hsz : (⟨(wrAll (Pm.cycs p 26)).toArray⟩ : ByteArray).size = (wrAll (Pm.cycs p 26)).length := by simp [ByteArray.size]
  have := read_any ⟨(wrAll (Pm.cycs p 26)).toArray⟩ (by rw [hsz]; unfold maxLen; omega) w
  have e1 : (⟨(wrAll (Pm.cycs p 26)).toArray⟩ : ByteArray).data.toList = wrAll (Pm.cycs p 26) := by simp
  have e2 : ints 26 (Pm.up q) = ints 26 (Pm.up p) := ints_ext fun i hi => by simp only [Pm.up]; rw [hqp i hi]
  rw [e1, hq, e2] at this
  exact this

set_option maxHeartbeats 1000000 in
theorem law_turns_bad (f : Nat → Int) (E : Int) (hE : (E != 0) = true) (hw : Pm.firstBad (fun _ => f) 1 = E) (w : World) :
    Calls Try.prog 4 #[.agg (ints 26 f)] w fun e w' => e = .returned (.bool true) ∧ Below w.heap.size w w' := by
  have HP : Hid (∀ W, Calls Try.prog 11 #[.agg (ints 26 f)] W fun e w' => e = .returned (.tuple #[.string ⟨#[]⟩, .int .i64 E]) ∧ Below W.heap.size W w') := fun W => print_bad f E hE hw W
  clear hw
  go_enter Try.func4, Try.ntmps4
  go_wp2_with fail
  refine (alive_any _).mono ?_
  rintro e W1 ⟨rfl, hb0⟩
  obtain ⟨rp, hb1, hs1⟩ := one_boxed hb0
  clear hb0
  go_wp2_with (refine load_perm rfl _ rfl _ rfl _ rp ?_)
  refine (HP.out _).mono ?_
  rintro e W2 ⟨rfl, hb2⟩
  go_wp2
  go_ret
  exact ⟨rfl, hb1.trans (hb2.mono (by omega))⟩

set_option maxHeartbeats 2000000 in
theorem law_turns_ok (p : Nat → Nat) (hp : Pm.IsPerm p) (w : World) :
    Calls Try.prog 4 #[.agg (ints 26 (Pm.up p))] w fun e w' => e = .returned (.bool true) ∧ Below w.heap.size w w' := by
  have hre := refl_perm (Pm.up p)
  have hmg : Try.prog.eqGuardType Try.prog.depth 23 = false := by kernel_rfl
  go_enter Try.func4, Try.ntmps4
  go_wp2_with fail
  refine (alive_any _).mono ?_
  rintro e W1 ⟨rfl, hb0⟩
  obtain ⟨rp, hb1, hs1⟩ := one_boxed hb0
  clear hb0
  go_wp2_with (refine load_perm rfl _ rfl _ rfl _ rp ?_)
  refine (print_ok p hp _).mono ?_
  rintro e W2 ⟨rfl, hb2⟩
  go_wp2_with fail
  refine (read_print p hp _).mono ?_
  rintro e W3 ⟨rfl, hb3⟩
  have hs2 := hb2.size
  have hs3 := hb3.size
  have hb3' := (hb1.trans (hb2.mono (by omega))).trans (hb3.mono (by omega))
  have rp3 := (rp.below hb2 rp.lt).below hb3 (by have := rp.lt; omega)
  clear rp hb1 hb2 hb3
  have rpA := (rp3.alloc (.cells (ints 26 (Pm.up p)) 23)).alloc (.cells #[.int .i64 0, .int .i64 0] 37)
  have rqA := (RowAt.new W3 23 (ints 26 (Pm.up p))).alloc (.cells #[.int .i64 0, .int .i64 0] 37)
  go_wp2_with (first
    | (refine wpList_store_row rfl 23 _ _ rfl W3.heap.size (ints 26 (Pm.up p)) rfl rfl 23 _ ((RowAt.new W3 _ _).alloc _) (by rw [ints_size]; exact info_perm) (by rw [ints_size]; rfl) (ints_one _ _) ?_; rw [setRow_under])
    | (refine wpList_store_row rfl 37 _ _ rfl (W3.heap.size + 1) #[.int .i64 0, .int .i64 0] rfl rfl 37 _ (RowAt.newAt (by simp)) info_fault rfl (two_one _ _) ?_; rw [setRow_top])
    | refine load_perm rfl _ rfl _ rfl _ rqA ?_
    | refine load_perm rfl _ rfl _ rfl _ rpA ?_)
  refine (type_ok p hp _).mono ?_
  rintro e W4 ⟨v, rfl, hown, hb4⟩
  have hs4 := hb4.size
  simp only [World.size_alloc] at hs4
  have hbf : Below w.heap.size w W4 := ((hb3'.alloc (by omega) _).alloc (by simp; omega) _).trans (hb4.mono (by simp; omega))
  clear hb4 rpA rqA rp3 hb3' hre hmg
  have HSum := type_sum hp
  have HSort := tyDown_sorted (cnt (Pm.cycs p 26)) 26 (Nat.le_refl _)
  obtain ⟨L, hL⟩ : ∃ L, L = typeOf p := ⟨_, rfl⟩
  have HSu : Hid (L.sum = 26) := by rw [Hid, hL]; exact HSum
  have HSo : Hid (L.Pairwise (fun a b => b ≤ a)) := by rw [Hid, hL]; exact HSort
  rw [← hL] at hown
  clear hL HSum HSort
  have hLpos : 0 < L.length := Nat.pos_of_ne_zero fun h0 => by have := HSu.out; rw [List.eq_nil_of_length_eq_zero h0] at this; simp at this
  obtain ⟨g, cap, rfl⟩ := own_form hown hLpos
  have HC : Hid (∀ j x, L[j]? = some x → W4.cell? ⟨g, j, none⟩ = some (.int .i64 (x : Nat))) := fun j x hx => by
    have h1 : L.length = L.length := rfl
    rw [World.ownsRow.cellAt hown j (by have := (List.getElem?_eq_some_iff.1 hx).1; omega)]
    simp [nums, hx]
  have hLmax : L.length ≤ 9223372036854775807 := by
    rcases hown.2 with ⟨h5, _⟩ | ⟨g', cap', cur, h5, _, _, h6, h7, _⟩
    · cases h5
    · unfold maxLen at h7; omega
  clear hown
  obtain ⟨n, hn⟩ : ∃ n, n = L.length := ⟨_, rfl⟩
  have HN : Hid (n = L.length) := hn
  rw [← hn] at hLpos hLmax ⊢
  clear hn
  go_wp2
  go_loop [8, 42] (fun s i => ∃ k : Nat, k ≤ n ∧ i = .int .i64 k ∧ s = .int .i64 ((L.take k).sum : Nat)) (fun _ i => (n - intOf i).toNat)
  case atStart => exact ⟨0, by omega, rfl, rfl⟩
  case round =>
    obtain ⟨k, hk, rfl, rfl⟩ := hrel
    have hsum : ∀ j, (L.take j).sum ≤ 26 := fun j => by
      have h1 : L = L.take j ++ L.drop j := (List.take_append_drop _ _).symm
      have h2 := HSu.out
      rw [h1, List.sum_append] at h2
      omega
    by_cases hlt : k < n
    · obtain ⟨x, hx⟩ : ∃ x, L[k]? = some x := ⟨L[k]'(by rw [← HN.out]; exact hlt), List.getElem?_eq_getElem _⟩
      have hc := HC.out k x hx
      have hts : (L.take (k + 1)).sum = (L.take k).sum + x := by
        obtain ⟨h7, h8⟩ := List.getElem?_eq_some_iff.1 hx
        rw [List.take_succ_eq_append_getElem h7, h8, List.sum_append]
        simp
      have hb1 := hsum (k + 1)
      rw [hts] at hb1
      have HTS : Hid ((L.take (k + 1)).sum = (L.take k).sum + x) := hts
      clear hts
      by_cases h0 : 0 < k
      · obtain ⟨y, hy⟩ : ∃ y, L[k - 1]? = some y := ⟨L[k - 1]'(by rw [← HN.out]; omega), List.getElem?_eq_getElem _⟩
        have hcy := HC.out (k - 1) y hy
        have hxy : ¬ (y < x) := by
          obtain ⟨h7, h8⟩ := List.getElem?_eq_some_iff.1 hx
          obtain ⟨h9, h10⟩ := List.getElem?_eq_some_iff.1 hy
          have := List.pairwise_iff_getElem.1 HSo.out (k - 1) k h9 h7 (by omega)
          rw [h8, h10] at this
          omega
        clear hx hy hsum
        obtain ⟨m, hm⟩ : ∃ m, k = m + 1 := ⟨k - 1, by omega⟩
        subst hm
        rw [Nat.add_sub_cancel] at hcy
        generalize (L.take (m + 1)).sum = S at *
        go_wp2
        exact ⟨⟨m + 1 + 1, by omega, by go_num, by rw [HTS.out]; go_num⟩, by simp [intOf]; omega⟩
      · clear hx hsum
        generalize (L.take k).sum = S at *
        have hk0 : k = 0 := by omega
        subst hk0
        go_wp2
        exact ⟨⟨0 + 1, by omega, by go_num, by rw [HTS.out]; go_num⟩, by simp [intOf]; omega⟩
    · have HE : Hid ((L.take k).sum = 26) := by rw [Hid, List.take_of_length_le (by have := HN.out; omega)]; exact HSu.out
      rw [HE.out]
      go_wp2
      go_ret
      exact ⟨rfl, hbf⟩
end Go.Proofs.Ytphlnfmpbbefnab
