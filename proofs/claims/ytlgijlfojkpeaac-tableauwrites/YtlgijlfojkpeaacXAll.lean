/-
  What the document's Write, Read and Key answer, whatever they are asked; TableauWrites, walked.
-/
import Derived.Test.YtlgijlfojkpeaacXKy
namespace Go.Proofs.Ytlgijlfojkpeaac
open Go.RowKit PK Vg

theorem rwrite_any (k : Int) (key t : ByteArray) (w : World) : Calls Try.prog 26 #[.int .i64 k, .string key, .string t] w fun e w' => e = .returned (.tuple #[.string ⟨(wrS k key.data.toList t.data.toList).toArray⟩, .agg #[.int .i64 (lkE k key.data.toList t.data.toList), .int .i64 (lkAt k key.data.toList t.data.toList)]]) ∧ Below w.heap.size w w' := by
  have h1 := Pl.size_len key
  have h2 := Pl.size_len t
  unfold wrS
  rcases lk_cases k key.data.toList t.data.toList with ⟨e1, e2, hk, hn, ha, hb⟩ | e1
  · obtain ⟨n, rfl⟩ : ∃ n : Nat, k = n := ⟨k.toNat, by omega⟩
    have := rwr_ok n key t e1 e2 (by omega) (by omega) ha.2.2 hb.2.2.1 w
    rw [if_pos e1, e1, e2, Int.toNat_natCast]
    exact this
  · rw [if_neg (by simpa using e1)]
    exact rwr_bad k key t e1 w
theorem rread_any (k : Int) (key t : ByteArray) (w : World) : Calls Try.prog 28 #[.int .i64 k, .string key, .string t] w fun e w' => e = .returned (.tuple #[.string ⟨(rdS k key.data.toList t.data.toList).toArray⟩, .agg #[.int .i64 (lkE k key.data.toList t.data.toList), .int .i64 (lkAt k key.data.toList t.data.toList)]]) ∧ Below w.heap.size w w' := by
  have h1 := Pl.size_len key
  have h2 := Pl.size_len t
  unfold rdS
  rcases lk_cases k key.data.toList t.data.toList with ⟨e1, e2, hk, hn, ha, hb⟩ | e1
  · obtain ⟨n, rfl⟩ : ∃ n : Nat, k = n := ⟨k.toNat, by omega⟩
    by_cases h4 : n = 4
    · have := rrd_ok4 n h4 key t e1 e2 (by omega) (by omega) ha.2.2 hb.2.2.1 w
      rw [if_pos e1, e1, e2, Int.toNat_natCast]
      exact this
    · have := rrd_ok3 n h4 key t e1 e2 (by omega) (by omega) ha.2.2 hb.2.2.1 w
      rw [if_pos e1, e1, e2, Int.toNat_natCast]
      exact this
  · rw [if_neg (by simpa using e1)]
    exact rrd_bad k key t e1 w
theorem rkey_any (k n : Int) (t s : ByteArray) (w : World) : Calls Try.prog 30 #[.int .i64 k, .int .i64 n, .string t, .string s] w fun e w' => e = .returned (.tuple #[.string ⟨(kyS k n t.data.toList s.data.toList).toArray⟩, .agg #[.int .i64 (kyE k n t.data.toList s.data.toList), .int .i64 (kyAt k n t.data.toList s.data.toList)]]) ∧ Below w.heap.size w w' := by
  have h1 := Pl.size_len t
  have h2 := Pl.size_len s
  unfold kyS kyE kyAt
  by_cases a1 : k = 4
  · simp only [if_pos a1, if_neg (show ¬ (1 : Int) = 0 by decide)]
    subst a1
    exact rky_auto n t s w
  simp only [if_neg a1]
  by_cases a2 : n < 1 ∨ 256 < n
  · simp only [if_pos a2, if_neg (show ¬ (5 : Int) = 0 by decide)]
    exact rky_long k n a1 a2 t s w
  simp only [if_neg a2]
  by_cases a3 : k < 1 ∨ 4 < k
  · simp only [if_pos a3, if_neg (show ¬ (1 : Int) = 0 by decide)]
    have hl := lk_K k t.data.toList a3
    have := rky_look k n a1 (by omega) t s w (by rw [hl.1]; rfl)
    rw [hl.1, hl.2] at this
    exact this
  simp only [if_neg a3]
  have hl := lk_A k t.data.toList (by omega)
  rcases ck_cases t.data.toList with ⟨b1, b2, b3, b4⟩ | b1
  · have b0 : ¬ (ckE t.data.toList ≠ 0) := fun h => h b1
    simp only [if_neg b0]
    rw [b1, b2] at hl
    rcases ck_cases s.data.toList with ⟨c1, c2, c3, c4⟩ | c1
    · have c0 : ¬ (ckE s.data.toList ≠ 0) := fun h => h c1
      simp only [if_neg c0]
      by_cases d1 : ¬ t.data.toList.length = s.data.toList.length ∨ (t.data.toList.length : Int) < n
      · simp only [if_pos d1, if_neg (show ¬ (8 : Int) = 0 by decide)]
        exact rky_fit k n a1 (by omega) t s w hl ⟨c1, c2⟩ (by omega)
      · simp only [if_neg d1]
        obtain ⟨K, rfl⟩ : ∃ K : Nat, k = K := ⟨k.toNat, by omega⟩
        obtain ⟨N, rfl⟩ : ∃ N : Nat, n = N := ⟨n.toNat, by omega⟩
        simp only [Int.toNat_natCast]
        have hr := rky_run K (by omega) N (by omega) t s w hl ⟨c1, c2⟩ (ls_of b4) (ls_of c4) (by omega) (by omega) (by omega)
        by_cases e1 : writeL K (kyL K t.data.toList s.data.toList N) t.data.toList = s.data.toList
        · rw [if_pos e1, if_pos e1] at hr
          simp only [if_pos e1]
          rw [if_pos trivial]
          exact hr
        · rw [if_neg e1, if_neg e1] at hr
          simp only [if_neg e1]
          rw [if_neg (by decide)]
          exact hr
    · have c0 : ckE s.data.toList ≠ 0 := by simpa using c1
      simp only [if_pos c0]
      rw [if_neg c0]
      exact rky_told k n a1 (by omega) t s w hl c1
  · have b0 : ckE t.data.toList ≠ 0 := by simpa using b1
    simp only [if_pos b0]
    rw [if_neg b0]
    have := rky_look k n a1 (by omega) t s w (by rw [hl.1]; exact b1)
    rw [hl.1, hl.2] at this
    exact this
set_option maxRecDepth 100000 in
set_option maxHeartbeats 4000000 in
theorem writes_any (k : Int) (key t : ByteArray) (n : Int) (s : ByteArray) (w : World) : Calls Try.prog 8 #[.int .i64 k, .string key, .string t, .int .i64 n, .string s] w fun e w' => e = .returned (.bool true) ∧ Below w.heap.size w w' := by
  have H1 := (show Hid (∀ W, Calls Try.prog 25 #[.int .i64 k, .string key, .string t] W fun e w' => e = .returned (.tuple #[.string ⟨(wrS k key.data.toList t.data.toList).toArray⟩, .agg #[.int .i64 (lkE k key.data.toList t.data.toList), .int .i64 (lkAt k key.data.toList t.data.toList)]]) ∧ Below W.heap.size W w') from vwrite_any k key t)
  have H2 := (show Hid (∀ W, Calls Try.prog 26 #[.int .i64 k, .string key, .string t] W fun e w' => e = .returned (.tuple #[.string ⟨(wrS k key.data.toList t.data.toList).toArray⟩, .agg #[.int .i64 (lkE k key.data.toList t.data.toList), .int .i64 (lkAt k key.data.toList t.data.toList)]]) ∧ Below W.heap.size W w') from rwrite_any k key t)
  have H3 := (show Hid (∀ W, Calls Try.prog 27 #[.int .i64 k, .string key, .string t] W fun e w' => e = .returned (.tuple #[.string ⟨(rdS k key.data.toList t.data.toList).toArray⟩, .agg #[.int .i64 (lkE k key.data.toList t.data.toList), .int .i64 (lkAt k key.data.toList t.data.toList)]]) ∧ Below W.heap.size W w') from vread_any k key t)
  have H4 := (show Hid (∀ W, Calls Try.prog 28 #[.int .i64 k, .string key, .string t] W fun e w' => e = .returned (.tuple #[.string ⟨(rdS k key.data.toList t.data.toList).toArray⟩, .agg #[.int .i64 (lkE k key.data.toList t.data.toList), .int .i64 (lkAt k key.data.toList t.data.toList)]]) ∧ Below W.heap.size W w') from rread_any k key t)
  have H5 := (show Hid (∀ W, Calls Try.prog 29 #[.int .i64 k, .int .i64 n, .string t, .string s] W fun e w' => e = .returned (.tuple #[.string ⟨(kyS k n t.data.toList s.data.toList).toArray⟩, .agg #[.int .i64 (kyE k n t.data.toList s.data.toList), .int .i64 (kyAt k n t.data.toList s.data.toList)]]) ∧ Below W.heap.size W w') from vkey_any k n t s)
  have H6 := (show Hid (∀ W, Calls Try.prog 30 #[.int .i64 k, .int .i64 n, .string t, .string s] W fun e w' => e = .returned (.tuple #[.string ⟨(kyS k n t.data.toList s.data.toList).toArray⟩, .agg #[.int .i64 (kyE k n t.data.toList s.data.toList), .int .i64 (kyAt k n t.data.toList s.data.toList)]]) ∧ Below W.heap.size W w') from rkey_any k n t s)
  generalize (⟨(wrS k key.data.toList t.data.toList).toArray⟩ : ByteArray) = R1 at *
  generalize (⟨(rdS k key.data.toList t.data.toList).toArray⟩ : ByteArray) = R2 at *
  generalize (⟨(kyS k n t.data.toList s.data.toList).toArray⟩ : ByteArray) = R3 at *
  generalize lkE k key.data.toList t.data.toList = E at *
  generalize lkAt k key.data.toList t.data.toList = A at *
  generalize kyE k n t.data.toList s.data.toList = F at *
  generalize kyAt k n t.data.toList s.data.toList = B at *
  go_enter Try.func8, Try.ntmps8
  go_wp2_with fail
  refine (H1.out _).mono ?_
  rintro e W1 ⟨rfl, hb1⟩
  have d1 := hb1.alloc hb1.size (.cells #[.int .i64 E, .int .i64 A] 42)
  have r1 := RowAt.new W1 42 #[.int .i64 E, .int .i64 A]
  have l1 : w.heap.size ≤ W1.heap.size := hb1.size
  clear hb1 H1
  go_wp2_with fail
  refine (H2.out _).mono ?_
  rintro e W2 ⟨rfl, hb2⟩
  have d2 := (d1.trans (hb2.mono d1.size)).alloc (by have := d1.size; have := hb2.size; omega) (.cells #[.int .i64 E, .int .i64 A] 42)
  have s1 := (r1.below hb2 r1.lt).alloc (.cells #[.int .i64 E, .int .i64 A] 42)
  have t1 := RowAt.new W2 42 #[.int .i64 E, .int .i64 A]
  have l2 : W1.heap.size + 1 ≤ W2.heap.size := by have := hb2.size; simpa using this
  have x1 := s1.cell (i := 0) rfl
  have x2 := s1.cell (i := 1) rfl
  clear hb2 H2 d1 r1
  go_wp2_with fail
  refine (H3.out _).mono ?_
  rintro e W3 ⟨rfl, hb3⟩
  have d3 := d2.trans (hb3.mono d2.size)
  have s2 := s1.below hb3 s1.lt
  have t2 := t1.below hb3 t1.lt
  clear hb3 H3 d2 s1 t1 x1 x2
  have x1 := s2.cell (i := 0) rfl
  have x2 := s2.cell (i := 1) rfl
  have x3 := s2.frozen 0
  have x4 := s2.frozen 1
  have s3 : RowAt ((W3.setCell ⟨W1.heap.size, 0, none⟩ (.int .i64 E)).setCell ⟨W1.heap.size, 1, none⟩ (.int .i64 A)) W1.heap.size 42 #[.int .i64 E, .int .i64 A] := (s2.set 0 (.int .i64 E)).set 1 (.int .i64 A)
  have t3 := (t2.setOther ⟨W1.heap.size, 0, none⟩ (.int .i64 E) (by show W2.heap.size ≠ W1.heap.size; omega)).setOther ⟨W1.heap.size, 1, none⟩ (.int .i64 A) (by show W2.heap.size ≠ W1.heap.size; omega)
  have d4 := (d3.setCell (p := ⟨W1.heap.size, 0, none⟩) l1 (.int .i64 E)).setCell (p := ⟨W1.heap.size, 1, none⟩) l1 (.int .i64 A)
  go_wp2_with fail
  refine (H4.out _).mono ?_
  rintro e W4 ⟨rfl, hb4⟩
  have d5 := d4.trans (hb4.mono d4.size)
  have s4 := s3.below hb4 s3.lt
  have t4 := t3.below hb4 t3.lt
  clear hb4 H4 d3 d4 s2 s3 t2 t3 x1 x2 x3 x4
  have y1 := t4.cell (i := 0) rfl
  have y2 := t4.cell (i := 1) rfl
  have y3 := t4.frozen 0
  have y4 := t4.frozen 1
  have t5 : RowAt ((W4.setCell ⟨W2.heap.size, 0, none⟩ (.int .i64 E)).setCell ⟨W2.heap.size, 1, none⟩ (.int .i64 A)) W2.heap.size 42 #[.int .i64 E, .int .i64 A] := (t4.set 0 (.int .i64 E)).set 1 (.int .i64 A)
  have s5 := (s4.setOther ⟨W2.heap.size, 0, none⟩ (.int .i64 E) (by show W1.heap.size ≠ W2.heap.size; omega)).setOther ⟨W2.heap.size, 1, none⟩ (.int .i64 A) (by show W1.heap.size ≠ W2.heap.size; omega)
  have d6 := (d5.setCell (p := ⟨W2.heap.size, 0, none⟩) (by show _ ≤ W2.heap.size; omega) (.int .i64 E)).setCell (p := ⟨W2.heap.size, 1, none⟩) (by show _ ≤ W2.heap.size; omega) (.int .i64 A)
  have z1 := s5.cell (i := 0) rfl
  have z2 := s5.cell (i := 1) rfl
  have z3 := t5.cell (i := 0) rfl
  have z4 := t5.cell (i := 1) rfl
  clear d5 s4 t4
  go_wp2_with fail
  refine (H5.out _).mono ?_
  rintro e W5 ⟨rfl, hb5⟩
  have d7 := d6.trans (hb5.mono d6.size)
  have s6 := s5.below hb5 s5.lt
  have t6 := t5.below hb5 t5.lt
  clear hb5 H5 d6 s5 t5 y1 y2 y3 y4 z1 z2 z3 z4
  have x1 := s6.cell (i := 0) rfl
  have x2 := s6.cell (i := 1) rfl
  have x3 := s6.frozen 0
  have x4 := s6.frozen 1
  have s7 : RowAt ((W5.setCell ⟨W1.heap.size, 0, none⟩ (.int .i64 F)).setCell ⟨W1.heap.size, 1, none⟩ (.int .i64 B)) W1.heap.size 42 #[.int .i64 F, .int .i64 B] := (s6.set 0 (.int .i64 F)).set 1 (.int .i64 B)
  have t7 := (t6.setOther ⟨W1.heap.size, 0, none⟩ (.int .i64 F) (by show W2.heap.size ≠ W1.heap.size; omega)).setOther ⟨W1.heap.size, 1, none⟩ (.int .i64 B) (by show W2.heap.size ≠ W1.heap.size; omega)
  have d8 := (d7.setCell (p := ⟨W1.heap.size, 0, none⟩) l1 (.int .i64 F)).setCell (p := ⟨W1.heap.size, 1, none⟩) l1 (.int .i64 B)
  go_wp2_with fail
  refine (H6.out _).mono ?_
  rintro e W6 ⟨rfl, hb6⟩
  have d9 := d8.trans (hb6.mono d8.size)
  have s8 := s7.below hb6 s7.lt
  have t8 := t7.below hb6 t7.lt
  clear hb6 H6 d7 d8 s6 s7 t6 t7 x1 x2 x3 x4
  have y1 := t8.cell (i := 0) rfl
  have y2 := t8.cell (i := 1) rfl
  have y3 := t8.frozen 0
  have y4 := t8.frozen 1
  have t9 : RowAt ((W6.setCell ⟨W2.heap.size, 0, none⟩ (.int .i64 F)).setCell ⟨W2.heap.size, 1, none⟩ (.int .i64 B)) W2.heap.size 42 #[.int .i64 F, .int .i64 B] := (t8.set 0 (.int .i64 F)).set 1 (.int .i64 B)
  have s9 := (s8.setOther ⟨W2.heap.size, 0, none⟩ (.int .i64 F) (by show W1.heap.size ≠ W2.heap.size; omega)).setOther ⟨W2.heap.size, 1, none⟩ (.int .i64 B) (by show W1.heap.size ≠ W2.heap.size; omega)
  have dA := (d9.setCell (p := ⟨W2.heap.size, 0, none⟩) (by show _ ≤ W2.heap.size; omega) (.int .i64 F)).setCell (p := ⟨W2.heap.size, 1, none⟩) (by show _ ≤ W2.heap.size; omega) (.int .i64 B)
  have z1 := s9.cell (i := 0) rfl
  have z2 := s9.cell (i := 1) rfl
  have z3 := t9.cell (i := 0) rfl
  have z4 := t9.cell (i := 1) rfl
  clear d9 s8 t8 s9 t9
  go_wp2
  go_ret
  exact ⟨rfl, dA⟩
end Go.Proofs.Ytlgijlfojkpeaac
