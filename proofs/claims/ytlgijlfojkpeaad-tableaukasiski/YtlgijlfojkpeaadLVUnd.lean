/-
  TableauUndone, walked.
-/
import Derived.Test.YtlgijlfojkpeaadVAll
namespace Go.Proofs.Ytlgijlfojkpeaad
open Go.RowKit PK Vg

theorem ba_list (s : ByteArray) : (⟨s.data.toList.toArray⟩ : ByteArray) = s := by cases s; simp
set_option maxRecDepth 100000 in
set_option maxHeartbeats 2000000 in
theorem und_bad (k : Int) (key t : ByteArray) (hE : (lkE k key.data.toList t.data.toList != 0) = true) (w : World) : Calls Try.prog 4 #[.int .i64 k, .string key, .string t] w fun e w' => e = .returned (.bool true) ∧ Below w.heap.size w w' := by
  have HA := (show Hid (∀ W, Calls Try.prog 11 #[] W fun e w' => e = .returned (.bool true) ∧ Below W.heap.size W w') from valive_any)
  have HW := (show Hid (∀ W, Calls Try.prog 12 #[.int .i64 k, .string key, .string t] W fun e w' => e = .returned (.tuple #[.string ⟨#[]⟩, .agg #[.int .i64 (lkE k key.data.toList t.data.toList), .int .i64 (lkAt k key.data.toList t.data.toList)]]) ∧ Below W.heap.size W w') from fun W => vwr_bad k key t hE W)
  generalize lkE k key.data.toList t.data.toList = E at *
  generalize lkAt k key.data.toList t.data.toList = A at *
  go_enter Try.func4, Try.ntmps4
  go_wp2_with fail
  refine (HA.out _).mono ?_
  rintro e W0 ⟨rfl, hb0⟩
  go_wp2_with fail
  refine (HW.out _).mono ?_
  rintro e W1 ⟨rfl, hb1⟩
  have hb := (hb0.trans (hb1.mono hb0.size)).alloc (by have := hb0.size; have := hb1.size; omega) (.cells #[.int .i64 E, .int .i64 A] 25)
  clear hb0 hb1
  go_wp2
  go_ret
  exact ⟨rfl, hb⟩
/-- The beginning, up to what Read has told. -/
structure UAt (w W : World) (b : Nat) : Prop where
  row : RowAt W b 25 #[.int .i64 0, .int .i64 0]
  below : Below w.heap.size w W
  le : w.heap.size ≤ b
theorem UAt.step {w W W' : World} {b : Nat} (h : UAt w W b) (hb : Below W.heap.size W W') : UAt w W' b := ⟨h.row.below hb h.row.lt, h.below.trans (hb.mono h.below.size), h.le⟩
theorem UAt.set {w W : World} {b : Nat} (h : UAt w W b) : UAt w ((W.setCell ⟨b, 0, none⟩ (.int .i64 0)).setCell ⟨b, 1, none⟩ (.int .i64 0)) b :=
  ⟨(h.row.set 0 (.int .i64 0)).set 1 (.int .i64 0), (h.below.setCell (p := ⟨b, 0, none⟩) h.le _).setCell (p := ⟨b, 1, none⟩) h.le _, h.le⟩
theorem UAt.alloc {w W : World} {b : Nat} (h : UAt w W b) (o : Obj) : UAt w (W.alloc o) b := ⟨h.row.alloc o, h.below.alloc h.below.size o, h.le⟩
theorem UAt.cells {w W : World} {b : Nat} (h : UAt w W b) : W.cell? ⟨b, 0, none⟩ = some (.int .i64 0) ∧ W.cell? ⟨b, 1, none⟩ = some (.int .i64 0) ∧ W.frozen? ⟨b, 0, none⟩ = false ∧ W.frozen? ⟨b, 1, none⟩ = false := ⟨h.row.cell rfl, h.row.cell rfl, h.row.frozen 0, h.row.frozen 1⟩
set_option maxRecDepth 100000 in
set_option maxHeartbeats 2000000 in
theorem und_ok (k : Nat) (hk : 1 ≤ k ∧ k ≤ 4) (key t S : ByteArray) (hS : S.size = t.size) (w : World)
    (hW : ∀ W, Calls Try.prog 12 #[.int .i64 (k : Nat), .string key, .string t] W fun e w' => e = .returned (.tuple #[.string S, .agg #[.int .i64 0, .int .i64 0]]) ∧ Below W.heap.size W w')
    (hR : ∀ W, Calls Try.prog 13 #[.int .i64 (k : Nat), .string key, .string S] W fun e w' => e = .returned (.tuple #[.string t, .agg #[.int .i64 0, .int .i64 0]]) ∧ Below W.heap.size W w')
    (hB : k = 2 → ∀ W, Calls Try.prog 12 #[.int .i64 (k : Nat), .string key, .string S] W fun e w' => e = .returned (.tuple #[.string t, .agg #[.int .i64 0, .int .i64 0]]) ∧ Below W.heap.size W w')
    (hK : k ≠ 4 → key.size ≤ t.size → ∀ W, Calls Try.prog 14 #[.int .i64 (k : Nat), .int .i64 (key.size : Nat), .string t, .string S] W fun e w' => e = .returned (.tuple #[.string key, .agg #[.int .i64 0, .int .i64 0]]) ∧ Below W.heap.size W w') :
    Calls Try.prog 4 #[.int .i64 (k : Nat), .string key, .string t] w fun e w' => e = .returned (.bool true) ∧ Below w.heap.size w w' := by
  have HA := (show Hid (∀ W, Calls Try.prog 11 #[] W fun e w' => e = .returned (.bool true) ∧ Below W.heap.size W w') from valive_any)
  have HW := (show Hid (∀ W, Calls Try.prog 12 #[.int .i64 (k : Nat), .string key, .string t] W fun e w' => e = .returned (.tuple #[.string S, .agg #[.int .i64 0, .int .i64 0]]) ∧ Below W.heap.size W w') from hW)
  have HR := (show Hid (∀ W, Calls Try.prog 13 #[.int .i64 (k : Nat), .string key, .string S] W fun e w' => e = .returned (.tuple #[.string t, .agg #[.int .i64 0, .int .i64 0]]) ∧ Below W.heap.size W w') from hR)
  have HB := (show Hid (k = 2 → ∀ W, Calls Try.prog 12 #[.int .i64 (k : Nat), .string key, .string S] W fun e w' => e = .returned (.tuple #[.string t, .agg #[.int .i64 0, .int .i64 0]]) ∧ Below W.heap.size W w') from hB)
  have HK := (show Hid (k ≠ 4 → key.size ≤ t.size → ∀ W, Calls Try.prog 14 #[.int .i64 (k : Nat), .int .i64 (key.size : Nat), .string t, .string S] W fun e w' => e = .returned (.tuple #[.string key, .agg #[.int .i64 0, .int .i64 0]]) ∧ Below W.heap.size W w') from hK)
  clear hW hR hB hK
  go_enter Try.func4, Try.ntmps4
  go_wp2_with fail
  refine (HA.out _).mono ?_
  rintro e W0 ⟨rfl, hb0⟩
  go_wp2_with fail
  refine (HW.out _).mono ?_
  rintro e W1 ⟨rfl, hb1⟩
  have u1 : UAt w (W1.alloc (.cells #[.int .i64 0, .int .i64 0] 25)) W1.heap.size := ⟨RowAt.new _ _ _, (hb0.trans (hb1.mono hb0.size)).alloc (by have := hb0.size; have := hb1.size; omega) _, by have := hb0.size; have := hb1.size; omega⟩
  clear hb0 hb1
  go_wp2_with fail
  refine (HR.out _).mono ?_
  rintro e W2 ⟨rfl, hb2⟩
  have u2 := u1.step hb2
  obtain ⟨c0, c1, f0, f1⟩ := u2.cells
  have u3 := u2.set
  obtain ⟨d0, d1, g0, g1⟩ := u3.cells
  clear hb2 u1 u2
  by_cases k2 : k = 2
  · subst k2
    have HB2 := (show Hid (∀ W, Calls Try.prog 12 #[.int .i64 (2 : Nat), .string key, .string S] W fun e w' => e = .returned (.tuple #[.string t, .agg #[.int .i64 0, .int .i64 0]]) ∧ Below W.heap.size W w') from HB.out rfl)
    clear HB
    go_wp2_with fail
    refine (HB2.out _).mono ?_
    rintro e W3 ⟨rfl, hb3⟩
    have u4 := (u3.step hb3).alloc (.cells #[.int .i64 0, .int .i64 0] 25)
    obtain ⟨e0, e1, h0, h1⟩ := u4.cells
    clear hb3 c0 c1 f0 f1 d0 d1 g0 g1 u3
    by_cases hl : t.size < key.size
    · have hl2 : (t.size : Int) < (key.size : Int) := by omega
      go_wp2
      go_ret
      exact ⟨rfl, u4.below⟩
    · have hl2 : ¬ (t.size : Int) < (key.size : Int) := by omega
      have HK2 := (show Hid (∀ W, Calls Try.prog 14 #[.int .i64 (2 : Nat), .int .i64 (key.size : Nat), .string t, .string S] W fun e w' => e = .returned (.tuple #[.string key, .agg #[.int .i64 0, .int .i64 0]]) ∧ Below W.heap.size W w') from HK.out (by decide) (by omega))
      clear HK
      go_wp2_with fail
      refine (HK2.out _).mono ?_
      rintro e W4 ⟨rfl, hb4⟩
      have u5 := u4.step hb4
      obtain ⟨i0, i1, j0, j1⟩ := u5.cells
      have u6 := u5.set
      obtain ⟨m0, m1, n0, n1⟩ := u6.cells
      clear hb4 u4 u5 e0 e1 h0 h1
      go_wp2
      go_ret
      exact ⟨rfl, u6.below⟩
  · have k22 : ((k : Int) == 2) = false := beq_false_of_ne (by omega)
    by_cases k4 : k = 4
    · subst k4
      go_wp2
      go_ret
      exact ⟨rfl, u3.below⟩
    · have k44 : ((k : Int) == 4) = false := beq_false_of_ne (by omega)
      by_cases hl : t.size < key.size
      · have hl2 : (t.size : Int) < (key.size : Int) := by omega
        go_wp2
        go_ret
        exact ⟨rfl, u3.below⟩
      · have hl2 : ¬ (t.size : Int) < (key.size : Int) := by omega
        have HK2 := (show Hid (∀ W, Calls Try.prog 14 #[.int .i64 (k : Nat), .int .i64 (key.size : Nat), .string t, .string S] W fun e w' => e = .returned (.tuple #[.string key, .agg #[.int .i64 0, .int .i64 0]]) ∧ Below W.heap.size W w') from HK.out k4 (by omega))
        clear HK
        go_wp2_with fail
        refine (HK2.out _).mono ?_
        rintro e W4 ⟨rfl, hb4⟩
        have u5 := u3.step hb4
        obtain ⟨i0, i1, j0, j1⟩ := u5.cells
        have u6 := u5.set
        obtain ⟨m0, m1, n0, n1⟩ := u6.cells
        clear hb4 u3 u5 c0 c1 f0 f1 d0 d1 g0 g1
        go_wp2
        go_ret
        exact ⟨rfl, u6.below⟩
theorem undone_any (k : Int) (key t : ByteArray) (w : World) : Calls Try.prog 4 #[.int .i64 k, .string key, .string t] w fun e w' => e = .returned (.bool true) ∧ Below w.heap.size w w' := by
  have h1 := Pl.size_len key
  have h2 := Pl.size_len t
  rcases lk_cases k key.data.toList t.data.toList with ⟨e1, e2, hk, hn, ha, hb⟩ | e1
  · obtain ⟨n, rfl⟩ : ∃ n : Nat, k = n := ⟨k.toNat, by omega⟩
    have hl := writeL_length n key.data.toList t.data.toList
    have hls := writeL_ls n key.data.toList t.data.toList
    have hc := ck_of_ls hls (by omega)
    have h0 : 0 < key.data.toList.length := by omega
    have hsz := ba_size (writeL n key.data.toList t.data.toList)
    refine und_ok n (by omega) key t ⟨(writeL n key.data.toList t.data.toList).toArray⟩ (by rw [hsz]; omega) w (fun W => vwr_ok n (by omega) key t ha.1 ha.2.1 (by omega) hb.1 hb.2.1 (by omega) ha.2.2 hb.2.2.1 W) (fun W => ?_) (fun k2 W => ?_) (fun k4 hle W => ?_)
    · have := vrd_ok n (by omega) key ⟨(writeL n key.data.toList t.data.toList).toArray⟩ ha.1 ha.2.1 (by omega) hc.1 hc.2 (by rw [hsz]; omega) ha.2.2 hls W
      rw [show (⟨(writeL n key.data.toList t.data.toList).toArray⟩ : ByteArray).data.toList = writeL n key.data.toList t.data.toList from rfl, read_write ha.2.2 hb.2.2.1 h0, ba_list] at this
      exact this
    · have := vwr_ok n (by omega) key ⟨(writeL n key.data.toList t.data.toList).toArray⟩ ha.1 ha.2.1 (by omega) hc.1 hc.2 (by rw [hsz]; omega) ha.2.2 hls W
      subst k2
      rw [show (⟨(writeL 2 key.data.toList t.data.toList).toArray⟩ : ByteArray).data.toList = writeL 2 key.data.toList t.data.toList from rfl, beaufort ha.2.2 hb.2.2.1 h0, ba_list] at this
      exact this
    · have := key_run n (by omega) key.size (by omega) t ⟨(writeL n key.data.toList t.data.toList).toArray⟩ W ⟨hb.1, hb.2.1⟩ ⟨hc.1, hc.2⟩ hb.2.2.1 hls (by omega) (by rw [hsz]; omega) hle
      rw [show (⟨(writeL n key.data.toList t.data.toList).toArray⟩ : ByteArray).data.toList = writeL n key.data.toList t.data.toList from rfl, h1, key_write ha.2.2 hb.2.2.1 (by omega), if_pos rfl, if_pos rfl, ba_list, ← h1] at this
      exact this
  · exact und_bad k key t e1 w
end Go.Proofs.Ytlgijlfojkpeaad
