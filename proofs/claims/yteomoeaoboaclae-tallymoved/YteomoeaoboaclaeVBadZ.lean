/-
  Contracts of tableau.Write and tableau.Read where something is wrong; what tableFor answers.
-/
import Derived.Test.YteomoeaoboaclaeVForBZ
namespace Go.Proofs.Yteomoeaoboaclae
open Go.RowKit PK Vg

theorem lk_cases (k : Int) (key t : List UInt8) : (lkE k key t = 0 ∧ lkAt k key t = 0 ∧ (1 ≤ k ∧ k ≤ 4) ∧ (1 ≤ key.length ∧ key.length ≤ 256) ∧ (ckE key = 0 ∧ ckAt key = 0 ∧ Ls key) ∧ (ckE t = 0 ∧ ckAt t = 0 ∧ Ls t ∧ t.length ≤ 65536)) ∨ (lkE k key t != 0) = true := by
  unfold lkE lkAt
  by_cases h1 : k < 1 ∨ 4 < k
  · rw [if_pos h1]; exact .inr rfl
  · rw [if_neg h1, if_neg h1]
    rcases ck_cases key with ⟨a1, a2, a3, a4⟩ | a1
    · have a0 : ¬ (ckE key ≠ 0) := fun h => h a1
      rw [if_neg a0, if_neg a0]
      by_cases h2 : key.length < 1 ∨ 256 < key.length
      · rw [if_pos h2]; exact .inr rfl
      · rw [if_neg h2, if_neg h2]
        rcases ck_cases t with ⟨b1, b2, b3, b4⟩ | b1
        · exact .inl ⟨b1, b2, by omega, by omega, ⟨a1, a2, ls_of a4⟩, ⟨b1, b2, ls_of b4, b3⟩⟩
        · exact .inr b1
    · have a2 : ckE key ≠ 0 := by simpa using a1
      rw [if_pos a2]; exact .inr a1
theorem tfor_bad (k : Int) (key t : ByteArray) (hE : (lkE k key.data.toList t.data.toList != 0) = true) (w : World) : Calls Try.prog 35 #[.int .i64 k, .string key, .string t] w fun e w' => e = .returned (.tuple #[.agg tbl0, .agg #[.int .i64 (lkE k key.data.toList t.data.toList), .int .i64 (lkAt k key.data.toList t.data.toList)]]) ∧ Below w.heap.size w w' := by
  have hks := Pl.size_len key
  unfold lkE lkAt at *
  by_cases h1 : k < 1 ∨ 4 < k
  · rw [if_pos h1, if_pos h1]; exact tfor_kind k h1 key t w
  · obtain ⟨n, rfl⟩ : ∃ n : Nat, k = n := ⟨k.toNat, by omega⟩
    have hn : 1 ≤ n ∧ n ≤ 4 := by omega
    rw [if_neg h1] at hE
    rw [if_neg h1, if_neg h1]
    rcases ck_cases key.data.toList with ⟨a1, a2, a3, a4⟩ | a1
    · have a0 : ¬ (ckE key.data.toList ≠ 0) := fun h => h a1
      rw [if_neg a0] at hE
      rw [if_neg a0, if_neg a0]
      by_cases h2 : key.data.toList.length < 1 ∨ 256 < key.data.toList.length
      · rw [if_pos h2, if_pos h2]; exact tfor_many n hn key t a1 a2 (by omega) w
      · rw [if_neg h2] at hE
        rw [if_neg h2, if_neg h2]
        exact tfor_text n hn key t a1 a2 (by omega) hE w
    · have a2 : ckE key.data.toList ≠ 0 := by simpa using a1
      rw [if_pos a2, if_pos a2]; exact tfor_key n hn key t a1 w
set_option maxRecDepth 100000 in
set_option maxHeartbeats 2000000 in
theorem vwr_bad (k : Int) (key t : ByteArray) (hE : (lkE k key.data.toList t.data.toList != 0) = true) (w : World) : Calls Try.prog 19 #[.int .i64 k, .string key, .string t] w fun e w' => e = .returned (.tuple #[.string ⟨#[]⟩, .agg #[.int .i64 (lkE k key.data.toList t.data.toList), .int .i64 (lkAt k key.data.toList t.data.toList)]]) ∧ Below w.heap.size w w' := by
  have HT := (show Hid (∀ W, Calls Try.prog 35 #[.int .i64 k, .string key, .string t] W fun e w' => e = .returned (.tuple #[.agg #[.nilFunc, .nilFunc, .nilFunc, .bool false], .agg #[.int .i64 (lkE k key.data.toList t.data.toList), .int .i64 (lkAt k key.data.toList t.data.toList)]]) ∧ Below W.heap.size W w') from fun W => tfor_bad k key t hE W)
  generalize lkE k key.data.toList t.data.toList = E at *
  generalize lkAt k key.data.toList t.data.toList = A at *
  go_enter Try.func19, Try.ntmps19
  go_wp2_with fail
  refine (HT.out _).mono ?_
  rintro e W1 ⟨rfl, hb⟩
  have hb1 : Below (w.heap.size + 1) (w.alloc (.cells #[.int .i64 0, .int .i64 0] 25)) W1 := by simpa using hb
  have hz := hb1.size
  simp at hz
  have hb2 := (hb1.alloc (by omega) (.cells #[.nilFunc, .nilFunc, .nilFunc, .bool false] 63)).alloc (by simp; omega) (.cells #[.int .i64 E, .int .i64 A] 25)
  clear hb
  obtain ⟨c0, c1, f0, f1, hsz⟩ := Kit.two_cells hb2
  clear HT hb1
  go_wp2_with fail
  go_region
  all_goals (try go_wp2)
  have q := Kit.read_two (.int .i64 E) (.int .i64 A) c0 c1
  refine bodyPost_ret (v := .tuple #[.string ⟨#[]⟩, .agg #[.int .i64 E, .int .i64 A]]) (by simp [results, Try.results19, go_sem, q.1, q.2]) rfl ⟨rfl, ?_⟩
  exact (Kit.below_two hb2 _ _).drew
set_option maxRecDepth 100000 in
set_option maxHeartbeats 2000000 in
theorem vrd_bad (k : Int) (key t : ByteArray) (hE : (lkE k key.data.toList t.data.toList != 0) = true) (w : World) : Calls Try.prog 20 #[.int .i64 k, .string key, .string t] w fun e w' => e = .returned (.tuple #[.string ⟨#[]⟩, .agg #[.int .i64 (lkE k key.data.toList t.data.toList), .int .i64 (lkAt k key.data.toList t.data.toList)]]) ∧ Below w.heap.size w w' := by
  have HT := (show Hid (∀ W, Calls Try.prog 35 #[.int .i64 k, .string key, .string t] W fun e w' => e = .returned (.tuple #[.agg #[.nilFunc, .nilFunc, .nilFunc, .bool false], .agg #[.int .i64 (lkE k key.data.toList t.data.toList), .int .i64 (lkAt k key.data.toList t.data.toList)]]) ∧ Below W.heap.size W w') from fun W => tfor_bad k key t hE W)
  generalize lkE k key.data.toList t.data.toList = E at *
  generalize lkAt k key.data.toList t.data.toList = A at *
  go_enter Try.func20, Try.ntmps20
  go_wp2_with fail
  refine (HT.out _).mono ?_
  rintro e W1 ⟨rfl, hb⟩
  have hb1 : Below (w.heap.size + 1) (w.alloc (.cells #[.int .i64 0, .int .i64 0] 25)) W1 := by simpa using hb
  have hz := hb1.size
  simp at hz
  have hb2 := (hb1.alloc (by omega) (.cells #[.nilFunc, .nilFunc, .nilFunc, .bool false] 63)).alloc (by simp; omega) (.cells #[.int .i64 E, .int .i64 A] 25)
  clear hb
  obtain ⟨c0, c1, f0, f1, hsz⟩ := Kit.two_cells hb2
  clear HT hb1
  go_wp2_with fail
  go_region
  all_goals (try go_wp2)
  have q := Kit.read_two (.int .i64 E) (.int .i64 A) c0 c1
  refine bodyPost_ret (v := .tuple #[.string ⟨#[]⟩, .agg #[.int .i64 E, .int .i64 A]]) (by simp [results, Try.results20, go_sem, q.1, q.2]) rfl ⟨rfl, ?_⟩
  exact (Kit.below_two hb2 _ _).drew
end Go.Proofs.Yteomoeaoboaclae
