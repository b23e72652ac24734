/-
  Contract of the document's Period (chapter 7).
-/
import Derived.Test.YteomoeaoboaclaeNRIx
import Derived.BigRegion
namespace Go.Proofs.Yteomoeaoboaclae
open Go.RowKit PK Vg Tl

theorem mul_ok {t : List UInt8} (hl : Ls t) (h : t.length ≤ 65536) {m n : Nat} (hm : 1 ≤ m) (hn : 1 ≤ n) (hne : m ≠ n) : alike t m * allP t n < 9223372036854775807 := by
  have am := alike_le hl m
  by_cases h1 : m = 1
  · have hn2 : 2 ≤ n := by omega
    have e1 : alike t m ≤ 4294901760 := by rw [h1] at am ⊢; exact Nat.le_trans am (allP_one t h)
    have e2 := allP_more t h hn2
    exact Nat.lt_of_le_of_lt (Nat.mul_le_mul e1 e2) (by decide)
  · have e1 : alike t m ≤ 2147418112 := Nat.le_trans am (allP_more t h (by omega))
    have e2 : allP t n ≤ 4294901760 := by
      by_cases h2 : n = 1
      · rw [h2]; exact allP_one t h
      · exact Nat.le_trans (allP_more t h (by omega)) (by decide)
    exact Nat.lt_of_le_of_lt (Nat.mul_le_mul e1 e2) (by decide)
theorem wrap_prod {a b : Nat} (h : a * b < 9223372036854775807) : IntKind.i64.wrap ((a : Int) * (b : Int)) = ((a * b : Nat) : Int) := by
  rw [← Int.natCast_mul]
  exact IntWalk.i64_in _ (by omega)
/-- Up to m none is better than n. -/
def UpTo (A B : Nat → Nat) (n m : Nat) : Prop := ∀ k, 1 ≤ k → k < m → 0 < B k → ¬ (A n * B k < A k * B n ∨ (A k * B n = A n * B k ∧ k < n))
theorem upto_best {A B : Nat → Nat} {most n : Nat} (h1 : 1 ≤ n) (h2 : n ≤ most) (h3 : 0 < B n) (h : UpTo A B n (most + 1)) : BestTo A B most n :=
  ⟨h1, h2, h3, fun m a b c => by have := h m a (by omega) c; omega, fun m a b c => by have := h m a (by omega) c; omega⟩
theorem best_upto {A B : Nat → Nat} {most n : Nat} (h : BestTo A B most n) : UpTo A B n (most + 1) := fun k a b c => by
  have h1 := h.most k a (by omega) c
  rintro (e | e)
  · omega
  · have := h.first k a e.2 c
    omega
theorem best_exists {A B : Nat → Nat} : ∀ {most : Nat}, (∃ m, 1 ≤ m ∧ m ≤ most ∧ 0 < B m) → ∃ b, BestTo A B most b
  | 0, ⟨m, h1, h2, _⟩ => by omega
  | most + 1, ⟨m, h1, h2, h3⟩ => by
    by_cases hx : ∃ m, 1 ≤ m ∧ m ≤ most ∧ 0 < B m
    · obtain ⟨b, hb⟩ := best_exists (A := A) hx
      by_cases h0 : 0 < B (most + 1)
      · rcases Nat.lt_or_ge (A b * B (most + 1)) (A (most + 1) * B b) with hc | hc
        · exact ⟨_, best_take hb h0 hc⟩
        · exact ⟨b, best_keep hb fun _ => hc⟩
      · exact ⟨b, best_keep hb fun h => absurd h h0⟩
    · have hm : m = most + 1 := by
        rcases Nat.lt_or_ge m (most + 1) with h4 | h4
        · exact absurd ⟨m, h1, by omega, h3⟩ hx
        · omega
      subst hm
      exact ⟨_, best_first (fun k a b => by
        rcases Nat.eq_zero_or_pos (B k) with e | e
        · exact e
        · exact absurd ⟨k, a, b, e⟩ hx) h3⟩
/-- What Period says. -/
noncomputable def bestN (t : List UInt8) (most : Nat) : Nat := Classical.epsilon fun b => BestTo (alike t) (allP t) most b
set_option maxRecDepth 100000 in
set_option maxHeartbeats 2000000 in
theorem rpe_bad (t : ByteArray) (n : Int) (E A : Int) (hE : (E != 0) = true) (HT : Hid (∀ W, Calls Try.prog 23 #[.string t] W fun e w' => e = .returned (.agg #[.int .i64 E, .int .i64 A]) ∧ Below W.heap.size W w')) (w : World) : Calls Try.prog 12 #[.string t, .int .i64 n] w fun e w' => e = .returned (.tuple #[.int .i64 0, .agg #[.int .i64 E, .int .i64 A]]) ∧ Below w.heap.size w w' := by
  go_enter Try.func12, Try.ntmps12
  go_wp2_with fail
  refine (HT.out _).mono ?_
  rintro e W1 ⟨rfl, hb⟩
  have hb1 : Below (w.heap.size + 1) (w.alloc (.cells #[.int .i64 0, .int .i64 0] 25)) W1 := by simpa using hb
  have hz := hb1.size
  simp at hz
  have hb2 := hb1.alloc (by omega) (.cells #[.int .i64 E, .int .i64 A] 25)
  clear hb
  obtain ⟨c0, c1, f0, f1, hsz⟩ := Kit.two_cells hb2
  clear HT hb1
  go_wp2_with fail
  go_region
  all_goals (try go_wp2)
  have q := Kit.read_two (.int .i64 E) (.int .i64 A) c0 c1
  exact bodyPost_ret (v := .tuple #[.int .i64 0, .agg #[.int .i64 E, .int .i64 A]]) (by simp [results, Try.results12, go_sem, q.1, q.2]) rfl ⟨rfl, (Kit.below_two hb2 _ _).drew⟩
set_option maxRecDepth 100000 in
set_option maxHeartbeats 2000000 in
theorem rpe_range (t : ByteArray) (n : Int) (hn : n < 1 ∨ 64 < n) (HT : Hid (∀ W, Calls Try.prog 23 #[.string t] W fun e w' => e = .returned (.agg #[.int .i64 0, .int .i64 0]) ∧ Below W.heap.size W w')) (w : World) : Calls Try.prog 12 #[.string t, .int .i64 n] w fun e w' => e = .returned (.tuple #[.int .i64 0, .agg #[.int .i64 3, .int .i64 0]]) ∧ Below w.heap.size w w' := by
  go_enter Try.func12, Try.ntmps12
  go_wp2_with fail
  refine (HT.out _).mono ?_
  rintro e W1 ⟨rfl, hb⟩
  have hb1 : Below (w.heap.size + 1) (w.alloc (.cells #[.int .i64 0, .int .i64 0] 25)) W1 := by simpa using hb
  have hz := hb1.size
  simp at hz
  have hb2 := hb1.alloc (by omega) (.cells #[.int .i64 0, .int .i64 0] 25)
  clear hb
  obtain ⟨c0, c1, f0, f1, hsz⟩ := Kit.two_cells hb2
  clear HT hb1
  have q := Kit.read_two (.int .i64 3) (.int .i64 0) c0 c1
  by_cases h1 : n < 1
  · go_wp2
    exact bodyPost_ret (v := .tuple #[.int .i64 0, .agg #[.int .i64 3, .int .i64 0]]) (by simp [results, Try.results12, go_sem, q.1, q.2]) rfl ⟨rfl, Kit.below_two hb2 _ _⟩
  · have h3 : 64 < n := by omega
    clear hn
    go_wp2
    exact bodyPost_ret (v := .tuple #[.int .i64 0, .agg #[.int .i64 3, .int .i64 0]]) (by simp [results, Try.results12, go_sem, q.1, q.2]) rfl ⟨rfl, Kit.below_two hb2 _ _⟩
set_option maxRecDepth 100000 in
set_option maxHeartbeats 4000000 in
theorem rpe_run (t : ByteArray) (most : Nat) (h1 : 1 ≤ most) (h2 : most ≤ 64) (A B : Nat → Nat) (hP : ∀ m n, 1 ≤ m → 1 ≤ n → m ≠ n → A m * B n < 9223372036854775807) (hA : ∀ m, 1 ≤ m → A m ≤ 4294967296) (hB : ∀ m, 1 ≤ m → B m ≤ 4294967296) (r : Nat) (E : Int)
    (HR : Hid ((∃ b, BestTo A B most b) → BestTo A B most r ∧ E = 0)) (HN : Hid (¬ (∃ b, BestTo A B most b) → r = 0 ∧ E = 5))
    (HT : Hid (∀ W, Calls Try.prog 23 #[.string t] W fun e w' => e = .returned (.agg #[.int .i64 0, .int .i64 0]) ∧ Below W.heap.size W w')) (HPR : Hid (∀ n, 1 ≤ n → n ≤ 64 → ∀ W, Calls Try.prog 28 #[.string t, .int .i64 (n : Nat)] W fun e w' => e = .returned (.tuple #[.int .i64 (A n : Nat), .int .i64 (B n : Nat)]) ∧ Below W.heap.size W w')) (w : World) : Calls Try.prog 12 #[.string t, .int .i64 (most : Nat)] w fun e w' => e = .returned (.tuple #[.int .i64 (r : Nat), .agg #[.int .i64 E, .int .i64 0]]) ∧ Below w.heap.size w w' := by
  have h3 : ¬ (most : Int) < 1 := by omega
  have h4 : ¬ 64 < (most : Int) := by omega
  go_enter Try.func12, Try.ntmps12
  go_wp2_with fail
  refine (HT.out _).mono ?_
  rintro e W1 ⟨rfl, hb⟩
  have hb1 : Below (w.heap.size + 1) (w.alloc (.cells #[.int .i64 0, .int .i64 0] 25)) W1 := by simpa using hb
  have hz := hb1.size
  simp at hz
  have hb2 := hb1.alloc (by omega) (.cells #[.int .i64 0, .int .i64 0] 25)
  clear hb HT hb1
  go_wp2_with fail
  go_loopw [7] (fun i W => ∃ n : Nat, 1 ≤ n ∧ n ≤ most + 1 ∧ i = .int .i64 (n : Nat) ∧ Hid (∀ k, 1 ≤ k → k < n → ¬ BestTo A B most k) ∧ Below (w.heap.size + 1) (w.alloc (.cells #[.int .i64 0, .int .i64 0] 25)) W) (fun i _ => ((most : Int) + 1 - intOf i).toNat)
  case atStart => exact ⟨1, by omega, by omega, rfl, fun k _ _ => by omega, hb2⟩
  case round =>
    clear hb2
    obtain ⟨n, hn1, hn2, rfl, HA, hbv⟩ := hrel
    have hzv := hbv.size
    simp at hzv
    by_cases hlt : n ≤ most
    · have hlt2 : (n : Int) ≤ (most : Int) := by omega
      have HP1 := (show Hid _ from HPR.out n hn1 (by omega))
      have hAn := hA n hn1
      have hBn := hB n hn1
      go_wp2_with fail
      refine (HP1.out _).mono ?_
      rintro e W2 ⟨rfl, hb3⟩
      have hb4 := hbv.trans (hb3.mono hzv)
      clear hb3 hbv HP1
      go_wp2_with fail
      go_loopw [10, 11] (fun g j W => ∃ m : Nat, 1 ≤ m ∧ m ≤ most + 1 ∧ j = .int .i64 (m : Nat) ∧ ((g = .bool true ∧ Hid (UpTo A B n m ∧ 0 < B n)) ∨ (g = .bool false ∧ Hid (¬ BestTo A B most n))) ∧ Below (w.heap.size + 1) (w.alloc (.cells #[.int .i64 0, .int .i64 0] 25)) W) (fun _ j _ => ((most : Int) + 1 - intOf j).toNat)
      case atStart =>
        refine ⟨1, by omega, by omega, rfl, ?_, hb4⟩
        by_cases h0 : 0 < B n
        · exact .inl ⟨by first | (simp; omega) | simp [h0], fun k _ _ => by omega, h0⟩
        · exact .inr ⟨by first | (simp; omega) | simp [h0], fun hb => h0 hb.ok⟩
      case round =>
        clear hb4
        obtain ⟨m, hm1, hm2, rfl, hg, hbv⟩ := hrel
        have hzv := hbv.size
        simp at hzv
        rcases hg with ⟨rfl, HU⟩ | ⟨rfl, HU⟩
        · by_cases hlm : m ≤ most
          · have hlm2 : (m : Int) ≤ (most : Int) := by omega
            have HP2 := (show Hid _ from HPR.out m hm1 (by omega))
            have hAm := hA m hm1
            have hBm := hB m hm1
            go_wp2_with fail
            refine (HP2.out _).mono ?_
            rintro e W3 ⟨rfl, hb5⟩
            have hb6 := hbv.trans (hb5.mono hzv)
            clear hb5 hbv HP2
            by_cases h0 : 0 < B m
            · have h01 : (0 : Int) < (B m : Int) := by omega
              by_cases hmn : m = n
              · have HNX : Hid (UpTo A B n (m + 1) ∧ 0 < B n) := ⟨fun k a b c => by
                  by_cases e : k = m
                  · rw [e, hmn]; omega
                  · exact HU.out.1 k a (by omega) c, HU.out.2⟩
                obtain ⟨X, hX⟩ : ∃ X : Int, IntKind.i64.wrap ((A m : Int) * (B n : Int)) = X := ⟨_, rfl⟩
                have hX2 : IntKind.i64.wrap ((A n : Int) * (B m : Int)) = X := by rw [← hX, hmn]
                have hx1 : ¬ X < X := by omega
                have hx2 : (X == X) = true := by simp
                have hx3 : ¬ (m : Int) < (n : Int) := by omega
                clear hmn
                go_wp2_with fail
                go_roundw
                case rel => exact ⟨m + 1, by omega, by omega, by go_num, .inl ⟨rfl, HNX.out⟩, hb6⟩
                case measure => simp [intOf] <;> omega
              · have p1 := wrap_prod (hP m n hm1 hn1 hmn)
                have p2 := wrap_prod (hP n m hn1 hm1 (Ne.symm hmn))
                have HC : Hid (∀ k, 1 ≤ k → k < m → 0 < B k → ¬ (A n * B k < A k * B n ∨ (A k * B n = A n * B k ∧ k < n))) := HU.out.1
                have HBT : Hid ((A n * B m < A m * B n ∨ (A m * B n = A n * B m ∧ m < n)) → ¬ BestTo A B most n) := fun h hb => best_upto hb m hm1 (by omega) h0 h
                have HB0 : Hid (0 < B n) := HU.out.2
                have HUP : Hid (¬ (A n * B m < A m * B n ∨ (A m * B n = A n * B m ∧ m < n)) → UpTo A B n (m + 1)) := fun h k a b c => by
                  by_cases e : k = m
                  · subst e; exact h
                  · exact HC.out k a (by omega) c
                clear HU
                generalize A m * B n = X at *
                generalize A n * B m = Y at *
                rcases Nat.lt_trichotomy Y X with hc | hc | hc
                · have hc1 : (Y : Int) < (X : Int) := by omega
                  have HNX : Hid (¬ BestTo A B most n) := HBT.out (.inl hc)
                  go_wp2_with fail
                  go_roundw
                  case rel => exact ⟨m + 1, by omega, by omega, by go_num, .inr ⟨rfl, HNX.out⟩, hb6⟩
                  case measure => simp [intOf] <;> omega
                · have hc1 : ¬ (Y : Int) < (X : Int) := by omega
                  have hc2 : ((X : Int) == (Y : Int)) = true := by simp; omega
                  by_cases hmn2 : m < n
                  · have hmn3 : (m : Int) < (n : Int) := by omega
                    have HNX : Hid (¬ BestTo A B most n) := HBT.out (.inr ⟨hc.symm, hmn2⟩)
                    clear hc
                    go_wp2_with fail
                    go_roundw
                    case rel => exact ⟨m + 1, by omega, by omega, by go_num, .inr ⟨rfl, HNX.out⟩, hb6⟩
                    case measure => simp [intOf] <;> omega
                  · have hmn3 : ¬ (m : Int) < (n : Int) := by omega
                    have HNX : Hid (UpTo A B n (m + 1) ∧ 0 < B n) := ⟨HUP.out (by omega), HB0.out⟩
                    clear hc
                    go_wp2_with fail
                    go_roundw
                    case rel => exact ⟨m + 1, by omega, by omega, by go_num, .inl ⟨rfl, HNX.out⟩, hb6⟩
                    case measure => simp [intOf] <;> omega
                · have hc1 : ¬ (Y : Int) < (X : Int) := by omega
                  have hc2 : ((X : Int) == (Y : Int)) = false := beq_false_of_ne (by omega)
                  have HNX : Hid (UpTo A B n (m + 1) ∧ 0 < B n) := ⟨HUP.out (by omega), HB0.out⟩
                  go_wp2_with fail
                  go_roundw
                  case rel => exact ⟨m + 1, by omega, by omega, by go_num, .inl ⟨rfl, HNX.out⟩, hb6⟩
                  case measure => simp [intOf] <;> omega
            · have h01 : ¬ (0 : Int) < (B m : Int) := by omega
              have HNX : Hid (UpTo A B n (m + 1) ∧ 0 < B n) := ⟨fun k a b c => by
                by_cases e : k = m
                · subst e; exact absurd c h0
                · exact HU.out.1 k a (by omega) c, HU.out.2⟩
              go_wp2_with fail
              go_roundw
              case rel => exact ⟨m + 1, by omega, by omega, by go_num, .inl ⟨rfl, HNX.out⟩, hb6⟩
              case measure => simp [intOf] <;> omega
          · obtain rfl : m = most + 1 := by omega
            have hlm2 : ¬ ((most + 1 : Nat) : Int) ≤ (most : Int) := by omega
            have hlm3 : ¬ ((most : Int) + 1) ≤ (most : Int) := by omega
            have HBB := upto_best hn1 hlt HU.out.2 HU.out.1
            have HX : Hid (n = r ∧ E = 0) := by
              obtain ⟨h5, h6⟩ := HR.out ⟨n, HBB⟩
              exact ⟨best_unique HBB h5, h6⟩
            obtain ⟨c0, c1, f0, f1, hsz⟩ := Kit.two_cells hbv
            clear HBB
            go_wp2
            have q := Kit.read_two (.int .i64 0) (.int .i64 0) c0 c1
            exact bodyPost_ret (v := .tuple #[.int .i64 (n : Nat), .agg #[.int .i64 0, .int .i64 0]]) (by simp [results, Try.results12, go_sem, q.1, q.2]) rfl ⟨by rw [← HX.out.1, HX.out.2], Kit.below_two hbv _ _⟩
        · have HN2 : Hid (∀ k, 1 ≤ k → k < n + 1 → ¬ BestTo A B most k) := fun k a b => by
            by_cases e : k = n
            · subst e; exact HU.out
            · exact HA.out k a (by omega)
          by_cases hlm : m ≤ most
          · have hlm2 : (m : Int) ≤ (most : Int) := by omega
            go_wp2_with fail
            go_roundw
            case rel => exact ⟨n + 1, by omega, by omega, by go_num, HN2.out, hbv⟩
            case measure => simp [intOf] <;> omega
          · have hlm2 : ¬ (m : Int) ≤ (most : Int) := by omega
            go_wp2_with fail
            go_roundw
            case rel => exact ⟨n + 1, by omega, by omega, by go_num, HN2.out, hbv⟩
            case measure => simp [intOf] <;> omega
    · have HX : Hid (r = 0 ∧ E = 5) := HN.out (fun ⟨b, hb⟩ => HA.out b hb.pos (by have := hb.le; omega) hb)
      obtain ⟨c0, c1, f0, f1, hsz⟩ := Kit.two_cells hbv
      go_wp2
      have q := Kit.read_two (.int .i64 5) (.int .i64 0) c0 c1
      exact bodyPost_ret (v := .tuple #[.int .i64 0, .agg #[.int .i64 5, .int .i64 0]]) (by simp [results, Try.results12, go_sem, q.1, q.2]) rfl ⟨by rw [HX.out.1, HX.out.2]; rfl, Kit.below_two hbv _ _⟩
theorem best_spec {t : List UInt8} {most : Nat} (h : ∃ b, BestTo (alike t) (allP t) most b) : BestTo (alike t) (allP t) most (bestN t most) := Classical.epsilon_spec h
noncomputable def peE (t : List UInt8) (n : Int) : Int := if ckE t ≠ 0 then ckE t else if n < 1 ∨ 64 < n then 3 else @ite _ (∃ b, BestTo (alike t) (allP t) n.toNat b) (Classical.propDecidable _) 0 5
noncomputable def peN (t : List UInt8) (n : Int) : Nat := if ckE t ≠ 0 then 0 else if n < 1 ∨ 64 < n then 0 else @ite _ (∃ b, BestTo (alike t) (allP t) n.toNat b) (Classical.propDecidable _) (bestN t n.toNat) 0
theorem allP_any (t : List UInt8) (h : t.length ≤ 65536) {m : Nat} (hm : 1 ≤ m) : allP t m ≤ 4294967296 := by
  by_cases h1 : m = 1
  · rw [h1]; exact Nat.le_trans (allP_one _ h) (by decide)
  · exact Nat.le_trans (allP_more _ h (by omega)) (by decide)
theorem rpe_any (t : ByteArray) (n : Int) (w : World) : Calls Try.prog 12 #[.string t, .int .i64 n] w fun e w' => e = .returned (.tuple #[.int .i64 (peN t.data.toList n : Nat), .agg #[.int .i64 (peE t.data.toList n), .int .i64 (ixAt t.data.toList)]]) ∧ Below w.heap.size w w' := by
  have hsz := Pl.size_len t
  unfold peN peE ixAt
  by_cases hk : ckE t.data.toList = 0
  · have h0 : ¬ ckE t.data.toList ≠ 0 := fun h => h hk
    rcases ck_cases t.data.toList with ⟨_, k1, k2, k3⟩ | k1
    · have HT : ∀ W, Calls Try.prog 23 #[.string t] W fun e w' => e = .returned (.agg #[.int .i64 0, .int .i64 0]) ∧ Below W.heap.size W w' := fun W => by have := rcheck_all t W; rw [hk, k1] at this; exact this
      rw [if_neg h0, if_neg h0, if_neg h0]
      by_cases hn : n < 1 ∨ 64 < n
      · rw [if_pos hn, if_pos hn]
        exact rpe_range t n hn HT w
      · obtain ⟨m, rfl⟩ : ∃ m : Nat, n = m := ⟨n.toNat, by omega⟩
        rw [if_neg hn, if_neg hn, Int.toNat_natCast]
        refine rpe_run t m (by omega) (by omega) (alike t.data.toList) (allP t.data.toList) (fun a b ha hb hne => mul_ok (ls_of k3) k2 ha hb hne) (fun a ha => Nat.le_trans (alike_le (ls_of k3) a) (allP_any _ k2 ha)) (fun a ha => allP_any _ k2 ha) _ _ (fun h => ?_) (fun h => ?_) HT (fun a ha hb W => rpairs_any t (ls_of k3) (by omega) a (by omega) hb W) w
        · rw [if_pos h, if_pos h]
          exact ⟨best_spec h, rfl⟩
        · rw [if_neg h, if_neg h]
          exact ⟨rfl, rfl⟩
    · rw [hk] at k1; cases k1
  · rw [if_pos hk, if_pos hk, if_pos hk]
    exact rpe_bad t n _ _ (by simpa using hk) (fun W => rcheck_all t W) w
end Go.Proofs.Yteomoeaoboaclae
