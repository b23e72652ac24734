/-
  Contract of tally.unweighed.
-/
import Derived.Test.YteomoeaoboaclaeNRCh
namespace Go.Proofs.Yteomoeaoboaclae
open Go.RowKit PK Vg Tl Fl

set_option maxRecDepth 100000 in
set_option maxHeartbeats 2000000 in
theorem tuw_bad (t : ByteArray) (F : Nat → Nat) (E A : Int) (hE : (E != 0) = true) (HT : Hid (∀ W, Calls Try.prog 21 #[.string t] W fun e w' => e = .returned (.agg #[.int .i64 E, .int .i64 A]) ∧ Below W.heap.size W w')) (w : World) : Calls Try.prog 30 #[.string t, .agg (flts F)] w fun e w' => e = .returned (.agg #[.int .i64 E, .int .i64 A]) ∧ Below w.heap.size w w' := by
  go_enter Try.func30, Try.ntmps30
  go_wp2_with fail
  refine (HT.out _).mono ?_
  rintro e W1 ⟨rfl, hb⟩
  have h2 := ((WgAt.new w F).step hb).alloc (.cells #[.int .i64 E, .int .i64 A] 25)
  have c0 := h2.res.cell (i := 0) rfl
  have c1 := h2.res.cell (i := 1) rfl
  have f0 := h2.res.frozen 0
  have f1 := h2.res.frozen 1
  clear hb HT
  go_wp2
  have q := Kit.read_two (.int .i64 E) (.int .i64 A) c0 c1
  exact bodyPost_ret (v := .agg #[.int .i64 E, .int .i64 A]) (by simp [results, Try.results30, go_sem, q.1, q.2]) rfl ⟨rfl, h2.done _ _⟩
set_option maxRecDepth 100000 in
set_option maxHeartbeats 2000000 in
theorem tuw_ok (t : ByteArray) (_hs : t.size ≤ 65536) (F : Nat → Nat) (E : Int) (HE : Hid (E = if ∀ c, c < 26 → Wt (F c) then if t.size = 0 then 5 else 0 else 3)) (HT : Hid (∀ W, Calls Try.prog 21 #[.string t] W fun e w' => e = .returned (.agg #[.int .i64 0, .int .i64 0]) ∧ Below W.heap.size W w')) (w : World) : Calls Try.prog 30 #[.string t, .agg (flts F)] w fun e w' => e = .returned (.agg #[.int .i64 E, .int .i64 0]) ∧ Below w.heap.size w w' := by
  go_enter Try.func30, Try.ntmps30
  go_wp2_with fail
  refine (HT.out _).mono ?_
  rintro e W1 ⟨rfl, hb⟩
  have h2 := ((WgAt.new w F).step hb).alloc (.cells #[.int .i64 0, .int .i64 0] 25)
  have c0 := h2.res.cell (i := 0) rfl
  have c1 := h2.res.cell (i := 1) rfl
  have f0 := h2.res.frozen 0
  have f1 := h2.res.frozen 1
  clear hb HT
  go_wp2_with (first | refine wpList_load_row rfl 36 _ rfl w.heap.size rfl 36 (flts F) (0, 0) _ h2.row Try.underlying36 rfl (by rw [flts_size]; exact v_size_w) ?_)
  obtain ⟨V, hV⟩ : ∃ V, V = W1.alloc (.cells #[.int .i64 0, .int .i64 0] 25) := ⟨_, rfl⟩
  rw [← hV] at h2 c0 c1 f0 f1 ⊢
  clear hV
  go_loopw [15] (fun i W => ∃ k : Nat, k ≤ 26 ∧ i = .int .i64 (k : Nat) ∧ Hid (∀ j, j < k → Wt (F j)) ∧ V = W) (fun i _ => ((26 : Int) - intOf i).toNat)
  case atStart => exact ⟨0, by omega, rfl, fun j hj => by omega, rfl⟩
  case round =>
    obtain ⟨k, hk, rfl, HA, rfl⟩ := hrel
    by_cases hlt : k < 26
    · have hlt2 : (k : Int) < 26 := by omega
      have hidx := run_index_flts F k hlt
      by_cases hw : Wt (F k)
      · have HN : Hid (∀ j, j < k + 1 → Wt (F j)) := fun j hj => by
          by_cases e : j = k
          · rw [e]; exact hw
          · exact HA.out j (by omega)
        obtain ⟨g1, g2⟩ := (wt_iff _).1 hw
        unfold geB at g1
        unfold leB at g2
        clear hw
        go_wp2_with fail
        go_roundw
        case rel => exact ⟨k + 1, by omega, by go_num, HN.out, by first | rfl | trivial⟩
        case measure => simp [intOf]; omega
      · have HX : Hid (E = 3) := by rw [Hid, HE.out, if_neg (fun h => hw (h k hlt))]
        have hg : geB (F k) = false ∨ (geB (F k) = true ∧ leB (F k) = false) := by
          cases h1 : geB (F k)
          · exact .inl rfl
          · cases h2 : leB (F k)
            · exact .inr ⟨rfl, rfl⟩
            · exact absurd ((wt_iff _).2 ⟨h1, h2⟩) hw
        clear hw
        have q := Kit.read_two (.int .i64 3) (.int .i64 0) c0 c1
        rcases hg with g1 | ⟨g1, g2⟩
        · unfold geB at g1
          go_wp2
          exact bodyPost_ret (v := .agg #[.int .i64 3, .int .i64 0]) (by simp [results, Try.results30, go_sem, q.1, q.2]) rfl ⟨by rw [HX.out], h2.done _ _⟩
        · unfold geB at g1
          unfold leB at g2
          go_wp2
          exact bodyPost_ret (v := .agg #[.int .i64 3, .int .i64 0]) (by simp [results, Try.results30, go_sem, q.1, q.2]) rfl ⟨by rw [HX.out], h2.done _ _⟩
    · obtain rfl : k = 26 := by omega
      by_cases h0 : t.size = 0
      · have HX : Hid (E = 5) := by rw [Hid, HE.out, if_pos HA.out, if_pos h0]
        have h01 : ((t.size : Int) == 0) = true := by rw [h0]; rfl
        have q := Kit.read_two (.int .i64 5) (.int .i64 0) c0 c1
        clear h0
        go_wp2
        exact bodyPost_ret (v := .agg #[.int .i64 5, .int .i64 0]) (by simp [results, Try.results30, go_sem, q.1, q.2]) rfl ⟨by rw [HX.out], h2.done _ _⟩
      · have HX : Hid (E = 0) := by rw [Hid, HE.out, if_pos HA.out, if_neg h0]
        have h01 : ((t.size : Int) == 0) = false := beq_false_of_ne (by omega)
        have q := Kit.read_two (.int .i64 0) (.int .i64 0) c0 c1
        go_wp2
        exact bodyPost_ret (v := .agg #[.int .i64 0, .int .i64 0]) (by simp [results, Try.results30, go_sem, q.1, q.2]) rfl ⟨by rw [HX.out], h2.done _ _⟩
theorem tuw_any (t : ByteArray) (F : Nat → Nat) (w : World) : Calls Try.prog 30 #[.string t, .agg (flts F)] w fun e w' => e = .returned (.agg #[.int .i64 (wgE t.data.toList F), .int .i64 (wgAt t.data.toList)]) ∧ Below w.heap.size w w' := by
  unfold wgE wgAt
  by_cases hk : ckE t.data.toList = 0
  · have h0 : ¬ ckE t.data.toList ≠ 0 := fun h => h hk
    rcases ck_cases t.data.toList with ⟨_, k1, k2, k3⟩ | k1
    · rw [if_neg h0, if_neg h0, ← Pl.size_len]
      exact tuw_ok t (by rw [Pl.size_len]; exact k2) F _ rfl (fun W => by have := check_all t W; rw [hk, k1] at this; exact this) w
    · rw [hk] at k1; cases k1
  · rw [if_pos hk, if_pos hk]
    exact tuw_bad t F _ _ (by simpa using hk) (fun W => check_all t W) w
end Go.Proofs.Yteomoeaoboaclae
