/-
  Contract of the document's Same, of two alike; the law's alive.
-/
import Derived.Test.YtlgjgppojdamiabHInv
namespace Go.Proofs.Ytlgjgppojdamiab
open Go.RowKit PK

set_option maxHeartbeats 2000000 in
theorem rsame_ok (u v : Value) (n : Nat) (hn : n ≤ 4) (Z : Nat → Nat → Int) (w : World) (hu : MatAt w u n (fun _ => n) Z) (hv : MatAt w v n (fun _ => n) Z) :
    Calls Try.prog 23 #[u, v] w fun e w' => e = .returned (.bool true) ∧ Below w.heap.size w w' := by
  by_cases h0 : n = 0
  · subst h0
    obtain ⟨a, cap, rfl, _⟩ := hu.len
    obtain ⟨a', cap', rfl, _⟩ := hv.len
    clear hu hv
    go_enter Try.func23, Try.ntmps23
    go_wp2
    go_loop [14] (fun i => i = .int .i64 0) (fun i => (0 - intOf i).toNat)
    case atStart => rfl
    case round =>
      subst hrel
      go_wp2
      go_ret
      exact ⟨rfl, Below.refl _ _⟩
  · have HU := (show Hid (MatAt w u n (fun _ => n) Z) from hu)
    have HV := (show Hid (MatAt w v n (fun _ => n) Z) from hv)
    obtain ⟨b, o, cap, R, rfl, _, hc, hr⟩ := hu.form (by omega)
    obtain ⟨b', o', cap', R', rfl, _, hc', hr'⟩ := hv.form (by omega)
    have HC : Hid (∀ r, r < n → ∃ x1 y1 c1 x2 y2 c2, R r = .slice (some ⟨x1, y1, none⟩) n c1 ∧ R' r = .slice (some ⟨x2, y2, none⟩) n c2 ∧ w.cell? ⟨b, o + r, none⟩ = some (R r) ∧ w.cell? ⟨b', o' + r, none⟩ = some (R' r) ∧ ∀ c, c < n → w.cell? ⟨x1, y1 + c, none⟩ = some (.int .i64 (Z r c)) ∧ w.cell? ⟨x2, y2 + c, none⟩ = some (.int .i64 (Z r c))) := fun r hr0 => by
      obtain ⟨x1, y1, c1, e1, _, k1⟩ := (hr r hr0).form (by omega)
      obtain ⟨x2, y2, c2, e2, _, k2⟩ := (hr' r hr0).form (by omega)
      exact ⟨x1, y1, c1, x2, y2, c2, e1, e2, hc r hr0, hc' r hr0, fun c hc0 => ⟨k1 c hc0, k2 c hc0⟩⟩
    clear hu hv hc hr hc' hr'
    go_enter Try.func23, Try.ntmps23
    go_wp2
    go_loopw [14] (fun i W => ∃ r k : Nat, r ≤ n ∧ i = .int .i64 r ∧ W = w.drewN k) (fun i _ => ((n : Int) - intOf i).toNat)
    case atStart => exact ⟨0, 0, by omega, rfl, rfl⟩
    case round =>
      obtain ⟨r, k, hr, rfl, rfl⟩ := hrel
      by_cases hlt : r < n
      · obtain ⟨x1, y1, c1, x2, y2, c2, e1, e2, k1, k2, k3⟩ := HC.out r hlt
        rw [e1] at k1
        rw [e2] at k2
        have HK : Hid (∀ c, c < n → w.cell? ⟨x1, y1 + c, none⟩ = some (.int .i64 (Z r c)) ∧ w.cell? ⟨x2, y2 + c, none⟩ = some (.int .i64 (Z r c))) := k3
        clear k3 e1 e2
        go_wp2
        go_quiet (fail)
        go_wp2
        go_loopw [33] (fun i W => ∃ c k : Nat, c ≤ n ∧ i = .int .i64 c ∧ W = w.drewN k) (fun i _ => ((n : Int) - intOf i).toNat)
        case atStart => exact ⟨0, k + nq, by omega, rfl, rfl⟩
        case round =>
          obtain ⟨c, k, hc, rfl, rfl⟩ := hrel
          by_cases hcl : c < n
          · obtain ⟨h1, h2⟩ := HK.out c hcl
            go_wp2
            go_quiet (fail)
            go_wp2
            go_roundw
            case rel => exact ⟨c + 1, k + nq, by omega, by go_num, rfl⟩
            case measure => simp [intOf]; omega
          · go_wp2
            go_roundw
            case rel => exact ⟨r + 1, k, by omega, by go_num, rfl⟩
            case measure => simp [intOf]; omega
      · go_wp2
        go_ret
        exact ⟨rfl, rfl, rfl, rfl, Nat.le_refl _, fun _ _ => rfl⟩
def aliveZ : Nat → Nat → Int := fun r c => if r = 0 then 3 else if c = 0 then 2 else 5
theorem aliveZ_good : GoodM 2 aliveZ := ⟨by decide, by decide, fun r _ c _ => by unfold aliveZ; split <;> (try split) <;> omega⟩
set_option maxHeartbeats 2000000 in
theorem halive_any (w : World) : Calls Try.prog 30 #[] w fun e w' => e = .returned (.bool true) ∧ Below w.heap.size w w' := by
  go_enter Try.func30, Try.ntmps30
  go_wp2_with fail
  obtain ⟨q1, q2, q3, hb, hz⟩ := three_new w #[.int .i64 3, .int .i64 3] #[.int .i64 2, .int .i64 5] #[.slice (some ⟨w.heap.size, 0, none⟩) 2 2, .slice (some ⟨w.heap.size + 1, 0, none⟩) 2 2] 3 3 27
  generalize ((w.alloc (.cells #[.int .i64 3, .int .i64 3] 3)).alloc (.cells #[.int .i64 2, .int .i64 5] 3)).alloc (.cells #[.slice (some ⟨w.heap.size, 0, none⟩) 2 2, .slice (some ⟨w.heap.size + 1, 0, none⟩) 2 2] 27) = W0 at *
  have r1 : RowAt W0 w.heap.size 3 (ints 2 (aliveZ 0)) := q1
  have r2 : RowAt W0 (w.heap.size + 1) 3 (ints 2 (aliveZ 1)) := q2
  have r3 : RowAt W0 (w.heap.size + 1 + 1) 27 (tab 2 fun r => .slice (some ⟨w.heap.size + r, 0, none⟩) 2 2) := q3
  have hm : MatAt W0 (.slice (some ⟨w.heap.size + 1 + 1, 0, none⟩) 2 2) 2 (fun _ => 2) aliveZ := MatAt.of_rows r3 (by decide) fun r hr => by
    obtain rfl | rfl : r = 0 ∨ r = 1 := by omega
    · exact NumsAt.of_row r1 (by decide)
    · exact NumsAt.of_row r2 (by decide)
  refine Calls.mono (hdet_ok _ 2 (fun _ => 2) aliveZ aliveZ_good (fun _ _ => rfl) W0 hm) ?_
  rintro e W1 ⟨rfl, hb1⟩
  rw [show detL 2 aliveZ = 9 by decide]
  have hz1 := hb1.size
  clear q1 q2 q3 r1 r2 r3 hm
  go_wp2
  go_ret
  exact ⟨rfl, hb.trans (hb1.mono (by omega))⟩
end Go.Proofs.Ytlgjgppojdamiab
