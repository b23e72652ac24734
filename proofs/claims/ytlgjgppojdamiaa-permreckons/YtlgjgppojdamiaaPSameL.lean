/-
  Contract of the statements' own same, on two slices of numbers.
-/
import Derived.Test.YtlgjgppojdamiaaPCycF
import Derived.Deep.QuietTactic
import Derived.BigQuiet
namespace Go.Proofs.Ytlgjgppojdamiaa
open Go.RowKit PK

theorem run_len_ownN {P : Program} (w : World) (t ty e : TypeId) (ht : P.underlying t = some (.slice e)) {B : Nat} {v : Value} {n : Nat} {xs : List Value} (h : w.ownsRow B e 1 v n xs) : (Builtin.len_ #[t] ty #[v]).run P w = .ok (.int .i64 n) w := by
  rcases h.2 with ⟨rfl, h0⟩ | ⟨g, cap, cur, rfl, _⟩
  · simp [Builtin.len_, run_underlying ht, goInt, h0]
  · simp [Builtin.len_, run_underlying ht, goInt]

set_option maxHeartbeats 1000000 in
theorem same_len (a b : List Nat) (B B' : Nat) (u v : Value) (w : World) (ha : OwnsN w B u a) (hb : OwnsN w B' v b) (h : a.length ≠ b.length) :
    Calls Try.prog 28 #[u, v] w fun e w' => e = .returned (.bool false) ∧ w = w' := by
  have hl1 := fun ty => run_len_ownN (P := Try.prog) w 40 ty 3 Try.underlying40 ha
  have hl2 := fun ty => run_len_ownN (P := Try.prog) w 40 ty 3 Try.underlying40 hb
  have hne : (((a.length : Nat) : Int) != ((b.length : Nat) : Int)) = true := by simp; omega
  clear ha hb h
  go_enter Try.func28, Try.ntmps28
  go_wp2
  go_ret
  exact ⟨rfl, rfl⟩

set_option maxHeartbeats 2000000 in
theorem same_vals (a b : List Nat) (B B' : Nat) (u v : Value) (w : World) (ha : OwnsN w B u a) (hb : OwnsN w B' v b) (h : a.length = b.length) (hmax : a.length ≤ 1000000) :
    Calls Try.prog 28 #[u, v] w fun e w' => e = .returned (.bool (a == b)) ∧ Below w.heap.size w w' := by
  have hl1 := fun ty => run_len_ownN (P := Try.prog) w 40 ty 3 Try.underlying40 ha
  have hl2 := fun ty => run_len_ownN (P := Try.prog) w 40 ty 3 Try.underlying40 hb
  rw [← h] at hl2
  obtain ⟨n, hn⟩ : ∃ n, n = a.length := ⟨_, rfl⟩
  have HN : Hid (n = a.length) := hn
  have HNB : Hid (n = b.length) := by rw [Hid, hn, h]
  have HA : Hid (OwnsN w B u a) := ha
  have HB : Hid (OwnsN w B' v b) := hb
  rw [← hn] at hl1 hl2 hmax
  clear ha hb h hn
  go_enter Try.func28, Try.ntmps28
  go_wp2
  go_loopw [13] (fun i W => ∃ k : Nat, k ≤ n ∧ i = .int .i64 k ∧ Hid (a.take k = b.take k) ∧ Below w.heap.size w W) (fun i _ => (n - intOf i).toNat)
  case atStart => exact ⟨0, by omega, rfl, rfl, Below.refl _ _⟩
  case round =>
    obtain ⟨k, hk, rfl, HT, hbw⟩ := hrel
    by_cases hlt : k < n
    · have hpos : 0 < n := by omega
      obtain ⟨g1, c1, rfl⟩ := own_form HA.out (by rw [← HN.out]; exact hpos)
      obtain ⟨g2, c2, rfl⟩ := own_form HB.out (by rw [← HNB.out]; exact hpos)
      have hg1 := (World.ownsRow.lt HA.out g1 rfl).2
      have hg2 := (World.ownsRow.lt HB.out g2 rfl).2
      obtain ⟨x, hx⟩ : ∃ x, a[k]? = some x := ⟨a[k]'(by rw [← HN.out]; exact hlt), List.getElem?_eq_getElem _⟩
      obtain ⟨y, hy⟩ : ∃ y, b[k]? = some y := ⟨b[k]'(by rw [← HNB.out]; exact hlt), List.getElem?_eq_getElem _⟩
      have hcx : wr.cell? ⟨g1, k, none⟩ = some (.int .i64 (x : Nat)) := by
        rw [hbw.cell (p := ⟨g1, k, none⟩) hg1, World.ownsRow.cellAt HA.out k (by rw [← HN.out]; omega)]
        simp [nums, hx]
      have hcy : wr.cell? ⟨g2, k, none⟩ = some (.int .i64 (y : Nat)) := by
        rw [hbw.cell (p := ⟨g2, k, none⟩) hg2, World.ownsRow.cellAt HB.out k (by rw [← HNB.out]; omega)]
        simp [nums, hy]
      have ea : a.take (k + 1) = a.take k ++ [x] := by
        obtain ⟨h7, h8⟩ := List.getElem?_eq_some_iff.1 hx
        rw [List.take_succ_eq_append_getElem h7, h8]
      have eb : b.take (k + 1) = b.take k ++ [y] := by
        obtain ⟨h7, h8⟩ := List.getElem?_eq_some_iff.1 hy
        rw [List.take_succ_eq_append_getElem h7, h8]
      have HEA : Hid (a.take (k + 1) = a.take k ++ [x]) := ea
      have HEB : Hid (b.take (k + 1) = b.take k ++ [y]) := eb
      have HLN : Hid ((Value.slice (some ⟨g1, 0, none⟩) a.length c1 = .slice (some ⟨g1, 0, none⟩) n c1) ∧ (Value.slice (some ⟨g2, 0, none⟩) b.length c2 = .slice (some ⟨g2, 0, none⟩) n c2)) := by rw [Hid, HN.out]; exact ⟨rfl, by rw [← HNB.out, HN.out]⟩
      clear ea eb hl1 hl2
      rw [HLN.out.1, HLN.out.2]
      clear HLN
      by_cases hxy : x = y
      · have hbe : (((x : Nat) : Int) != ((y : Nat) : Int)) = false := by rw [hxy]; simp
        have HXY : Hid (x = y) := hxy
        clear hx hy hxy
        go_wp2
        go_quiet (fail)
        go_wp2
        go_roundw
        case rel => exact ⟨k + 1, by omega, by go_num, by rw [Hid, HEA.out, HEB.out, HT.out, HXY.out], ⟨hbw.os, hbw.tape, hbw.output, hbw.size, hbw.block⟩⟩
        case measure => simp [intOf]; omega
      · have hbe : (((x : Nat) : Int) != ((y : Nat) : Int)) = true := by simp; omega
        have HNE : Hid ((a == b) = false) := by
          rw [Hid]
          cases hab : (a == b) with
          | false => rfl
          | true =>
            have := eq_of_beq hab
            rw [this, hy] at hx
            simp at hx
            exact absurd hx.symm hxy
        clear hx hy hxy
        go_wp2
        go_quiet (fail)
        go_wp2
        go_ret
        exact ⟨ret_bool HNE.out.symm, ⟨hbw.os, hbw.tape, hbw.output, hbw.size, hbw.block⟩⟩
    · have HEQ : Hid ((a == b) = true) := by
        have h1 := HT.out
        rw [List.take_of_length_le (by have := HN.out; omega), List.take_of_length_le (by have := HNB.out; omega)] at h1
        rw [Hid, h1]
        simp
      go_wp2
      go_ret
      exact ⟨ret_bool HEQ.out.symm, hbw⟩
end Go.Proofs.Ytlgjgppojdamiaa
