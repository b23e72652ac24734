/-
  The contract of letters.Check.
-/
import Derived.Test.YtkangeheamknoaaTSmall
import Derived.Test.YtkangeheamknoaaTKit
namespace Go.Proofs.Ytkangeheamknoaa
open Go.RowKit

set_option maxHeartbeats 400000 in
theorem check_much (s : ByteArray) (w : World) (h : 65536 < s.size) :
    Calls Try.prog 18 #[.string s] w fun e w' => e = .returned (.agg #[.int .i64 4, .int .i64 0]) ∧ Below w.heap.size w w' := by
  go_enter Try.func18, Try.ntmps18
  go_wp2
  exact bodyPost_ret (v := .agg #[.int .i64 4, .int .i64 0]) (by simp [results, Try.results18, go_sem]) rfl ⟨rfl, (Below.refl _ _).alloc (Nat.le_refl _) _⟩

theorem chk_some (l : List UInt8) (k : Nat) (h : l.findIdx? Pl.bad = some k) : Pl.chkE l = 2 ∧ Pl.chkAt l = k := by
  unfold Pl.chkE Pl.chkAt
  rw [h]
  exact ⟨rfl, rfl⟩
theorem chk_none (l : List UInt8) (h : l.findIdx? Pl.bad = none) : Pl.chkE l = 0 ∧ Pl.chkAt l = 0 := by
  unfold Pl.chkE Pl.chkAt
  rw [h]
  exact ⟨rfl, rfl⟩

set_option maxHeartbeats 1000000 in
theorem check_ok (s : ByteArray) (w : World) (h : s.size ≤ 65536) :
    Calls Try.prog 18 #[.string s] w fun e w' => e = .returned (.agg #[.int .i64 (Pl.chkE s.data.toList), .int .i64 (Pl.chkAt s.data.toList)]) ∧ Below w.heap.size w w' := by
  have hb : decide (65536 < (s.size : Int)) = false := by simp; omega
  have HL : Hid (s.size = s.data.toList.length) := Pl.size_len s
  go_enter Try.func18, Try.ntmps18
  go_wp2
  go_loop [10] (fun i => ∃ k : Nat, k ≤ s.size ∧ i = .int .i64 k ∧ Hid (∀ j (_ : j < k) (hj : j < s.data.toList.length), Pl.isL (s.data.toList[j].toNat) = true)) (fun i => s.size - (intOf i).toNat)
  case atStart => exact ⟨0, Nat.zero_le _, rfl, fun j hj => by omega⟩
  case round =>
    obtain ⟨k, hk, rfl, HA⟩ := hrel
    by_cases hlt : k < s.size
    · cases hl : Pl.isL (s[k].toNat : Int)
      · have HE : Hid (s.data.toList.findIdx? Pl.bad = some k) := Pl.chk_at _ k (by have := HL.out; omega) HA.out hl
        go_wp2_with (go_at_call 23; refine (isLetter_any _ _).mono ?_; rintro e w' ⟨rfl, rfl⟩)
        refine bodyPost_ret (v := .agg #[.int .i64 2, .int .i64 k]) (by simp [results, Try.results18, go_sem]) rfl ⟨?_, (Below.refl _ _).alloc (Nat.le_refl _) _⟩
        rw [(chk_some _ _ HE.out).1, (chk_some _ _ HE.out).2]
      · have HE : Hid (∀ j (_ : j < k + 1) (hj : j < s.data.toList.length), Pl.isL (s.data.toList[j].toNat) = true) := by
          intro j hj hj'
          rcases Nat.lt_or_ge j k with h1 | h1
          · exact HA.out j h1 hj'
          · have : j = k := by omega
            subst this
            exact hl
        go_wp2_with (go_at_call 23; refine (isLetter_any _ _).mono ?_; rintro e w' ⟨rfl, rfl⟩)
        exact ⟨⟨k + 1, by omega, by go_num, HE⟩, by simp [intOf]; omega⟩
    · have HE : Hid (s.data.toList.findIdx? Pl.bad = none) := Pl.chk_all _ fun j hj => HA.out j (by have := HL.out; omega) hj
      go_wp2
      refine bodyPost_ret (v := .agg #[.int .i64 0, .int .i64 0]) (by simp [results, Try.results18, go_sem]) rfl ⟨?_, (Below.refl _ _).alloc (Nat.le_refl _) _⟩
      rw [(chk_none _ HE.out).1, (chk_none _ HE.out).2]
end Go.Proofs.Ytkangeheamknoaa
