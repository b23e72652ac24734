/-
  The contract of the document's own Check: it answers as the program's.
-/
import Derived.Test.YtkangeheamknoaaTCheck
import Derived.Lib.ConvBytes
namespace Go.Proofs.Ytkangeheamknoaa
open Go.RowKit

theorem below_bytes {B : Nat} (w : World) (hB : B ≤ w.heap.size) (e : TypeId) (s : ByteArray) : Below B w (Lib.bytesWorld w e s) := by
  refine ⟨?_, ?_, ?_, by rw [Lib.bytesWorld_size]; omega, fun k hk => Lib.bytesWorld_at_old w e s k (by omega)⟩
  all_goals
    unfold Lib.bytesWorld World.freeze
    split <;> rfl
theorem bytes_cell (w : World) (e : TypeId) (s : ByteArray) (k : Nat) (hk : k < s.size) : (Lib.bytesWorld w e s).cell? ⟨w.heap.size, k, none⟩ = some (.int .u8 s[k].toNat) := by
  rw [Lib.bytesWorld_cell w e s k hk]
  have hk' : k < s.data.toList.length := by have := Pl.size_len s; omega
  simp only [List.getD, List.getElem?_eq_getElem hk']
  rfl

set_option maxHeartbeats 400000 in
theorem rcheck_much (s : ByteArray) (w : World) (h : 65536 < s.size) :
    Calls Try.prog 20 #[.string s] w fun e w' => e = .returned (.agg #[.int .i64 4, .int .i64 0]) ∧ Below w.heap.size w w' := by
  go_enter Try.func20, Try.ntmps20
  go_wp2
  exact bodyPost_ret (v := .agg #[.int .i64 4, .int .i64 0]) (by simp [results, Try.results20, go_sem]) rfl ⟨rfl, (Below.refl _ _).alloc (Nat.le_refl _) _⟩

set_option maxHeartbeats 1000000 in
theorem rcheck_ok (s : ByteArray) (w : World) (h : s.size ≤ 65536) :
    Calls Try.prog 20 #[.string s] w fun e w' => e = .returned (.agg #[.int .i64 (Pl.chkE s.data.toList), .int .i64 (Pl.chkAt s.data.toList)]) ∧ Below w.heap.size w w' := by
  have hb : decide (65536 < (s.size : Int)) = false := by simp; omega
  have HL : Hid (s.size = s.data.toList.length) := Pl.size_len s
  have hcv := fun w => Lib.run_convert_string_bytes (P := Try.prog) w 9 50 5 s Try.underlying9 Try.underlying50 Try.underlying5
  go_enter Try.func20, Try.ntmps20
  go_wp2
  have hbel : Below (w.heap.size + 1) (w.alloc (Obj.cells #[Value.int IntKind.i64 0, Value.int IntKind.i64 0] 33)) (Lib.bytesWorld (w.alloc (Obj.cells #[Value.int IntKind.i64 0, Value.int IntKind.i64 0] 33)) 5 s) := below_bytes _ (by simp) 5 s
  have HC : Hid (∀ k (hk : k < s.size), (Lib.bytesWorld (w.alloc (Obj.cells #[Value.int IntKind.i64 0, Value.int IntKind.i64 0] 33)) 5 s).cell? ⟨w.heap.size + 1, k, none⟩ = some (.int .u8 s[k].toNat)) := fun k hk => by simpa using bytes_cell (w.alloc (Obj.cells #[Value.int IntKind.i64 0, Value.int IntKind.i64 0] 33)) 5 s k hk
  clear hcv
  generalize Lib.bytesWorld (w.alloc (Obj.cells #[Value.int IntKind.i64 0, Value.int IntKind.i64 0] 33)) 5 s = W0 at hbel HC
  have hcap : s.size ≤ grownCap (w.alloc (Obj.cells #[Value.int IntKind.i64 0, Value.int IntKind.i64 0] 33)) s.size 0 5 := grownCap_ge _ _ _ _
  generalize grownCap (w.alloc (Obj.cells #[Value.int IntKind.i64 0, Value.int IntKind.i64 0] 33)) s.size 0 5 = cap at hcap
  obtain ⟨c0, c1, f0, f1, hsz⟩ := Kit.two_cells hbel
  go_loop [12] (fun i => ∃ k : Nat, k ≤ s.size ∧ i = .int .i64 k ∧ Hid (∀ j (_ : j < k) (hj : j < s.data.toList.length), Pl.isL (s.data.toList[j].toNat) = true)) (fun i => s.size - (intOf i).toNat)
  case atStart => exact ⟨0, Nat.zero_le _, rfl, fun j hj => by omega⟩
  case round =>
    obtain ⟨k, hk, rfl, HA⟩ := hrel
    by_cases hlt : k < s.size
    · have hcell := HC.out k hlt
      clear HC
      cases hl : Pl.isL (s[k].toNat : Int)
      · have HE : Hid (s.data.toList.findIdx? Pl.bad = some k) := Pl.chk_at _ k (by have := HL.out; omega) HA.out hl
        have hn : (s[k].toNat : Int) < 65 ∨ (65 ≤ (s[k].toNat : Int) ∧ 90 < (s[k].toNat : Int)) := by
          have := of_decide_eq_false (show decide _ = false from hl)
          omega
        have q := Kit.read_two (.int .i64 2) (.int .i64 k) c0 c1
        have hbf := Kit.below_two hbel (.int .i64 2) (.int .i64 k)
        clear HA hl
        rcases hn with hn | ⟨hn, hn2⟩
        all_goals
          go_wp2
          refine bodyPost_ret (v := .agg #[.int .i64 2, .int .i64 k]) (by simp [results, Try.results20, go_sem, q.1, q.2]) rfl ⟨?_, hbf⟩
          rw [(chk_some _ _ HE.out).1, (chk_some _ _ HE.out).2]
      · have HE : Hid (∀ j (_ : j < k + 1) (hj : j < s.data.toList.length), Pl.isL (s.data.toList[j].toNat) = true) := by
          intro j hj hj'
          rcases Nat.lt_or_ge j k with h1 | h1
          · exact HA.out j h1 hj'
          · have : j = k := by omega
            subst this
            exact hl
        obtain ⟨hn, hn2⟩ := of_decide_eq_true (show decide _ = true from hl)
        have hd1 : decide ((s[k].toNat : Int) < 65) = false := by simp; omega
        have hd2 : decide (90 < (s[k].toNat : Int)) = false := by simp; omega
        clear HA hl
        go_wp2
        exact ⟨⟨k + 1, by omega, by go_num, HE⟩, by simp [intOf]; omega⟩
    · have HE : Hid (s.data.toList.findIdx? Pl.bad = none) := Pl.chk_all _ fun j hj => HA.out j (by have := HL.out; omega) hj
      have q := Kit.read_two (.int .i64 0) (.int .i64 0) c0 c1
      have hbf := Kit.below_two hbel (.int .i64 0) (.int .i64 0)
      clear HA HC
      go_wp2
      refine bodyPost_ret (v := .agg #[.int .i64 0, .int .i64 0]) (by simp [results, Try.results20, go_sem, q.1, q.2]) rfl ⟨?_, hbf⟩
      rw [(chk_none _ HE.out).1, (chk_none _ HE.out).2]
end Go.Proofs.Ytkangeheamknoaa
