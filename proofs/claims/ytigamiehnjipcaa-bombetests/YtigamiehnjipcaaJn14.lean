/-
  Several texts, joined: BGEq, LBAl.
-/
import Derived.Test.YtigamiehnjipcaaJn6
import Derived.Test.YtigamiehnjipcaaJn11
import Derived.Test.YtigamiehnjipcaaBoSm
/-
  '==' between a guess and itself.
-/
namespace Go.Proofs.Ytigamiehnjipcaa
open Go.RowKit PK Vg

theorem guess_held : (Try.prog).stoodInHeld 54 = false := by kernel_rfl
theorem eqg_gen (a b : Nat) (p : Nat → Int) (w : World) (d : Nat) : (Op.equalIn (d + 3) 54 (.agg (ints 28 (gsF a b p))) (.agg (ints 28 (gsF a b p)))).run Try.prog w = .ok true w := by
  have hs : (sizeOf 25).run Try.prog w = .ok 26 w := by
    obtain ⟨i, hi, hz⟩ := Option.map_eq_some_iff.1 info_perm
    simp [sizeOf, typeInfo, hi, hz]
  have e0 : ∀ z : Int, (Op.equalIn (d + 2) 3 (.int .i64 z) (.int .i64 z)).run Try.prog w = .ok true w := fun z => by
    rw [Op.equalIn]
    simp [Sem.run_bind, run_underlying Try.underlying3]
  have e2 : (Op.equalIn (d + 2) 25 (.agg (ints 26 p)) (.agg (ints 26 p))).run Try.prog w = .ok true w := by
    have := run_equalIn_ints (P := Try.prog) w d 25 3 26 Try.underlying25 Try.underlying3 info_int p p
    rw [eqI_refl] at this
    exact this
  have c0 : (ints 28 (gsF a b p))[0]? = some (.int .i64 (a : Nat)) := ints_get (gsF a b p) (by decide)
  have c1 : (ints 28 (gsF a b p))[1]? = some (.int .i64 (b : Nat)) := ints_get (gsF a b p) (by decide)
  have c2' : ((ints 28 (gsF a b p)).extract 2 28) = ints 26 p := by
    apply Array.ext_getElem?
    intro j
    by_cases hj : j < 26
    · rw [ints_get _ hj, Array.getElem?_extract, if_pos (by rw [ints_size]; omega), ints_get _ (by omega)]
      unfold gsF
      rw [if_neg (by omega), if_neg (by omega), show 2 + j - 2 = j by omega]
    · rw [Array.getElem?_eq_none (by simp [ints_size]; omega), Array.getElem?_eq_none (by simp [ints_size]; omega)]
  have hh := guess_held
  generalize ints 28 (gsF a b p) = cs at *
  generalize ints 26 p = c2 at *
  have hS : Try.prog.underlying 54 = some (.struct (Try.prog.fieldsOf 54)) := by kernel_rfl
  rw [run_equalIn_struct w (d + 2) 54 _ _ hS hh]
  simp only [Program.fieldsOf, Try.underlying54]
  clear hS hh
  go_simp
theorem run_eq_guess (a b : Nat) (p : Nat → Int) (w : World) : (Op.equalIn 10000 54 (.agg (ints 28 (gsF a b p))) (.agg (ints 28 (gsF a b p)))).run Try.prog w = .ok true w := eqg_gen a b p w 9997
end Go.Proofs.Ytigamiehnjipcaa

/-
  Contract of law10.alive.
-/
namespace Go.Proofs.Ytigamiehnjipcaa
open Go.RowKit PK Vg

theorem al_E : plE [65, 66, 67] [66] = 0 := by rfl
theorem al_L : plL [65, 66, 67] [66] = [0, 2] := by rfl
set_option maxRecDepth 100000 in
set_option maxHeartbeats 1000000 in
theorem alive10_any (w : World) : Calls Try.prog 22 #[] w fun e w' => e = .returned (.bool true) ∧ Below w.heap.size w w' := by
  have HP := (show Hid (∀ W, Calls Try.prog 16 #[.string ⟨#[65, 66, 67]⟩, .string ⟨#[66]⟩] W fun e w' => ∃ a c A, e = .returned (.tuple #[.slice a 2 c, .agg #[.int .i64 0, .int .i64 A]]) ∧ Below W.heap.size W w') from fun W => by
    refine (places_any ⟨#[65, 66, 67]⟩ ⟨#[66]⟩ W).mono ?_
    rintro e w' ⟨v, h1, h2, h3⟩
    have e1 : (⟨#[65, 66, 67]⟩ : ByteArray).data.toList = [65, 66, 67] := rfl
    have e2 : (⟨#[66]⟩ : ByteArray).data.toList = [66] := rfl
    rw [e1, e2, al_E] at h1
    rw [e1, e2, al_L] at h2
    obtain ⟨a, c, hv⟩ := own_slice' h2
    exact ⟨a, c, _, by rw [h1, hv]; rfl, h3⟩)
  go_enter Try.func22, Try.ntmps22
  go_wp2_with fail
  refine (HP.out _).mono ?_
  rintro e W1 ⟨a, c, A, rfl, hb⟩
  have HB := (show Hid _ from hb.alloc hb.size (.cells #[.int .i64 0, .int .i64 A] 39))
  have c0 := (RowAt.new W1 39 #[.int .i64 0, .int .i64 A]).cell (i := 0) rfl
  clear hb HP
  go_wp2
  go_ret
  exact ⟨rfl, HB.out⟩
end Go.Proofs.Ytigamiehnjipcaa
