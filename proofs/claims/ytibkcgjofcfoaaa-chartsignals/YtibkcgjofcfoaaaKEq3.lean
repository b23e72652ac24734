/-
  '==' between three permutations and themselves.
-/
import Derived.Test.YtibkcgjofcfoaaaChCh
import Derived.Test.YtibkcgjofcfoaaaJn10
namespace Go.Proofs.Ytibkcgjofcfoaaa
open Go.RowKit PK Vg

/-- '==' between three permutations and themselves. -/
theorem eq3_gen (P : Nat → Nat → Nat) (w : World) (d : Nat) : (Op.equalIn (d + 3) 43 (.agg (ints 78 (flat P))) (.agg (ints 78 (flat P)))).run Try.prog w = .ok true w := by
  have hs : ∀ W, (sizeOf 25).run Try.prog W = .ok 26 W := fun W => by
    obtain ⟨i, hi, hz⟩ := Option.map_eq_some_iff.1 info_perm
    simp [sizeOf, typeInfo, hi, hz]
  have hp : ∀ k, k < 3 → (part 25 (ints 78 (flat P)) (k * 26)).run Try.prog w = .ok (.agg (ints 26 (Pm.up (P k)))) w := fun k hk => by
    have he : ((ints 78 (flat P)).extract (k * 26) (k * 26 + 26)) = ints 26 (Pm.up (P k)) := by
      apply Array.ext_getElem?
      intro j
      by_cases hj : j < 26
      · rw [ints_get _ hj, Array.getElem?_extract, if_pos (by rw [ints_size]; omega), ints_get _ (by omega)]
        unfold flat Pm.up
        rw [show (k * 26 + j) / 26 = k by omega, show (k * 26 + j) % 26 = j by omega]
      · rw [Array.getElem?_eq_none (by simp [ints_size]; omega), Array.getElem?_eq_none (by simp [ints_size]; omega)]
    unfold part isAgg
    simp only [Sem.run_bind, run_underlying Try.underlying25, Result.andThen_ok, Sem.run_pure, if_true, hs, he]
  have hq : ∀ k, (Op.equalIn (d + 2) 25 (.agg (ints 26 (Pm.up (P k)))) (.agg (ints 26 (Pm.up (P k))))).run Try.prog w = .ok true w := fun k => by
    have := run_equalIn_ints (P := Try.prog) w d 25 3 26 Try.underlying25 Try.underlying3 info_int (Pm.up (P k)) (Pm.up (P k))
    rw [eqI_refl] at this
    exact this
  obtain ⟨A, hA⟩ : ∃ A : Nat → Value, A = fun k => .agg (ints 26 (Pm.up (P k))) := ⟨_, rfl⟩
  have hp' : ∀ k, k < 3 → (part 25 (ints 78 (flat P)) (k * 26)).run Try.prog w = .ok (A k) w := fun k hk => by rw [hA]; exact hp k hk
  have hq' : ∀ k, (Op.equalIn (d + 2) 25 (A k) (A k)).run Try.prog w = .ok true w := fun k => by rw [hA]; exact hq k
  clear hp hq hA
  generalize ints 78 (flat P) = cs at *
  rw [Op.equalIn]
  simp only [Sem.run_bind, run_underlying Try.underlying43, Result.andThen_ok, hs, Std.Legacy.Range.forIn_eq_forIn_range', Std.Legacy.Range.size, Nat.sub_zero, Nat.add_sub_cancel, Nat.div_one]
  have hL : ∀ i ∈ List.range' 0 3, i < 3 := fun i hi => by simp at hi; omega
  clear hs
  revert hL
  generalize List.range' 0 3 = L
  intro hL
  induction L with
  | nil => simp
  | cons s L ih =>
    have hs' : s < 3 := hL s (by simp)
    have ih' := ih fun i hi => hL i (by simp [hi])
    rw [List.forIn_cons]
    have h1 := hp' s hs'
    have h2 := hq' s
    clear hp' hq' ih hL
    simp only [Sem.run_bind, h1, h2, Result.andThen_ok, Bool.not_true, Bool.false_eq_true, if_false, Sem.run_pure]
    exact ih'
theorem run_eq_three (P : Nat → Nat → Nat) (w : World) : (Op.equalIn 10000 43 (.agg (ints 78 (flat P))) (.agg (ints 78 (flat P)))).run Try.prog w = .ok true w := eq3_gen P w 9997
end Go.Proofs.Ytibkcgjofcfoaaa
