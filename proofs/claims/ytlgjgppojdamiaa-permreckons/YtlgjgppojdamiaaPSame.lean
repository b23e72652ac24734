/-
  Contract of perm.Same; what the calls of two arrays share.
-/
import Derived.Test.YtlgjgppojdamiaaPTaking
import Derived.Test.YtlgjgppojdamiaaPBuild
import Derived.Deep.QuietTactic
import Derived.BigQuiet
namespace Go.Proofs.Ytlgjgppojdamiaa
open Go.RowKit PK

theorem zero_perm : (Try.prog.info? 35).map (fun i => (i.zero, i.size)) = some (some (.agg (ints 26 fun _ => 0)), 26) := by kernel_rfl

theorem fill_at (a : Nat → Nat) (v : Nat → Int) (hi : ∀ i j, i < 26 → j < 26 → a i = a j → i = j) : ∀ k, k ≤ 26 → ∀ i, i < k → fill a v k (a i) = v i
  | 0, _, i, h => by omega
  | k + 1, hk, i, h => by
    show upd (fill a v k) (a k) (v k) (a i) = v i
    by_cases e : i = k
    · subst e; simp
    · rw [upd_other _ _ (fun e2 => e (hi i k (by omega) (by omega) e2))]
      exact fill_at a v hi k (by omega) i (by omega)
theorem fill_perm (p : Nat → Nat) (hp : Pm.IsPerm p) (v : Nat → Int) : ints 26 (fill p v 26) = ints 26 fun j => v (Pm.inv p j) := ints_ext fun j hj => by
  have h := hp.inv_spec j hj
  have := fill_at p v hp.inj 26 (Nat.le_refl _) (Pm.inv p j) h.1
  rw [h.2] at this
  exact this
theorem fill_id (v : Nat → Int) : ints 26 (fill (fun i => i) v 26) = ints 26 v := ints_ext fun j hj => fill_at (fun i => i) v (fun _ _ _ _ e => e) 26 (Nat.le_refl _) j hj
theorem fill_conj (p q : Nat → Nat) (hq : Pm.IsPerm q) : ints 26 (fill q (Pm.up fun i => q (p i)) 26) = ints 26 (Pm.up (Pm.conj p q)) := fill_perm q hq _
theorem fill_back (p : Nat → Nat) (hp : Pm.IsPerm p) : ints 26 (fill p (Pm.up fun i => i) 26) = ints 26 (Pm.up (Pm.inv p)) := fill_perm p hp _

set_option maxHeartbeats 400000 in
theorem same1_any (i : Int) (w : World) : Calls Try.prog 56 #[.int .i64 i] w fun e w' => e = .returned (.tuple #[.int .i64 i, .int .i64 i]) ∧ w = w' := by
  go_enter Try.func56, Try.ntmps56
  go_wp2
  go_ret2
  exact ⟨rfl, rfl⟩

set_option maxHeartbeats 1000000 in
theorem same_any (w : World) : Calls Try.prog 35 #[] w fun e w' => e = .returned (.agg (ints 26 (Pm.up fun i => i))) ∧ Below w.heap.size w w' := by
  go_enter Try.func35, Try.ntmps35
  go_wp2_with fail
  rw [zero26]
  refine (taking_any 56 #[] (fun i => i) (Pm.up fun i => i) (fun _ h => h) _ (by intro args W; go_simp) (fun i hi W _ => (same1_any i W).mono ?_)).mono ?_
  · rintro e w' ⟨rfl, rfl⟩
    exact ⟨rfl, Below.refl _ _⟩
  · rintro e w1 ⟨rfl, hb1⟩
    rw [fill_id]
    have hrow := (RowAt.new w 35 (ints 26 fun _ => 0)).below hb1 (by simp)
    go_wp2_with (refine wpList_store_row rfl 35 _ _ rfl w.heap.size (ints 26 (Pm.up fun i => i)) rfl rfl 35 _ hrow (by rw [ints_size]; exact info_perm) (by simp only [ints_size]) (ints_one _ _) ?_)
    exact bodyPost_ret (v := .agg (ints 26 (Pm.up fun i => i))) (results_cell_row rfl _ _ w.heap.size 35 _ (0, 0) _ rfl (hrow.row _) Try.underlying35 rfl (by rw [ints_size]; exact info_perm)) rfl ⟨rfl, Below.setRow (((Below.refl _ _).alloc (Nat.le_refl _) _).trans (hb1.mono (by simp))) _ (Nat.le_refl _) _⟩

/-- Two arrays, as those are given which a call looks over first. -/
def pair (f g : Nat → Int) : Nat → Nat → Int := fun k => if k = 0 then f else g
theorem pair_ok (p q : Nat → Nat) (hp : Pm.IsPerm p) (hq : Pm.IsPerm q) : Pm.firstBad (pair (Pm.up p) (Pm.up q)) 2 = 0 := by
  have h1 := Pm.firstBad_succ (pair (Pm.up p) (Pm.up q)) 0 rfl
  have h2 : Pm.firstBad (pair (Pm.up p) (Pm.up q)) 1 = 0 := h1.trans (Pm.wrong_up p hp)
  exact (Pm.firstBad_succ _ 1 h2).trans (Pm.wrong_up q hq)
theorem one_ok (p : Nat → Nat) (hp : Pm.IsPerm p) : Pm.firstBad (fun _ => Pm.up p) 1 = 0 := (Pm.firstBad_succ (fun _ => Pm.up p) 0 rfl).trans (Pm.wrong_up p hp)
theorem built_perm : Try.prog.built 35 [] = some (ints 26 fun _ => 0) := by kernel_rfl
end Go.Proofs.Ytlgjgppojdamiaa
