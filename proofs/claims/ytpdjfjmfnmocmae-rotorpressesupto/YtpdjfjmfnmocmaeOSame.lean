/-
  Contract of perm.Same.
-/
import Derived.Test.YtpdjfjmfnmocmaeOPm
import Derived.Deep.QuietTactic
import Derived.BigQuiet
namespace Go.Proofs.Ytpdjfjmfnmocmae
open Go.RowKit PK

def fill (a : Nat → Nat) (v : Nat → Int) : Nat → Nat → Int
  | 0 => fun _ => 0
  | k + 1 => upd (fill a v k) (a k) (v k)
theorem taking_any (m : Nat) (cap : Array Value) (a : Nat → Nat) (v : Nat → Int) (ha : ∀ i, i < 26 → a i < 26) (w : World) (hent : ∀ (args : Array Value) (W : World), (callFunc m args).run Try.prog W = .ok (.enter m args) W)
    (hp : ∀ i, i < 26 → ∀ W : World, Below w.heap.size w W → Calls Try.prog m (#[.int .i64 (i : Nat)] ++ cap) W fun e w' => e = .returned (.tuple #[.int .i64 (a i : Nat), .int .i64 (v i)]) ∧ Below W.heap.size W w') :
    Calls Try.prog 88 #[.func (.func m) #[] cap] w fun e w' => e = .returned (.agg (ints 26 (fill a v 26))) ∧ Below w.heap.size w w' := by
  have HP : Hid (∀ i, i < 26 → ∀ W : World, Below w.heap.size w W → Calls Try.prog m (#[.int .i64 (i : Nat)] ++ cap) W fun e w' => e = .returned (.tuple #[.int .i64 (a i : Nat), .int .i64 (v i)]) ∧ Below W.heap.size W w') := hp
  clear hp
  go_enter Try.func88, Try.ntmps88
  go_wp2
  rw [zero26]
  go_loopw [7] (fun i W => ∃ k : Nat, k ≤ 26 ∧ i = .int .i64 k ∧ RowAt W w.heap.size 50 (ints 26 fun _ => 0) ∧ RowAt W (w.heap.size + 1) 50 (ints 26 (fill a v k)) ∧ Below w.heap.size w W) (fun i _ => (26 - intOf i).toNat)
  case atStart =>
    refine ⟨0, by omega, rfl, (RowAt.new w _ _).alloc _, ?_, ((Below.refl _ _).alloc (Nat.le_refl _) _).alloc (by simp) _⟩
    have := RowAt.new (w.alloc (Obj.cells (ints 26 fun _ => 0) 50)) 50 (ints 26 fun x => 0)
    rw [World.size_alloc] at this
    exact this
  case round =>
    obtain ⟨k, hk, rfl, hrow0, hrow, hb⟩ := hrel
    by_cases hlt : k < 26
    · have ha' := ha k hlt
      have hsz := hb.size
      have h1 := hrow.lt
      have HW := HP.out k hlt wr hb
      have HV : Hid (Calls Try.prog m (#[.int .i64 (k : Nat)] ++ cap) wr fun e w' => e = .returned (.tuple #[.int .i64 (a k : Nat), .int .i64 (v k)]) ∧ Below wr.heap.size wr w') := HW
      clear HW
      obtain ⟨n, hn⟩ : ∃ n : Nat, n = a k := ⟨_, rfl⟩
      rw [← hn] at HV ha'
      have HNN : Hid (n = a k) := hn
      clear hn
      go_wp2_with fail
      refine HV.out.mono ?_
      rintro e w1 ⟨rfl, hb1⟩
      have hrow1 := hrow.below hb1 h1
      have hc := hrow1.cell (ints_get (fill a v k) ha')
      have hf := hrow1.frozen n
      go_wp2
      go_roundw
      case rel =>
        refine ⟨k + 1, by omega, by go_num, ?_, ?_, ?_⟩
        · exact (hrow0.below hb1 hrow0.lt).setOther _ _ (by simp)
        · have := hrow1.set n (.int .i64 (v k))
          rw [ints_set] at this
          show RowAt _ _ _ (ints 26 (upd (fill a v k) (a k) (v k)))
          rw [← HNN.out]
          exact this
        · exact (hb.trans (hb1.mono hsz)).setCell (by simp) _
      case measure => simp [intOf]; omega
    · have HK : Hid (k = 26) := by rw [Hid]; omega
      have h1 := hrow.lt
      go_wp2_with (first
        | refine wpList_load_row rfl 50 _ rfl (w.heap.size + 1) rfl 50 (ints 26 (fill a v k)) (0, 0) _ hrow Try.underlying50 rfl (by rw [ints_size]; exact info_perm) ?_
        | refine wpList_store_row rfl 50 _ _ rfl w.heap.size (ints 26 (fill a v k)) rfl rfl 50 _ hrow0 (by rw [ints_size]; exact info_perm) (by simp only [ints_size]) (ints_one _ _) ?_)
      refine bodyPost_ret (v := .agg (ints 26 (fill a v k))) (results_cell_row rfl _ _ w.heap.size 50 _ (0, 0) _ rfl (hrow0.row _) Try.underlying50 rfl (by rw [ints_size]; exact info_perm)) rfl ⟨by rw [HK.out], Below.setRow hb _ (Nat.le_refl _) _⟩
theorem fill_at (a : Nat → Nat) (v : Nat → Int) (hi : ∀ i j, i < 26 → j < 26 → a i = a j → i = j) : ∀ k, k ≤ 26 → ∀ i, i < k → fill a v k (a i) = v i
  | 0, _, i, h => by omega
  | k + 1, hk, i, h => by
    show upd (fill a v k) (a k) (v k) (a i) = v i
    by_cases e : i = k
    · subst e; simp
    · rw [upd_other _ _ (fun e2 => e (hi i k (by omega) (by omega) e2))]
      exact fill_at a v hi k (by omega) i (by omega)
theorem fill_id (v : Nat → Int) : ints 26 (fill (fun i => i) v 26) = ints 26 v := ints_ext fun j hj => fill_at (fun i => i) v (fun _ _ _ _ e => e) 26 (Nat.le_refl _) j hj
end Go.Proofs.Ytpdjfjmfnmocmae
