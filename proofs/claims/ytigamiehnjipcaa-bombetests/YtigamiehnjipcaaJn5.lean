/-
  Several texts, joined: OSame, OBack.
-/
import Derived.Test.YtigamiehnjipcaaOPm
import Derived.Deep.QuietTactic
import Derived.BigQuiet
/-
  Contract of perm.Same.
-/
namespace Go.Proofs.Ytigamiehnjipcaa
open Go.RowKit PK

def fill (a : Nat → Nat) (v : Nat → Int) : Nat → Nat → Int
  | 0 => fun _ => 0
  | k + 1 => upd (fill a v k) (a k) (v k)
theorem taking_any (m : Nat) (cap : Array Value) (a : Nat → Nat) (v : Nat → Int) (ha : ∀ i, i < 26 → a i < 26) (w : World) (hent : ∀ (args : Array Value) (W : World), (callFunc m args).run Try.prog W = .ok (.enter m args) W)
    (hp : ∀ i, i < 26 → ∀ W : World, Below w.heap.size w W → Calls Try.prog m (#[.int .i64 (i : Nat)] ++ cap) W fun e w' => e = .returned (.tuple #[.int .i64 (a i : Nat), .int .i64 (v i)]) ∧ Below W.heap.size W w') :
    Calls Try.prog 50 #[.func (.func m) #[] cap] w fun e w' => e = .returned (.agg (ints 26 (fill a v 26))) ∧ Below w.heap.size w w' := by
  have HP : Hid (∀ i, i < 26 → ∀ W : World, Below w.heap.size w W → Calls Try.prog m (#[.int .i64 (i : Nat)] ++ cap) W fun e w' => e = .returned (.tuple #[.int .i64 (a i : Nat), .int .i64 (v i)]) ∧ Below W.heap.size W w') := hp
  clear hp
  go_enter Try.func50, Try.ntmps50
  go_wp2
  rw [zero26]
  go_loopw [7] (fun i W => ∃ k : Nat, k ≤ 26 ∧ i = .int .i64 k ∧ RowAt W w.heap.size 25 (ints 26 fun _ => 0) ∧ RowAt W (w.heap.size + 1) 25 (ints 26 (fill a v k)) ∧ Below w.heap.size w W) (fun i _ => (26 - intOf i).toNat)
  case atStart =>
    refine ⟨0, by omega, rfl, (RowAt.new w _ _).alloc _, ?_, ((Below.refl _ _).alloc (Nat.le_refl _) _).alloc (by simp) _⟩
    have := RowAt.new (w.alloc (Obj.cells (ints 26 fun _ => 0) 25)) 25 (ints 26 fun x => 0)
    rw [World.size_alloc] at this
    exact this
  case round =>
    obtain ⟨k, hk, rfl, hrow0, hrow, hb⟩ := hrel
    by_cases hlt : k < 26
    · have ha' := ha k hlt
      have hsz := hb.size
      have h1 := hrow.lt
      have HW := HP.out k hlt wr hb
      have HV : Hid (Calls Try.prog m (#[.int .i64 (k : Nat)] ++ cap) wr fun e w' => e = .returned (.tuple #[.int .i64 (a k : Nat), .int .i64 (v k)]) ∧ Below wr.heap.size wr w') := HW
      clear HW
      obtain ⟨n, hn⟩ : ∃ n : Nat, n = a k := ⟨_, rfl⟩
      rw [← hn] at HV ha'
      have HNN : Hid (n = a k) := hn
      clear hn
      go_wp2_with fail
      refine HV.out.mono ?_
      rintro e w1 ⟨rfl, hb1⟩
      have hrow1 := hrow.below hb1 h1
      have hc := hrow1.cell (ints_get (fill a v k) ha')
      have hf := hrow1.frozen n
      go_wp2
      go_roundw
      case rel =>
        refine ⟨k + 1, by omega, by go_num, ?_, ?_, ?_⟩
        · exact (hrow0.below hb1 hrow0.lt).setOther _ _ (by simp)
        · have := hrow1.set n (.int .i64 (v k))
          rw [ints_set] at this
          show RowAt _ _ _ (ints 26 (upd (fill a v k) (a k) (v k)))
          rw [← HNN.out]
          exact this
        · exact (hb.trans (hb1.mono hsz)).setCell (by simp) _
      case measure => simp [intOf]; omega
    · have HK : Hid (k = 26) := by rw [Hid]; omega
      have h1 := hrow.lt
      go_wp2_with (first
        | refine wpList_load_row rfl 25 _ rfl (w.heap.size + 1) rfl 25 (ints 26 (fill a v k)) (0, 0) _ hrow Try.underlying25 rfl (by rw [ints_size]; exact info_perm) ?_
        | refine wpList_store_row rfl 25 _ _ rfl w.heap.size (ints 26 (fill a v k)) rfl rfl 25 _ hrow0 (by rw [ints_size]; exact info_perm) (by simp only [ints_size]) (ints_one _ _) ?_)
      refine bodyPost_ret (v := .agg (ints 26 (fill a v k))) (results_cell_row rfl _ _ w.heap.size 25 _ (0, 0) _ rfl (hrow0.row _) Try.underlying25 rfl (by rw [ints_size]; exact info_perm)) rfl ⟨by rw [HK.out], Below.setRow hb _ (Nat.le_refl _) _⟩
theorem fill_at (a : Nat → Nat) (v : Nat → Int) (hi : ∀ i j, i < 26 → j < 26 → a i = a j → i = j) : ∀ k, k ≤ 26 → ∀ i, i < k → fill a v k (a i) = v i
  | 0, _, i, h => by omega
  | k + 1, hk, i, h => by
    show upd (fill a v k) (a k) (v k) (a i) = v i
    by_cases e : i = k
    · subst e; simp
    · rw [upd_other _ _ (fun e2 => e (hi i k (by omega) (by omega) e2))]
      exact fill_at a v hi k (by omega) i (by omega)
theorem fill_id (v : Nat → Int) : ints 26 (fill (fun i => i) v 26) = ints 26 v := ints_ext fun j hj => fill_at (fun i => i) v (fun _ _ _ _ e => e) 26 (Nat.le_refl _) j hj
theorem same1_any (i : Int) (w : World) : Calls Try.prog 51 #[.int .i64 i] w fun e w' => e = .returned (.tuple #[.int .i64 i, .int .i64 i]) ∧ w = w' := by
  go_enter Try.func51, Try.ntmps51
  go_wp2
  go_ret2
  exact ⟨rfl, rfl⟩
theorem same_any (w : World) : Calls Try.prog 24 #[] w fun e w' => e = .returned (.agg (ints 26 (Pm.up fun i => i))) ∧ Below w.heap.size w w' := by
  go_enter Try.func24, Try.ntmps24
  go_wp2_with fail
  rw [zero26]
  refine (taking_any 51 #[] (fun i => i) (Pm.up fun i => i) (fun _ h => h) _ (by intro args W; go_simp) (fun i hi W _ => (same1_any i W).mono ?_)).mono ?_
  · rintro e w' ⟨rfl, rfl⟩
    exact ⟨rfl, Below.refl _ _⟩
  · rintro e w1 ⟨rfl, hb1⟩
    rw [fill_id]
    have hrow := (RowAt.new w 25 (ints 26 fun _ => 0)).below hb1 (by simp)
    go_wp2_with (refine wpList_store_row rfl 25 _ _ rfl w.heap.size (ints 26 (Pm.up fun i => i)) rfl rfl 25 _ hrow (by rw [ints_size]; exact info_perm) (by simp only [ints_size]) (ints_one _ _) ?_)
    exact bodyPost_ret (v := .agg (ints 26 (Pm.up fun i => i))) (results_cell_row rfl _ _ w.heap.size 25 _ (0, 0) _ rfl (hrow.row _) Try.underlying25 rfl (by rw [ints_size]; exact info_perm)) rfl ⟨rfl, Below.setRow (((Below.refl _ _).alloc (Nat.le_refl _) _).trans (hb1.mono (by simp))) _ (Nat.le_refl _) _⟩
end Go.Proofs.Ytigamiehnjipcaa

/-
  Contract of perm.Back.
-/
namespace Go.Proofs.Ytigamiehnjipcaa
open Go.RowKit PK

theorem firstWrong_any (fs : Nat → Nat → Int) (n : Nat) (hn : n ≤ 2) (b : Nat) (w : World) (hbw : b < w.heap.size) (hr : ∀ k, k < n → w.rangeAt b (k * 26) (ints 26 (fs k)).toList) :
    Calls Try.prog 54 #[.slice (some ⟨b, 0, none⟩) n n] w fun e w' => e = .returned (.int .i64 (Pm.firstBad fs n)) ∧ Below w.heap.size w w' := by
  have HR : Hid (∀ k, k < n → w.rangeAt b (k * 26) (ints 26 (fs k)).toList) := hr
  clear hr
  go_enter Try.func54, Try.ntmps54
  go_wp2
  go_loopw [8] (fun i W => ∃ k : Nat, k ≤ n ∧ i = .int .i64 k ∧ Hid (Pm.firstBad fs k = 0) ∧ Below w.heap.size w W) (fun i _ => (n - intOf i).toNat)
  case atStart => exact ⟨0, by omega, rfl, rfl, Below.refl _ _⟩
  case round =>
    obtain ⟨k, hk, rfl, HN, hb⟩ := hrel
    have hsz := hb.size
    by_cases hlt : k < n
    · have HC : Hid (wr.rangeAt b (k * 26) (ints 26 (fs k)).toList) := Below.rangeAt hb (HR.out k hlt) hbw
      have hX : Pm.wrong (fs k) = 0 ∨ (Pm.wrong (fs k) != 0) = true := by by_cases e : Pm.wrong (fs k) = 0 <;> simp [e]
      obtain ⟨x, hx⟩ : ∃ x, x = Pm.wrong (fs k) := ⟨_, rfl⟩
      rw [← hx] at hX
      have HX : Hid (x = Pm.wrong (fs k)) := hx
      clear hx
      have hcall : ∀ W : World, Calls Try.prog 76 #[.agg (ints 26 (fs k))] W fun e w' => e = .returned (.int .i64 x) ∧ Below W.heap.size W w' := fun W => by rw [HX.out]; exact wrong_any (fs k) W
      have HL : Hid (∀ W : World, Calls Try.prog 76 #[.agg (ints 26 (fs k))] W fun e w' => e = .returned (.int .i64 x) ∧ Below W.heap.size W w') := hcall
      clear hcall
      rcases hX with rfl | hX
      · go_wp2_with (first
          | refine wpList_load_mid rfl 25 _ rfl b (k * 26) rfl (ints 26 (fs k)).toList _ HC.out Try.underlying25 rfl (by rw [Array.length_toList, ints_size]; exact info_perm) ?_
          | (refine wpList_store_row rfl 25 _ _ rfl wr.heap.size (ints 26 (fs k)) rfl rfl 25 _ (RowAt.new wr _ _) (by rw [ints_size]; exact info_perm) (by rw [ints_size]; rfl) (ints_one _ _) ?_; rw [World.setRow_alloc_new])
          | refine wpList_load_row rfl 25 _ rfl wr.heap.size rfl 25 (ints 26 (fs k)) (0, 0) _ (RowAt.new wr _ _) Try.underlying25 rfl (by rw [ints_size]; exact info_perm) ?_
          | (go_at_call 76; refine (HL.out _).mono ?_; rintro e w1 ⟨rfl, hb1⟩))
        go_roundw
        case rel => exact ⟨k + 1, by omega, by go_num, by rw [Hid, Pm.firstBad_succ fs k HN.out]; exact HX.out.symm, (hb.alloc hsz _).trans (hb1.mono (by simp; omega))⟩
        case measure => simp [intOf]; omega
      · go_wp2_with (first
          | refine wpList_load_mid rfl 25 _ rfl b (k * 26) rfl (ints 26 (fs k)).toList _ HC.out Try.underlying25 rfl (by rw [Array.length_toList, ints_size]; exact info_perm) ?_
          | (refine wpList_store_row rfl 25 _ _ rfl wr.heap.size (ints 26 (fs k)) rfl rfl 25 _ (RowAt.new wr _ _) (by rw [ints_size]; exact info_perm) (by rw [ints_size]; rfl) (ints_one _ _) ?_; rw [World.setRow_alloc_new])
          | refine wpList_load_row rfl 25 _ rfl wr.heap.size rfl 25 (ints 26 (fs k)) (0, 0) _ (RowAt.new wr _ _) Try.underlying25 rfl (by rw [ints_size]; exact info_perm) ?_
          | (go_at_call 76; refine (HL.out _).mono ?_; rintro e w1 ⟨rfl, hb1⟩))
        go_ret
        exact ⟨ret_int (HX.out.trans (Pm.firstBad_stop fs k n HN.out (by rw [← HX.out]; simpa using hX) hlt).symm), (hb.alloc hsz _).trans (hb1.mono (by simp; omega))⟩
    · have HK : Hid (k = n) := by rw [Hid]; omega
      go_wp2
      go_ret
      exact ⟨ret_int (by rw [← HK.out]; exact HN.out.symm), hb⟩
theorem zero_perm : (Try.prog.info? 25).map (fun i => (i.zero, i.size)) = some (some (.agg (ints 26 fun _ => 0)), 26) := by kernel_rfl
theorem fill_perm (p : Nat → Nat) (hp : Pm.IsPerm p) (v : Nat → Int) : ints 26 (fill p v 26) = ints 26 fun j => v (Pm.inv p j) := ints_ext fun j hj => by
  have h := hp.inv_spec j hj
  have := fill_at p v hp.inj 26 (Nat.le_refl _) (Pm.inv p j) h.1
  rw [h.2] at this
  exact this
theorem fill_back (p : Nat → Nat) (hp : Pm.IsPerm p) : ints 26 (fill p (Pm.up fun i => i) 26) = ints 26 (Pm.up (Pm.inv p)) := fill_perm p hp _
theorem one_ok (p : Nat → Nat) (hp : Pm.IsPerm p) : Pm.firstBad (fun _ => Pm.up p) 1 = 0 := (Pm.firstBad_succ (fun _ => Pm.up p) 0 rfl).trans (Pm.wrong_up p hp)
theorem back1_any (p : Nat → Nat) (i : Nat) (hi : i < 26) (bp : Nat) (w : World) (hrp : RowAt w bp 25 (ints 26 (Pm.up p))) :
    Calls Try.prog 84 #[.int .i64 (i : Int), .pointer (some ⟨bp, 0, none⟩)] w fun e w' => e = .returned (.tuple #[.int .i64 (p i : Nat), .int .i64 (i : Int)]) ∧ Below w.heap.size w w' := by
  have hc1 := hrp.cell (ints_get (Pm.up p) hi)
  simp only [Pm.up] at hc1
  clear hrp
  go_enter Try.func84, Try.ntmps84
  go_wp2
  go_ret2
  exact ⟨rfl, rfl, rfl, rfl, Nat.le_refl _, fun _ _ => rfl⟩
theorem back_ok (p : Nat → Nat) (hp : Pm.IsPerm p) (w : World) :
    Calls Try.prog 75 #[.agg (ints 26 (Pm.up p))] w fun e w' => e = .returned (.tuple #[.agg (ints 26 (Pm.up (Pm.inv p))), .int .i64 0]) ∧ Below w.heap.size w w' := by
  have H0 : Hid (Pm.firstBad (fun _ => Pm.up p) 1 = 0) := one_ok p hp
  have hmf : ∀ (fn : Fn) (first cap : Array Value) (w : World), (Instr.makeFunc fn first cap).run Try.prog w = .ok (.func fn first cap) w := fun _ _ _ _ => rfl
  go_enter Try.func75, Try.ntmps75
  go_wp2_with (first
    | refine wpList_load_row rfl 25 _ rfl w.heap.size rfl 25 (ints 26 (Pm.up p)) (0, 0) _ ((RowAt.new w _ _).alloc _) Try.underlying25 rfl (by rw [ints_size]; exact info_perm) ?_
    | refine wpList_build1 rfl 57 25 _ rfl 26 (Pm.up p) rfl (by decide) Try.underlying57 zero_perm (by decide) ?_)
  rw [zero26]
  refine (firstWrong_any (fun _ => Pm.up p) 1 (by decide) _ _ (by simp) (range_one (RowAt.newAt (by simp)))).mono ?_
  rintro e W1 ⟨rfl, hb0⟩
  obtain ⟨r1, r3, hb1, hs1⟩ := after1 hb0
  clear hb0
  rw [H0.out]
  go_wp2_with fail
  refine (taking_any 84 #[.pointer (some ⟨w.heap.size, 0, none⟩)] p (Pm.up fun i => i) hp.lt _ (by intro args W; go_simp) (fun i hi W hW => back1_any p i hi _ W (r1.below hW (by omega)))).mono ?_
  rintro e W2 ⟨rfl, hb2⟩
  rw [fill_back p hp]
  have hs2 := hb2.size
  have hrow := r3.below hb2 (by omega)
  go_wp2_with (refine wpList_store_row rfl 25 _ _ rfl (w.heap.size + 1) (ints 26 (Pm.up (Pm.inv p))) rfl rfl 25 _ hrow (by rw [ints_size]; exact info_perm) (by simp only [ints_size]) (ints_one _ _) ?_)
  exact bodyPost_ret (v := .tuple #[.agg (ints 26 (Pm.up (Pm.inv p))), .int .i64 0]) (results_cell_tmp2 rfl _ _ (w.heap.size + 1) 25 _ (0, 0) _ _ rfl rfl (hrow.row _) Try.underlying25 rfl (by rw [ints_size]; exact info_perm)) rfl ⟨rfl, Below.setRow (hb1.trans (hb2.mono (by omega))) _ (by omega) _⟩
end Go.Proofs.Ytigamiehnjipcaa
