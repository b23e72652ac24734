/-
  PermReads: for every text the statement's function returns true, and its argument reads as before. No condition.
-/
import Derived.Test.YtphlnfmpbbefnaaRRead
import Derived.Deep.RegionHeld3
import Derived.OrdersHeld
namespace Go.Proofs.Ytphlnfmpbbefnaa
open Go.RowKit PK

theorem read_none : readOut [] = (Pm.up fun i => i, 0, 0) := rfl
theorem rd_call {Z : World} {b1 b2 b3 b4 b5 : Nat} {A B C D E : List Value} {W W' : World} (h1 : b1 < Z.heap.size) (h2 : b2 < Z.heap.size) (h3 : b3 < Z.heap.size) (h4 : b4 < Z.heap.size) (h5 : b5 < Z.heap.size)
    (h : Below Z.heap.size Z W ∧ W.rangeAt b1 0 A ∧ W.rangeAt b2 0 B ∧ W.rangeAt b3 0 C ∧ W.rangeAt b4 0 D ∧ W.rangeAt b5 0 E) (hc : Below W.heap.size W W') :
    Below Z.heap.size Z W' ∧ W'.rangeAt b1 0 A ∧ W'.rangeAt b2 0 B ∧ W'.rangeAt b3 0 C ∧ W'.rangeAt b4 0 D ∧ W'.rangeAt b5 0 E := by
  obtain ⟨a, b, c, d, e, f⟩ := h
  have hz := a.size
  exact ⟨a.trans (hc.mono hz), Below.rangeAt hc b (by omega), Below.rangeAt hc c (by omega), Below.rangeAt hc d (by omega), Below.rangeAt hc e (by omega), Below.rangeAt hc f (by omega)⟩
set_option maxRecDepth 100000 in
set_option maxHeartbeats 4000000 in
theorem law_reads (t : ByteArray) (hs : t.size ≤ maxLen) (w : World) :
    Calls Try.prog 7 #[.string t] w fun e w' => e = .returned (.bool true) ∧ Below w.heap.size w w' := by
  have H1 : Hid (∀ W, Calls Try.prog 33 #[.string t] W fun e w' => e = .returned (.tuple #[.agg (ints 26 (readOut t.data.toList).1), .agg #[.int .i64 (readOut t.data.toList).2.1, .int .i64 ((readOut t.data.toList).2.2 : Nat)]]) ∧ Below W.heap.size W w') := fun W => read_any t hs W
  have H2 : Hid (∀ W, Calls Try.prog 34 #[.string t] W fun e w' => e = .returned (.tuple #[.agg (ints 26 (readOut t.data.toList).1), .agg #[.int .i64 (readOut t.data.toList).2.1, .int .i64 ((readOut t.data.toList).2.2 : Nat)]]) ∧ Below W.heap.size W w') := fun W => rread_any t hs W
  have H3 : Hid (∀ W, Calls Try.prog 34 #[.string ⟨#[]⟩] W fun e w' => e = .returned (.tuple #[.agg (ints 26 (Pm.up fun i => i)), .agg #[.int .i64 0, .int .i64 0]]) ∧ Below W.heap.size W w') := fun W => by
    have := rread_any ⟨#[]⟩ (by decide) W
    have e : (⟨#[]⟩ : ByteArray).data.toList = [] := rfl
    rw [e, read_none] at this
    exact this
  generalize (readOut t.data.toList).1 = F at *
  generalize (readOut t.data.toList).2.1 = E at *
  generalize ((readOut t.data.toList).2.2 : Nat) = A at *
  go_enter Try.func7, Try.ntmps7
  go_wp2_with fail
  refine (H1.out _).mono ?_
  rintro e W1 ⟨rfl, hb1⟩
  go_wp2_with (first
    | (refine wpList_store_row rfl 35 _ _ rfl W1.heap.size (ints 26 F) rfl rfl 35 _ ((RowAt.new W1 _ _).alloc _) (by rw [ints_size]; exact info_perm) (by rw [ints_size]; rfl) (ints_one _ _) ?_; rw [setRow_under])
    | (refine wpList_store_row rfl 26 _ _ rfl (W1.heap.size + 1) #[.int .i64 E, .int .i64 (A : Int)] rfl rfl 26 _ (RowAt.newAt (by simp)) info_fault rfl (two_one _ _) ?_; rw [setRow_top]))
  have ra1 := (RowAt.new W1 35 (ints 26 F)).alloc (.cells #[.int .i64 E, .int .i64 (A : Int)] 26)
  have rf1 : RowAt ((W1.alloc (.cells (ints 26 F) 35)).alloc (.cells #[.int .i64 E, .int .i64 (A : Int)] 26)) (W1.heap.size + 1) 26 #[.int .i64 E, .int .i64 (A : Int)] := RowAt.newAt (by simp)
  refine (H2.out _).mono ?_
  rintro e W2 ⟨rfl, hb2⟩
  go_wp2_with (first
    | (refine wpList_store_row rfl 35 _ _ rfl W2.heap.size (ints 26 F) rfl rfl 35 _ ((RowAt.new W2 _ _).alloc _) (by rw [ints_size]; exact info_perm) (by rw [ints_size]; rfl) (ints_one _ _) ?_; rw [setRow_under])
    | (refine wpList_store_row rfl 26 _ _ rfl (W2.heap.size + 1) #[.int .i64 E, .int .i64 (A : Int)] rfl rfl 26 _ (RowAt.newAt (by simp)) info_fault rfl (two_one _ _) ?_; rw [setRow_top]))
  have ra2 := (RowAt.new W2 35 (ints 26 F)).alloc (.cells #[.int .i64 E, .int .i64 (A : Int)] 26)
  have rf2 : RowAt ((W2.alloc (.cells (ints 26 F) 35)).alloc (.cells #[.int .i64 E, .int .i64 (A : Int)] 26)) (W2.heap.size + 1) 26 #[.int .i64 E, .int .i64 (A : Int)] := RowAt.newAt (by simp)
  have ra1' := ((ra1.below hb2 ra1.lt).alloc (.cells (ints 26 F) 35)).alloc (.cells #[.int .i64 E, .int .i64 (A : Int)] 26)
  have rf1' := ((rf1.below hb2 rf1.lt).alloc (.cells (ints 26 F) 35)).alloc (.cells #[.int .i64 E, .int .i64 (A : Int)] 26)
  have hbw2 : Below w.heap.size w ((W2.alloc (.cells (ints 26 F) 35)).alloc (.cells #[.int .i64 E, .int .i64 (A : Int)] 26)) := by
    have h5 := hb1.size
    have h6 := hb2.size
    simp at h6
    exact ((((hb1.alloc h5 _).alloc (by simp; omega) _).trans (hb2.mono (by simp; omega))).alloc (by omega) _).alloc (by simp; omega) _
  have hsw2 : w.heap.size ≤ W2.heap.size := by
    have h5 := hb1.size
    have h6 := hb2.size
    simp at h6
    omega
  clear ra1 rf1 hb1 hb2
  refine (H3.out _).mono ?_
  rintro e W3 ⟨rfl, hb3⟩
  go_wp2_with (first
    | (refine wpList_store_row rfl 35 _ _ rfl W3.heap.size (ints 26 (Pm.up fun i => i)) rfl rfl 35 _ ((RowAt.new W3 _ _).alloc _) (by rw [ints_size]; exact info_perm) (by rw [ints_size]; rfl) (ints_one _ _) ?_; rw [setRow_under])
    | (refine wpList_store_row rfl 26 _ _ rfl (W3.heap.size + 1) #[.int .i64 0, .int .i64 0] rfl rfl 26 _ (RowAt.newAt (by simp)) info_fault rfl (two_one _ _) ?_; rw [setRow_top]))
  have ra3 := (RowAt.new W3 35 (ints 26 (Pm.up fun i => i))).alloc (.cells #[.int .i64 0, .int .i64 0] 26)
  have rf3 : RowAt ((W3.alloc (.cells (ints 26 (Pm.up fun i => i)) 35)).alloc (.cells #[.int .i64 0, .int .i64 0] 26)) (W3.heap.size + 1) 26 #[.int .i64 0, .int .i64 0] := RowAt.newAt (by simp)
  have rA := ((ra1'.below hb3 ra1'.lt).alloc (.cells (ints 26 (Pm.up fun i => i)) 35)).alloc (.cells #[.int .i64 0, .int .i64 0] 26)
  have rFl := ((rf1'.below hb3 rf1'.lt).alloc (.cells (ints 26 (Pm.up fun i => i)) 35)).alloc (.cells #[.int .i64 0, .int .i64 0] 26)
  have rB := ((ra2.below hb3 ra2.lt).alloc (.cells (ints 26 (Pm.up fun i => i)) 35)).alloc (.cells #[.int .i64 0, .int .i64 0] 26)
  have rG := ((rf2.below hb3 rf2.lt).alloc (.cells (ints 26 (Pm.up fun i => i)) 35)).alloc (.cells #[.int .i64 0, .int .i64 0] 26)
  have hbZ : Below w.heap.size w ((W3.alloc (.cells (ints 26 (Pm.up fun i => i)) 35)).alloc (.cells #[.int .i64 0, .int .i64 0] 26)) := by
    have h6 := hb3.size
    simp at h6
    exact ((hbw2.trans (hb3.mono (by simp; omega))).alloc (by omega) _).alloc (by simp; omega) _
  have hsZ : w.heap.size ≤ ((W3.alloc (.cells (ints 26 (Pm.up fun i => i)) 35)).alloc (.cells #[.int .i64 0, .int .i64 0] 26)).heap.size := by
    have h6 := hb3.size
    simp at h6 ⊢
    omega
  clear ra1' rf1' ra2 rf2 rf3 hb3 hbw2 hsw2
  obtain ⟨Z, hZ⟩ : ∃ Z, Z = (W3.alloc (.cells (ints 26 (Pm.up fun i => i)) 35)).alloc (.cells #[.int .i64 0, .int .i64 0] 26) := ⟨_, rfl⟩
  rw [← hZ] at rA rFl rB rG ra3 hbZ hsZ ⊢
  clear hZ
  have hu := Try.underlying35
  have hu2 := Try.underlying26
  have hiF : (Try.prog.info? 35).map (·.size) = some (ints 26 F).size := by rw [ints_size]; exact info_perm
  have hiI : (Try.prog.info? 35).map (·.size) = some (ints 26 (Pm.up fun i => i)).size := by rw [ints_size]; exact info_perm
  have hiE : (Try.prog.info? 26).map (·.size) = some (#[.int .i64 E, .int .i64 (A : Int)] : Array Value).size := info_fault
  have hre := refl_perm
  have hmg : Try.prog.eqGuardType Try.prog.depth 35 = false := by kernel_rfl
  have hmf : Try.prog.eqGuardType Try.prog.depth 26 = false := by kernel_rfl
  go_wp2
  refine wp_region_noPanic ?_
  refine wp_region_held_drew (S := (fun W => Below Z.heap.size Z W ∧ W.rangeAt W1.heap.size 0 (ints 26 F).toList ∧ W.rangeAt (W1.heap.size + 1) 0 (#[.int .i64 E, .int .i64 (A : Int)] : Array Value).toList ∧ W.rangeAt W2.heap.size 0 (ints 26 F).toList ∧ W.rangeAt (W2.heap.size + 1) 0 (#[.int .i64 E, .int .i64 (A : Int)] : Array Value).toList ∧ W.rangeAt W3.heap.size 0 (ints 26 (Pm.up fun i => i)).toList)) (by kernel_rfl) ⟨(Below.refl _ _).drew, rA.range, rFl.range, rB.range, rG.range, ra3.range⟩ (fun hS => ?_)
  refine take_load 0 23 rfl rfl (by kernel_rfl) (by kernel_rfl) (by kernel_rfl) (fun _ _ _ _ h => h) (by rfl) 35 _ (by rfl) (W1.heap.size) (ints 26 F) _ (by rfl) (fun W h => h.2.1) hu rfl hiF hS ?_
  simp only [List.setIfInBounds_toArray, List.set_cons_succ, List.set_cons_zero]
  refine take_load 1 24 rfl rfl (by kernel_rfl) (by kernel_rfl) (by kernel_rfl) (fun _ _ _ _ h => h) (by rfl) 35 _ (by rfl) (W2.heap.size) (ints 26 F) _ (by rfl) (fun W h => h.2.2.2.1) hu rfl hiF hS ?_
  simp only [List.setIfInBounds_toArray, List.set_cons_succ, List.set_cons_zero]
  refine take_pure 2 25 (.bool true) rfl rfl (by kernel_rfl) (by kernel_rfl) (by kernel_rfl) (fun _ _ _ _ h => h) (by rfl) (fun W => by clear hS; go_simp) hS ?_
  simp only [List.setIfInBounds_toArray, List.set_cons_succ, List.set_cons_zero]
  refine take_pure 3 26 (.bool true) rfl rfl (by kernel_rfl) (by kernel_rfl) (by kernel_rfl) (fun _ _ _ _ h => h) (by rfl) (fun W => by clear hS; go_simp) hS ?_
  simp only [List.setIfInBounds_toArray, List.set_cons_succ, List.set_cons_zero]
  refine take_load 4 27 rfl rfl (by kernel_rfl) (by kernel_rfl) (by kernel_rfl) (fun _ _ _ _ h => h) (by rfl) 26 _ (by rfl) (W1.heap.size + 1) ((#[.int .i64 E, .int .i64 (A : Int)] : Array Value)) _ (by rfl) (fun W h => h.2.2.1) hu2 rfl hiE hS ?_
  simp only [List.setIfInBounds_toArray, List.set_cons_succ, List.set_cons_zero]
  refine take_load 5 28 rfl rfl (by kernel_rfl) (by kernel_rfl) (by kernel_rfl) (fun _ _ _ _ h => h) (by rfl) 26 _ (by rfl) (W2.heap.size + 1) ((#[.int .i64 E, .int .i64 (A : Int)] : Array Value)) _ (by rfl) (fun W h => h.2.2.2.2.1) hu2 rfl hiE hS ?_
  simp only [List.setIfInBounds_toArray, List.set_cons_succ, List.set_cons_zero]
  refine take_pure 6 29 (.bool true) rfl rfl (by kernel_rfl) (by kernel_rfl) (by kernel_rfl) (fun _ _ _ _ h => h) (by rfl) (fun W => by clear hS; go_simp) hS ?_
  simp only [List.setIfInBounds_toArray, List.set_cons_succ, List.set_cons_zero]
  refine take_pure 7 30 (.bool true) rfl rfl (by kernel_rfl) (by kernel_rfl) (by kernel_rfl) (fun _ _ _ _ h => h) (by rfl) (fun W => by clear hS; go_simp) hS ?_
  simp only [List.setIfInBounds_toArray, List.set_cons_succ, List.set_cons_zero]
  refine take_pure 8 31 (.bool true) rfl rfl (by kernel_rfl) (by kernel_rfl) (by kernel_rfl) (fun _ _ _ _ h => h) (by rfl) (fun W => by clear hS; go_simp) hS ?_
  simp only [List.setIfInBounds_toArray, List.set_cons_succ, List.set_cons_zero]
  refine take_load 10 33 rfl rfl (by kernel_rfl) (by kernel_rfl) (by kernel_rfl) (fun _ _ _ _ h => h) (by rfl) 35 _ (by rfl) (W3.heap.size) (ints 26 (Pm.up fun i => i)) _ (by rfl) (fun W h => h.2.2.2.2.2) hu rfl hiI hS ?_
  simp only [List.setIfInBounds_toArray, List.set_cons_succ, List.set_cons_zero]
  refine wpAnyH_ready (rs := [9]) (by kernel_rfl) (by simp) ?_
  refine AllReadyH.cons (o := _) rfl (fun K hK => ?_) AllReadyH.nil
  rw [if_pos (by rfl)]
  go_simp
  refine (same_any _).mono ?_
  rintro e WQ1 ⟨rfl, hq1⟩
  refine hK.out _ _ (rd_call rA.lt rFl.lt rB.lt rG.lt ra3.lt hS hq1) (fun hS1 => ?_)
  clear hK hS
  have hS := hS1
  clear hS1 K
  refine take_pure 11 34 (.bool true) rfl rfl (by kernel_rfl) (by kernel_rfl) (by kernel_rfl) (fun _ _ _ _ h => h) (by rfl) (fun W => by clear hS; go_simp) hS ?_
  simp only [List.setIfInBounds_toArray, List.set_cons_succ, List.set_cons_zero]
  refine take_pure 12 35 (.bool true) rfl rfl (by kernel_rfl) (by kernel_rfl) (by kernel_rfl) (fun _ _ _ _ h => h) (by rfl) (fun W => by clear hS; go_simp) hS ?_
  simp only [List.setIfInBounds_toArray, List.set_cons_succ, List.set_cons_zero]
  refine take_pure 13 2 (.bool true) rfl rfl (by kernel_rfl) (by kernel_rfl) (by kernel_rfl) (fun _ _ _ _ h => h) (by rfl) (fun W => by clear hS; go_simp) hS ?_
  simp only [List.setIfInBounds_toArray, List.set_cons_succ, List.set_cons_zero]
  refine wpAnyH_done (by kernel_rfl) ?_ _
  refine NoPanic.normal ?_
  go_wp2
  go_ret
  exact ⟨by kernel_rfl, hbZ.trans (hS.1.mono hsZ)⟩
end Go.Proofs.Ytphlnfmpbbefnaa
