/-
  Contracts of the document's Same and SameLists (chapter 9), of lists that are the same.
-/
import Derived.Test.YtigamiehnjipcaaChTy
import Derived.Deep.QuietTactic
import Derived.BigQuiet
namespace Go.Proofs.Ytigamiehnjipcaa
open Go.RowKit PK Vg

set_option maxRecDepth 100000 in
set_option maxHeartbeats 2000000 in
theorem same9_ok (u v : Value) (n : Nat) (f : Nat → Int) (w : World) (hu : NumsAt w u n f) (hv : NumsAt w v n f) : Calls Try.prog 18 #[u, v] w fun e w' => e = .returned (.bool true) ∧ Below w.heap.size w w' := by
  obtain ⟨a, ca, rfl, hm, hca⟩ := hu
  obtain ⟨b, cb, rfl, _, hcb⟩ := hv
  unfold maxLen at hm
  have HA := (show Hid (∀ c, c < n → ∃ b o, a = some ⟨b, o, none⟩ ∧ w.cell? ⟨b, o + c, none⟩ = some (.int .i64 (f c))) from hca)
  have HB := (show Hid (∀ c, c < n → ∃ b' o, b = some ⟨b', o, none⟩ ∧ w.cell? ⟨b', o + c, none⟩ = some (.int .i64 (f c))) from hcb)
  have hne : ((n : Int) != (n : Int)) = false := by simp
  clear hca hcb
  go_enter Try.func18, Try.ntmps18
  go_wp2_with fail
  clear hne
  go_loopw [13] (fun i W => ∃ k : Nat, k ≤ n ∧ i = .int .i64 (k : Nat) ∧ Below w.heap.size w W) (fun i _ => ((n : Int) - intOf i).toNat)
  case atStart => exact ⟨0, by omega, rfl, Below.refl _ _⟩
  case round =>
    obtain ⟨k, hk, rfl, hbe⟩ := hrel
    by_cases hlt : k < n
    · have HLT : Hid (k < n) := hlt
      have hlt2 : (k : Int) < (n : Int) := by omega
      obtain ⟨b1, o1, rfl, h1⟩ := HA.out k hlt
      obtain ⟨b2, o2, rfl, h2⟩ := HB.out k hlt
      have c1 := (hbe.cell (p := ⟨b1, o1 + k, none⟩) (cell_block h1)).trans h1
      have c2 := (hbe.cell (p := ⟨b2, o2 + k, none⟩) (cell_block h2)).trans h2
      have HBE := (show Hid _ from hbe)
      generalize f k = x at *
      have hxx : (x != x) = false := by simp
      clear hbe h1 h2 hlt HA HB
      go_upto_region 6 with fail
      go_quiet (fail)
      go_wp2
      go_roundw
      case rel => exact ⟨k + 1, HLT.out, by go_num, HBE.out.trans ⟨rfl, rfl, rfl, Nat.le_refl _, fun _ _ => rfl⟩⟩
      case measure => have := HLT.out; simp [intOf]; omega
    · obtain rfl : k = n := by omega
      have hnn : ¬ ((k : Nat) : Int) < ((k : Nat) : Int) := by omega
      go_wp2
      go_ret
      exact ⟨rfl, hbe⟩
/-- Lists behind a slice. -/
def ListsAt (W : World) (v : Value) (m : Nat) (V : Nat → Value) (n : Nat → Nat) (f : Nat → Nat → Int) : Prop := ∃ b o cap, v = .slice (some ⟨b, o, none⟩) m cap ∧ ∀ i, i < m → W.cell? ⟨b, o + i, none⟩ = some (V i) ∧ NumsAt W (V i) (n i) (f i)
theorem ListsAt.below {w W : World} {v : Value} {m : Nat} {V : Nat → Value} {n : Nat → Nat} {f : Nat → Nat → Int} (h : ListsAt w v m V n f) (hb : Below w.heap.size w W) : ListsAt W v m V n f := by
  obtain ⟨b, o, cap, e, h1⟩ := h
  exact ⟨b, o, cap, e, fun i hi => ⟨(hb.cell (p := ⟨b, o + i, none⟩) (cell_block (h1 i hi).1)).trans (h1 i hi).1, (h1 i hi).2.below hb⟩⟩
set_option maxRecDepth 100000 in
set_option maxHeartbeats 2000000 in
theorem samelists_ok (u v : Value) (m : Nat) (hm : m ≤ 1000000) (U V : Nat → Value) (n : Nat → Nat) (f : Nat → Nat → Int) (w : World) (hu : ListsAt w u m U n f) (hv : ListsAt w v m V n f) : Calls Try.prog 11 #[u, v] w fun e w' => e = .returned (.bool true) ∧ Below w.heap.size w w' := by
  obtain ⟨b1, o1, c1, rfl, hA⟩ := hu
  obtain ⟨b2, o2, c2, rfl, hB⟩ := hv
  have HA := (show Hid (∀ i, i < m → w.cell? ⟨b1, o1 + i, none⟩ = some (U i) ∧ NumsAt w (U i) (n i) (f i)) from hA)
  have HB := (show Hid (∀ i, i < m → w.cell? ⟨b2, o2 + i, none⟩ = some (V i) ∧ NumsAt w (V i) (n i) (f i)) from hB)
  have hne : ((m : Int) != (m : Int)) = false := by simp
  clear hA hB
  go_enter Try.func11, Try.ntmps11
  go_wp2_with fail
  clear hne
  go_loopw [13] (fun i W => ∃ k : Nat, k ≤ m ∧ i = .int .i64 (k : Nat) ∧ Below w.heap.size w W) (fun i _ => ((m : Int) - intOf i).toNat)
  case atStart => exact ⟨0, by omega, rfl, Below.refl _ _⟩
  case round =>
    obtain ⟨k, hk, rfl, hbe⟩ := hrel
    by_cases hlt : k < m
    · have HLT : Hid (k < m) := hlt
      have hlt2 : (k : Int) < (m : Int) := by omega
      obtain ⟨e1, n1⟩ := HA.out k hlt
      obtain ⟨e2, n2⟩ := HB.out k hlt
      have n1' := n1
      have n2' := n2
      obtain ⟨x1, y1, hx1, _⟩ := n1'
      obtain ⟨x2, y2, hx2, _⟩ := n2'
      rw [hx1] at e1 n1
      rw [hx2] at e2 n2
      have E1 := (show Hid _ from e1)
      have E2 := (show Hid _ from e2)
      have N1 := (show Hid (NumsAt w (.slice x1 (n k) y1) (n k) (f k)) from n1)
      have N2 := (show Hid (NumsAt w (.slice x2 (n k) y2) (n k) (f k)) from n2)
      clear e1 e2 n1 n2 hx1 hx2 hlt
      go_upto_region 6 with fail
      have hSd : Below w.heap.size w wr.drew := hbe.drew
      clear hbe
      refine wp_region_noPanic ?_
      refine wp_region_held_drew (S := fun W => Below w.heap.size w W) (by kernel_rfl) hSd (fun hS => ?_)
      clear hSd
      obtain ⟨Z, hZ⟩ : ∃ x, x = wr.drew := ⟨_, rfl⟩
      rw [← hZ] at hS ⊢
      clear hZ
      refine vtake 0 16 (.slice (some ⟨b1, o1, none⟩) m c1) rfl rfl (by kernel_rfl) (by kernel_rfl) (by kernel_rfl) (fun _ _ _ _ h => h) (by rfl) (fun W hW => by clear hS hW; go_simp) hS ?_
      simp only [List.setIfInBounds_toArray, List.set_cons_succ, List.set_cons_zero]
      refine vtake 1 17 (.int .i64 (k : Nat)) rfl rfl (by kernel_rfl) (by kernel_rfl) (by kernel_rfl) (fun _ _ _ _ h => h) (by rfl) (fun W hW => by clear hS hW; go_simp) hS ?_
      simp only [List.setIfInBounds_toArray, List.set_cons_succ, List.set_cons_zero]
      refine vtake 2 18 (.pointer (some ⟨b1, o1 + k, none⟩)) rfl rfl (by kernel_rfl) (by kernel_rfl) (by kernel_rfl) (fun _ _ _ _ h => h) (by rfl) (fun W hW => by clear hS hW; go_simp) hS ?_
      simp only [List.setIfInBounds_toArray, List.set_cons_succ, List.set_cons_zero]
      refine vtake 3 19 (.slice x1 (n k) y1) rfl rfl (by kernel_rfl) (by kernel_rfl) (by kernel_rfl) (fun _ _ _ _ h => h) (by rfl) (fun W hW => by have u := (hW.cell (p := ⟨b1, o1 + k, none⟩) (cell_block E1.out)).trans E1.out; clear hS hW; go_simp) hS ?_
      simp only [List.setIfInBounds_toArray, List.set_cons_succ, List.set_cons_zero]
      refine vtake 4 20 (.slice (some ⟨b2, o2, none⟩) m c2) rfl rfl (by kernel_rfl) (by kernel_rfl) (by kernel_rfl) (fun _ _ _ _ h => h) (by rfl) (fun W hW => by clear hS hW; go_simp) hS ?_
      simp only [List.setIfInBounds_toArray, List.set_cons_succ, List.set_cons_zero]
      refine vtake 5 21 (.int .i64 (k : Nat)) rfl rfl (by kernel_rfl) (by kernel_rfl) (by kernel_rfl) (fun _ _ _ _ h => h) (by rfl) (fun W hW => by clear hS hW; go_simp) hS ?_
      simp only [List.setIfInBounds_toArray, List.set_cons_succ, List.set_cons_zero]
      refine vtake 6 22 (.pointer (some ⟨b2, o2 + k, none⟩)) rfl rfl (by kernel_rfl) (by kernel_rfl) (by kernel_rfl) (fun _ _ _ _ h => h) (by rfl) (fun W hW => by clear hS hW; go_simp) hS ?_
      simp only [List.setIfInBounds_toArray, List.set_cons_succ, List.set_cons_zero]
      refine vtake 7 23 (.slice x2 (n k) y2) rfl rfl (by kernel_rfl) (by kernel_rfl) (by kernel_rfl) (fun _ _ _ _ h => h) (by rfl) (fun W hW => by have u := (hW.cell (p := ⟨b2, o2 + k, none⟩) (cell_block E2.out)).trans E2.out; clear hS hW; go_simp) hS ?_
      simp only [List.setIfInBounds_toArray, List.set_cons_succ, List.set_cons_zero]
      refine wpAnyH_ready (rs := [8]) (by kernel_rfl) (by simp) ?_
      refine AllReadyH.cons (o := _) rfl (fun K hK => ?_) AllReadyH.nil
      rw [if_pos (by rfl)]
      go_simp
      refine Calls.mono (same9_ok _ _ (n k) (f k) _ (N1.out.below hS) (N2.out.below hS)) ?_
      rintro e Y ⟨rfl, hb8⟩
      refine hK.out _ _ (hS.trans (hb8.mono hS.size)) (fun hS1 => ?_)
      clear hK hS K
      have hS := hS1
      clear hS1
      refine vtake 9 25 (.bool false) rfl rfl (by kernel_rfl) (by kernel_rfl) (by kernel_rfl) (fun _ _ _ _ h => h) (by rfl) (fun W hW => by clear hS hW; go_simp) hS ?_
      simp only [List.setIfInBounds_toArray, List.set_cons_succ, List.set_cons_zero]
      refine wpAnyH_done (by kernel_rfl) ?_ _
      refine NoPanic.normal ?_
      have HS := (show Hid _ from hS)
      clear hS
      go_wp2_with fail
      go_roundw
      case rel => first | exact ⟨k + 1, HLT.out, by go_num, HS.out⟩ | (refine ⟨_, _, _, _, _, _, _, _, _, _, _, _, _, ⟨k + 1, HLT.out, by go_num, HS.out⟩, rfl⟩) | (refine ⟨_, _, _, _, _, _, _, _, _, _, _, _, _, _, ⟨k + 1, HLT.out, by go_num, HS.out⟩, rfl⟩)
      case measure => have := HLT.out; simp [intOf]; omega
    · obtain rfl : k = m := by omega
      have hnn : ¬ ((k : Nat) : Int) < ((k : Nat) : Int) := by omega
      go_wp2
      go_ret
      exact ⟨rfl, hbe⟩
end Go.Proofs.Ytigamiehnjipcaa
