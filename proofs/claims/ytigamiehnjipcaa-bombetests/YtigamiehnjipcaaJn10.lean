/-
  Several texts, joined: ChSa, KCon.
-/
import Derived.Test.YtigamiehnjipcaaChTy
import Derived.Deep.QuietTactic
import Derived.BigQuiet
import Derived.Test.YtigamiehnjipcaaKType
/-
  Contracts of the document's Same and SameLists (chapter 9), of lists that are the same.
-/
namespace Go.Proofs.Ytigamiehnjipcaa
open Go.RowKit PK Vg

set_option maxRecDepth 100000 in
set_option maxHeartbeats 2000000 in
theorem same9_ok (u v : Value) (n : Nat) (f : Nat → Int) (w : World) (hu : NumsAt w u n f) (hv : NumsAt w v n f) : Calls Try.prog 18 #[u, v] w fun e w' => e = .returned (.bool true) ∧ Below w.heap.size w w' := by
  obtain ⟨a, ca, rfl, hm, hca⟩ := hu
  obtain ⟨b, cb, rfl, _, hcb⟩ := hv
  unfold maxLen at hm
  have HA := (show Hid (∀ c, c < n → ∃ b o, a = some ⟨b, o, none⟩ ∧ w.cell? ⟨b, o + c, none⟩ = some (.int .i64 (f c))) from hca)
  have HB := (show Hid (∀ c, c < n → ∃ b' o, b = some ⟨b', o, none⟩ ∧ w.cell? ⟨b', o + c, none⟩ = some (.int .i64 (f c))) from hcb)
  have hne : ((n : Int) != (n : Int)) = false := by simp
  clear hca hcb
  go_enter Try.func18, Try.ntmps18
  go_wp2_with fail
  clear hne
  go_loopw [13] (fun i W => ∃ k : Nat, k ≤ n ∧ i = .int .i64 (k : Nat) ∧ Below w.heap.size w W) (fun i _ => ((n : Int) - intOf i).toNat)
  case atStart => exact ⟨0, by omega, rfl, Below.refl _ _⟩
  case round =>
    obtain ⟨k, hk, rfl, hbe⟩ := hrel
    by_cases hlt : k < n
    · have HLT : Hid (k < n) := hlt
      have hlt2 : (k : Int) < (n : Int) := by omega
      obtain ⟨b1, o1, rfl, h1⟩ := HA.out k hlt
      obtain ⟨b2, o2, rfl, h2⟩ := HB.out k hlt
      have c1 := (hbe.cell (p := ⟨b1, o1 + k, none⟩) (cell_block h1)).trans h1
      have c2 := (hbe.cell (p := ⟨b2, o2 + k, none⟩) (cell_block h2)).trans h2
      have HBE := (show Hid _ from hbe)
      generalize f k = x at *
      have hxx : (x != x) = false := by simp
      clear hbe h1 h2 hlt HA HB
      go_upto_region 6 with fail
      go_quiet (fail)
      go_wp2
      go_roundw
      case rel => exact ⟨k + 1, HLT.out, by go_num, HBE.out.trans ⟨rfl, rfl, rfl, Nat.le_refl _, fun _ _ => rfl⟩⟩
      case measure => have := HLT.out; simp [intOf]; omega
    · obtain rfl : k = n := by omega
      have hnn : ¬ ((k : Nat) : Int) < ((k : Nat) : Int) := by omega
      go_wp2
      go_ret
      exact ⟨rfl, hbe⟩
/-- Lists behind a slice. -/
def ListsAt (W : World) (v : Value) (m : Nat) (V : Nat → Value) (n : Nat → Nat) (f : Nat → Nat → Int) : Prop := ∃ b o cap, v = .slice (some ⟨b, o, none⟩) m cap ∧ ∀ i, i < m → W.cell? ⟨b, o + i, none⟩ = some (V i) ∧ NumsAt W (V i) (n i) (f i)
theorem ListsAt.below {w W : World} {v : Value} {m : Nat} {V : Nat → Value} {n : Nat → Nat} {f : Nat → Nat → Int} (h : ListsAt w v m V n f) (hb : Below w.heap.size w W) : ListsAt W v m V n f := by
  obtain ⟨b, o, cap, e, h1⟩ := h
  exact ⟨b, o, cap, e, fun i hi => ⟨(hb.cell (p := ⟨b, o + i, none⟩) (cell_block (h1 i hi).1)).trans (h1 i hi).1, (h1 i hi).2.below hb⟩⟩
set_option maxRecDepth 100000 in
set_option maxHeartbeats 2000000 in
theorem samelists_ok (u v : Value) (m : Nat) (hm : m ≤ 1000000) (U V : Nat → Value) (n : Nat → Nat) (f : Nat → Nat → Int) (w : World) (hu : ListsAt w u m U n f) (hv : ListsAt w v m V n f) : Calls Try.prog 11 #[u, v] w fun e w' => e = .returned (.bool true) ∧ Below w.heap.size w w' := by
  obtain ⟨b1, o1, c1, rfl, hA⟩ := hu
  obtain ⟨b2, o2, c2, rfl, hB⟩ := hv
  have HA := (show Hid (∀ i, i < m → w.cell? ⟨b1, o1 + i, none⟩ = some (U i) ∧ NumsAt w (U i) (n i) (f i)) from hA)
  have HB := (show Hid (∀ i, i < m → w.cell? ⟨b2, o2 + i, none⟩ = some (V i) ∧ NumsAt w (V i) (n i) (f i)) from hB)
  have hne : ((m : Int) != (m : Int)) = false := by simp
  clear hA hB
  go_enter Try.func11, Try.ntmps11
  go_wp2_with fail
  clear hne
  go_loopw [13] (fun i W => ∃ k : Nat, k ≤ m ∧ i = .int .i64 (k : Nat) ∧ Below w.heap.size w W) (fun i _ => ((m : Int) - intOf i).toNat)
  case atStart => exact ⟨0, by omega, rfl, Below.refl _ _⟩
  case round =>
    obtain ⟨k, hk, rfl, hbe⟩ := hrel
    by_cases hlt : k < m
    · have HLT : Hid (k < m) := hlt
      have hlt2 : (k : Int) < (m : Int) := by omega
      obtain ⟨e1, n1⟩ := HA.out k hlt
      obtain ⟨e2, n2⟩ := HB.out k hlt
      have n1' := n1
      have n2' := n2
      obtain ⟨x1, y1, hx1, _⟩ := n1'
      obtain ⟨x2, y2, hx2, _⟩ := n2'
      rw [hx1] at e1 n1
      rw [hx2] at e2 n2
      have E1 := (show Hid _ from e1)
      have E2 := (show Hid _ from e2)
      have N1 := (show Hid (NumsAt w (.slice x1 (n k) y1) (n k) (f k)) from n1)
      have N2 := (show Hid (NumsAt w (.slice x2 (n k) y2) (n k) (f k)) from n2)
      clear e1 e2 n1 n2 hx1 hx2 hlt
      go_upto_region 6 with fail
      have hSd : Below w.heap.size w wr.drew := hbe.drew
      clear hbe
      refine wp_region_noPanic ?_
      refine wp_region_held_drew (S := fun W => Below w.heap.size w W) (by kernel_rfl) hSd (fun hS => ?_)
      clear hSd
      obtain ⟨Z, hZ⟩ : ∃ x, x = wr.drew := ⟨_, rfl⟩
      rw [← hZ] at hS ⊢
      clear hZ
      refine vtake 0 16 (.slice (some ⟨b1, o1, none⟩) m c1) rfl rfl (by kernel_rfl) (by kernel_rfl) (by kernel_rfl) (fun _ _ _ _ h => h) (by rfl) (fun W hW => by clear hS hW; go_simp) hS ?_
      simp only [List.setIfInBounds_toArray, List.set_cons_succ, List.set_cons_zero]
      refine vtake 1 17 (.int .i64 (k : Nat)) rfl rfl (by kernel_rfl) (by kernel_rfl) (by kernel_rfl) (fun _ _ _ _ h => h) (by rfl) (fun W hW => by clear hS hW; go_simp) hS ?_
      simp only [List.setIfInBounds_toArray, List.set_cons_succ, List.set_cons_zero]
      refine vtake 2 18 (.pointer (some ⟨b1, o1 + k, none⟩)) rfl rfl (by kernel_rfl) (by kernel_rfl) (by kernel_rfl) (fun _ _ _ _ h => h) (by rfl) (fun W hW => by clear hS hW; go_simp) hS ?_
      simp only [List.setIfInBounds_toArray, List.set_cons_succ, List.set_cons_zero]
      refine vtake 3 19 (.slice x1 (n k) y1) rfl rfl (by kernel_rfl) (by kernel_rfl) (by kernel_rfl) (fun _ _ _ _ h => h) (by rfl) (fun W hW => by have u := (hW.cell (p := ⟨b1, o1 + k, none⟩) (cell_block E1.out)).trans E1.out; clear hS hW; go_simp) hS ?_
      simp only [List.setIfInBounds_toArray, List.set_cons_succ, List.set_cons_zero]
      refine vtake 4 20 (.slice (some ⟨b2, o2, none⟩) m c2) rfl rfl (by kernel_rfl) (by kernel_rfl) (by kernel_rfl) (fun _ _ _ _ h => h) (by rfl) (fun W hW => by clear hS hW; go_simp) hS ?_
      simp only [List.setIfInBounds_toArray, List.set_cons_succ, List.set_cons_zero]
      refine vtake 5 21 (.int .i64 (k : Nat)) rfl rfl (by kernel_rfl) (by kernel_rfl) (by kernel_rfl) (fun _ _ _ _ h => h) (by rfl) (fun W hW => by clear hS hW; go_simp) hS ?_
      simp only [List.setIfInBounds_toArray, List.set_cons_succ, List.set_cons_zero]
      refine vtake 6 22 (.pointer (some ⟨b2, o2 + k, none⟩)) rfl rfl (by kernel_rfl) (by kernel_rfl) (by kernel_rfl) (fun _ _ _ _ h => h) (by rfl) (fun W hW => by clear hS hW; go_simp) hS ?_
      simp only [List.setIfInBounds_toArray, List.set_cons_succ, List.set_cons_zero]
      refine vtake 7 23 (.slice x2 (n k) y2) rfl rfl (by kernel_rfl) (by kernel_rfl) (by kernel_rfl) (fun _ _ _ _ h => h) (by rfl) (fun W hW => by have u := (hW.cell (p := ⟨b2, o2 + k, none⟩) (cell_block E2.out)).trans E2.out; clear hS hW; go_simp) hS ?_
      simp only [List.setIfInBounds_toArray, List.set_cons_succ, List.set_cons_zero]
      refine wpAnyH_ready (rs := [8]) (by kernel_rfl) (by simp) ?_
      refine AllReadyH.cons (o := _) rfl (fun K hK => ?_) AllReadyH.nil
      rw [if_pos (by rfl)]
      go_simp
      refine Calls.mono (same9_ok _ _ (n k) (f k) _ (N1.out.below hS) (N2.out.below hS)) ?_
      rintro e Y ⟨rfl, hb8⟩
      refine hK.out _ _ (hS.trans (hb8.mono hS.size)) (fun hS1 => ?_)
      clear hK hS K
      have hS := hS1
      clear hS1
      refine vtake 9 25 (.bool false) rfl rfl (by kernel_rfl) (by kernel_rfl) (by kernel_rfl) (fun _ _ _ _ h => h) (by rfl) (fun W hW => by clear hS hW; go_simp) hS ?_
      simp only [List.setIfInBounds_toArray, List.set_cons_succ, List.set_cons_zero]
      refine wpAnyH_done (by kernel_rfl) ?_ _
      refine NoPanic.normal ?_
      have HS := (show Hid _ from hS)
      clear hS
      go_wp2_with fail
      go_roundw
      case rel => first | exact ⟨k + 1, HLT.out, by go_num, HS.out⟩ | (refine ⟨_, _, _, _, _, _, _, _, _, _, _, _, _, ⟨k + 1, HLT.out, by go_num, HS.out⟩, rfl⟩) | (refine ⟨_, _, _, _, _, _, _, _, _, _, _, _, _, _, ⟨k + 1, HLT.out, by go_num, HS.out⟩, rfl⟩)
      case measure => have := HLT.out; simp [intOf]; omega
    · obtain rfl : k = m := by omega
      have hnn : ¬ ((k : Nat) : Int) < ((k : Nat) : Int) := by omega
      go_wp2
      go_ret
      exact ⟨rfl, hbe⟩
end Go.Proofs.Ytigamiehnjipcaa

/-
  Plain mathematics: a conjugate's cycles are as long.
-/
namespace Go.Proofs.Ytigamiehnjipcaa
open Go.RowKit PK

theorem cm_flat (q : Nat → Bool) (n : Nat) : ∀ ls : List (List Nat), (∀ l ∈ ls, ∀ x ∈ l, q x = (l.length == n)) → (ls.flatten.filter q).length = n * cnt ls n
  | [], _ => by simp [cnt]
  | l :: ls, h => by
    have ih := cm_flat q n ls (fun x hx => h x (by simp [hx]))
    have hl := h l (by simp)
    rw [List.flatten_cons, List.filter_append, List.length_append, ih]
    unfold cnt
    by_cases e : l.length = n
    · have h1 : l.filter q = l := List.filter_eq_self.2 fun x hx => by rw [hl x hx]; simpa using e
      rw [h1]
      simp [e, Nat.mul_succ]
      omega
    · have h1 : l.filter q = [] := List.filter_eq_nil_iff.2 fun x hx => by rw [hl x hx]; simpa using e
      rw [h1]
      simp [e]
/-- How many letters lie in cycles of length n. -/
def inAll (p : Nat → Nat) (n : Nat) : Nat := ((List.range 26).filter fun i => Pm.len p i == n).length
theorem inAll_cnt {p : Nat → Nat} (hp : Pm.IsPerm p) (n : Nat) : inAll p n = n * cnt (Pm.cycs p 26) n := by
  rw [← cm_flat (fun i => Pm.len p i == n) n (Pm.cycs p 26) (fun l hl x hx => by
    obtain ⟨i, hi, rfl, _⟩ := Pm.mem_cycs p 26 l hl
    rw [Pm.cyc_length, Pm.len_of_mem hp x i hi hx])]
  unfold inAll
  have hn1 : ((List.range 26).filter fun i => Pm.len p i == n).Nodup := List.Pairwise.sublist List.filter_sublist (List.nodup_range (n := 26))
  have hn2 : ((Pm.cycs p 26).flatten.filter fun i => Pm.len p i == n).Nodup := List.Pairwise.sublist List.filter_sublist (Pm.flat_nodup hp 26 (Nat.le_refl _))
  have h1 := Pm.nodup_le _ ((Pm.cycs p 26).flatten.filter fun i => Pm.len p i == n) hn1 (fun x hx => by
    rw [List.mem_filter] at hx ⊢
    exact ⟨(Pm.flat_all hp x).2 (by simpa using hx.1), hx.2⟩)
  have h2 := Pm.nodup_le _ ((List.range 26).filter fun i => Pm.len p i == n) hn2 (fun x hx => by
    rw [List.mem_filter] at hx ⊢
    exact ⟨by simpa using (Pm.flat_all hp x).1 hx.1, hx.2⟩)
  omega
theorem conj_at {p x : Nat → Nat} (hx : Pm.IsPerm x) (i : Nat) (hi : i < 26) : Pm.conj p x (x i) = x (p i) := by
  unfold Pm.conj
  rw [hx.inv_left i hi]
theorem conj_iter {p x : Nat → Nat} (hp : Pm.IsPerm p) (hx : Pm.IsPerm x) (i : Nat) (hi : i < 26) : ∀ k, Pm.iter (Pm.conj p x) k (x i) = x (Pm.iter p k i)
  | 0 => rfl
  | k + 1 => by
    show Pm.conj p x (Pm.iter (Pm.conj p x) k (x i)) = _
    rw [conj_iter hp hx i hi k, conj_at hx _ (Pm.iter_lt hp i hi k)]
    rfl
theorem conj_len {p x : Nat → Nat} (hp : Pm.IsPerm p) (hx : Pm.IsPerm x) (i : Nat) (hi : i < 26) : Pm.len (Pm.conj p x) (x i) = Pm.len p i := by
  have h1 := Pm.len_is hp i hi
  have h2 := Pm.len_is (hp.conj hx) (x i) (hx.lt i hi)
  have h3 : Pm.IsLen (Pm.conj p x) (x i) (Pm.len p i) := ⟨h1.pos, h1.le, by rw [conj_iter hp hx i hi, h1.ret], fun j a b e => by
    rw [conj_iter hp hx i hi] at e
    exact h1.min j a b (hx.inj _ _ (Pm.iter_lt hp i hi j) hi e)⟩
  exact h2.uniq h3
theorem conj_in {p x : Nat → Nat} (hp : Pm.IsPerm p) (hx : Pm.IsPerm x) (n : Nat) : inAll (Pm.conj p x) n = inAll p n := by
  unfold inAll
  have hc := hp.conj hx
  have hn1 : ((List.range 26).filter fun i => Pm.len p i == n).Nodup := List.Pairwise.sublist List.filter_sublist (List.nodup_range (n := 26))
  have hn2 : ((List.range 26).filter fun i => Pm.len (Pm.conj p x) i == n).Nodup := List.Pairwise.sublist List.filter_sublist (List.nodup_range (n := 26))
  have m1 := Pm.nodup_map x _ hn1 (fun i hi j hj e => by
    rw [List.mem_filter] at hi hj
    exact hx.inj i j (by simpa using hi.1) (by simpa using hj.1) e)
  have h1 := Pm.nodup_le _ ((List.range 26).filter fun i => Pm.len (Pm.conj p x) i == n) m1 (fun y hy => by
    obtain ⟨i, hi, rfl⟩ := List.mem_map.1 hy
    rw [List.mem_filter] at hi ⊢
    have hi26 : i < 26 := by simpa using hi.1
    exact ⟨by simpa using hx.lt i hi26, by rw [conj_len hp hx i hi26]; exact hi.2⟩)
  have m2 := Pm.nodup_map (Pm.inv x) _ hn2 (fun i hi j hj e => by
    rw [List.mem_filter] at hi hj
    exact hx.inv.inj i j (by simpa using hi.1) (by simpa using hj.1) e)
  have h2 := Pm.nodup_le _ ((List.range 26).filter fun i => Pm.len p i == n) m2 (fun y hy => by
    obtain ⟨i, hi, rfl⟩ := List.mem_map.1 hy
    rw [List.mem_filter] at hi ⊢
    have hi26 : i < 26 := by simpa using hi.1
    have hv := hx.inv_spec i hi26
    refine ⟨by simpa using hv.1, ?_⟩
    have := conj_len hp hx (Pm.inv x i) hv.1
    rw [hv.2] at this
    rw [← this]
    exact hi.2)
  rw [List.length_map] at h1 h2
  omega
theorem tyDown_congr (c c' : Nat → Nat) (h : ∀ n, 0 < n → n ≤ 26 → c n = c' n) : ∀ k, k ≤ 26 → tyDown c k = tyDown c' k
  | 0, _ => rfl
  | k + 1, hk => by
    show tyDown c k ++ List.replicate (c (26 - k)) (26 - k) = tyDown c' k ++ List.replicate (c' (26 - k)) (26 - k)
    rw [tyDown_congr c c' h k (by omega), h (26 - k) (by omega) (by omega)]
/-- A conjugate's cycles are as long. -/
theorem type_conj {p x : Nat → Nat} (hp : Pm.IsPerm p) (hx : Pm.IsPerm x) : typeOf (Pm.conj p x) = typeOf p := by
  unfold typeOf
  refine tyDown_congr _ _ (fun n h0 _ => ?_) 26 (Nat.le_refl _)
  have h1 := inAll_cnt (hp.conj hx) n
  rw [conj_in hp hx n, inAll_cnt hp n] at h1
  exact (Nat.eq_of_mul_eq_mul_left h0 h1).symm
end Go.Proofs.Ytigamiehnjipcaa
