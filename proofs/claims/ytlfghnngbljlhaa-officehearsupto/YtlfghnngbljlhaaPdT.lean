/-
  Contracts of the document's Write, Read, Chances and Split (chapter 14).
-/
import Derived.Test.YtlfghnngbljlhaaPdR
namespace Go.Proofs.Ytlfghnngbljlhaa
open Go.RowKit PK Pd

/-- The first k numbers of f, as a list. -/
def ups (f : Nat → Nat) (k : Nat) : List Nat := (List.range k).map f
theorem ups_len (f : Nat → Nat) (k : Nat) : (ups f k).length = k := by simp [ups]
theorem ups_next (f : Nat → Nat) (k : Nat) : ups f (k + 1) = ups f k ++ [f k] := by simp [ups, List.range_succ]
theorem ups_get (f : Nat → Nat) {k i : Nat} (h : i < k) : (ups f k).getD i 0 = f i := by simp [ups, List.getD, h]
theorem cell_one_new' (w : World) (T : TypeId) (v : Value) : ∀ j u, ([v] : List Value)[j]? = some u → (w.alloc (.cells #[v] T)).cell? ((⟨w.heap.size, 0, none⟩ : Addr).add j) = some u := fun j u hj => by
  have hj0 : j = 0 := by
    have := (List.getElem?_eq_some_iff.1 hj).1
    simp at this
    exact this
  subst hj0
  simp at hj
  subst hj
  exact (RowAt.new w T #[v]).cell rfl
set_option maxRecDepth 100000 in
set_option maxHeartbeats 4000000 in
theorem rwr_any (n : Int) (vt vp : Value) (nt np : Nat) (ft fp : Nat → Int) (w : World) (ht : NumsAt w vt nt ft) (hp : NumsAt w vp np fp) : Calls Try.prog 18 #[.int .i64 n, vt, vp] w fun e w' => ∃ v, e = .returned (.tuple #[v, .int .i64 (txE n nt np ft fp)]) ∧ Ans w' v (rl (txE n nt np ft fp) nt) (wrF n ft fp) ∧ Below w.heap.size w w' := by
  have HT := (show Hid (Calls Try.prog 25 #[.int .i64 n, vt, vp] w fun e w' => w = w' ∧ e = .returned (.int .i64 (txE n nt np ft fp))) from rtwo_any n vt vp nt np ft fp w ht hp)
  obtain ⟨i0, hi0, hz0', hz1, hz2⟩ := y_info_parts g_info_int
  obtain ⟨at', ct, rfl, hmt, hct⟩ := ht
  obtain ⟨ap, cp, rfl, hmp, hcp⟩ := hp
  have HCT := (show Hid (∀ c, c < nt → ∃ b o, at' = some ⟨b, o, none⟩ ∧ w.cell? ⟨b, o + c, none⟩ = some (.int .i64 (ft c))) from hct)
  have HCP := (show Hid (∀ c, c < np → ∃ b o, ap = some ⟨b, o, none⟩ ∧ w.cell? ⟨b, o + c, none⟩ = some (.int .i64 (fp c))) from hcp)
  unfold maxLen at hmt hmp
  clear hct hcp
  obtain ⟨E, hE⟩ : ∃ E, E = txE n nt np ft fp := ⟨_, rfl⟩
  rw [← hE] at HT ⊢
  have HE := (show Hid _ from hE)
  clear hE
  by_cases hE : E = 0
  case neg =>
    have hE1 : (E != 0) = true := by simp [hE]
    have HR : Hid (rl E nt = 0) := by unfold rl; rw [Hid, if_neg hE]
    clear hE HCT HCP HE
    go_enter Try.func18, Try.ntmps18
    go_wp2_with fail
    refine HT.out.mono ?_
    rintro e W1 ⟨rfl, rfl⟩
    clear HT
    go_wp2
    go_ret2
    exact ⟨_, rfl, by rw [HR.out]; exact Ans.nil _ _, Below.refl _ _⟩
  subst hE
  obtain ⟨h1, h2, hft, hfp, h5, h6⟩ := txE_zero HE.out.symm
  clear HE
  obtain ⟨N, rfl⟩ : ∃ N : Nat, n = (N : Int) := ⟨n.toNat, by omega⟩
  have HFT := (show Hid _ from hft)
  have HFP := (show Hid _ from hfp)
  have hN1 : 2 ≤ N := by omega
  have hN2 : N ≤ 64 := by omega
  obtain ⟨V, hV⟩ : ∃ V : Nat → Nat, V = fun i => ((ft i).toNat + (fp i).toNat) % N := ⟨_, rfl⟩
  have HV := (show Hid _ from hV)
  have HFV : Hid (∀ i, wrF (N : Int) ft fp i = ((V i : Nat) : Int)) := fun i => by
    rw [hV]
    unfold wrF
    rw [Int.toNat_natCast]
  have HVL : Hid (∀ i, V i < N) := fun i => by
    rw [hV]
    exact Nat.mod_lt _ (by omega)
  clear hV hft hfp h1 h2
  go_enter Try.func18, Try.ntmps18
  go_wp2_with fail
  refine HT.out.mono ?_
  rintro e W1 ⟨rfl, rfl⟩
  clear HT
  go_wp2_with fail
  go_loopw [9, 21] (fun o x W => ∃ (i : Nat) (v : Value), i ≤ nt ∧ x = .int .i64 (i : Nat) ∧ v = o ∧ OwnsL W w.heap.size v (ups V i) ∧ Below w.heap.size w W) (fun _ x _ => ((nt : Int) - intOf x).toNat)
  case atStart => exact ⟨0, _, by omega, rfl, rfl, OwnsL.nil _ _, Below.refl _ _⟩
  case round =>
    obtain ⟨i, v, hi, rfl, rfl, hown, hbe⟩ := hrel
    have hlen := ups_len V i
    have hz := hbe.size
    by_cases hlt : i < nt
    case neg =>
      obtain rfl : i = nt := by omega
      have hnn : ¬ ((i : Nat) : Int) < ((i : Nat) : Int) := by omega
      have HA : Hid (Ans wr v (rl 0 i) (wrF (N : Int) ft fp)) := by
        have h1 := hown.ans
        rw [ups_len] at h1
        refine ⟨h1.1, nums_ext h1.2 fun j hj => ?_⟩
        have hj' : j < i := hj
        rw [HFV.out j, ups_get V hj']
      have HBE := (show Hid _ from hbe)
      clear hown hbe hlt hlen hz
      go_wp2
      go_ret2
      exact ⟨_, rfl, HA.out, HBE.out⟩
    have HLT : Hid (i < nt) := hlt
    have hlt2 : (i : Int) < (nt : Int) := by omega
    have hlt3 : (i : Int) < (np : Int) := by omega
    obtain ⟨b1, o1, rfl, c1⟩ := HCT.out i hlt
    obtain ⟨b2, o2, rfl, c2⟩ := HCP.out i (by omega)
    have d1 := (hbe.cell (p := ⟨b1, o1 + i, none⟩) (cell_block c1)).trans c1
    have d2 := (hbe.cell (p := ⟨b2, o2 + i, none⟩) (cell_block c2)).trans c2
    obtain ⟨x, hx⟩ : ∃ x, x = (ft i).toNat := ⟨_, rfl⟩
    obtain ⟨y, hy⟩ : ∃ y, y = (fp i).toNat := ⟨_, rfl⟩
    have hx1 := HFT.out i hlt
    have hy1 := HFP.out i (by omega)
    have hx2 : ft i = (x : Int) := by omega
    have hy2 : fp i = (y : Int) := by omega
    have hx3 : x < N := by omega
    have hy3 : y < N := by omega
    have HVI : Hid (V i = (x + y) % N) := by
      rw [Hid, HV.out, hx, hy]
    have HNX := (show Hid (ups V (i + 1) = ups V i ++ [V i]) from ups_next V i)
    have hvl := HVL.out i
    rw [hx2] at d1
    rw [hy2] at d2
    clear c1 c2 hx hy hx1 hy1 hx2 hy2 hlt
    generalize ups V i = O at *
    go_wp2_with fail
    refine (ron_any N x y hN1 hN2 hx3 (by omega) wr).mono ?_
    rintro e W2 ⟨rfl, rfl⟩
    rw [← HVI.out]
    generalize V i = z at *
    go_wp2_with (first | (at_builtin; refine wpList_append_own _ rfl _ _ 22 rfl w.heap.size 3 i0 (.int .i64 0) 1 8 Try.underlying22 hi0 hz0' hz1 hz2 rfl (by decide) _ _ _ rfl (World.ownsRow.alloc hown _) ⟨wr.heap.size, 0, none⟩ 1 1 [.int .i64 (z : Nat)] rfl rfl (cell_one_new' _ _ _) (fun u hu => by simp at hu; subst hu; rfl) (by unfold maxLen; omega) (by omega) (by simp; omega) ?_; intro v' w1 hown' hgrow _))
    go_roundw
    case rel =>
      refine ⟨i + 1, v', HLT.out, by go_num, rfl, ?_, ?_⟩
      · rw [HNX.out, OwnsL, nnums_append, List.length_append]
        exact hown'
      · exact (hbe.alloc hbe.size _).grown hgrow (by simp; omega) (fun j hj => (World.ownsRow.lt hown j hj).1)
    case measure => have := HLT.out; simp [intOf]; omega
set_option maxRecDepth 100000 in
set_option maxHeartbeats 4000000 in
theorem rrd_any (n : Int) (vt vp : Value) (nt np : Nat) (ft fp : Nat → Int) (w : World) (ht : NumsAt w vt nt ft) (hp : NumsAt w vp np fp) : Calls Try.prog 19 #[.int .i64 n, vt, vp] w fun e w' => ∃ v, e = .returned (.tuple #[v, .int .i64 (txE n nt np ft fp)]) ∧ Ans w' v (rl (txE n nt np ft fp) nt) (rdF n ft fp) ∧ Below w.heap.size w w' := by
  have HT := (show Hid (Calls Try.prog 25 #[.int .i64 n, vt, vp] w fun e w' => w = w' ∧ e = .returned (.int .i64 (txE n nt np ft fp))) from rtwo_any n vt vp nt np ft fp w ht hp)
  obtain ⟨i0, hi0, hz0', hz1, hz2⟩ := y_info_parts g_info_int
  obtain ⟨at', ct, rfl, hmt, hct⟩ := ht
  obtain ⟨ap, cp, rfl, hmp, hcp⟩ := hp
  have HCT := (show Hid (∀ c, c < nt → ∃ b o, at' = some ⟨b, o, none⟩ ∧ w.cell? ⟨b, o + c, none⟩ = some (.int .i64 (ft c))) from hct)
  have HCP := (show Hid (∀ c, c < np → ∃ b o, ap = some ⟨b, o, none⟩ ∧ w.cell? ⟨b, o + c, none⟩ = some (.int .i64 (fp c))) from hcp)
  unfold maxLen at hmt hmp
  clear hct hcp
  obtain ⟨E, hE⟩ : ∃ E, E = txE n nt np ft fp := ⟨_, rfl⟩
  rw [← hE] at HT ⊢
  have HE := (show Hid _ from hE)
  clear hE
  by_cases hE : E = 0
  case neg =>
    have hE1 : (E != 0) = true := by simp [hE]
    have HR : Hid (rl E nt = 0) := by unfold rl; rw [Hid, if_neg hE]
    clear hE HCT HCP HE
    go_enter Try.func19, Try.ntmps19
    go_wp2_with fail
    refine HT.out.mono ?_
    rintro e W1 ⟨rfl, rfl⟩
    clear HT
    go_wp2
    go_ret2
    exact ⟨_, rfl, by rw [HR.out]; exact Ans.nil _ _, Below.refl _ _⟩
  subst hE
  obtain ⟨h1, h2, hft, hfp, h5, h6⟩ := txE_zero HE.out.symm
  clear HE
  obtain ⟨N, rfl⟩ : ∃ N : Nat, n = (N : Int) := ⟨n.toNat, by omega⟩
  have HFT := (show Hid _ from hft)
  have HFP := (show Hid _ from hfp)
  have hN1 : 2 ≤ N := by omega
  have hN2 : N ≤ 64 := by omega
  obtain ⟨V, hV⟩ : ∃ V : Nat → Nat, V = fun i => lst N (ft i).toNat (fp i).toNat := ⟨_, rfl⟩
  have HV := (show Hid _ from hV)
  have HFV : Hid (∀ i, rdF (N : Int) ft fp i = ((V i : Nat) : Int)) := fun i => by
    rw [hV]
    unfold rdF
    rw [Int.toNat_natCast]
  have HVL : Hid (∀ i, V i < N) := fun i => by
    rw [hV]
    exact Nat.mod_lt _ (by omega)
  clear hV hft hfp h1 h2
  go_enter Try.func19, Try.ntmps19
  go_wp2_with fail
  refine HT.out.mono ?_
  rintro e W1 ⟨rfl, rfl⟩
  clear HT
  go_wp2_with fail
  go_loopw [9, 21] (fun o x W => ∃ (i : Nat) (v : Value), i ≤ nt ∧ x = .int .i64 (i : Nat) ∧ v = o ∧ OwnsL W w.heap.size v (ups V i) ∧ Below w.heap.size w W) (fun _ x _ => ((nt : Int) - intOf x).toNat)
  case atStart => exact ⟨0, _, by omega, rfl, rfl, OwnsL.nil _ _, Below.refl _ _⟩
  case round =>
    obtain ⟨i, v, hi, rfl, rfl, hown, hbe⟩ := hrel
    have hlen := ups_len V i
    have hz := hbe.size
    by_cases hlt : i < nt
    case neg =>
      obtain rfl : i = nt := by omega
      have hnn : ¬ ((i : Nat) : Int) < ((i : Nat) : Int) := by omega
      have HA : Hid (Ans wr v (rl 0 i) (rdF (N : Int) ft fp)) := by
        have h1 := hown.ans
        rw [ups_len] at h1
        refine ⟨h1.1, nums_ext h1.2 fun j hj => ?_⟩
        have hj' : j < i := hj
        rw [HFV.out j, ups_get V hj']
      have HBE := (show Hid _ from hbe)
      clear hown hbe hlt hlen hz
      go_wp2
      go_ret2
      exact ⟨_, rfl, HA.out, HBE.out⟩
    have HLT : Hid (i < nt) := hlt
    have hlt2 : (i : Int) < (nt : Int) := by omega
    have hlt3 : (i : Int) < (np : Int) := by omega
    obtain ⟨b1, o1, rfl, c1⟩ := HCT.out i hlt
    obtain ⟨b2, o2, rfl, c2⟩ := HCP.out i (by omega)
    have d1 := (hbe.cell (p := ⟨b1, o1 + i, none⟩) (cell_block c1)).trans c1
    have d2 := (hbe.cell (p := ⟨b2, o2 + i, none⟩) (cell_block c2)).trans c2
    obtain ⟨x, hx⟩ : ∃ x, x = (ft i).toNat := ⟨_, rfl⟩
    obtain ⟨y, hy⟩ : ∃ y, y = (fp i).toNat := ⟨_, rfl⟩
    have hx1 := HFT.out i hlt
    have hy1 := HFP.out i (by omega)
    have hx2 : ft i = (x : Int) := by omega
    have hy2 : fp i = (y : Int) := by omega
    have hx3 : x < N := by omega
    have hy3 : y < N := by omega
    have HVI : Hid (V i = (x + (N - y)) % N) := by
      rw [Hid, HV.out, hx, hy]
      exact lst_eq _ _ _
    have HNX := (show Hid (ups V (i + 1) = ups V i ++ [V i]) from ups_next V i)
    have hvl := HVL.out i
    rw [hx2] at d1
    rw [hy2] at d2
    clear c1 c2 hx hy hx1 hy1 hx2 hy2 hlt
    generalize ups V i = O at *
    have hsub : (N : Int) - (y : Int) = ((N - y : Nat) : Int) := by omega
    go_wp2_with fail
    refine (ron_any N x (N - y) hN1 hN2 hx3 (by omega) wr).mono ?_
    rintro e W2 ⟨rfl, rfl⟩
    rw [← HVI.out]
    generalize V i = z at *
    go_wp2_with (first | (at_builtin; refine wpList_append_own _ rfl _ _ 22 rfl w.heap.size 3 i0 (.int .i64 0) 1 8 Try.underlying22 hi0 hz0' hz1 hz2 rfl (by decide) _ _ _ rfl (World.ownsRow.alloc hown _) ⟨wr.heap.size, 0, none⟩ 1 1 [.int .i64 (z : Nat)] rfl rfl (cell_one_new' _ _ _) (fun u hu => by simp at hu; subst hu; rfl) (by unfold maxLen; omega) (by omega) (by simp; omega) ?_; intro v' w1 hown' hgrow _))
    go_roundw
    case rel =>
      refine ⟨i + 1, v', HLT.out, by go_num, rfl, ?_, ?_⟩
      · rw [HNX.out, OwnsL, nnums_append, List.length_append]
        exact hown'
      · exact (hbe.alloc hbe.size _).grown hgrow (by simp; omega) (fun j hj => (World.ownsRow.lt hown j hj).1)
    case measure => have := HLT.out; simp [intOf]; omega
end Go.Proofs.Ytlfghnngbljlhaa
