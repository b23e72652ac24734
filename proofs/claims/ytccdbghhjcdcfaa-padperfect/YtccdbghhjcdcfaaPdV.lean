/-
  Contract of the document's Split (chapter 14).
-/
import Derived.Test.YtccdbghhjcdcfaaPdU
namespace Go.Proofs.Ytccdbghhjcdcfaa
open Go.RowKit PK Pd

theorem own_empty (w : World) (B : Nat) (h : B ≤ w.heap.size) : OwnsL (w.alloc (.cells #[] 3)) B (.slice (some ⟨w.heap.size, 0, none⟩) 0 0) [] := by
  refine ⟨rfl, .inr ⟨w.heap.size, 0, #[], rfl, h, RowAt.new w _ _, Nat.le_refl _, by decide, rfl, rfl⟩⟩
theorem nnums_ups (g : Nat → Nat) {m j : Nat} (h : j < m) : (nnums (ups g m))[j]? = some (.int .i64 ((g j : Nat) : Int)) := by simp [nnums, ups, h]
theorem cell_one_at (w : World) (T : TypeId) (v : Value) {B : Nat} (h : B = w.heap.size) : ∀ j u, ([v] : List Value)[j]? = some u → (w.alloc (.cells #[v] T)).cell? ((⟨B, 0, none⟩ : Addr).add j) = some u := by
  subst h
  exact cell_one_new' w T v
theorem own_both {W : World} {B : Nat} {v : Value} {L : List Nat} {k n : Nat} (hn : n = L.length) (h : W.ownsRow B 3 1 v (0 + n + 1) ([] ++ nnums L ++ [.int .i64 (k : Nat)])) : OwnsL W B v (L ++ [k]) := by
  unfold OwnsL
  rw [nnums_append, List.length_append]
  subst hn
  simpa [nnums] using h
theorem own_lone {W : World} {B : Nat} {v : Value} {k : Nat} (h : W.ownsRow B 3 1 v (0 + 1) ([] ++ [.int .i64 (k : Nat)])) : OwnsL W B v ([] ++ [k]) := h
set_option maxRecDepth 100000 in
set_option maxHeartbeats 4000000 in
theorem rsp_any (n s : Int) (v : Value) (m : Nat) (f : Nat → Int) (w : World) (hv : Ans w v m f) : Calls Try.prog 18 #[.int .i64 n, .int .i64 s, v] w fun e w' => ∃ v', e = .returned (.tuple #[v', .int .i64 (spE n s m f)]) ∧ Ans w' v' (rl (spE n s m f) (m + 1)) (spF n s m f) ∧ Below w.heap.size w w' := by
  have H1 := (show Hid (Calls Try.prog 30 #[.int .i64 n, .slice (some ⟨w.heap.size, 0, none⟩) 1 1] (w.alloc (.cells #[.int .i64 s] 3)) fun e w' => w.alloc (.cells #[.int .i64 s] 3) = w' ∧ e = .returned (.bool (inB n 1 fun _ => s))) from rin_any n _ 1 _ _ (one_num w s))
  have H2 := (show Hid (∀ W, Below w.heap.size w W → Calls Try.prog 30 #[.int .i64 n, v] W fun e w' => W = w' ∧ e = .returned (.bool (inB n m f))) from fun W hb => rin_any n v m f W (hv.2.below hb))
  have HB := (show Hid (Below w.heap.size w (w.alloc (.cells #[.int .i64 s] 3))) from (Below.refl _ _).alloc (Nat.le_refl _) _)
  obtain ⟨i0, hi0, hz0', hz1, hz2⟩ := y_info_parts g_info_int
  have HV := (show Hid _ from hv)
  obtain ⟨⟨a, c, rfl, hmc, hnone⟩, _, _, e, hm, _⟩ := hv
  cases e
  unfold maxLen at hm
  by_cases h1 : n < 2
  · have HE : Hid (spE n s m f = 1) := by unfold spE; rw [Hid, if_pos (.inl h1)]
    clear H1 H2 HV
    go_enter Try.func18, Try.ntmps18
    go_wp2
    go_ret2
    exact ⟨_, by rw [HE.out]; rfl, by rw [HE.out]; exact Ans.nil _ _, Below.refl _ _⟩
  by_cases h1b : 64 < n
  · have HE : Hid (spE n s m f = 1) := by unfold spE; rw [Hid, if_pos (.inr h1b)]
    clear H1 H2 HV
    go_enter Try.func18, Try.ntmps18
    go_wp2
    go_ret2
    exact ⟨_, by rw [HE.out]; rfl, by rw [HE.out]; exact Ans.nil _ _, Below.refl _ _⟩
  have hk : ¬ (n < 2 ∨ 64 < n) := by omega
  cases h2 : inB n 1 fun _ => s
  · have HE : Hid (spE n s m f = 3) := by unfold spE; rw [Hid, if_neg hk, if_pos (.inl ((inB_one n s).1 h2))]
    rw [h2] at H1
    clear H2 HV h2 hk
    go_enter Try.func18, Try.ntmps18
    go_wp2_with fail
    refine H1.out.mono ?_
    rintro e W1 ⟨rfl, rfl⟩
    clear H1
    go_wp2
    go_ret2
    exact ⟨_, by rw [HE.out]; rfl, by rw [HE.out]; exact Ans.nil _ _, HB.out⟩
  have hs : ¬ (s < 0 ∨ n ≤ s) := fun h => by rw [(inB_one n s).2 h] at h2; cases h2
  rw [h2] at H1
  clear h2
  cases h3 : inB n m f
  · have HE : Hid (spE n s m f = 3) := by unfold spE; rw [Hid, if_neg hk, if_pos (.inr h3)]
    rw [h3] at H2
    clear HV h3 hk
    go_enter Try.func18, Try.ntmps18
    go_wp2_with fail
    refine H1.out.mono ?_
    rintro e W1 ⟨rfl, rfl⟩
    clear H1
    go_wp2_with fail
    refine (H2.out _ HB.out).mono ?_
    rintro e W1 ⟨rfl, rfl⟩
    clear H2
    go_wp2
    go_ret2
    exact ⟨_, by rw [HE.out]; rfl, by rw [HE.out]; exact Ans.nil _ _, HB.out⟩
  have hn2 : ¬ ((s < 0 ∨ n ≤ s) ∨ inB n m f = false) := by rw [h3]; simpa using hs
  rw [h3] at H2
  clear h3
  by_cases h5 : 15 < m
  · have HE : Hid (spE n s m f = 5) := by unfold spE; rw [Hid, if_neg hk, if_neg hn2, if_pos h5]
    have h6 : (15 : Int) < (m : Int) := by omega
    clear hk hn2 h5 HV
    go_enter Try.func18, Try.ntmps18
    go_wp2_with fail
    refine H1.out.mono ?_
    rintro e W1 ⟨rfl, rfl⟩
    clear H1
    go_wp2_with fail
    refine (H2.out _ HB.out).mono ?_
    rintro e W1 ⟨rfl, rfl⟩
    clear H2
    go_wp2
    go_ret2
    exact ⟨_, by rw [HE.out]; rfl, by rw [HE.out]; exact Ans.nil _ _, HB.out⟩
  have h6 : ¬ (15 : Int) < (m : Int) := by omega
  have HE : Hid (spE n s m f = 0) := by unfold spE; rw [Hid, if_neg hk, if_neg hn2, if_neg h5]
  obtain ⟨k1, k2, k3, k4, k5, k6⟩ := spE_zero HE.out
  clear hk hn2 h5
  obtain ⟨N, rfl⟩ : ∃ N : Nat, n = (N : Int) := ⟨n.toNat, by omega⟩
  obtain ⟨x, rfl⟩ : ∃ x : Nat, s = (x : Int) := ⟨s.toNat, by omega⟩
  have hN1 : 2 ≤ N := by omega
  have hN2 : N ≤ 64 := by omega
  have hx3 : x < N := by omega
  have HF : Hid (∀ i, i < m → f i = (((f i).toNat : Nat) : Int) ∧ (f i).toNat < N) := fun i hi => by have := k5 i hi; omega
  have hq1 : sm N (fun i => (f i).toNat) m < N := sm_lt (by omega) _ m
  have hll : lst N x (sm N (fun i => (f i).toNat) m) < N := lst_lt (by omega) _ _
  -- the lists that are tried
  obtain ⟨L, hL⟩ : ∃ L : List Nat, L = ups (fun i => (f i).toNat) m := ⟨_, rfl⟩
  have HLN : Hid (L.length = m) := by rw [hL]; exact ups_len _ _
  have HL := (show Hid _ from hL)
  have HJO : Hid (∀ l W v', l < N → OwnsL W w.heap.size v' (L ++ [l]) → Calls Try.prog 20 #[.int .i64 (N : Nat), v'] W fun e w' => W = w' ∧ e = .returned (.tuple #[.int .i64 ((((sm N (fun i => (f i).toNat) m + l) % N : Nat)) : Int), .int .i64 0])) := fun l W v' hl ho => by
    have h1 := ho.nums
    rw [List.length_append, HLN.out] at h1
    have hg : ∀ i, i < m + 1 → (L ++ [l]).getD i 0 < N ∧ (i < m → (L ++ [l]).getD i 0 = (f i).toNat) ∧ (i = m → (L ++ [l]).getD i 0 = l) := fun i hi => by
      by_cases e : i < m
      · have e1 : (L ++ [l]).getD i 0 = (f i).toNat := by
          rw [List.getD_eq_getElem?_getD, List.getElem?_append_left (by rw [HLN.out]; exact e), ← List.getD_eq_getElem?_getD, hL]
          exact ups_get _ e
        exact ⟨by rw [e1]; exact (HF.out i e).2, fun _ => e1, fun e2 => by omega⟩
      · have e3 : i = m := by omega
        have e1 : (L ++ [l]).getD i 0 = l := by
          rw [List.getD_eq_getElem?_getD, List.getElem?_append_right (by rw [HLN.out]; omega), HLN.out, e3]
          simp
        exact ⟨by rw [e1]; exact hl, fun h => by omega, fun _ => e1⟩
    have h2 := rjo_any (N : Int) v' (m + 1) _ W h1
    have hE0 : joE (N : Int) (m + 1) (fun c => (((L ++ [l]).getD c 0 : Nat) : Int)) = 0 := joE_ok (by omega) (by omega) (fun i hi => by have := (hg i hi).1; omega) (by omega) (by omega)
    have hJ0 : joN (N : Int) (m + 1) (fun c => (((L ++ [l]).getD c 0 : Nat) : Int)) = ((((sm N (fun i => (f i).toNat) m + l) % N : Nat)) : Int) := by
      unfold joN
      rw [hE0, if_pos rfl, Int.toNat_natCast]
      congr 1
      show (sm N (fun i => ((((L ++ [l]).getD i 0 : Nat) : Int)).toNat) m + ((((L ++ [l]).getD m 0 : Nat) : Int)).toNat) % N = _
      rw [sm_ext (u := fun i => (f i).toNat) (fun i hi => by rw [Int.toNat_natCast, (hg i (by omega)).2.1 hi]), Int.toNat_natCast, (hg m (by omega)).2.2 rfl]
    rw [hE0, hJ0] at h2
    exact h2
  have HON := (show Hid (∀ k, k < N → ((sm N (fun i => (f i).toNat) m + k) % N = x ↔ k = lst N x (sm N (fun i => (f i).toNat) m))) from fun k hk => one_before hx3 hq1 hk)
  have HSP : Hid (∀ W v', OwnsL W w.heap.size v' (L ++ [lst N x (sm N (fun i => (f i).toNat) m)]) → Ans W v' (m + 1) (spF (N : Int) (x : Int) m f)) := fun W v' ho => by
    have h1 := ho.ans
    rw [List.length_append, HLN.out] at h1
    refine ⟨h1.1, nums_ext h1.2 fun i hi => ?_⟩
    have hi' : i < m + 1 := hi
    unfold spF
    by_cases e : i < m
    · rw [if_pos e, List.getD_eq_getElem?_getD, List.getElem?_append_left (by rw [HLN.out]; exact e), ← List.getD_eq_getElem?_getD, hL, ups_get _ e]
      exact (HF.out i e).1.symm
    · rw [if_neg e, List.getD_eq_getElem?_getD, List.getElem?_append_right (by rw [HLN.out]; omega), HLN.out, show i - m = 0 by omega, Int.toNat_natCast, Int.toNat_natCast]
      rfl
  have HNW : Hid (∀ W, Below w.heap.size w W → ∀ j u, (nnums L)[j]? = some u → W.cell? ((a.getD ⟨0, 0, none⟩).add j) = some u) := fun W hb j u hj => by
    have hjm : j < m := by
      have := (List.getElem?_eq_some_iff.1 hj).1
      rw [nnums_length, HLN.out] at this
      exact this
    obtain ⟨_, _, e, _, hc⟩ := HV.out.2
    cases e
    obtain ⟨b, o, rfl, hcell⟩ := hc j hjm
    have e1 : u = .int .i64 (f j) := by
      rw [hL, nnums_ups _ hjm] at hj
      injection hj with hj
      rw [← hj, ← (HF.out j hjm).1]
    have e2 : (((some ⟨b, o, none⟩ : Option Addr).getD ⟨0, 0, none⟩).add j) = ⟨b, o + j, none⟩ := by
      show ((⟨b, o, none⟩ : Addr).add j) = _
      unfold Addr.add; by_cases e0 : j = 0 <;> simp [e0]
    rw [e1, e2]
    exact (hb.cell (p := ⟨b, o + j, none⟩) (cell_block hcell)).trans hcell
  clear hL k1 k2 k3 k4 k5 HV
  generalize sm N (fun i => (f i).toNat) m = S at *
  generalize lst N x S = G at *
  cases a with
  | none =>
    have hc0 : c = 0 := hnone rfl
    obtain rfl : m = 0 := by omega
    obtain rfl : L = [] := List.eq_nil_of_length_eq_zero HLN.out
    subst hc0
    go_enter Try.func18, Try.ntmps18
    go_wp2_with fail
    refine H1.out.mono ?_
    rintro e W1 ⟨rfl, rfl⟩
    clear H1
    go_wp2_with fail
    refine (H2.out _ HB.out).mono ?_
    rintro e W1 ⟨rfl, rfl⟩
    clear H2
    go_wp2_with fail
    go_loopw [8] (fun y W => ∃ k : Nat, k ≤ G ∧ y = .int .i64 (k : Nat) ∧ Below w.heap.size w W) (fun y _ => ((N : Int) - intOf y).toNat)
    case atStart => exact ⟨0, by omega, rfl, HB.out⟩
    case round =>
      obtain ⟨k, hkG, rfl, hbe⟩ := hrel
      clear HB
      have hkN : (k : Int) < (N : Int) := by omega
      have hz := hbe.size
      have hoe : (wr.alloc (.cells #[] 3)).ownsRow w.heap.size 3 1 (.slice (some ⟨wr.heap.size, 0, none⟩) 0 0) 0 [] := own_empty wr w.heap.size hz
      have hbe1 := hbe.alloc hz (.cells #[] 3)
      have hz1' := hbe1.size
      have hsz : (wr.alloc (.cells #[] 3)).heap.size = wr.heap.size + 1 := by simp
      go_wp2_with (first
        | (at_builtin; refine wpList_append_own_none rfl _ _ 22 rfl w.heap.size 3 i0 1 Try.underlying22 hi0 _ 0 [] rfl hoe rfl ?_)
        | (at_builtin; refine wpList_append_own _ rfl _ _ 22 rfl w.heap.size 3 i0 (.int .i64 0) 1 8 Try.underlying22 hi0 hz0' hz1 hz2 rfl (by decide) _ _ _ rfl (World.ownsRow.alloc hoe _) ⟨wr.heap.size + 1, 0, none⟩ 1 1 [.int .i64 (k : Nat)] rfl rfl (cell_one_at _ _ _ hsz.symm) (fun u hu => by simp at hu; subst hu; rfl) (by decide) (by decide) (by simp; omega) ?_; intro v' w1 hown' hgrow _))
      have hown2 := own_lone hown'
      have hbe2 := (hbe1.alloc hz1' _).grown hgrow (by simp; omega) (fun j hj => (World.ownsRow.lt hoe j hj).1)
      refine (HJO.out k _ _ (by omega) hown2).mono ?_
      rintro e W5 ⟨rfl, rfl⟩
      have hon := HON.out k (by omega)
      generalize (S + k) % N = t at *
      by_cases hkq : k = G
      · have e2 : ((t : Int) == (x : Int)) = true := by
          have := hon.2 hkq
          simp [this]
        rw [hkq] at hown2
        have HA := (show Hid _ from HSP.out _ _ hown2)
        have HBE := (show Hid _ from hbe2)
        clear hown2 hbe2 hkq hon HJO HSP HON HF
        clear hoe hbe1 hown' hgrow hbe hnone
        go_wp2
        go_ret2
        exact ⟨_, by rw [HE.out]; rfl, by rw [HE.out]; exact HA.out, HBE.out⟩
      · have e2 : ((t : Int) == (x : Int)) = false := by
          have : ¬ t = x := fun h => hkq (hon.1 h)
          simp; omega
        have HBE := (show Hid _ from hbe2)
        have HKG : Hid (k + 1 ≤ G) := by rw [Hid]; omega
        have HKN : Hid (k < N) := by rw [Hid]; omega
        clear hown2 hbe2 hkq hon
        clear hoe hbe1 hown' hgrow hbe hnone
        go_wp2
        go_roundw
        case rel => exact ⟨k + 1, HKG.out, by go_num, HBE.out⟩
        case measure => have := HKN.out; simp [intOf]; omega
  | some ad =>
    go_enter Try.func18, Try.ntmps18
    go_wp2_with fail
    refine H1.out.mono ?_
    rintro e W1 ⟨rfl, rfl⟩
    clear H1
    go_wp2_with fail
    refine (H2.out _ HB.out).mono ?_
    rintro e W1 ⟨rfl, rfl⟩
    clear H2
    go_wp2_with fail
    go_loopw [8] (fun y W => ∃ k : Nat, k ≤ G ∧ y = .int .i64 (k : Nat) ∧ Below w.heap.size w W) (fun y _ => ((N : Int) - intOf y).toNat)
    case atStart => exact ⟨0, by omega, rfl, HB.out⟩
    case round =>
      obtain ⟨k, hkG, rfl, hbe⟩ := hrel
      clear HB
      have hkN : (k : Int) < (N : Int) := by omega
      have hz := hbe.size
      have hoe : (wr.alloc (.cells #[] 3)).ownsRow w.heap.size 3 1 (.slice (some ⟨wr.heap.size, 0, none⟩) 0 0) 0 [] := own_empty wr w.heap.size hz
      have hbe1 := hbe.alloc hz (.cells #[] 3)
      have hz1' := hbe1.size
      have hnew := HNW.out _ hbe1
      have HLE := (show Hid _ from HLN.out)
      go_wp2_with (first
        | (at_builtin; refine wpList_append_own _ rfl _ _ 22 rfl w.heap.size 3 i0 (.int .i64 0) 1 8 Try.underlying22 hi0 hz0' hz1 hz2 rfl (by decide) _ _ _ rfl hoe ad m c (nnums L) rfl (by rw [nnums_length, HLE.out, Nat.mul_one]) hnew (nnums_one L) (by unfold maxLen; omega) (by omega) hz1' ?_; intro v1 w1 hown1 hgrow1 _; have hbe2 := hbe1.grown hgrow1 hz1' (fun j hj => (World.ownsRow.lt hoe j hj).1); have hz2' := hbe2.size)
        | (at_builtin; refine wpList_append_own _ rfl _ _ 22 rfl w.heap.size 3 i0 (.int .i64 0) 1 8 Try.underlying22 hi0 hz0' hz1 hz2 rfl (by decide) _ _ _ rfl (World.ownsRow.alloc hown1 _) ⟨w1.heap.size, 0, none⟩ 1 1 [.int .i64 (k : Nat)] rfl rfl (cell_one_new' _ _ _) (fun u hu => by simp at hu; subst hu; rfl) (by unfold maxLen; omega) (by omega) (by simp; omega) ?_; intro v' w3 hown' hgrow _; have hbe3 := (hbe2.alloc hz2' _).grown hgrow (by simp; omega) (fun j hj => (World.ownsRow.lt hown1 j hj).1)))
      have hown2 := own_both HLE.out.symm hown'
      refine (HJO.out k _ _ (by omega) hown2).mono ?_
      rintro e W5 ⟨rfl, rfl⟩
      have hon := HON.out k (by omega)
      generalize (S + k) % N = t at *
      by_cases hkq : k = G
      · have e2 : ((t : Int) == (x : Int)) = true := by
          have := hon.2 hkq
          simp [this]
        rw [hkq] at hown2
        have HA := (show Hid _ from HSP.out _ _ hown2)
        have HBE := (show Hid _ from hbe3)
        clear hown2 hbe3 hkq hon HJO HSP HON HF
        clear hoe hbe1 hbe2 hown' hgrow hbe hown1 hgrow1 hnew hnone HNW
        go_wp2
        go_ret2
        exact ⟨_, by rw [HE.out]; rfl, by rw [HE.out]; exact HA.out, HBE.out⟩
      · have e2 : ((t : Int) == (x : Int)) = false := by
          have : ¬ t = x := fun h => hkq (hon.1 h)
          simp; omega
        have HBE := (show Hid _ from hbe3)
        have HKG : Hid (k + 1 ≤ G) := by rw [Hid]; omega
        have HKN : Hid (k < N) := by rw [Hid]; omega
        clear hown2 hbe3 hkq hon
        clear hoe hbe1 hbe2 hown' hgrow hbe hown1 hgrow1 hnew hnone HNW
        go_wp2
        go_roundw
        case rel => exact ⟨k + 1, HKG.out, by go_num, HBE.out⟩
        case measure => have := HKN.out; simp [intOf]; omega
end Go.Proofs.Ytccdbghhjcdcfaa
