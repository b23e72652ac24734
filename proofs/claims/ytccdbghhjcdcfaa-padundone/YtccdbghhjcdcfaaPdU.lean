/-
  Contracts of the document's Chances and Split (chapter 14).
-/
import Derived.Test.YtccdbghhjcdcfaaPdT
namespace Go.Proofs.Ytccdbghhjcdcfaa
open Go.RowKit PK Pd

theorem one_before {N c s k : Nat} (hc : c < N) (hs : s < N) (hk : k < N) : (s + k) % N = c ↔ k = lst N c s := by
  constructor
  · intro h
    refine add_inj hs hk (lst_lt (by omega) _ _) ?_
    rw [h, add_lst hc hs]
  · rintro rfl
    exact add_lst hc hs
/-- What has been found for sign c ahead of key k. -/
def fnd (x q k : Nat) : List Nat := if q < k then [x] else []
theorem fnd_zero (x q : Nat) : fnd x q 0 = [] := by unfold fnd; rw [if_neg (by omega)]
theorem fnd_hit (x q : Nat) : fnd x q (q + 1) = fnd x q q ++ [x] := by unfold fnd; rw [if_pos (by omega), if_neg (by omega)]; rfl
theorem fnd_miss {x q k : Nat} (h : k ≠ q) : fnd x q (k + 1) = fnd x q k := by
  unfold fnd
  by_cases e : q < k
  · rw [if_pos e, if_pos (by omega)]
  · rw [if_neg e, if_neg (by omega)]
theorem fnd_all {x q N : Nat} (h : q < N) : fnd x q N = [x] := by unfold fnd; rw [if_pos h]
theorem fnd_len (x q k : Nat) : (fnd x q k).length ≤ 1 := by unfold fnd; split <;> simp
set_option maxRecDepth 100000 in
set_option maxHeartbeats 4000000 in
theorem rch_any (n s : Int) (v : Value) (m : Nat) (f : Nat → Int) (w : World) (hv : NumsAt w v m f) : Calls Try.prog 14 #[.int .i64 n, v, .int .i64 s] w fun e w' => ∃ v', e = .returned (.tuple #[v', .int .i64 (wtE n s m f)]) ∧ Ans w' v' (rl (wtE n s m f) n.toNat) (chF n s f) ∧ Below w.heap.size w w' := by
  have HW := (show Hid (Calls Try.prog 29 #[.int .i64 n, v, .int .i64 s] w fun e w' => w = w' ∧ e = .returned (.int .i64 (wtE n s m f))) from rwt_any n s v m f w hv)
  obtain ⟨i0, hi0, hz0', hz1, hz2⟩ := y_info_parts g_info_int
  obtain ⟨a, c, rfl, hm, hc⟩ := hv
  have HC := (show Hid _ from hc)
  unfold maxLen at hm
  clear hc
  obtain ⟨E, hE⟩ : ∃ E, E = wtE n s m f := ⟨_, rfl⟩
  rw [← hE] at HW ⊢
  have HE := (show Hid _ from hE)
  clear hE
  by_cases hE : E = 0
  case neg =>
    have hE1 : (E != 0) = true := by simp [hE]
    have HR : Hid (rl E n.toNat = 0) := by unfold rl; rw [Hid, if_neg hE]
    clear hE HC HE
    go_enter Try.func14, Try.ntmps14
    go_wp2_with fail
    refine HW.out.mono ?_
    rintro e W1 ⟨rfl, rfl⟩
    clear HW
    go_wp2
    go_ret2
    exact ⟨_, rfl, by rw [HR.out]; exact Ans.nil _ _, Below.refl _ _⟩
  subst hE
  obtain ⟨h1, h2, h3, h4, h5, hfw⟩ := wtE_zero HE.out.symm
  clear HE
  obtain ⟨N, rfl⟩ : ∃ N : Nat, n = (N : Int) := ⟨n.toNat, by omega⟩
  obtain ⟨x, rfl⟩ : ∃ x : Nat, s = (x : Int) := ⟨s.toNat, by omega⟩
  obtain rfl : m = N := by omega
  have hN1 : 2 ≤ m := by omega
  have hN2 : m ≤ 64 := by omega
  have hx3 : x < m := by omega
  have HFW : Hid (∀ i, i < m → f i = (((f i).toNat : Nat) : Int) ∧ (f i).toNat ≤ 65536) := fun i hi => by have := hfw i hi; omega
  obtain ⟨V, hV⟩ : ∃ V : Nat → Nat, V = fun i => (f (lst m i x)).toNat := ⟨_, rfl⟩
  have HV := (show Hid _ from hV)
  have HFV : Hid (∀ i, chF (m : Int) (x : Int) f i = ((V i : Nat) : Int)) := fun i => by
    rw [hV]
    unfold chF
    rw [Int.toNat_natCast, Int.toNat_natCast]
    exact (HFW.out _ (lst_lt (by omega) _ _)).1
  have HVL : Hid (∀ i, V i ≤ 65536) := fun i => by
    rw [hV]
    exact (HFW.out _ (lst_lt (by omega) _ _)).2
  clear hV hfw h1 h2 h3 h4 h5
  go_enter Try.func14, Try.ntmps14
  go_wp2_with fail
  refine HW.out.mono ?_
  rintro e W1 ⟨rfl, rfl⟩
  clear HW
  go_wp2_with fail
  go_loopw [9, 10] (fun o y W => ∃ (i : Nat) (v : Value), i ≤ m ∧ y = .int .i64 (i : Nat) ∧ v = o ∧ OwnsL W w.heap.size v (ups V i) ∧ Below w.heap.size w W) (fun _ y _ => ((m : Int) - intOf y).toNat)
  case atStart => exact ⟨0, _, by omega, rfl, rfl, OwnsL.nil _ _, Below.refl _ _⟩
  case round =>
    obtain ⟨i, v, hi, rfl, rfl, hown, hbe⟩ := hrel
    have hlen := ups_len V i
    by_cases hlt : i < m
    case neg =>
      obtain rfl : i = m := by omega
      have hnn : ¬ ((i : Nat) : Int) < ((i : Nat) : Int) := by omega
      have HA : Hid (Ans wr v (rl 0 i) (chF (i : Int) (x : Int) f)) := by
        have h1 := hown.ans
        rw [ups_len] at h1
        refine ⟨h1.1, nums_ext h1.2 fun j hj => ?_⟩
        have hj' : j < i := hj
        rw [HFV.out j, ups_get V hj']
      have HBE := (show Hid _ from hbe)
      clear hown hbe hlt hlen
      go_wp2
      go_ret2
      exact ⟨_, rfl, HA.out, HBE.out⟩
    have HLT : Hid (i < m) := hlt
    have hlt2 : (i : Int) < (m : Int) := by omega
    have hq : lst m i x < m := lst_lt (by omega) i x
    have HON := (show Hid (∀ k, k < m → ((x + k) % m = i ↔ k = lst m i x)) from fun k hk => one_before hlt hx3 hk)
    have HVI : Hid (V i = (f (lst m i x)).toNat) := by rw [Hid, HV.out]
    have HNX := (show Hid (ups V (i + 1) = ups V i ++ [V i]) from ups_next V i)
    have hvl := HVL.out i
    generalize lst m i x = q at *
    obtain ⟨z, hz⟩ : ∃ z, z = V i := ⟨_, rfl⟩
    rw [← hz] at HVI HNX hvl
    generalize ups V i = O at *
    clear hlt hz
    go_wp2_with fail
    go_loopw [9, 11] (fun o y W => ∃ (k : Nat) (v : Value), k ≤ m ∧ y = .int .i64 (k : Nat) ∧ v = o ∧ OwnsL W w.heap.size v (O ++ fnd z q k) ∧ Below w.heap.size w W) (fun _ y _ => ((m : Int) - intOf y).toNat)
    case atStart => exact ⟨0, _, by omega, rfl, rfl, by rw [fnd_zero, List.append_nil]; exact hown, hbe⟩
    case round =>
      clear hown hbe
      obtain ⟨k, v', hk, rfl, rfl, hown, hbe⟩ := hrel
      have hz := hbe.size
      by_cases hlt : k < m
      case neg =>
        obtain rfl : k = m := by omega
        have hnn : ¬ ((k : Nat) : Int) < ((k : Nat) : Int) := by omega
        rw [fnd_all hq, ← HNX.out] at hown
        have HO := (show Hid _ from hown)
        have HBE := (show Hid _ from hbe)
        clear hown hbe hlt
        go_wp2
        go_roundw
        case rel => exact ⟨i + 1, _, HLT.out, by go_num, rfl, HO.out, HBE.out⟩
        case measure => have := HLT.out; simp [intOf]; omega
      have HLK : Hid (k < m) := hlt
      have hltk : (k : Int) < (m : Int) := by omega
      go_wp2_with fail
      refine (ron_any m x k hN1 hN2 hx3 (by omega) wr).mono ?_
      rintro e W2 ⟨rfl, rfl⟩
      have hon := HON.out k hlt
      generalize (x + k) % m = t at *
      by_cases hkq : k = q
      · have e2 : ((t : Int) == (i : Int)) = true := by
          have := hon.2 hkq
          simp [this]
        obtain ⟨b1, o1, rfl, c1⟩ := HC.out k hlt
        have d1 := (hbe.cell (p := ⟨b1, o1 + k, none⟩) (cell_block c1)).trans c1
        rw [(HFW.out k hlt).1, hkq, ← HVI.out, ← hkq] at d1
        have HF2 : Hid (fnd z q (k + 1) = fnd z q k ++ [z]) := by rw [Hid, hkq]; exact fnd_hit z q
        have hfl := fnd_len z q k
        have hal : (O ++ fnd z q k).length = O.length + (fnd z q k).length := List.length_append
        generalize hA : O ++ fnd z q k = A at *
        have HA := (show Hid _ from hA)
        clear hA hon hlt hkq c1
        go_wp2_with (first | (at_builtin; refine wpList_append_own _ rfl _ _ 22 rfl w.heap.size 3 i0 (.int .i64 0) 1 8 Try.underlying22 hi0 hz0' hz1 hz2 rfl (by decide) _ _ _ rfl (World.ownsRow.alloc hown _) ⟨wr.heap.size, 0, none⟩ 1 1 [.int .i64 (z : Nat)] rfl rfl (cell_one_new' _ _ _) (fun u hu => by simp at hu; subst hu; rfl) (by unfold maxLen; omega) (by omega) (by simp; omega) ?_; intro v' w1 hown' hgrow _))
        go_roundw
        case rel =>
          refine ⟨k + 1, v', HLK.out, by go_num, rfl, ?_, ?_⟩
          · rw [HF2.out, ← List.append_assoc, HA.out, OwnsL, nnums_append, List.length_append]
            exact hown'
          · exact (hbe.alloc hbe.size _).grown hgrow (by simp; omega) (fun j hj => (World.ownsRow.lt hown j hj).1)
        case measure => have := HLK.out; simp [intOf]; omega
      · have e2 : ((t : Int) == (i : Int)) = false := by
          have : ¬ t = i := fun h => hkq (hon.1 h)
          simp; omega
        rw [← fnd_miss hkq] at hown
        have HO := (show Hid _ from hown)
        have HBE := (show Hid _ from hbe)
        clear hown hbe hlt hkq hon
        go_wp2
        go_roundw
        case rel => exact ⟨k + 1, _, HLK.out, by go_num, rfl, HO.out, HBE.out⟩
        case measure => have := HLK.out; simp [intOf]; omega
end Go.Proofs.Ytccdbghhjcdcfaa
