/-
  Contract of the document's Profile (chapter 11).
-/
import Derived.Test.YtflehdigikdhmaaRgSh
namespace Go.Proofs.Ytflehdigikdhmaa
open Go.RowKit PK Rg

/-- The lengths of the shortest registers of the first bit, the first two, and so on. -/
def ProfL (s : Nat → Bool) (l : List Nat) (m : Nat) : Prop := l.length = m ∧ ∀ i, i < m → Least s (i + 1) (l.getD i 0)
theorem ProfL.snoc {s : Nat → Bool} {l : List Nat} {m L : Nat} (h : ProfL s l m) (hL : Least s (m + 1) L) : ProfL s (l ++ [L]) (m + 1) := by
  refine ⟨by simp [h.1], fun i hi => ?_⟩
  by_cases e : i < m
  · have : (l ++ [L]).getD i 0 = l.getD i 0 := by
      have h1 : i < l.length := by rw [h.1]; exact e
      simp [List.getD, List.getElem?_append_left h1]
    rw [this]
    exact h.2 i e
  · obtain rfl : i = m := by omega
    have : (l ++ [L]).getD i 0 = L := by
      simp [List.getD, h.1]
    rw [this]
    exact hL
theorem run_slice_ints (b o n cap k : Nat) (hk : k ≤ cap) (W : World) : (Instr.sliceAt 22 (.slice (some ⟨b, o, none⟩) n cap) none (some (.int .i64 (k : Int))) none).run Try.prog W = .ok (.slice (some ⟨b, o, none⟩) k cap) W := by
  have he : Try.prog.elem 22 = 3 := by kernel_rfl
  have hu : Try.prog.underlying 22 = some (.slice (Try.prog.elem 22)) := by rw [he]; exact Try.underlying22
  rw [run_sliceAt_slice (P := Try.prog) (w := W) 22 _ _ _ _ hu, run_slice_h (P := Try.prog) (w := W) 22 _ _ _ hu .i64 (k : Int) (by omega) (by omega), he]
  cases hq : Try.prog.info? 3 with
  | none => have := g_info_int; simp [hq] at this
  | some i =>
    have hs : i.size = 1 := by have := g_info_int; simp [hq] at this; exact this.2.1
    simp [sizeOf, typeInfo, hq, hs, sliced, Addr.add]
set_option maxRecDepth 100000 in
set_option maxHeartbeats 8000000 in
theorem rprof_ok (a : Option Addr) (n cap : Nat) (hcap : n ≤ cap) (hn : n ≤ 256) (b : Nat → Nat) (hb1 : ∀ i, i < n → b i ≤ 1) (w : World) (hv : NumsAt w (.slice a n cap) n fun i => (b i : Nat)) : Calls Try.prog 11 #[.slice a n cap] w fun e w' => ∃ (v : Value) (l : List Nat), e = .returned (.tuple #[v, .int .i64 0]) ∧ OwnsL w' w.heap.size v l ∧ ProfL (fun i => bt (b i)) l n ∧ Below w.heap.size w w' := by
  obtain ⟨i0, hi0, hz0, hz1, hz2⟩ := x_info_parts g_info_int
  have hfT : frB n (fun k => ((b k : Nat) : Int)) = true := (frB_iff _ _).2 fun i hi => by have := hb1 i hi; omega
  have HF1 := (show Hid (∀ W, Below w.heap.size w W → Calls Try.prog 17 #[.slice a n cap] W fun e w' => e = .returned (.bool true) ∧ Below W.heap.size W w') from fun W hb => by have := rfair_any (.slice a n cap) n _ W (hv.below hb); rw [hfT] at this; exact this)
  have HSY := (show Hid (∀ p L W, p ≤ n → L < p → Below w.heap.size w W → Calls Try.prog 22 #[.slice a p cap, .int .i64 (L : Nat)] W fun e w' => ∃ v', e = .returned v' ∧ (∃ R, OwnsR w' W.heap.size v' (p - L) R ∧ ∀ r, r < p - L → IsRow b L (L + r) (R r)) ∧ Below W.heap.size W w') from fun p L W hp hL hb => by
    refine rsys_any (.slice a p cap) p (by omega) b (fun i hi => hb1 i (by omega)) L (by omega) W ?_
    obtain ⟨a', c', e, hm, hc⟩ := hv.below hb
    cases e
    exact ⟨_, _, rfl, by omega, fun c hc' => hc c (by omega)⟩)
  have HV : Hid (0 < n → ∃ b0 o0, a = some ⟨b0, o0, none⟩) := fun h => by
    obtain ⟨a', c', e, hm, hc⟩ := hv
    cases e
    obtain ⟨b0, o0, h1, _⟩ := hc 0 h
    exact ⟨b0, o0, h1⟩
  have h3 : ¬ (256 : Int) < (n : Int) := by omega
  have HCAP := (show Hid _ from hcap)
  clear hfT hb1 hv hcap
  go_enter Try.func11, Try.ntmps11
  go_wp2_with fail
  refine (HF1.out _ (Below.refl _ _)).mono ?_
  rintro e W1 ⟨rfl, hb⟩
  clear HF1
  go_wp2_with fail
  go_loopw [4, 5, 6] (fun o y x W => ∃ (m : Nat) (v : Value) (l : List Nat) (L : Nat), m ≤ n ∧ x = .int .i64 ((m + 1 : Nat) : Int) ∧ y = .int .i64 (L : Nat) ∧ v = o ∧ OwnsL W w.heap.size v l ∧ ProfL (fun i => bt (b i)) l m ∧ L ≤ m ∧ (∀ M, M < L → ∀ c, ¬ Makes c M (fun i => bt (b i)) m) ∧ Below w.heap.size w W) (fun _ _ x _ => ((n : Int) + 1 - intOf x).toNat)
  case atStart => exact ⟨0, _, [], 0, by omega, rfl, rfl, rfl, OwnsL.nil _ _, ⟨rfl, fun i hi => by omega⟩, by omega, fun M hM => by omega, hb⟩
  case round =>
    clear hb
    obtain ⟨m, v, l, L, hm, rfl, rfl, rfl, hown, hpl, hLm, hno, hbe⟩ := hrel
    obtain ⟨p, hp⟩ : ∃ p, p = m + 1 := ⟨_, rfl⟩
    rw [← hp]
    have HP := (show Hid _ from hp)
    by_cases hlt : m < n
    case neg =>
      obtain rfl : n = m := by omega
      have hnn : ¬ ((p : Nat) : Int) ≤ ((n : Nat) : Int) := by omega
      have HOWN := (show Hid (OwnsL wr w.heap.size v l) from hown)
      have HPL := (show Hid (ProfL (fun i => bt (b i)) l n) from hpl)
      have HBE := (show Hid _ from hbe)
      clear hown hpl hno hbe hlt hLm hm hp HSY HV
      go_wp2
      go_ret2
      first | exact ⟨v, l, rfl, HOWN.out, HPL.out, HBE.out⟩ | exact ⟨v, rfl, l, HOWN.out, HPL.out, HBE.out⟩
    have hpn : p ≤ n := by omega
    have HPN := (show Hid _ from hpn)
    have hlt2 : (p : Int) ≤ (n : Int) := by omega
    obtain ⟨b0, o0, rfl⟩ := HV.out (by omega)
    have HPL := (show Hid (ProfL (fun i => bt (b i)) l m) from hpl)
    have HIN : Hid (∃ L' : Nat, L' ≤ p ∧ Value.int .i64 (L : Nat) = .int .i64 (L' : Nat) ∧ OwnsL wr w.heap.size v l ∧ Below w.heap.size w wr ∧ ∀ M, M < L' → ∀ c, ¬ Makes c M (fun i => bt (b i)) p) := ⟨L, by omega, rfl, hown, hbe, fun M hM c hc => hno M hM c (hc.mono (by omega))⟩
    have hlen : l.length = m := hpl.1
    have HLN := (show Hid _ from hlen)
    clear hown hpl hno hbe hlt hLm hpn hlen hp HV
    go_wp2_with fail
    go_loopw [5] (fun x W => ∃ L' : Nat, L' ≤ p ∧ x = .int .i64 (L' : Nat) ∧ OwnsL W w.heap.size v l ∧ Below w.heap.size w W ∧ ∀ M, M < L' → ∀ c, ¬ Makes c M (fun i => bt (b i)) p) (fun x _ => ((p : Int) - intOf x).toNat)
    case atStart => exact HIN.out
    case round =>
      clear HIN
      obtain ⟨X, hX, rfl, hown, hbe, hno⟩ := hrel
      have HNO := (show Hid _ from hno)
      by_cases hlt : X < p
      case neg =>
        obtain rfl : p = X := by omega
        have hnn : ¬ ((p : Nat) : Int) < ((p : Nat) : Int) := by omega
        have HL : Hid (Least (fun i => bt (b i)) p p) := ⟨⟨fun _ => false, makes_all _ _ (Nat.le_refl _)⟩, fun M ⟨c, hc⟩ => by
          by_cases e : M < p
          · exact absurd hc (hno M e c)
          · omega⟩
        clear hno hlt
        have hz := hbe.size
        have hlen := HLN.out
        have hm2 := HPN.out
        have hpm1 : m < p := by have := HP.out; omega
        go_wp2_with (first | (at_builtin; refine wpList_append_own _ rfl _ _ 22 rfl w.heap.size 3 i0 (.int .i64 0) 1 8 Try.underlying22 hi0 hz0 hz1 hz2 rfl (by decide) _ _ _ rfl (World.ownsRow.alloc hown _) ⟨wr.heap.size, 0, none⟩ 1 1 [.int .i64 (p : Nat)] rfl rfl (cell_one_new _ _ _) (fun u hu => by simp at hu; subst hu; rfl) (by unfold maxLen; omega) (by omega) (by simp; omega) ?_; intro v' w1 hown' hgrow _))
        go_roundw
        case rel =>
          refine ⟨p, v', l ++ [p], p, HPN.out, by go_num, rfl, rfl, ?_, ?_, ?_, HNO.out, ?_⟩
          · rw [OwnsL, nnums_append, List.length_append]
            exact hown'
          · have h1 := HL.out
            rw [HP.out] at h1 ⊢
            exact HPL.out.snoc h1
          · exact Nat.le_refl _
          · exact (hbe.alloc hbe.size _).grown hgrow (by simp; omega) (fun j hj => (World.ownsRow.lt hown j hj).1)
        case measure => simp [intOf]; omega
      have HLT : Hid (X < p) := hlt
      have hlt3 : (X : Int) < (p : Int) := by omega
      have HBE := (show Hid (Below w.heap.size w wr) from hbe)
      have HOWN := (show Hid (OwnsL wr w.heap.size v l) from hown)
      have hsl := run_slice_ints b0 o0 n cap p (by have := HPN.out; have := HCAP.out; omega)
      clear hno hbe hlt hown
      go_wp2_with fail
      refine (HSY.out p X wr HPN.out HLT.out HBE.out).mono ?_
      rintro e W2 ⟨v2, rfl, ⟨R, ho, hr⟩, hb2⟩
      have HO := (show Hid (OwnsR W2 wr.heap.size v2 (p - X) R) from ho)
      have HR := (show Hid (∀ r, r < p - X → IsRow b X (X + r) (R r)) from hr)
      have HB2 := (show Hid _ from hb2)
      clear ho hr hb2 hsl
      go_wp2_with fail
      refine (rsolved_sys v2 wr.heap.size p X (by have := HPN.out; omega) HLT.out b R W2 HO.out HR.out).mono ?_
      rintro e W3 ⟨hb3, hd⟩
      have hw3 := HB2.out.trans hb3
      have HB3 : Hid (Below w.heap.size w W3) := HBE.out.trans (hw3.mono HBE.out.size)
      have HOW3 : Hid (OwnsL W3 w.heap.size v l) := OwnsL.below HOWN.out hw3
      clear HO HR HB2 hb3 hw3 HOWN HBE
      rcases hd with ⟨q, x, rfl, hrow, hq, hf⟩ | ⟨rfl, hnx⟩
      · have HL : Hid (Least (fun i => bt (b i)) p X) := ⟨⟨x, hf.1⟩, fun M ⟨c, hc⟩ => by
          by_cases e : M < X
          · exact absurd hc (HNO.out M e c)
          · omega⟩
        clear hrow hq hf
        have hown := HOW3.out
        have hbe := HB3.out
        have hz := hbe.size
        have hlen := HLN.out
        have hm2 := HPN.out
        have hpm1 : m < p := by have := HP.out; omega
        go_wp2_with (first | (at_builtin; refine wpList_append_own _ rfl _ _ 22 rfl w.heap.size 3 i0 (.int .i64 0) 1 8 Try.underlying22 hi0 hz0 hz1 hz2 rfl (by decide) _ _ _ rfl (World.ownsRow.alloc hown _) ⟨W3.heap.size, 0, none⟩ 1 1 [.int .i64 (X : Nat)] rfl rfl (cell_one_new _ _ _) (fun u hu => by simp at hu; subst hu; rfl) (by unfold maxLen; omega) (by omega) (by simp; omega) ?_; intro v' w1 hown' hgrow _))
        go_roundw
        case rel =>
          refine ⟨p, v', l ++ [X], X, HPN.out, by go_num, rfl, rfl, ?_, ?_, ?_, HNO.out, ?_⟩
          · rw [OwnsL, nnums_append, List.length_append]
            exact hown'
          · have h1 := HL.out
            rw [HP.out] at h1 ⊢
            exact HPL.out.snoc h1
          · exact Nat.le_of_lt HLT.out
          · exact (hbe.alloc hbe.size _).grown hgrow (by simp; omega) (fun j hj => (World.ownsRow.lt hown j hj).1)
        case measure => simp [intOf]; omega
      · have HN2 : Hid (∀ M, M < X + 1 → ∀ c, ¬ Makes c M (fun i => bt (b i)) p) := fun M hM c => by
          by_cases e : M = X
          · rw [e]; exact hnx c
          · exact HNO.out M (by omega) c
        clear hnx HNO
        go_wp2
        go_roundw
        case rel => exact ⟨X + 1, HLT.out, by go_num, HOW3.out, HB3.out, HN2.out⟩
        case measure => have := HLT.out; simp [intOf]; omega
end Go.Proofs.Ytflehdigikdhmaa
