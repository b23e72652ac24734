/-
  Contract of register's finder's first (chapter 11).
-/
import Derived.Test.YtflehdigikdhmaaRgP5
namespace Go.Proofs.Ytflehdigikdhmaa
open Go.RowKit PK Rg

/-- What is held when i free taps are 0. -/
def FsS (s : Nat → Bool) (n L d i : Nat) (w W : World) (v : Value) : Prop := ∃ q l R, v = .slice (some ⟨q, 0, none⟩) l l ∧ RowAt W q 3 (ints l (bi R)) ∧ Fre s n L d R l i ∧ Below w.heap.size w W
theorem tail_nums {W : World} {q l : Nat} {R : Nat → Bool} (h : RowAt W q 3 (ints l (bi R))) (hl : l ≤ 65536) : NumsAt W (.slice (some ⟨q, 1, none⟩) (l - 1) (l - 1)) (l - 1) (bi fun k => R (k + 1)) :=
  ⟨some ⟨q, 1, none⟩, l - 1, rfl, by unfold maxLen; omega, fun c hc => ⟨q, 1, rfl, by
    have h1 := h.cell (ints_get (bi R) (show c + 1 < l by omega))
    rw [Nat.add_comm 1 c]
    exact h1⟩⟩
theorem none_nums (W : World) (q c : Nat) (f : Nat → Int) : NumsAt W (.slice (some ⟨q, 0, none⟩) 0 c) 0 f := ⟨some ⟨q, 0, none⟩, c, rfl, by decide, fun c hc => by omega⟩
theorem taps_ext {R : Nat → Bool} {l L : Nat} (h : Sup R l) : ints L (cpF (fun _ => 0) (bi fun k => R (k + 1)) (min (l - 1) L)) = ints L (bi fun k => R (k + 1)) := ints_ext fun i hi => by
  unfold cpF
  by_cases e : i < min (l - 1) L
  · rw [if_pos e]
  · rw [if_neg e]
    show (0 : Int) = b1 (R (i + 1))
    rw [h (i + 1) (by omega)]
    rfl
set_option maxRecDepth 100000 in
set_option maxHeartbeats 8000000 in
theorem pfirst_any (s : Nat → Bool) (n : Nat) (hn : n ≤ 256) (B g : Nat) (w : World) (ht : TkP s n B g w) :
    Calls Try.prog 23 #[.pointer (some ⟨g, 0, none⟩), .int .i64 (n : Nat)] w fun e w' => ∃ L x q, e = .returned (.slice (some ⟨q, 0, none⟩) L L) ∧ Least s n L ∧ First s L n x ∧ RowAt w' q 3 (ints L (bi x)) ∧ Below w.heap.size w w' := by
  obtain ⟨L, lr, lb, d, R, M, qr, qm, hfd, hF⟩ := ht
  have hL := hF.least.le
  have hlr := hF.lr_le
  have hre := hF.reach
  have HF := (show Hid _ from hF)
  have HFD := (show Hid (FdAt w B g L lr lb d R M qr qm) from hfd)
  have hmk := run_make_row' (P := Try.prog) 22 3 (.int .i64 0) 8 Try.underlying22 g_info_int rfl .i64 .i64 L (by omega) (by omega)
  rw [made_tabT] at hmk
  have c0 := hfd.c0
  have c1 := hfd.c1
  have hs0 : FsS s n L d 0 w w (.slice (some ⟨qr, 0, none⟩) lr lr) := ⟨qr, lr, R, rfl, hfd.rule, hF.fre, Below.refl _ _⟩
  obtain ⟨K, hK⟩ : ∃ K : Int, K = 2 * (L : Int) - (n : Int) := ⟨_, rfl⟩
  have hsub : 2 * (L : Int) - (n : Int) = K := hK.symm
  have HK := (show Hid _ from hK)
  clear hF hfd hK
  go_enter Try.func23, Try.ntmps23
  go_wp2_with fail
  clear hsub c0 c1
  go_loopw [5, 20] (fun v x W => ∃ i : Nat, i ≤ 2 * L - n ∧ x = .int .i64 (i : Nat) ∧ FsS s n L d i w W v) (fun _ x _ => (((2 * L - n : Nat) : Int) - intOf x).toNat)
  case atStart => exact ⟨0, by omega, rfl, hs0⟩
  case round =>
    clear hs0
    obtain ⟨i, hi, rfl, q, l, R', rfl, hro, hFr, hbe⟩ := hrel
    have hfd := HFD.out.step hbe
    have hl1 := hFr.rlo
    have hl2 := hFr.rhi
    by_cases hlt : i < 2 * L - n
    case neg =>
      have hnn : ¬ (i : Int) < K := by rw [HK.out]; omega
      have hii : i = 2 * L - n := by omega
      subst hii
      have HFI := (show Hid (First s L n fun k => R' (k + 1)) from Fre.first HF.out hFr)
      have HTE := (show Hid _ from taps_ext (L := L) hFr.rsup)
      have HLE := (show Hid (Least s n L) from HF.out.least)
      have HRO := (show Hid _ from hro)
      have HBE := (show Hid (Below w.heap.size w wr) from hbe)
      have c0 := hfd.c0
      have hrl := hro.lt
      clear hFr hlt hbe hro hfd HF HFD HK
      go_upto_region 10 with fail
      have hr2 : RowAt (wr.alloc (.cells (tab L fun _ => .int .i64 0) 3)) wr.heap.size 3 (ints L fun _ => 0) := RowAt.new wr _ _
      have hb2 := HBE.out.alloc HBE.out.size (.cells (tab L fun _ => .int .i64 0) 3)
      have hq2 := RowAt.alloc HRO.out (.cells (tab L fun _ => .int .i64 0) 3)
      have hz2 := HBE.out.size
      clear c0 hmk HBE HRO
      generalize wr.alloc (.cells (tab L fun _ => .int .i64 0) 3) = W2 at *
      generalize wr.heap.size = qt at *
      by_cases h1 : l = 1
      · subst h1
        obtain ⟨W3, hcp, hr3, hb3⟩ := run_copy_ints hr2 (none_nums W2 q 0 (bi fun k => R' (k + 1))) hb2 hz2
        have e0 : min (1 - 1) L = min 0 L := rfl
        rw [← e0, HTE.out] at hr3
        have e1 : min 0 L = 0 := by omega
        rw [e1] at hcp
        clear e0 e1 hr2 hb2 hq2
        go_wp2
        go_ret
        first | exact ⟨L, _, qt, rfl, HLE.out, HFI.out, hr3, hb3⟩ | exact ⟨L, qt, rfl, HLE.out, _, HFI.out, hr3, hb3⟩
      · obtain ⟨W3, hcp, hr3, hb3⟩ := run_copy_ints hr2 (tail_nums hq2 (by omega)) hb2 hz2
        rw [HTE.out] at hr3
        have e1 : min (l - 1) L = l - 1 := by omega
        rw [e1] at hcp
        have e2 : (1 : Int) ≤ (l : Int) := by omega
        have e3 : ¬ (l : Int) = 1 := by omega
        have e4 : ¬ l = 1 := h1
        clear e1 hr2 hb2 hq2
        go_wp2
        go_ret
        first | exact ⟨L, _, qt, rfl, HLE.out, HFI.out, hr3, hb3⟩ | exact ⟨L, qt, rfl, HLE.out, _, HFI.out, hr3, hb3⟩
    have hlt2 : (i : Int) < K := by rw [HK.out]; omega
    have HLT : Hid (i < 2 * L - n) := hlt
    have c3 := hfd.c3
    obtain ⟨p, hp⟩ : ∃ p, p = d + i := ⟨_, rfl⟩
    have hp2 : (d : Int) + (i : Int) = (p : Int) := by omega
    by_cases hpl : p < l
    · have hpl2 : (p : Int) < (l : Int) := by omega
      have hcl : wr.cell? ⟨q, p, none⟩ = some (.int .i64 (b1 (R' p))) := hro.cell (ints_get (bi R') hpl)
      cases hR : R' p
      · have hnx : Fre s n L d R' l (i + 1) := hFr.skip (by rw [← hp]; exact hR)
        have HN : Hid (FsS s n L d (i + 1) w wr (.slice (some ⟨q, 0, none⟩) l l)) := ⟨q, l, R', rfl, hro, hnx, hbe⟩
        rw [hR, show b1 false = 0 from rfl] at hcl
        clear hnx hFr hro hbe hfd hlt HF HFD HK hR hp
        go_wp2
        go_roundw
        case rel => exact ⟨i + 1, HLT.out, by go_num, HN.out⟩
        case measure => have := HLT.out; simp [intOf]; omega
      · have hbd := HF.out.bound hlt
        have hnx := Fre.next HF.out hFr hlt (by rw [← hp]; exact hR)
        rw [← hp] at hnx hbd
        have HADD := (show Hid (Calls Try.prog 24 #[.slice (some ⟨q, 0, none⟩) l l, .slice (some ⟨qm, 0, none⟩) lb lb, .int .i64 (p : Nat)] wr fun e w' => e = .returned (.slice (some ⟨wr.heap.size, 0, none⟩) (max l (lb + p)) (max l (lb + p))) ∧ RowAt w' wr.heap.size 3 (ints (max l (lb + p)) (bi (ad R' M p))) ∧ Below wr.heap.size wr w') from padd_any _ _ l lb p R' M hFr.rsup HF.out.bsup _ rfl (by omega) wr (NumsAt.of_row hro (by unfold maxLen; omega)) (hfd.mnums (by omega)))
        have c2 := hfd.c2
        have HBE := (show Hid (Below w.heap.size w wr) from hbe)
        rw [hR, show b1 true = 1 from rfl] at hcl
        clear hFr hro hbe hfd hlt HF HFD HK hR hp
        go_wp2_with fail
        refine Calls.mono HADD.out ?_
        rintro e Y ⟨rfl, hnew, hb8⟩
        have HN : Hid (FsS s n L d (i + 1) w Y (.slice (some ⟨wr.heap.size, 0, none⟩) (max l (lb + p)) (max l (lb + p)))) := ⟨_, _, _, rfl, hnew, hnx, HBE.out.trans (hb8.mono HBE.out.size)⟩
        generalize wr.heap.size = z at *
        generalize max l (lb + p) = mm at *
        clear hnew hb8 hnx HBE HADD
        go_wp2
        go_roundw
        case rel => exact ⟨i + 1, HLT.out, by go_num, HN.out⟩
        case measure => have := HLT.out; simp [intOf]; omega
    · have hpl2 : ¬ (p : Int) < (l : Int) := by omega
      have hnx : Fre s n L d R' l (i + 1) := hFr.skip (hFr.rsup _ (by omega))
      have HN : Hid (FsS s n L d (i + 1) w wr (.slice (some ⟨q, 0, none⟩) l l)) := ⟨q, l, R', rfl, hro, hnx, hbe⟩
      clear hnx hFr hro hbe hfd hlt HF HFD HK hp
      go_wp2
      go_roundw
      case rel => exact ⟨i + 1, HLT.out, by go_num, HN.out⟩
      case measure => have := HLT.out; simp [intOf]; omega
end Go.Proofs.Ytflehdigikdhmaa
