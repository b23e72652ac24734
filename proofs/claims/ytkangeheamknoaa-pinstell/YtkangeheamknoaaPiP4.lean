/-
  Contract of pins' Cycle (chapter 12).
-/
import Derived.Test.YtkangeheamknoaaPiP3
namespace Go.Proofs.Ytkangeheamknoaa
open Go.RowKit PK Dm

set_option maxRecDepth 100000 in
set_option maxHeartbeats 4000000 in
theorem ppi_cycle : PDCy 13 := fun v D w hd => by
  have HW := (show Hid (∀ W, Below w.heap.size w W → Calls Try.prog 6 #[v] W fun e w' => e = .returned (.int .i64 (dE D)) ∧ Below W.heap.size W w') from fun W hb => ppi_wrong v D W (hd.below hb))
  obtain ⟨a, b, rfl, ⟨aw, cw, R, rfl, hmw, hrw, hpw⟩, _⟩ := hd
  have h0 := DgAt.new w (.slice aw D.nw cw) b
  by_cases hz : dE D = 0
  case neg =>
    have HE : Hid (cyE D = dE D) := by unfold cyE; rw [Hid, if_pos hz]
    have HN : Hid (cyN D = 0) := by unfold cyN; rw [Hid, if_neg (by rw [HE.out]; exact hz)]
    have hz2 : (dE D != 0) = true := by simpa using hz
    clear hz hrw hpw hmw
    generalize dE D = E at *
    go_enter Try.func13, Try.ntmps13
    go_wp2_with (first | refine wpList_load_row rfl 25 _ rfl w.heap.size rfl 25 #[.slice aw D.nw cw, b] (0, 0) _ h0.row Try.underlying25 rfl v_info_drum ?_)
    refine (HW.out _ h0.below).mono ?_
    rintro e W1 ⟨rfl, hb⟩
    have HBE := (show Hid _ from (h0.step hb).below)
    clear hb h0 HW
    go_wp2
    go_ret2
    exact ⟨by rw [HE.out, HN.out]; rfl, HBE.out⟩
  obtain ⟨e1, e2, e3, e4⟩ := dE_zero hz
  have HRW := (show Hid (∀ r, r < D.nw → ∃ b o, aw = some ⟨b, o, none⟩ ∧ w.cell? ⟨b, o + r, none⟩ = some (R r)) from hrw)
  have HPW := (show Hid (∀ r, r < D.nw → ∃ a c, R r = .slice a (D.ln r) c) from fun r hr => by
    obtain ⟨a, c, e, _⟩ := hpw r hr
    exact ⟨a, c, e⟩)
  have HLN := (show Hid (∀ k, k < D.nw → 1 ≤ D.ln k ∧ D.ln k ≤ 47) from e4)
  have HMU : Hid (∀ k, k ≤ D.nw → 1099511627776 < lc D.ln k → cyE D = 4 ∧ cyN D = 0) := fun k hk h => by
    have h1 := lc_le (fun j hj => (e4 j hj).1) hk
    have h2 : cyE D = 4 := by unfold cyE; rw [if_neg (fun e => e hz), if_pos (by omega)]
    exact ⟨h2, by unfold cyN; rw [h2]; rfl⟩
  have HOK : Hid (lc D.ln D.nw ≤ 1099511627776 → cyE D = 0 ∧ cyN D = lc D.ln D.nw) := fun h => by
    have h2 : cyE D = 0 := by unfold cyE; rw [if_neg (fun e => e hz), if_neg (by omega)]
    exact ⟨h2, by unfold cyN; rw [if_pos h2]⟩
  have HPO : Hid (∀ k, k ≤ D.nw → 1 ≤ lc D.ln k) := fun k hk => lc_pos fun j hj => (e4 j (by omega)).1
  rw [hz] at HW
  clear hrw hpw hmw hz e4 e1 e3
  go_enter Try.func13, Try.ntmps13
  go_wp2_with (first | refine wpList_load_row rfl 25 _ rfl w.heap.size rfl 25 #[.slice aw D.nw cw, b] (0, 0) _ h0.row Try.underlying25 rfl v_info_drum ?_)
  refine (HW.out _ h0.below).mono ?_
  rintro e W1 ⟨rfl, hb⟩
  have h1 := h0.step hb
  have c0 := h1.c0
  clear hb h0 HW
  go_wp2_with fail
  clear c0
  go_loopw [5, 16] (fun n x W => ∃ k : Nat, k ≤ D.nw ∧ x = .int .i64 (k : Nat) ∧ n = .int .i64 (lc D.ln k : Nat) ∧ lc D.ln k ≤ 1099511627776 ∧ DgAt w W (.slice aw D.nw cw) b) (fun _ x _ => ((D.nw : Int) - intOf x).toNat)
  case atStart => exact ⟨0, by omega, rfl, rfl, (by show 1 ≤ 1099511627776; decide), h1⟩
  case round =>
    clear h1
    obtain ⟨k, hk, rfl, rfl, hcap, hg⟩ := hrel
    by_cases hlt : k < D.nw
    case neg =>
      obtain rfl : k = D.nw := by omega
      have hnn : ¬ ((D.nw : Nat) : Int) < ((D.nw : Nat) : Int) := by omega
      have HR := (show Hid _ from HOK.out hcap)
      have HG := (show Hid _ from hg.below)
      generalize lc D.ln D.nw = z at *
      clear hg hlt HRW HPW HLN HMU HOK HPO
      go_wp2
      go_ret2
      exact ⟨by rw [HR.out.1, HR.out.2]; rfl, HG.out⟩
    have HLT : Hid (k < D.nw) := hlt
    have hlt2 : (k : Int) < (D.nw : Int) := by omega
    obtain ⟨bm, om, rfl, hc⟩ := HRW.out k hlt
    obtain ⟨ar, cr, hR⟩ := HPW.out k hlt
    have hl := HLN.out k hlt
    have hs1 := HPO.out k hk
    have hc2 := (hg.below.cell (p := ⟨bm, om + k, none⟩) (cell_block hc)).trans hc
    rw [hR] at hc2
    have HLC : Hid (lc D.ln (k + 1) = Nat.lcm (lc D.ln k) (D.ln k)) := rfl
    have HMK := (show Hid _ from HMU.out (k + 1) hlt)
    obtain ⟨l, hle⟩ : ∃ l, l = D.ln k := ⟨_, rfl⟩
    rw [← hle] at hc2 hl HLC
    generalize lc D.ln k = s at *
    clear hc hR hlt HRW HPW HLN HMU HOK HPO hle
    have HLQ : Hid (lc D.ln (k + 1) = s * (l / Nat.gcd s l)) := by
      rw [Hid, HLC.out]
      unfold Nat.lcm
      exact Nat.mul_div_assoc s (Nat.gcd_dvd_right s l)
    have hg0 : 0 < Nat.gcd s l := Nat.gcd_pos_of_pos_left _ hs1
    have hq1 : l / Nat.gcd s l ≤ 47 := Nat.le_trans (Nat.div_le_self _ _) hl.2
    have HDV := (show Hid _ from pdiv_any s l (by omega) (by omega))
    have hqd : ((l : Int) / (Nat.gcd s l : Nat)) = ((l / Nat.gcd s l : Nat) : Int) := (Int.natCast_ediv _ _).symm
    have hqt : ((l : Int).tdiv (Nat.gcd s l : Nat)) = ((l / Nat.gcd s l : Nat) : Int) := by rw [Int.tdiv_eq_ediv_of_nonneg (by omega), hqd]
    obtain ⟨G, hG⟩ : ∃ G, G = Nat.gcd s l := ⟨_, rfl⟩
    rw [← hG] at HLQ hg0 hq1 hqd hqt HDV
    obtain ⟨q, hq⟩ : ∃ q, q = l / G := ⟨_, rfl⟩
    rw [← hq] at HLQ hq1 hqd hqt
    have hgn : ¬ (G : Int) = 0 := by omega
    have hgl : l ≤ 47 := hl.2
    have HG := (show Hid (DgAt w wr (.slice (some ⟨bm, om, none⟩) D.nw cw) b) from hg)
    clear hG hq HLC hg
    go_wp2_with fail
    refine (HDV.out _).mono ?_
    rintro e Y ⟨rfl, hb⟩
    have HG2 := (show Hid (DgAt w Y (.slice (some ⟨bm, om, none⟩) D.nw cw) b) from HG.out.step hb)
    have hzq : s * q ≤ 1099511627776 * 47 := Nat.mul_le_mul hcap hq1
    have hzm : (s : Int) * (q : Int) = ((s * q : Nat) : Int) := (Int.natCast_mul _ _).symm
    have HLZ : Hid (lc D.ln (k + 1) = s * q) := HLQ.out
    obtain ⟨z, hz⟩ : ∃ z, z = s * q := ⟨_, rfl⟩
    rw [← hz] at hzq hzm HLZ
    clear hz hb HG HDV hc2 HLQ
    by_cases hbig : 1099511627776 < z
    · have hbig2 : (1099511627776 : Int) < (z : Int) := by omega
      have HR : Hid (cyE D = 4 ∧ cyN D = 0) := HMK.out (by rw [HLZ.out]; exact hbig)
      clear HMK hbig
      go_wp2
      go_ret2
      exact ⟨by rw [HR.out.1, HR.out.2]; rfl, HG2.out.below⟩
    · have hbig2 : ¬ (1099511627776 : Int) < (z : Int) := by omega
      clear HMK
      go_wp2
      go_roundw
      case rel => exact ⟨k + 1, HLT.out, by go_num, by rw [HLZ.out], by rw [HLZ.out]; omega, HG2.out⟩
      case measure => have := HLT.out; simp [intOf]; omega
end Go.Proofs.Ytkangeheamknoaa
