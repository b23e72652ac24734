/-
  Contract of the document's Cycle (chapter 12).
-/
import Derived.Test.YtkangeheamknoaaPiSt
namespace Go.Proofs.Ytkangeheamknoaa
open Go.RowKit PK Dm

/-- What Cycle says is wrong, and what it tells. -/
def cyE (D : Dr) : Int := if dE D ≠ 0 then dE D else if 1099511627776 < lc D.ln D.nw then 4 else 0
def cyN (D : Dr) : Nat := if cyE D = 0 then lc D.ln D.nw else 0
theorem cyE_zero {D : Dr} (h : cyE D = 0) : dE D = 0 ∧ lc D.ln D.nw ≤ 1099511627776 := by
  unfold cyE at h
  by_cases h1 : dE D = 0
  · rw [if_neg (fun e => e h1)] at h
    by_cases h2 : 1099511627776 < lc D.ln D.nw
    · rw [if_pos h2] at h; cases h
    · exact ⟨h1, by omega⟩
  · rw [if_pos h1] at h; exact absurd h h1
set_option maxRecDepth 100000 in
set_option maxHeartbeats 4000000 in
theorem rcy_any (v : Value) (D : Dr) (w : World) (hd : DrAt w v D) : Calls Try.prog 14 #[v] w fun e w' => e = .returned (.tuple #[.int .i64 (cyN D : Nat), .int .i64 (cyE D)]) ∧ Below w.heap.size w w' := by
  have HW := (show Hid (∀ W, Below w.heap.size w W → Calls Try.prog 7 #[v] W fun e w' => e = .returned (.int .i64 (dE D)) ∧ Below W.heap.size W w') from fun W hb => rdw_any v D W (hd.below hb))
  obtain ⟨a, b, rfl, ⟨aw, cw, R, rfl, hmw, hrw, hpw⟩, _⟩ := hd
  have h0 := DgAt.new w (.slice aw D.nw cw) b
  by_cases hz : dE D = 0
  case neg =>
    have HE : Hid (cyE D = dE D) := by unfold cyE; rw [Hid, if_pos hz]
    have HN : Hid (cyN D = 0) := by unfold cyN; rw [Hid, if_neg (by rw [HE.out]; exact hz)]
    have hz2 : (dE D != 0) = true := by simpa using hz
    clear hz hrw hpw hmw
    generalize dE D = E at *
    go_enter Try.func14, Try.ntmps14
    go_wp2_with (first | refine wpList_load_row rfl 25 _ rfl w.heap.size rfl 25 #[.slice aw D.nw cw, b] (0, 0) _ h0.row Try.underlying25 rfl v_info_drum ?_)
    refine (HW.out _ h0.below).mono ?_
    rintro e W1 ⟨rfl, hb⟩
    have HBE := (show Hid _ from (h0.step hb).below)
    clear hb h0 HW
    go_wp2
    go_ret2
    exact ⟨by rw [HE.out, HN.out]; rfl, HBE.out⟩
  obtain ⟨e1, e2, e3, e4⟩ := dE_zero hz
  have HRW := (show Hid (∀ r, r < D.nw → ∃ b o, aw = some ⟨b, o, none⟩ ∧ w.cell? ⟨b, o + r, none⟩ = some (R r)) from hrw)
  have HPW := (show Hid (∀ r, r < D.nw → ∃ a c, R r = .slice a (D.ln r) c) from fun r hr => by
    obtain ⟨a, c, e, _⟩ := hpw r hr
    exact ⟨a, c, e⟩)
  have HLN := (show Hid (∀ k, k < D.nw → 1 ≤ D.ln k ∧ D.ln k ≤ 47) from e4)
  have HMU : Hid (∀ k, k ≤ D.nw → 1099511627776 < lc D.ln k → cyE D = 4 ∧ cyN D = 0) := fun k hk h => by
    have h1 := lc_le (fun j hj => (e4 j hj).1) hk
    have h2 : cyE D = 4 := by unfold cyE; rw [if_neg (fun e => e hz), if_pos (by omega)]
    exact ⟨h2, by unfold cyN; rw [h2]; rfl⟩
  have HOK : Hid (lc D.ln D.nw ≤ 1099511627776 → cyE D = 0 ∧ cyN D = lc D.ln D.nw) := fun h => by
    have h2 : cyE D = 0 := by unfold cyE; rw [if_neg (fun e => e hz), if_neg (by omega)]
    exact ⟨h2, by unfold cyN; rw [if_pos h2]⟩
  have HPO : Hid (∀ k, k ≤ D.nw → 1 ≤ lc D.ln k) := fun k hk => lc_pos fun j hj => (e4 j (by omega)).1
  rw [hz] at HW
  clear hrw hpw hmw hz e4 e1 e3
  go_enter Try.func14, Try.ntmps14
  go_wp2_with (first | refine wpList_load_row rfl 25 _ rfl w.heap.size rfl 25 #[.slice aw D.nw cw, b] (0, 0) _ h0.row Try.underlying25 rfl v_info_drum ?_)
  refine (HW.out _ h0.below).mono ?_
  rintro e W1 ⟨rfl, hb⟩
  have h1 := h0.step hb
  have c0 := h1.c0
  clear hb h0 HW
  go_wp2_with fail
  clear c0
  go_loopw [5, 17] (fun n x W => ∃ k : Nat, k ≤ D.nw ∧ x = .int .i64 (k : Nat) ∧ n = .int .i64 (lc D.ln k : Nat) ∧ lc D.ln k ≤ 1099511627776 ∧ DgAt w W (.slice aw D.nw cw) b) (fun _ x _ => ((D.nw : Int) - intOf x).toNat)
  case atStart => exact ⟨0, by omega, rfl, rfl, (by show 1 ≤ 1099511627776; decide), h1⟩
  case round =>
    clear h1
    obtain ⟨k, hk, rfl, rfl, hcap, hg⟩ := hrel
    by_cases hlt : k < D.nw
    case neg =>
      obtain rfl : k = D.nw := by omega
      have hnn : ¬ ((D.nw : Nat) : Int) < ((D.nw : Nat) : Int) := by omega
      have HR := (show Hid _ from HOK.out hcap)
      have HG := (show Hid _ from hg.below)
      generalize lc D.ln D.nw = z at *
      clear hg hlt HRW HPW HLN HMU HOK HPO
      go_wp2
      go_ret2
      exact ⟨by rw [HR.out.1, HR.out.2]; rfl, HG.out⟩
    have HLT : Hid (k < D.nw) := hlt
    have hlt2 : (k : Int) < (D.nw : Int) := by omega
    obtain ⟨bm, om, rfl, hc⟩ := HRW.out k hlt
    obtain ⟨ar, cr, hR⟩ := HPW.out k hlt
    have hl := HLN.out k hlt
    have hs1 := HPO.out k hk
    have hc2 := (hg.below.cell (p := ⟨bm, om + k, none⟩) (cell_block hc)).trans hc
    rw [hR] at hc2
    have HLC : Hid (lc D.ln (k + 1) = Nat.lcm (lc D.ln k) (D.ln k)) := rfl
    have HMK := (show Hid _ from HMU.out (k + 1) hlt)
    obtain ⟨l, hle⟩ : ∃ l, l = D.ln k := ⟨_, rfl⟩
    rw [← hle] at hc2 hl HLC
    generalize lc D.ln k = s at *
    clear hc hR hlt HRW HPW HLN HMU HOK HPO hle
    go_wp2_with fail
    go_loopw [5] (fun v W => ∃ j : Nat, 1 ≤ j ∧ j ≤ l ∧ v = .int .i64 ((s * j : Nat) : Int) ∧ (∀ i, 1 ≤ i → i < j → ¬ l ∣ s * i) ∧ DgAt w W (.slice (some ⟨bm, om, none⟩) D.nw cw) b) (fun v _ => (((s * l : Nat) : Int) - intOf v).toNat)
    case atStart => exact ⟨1, by omega, by omega, by simp, fun i h1 h2 => by omega, hg⟩
    case round =>
      clear hg hc2
      obtain ⟨j, hj1, hj2, rfl, hmin, hg⟩ := hrel
      have hzj : s * j ≤ 1099511627776 * 47 := Nat.mul_le_mul hcap (by omega)
      have hsj : s * (j + 1) = s * j + s := Nat.mul_succ s j
      have HG := (show Hid (DgAt w wr (.slice (some ⟨bm, om, none⟩) D.nw cw) b) from hg)
      have HMIN := (show Hid _ from hmin)
      have hl0 : ¬ (l : Int) = 0 := by omega
      by_cases hdv : l ∣ s * j
      · have HEQ : Hid (lc D.ln (k + 1) = s * j) := by rw [Hid, HLC.out]; exact (least_lcm hs1 hl.1 hdv hj1 hmin).symm
        have hm0 : (s * j) % l = 0 := Nat.mod_eq_zero_of_dvd hdv
        generalize s * j = z at *
        have hrem : (z : Int).tmod (l : Int) = 0 := by rw [Int.tmod_eq_emod_of_nonneg (by omega)]; omega
        have hrem2 : (z : Int) % (l : Int) = 0 := by omega
        clear hmin hg hdv hm0 HMIN HLC hsj
        by_cases hbig : 1099511627776 < z
        · have hbig2 : (1099511627776 : Int) < (z : Int) := by omega
          have HR : Hid (cyE D = 4 ∧ cyN D = 0) := HMK.out (by rw [HEQ.out]; exact hbig)
          clear HMK hbig
          go_wp2
          go_ret2
          exact ⟨by rw [HR.out.1, HR.out.2]; rfl, HG.out.below⟩
        · have hbig2 : ¬ (1099511627776 : Int) < (z : Int) := by omega
          clear HMK
          go_wp2
          go_roundw
          case rel => exact ⟨k + 1, HLT.out, by go_num, by rw [HEQ.out], by rw [HEQ.out]; omega, HG.out⟩
          case measure => have := HLT.out; simp [intOf]; omega
      · have hjl : j < l := by
          by_cases e : j = l
          · exact absurd ⟨s, by rw [e, Nat.mul_comm]⟩ hdv
          · omega
        have hm0 : (s * j) % l ≠ 0 := fun e => hdv (Nat.dvd_of_mod_eq_zero e)
        have HNX : Hid (∀ i, 1 ≤ i → i < j + 1 → ¬ l ∣ s * i) := fun i h1 h2 => by
          by_cases e : i = j
          · rw [e]; exact hdv
          · exact HMIN.out i h1 (by omega)
        have hup : s * (j + 1) ≤ s * l := Nat.mul_le_mul_left s hjl
        have HZ : Hid (s * (j + 1) = s * j + s) := hsj
        rw [hsj] at hup
        have HUP := (show Hid _ from hup)
        generalize hzz : s * j = z at *
        have hrem : ((z : Int).tmod (l : Int) != 0) = true := by rw [Int.tmod_eq_emod_of_nonneg (by omega)]; simp; omega
        have hrem2 : ((z : Int) % (l : Int) != 0) = true := by simp; omega
        have hrem3 : ¬ (z : Int).tmod (l : Int) = 0 := by rw [Int.tmod_eq_emod_of_nonneg (by omega)]; omega
        have hrem4 : ¬ (z : Int) % (l : Int) = 0 := by omega
        clear hmin hg hdv HMIN HLC hsj HMK hup hzz
        go_wp2
        go_roundw
        case rel => exact ⟨j + 1, by omega, hjl, by rw [HZ.out]; go_num, HNX.out, HG.out⟩
        case measure =>
          have := HUP.out
          generalize s * l = sl at *
          simp [intOf]
          omega
end Go.Proofs.Ytkangeheamknoaa
