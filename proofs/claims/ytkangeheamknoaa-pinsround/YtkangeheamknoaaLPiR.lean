/-
  PinsRound, for any Stream and Cycle that say what the document's say.
-/
import Derived.Test.YtkangeheamknoaaLPiU
namespace Go.Proofs.Ytkangeheamknoaa
open Go.RowKit PK Dm

set_option maxRecDepth 100000 in
set_option maxHeartbeats 4000000 in
theorem pinsround_of (P2 : PDSt 8) (P3 : PDWt 11) (P4 : PDCy 13) (v : Value) (D : Dr) (n : Int) (w : World) (hd : DrAt w v D) : Calls Try.prog 5 #[v, .int .i64 n] w fun e w' => e = .returned (.bool true) ∧ Below w.heap.size w w' := by
  have HA := (show Hid (∀ W, Calls Try.prog 15 #[] W fun e w' => e = .returned (.bool true) ∧ Below W.heap.size W w') from fun W => alive12 P3 W)
  have H4 := (show Hid (∀ W, Below w.heap.size w W → Calls Try.prog 13 #[v] W fun e w' => e = .returned (.tuple #[.int .i64 (cyN D : Nat), .int .i64 (cyE D)]) ∧ Below W.heap.size W w') from fun W hb => P4 v D W (hd.below hb))
  have H2 := (show Hid (∀ (m : Int) W, Below w.heap.size w W → Calls Try.prog 8 #[v, .int .i64 m] W fun e w' => ∃ v', e = .returned (.tuple #[v', .int .i64 (stE D m)]) ∧ NumsAt w' v' (stN D m) (fun i => (pushed D i : Nat)) ∧ Below W.heap.size W w') from fun m W hb => P2 v D m W (hd.below hb))
  obtain ⟨a, b, rfl, ⟨aw, cw, R, rfl, hmw, hrw, hpw⟩, ⟨ab, cb, rfl, hmb, hbb⟩⟩ := hd
  have HRW := (show Hid (∀ r, r < D.nw → ∃ b o, aw = some ⟨b, o, none⟩ ∧ w.cell? ⟨b, o + r, none⟩ = some (R r)) from hrw)
  have HPW := (show Hid (∀ r, r < D.nw → ∃ a c, R r = .slice a (D.ln r) c) from fun r hr => by
    obtain ⟨a, c, e, _⟩ := hpw r hr
    exact ⟨a, c, e⟩)
  have h0 := DgAt.new w (.slice aw D.nw cw) (.slice ab D.nb cb)
  clear P2 P3 P4 hrw hpw hbb hmw hmb
  go_enter Try.func5, Try.ntmps5
  go_wp2_with fail
  refine (HA.out _).mono ?_
  rintro e W1 ⟨rfl, hb⟩
  have h1 := h0.step hb
  clear hb h0 HA
  go_wp2_with (first | refine wpList_load_row rfl 25 _ rfl w.heap.size rfl 25 #[.slice aw D.nw cw, .slice ab D.nb cb] (0, 0) _ h1.row Try.underlying25 rfl v_info_drum ?_)
  refine (H4.out _ h1.below).mono ?_
  rintro e W2 ⟨rfl, hb⟩
  have h2 := h1.step hb
  have HBE := (show Hid (Below w.heap.size w W2) from h2.below)
  clear hb h1 H4
  by_cases hE : cyE D = 0
  case neg =>
    have hE2 : (cyE D != 0) = true := by simpa using hE
    generalize cyE D = E at *
    generalize cyN D = N at *
    clear h2 hE
    go_wp2
    go_ret
    exact ⟨rfl, HBE.out⟩
  by_cases hn0 : n < 0
  · rw [hE]
    generalize cyN D = N at *
    clear h2
    go_wp2
    go_ret
    exact ⟨rfl, HBE.out⟩
  by_cases hn1 : 300 < n
  · rw [hE]
    generalize cyN D = N at *
    clear h2
    go_wp2
    go_ret
    exact ⟨rfl, HBE.out⟩
  by_cases hc : 20000 < cyN D
  · rw [hE]
    have hc2 : (20000 : Int) < (cyN D : Int) := by omega
    generalize cyN D = N at *
    clear h2
    go_wp2
    go_ret
    exact ⟨rfl, HBE.out⟩
  obtain ⟨hz, _⟩ := cyE_zero hE
  have hcl : cyN D = lc D.ln D.nw := by unfold cyN; rw [if_pos hE]
  obtain ⟨_, e2, e3, e4⟩ := dE_zero hz
  have HDV : Hid (∀ k, k < D.nw → D.ln k ∣ cyN D) := fun k hk => by rw [hcl]; exact lc_dvd hk
  have HRO : Hid (∀ i, pushed D (i + cyN D) = pushed D i) := fun i => pushed_round HDV.out i
  have HLE : Hid (∀ i, pushed D i ≤ D.nb) := fun i => pushed_le D i
  have HLN := (show Hid _ from e4)
  obtain ⟨m, rfl⟩ : ∃ m : Nat, n = m := ⟨n.toNat, by omega⟩
  have hsE : stE D (((cyN D + m : Nat)) : Int) = 0 := by unfold stE; rw [if_neg (fun e => e hz), if_neg (by omega)]
  have hsN : stN D (((cyN D + m : Nat)) : Int) = cyN D + m := by unfold stN; rw [if_pos hsE]; omega
  have H2' := (show Hid _ from H2.out ((cyN D + m : Nat) : Int))
  rw [hsE, hsN] at H2'
  rw [hE]
  have hc2 : ¬ (20000 : Int) < (cyN D : Int) := by omega
  have hc1 : 1 ≤ cyN D := by rw [hcl]; exact lc_pos fun k hk => (e4 k hk).1
  generalize cyN D = c at *
  have hcm : (c : Int) + (m : Int) = ((c + m : Nat) : Int) := by omega
  have hne : (((c + m : Nat) : Int) != ((c + m : Nat) : Int)) = false := by simp
  obtain ⟨N, hN⟩ : ∃ N, N = c + m := ⟨_, rfl⟩
  rw [← hN] at H2' hcm hne
  have hNb : N ≤ 20300 := by omega
  clear H2 hz hcl hsE hsN e4 hE HBE hN
  go_wp2_with (first | refine wpList_load_row rfl 25 _ rfl w.heap.size rfl 25 #[.slice aw D.nw cw, .slice ab D.nb cb] (0, 0) _ h2.row Try.underlying25 rfl v_info_drum ?_)
  refine (H2'.out _ h2.below).mono ?_
  rintro e W3 ⟨v', rfl, hnums, hb⟩
  have h3 := h2.step hb
  obtain ⟨al, cl, rfl, _, hcell⟩ := hnums
  have HCE := (show Hid (∀ i, i < N → ∃ b o, al = some ⟨b, o, none⟩ ∧ W3.cell? ⟨b, o + i, none⟩ = some (.int .i64 (pushed D i : Nat))) from hcell)
  clear hb h2 H2' hcell
  go_wp2_with fail
  clear hne
  go_loopw [53] (fun x W => ∃ i : Nat, i ≤ N ∧ x = .int .i64 (i : Nat) ∧ DgAt w W (.slice aw D.nw cw) (.slice ab D.nb cb) ∧ Below W3.heap.size W3 W) (fun x _ => ((N : Int) - intOf x).toNat)
  case atStart => exact ⟨0, by omega, rfl, h3, Below.refl _ _⟩
  case round =>
    clear h3
    obtain ⟨i, hi, rfl, hg, hb3⟩ := hrel
    have HG := (show Hid (DgAt w wr (.slice aw D.nw cw) (.slice ab D.nb cb) ∧ Below W3.heap.size W3 wr) from ⟨hg, hb3⟩)
    by_cases hlt : i < N
    · have HLT : Hid (i < N) := hlt
      have hlt2 : (i : Int) < (N : Int) := by omega
      obtain ⟨bl, ol, rfl, hc1⟩ := HCE.out i hlt
      have hk1 := (hb3.cell (p := ⟨bl, ol + i, none⟩) (cell_block hc1)).trans hc1
      have hle := HLE.out i
      have c1 := hg.c1
      by_cases hic : i < c
      · have hic2 : ¬ (c : Int) ≤ (i : Int) := by omega
        have hle2 : ¬ (D.nb : Int) < (pushed D i : Int) := by omega
        generalize pushed D i = p at *
        clear hg hb3 hc1 HCE HRO HLE HDV HRW HPW HLN hlt
        go_wp2
        go_roundw
        case rel => exact ⟨i + 1, HLT.out, by go_num, HG.out⟩
        case measure => have := HLT.out; simp [intOf]; omega
      · have hic2 : (c : Int) ≤ (i : Int) := by omega
        obtain ⟨bl', ol', e', hc2'⟩ := HCE.out (i - c) (by omega)
        cases e'
        have hk2 := (hb3.cell (p := ⟨bl, ol + (i - c), none⟩) (cell_block hc2')).trans hc2'
        have hro := HRO.out (i - c)
        rw [show i - c + c = i by omega] at hro
        rw [← hro] at hk2
        have hle2 : ¬ (D.nb : Int) < (pushed D i : Int) := by omega
        have hs1 : (i : Int) - (c : Int) = ((i - c : Nat) : Int) := by omega
        have hs2 : ((i - c : Nat) : Int) < (N : Int) := by omega
        have hs3 : ((pushed D i : Int) != (pushed D i : Int)) = false := by simp
        generalize i - c = j at *
        generalize pushed D i = p at *
        clear hg hb3 hc1 hc2' HCE HRO HLE HDV HRW HPW HLN hlt hro
        go_wp2
        go_roundw
        case rel => exact ⟨i + 1, HLT.out, by go_num, HG.out⟩
        case measure => have := HLT.out; simp [intOf]; omega
    · obtain rfl : i = N := by omega
      have hnn : ¬ ((i : Nat) : Int) < ((i : Nat) : Int) := by omega
      have c0 := hg.c0
      clear hlt hb3 HCE HRO HLE
      go_wp2_with fail
      clear c0
      go_loopw [86] (fun x W => ∃ k : Nat, k ≤ D.nw ∧ x = .int .i64 (k : Nat) ∧ Below w.heap.size w W) (fun x _ => ((D.nw : Int) - intOf x).toNat)
      case atStart => exact ⟨0, by omega, rfl, hg.below⟩
      case round =>
        clear hg HG
        obtain ⟨k, hk, rfl, hbe⟩ := hrel
        have HBE := (show Hid (Below w.heap.size w wr) from hbe)
        by_cases hlk : k < D.nw
        · have HLK : Hid (k < D.nw) := hlk
          have hlk2 : (k : Int) < (D.nw : Int) := by omega
          obtain ⟨bm, om, rfl, hcw⟩ := HRW.out k hlk
          obtain ⟨ar, cr, hR⟩ := HPW.out k hlk
          have hl := HLN.out k hlk
          have hdv := HDV.out k hlk
          have hc2w := (hbe.cell (p := ⟨bm, om + k, none⟩) (cell_block hcw)).trans hcw
          rw [hR] at hc2w
          have hm0 : c % D.ln k = 0 := Nat.mod_eq_zero_of_dvd hdv
          generalize D.ln k = l at *
          have hl0 : ¬ (l : Int) = 0 := by omega
          have hrem : (c : Int).tmod (l : Int) = 0 := by rw [Int.tmod_eq_emod_of_nonneg (by omega)]; omega
          have hrem2 : (c : Int) % (l : Int) = 0 := by omega
          clear hbe hcw hR hdv hm0 HRW HPW HLN HDV hlk
          go_wp2
          go_roundw
          case rel => exact ⟨k + 1, HLK.out, by go_num, HBE.out⟩
          case measure => have := HLK.out; simp [intOf]; omega
        · obtain rfl : k = D.nw := by omega
          have hnn : ¬ ((D.nw : Nat) : Int) < ((D.nw : Nat) : Int) := by omega
          clear hbe hlk HRW HPW HLN HDV
          go_wp2
          go_ret
          exact ⟨rfl, HBE.out⟩
end Go.Proofs.Ytkangeheamknoaa
