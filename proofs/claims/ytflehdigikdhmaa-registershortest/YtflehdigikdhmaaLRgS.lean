/-
  RegisterShortest, out of what Run and Shortest answer.
-/
import Derived.Test.YtflehdigikdhmaaLRgF
namespace Go.Proofs.Ytflehdigikdhmaa
open Go.RowKit PK Rg

/-- Taps that make the bits when they run. -/
theorem again_makes {ft f : Nat → Int} {L N : Nat} (hf : ∀ i, i < N → f i = 0 ∨ f i = 1) (h : ∀ i, i < N → runF L ft f (N : Nat) i = f i) : Makes (fun k => bt (ft k).toNat) L (sB f) N := by
  refine (run_makes (t := fun k => (ft k).toNat) (f := fun i => (f i).toNat) (L := L) (N := N) (fun i hi => by show (f i).toNat ≤ 1; rcases hf i hi with h | h <;> rw [h] <;> decide)).1 fun i hi => ?_
  have h1 := h i hi
  unfold runF at h1
  rw [Int.toNat_natCast] at h1
  show _ = (f i).toNat
  omega
set_option maxRecDepth 100000 in
set_option maxHeartbeats 4000000 in
theorem registershortest_of (P7 : PRun 7) (P12 : PShort 12) (vb vt : Value) (nb nt : Nat) (fb ft : Nat → Int) (w : World) (hbt : Ans w vb nb fb) (htt : Ans w vt nt ft) : Calls Try.prog 4 #[vb, vt] w fun e w' => e = .returned (.bool true) ∧ Below w.heap.size w w' := by
  have HAL := (show Hid (∀ W, Calls Try.prog 14 #[] W fun e w' => e = .returned (.bool true) ∧ Below W.heap.size W w') from alive11 P7)
  have HP7 := (show Hid (PRun 7) from P7)
  have H12 := (show Hid (∀ W, Below w.heap.size w W → Calls Try.prog 12 #[vb] W fun e w' => ∃ (v' : Value) (L : Nat) (x : Nat → Bool), e = .returned (.tuple #[v', .int .i64 (rsE nb fb)]) ∧ (rsE nb fb = 0 → Least (sB fb) nb L ∧ First (sB fb) L nb x) ∧ Ans w' v' (rl (rsE nb fb) L) (fun c => if x c = true then 1 else 0) ∧ Below W.heap.size W w') from fun W hb => P12 vb nb fb W (hbt.below hb))
  have HBT := (show Hid (Ans w vb nb fb) from hbt)
  have HTT := (show Hid (Ans w vt nt ft) from htt)
  obtain ⟨⟨av, cv, rfl, hcv⟩, _⟩ := hbt
  obtain ⟨⟨au, cu, rfl, _⟩, _, _, e, hmx, hct⟩ := htt
  cases e
  unfold maxLen at hmx
  have HCT := (show Hid (∀ c, c < nt → ∃ b o, au = some ⟨b, o, none⟩ ∧ w.cell? ⟨b, o + c, none⟩ = some (.int .i64 (ft c))) from hct)
  have HCV := (show Hid _ from hcv)
  have hE0 : rsE nb fb = 0 → nb ≤ 256 ∧ ∀ i, i < nb → fb i = 0 ∨ fb i = 1 := fun h => ⟨(rsE_zero h).1, (frB_iff _ _).1 (rsE_zero h).2⟩
  clear P7 P12 hct hcv
  go_enter Try.func4, Try.ntmps4
  go_wp2_with fail
  refine (HAL.out _).mono ?_
  rintro e W1 ⟨rfl, hb1⟩
  have HB1 := (show Hid (Below w.heap.size w W1) from hb1)
  clear hb1 HAL
  go_wp2_with fail
  refine (H12.out _ HB1.out).mono ?_
  rintro e W2 ⟨v2, L, x, rfl, hl, ha, hb2⟩
  have HB2 := (show Hid (Below w.heap.size w W2) from HB1.out.trans (hb2.mono HB1.out.size))
  clear hb2 H12 HB1
  by_cases hD : rsE nb fb = 0
  case neg =>
    generalize rsE nb fb = D at *
    have hd1 : (D != 0) = true := by simp [hD]
    clear hl hD hE0 ha HBT HTT HCT HP7
    go_wp2
    go_ret
    exact ⟨rfl, HB2.out⟩
  obtain ⟨hnb, hfair⟩ := hE0 hD
  obtain ⟨hle, hfi⟩ := hl hD
  rw [hD] at ha ⊢
  have hr0 : rl 0 L = L := rfl
  rw [hr0] at ha
  have hLn := hle.le
  have hL2 : ¬ (nb : Int) < (L : Int) := by omega
  have HLE := (show Hid (Least (sB fb) nb L) from hle)
  have HFI := (show Hid (First (sB fb) L nb x) from hfi)
  have HFA := (show Hid (∀ i, i < nb → fb i = 0 ∨ fb i = 1) from hfair)
  have HA2 := (show Hid (Ans W2 v2 L fun c => if x c = true then 1 else 0) from ha)
  obtain ⟨⟨a2, c2, rfl, _⟩, _⟩ := ha
  have hE1 : rrE L L (fun c => if x c = true then 1 else 0) fb ((nb : Nat) : Int) = 0 := rrE_ok (by omega) (by omega) (by omega) (fun i _ => tap01 x i) (fun i hi => hfair i (by omega))
  have H7 := (show Hid (Calls Try.prog 7 #[.slice a2 L c2, .slice av L cv, .int .i64 (nb : Nat)] W2 fun e w' => ∃ v, e = .returned (.tuple #[v, .int .i64 0]) ∧ Ans w' v nb fb ∧ Below W2.heap.size W2 w') from by
    refine (HP7.out (.slice a2 L c2) (.slice av L cv) L L (fun c => if x c = true then 1 else 0) fb ((nb : Nat) : Int) W2 HA2.out ((HBT.out.below HB2.out).cut (by omega))).mono ?_
    rintro e w' ⟨v, h1, h2, h3⟩
    rw [hE1] at h1 h2
    refine ⟨v, h1, ?_, h3⟩
    have h4 : rl 0 ((nb : Nat) : Int).toNat = nb := by rw [Int.toNat_natCast]; rfl
    rw [h4] at h2
    exact ⟨h2.1, nums_ext h2.2 (run_again HFA.out HFI.out.1)⟩)
  have hsl := run_slice_k av nb cv L (by have := HCV.out; omega)
  clear hle hfi hfair hE1 hr0 hD hl hE0
  go_wp2_with fail
  refine Calls.mono H7.out ?_
  rintro e W3 ⟨v3, rfl, ha3, hb3⟩
  have HB3 := (show Hid (Below w.heap.size w W3) from HB2.out.trans (hb3.mono HB2.out.size))
  have HA3 := (show Hid (Ans W3 (.slice a2 L c2) L fun c => if x c = true then 1 else 0) from HA2.out.below hb3)
  have HSM := (show Hid (Calls Try.prog 9 #[v3, .slice av nb cv] W3 fun e w' => e = .returned (.bool true) ∧ Below W3.heap.size W3 w') from by
    have := rsm_any v3 (.slice av nb cv) nb nb fb fb W3 ha3.2 (HBT.out.below HB3.out).2
    rw [smB_iff.2 ⟨rfl, fun _ _ => rfl⟩] at this
    exact this)
  clear ha3 hb3 H7 hsl HA2 HB2
  go_wp2_with fail
  refine Calls.mono HSM.out ?_
  rintro e W4 ⟨rfl, hb4⟩
  have HB4 := (show Hid (Below w.heap.size w W4) from HB3.out.trans (hb4.mono HB3.out.size))
  have HA4 := (show Hid (Ans W4 (.slice a2 L c2) L fun c => if x c = true then 1 else 0) from HA3.out.below hb4)
  clear hb4 HSM HA3 HB3
  by_cases hnt : nb < nt
  · have hnt2 : (nb : Int) < (nt : Int) := by omega
    go_wp2
    go_ret
    exact ⟨rfl, HB4.out⟩
  have hnt2 : ¬ (nb : Int) < (nt : Int) := by omega
  have HNT : Hid (nt ≤ nb) := by rw [Hid]; omega
  have H7 := (show Hid (Calls Try.prog 7 #[.slice au nt cu, .slice av nt cv, .int .i64 (nb : Nat)] W4 fun e w' => ∃ v, e = .returned (.tuple #[v, .int .i64 (rrE nt nt ft fb ((nb : Nat) : Int))]) ∧ Ans w' v (rl (rrE nt nt ft fb ((nb : Nat) : Int)) nb) (runF nt ft fb ((nb : Nat) : Int)) ∧ Below W4.heap.size W4 w') from
    HP7.out (.slice au nt cu) (.slice av nt cv) nt nt ft fb ((nb : Nat) : Int) W4 (HTT.out.below HB4.out) ((HBT.out.below HB4.out).cut HNT.out))
  have hsl := run_slice_k av nb cv nt (by have := HCV.out; omega)
  clear hnt
  go_wp2_with fail
  refine Calls.mono H7.out ?_
  rintro e W5 ⟨v5, rfl, ha5, hb5⟩
  have HB5 := (show Hid (Below w.heap.size w W5) from HB4.out.trans (hb5.mono HB4.out.size))
  have HA5 := (show Hid (Ans W5 (.slice a2 L c2) L fun c => if x c = true then 1 else 0) from HA4.out.below hb5)
  clear hb5 H7 hsl HA4 HB4 HP7
  by_cases hE : rrE nt nt ft fb ((nb : Nat) : Int) = 0
  case neg =>
    generalize rrE nt nt ft fb ((nb : Nat) : Int) = E at *
    have hd1 : (E != 0) = true := by simp [hE]
    clear hE ha5
    go_wp2
    go_ret
    exact ⟨rfl, HB5.out⟩
  have HTF := (show Hid (∀ i, i < nt → ft i = 0 ∨ ft i = 1) from (frB_iff _ _).1 (rrE_zero hE).2.2.2.2.1)
  rw [hE] at ha5 ⊢
  have hr1 : rl 0 nb = nb := rfl
  rw [hr1] at ha5
  have HSM := (show Hid (Calls Try.prog 9 #[v5, .slice av nb cv] W5 fun e w' => e = .returned (.bool (smB nb nb (runF nt ft fb ((nb : Nat) : Int)) fb)) ∧ Below W5.heap.size W5 w') from rsm_any v5 (.slice av nb cv) nb nb _ fb W5 ha5.2 (HBT.out.below HB5.out).2)
  clear ha5 hE hr1
  go_wp2_with fail
  refine Calls.mono HSM.out ?_
  rintro e W6 ⟨rfl, hb6⟩
  have HB6 := (show Hid (Below w.heap.size w W6) from HB5.out.trans (hb6.mono HB5.out.size))
  have HA6 := (show Hid (Ans W6 (.slice a2 L c2) L fun c => if x c = true then 1 else 0) from HA5.out.below hb6)
  clear hb6 HSM HA5 HB5
  cases hsm : smB nb nb (runF nt ft fb ((nb : Nat) : Int)) fb
  · clear hsm
    go_wp2
    go_ret
    exact ⟨rfl, HB6.out⟩
  have hmk := again_makes HFA.out (smB_iff.1 hsm).2
  have HMK := (show Hid (Makes (fun k => bt (ft k).toNat) nt (sB fb) nb) from hmk)
  have hLt : L ≤ nt := HLE.out.2 nt ⟨_, hmk⟩
  clear hsm hmk
  by_cases hne : nt = L
  case neg =>
    have h1 : (((nt : Nat) : Int) != ((L : Nat) : Int)) = true := by simp; omega
    have h2 : (L : Int) < (nt : Int) := by omega
    go_wp2
    go_ret
    exact ⟨by simp, HB6.out⟩
  subst hne
  have h1 : (((nt : Nat) : Int) != ((nt : Nat) : Int)) = false := by simp
  obtain ⟨_, _, _, e, _, hcx⟩ := HA6.out
  cases e
  have HCX := (show Hid (∀ c, c < nt → ∃ b o, a2 = some ⟨b, o, none⟩ ∧ W6.cell? ⟨b, o + c, none⟩ = some (.int .i64 (if x c = true then 1 else 0))) from hcx)
  clear hcx hLt
  go_wp2_with fail
  go_loopw [78] (fun i W => ∃ m : Nat, m ≤ nt ∧ i = .int .i64 (m : Nat) ∧ Below W6.heap.size W6 W ∧ ∀ c, c < m → bt (ft c).toNat = x c) (fun i _ => ((nt : Int) - intOf i).toNat)
  case atStart => exact ⟨0, by omega, rfl, Below.refl _ _, fun c hc => by omega⟩
  case round =>
    obtain ⟨m, hm, rfl, hbw, hsame⟩ := hrel
    have HSA := (show Hid _ from hsame)
    have HBW := (show Hid (Below w.heap.size w wr) from HB6.out.trans (hbw.mono HB6.out.size))
    have HBV := (show Hid (Below W6.heap.size W6 wr) from hbw)
    by_cases hlt : m < nt
    · have HLT : Hid (m < nt) := hlt
      have hlt2 : (m : Int) < (nt : Int) := by omega
      obtain ⟨b1, o1, e1, h1'⟩ := HCX.out m hlt
      obtain ⟨b2, o2, e2, h2'⟩ := HCT.out m hlt
      subst e1 e2
      have c1 := (hbw.cell (p := ⟨b1, o1 + m, none⟩) (cell_block h1')).trans h1'
      have c2 := (HBW.out.cell (p := ⟨b2, o2 + m, none⟩) (cell_block h2')).trans h2'
      have htf := HTF.out m hlt
      have hcase : ((if x m = true then (1 : Int) else 0) = ft m ∧ bt (ft m).toNat = x m) ∨ ((if x m = true then (1 : Int) else 0) = 0 ∧ ft m = 1) := by
        by_cases e : bt (ft m).toNat = x m
        · refine .inl ⟨?_, e⟩
          rw [← e]
          rcases htf with h | h <;> rw [h] <;> rfl
        · have h3 := HFI.out.2 _ HMK.out m hlt hsame e
          refine .inr ⟨by rw [h3.1]; rfl, ?_⟩
          rcases htf with h | h
          · have h4 := h3.2
            rw [h] at h4
            cases h4
          · exact h
      clear h1' h2' hbw hsame htf hlt
      rcases hcase with ⟨hq, hqb⟩ | ⟨hq0, hq1⟩
      · rw [hq] at c1
        have HS2 : Hid (∀ c, c < m + 1 → bt (ft c).toNat = x c) := fun c hc => by
          by_cases e : c = m
          · rw [e]; exact hqb
          · exact HSA.out c (by omega)
        have hxb : (ft m != ft m) = false := by simp
        generalize ft m = y at *
        clear hq hqb
        go_wp2_with fail
        go_quiet (fail)
        go_wp2
        go_roundw
        case rel => exact ⟨m + 1, HLT.out, by go_num, ⟨HBV.out.os, HBV.out.tape, HBV.out.output, HBV.out.size, HBV.out.block⟩, HS2.out⟩
        case measure => have := HLT.out; simp [intOf]; omega
      · rw [hq0] at c1
        rw [hq1] at c2
        clear hq0 hq1
        go_wp2_with fail
        go_quiet (fail)
        go_wp2_with fail
        go_quiet (fail)
        go_wp2
        go_ret
        exact ⟨by simp, ⟨HBW.out.os, HBW.out.tape, HBW.out.output, HBW.out.size, HBW.out.block⟩⟩
    · have hnn : ¬ (m : Int) < (nt : Int) := by omega
      clear hlt hsame hbw
      go_wp2
      go_ret
      exact ⟨rfl, HBW.out⟩
end Go.Proofs.Ytflehdigikdhmaa
