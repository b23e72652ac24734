/-
  RegisterGrows, out of what Run, Profile and Shortest answer.
-/
import Derived.Test.YtflehdigikdhmaaRgA
namespace Go.Proofs.Ytflehdigikdhmaa
open Go.RowKit PK Rg

theorem least_zero (s : Nat → Bool) : Least s 0 0 := ⟨⟨fun _ => false, makes_all _ s (Nat.le_refl _)⟩, fun _ _ => Nat.zero_le _⟩
set_option maxRecDepth 100000 in
set_option maxHeartbeats 4000000 in
theorem registergrows_of (P7 : PRun 7) (P10 : PProf 10) (P12 : PShort 12) (vb : Value) (nb : Nat) (fb : Nat → Int) (w : World) (hbt : Ans w vb nb fb) : Calls Try.prog 5 #[vb] w fun e w' => e = .returned (.bool true) ∧ Below w.heap.size w w' := by
  have HAL := (show Hid (∀ W, Calls Try.prog 14 #[] W fun e w' => e = .returned (.bool true) ∧ Below W.heap.size W w') from alive11 P7)
  have H10 := (show Hid (∀ W, Below w.heap.size w W → Calls Try.prog 10 #[vb] W fun e w' => ∃ (v' : Value) (l : List Nat), e = .returned (.tuple #[v', .int .i64 (rsE nb fb)]) ∧ (rsE nb fb = 0 → ProfL (sB fb) l nb) ∧ Ans w' v' (rl (rsE nb fb) nb) (fun i => ((l.getD i 0 : Nat) : Int)) ∧ Below W.heap.size W w') from fun W hb => P10 vb nb fb W (hbt.below hb))
  have H12 := (show Hid (∀ W, Below w.heap.size w W → Calls Try.prog 12 #[vb] W fun e w' => ∃ (v' : Value) (L : Nat) (x : Nat → Bool), e = .returned (.tuple #[v', .int .i64 (rsE nb fb)]) ∧ (rsE nb fb = 0 → Least (sB fb) nb L ∧ First (sB fb) L nb x) ∧ Ans w' v' (rl (rsE nb fb) L) (fun c => if x c = true then 1 else 0) ∧ Below W.heap.size W w') from fun W hb => P12 vb nb fb W (hbt.below hb))
  obtain ⟨⟨av, cv, rfl, _⟩, _⟩ := hbt
  have hN : rsE nb fb = 0 → nb ≤ 256 := fun h => (rsE_zero h).1
  generalize rsE nb fb = D at *
  clear P7 P10 P12
  go_enter Try.func5, Try.ntmps5
  go_wp2_with fail
  refine (HAL.out _).mono ?_
  rintro e W1 ⟨rfl, hb1⟩
  have HB1 := (show Hid (Below w.heap.size w W1) from hb1)
  clear hb1 HAL
  go_wp2_with fail
  refine (H10.out _ HB1.out).mono ?_
  rintro e W2 ⟨v2, l, rfl, hl, ha, hb2⟩
  have HB2 := (show Hid (Below w.heap.size w W2) from HB1.out.trans (hb2.mono HB1.out.size))
  clear hb2 H10 HB1
  by_cases hD : D = 0
  case neg =>
    have hd1 : (D != 0) = true := by simp [hD]
    obtain ⟨⟨a2, c2, rfl, _⟩, _⟩ := ha
    clear hl hD H12 hN
    go_wp2
    go_ret
    exact ⟨rfl, HB2.out⟩
  subst hD
  have hl' := hl rfl
  have hnb := hN rfl
  have hr0 : rl 0 nb = nb := rfl
  rw [hr0] at ha
  obtain ⟨⟨a2, c2, rfl, _⟩, a2', c2', e, hmx, hc⟩ := ha
  cases e
  have hnn1 : (((nb : Nat) : Int) != ((nb : Nat) : Int)) = false := by simp
  have HC := (show Hid (∀ c, c < nb → ∃ b o, a2 = some ⟨b, o, none⟩ ∧ W2.cell? ⟨b, o + c, none⟩ = some (.int .i64 ((l.getD c 0 : Nat) : Int))) from hc)
  have HL := (show Hid (ProfL (sB fb) l nb) from hl')
  clear hl hl' hr0 hc hmx hN
  go_wp2_with fail
  go_loopw [5, 25] (fun x i W => ∃ k L : Nat, k ≤ nb ∧ i = .int .i64 (k : Nat) ∧ x = .int .i64 (L : Nat) ∧ Least (sB fb) k L ∧ Below W2.heap.size W2 W) (fun _ i _ => ((nb : Int) - intOf i).toNat)
  case atStart => exact ⟨0, 0, by omega, rfl, rfl, least_zero _, Below.refl _ _⟩
  case round =>
    obtain ⟨k, L, hk, rfl, rfl, hL, hbw⟩ := hrel
    have HBW := (show Hid (Below W2.heap.size W2 wr) from hbw)
    have HLe := (show Hid (Least (sB fb) k L) from hL)
    by_cases hlt : k < nb
    · have HLT : Hid (k < nb) := hlt
      have hlt2 : (k : Int) < (nb : Int) := by omega
      obtain ⟨b, o, rfl, hcell0⟩ := HC.out k hlt
      have hcell := (hbw.cell (p := ⟨b, o + k, none⟩) (cell_block hcell0)).trans hcell0
      clear hcell0 hbw
      have hM := HL.out.2 k hlt
      have hgr := grown hL hM
      have hLk := hL.le
      have hMk := hM.le
      obtain ⟨M, hMe⟩ : ∃ M, M = l.getD k 0 := ⟨_, rfl⟩
      rw [← hMe] at hcell hM hgr hMk
      have HM := (show Hid (Least (sB fb) (k + 1) M) from hM)
      clear hMe hM hL hlt
      by_cases hML : M = L
      · have hb1 : (((M : Nat) : Int) != ((L : Nat) : Int)) = false := by simp [hML]
        clear hML hgr
        go_wp2
        go_roundw
        case rel => exact ⟨k + 1, M, HLT.out, by go_num, rfl, HM.out, HBW.out⟩
        case measure => have := HLT.out; simp [intOf]; omega
      · have hb1 : (((M : Nat) : Int) != ((L : Nat) : Int)) = true := by simp; omega
        have hg2 : M = k + 1 - L ∧ 2 * L ≤ k := by
          rcases hgr with h | h
          · exact absurd h hML
          · exact h
        have hb2 : (((M : Nat) : Int) != ((k : Int) + 1 - (L : Int))) = false := by
          have : ((M : Nat) : Int) = (k : Int) + 1 - (L : Int) := by omega
          simp [this]
        have hb3 : ¬ (k : Int) < 2 * (L : Int) := by omega
        clear hML hgr hg2
        go_wp2
        go_roundw
        case rel => exact ⟨k + 1, M, HLT.out, by go_num, rfl, HM.out, HBW.out⟩
        case measure => have := HLT.out; simp [intOf]; omega
    · obtain rfl : nb = k := by omega
      have hnn : ¬ ((nb : Nat) : Int) < ((nb : Nat) : Int) := by omega
      have HB3' := (show Hid (Below w.heap.size w wr) from HB2.out.trans (hbw.mono HB2.out.size))
      clear hlt hL HC HL hbw HBW
      go_wp2_with fail
      refine (H12.out _ HB3'.out).mono ?_
      rintro e W3 ⟨v3, L3, x3, rfl, hl3, ha3, hb3⟩
      have hLL := (hl3 (by first | rfl | trivial)).1.unique HLe.out
      have HB3 := (show Hid (Below w.heap.size w W3) from HB3'.out.trans (hb3.mono HB3'.out.size))
      have hr0 : rl 0 L3 = L3 := rfl
      rw [hr0] at ha3
      subst hLL
      obtain ⟨⟨a3, c3, rfl, _⟩, _⟩ := ha3
      clear hl3 hb3 hr0 H12 HLe HB2
      go_wp2
      go_ret
      exact ⟨by simp, HB3.out⟩
end Go.Proofs.Ytflehdigikdhmaa
