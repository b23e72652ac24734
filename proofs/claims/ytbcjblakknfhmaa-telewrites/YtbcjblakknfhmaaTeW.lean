/-
  Contract of the document's Wrong (chapter 13).
-/
import Derived.Test.YtbcjblakknfhmaaTeS
namespace Go.Proofs.Ytbcjblakknfhmaa
open Go.RowKit PK Tl

theorem tg_drewN {w W : World} {R : Nat → Value} {a : Nat → Int} (h : TgAt w W R a) (n : Nat) : TgAt w (W.drewN n) R a := ⟨h.row, ⟨h.below.os, h.below.tape, h.below.output, h.below.size, h.below.block⟩⟩
set_option maxRecDepth 100000 in
set_option maxHeartbeats 4000000 in
theorem rtw_any (v : Value) (T : Te) (w : World) (hd : TeAt w v T) : Calls Try.prog 9 #[v] w fun e w' => e = .returned (.int .i64 (teE T)) ∧ Below w.heap.size w w' := by
  obtain ⟨R, rfl, hp⟩ := hd
  have HR := (show Hid (∀ k, k < 11 → ∃ a c, R k = .slice a (T.ln k) c ∧ T.ln k ≤ maxLen) from fun k hk => by
    obtain ⟨a, c, e, h, _⟩ := hp k hk
    exact ⟨a, c, e, h⟩)
  have h0 := TgAt.new w R T.pl
  have HE : Hid (teE T = firstE (fun k => wE (T.ln k) (T.pl k)) 11) := rfl
  clear hp
  go_enter Try.func9, Try.ntmps9
  go_wp2_with fail
  generalize w.alloc (.cells (teA R T.pl) 27) = W0 at *
  go_loopw [3] (fun x W => ∃ k : Nat, k ≤ 11 ∧ x = .int .i64 (k : Nat) ∧ TgAt w W R T.pl ∧ Hid (firstE (fun k => wE (T.ln k) (T.pl k)) k = 0)) (fun x _ => ((11 : Int) - intOf x).toNat)
  case atStart => exact ⟨0, by omega, rfl, h0, rfl⟩
  case round =>
    clear h0
    obtain ⟨k, hk, rfl, hg, HZ⟩ := hrel
    by_cases hlt : k < 11
    · have HLT : Hid (k < 11) := hlt
      have hlt2 : (k : Int) < 11 := by omega
      obtain ⟨a1, c1, r1, l1⟩ := HR.out k hlt
      obtain ⟨a2, c2, r2, l2⟩ := HR.out 10 (by decide)
      have HST := (show Hid (firstE (fun k => wE (T.ln k) (T.pl k)) (k + 1) = wE (T.ln k) (T.pl k)) from firstE_step _ k HZ.out)
      have HKE := (show Hid (firstE (fun k => wE (T.ln k) (T.pl k)) (k + 1) ≠ 0 → teE T = firstE (fun k => wE (T.ln k) (T.pl k)) (k + 1)) from fun h => firstE_keep _ _ h 11 hlt)
      have HG := (show Hid (∀ n, TgAt w (wr.drewN n) R T.pl) from fun n => tg_drewN hg n)
      have m1 := te_wheel hg.row (k := 10) (by decide)
      have m2 : wr.cell? ⟨w.heap.size, 21, none⟩ = some (.int .i64 (T.pl 10)) := te_place hg.row (k := 10) (by decide)
      have d1 := te_wheel hg.row hlt
      have d2 := te_place hg.row hlt
      rw [r1] at d1
      rw [r2] at m1
      have HCA := (show Hid (∀ W, Calls Try.prog 22 #[.slice a1 (T.ln k) c1, .int .i64 (T.pl k)] W fun e w' => e = .returned (.int .i64 (wE (T.ln k) (T.pl k))) ∧ W = w') from fun W => rstd_any a1 (T.ln k) c1 (T.pl k) W l1)
      clear hlt HR HE HZ l1 r1
      have HFI : Hid (∀ E : Int, E = wE (T.ln k) (T.pl k) → (E ≠ 0 → teE T = E) ∧ (E = 0 → firstE (fun k => wE (T.ln k) (T.pl k)) (k + 1) = 0)) := fun E hE => by
        rw [← hE] at HST
        exact ⟨fun h => (HKE.out (by rw [HST.out]; exact h)).trans HST.out, fun h => HST.out.trans h⟩
      obtain ⟨E, hE⟩ : ∃ E, E = wE (T.ln k) (T.pl k) := ⟨_, rfl⟩
      have HF := (show Hid _ from HFI.out E hE)
      rw [← hE] at HCA
      clear HFI HST HKE hE
      by_cases k5 : k < 5
      · have k5i : (k : Int) < 5 := by omega
        generalize T.ln k = lk at *
        generalize T.ln 10 = l10 at *
        generalize T.pl k = pk at *
        generalize T.pl 10 = p10 at *
        clear hg l2 r2
        go_wp2_with fail
        go_quiet (fail)
        go_wp2_with fail
        go_quiet (fail)
        go_wp2_with fail
        refine Calls.mono (HCA.out _) ?_
        rintro e Y ⟨rfl, rfl⟩
        clear HCA m1 m2 d1 d2
        by_cases he : E = 0
        · have HFZ := (show Hid _ from HF.out.2 he)
          have he2 : (E != 0) = false := by simp [he]
          clear HF he
          go_wp2
          go_roundw
          case rel => exact ⟨k + 1, HLT.out, by go_num, by first | exact HG.out _ | exact tg_drewN (HG.out _) _, HFZ.out⟩
          case measure => have := HLT.out; simp [intOf]; omega
        · have HFZ := (show Hid _ from HF.out.1 he)
          have he2 : (E != 0) = true := by simp [he]
          clear HF he
          go_wp2
          go_ret
          exact ⟨by rw [HFZ.out]; rfl, by first | exact (HG.out _).below | exact (tg_drewN (HG.out _) _).below⟩
      · by_cases k10 : k < 10
        · have k5i : ¬ (k : Int) < 5 := by omega
          have k10i : (k : Int) < 10 := by omega
          obtain ⟨j, hj⟩ : ∃ j, k = 5 + j := ⟨k - 5, by omega⟩
          have hj5 : j < 5 := by omega
          have hji : (k : Int) - 5 = (j : Int) := by omega
          rw [show (⟨w.heap.size, k, none⟩ : Addr) = ⟨w.heap.size, 5 + j, none⟩ by rw [hj]] at d1
          rw [show (⟨w.heap.size, 11 + k, none⟩ : Addr) = ⟨w.heap.size, 16 + j, none⟩ by rw [show 11 + k = 16 + j by omega]] at d2
          clear hj
          generalize T.ln k = lk at *
          generalize T.ln 10 = l10 at *
          generalize T.pl k = pk at *
          generalize T.pl 10 = p10 at *
          clear hg l2 r2
          go_wp2_with fail
          go_quiet (fail)
          go_wp2_with fail
          go_quiet (fail)
          go_wp2_with fail
          refine Calls.mono (HCA.out _) ?_
          rintro e Y ⟨rfl, rfl⟩
          clear HCA m1 m2 d1 d2
          by_cases he : E = 0
          · have HFZ := (show Hid _ from HF.out.2 he)
            have he2 : (E != 0) = false := by simp [he]
            clear HF he
            go_wp2
            go_roundw
            case rel => exact ⟨k + 1, HLT.out, by go_num, by first | exact HG.out _ | exact tg_drewN (HG.out _) _, HFZ.out⟩
            case measure => have := HLT.out; simp [intOf]; omega
          · have HFZ := (show Hid _ from HF.out.1 he)
            have he2 : (E != 0) = true := by simp [he]
            clear HF he
            go_wp2
            go_ret
            exact ⟨by rw [HFZ.out]; rfl, by first | exact (HG.out _).below | exact (tg_drewN (HG.out _) _).below⟩
        · have k5i : ¬ (k : Int) < 5 := by omega
          have k10i : ¬ (k : Int) < 10 := by omega
          have hk10 : k = 10 := by omega
          have q1 : wr.cell? ⟨w.heap.size, 10, none⟩ = some (.slice a1 (T.ln k) c1) := by rw [show (10 : Nat) = k by omega]; exact d1
          have q2 : wr.cell? ⟨w.heap.size, 21, none⟩ = some (.int .i64 (T.pl k)) := by rw [show (21 : Nat) = 11 + k by omega]; exact d2
          clear m1 m2 d1 d2 hk10
          have m1 := q1
          have m2 := q2
          clear q1 q2
          have d1 : True := trivial
          have d2 : True := trivial
          generalize T.ln k = lk at *
          generalize T.ln 10 = l10 at *
          generalize T.pl k = pk at *
          generalize T.pl 10 = p10 at *
          clear hg l2 r2
          go_wp2_with fail
          go_quiet (fail)
          go_wp2_with fail
          refine Calls.mono (HCA.out _) ?_
          rintro e Y ⟨rfl, rfl⟩
          clear HCA m1 m2 d1 d2
          by_cases he : E = 0
          · have HFZ := (show Hid _ from HF.out.2 he)
            have he2 : (E != 0) = false := by simp [he]
            clear HF he
            go_wp2
            go_roundw
            case rel => exact ⟨k + 1, HLT.out, by go_num, by first | exact HG.out _ | exact tg_drewN (HG.out _) _, HFZ.out⟩
            case measure => have := HLT.out; simp [intOf]; omega
          · have HFZ := (show Hid _ from HF.out.1 he)
            have he2 : (E != 0) = true := by simp [he]
            clear HF he
            go_wp2
            go_ret
            exact ⟨by rw [HFZ.out]; rfl, by first | exact (HG.out _).below | exact (tg_drewN (HG.out _) _).below⟩
    · obtain rfl : k = 11 := by omega
      have HEE : Hid (teE T = 0) := HZ.out
      have HB := (show Hid _ from hg.below)
      clear hlt HR HE HZ hg
      go_wp2
      go_ret
      exact ⟨by rw [HEE.out]; rfl, HB.out⟩
end Go.Proofs.Ytbcjblakknfhmaa
