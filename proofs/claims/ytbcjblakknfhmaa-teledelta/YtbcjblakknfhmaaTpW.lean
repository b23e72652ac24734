/-
  Contract of tele's Wrong (chapter 13).
-/
import Derived.Test.YtbcjblakknfhmaaTeW
namespace Go.Proofs.Ytbcjblakknfhmaa
open Go.RowKit PK Tl

set_option maxRecDepth 100000 in
set_option maxHeartbeats 4000000 in
theorem ptw_any (v : Value) (T : Te) (w : World) (hd : TeAt w v T) : Calls Try.prog 8 #[v] w fun e w' => e = .returned (.int .i64 (teE T)) ∧ Below w.heap.size w w' := by
  obtain ⟨R, rfl, hp⟩ := hd
  have HR := (show Hid (∀ k, k < 11 → ∃ a c, R k = .slice a (T.ln k) c ∧ T.ln k ≤ maxLen) from fun k hk => by
    obtain ⟨a, c, e, h, _⟩ := hp k hk
    exact ⟨a, c, e, h⟩)
  have h0 := TgAt.new w R T.pl
  have hch := te_chi h0.row
  clear hp
  go_enter Try.func8, Try.ntmps8
  go_upto_region 1 with fail
  generalize w.alloc (.cells (teA R T.pl) 27) = W0 at *
  go_wp2_with (first | refine wpList_load_arr rfl 24 _ rfl w.heap.size 0 rfl (tab 5 R) _ hch Try.underlying24 rfl (by rw [tab_size]; exact t_info_fivep) ?_)
  clear hch
  go_loopw [11] (fun x W => ∃ k : Nat, k ≤ 5 ∧ x = .int .i64 (k : Nat) ∧ TgAt w W R T.pl ∧ Hid (firstE (fun k => wE (T.ln k) (T.pl k)) k = 0)) (fun x _ => ((5 : Int) - intOf x).toNat)
  case atStart => exact ⟨0, by omega, rfl, h0, rfl⟩
  case round =>
    clear h0
    obtain ⟨k, hk, rfl, hg, HZ⟩ := hrel
    by_cases hlt : k < 5
    · have HLT : Hid (k < 5) := hlt
      have hlt2 : (k : Int) < 5 := by omega
      obtain ⟨a1, c1, r1, l1⟩ := HR.out k (by omega)
      have HST := (show Hid (firstE (fun k => wE (T.ln k) (T.pl k)) (k + 1) = wE (T.ln k) (T.pl k)) from firstE_step _ k HZ.out)
      have HKE := (show Hid (firstE (fun k => wE (T.ln k) (T.pl k)) (k + 1) ≠ 0 → teE T = firstE (fun k => wE (T.ln k) (T.pl k)) (k + 1)) from fun h => firstE_keep _ _ h 11 (by omega))
      have HG := (show Hid (TgAt w wr R T.pl) from hg)
      have d2 := te_place hg.row (k := k) (by omega)
      have hix := index_pins R hlt
      rw [r1] at hix
      have HCA := (show Hid (∀ W, Calls Try.prog 21 #[.slice a1 (T.ln k) c1, .int .i64 (T.pl k)] W fun e w' => e = .returned (.int .i64 (wE (T.ln k) (T.pl k))) ∧ W = w') from fun W => pstd_any a1 (T.ln k) c1 (T.pl k) W l1)
      have HFI : Hid (∀ E : Int, E = wE (T.ln k) (T.pl k) → (E ≠ 0 → teE T = E) ∧ (E = 0 → firstE (fun k => wE (T.ln k) (T.pl k)) (k + 1) = 0)) := fun E hE => by
        rw [← hE] at HST
        exact ⟨fun h => (HKE.out (by rw [HST.out]; exact h)).trans HST.out, fun h => HST.out.trans h⟩
      obtain ⟨E, hE⟩ : ∃ E, E = wE (T.ln k) (T.pl k) := ⟨_, rfl⟩
      have HF := (show Hid _ from HFI.out E hE)
      rw [← hE] at HCA
      clear HFI HST HKE hE hg HZ l1 r1
      generalize T.ln k = lk at *
      generalize T.pl k = pk at *
      go_wp2_with fail
      refine Calls.mono (HCA.out _) ?_
      rintro e Y ⟨rfl, rfl⟩
      clear HCA d2 hix hlt
      by_cases he : E = 0
      · have HFZ := (show Hid _ from HF.out.2 he)
        have he2 : (E != 0) = false := by simp [he]
        clear HF he
        go_wp2
        go_roundw
        case rel => exact ⟨k + 1, HLT.out, by go_num, HG.out, HFZ.out⟩
        case measure => have := HLT.out; simp [intOf]; omega
      · have HFZ := (show Hid _ from HF.out.1 he)
        have he2 : (E != 0) = true := by simp [he]
        clear HF he
        go_wp2
        go_ret
        exact ⟨by rw [HFZ.out]; rfl, HG.out.below⟩
    · obtain rfl : k = 5 := by omega
      have hps := te_psi hg.row
      have HG := (show Hid (TgAt w wr R T.pl) from hg)
      clear hg hlt
      go_wp2_with (first | refine wpList_load_arr rfl 24 _ rfl w.heap.size 5 rfl (tab 5 fun k => R (5 + k)) _ hps Try.underlying24 rfl (by rw [tab_size]; exact t_info_fivep) ?_)
      clear hps
      go_loopw [27] (fun x W => ∃ k : Nat, k ≤ 5 ∧ x = .int .i64 (k : Nat) ∧ TgAt w W R T.pl ∧ Hid (firstE (fun k => wE (T.ln k) (T.pl k)) (5 + k) = 0)) (fun x _ => ((5 : Int) - intOf x).toNat)
      case atStart => exact ⟨0, by omega, rfl, HG.out, HZ.out⟩
      case round =>
        clear HG HZ
        obtain ⟨k, hk, rfl, hg, HZ⟩ := hrel
        by_cases hlt : k < 5
        · have HLT : Hid (k < 5) := hlt
          have hlt2 : (k : Int) < 5 := by omega
          obtain ⟨a1, c1, r1, l1⟩ := HR.out (5 + k) (by omega)
          have HST := (show Hid (firstE (fun k => wE (T.ln k) (T.pl k)) (5 + k + 1) = wE (T.ln (5 + k)) (T.pl (5 + k))) from firstE_step _ (5 + k) HZ.out)
          have HKE := (show Hid (firstE (fun k => wE (T.ln k) (T.pl k)) (5 + k + 1) ≠ 0 → teE T = firstE (fun k => wE (T.ln k) (T.pl k)) (5 + k + 1)) from fun h => firstE_keep _ _ h 11 (by omega))
          have HG := (show Hid (TgAt w wr R T.pl) from hg)
          have d2 := te_place hg.row (k := 5 + k) (by omega)
          rw [show 11 + (5 + k) = 16 + k by omega] at d2
          have hix := index_pins (fun k => R (5 + k)) hlt
          rw [r1] at hix
          have HCA := (show Hid (∀ W, Calls Try.prog 21 #[.slice a1 (T.ln (5 + k)) c1, .int .i64 (T.pl (5 + k))] W fun e w' => e = .returned (.int .i64 (wE (T.ln (5 + k)) (T.pl (5 + k)))) ∧ W = w') from fun W => pstd_any a1 (T.ln (5 + k)) c1 (T.pl (5 + k)) W l1)
          have HFI : Hid (∀ E : Int, E = wE (T.ln (5 + k)) (T.pl (5 + k)) → (E ≠ 0 → teE T = E) ∧ (E = 0 → firstE (fun k => wE (T.ln k) (T.pl k)) (5 + (k + 1)) = 0)) := fun E hE => by
            rw [← hE] at HST
            exact ⟨fun h => (HKE.out (by rw [HST.out]; exact h)).trans HST.out, fun h => HST.out.trans h⟩
          obtain ⟨E, hE⟩ : ∃ E, E = wE (T.ln (5 + k)) (T.pl (5 + k)) := ⟨_, rfl⟩
          have HF := (show Hid _ from HFI.out E hE)
          rw [← hE] at HCA
          clear HFI HST HKE hE hg HZ l1 r1
          generalize T.ln (5 + k) = lk at *
          generalize T.pl (5 + k) = pk at *
          go_wp2_with fail
          refine Calls.mono (HCA.out _) ?_
          rintro e Y ⟨rfl, rfl⟩
          clear HCA d2 hix hlt
          by_cases he : E = 0
          · have HFZ := (show Hid _ from HF.out.2 he)
            have he2 : (E != 0) = false := by simp [he]
            clear HF he
            go_wp2
            go_roundw
            case rel => exact ⟨k + 1, HLT.out, by go_num, HG.out, HFZ.out⟩
            case measure => have := HLT.out; simp [intOf]; omega
          · have HFZ := (show Hid _ from HF.out.1 he)
            have he2 : (E != 0) = true := by simp [he]
            clear HF he
            go_wp2
            go_ret
            exact ⟨by rw [HFZ.out]; rfl, HG.out.below⟩
        · obtain rfl : k = 5 := by omega
          obtain ⟨a1, c1, r1, l1⟩ := HR.out 10 (by decide)
          have HST := (show Hid (teE T = wE (T.ln 10) (T.pl 10)) from firstE_step _ 10 HZ.out)
          have HG := (show Hid (TgAt w wr R T.pl) from hg)
          have d1 := te_wheel hg.row (k := 10) (by decide)
          have d2 : wr.cell? ⟨w.heap.size, 21, none⟩ = some (.int .i64 (T.pl 10)) := te_place hg.row (k := 10) (by decide)
          rw [r1] at d1
          have HCA := (show Hid (∀ W, Calls Try.prog 21 #[.slice a1 (T.ln 10) c1, .int .i64 (T.pl 10)] W fun e w' => e = .returned (.int .i64 (wE (T.ln 10) (T.pl 10))) ∧ W = w') from fun W => pstd_any a1 (T.ln 10) c1 (T.pl 10) W l1)
          rw [← HST.out] at HCA
          clear HST hg HZ l1 r1 hlt HR
          generalize T.ln 10 = lk at *
          generalize T.pl 10 = pk at *
          obtain ⟨E, hEE⟩ : ∃ E, E = teE T := ⟨_, rfl⟩
          have HEE := (show Hid (E = teE T) from hEE)
          rw [← hEE] at HCA
          clear hEE
          go_wp2_with fail
          refine Calls.mono (HCA.out _) ?_
          rintro e Y ⟨rfl, rfl⟩
          clear HCA d1 d2
          go_wp2
          go_ret
          exact ⟨by rw [← HEE.out]; rfl, HG.out.below⟩
end Go.Proofs.Ytbcjblakknfhmaa
