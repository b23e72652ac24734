/-
  Contracts of pins' Wrong and Cycle (chapter 12).
-/
import Derived.Test.YtkangeheamknoaaPiP2
namespace Go.Proofs.Ytkangeheamknoaa
open Go.RowKit PK Dm

theorem p_info_int : (Try.prog.info? 3).map (·.size) = some 1 := by kernel_rfl
set_option maxRecDepth 100000 in
set_option maxHeartbeats 8000000 in
theorem ppi_wrong : PDWr 6 := fun v D w hd => by
  obtain ⟨a, b, rfl, ⟨aw, cw, R, rfl, hmw, hrw, hpw⟩, ⟨ab, cb, rfl, hmb, hbb⟩⟩ := hd
  have HRW := (show Hid (∀ r, r < D.nw → ∃ b o, aw = some ⟨b, o, none⟩ ∧ w.cell? ⟨b, o + r, none⟩ = some (R r)) from hrw)
  have HPW := (show Hid (∀ r, r < D.nw → ∃ a c, R r = .slice a (D.ln r) c ∧ D.ln r ≤ maxLen) from fun r hr => by
    obtain ⟨a, c, e, h, _⟩ := hpw r hr
    exact ⟨a, c, e, h⟩)
  have HBB := (show Hid (∀ r, r < D.nb → ∃ b o, ab = some ⟨b, o, none⟩ ∧ w.rangeAt b (o + r * 2) (ints 2 (D.bar r)).toList) from hbb)
  have h0 := DgAt.new w (.slice aw D.nw cw) (.slice ab D.nb cb)
  have hzz := o_zero v_zero_two
  unfold maxLen at hmw hmb
  clear hrw hpw hbb
  by_cases h1 : D.nw < 1 ∨ 12 < D.nw ∨ 27 < D.nb
  · have HE : Hid (dE D = 5) := by unfold dE; rw [Hid, if_pos h1]
    have HBE := (show Hid _ from h0.below)
    clear HRW HPW HBB
    by_cases h2 : D.nw = 0
    · generalize D.nw = nw at *
      subst h2
      generalize D.nb = nb at *
      clear h1 h0
      go_enter Try.func6, Try.ntmps6
      go_wp2
      go_ret
      exact ⟨by rw [HE.out]; rfl, HBE.out⟩
    · have h3 : ((D.nw : Int) == 0) = false := by simp; omega
      by_cases h4 : 12 < D.nw
      · have h5 : (12 : Int) < (D.nw : Int) := by omega
        generalize D.nw = nw at *
        generalize D.nb = nb at *
        clear h1 h2 h0 h4
        go_enter Try.func6, Try.ntmps6
        go_wp2
        go_ret
        exact ⟨by rw [HE.out]; rfl, HBE.out⟩
      · have h5 : ¬ (12 : Int) < (D.nw : Int) := by omega
        have h6 : (27 : Int) < (D.nb : Int) := by omega
        generalize D.nw = nw at *
        generalize D.nb = nb at *
        clear h1 h2 h0 h4
        go_enter Try.func6, Try.ntmps6
        go_wp2
        go_ret
        exact ⟨by rw [HE.out]; rfl, HBE.out⟩
  have HE : Hid (dE D = if anyTo (wlE D) D.nw = true then 3 else if anyTo (lgE D) D.nb = true then 8 else 0) := by unfold dE; rw [Hid, if_neg h1]
  have HW : Hid (∀ k, k < D.nw → wlE D k = true → dE D = 3) := fun k hk h => by rw [HE.out, if_pos (anyTo_true hk h)]
  have HL : Hid ((∀ k, k < D.nw → wlE D k = false) → ∀ r, r < D.nb → lgE D r = true → dE D = 8) := fun h k hk h' => by rw [HE.out, if_neg (by rw [anyTo_false.2 h]; decide), if_pos (anyTo_true hk h')]
  have HO : Hid ((∀ k, k < D.nw → wlE D k = false) → (∀ r, r < D.nb → lgE D r = false) → dE D = 0) := fun h h' => by rw [HE.out, if_neg (by rw [anyTo_false.2 h]; decide), if_neg (by rw [anyTo_false.2 h']; decide)]
  have h3 : ((D.nw : Int) == 0) = false := by simp; omega
  have h5 : ¬ (12 : Int) < (D.nw : Int) := by omega
  have h6 : ¬ (27 : Int) < (D.nb : Int) := by omega
  have hnw : D.nw ≤ 12 := by omega
  have hnb : D.nb ≤ 27 := by omega
  clear h1 HE
  go_enter Try.func6, Try.ntmps6
  go_wp2_with fail
  generalize w.alloc (.cells #[.slice aw D.nw cw, .slice ab D.nb cb] 25) = W0 at *
  go_loopw [28] (fun x W => ∃ k : Nat, k ≤ D.nw ∧ x = .int .i64 (k : Nat) ∧ DgAt w W (.slice aw D.nw cw) (.slice ab D.nb cb) ∧ ∀ j, j < k → wlE D j = false) (fun x _ => ((D.nw : Int) - intOf x).toNat)
  case atStart => exact ⟨0, by omega, rfl, h0, fun j hj => by omega⟩
  case round =>
    clear h0 h3 h5 h6
    obtain ⟨k, hk, rfl, hg, hno⟩ := hrel
    have HNO := (show Hid _ from hno)
    by_cases hlt : k < D.nw
    · have HLT : Hid (k < D.nw) := hlt
      have hlt2 : (k : Int) < (D.nw : Int) := by omega
      obtain ⟨bm, om, rfl, hc⟩ := HRW.out k hlt
      obtain ⟨ar, cr, hR, hml⟩ := HPW.out k hlt
      unfold maxLen at hml
      have hc2 := (hg.below.cell (p := ⟨bm, om + k, none⟩) (cell_block hc)).trans hc
      rw [hR] at hc2
      have HG := (show Hid (DgAt w wr (.slice (some ⟨bm, om, none⟩) D.nw cw) (.slice ab D.nb cb)) from hg)
      have HWK := (show Hid (wlE D k = true → dE D = 3) from HW.out k hlt)
      have HWD : Hid (wlE D k = decide (D.ln k = 0 ∨ 47 < D.ln k)) := rfl
      obtain ⟨m, hm⟩ : ∃ m, m = D.ln k := ⟨_, rfl⟩
      rw [← hm] at hc2 HWD hml
      generalize D.nw = nw at *
      generalize D.nb = nb at *
      by_cases hm0 : m = 0
      · have HE : Hid (dE D = 3) := HWK.out (by rw [HWD.out]; simp [hm0])
        subst hm0
        clear hc hg hno hlt HRW HPW HBB hR hm
        go_wp2
        go_ret
        exact ⟨by rw [HE.out]; rfl, HG.out.below⟩
      · have hmi : ((m : Int) == 0) = false := by simp; omega
        by_cases hm1 : 47 < m
        · have HE : Hid (dE D = 3) := HWK.out (by rw [HWD.out]; simp [hm1])
          have hm2 : (47 : Int) < (m : Int) := by omega
          clear hc hg hno hlt HRW HPW HBB hR hm hm1
          go_wp2
          go_ret
          exact ⟨by rw [HE.out]; rfl, HG.out.below⟩
        · have hm2 : ¬ (47 : Int) < (m : Int) := by omega
          have HNX : Hid (∀ j, j < k + 1 → wlE D j = false) := fun j hj => by
            by_cases e : j = k
            · rw [e, HWD.out]; simp; omega
            · exact HNO.out j (by omega)
          clear hc hg hno hlt HRW HPW HBB hR hm hm1
          go_wp2
          go_roundw
          case rel => exact ⟨k + 1, HLT.out, by go_num, HG.out, HNX.out⟩
          case measure => have := HLT.out; simp [intOf]; omega
    · obtain rfl : k = D.nw := by omega
      have hnn : ¬ ((D.nw : Nat) : Int) < ((D.nw : Nat) : Int) := by omega
      have HL2 := (show Hid (∀ r, r < D.nb → lgE D r = true → dE D = 8) from HL.out HNO.out)
      have HO2 := (show Hid ((∀ r, r < D.nb → lgE D r = false) → dE D = 0) from HO.out HNO.out)
      have c1 := hg.c1
      clear hno hlt HL HO HW HNO HRW HPW
      go_wp2_with fail
      go_loopw [44] (fun x W => ∃ r : Nat, r ≤ D.nb ∧ x = .int .i64 (r : Nat) ∧ DgAt w W (.slice aw D.nw cw) (.slice ab D.nb cb) ∧ ∀ j, j < r → lgE D j = false) (fun x _ => ((D.nb : Int) - intOf x).toNat)
      case atStart => exact ⟨0, by omega, rfl, hg, fun j hj => by omega⟩
      case round =>
        clear hg hnn c1
        obtain ⟨r, hr, rfl, hg, hno⟩ := hrel
        have HNO := (show Hid _ from hno)
        by_cases hlt : r < D.nb
        · have HLT : Hid (r < D.nb) := hlt
          have hlt2 : (r : Int) < (D.nb : Int) := by omega
          obtain ⟨bb, ob, rfl, hrg⟩ := HBB.out r hlt
          have hrg2 := rangeAt_below hrg hg.below
          have HLK := (show Hid (lgE D r = true → dE D = 8) from HL2.out r hlt)
          have HLD : Hid (lgE D r = decide (D.bar r 0 < 0 ∨ D.bar r 1 < 0 ∨ (D.nw : Int) < D.bar r 0 ∨ (D.nw : Int) < D.bar r 1)) := rfl
          clear hrg hno hlt
          go_upto_region 12 with (first | refine wpList_load_arr rfl 44 _ rfl bb (ob + r * 2) rfl (ints 2 (D.bar r)) _ hrg2 Try.underlying44 rfl (by rw [ints_size]; exact v_info_two) ?_ | refine wpList_store_row rfl 44 _ _ rfl wr.heap.size (ints 2 (D.bar r)) rfl rfl 44 _ (RowAt.new wr _ _) (by rw [ints_size]; exact v_info_two) (by simp only [ints_size]) (ints_one _ _) ?_)
          have hg2 := hg.two (ints 2 fun _ => 0) (ints 2 (D.bar r)) 44
          have hq := (RowAt.new wr 44 (ints 2 fun _ => 0)).row (ints 2 (D.bar r))
          generalize (wr.alloc (.cells (ints 2 fun _ => 0) 44)).setRow wr.heap.size (ints 2 (D.bar r)) = W3 at *
          generalize wr.heap.size = q at *
          have HSO : Hid (∀ j, j < 2 → (D.bar r j < 0 ∨ (D.nw : Int) < D.bar r j) → dE D = 8) := fun j hj h => HLK.out (by
            rw [HLD.out]
            apply decide_eq_true
            rcases (by omega : j = 0 ∨ j = 1) with rfl | rfl
            · rcases h with h | h
              · exact .inl h
              · exact .inr (.inr (.inl h))
            · rcases h with h | h
              · exact .inr (.inl h)
              · exact .inr (.inr (.inr h)))
          have HSN : Hid ((∀ j, j < 2 → ¬ (D.bar r j < 0 ∨ (D.nw : Int) < D.bar r j)) → lgE D r = false) := fun h => by
            rw [HLD.out]
            apply decide_eq_false
            have h1 := h 0 (by decide)
            have h2 := h 1 (by decide)
            omega
          have HIX : Hid (∀ k : Nat, k < 2 → ∀ W, (Instr.index 44 (.agg (ints 2 (D.bar r))) (.int .i64 (k : Int))).run Try.prog W = .ok (.int .i64 (D.bar r k)) W) := fun k hk W => run_index_ints (P := Try.prog) 44 3 2 Try.underlying44 Try.underlying3 p_info_int (D.bar r) k hk W
          clear hg hrg2 HBB HL2 HO2 HLK HLD
          have hsz : (ints 2 (D.bar r)).size = 2 := ints_size _ _
          have HA := (show Hid ((Try.prog.info? 44).map (·.size) = some (ints 2 (D.bar r)).size) from by rw [hsz]; exact v_info_two)
          generalize ints 2 (D.bar r) = A at *
          clear hsz
          go_wp2_with (first | refine wpList_load_row rfl 44 _ rfl q rfl 44 A (0, 0) _ hq Try.underlying44 rfl HA.out ?_)
          clear hq HA
          go_loopw [49] (fun x W => ∃ j : Nat, j ≤ 2 ∧ x = .int .i64 (j : Nat) ∧ DgAt w W (.slice aw D.nw cw) (.slice (some ⟨bb, ob, none⟩) D.nb cb) ∧ ∀ i, i < j → ¬ (D.bar r i < 0 ∨ (D.nw : Int) < D.bar r i)) (fun x _ => ((2 : Int) - intOf x).toNat)
          case atStart => exact ⟨0, by omega, rfl, hg2, fun j hj => by omega⟩
          case round =>
            clear hg2
            obtain ⟨j, hj, rfl, hg, hno⟩ := hrel
            have HN2 := (show Hid _ from hno)
            have HG := (show Hid (DgAt w wr (.slice aw D.nw cw) (.slice (some ⟨bb, ob, none⟩) D.nb cb)) from hg)
            by_cases hlj : j < 2
            · have HLJ : Hid (j < 2) := hlj
              have hlj2 : (j : Int) < 2 := by omega
              have hix := HIX.out j hlj
              have c0 := hg.c0
              have HBA := (show Hid _ from HSO.out j hlj)
              have HNX : Hid (¬ (D.bar r j < 0 ∨ (D.nw : Int) < D.bar r j) → ∀ i, i < j + 1 → ¬ (D.bar r i < 0 ∨ (D.nw : Int) < D.bar r i)) := fun h i hi => by
                by_cases e : i = j
                · rw [e]; exact h
                · exact HN2.out i (by omega)
              clear hno hlj hg HSO HSN HIX
              obtain ⟨x, hx⟩ : ∃ x, x = D.bar r j := ⟨_, rfl⟩
              rw [← hx] at hix HBA HNX
              clear hx
              by_cases k0 : x < 0
              · have HE : Hid (dE D = 8) := HBA.out (.inl k0)
                clear HBA HNX
                go_wp2
                go_ret
                exact ⟨by rw [HE.out]; rfl, HG.out.below⟩
              · by_cases k1 : (D.nw : Int) < x
                · have HE : Hid (dE D = 8) := HBA.out (.inr k1)
                  clear HBA HNX
                  go_wp2
                  go_ret
                  exact ⟨by rw [HE.out]; rfl, HG.out.below⟩
                · have HN3 := (show Hid _ from HNX.out (by rintro (h | h) <;> contradiction))
                  clear HBA HNX
                  go_wp2
                  go_roundw
                  case rel => exact ⟨j + 1, HLJ.out, by go_num, HG.out, HN3.out⟩
                  case measure => have := HLJ.out; simp [intOf]; omega
            · obtain rfl : j = 2 := by omega
              have HNX : Hid (∀ j, j < r + 1 → lgE D j = false) := fun j hj => by
                by_cases e : j = r
                · rw [e]; exact HSN.out HN2.out
                · exact HNO.out j (by omega)
              clear hno hlj hg HSO HSN HIX hj
              go_wp2
              go_roundw
              case rel => exact ⟨r + 1, HLT.out, by go_num, HG.out, HNX.out⟩
              case measure => have := HLT.out; simp [intOf]; omega
        · obtain rfl : r = D.nb := by omega
          have hnn : ¬ ((D.nb : Nat) : Int) < ((D.nb : Nat) : Int) := by omega
          have HE := (show Hid (dE D = 0) from HO2.out HNO.out)
          have HG := (show Hid _ from hg.below)
          generalize D.nb = nb at *
          clear hno hlt hg HBB HL2 HO2
          go_wp2
          go_ret
          exact ⟨by rw [HE.out]; rfl, HG.out⟩
end Go.Proofs.Ytkangeheamknoaa
