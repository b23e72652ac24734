/-
  Contract of the document's Pushed (chapter 12).
-/
import Derived.Test.YtkangeheamknoaaPiWr
namespace Go.Proofs.Ytkangeheamknoaa
open Go.RowKit PK Dm

set_option maxRecDepth 100000 in
set_option maxHeartbeats 8000000 in
theorem rpu_any (v : Value) (D : Dr) (hln : ∀ k, k < D.nw → 1 ≤ D.ln k ∧ D.ln k ≤ 47) (hnw : D.nw ≤ 12) (hnb : D.nb ≤ 27) (i : Nat) (hi : i ≤ 65536) (w : World) (hd : DrAt w v D) : Calls Try.prog 17 #[v, .int .i64 (i : Nat)] w fun e w' => e = .returned (.int .i64 (pushed D i : Nat)) ∧ Below w.heap.size w w' := by
  obtain ⟨a, b, rfl, ⟨aw, cw, R, rfl, hmw, hrw, hpw⟩, ⟨ab, cb, rfl, hmb, hbb⟩⟩ := hd
  have HRW := (show Hid (∀ r, r < D.nw → ∃ b o, aw = some ⟨b, o, none⟩ ∧ w.cell? ⟨b, o + r, none⟩ = some (R r)) from hrw)
  have HPW := (show Hid (∀ r, r < D.nw → PinsAt w (R r) (D.ln r) (D.pin r)) from hpw)
  have HBB := (show Hid (∀ r, r < D.nb → ∃ b o, ab = some ⟨b, o, none⟩ ∧ w.rangeAt b (o + r * 2) (ints 2 (D.bar r)).toList) from hbb)
  have HLN := (show Hid _ from hln)
  have h0 := DgAt.new w (.slice aw D.nw cw) (.slice ab D.nb cb)
  have hzz := o_zero v_zero_two
  have c1 := h0.c1
  clear hrw hpw hbb hmw hmb hln
  go_enter Try.func17, Try.ntmps17
  go_wp2_with fail
  generalize w.alloc (.cells #[.slice aw D.nw cw, .slice ab D.nb cb] 25) = W0 at *
  go_loopw [5, 14] (fun n x W => ∃ r : Nat, r ≤ D.nb ∧ x = .int .i64 (r : Nat) ∧ n = .int .i64 (cntTo (push D i) r : Nat) ∧ DgAt w W (.slice aw D.nw cw) (.slice ab D.nb cb)) (fun _ x _ => ((D.nb : Int) - intOf x).toNat)
  case atStart => exact ⟨0, by omega, rfl, rfl, h0⟩
  case round =>
    clear h0 c1
    obtain ⟨r, hr, rfl, rfl, hg⟩ := hrel
    have hcl := cntTo_le (push D i) r
    by_cases hlt : r < D.nb
    · have HLT : Hid (r < D.nb) := hlt
      have hlt2 : (r : Int) < (D.nb : Int) := by omega
      obtain ⟨bb, ob, rfl, hrg⟩ := HBB.out r hlt
      have hrg2 := rangeAt_below hrg hg.below
      have HCN : Hid (cntTo (push D i) (r + 1) = cntTo (push D i) r + if push D i r = true then 1 else 0) := rfl
      clear hrg hlt
      generalize cntTo (push D i) r = cn at *
      go_upto_region 5 with (first | refine wpList_load_arr rfl 44 _ rfl bb (ob + r * 2) rfl (ints 2 (D.bar r)) _ hrg2 Try.underlying44 rfl (by rw [ints_size]; exact v_info_two) ?_ | refine wpList_store_row rfl 44 _ _ rfl wr.heap.size (ints 2 (D.bar r)) rfl rfl 44 _ (RowAt.new wr _ _) (by rw [ints_size]; exact v_info_two) (by simp only [ints_size]) (ints_one _ _) ?_)
      have hg2 := hg.two (ints 2 fun _ => 0) (ints 2 (D.bar r)) 44
      have hq := (RowAt.new wr 44 (ints 2 fun _ => 0)).row (ints 2 (D.bar r))
      generalize (wr.alloc (.cells (ints 2 fun _ => 0) 44)).setRow wr.heap.size (ints 2 (D.bar r)) = W3 at *
      generalize wr.heap.size = q at *
      have c0 := hg2.c0
      clear hg hrg2
      go_wp2_with fail
      clear c0
      go_loopw [8, 21] (fun y x W => ∃ k : Nat, k ≤ D.nw ∧ x = .int .i64 (k : Nat) ∧ y = .bool (anyTo (hit D i r) k) ∧ DgAt w W (.slice aw D.nw cw) (.slice (some ⟨bb, ob, none⟩) D.nb cb) ∧ RowAt W q 44 (ints 2 (D.bar r))) (fun _ x _ => ((D.nw : Int) - intOf x).toNat)
      case atStart => exact ⟨0, by omega, rfl, rfl, hg2, hq⟩
      case round =>
        clear hg2 hq
        obtain ⟨k, hk, rfl, rfl, hg, hq⟩ := hrel
        by_cases hltk : k < D.nw
        · have HLK : Hid (k < D.nw) := hltk
          have hltk2 : (k : Int) < (D.nw : Int) := by omega
          have HGQ := (show Hid (DgAt w wr (.slice aw D.nw cw) (.slice (some ⟨bb, ob, none⟩) D.nb cb) ∧ RowAt wr q 44 (ints 2 (D.bar r))) from ⟨hg, hq⟩)
          obtain ⟨bm, om, rfl, hc⟩ := HRW.out k hltk
          obtain ⟨ar, cr, hR, hml, hpc⟩ := HPW.out k hltk
          have hl := HLN.out k hltk
          have hmod : i % D.ln k < D.ln k := Nat.mod_lt _ (by omega)
          obtain ⟨bp, op, rfl, hpin⟩ := hpc (i % D.ln k) hmod
          have hc2 := (hg.below.cell (p := ⟨bm, om + k, none⟩) (cell_block hc)).trans hc
          rw [hR] at hc2
          have hp2 := (hg.below.cell (p := ⟨bp, op + i % D.ln k, none⟩) (cell_block hpin)).trans hpin
          have q0 := hq.cell (ints_get (D.bar r) (show 0 < 2 by decide))
          have q1 := hq.cell (ints_get (D.bar r) (show 1 < 2 by decide))
          have HAN : Hid (anyTo (hit D i r) (k + 1) = (anyTo (hit D i r) k || hit D i r k)) := rfl
          have HHT : Hid (hit D i r k = (D.pin k (i % D.ln k) && (decide (D.bar r 0 = (k : Int) + 1) || decide (D.bar r 1 = (k : Int) + 1)))) := rfl
          have hrem : (i : Int).tmod (D.ln k : Int) = ((i % D.ln k : Nat) : Int) := by rw [Int.tmod_eq_emod_of_nonneg (by omega)]; omega
          have hrem2 : (i : Int) % (D.ln k : Int) = ((i % D.ln k : Nat) : Int) := by omega
          have hmod2 : ((i % D.ln k : Nat) : Int) < (D.ln k : Int) := by omega
          have hl0 : ¬ (D.ln k : Int) = 0 := by omega
          obtain ⟨p, hp⟩ : ∃ p, p = i % D.ln k := ⟨_, rfl⟩
          obtain ⟨m, hm⟩ : ∃ m, m = D.ln k := ⟨_, rfl⟩
          rw [← hp] at hrem hrem2 hmod2 hp2 HHT
          rw [← hm] at hrem hrem2 hmod2 hl hl0 hc2
          generalize D.pin k p = y at *
          generalize D.bar r 0 = x0 at *
          generalize D.bar r 1 = x1 at *
          generalize anyTo (hit D i r) k = yb at *
          clear hg hq hc hR hml hpc hpin hmod hltk hp hm HRW HPW HLN HBB
          cases y
          · have HH : Hid (anyTo (hit D i r) (k + 1) = yb) := by rw [Hid, HAN.out, HHT.out]; simp
            clear HAN HHT
            go_wp2
            go_roundw
            case rel => exact ⟨k + 1, HLK.out, by go_num, by rw [HH.out], HGQ.out⟩
            case measure => have := HLK.out; simp [intOf]; omega
          · by_cases k0 : x0 = (k : Int) + 1
            · have HH : Hid (anyTo (hit D i r) (k + 1) = true) := by rw [Hid, HAN.out, HHT.out]; simp [k0]
              subst k0
              clear HAN HHT
              go_wp2
              go_roundw
              case rel => exact ⟨k + 1, HLK.out, by go_num, by rw [HH.out], HGQ.out⟩
              case measure => have := HLK.out; simp [intOf]; omega
            · by_cases k1 : x1 = (k : Int) + 1
              · have HH : Hid (anyTo (hit D i r) (k + 1) = true) := by rw [Hid, HAN.out, HHT.out]; simp [k1]
                have z0 : (x0 == (k : Int) + 1) = false := by simp [k0]
                subst k1
                clear HAN HHT
                go_wp2
                go_roundw
                case rel => exact ⟨k + 1, HLK.out, by go_num, by rw [HH.out], HGQ.out⟩
                case measure => have := HLK.out; simp [intOf]; omega
              · have HH : Hid (anyTo (hit D i r) (k + 1) = yb) := by rw [Hid, HAN.out, HHT.out]; simp [k0, k1]
                have z0 : (x0 == (k : Int) + 1) = false := by simp [k0]
                have z1 : (x1 == (k : Int) + 1) = false := by simp [k1]
                clear HAN HHT
                go_wp2
                go_roundw
                case rel => exact ⟨k + 1, HLK.out, by go_num, by rw [HH.out], HGQ.out⟩
                case measure => have := HLK.out; simp [intOf]; omega
        · obtain rfl : k = D.nw := by omega
          have hnn : ¬ ((D.nw : Nat) : Int) < ((D.nw : Nat) : Int) := by omega
          have HG := (show Hid (DgAt w wr (.slice aw D.nw cw) (.slice (some ⟨bb, ob, none⟩) D.nb cb)) from hg)
          have HPU : Hid (push D i r = anyTo (hit D i r) D.nw) := rfl
          generalize anyTo (hit D i r) D.nw = yb at *
          clear hg hq hltk HRW HPW HLN HBB
          cases yb
          · have HH : Hid (cntTo (push D i) (r + 1) = cn) := by rw [Hid, HCN.out, HPU.out]; rfl
            clear HCN HPU
            go_wp2
            go_roundw
            case rel => exact ⟨r + 1, HLT.out, by go_num, by rw [HH.out], HG.out⟩
            case measure => have := HLT.out; simp [intOf]; omega
          · have HH : Hid (cntTo (push D i) (r + 1) = cn + 1) := by rw [Hid, HCN.out, HPU.out]; rfl
            clear HCN HPU
            go_wp2
            go_roundw
            case rel => exact ⟨r + 1, HLT.out, by go_num, by rw [HH.out]; go_num, HG.out⟩
            case measure => have := HLT.out; simp [intOf]; omega
    · obtain rfl : r = D.nb := by omega
      have hnn : ¬ ((D.nb : Nat) : Int) < ((D.nb : Nat) : Int) := by omega
      have HG := (show Hid _ from hg.below)
      have HPU : Hid (pushed D i = cntTo (push D i) D.nb) := rfl
      generalize cntTo (push D i) D.nb = cn at *
      clear hg hlt HRW HPW HLN HBB
      go_wp2
      go_ret
      exact ⟨by rw [HPU.out]; rfl, HG.out⟩
end Go.Proofs.Ytkangeheamknoaa
