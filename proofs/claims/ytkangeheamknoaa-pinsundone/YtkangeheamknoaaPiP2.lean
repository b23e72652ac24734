/-
  Contract of pins' next (chapter 12).
-/
import Derived.Test.YtkangeheamknoaaPiP1
namespace Go.Proofs.Ytkangeheamknoaa
open Go.RowKit PK Dm

/-- The drum at work, behind i letters. -/
structure WkAt (w W : World) (g : Nat) (a b : Value) (i : Nat) : Prop where
  row : RowAt W g 46 #[a, b, .int .i64 (i : Nat)]
  below : Below w.heap.size w W
theorem WkAt.step {w W W' : World} {g i : Nat} {a b : Value} (h : WkAt w W g a b i) (hb : Below W.heap.size W W') : WkAt w W' g a b i := ⟨h.row.below hb h.row.lt, h.below.trans (hb.mono h.below.size)⟩
theorem WkAt.two {w W : World} {g i : Nat} {a b : Value} (h : WkAt w W g a b i) (A A' : Array Value) (T : TypeId) : WkAt w ((W.alloc (.cells A T)).setRow W.heap.size A') g a b i := ⟨(h.row.alloc _).rowOther _ _ (by have := h.row.lt; omega), Below.setRow (h.below.alloc h.below.size _) _ h.below.size _⟩
set_option maxRecDepth 100000 in
set_option maxHeartbeats 4000000 in
theorem pnx_any (D : Dr) (hz : dE D = 0) (a b : Value) (g i : Nat) (hi : i ≤ 65536) (w : World) (hw : RowAt w g 46 #[a, b, .int .i64 (i : Nat)]) (hwh : WhAt w a D.nw D.ln D.pin) (hbr : BrAt w b D.nb D.bar) :
    Calls Try.prog 16 #[.pointer (some ⟨g, 0, none⟩)] w fun e w' => e = .returned (.int .i64 (pushed D i : Nat)) ∧ ∃ W, Below w.heap.size w W ∧ w' = W.setCell ⟨g, 2, none⟩ (.int .i64 ((i + 1 : Nat) : Int)) := by
  obtain ⟨e1, e2, e3, e4⟩ := dE_zero hz
  have HLG := (show Hid _ from dE_lugs hz)
  obtain ⟨aw, cw, R, rfl, hmw, hrw, hpw⟩ := hwh
  obtain ⟨ab, cb, rfl, hmb, hbb⟩ := hbr
  have HPS := (show Hid (∀ l : Int, 0 ≤ l ∧ l ≤ (D.nw : Int) → ∀ W, WkAt w W g (.slice aw D.nw cw) (.slice ab D.nb cb) i → Calls Try.prog 22 #[.pointer (some ⟨g, 0, none⟩), .int .i64 l] W fun e w' => e = .returned (.bool (lugs D i l)) ∧ W = w') from fun l hl W hW => pps_any D aw cw _ R g i hi l hl e2 e4 W hW.row (fun r hr => by
    obtain ⟨b, o, e, hcell⟩ := hrw r hr
    exact ⟨b, o, e, (hW.below.cell (p := ⟨b, o + r, none⟩) (cell_block hcell)).trans hcell⟩) (fun r hr => (hpw r hr).below hW.below))
  have HBB := (show Hid (∀ r, r < D.nb → ∃ b o, ab = some ⟨b, o, none⟩ ∧ w.rangeAt b (o + r * 2) (ints 2 (D.bar r)).toList) from hbb)
  have h0 : WkAt w w g (.slice aw D.nw cw) (.slice ab D.nb cb) i := ⟨hw, Below.refl _ _⟩
  have hzz := o_zero v_zero_two
  have c1 := hw.cell (i := 1) rfl
  clear hrw hpw hbb hmw hmb hz hw e1 e4
  go_enter Try.func16, Try.ntmps16
  go_wp2_with fail
  go_loopw [3, 12] (fun n x W => ∃ r : Nat, r ≤ D.nb ∧ x = .int .i64 (r : Nat) ∧ n = .int .i64 (cntTo (push D i) r : Nat) ∧ WkAt w W g (.slice aw D.nw cw) (.slice ab D.nb cb) i) (fun _ x _ => ((D.nb : Int) - intOf x).toNat)
  case atStart => exact ⟨0, by omega, rfl, rfl, h0⟩
  case round =>
    clear h0 c1
    obtain ⟨r, hr, rfl, rfl, hg⟩ := hrel
    have hcl := cntTo_le (push D i) r
    by_cases hlt : r < D.nb
    · have HLT : Hid (r < D.nb) := hlt
      have hlt2 : (r : Int) < (D.nb : Int) := by omega
      obtain ⟨bb, ob, rfl, hrg⟩ := HBB.out r hlt
      have hrg2 := rangeAt_below hrg hg.below
      obtain ⟨g1, g2⟩ := HLG.out r hlt
      have HCN : Hid (cntTo (push D i) (r + 1) = cntTo (push D i) r + if (lugs D i (D.bar r 0) || lugs D i (D.bar r 1)) = true then 1 else 0) := by
        have : cntTo (push D i) (r + 1) = cntTo (push D i) r + if push D i r = true then 1 else 0 := rfl
        rw [Hid, this, push_lugs g1 g2]
      clear hrg hlt
      generalize cntTo (push D i) r = cn at *
      go_upto_region 5 with (first | refine wpList_load_arr rfl 44 _ rfl bb (ob + r * 2) rfl (ints 2 (D.bar r)) _ hrg2 Try.underlying44 rfl (by rw [ints_size]; exact v_info_two) ?_ | refine wpList_store_row rfl 44 _ _ rfl wr.heap.size (ints 2 (D.bar r)) rfl rfl 44 _ (RowAt.new wr _ _) (by rw [ints_size]; exact v_info_two) (by simp only [ints_size]) (ints_one _ _) ?_)
      have hg2 := hg.two (ints 2 fun _ => 0) (ints 2 (D.bar r)) 44
      have hq := (RowAt.new wr 44 (ints 2 fun _ => 0)).row (ints 2 (D.bar r))
      generalize (wr.alloc (.cells (ints 2 fun _ => 0) 44)).setRow wr.heap.size (ints 2 (D.bar r)) = W3 at *
      generalize wr.heap.size = q at *
      have q0 := hq.cell (ints_get (D.bar r) (show 0 < 2 by decide))
      have q1 := hq.cell (ints_get (D.bar r) (show 1 < 2 by decide))
      have HC0 := (show Hid _ from HPS.out _ g1 W3 hg2)
      have HC1 := (show Hid _ from HPS.out _ g2 W3 hg2)
      have HG := (show Hid (WkAt w W3 g (.slice aw D.nw cw) (.slice (some ⟨bb, ob, none⟩) D.nb cb) i) from hg2)
      generalize lugs D i (D.bar r 0) = y0 at *
      generalize lugs D i (D.bar r 1) = y1 at *
      generalize D.bar r 0 = x0 at *
      generalize D.bar r 1 = x1 at *
      clear hg hrg2 hg2 hq g1 g2
      go_wp2_with fail
      refine Calls.mono HC0.out ?_
      rintro e Y ⟨rfl, rfl⟩
      clear HC0
      cases y0
      · go_wp2_with fail
        refine Calls.mono HC1.out ?_
        rintro e Y ⟨rfl, rfl⟩
        clear HC1
        cases y1
        · have HH : Hid (cntTo (push D i) (r + 1) = cn) := by rw [Hid, HCN.out]; rfl
          clear HCN
          go_wp2
          go_roundw
          case rel => exact ⟨r + 1, HLT.out, by go_num, by rw [HH.out], HG.out⟩
          case measure => have := HLT.out; simp [intOf]; omega
        · have HH : Hid (cntTo (push D i) (r + 1) = cn + 1) := by rw [Hid, HCN.out]; rfl
          clear HCN
          go_wp2
          go_roundw
          case rel => exact ⟨r + 1, HLT.out, by go_num, by rw [HH.out]; go_num, HG.out⟩
          case measure => have := HLT.out; simp [intOf]; omega
      · have HH : Hid (cntTo (push D i) (r + 1) = cn + 1) := by rw [Hid, HCN.out]; rfl
        clear HCN HC1
        go_wp2
        go_roundw
        case rel => exact ⟨r + 1, HLT.out, by go_num, by rw [HH.out]; go_num, HG.out⟩
        case measure => have := HLT.out; simp [intOf]; omega
    · obtain rfl : r = D.nb := by omega
      have hnn : ¬ ((D.nb : Nat) : Int) < ((D.nb : Nat) : Int) := by omega
      have HG := (show Hid _ from hg.below)
      have HPU : Hid (pushed D i = cntTo (push D i) D.nb) := rfl
      have k2 := hg.row.cell (i := 2) rfl
      have f2 := hg.row.frozen 2
      generalize cntTo (push D i) D.nb = cn at *
      clear hg hlt HBB HPS HLG
      go_wp2
      go_ret
      exact ⟨by rw [HPU.out]; rfl, wr, HG.out, by first | rfl | rw [show ((i + 1 : Nat) : Int) = (i : Int) + 1 by omega]⟩
end Go.Proofs.Ytkangeheamknoaa
