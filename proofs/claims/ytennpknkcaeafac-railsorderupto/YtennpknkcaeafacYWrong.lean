/-
  Contracts of rails.Wrong and of the document's.
-/
import Derived.Test.YtennpknkcaeafacChecked
import Derived.Test.YtennpknkcaeafacYKit
import Derived.Deep.OwnRows
namespace Go.Proofs.Ytennpknkcaeafac
open Go.RowKit PK

theorem y_info_int : (Try.prog.info? 3).map (fun i => (i.zero, i.size, i.bytes)) = some (some (.int .i64 0), 1, 8) := by kernel_rfl
theorem y_info_bool : (Try.prog.info? 4).map (fun i => (i.zero, i.size, i.bytes)) = some (some (.bool false), 1, 1) := by kernel_rfl
theorem y_made_tab (z : Value) (n : Nat) : madeCells #[z] n = tab n fun _ => z := by
  unfold madeCells tab
  apply Array.ext
  · simp
  · intro i h1 h2
    simp [Nat.mod_one]
theorem bools_new (n : Nat) : (tab n fun _ => .bool false) = bools n fun _ => false := rfl
theorem ints_new (n : Nat) : (tab n fun _ => .int .i64 0) = ints n fun _ => 0 := rfl
set_option maxHeartbeats 1000000 in
theorem wrong_any (v : Value) (n : Nat) (f : Nat → Int) (w : World) (hv : NumsAt w v n f) :
    Calls Try.prog 15 #[v] w fun e w' => e = .returned (.int .i64 (ordE n f)) ∧ Below w.heap.size w w' := by
  by_cases h : 65536 < n
  · have HR : Hid (ordE n f = 5) := by rw [Hid]; unfold ordE; rw [if_pos h]
    obtain ⟨a, cap, rfl, _⟩ := hv.len
    have h2 : (65536 : Int) < (n : Int) := by omega
    clear hv
    go_enter Try.func15, Try.ntmps15
    go_wp2
    go_ret
    exact ⟨ret_int HR.out.symm, Below.refl _ _⟩
  · have HR : Hid (ordE n f = firstE (badO n f) n) := by rw [Hid]; unfold ordE; rw [if_neg h]
    have h2 : ¬ (65536 : Int) < (n : Int) := by omega
    have hmk := run_make_row' (P := Try.prog) 51 4 (.bool false) 1 Try.underlying51 y_info_bool rfl .i64 .i64 n (by omega) (by omega)
    rw [y_made_tab, bools_new] at hmk
    obtain ⟨a, cap, rfl, hm, hc⟩ := hv
    have HC := (show Hid _ from hc)
    clear hc
    go_enter Try.func15, Try.ntmps15
    go_wp2
    go_loopw [14] (fun i W => ∃ m : Nat, m ≤ n ∧ i = .int .i64 m ∧ Hid (firstE (badO n f) m = 0) ∧ RowAt W w.heap.size 4 (bools n (metB f m)) ∧ Below w.heap.size w W) (fun i _ => ((n : Int) - intOf i).toNat)
    case atStart => exact ⟨0, by omega, rfl, rfl, RowAt.new w _ _, (Below.refl _ _).alloc (Nat.le_refl _) _⟩
    case round =>
      obtain ⟨m, hm, rfl, HS, ro, hb⟩ := hrel
      by_cases hlt : m < n
      · obtain ⟨b, o, rfl, hc0⟩ := HC.out m hlt
        have HB : Hid (b < w.heap.size) := cell_block hc0
        have hc := (hb.cell (p := ⟨b, o + m, none⟩) HB.out).trans hc0
        clear hc0
        have HST := (show Hid _ from firstE_step _ m HS.out)
        by_cases hx : f m < 0 ∨ (n : Int) ≤ f m
        · have HV : Hid (ordE n f = 3) := by
            have h3 : firstE (badO n f) (m + 1) = 3 := by rw [HST.out]; unfold badO; rw [if_pos hx]
            rw [Hid, HR.out, firstE_keep _ (m + 1) (by rw [h3]; decide) n (by omega), h3]
          rcases hx with hx | hx
          · go_wp2
            go_ret
            exact ⟨ret_int HV.out.symm, hb⟩
          · have hx0 : ¬ f m < 0 := by omega
            go_wp2
            go_ret
            exact ⟨ret_int HV.out.symm, hb⟩
        · have h1 : ¬ f m < 0 := by omega
          have h3 : ¬ (n : Int) ≤ f m := by omega
          have HSP : Hid (upd (metB f m) (f m).toNat true = metB f (m + 1)) := metB_step f m (by omega)
          obtain ⟨x, hxe⟩ : ∃ x : Nat, f m = x := ⟨(f m).toNat, by omega⟩
          have hxt : (f m).toNat = x := by omega
          rw [hxt] at HSP
          have hbad : badO n f m = if metB f m x then 8 else 0 := by unfold badO; rw [if_neg hx, hxt]
          have hxn : x < n := by omega
          rw [hxe] at hc h1 h3
          have hcx := ro.cell (bools_get (metB f m) hxn)
          have hfx := ro.frozen x
          cases hmet : metB f m x with
          | true =>
            have HV : Hid (ordE n f = 8) := by
              have h3 : firstE (badO n f) (m + 1) = 8 := by rw [HST.out, hbad, hmet]; rfl
              rw [Hid, HR.out, firstE_keep _ (m + 1) (by rw [h3]; decide) n (by omega), h3]
            rw [hmet] at hcx
            clear hx hbad hxe hxt
            go_wp2
            go_ret
            exact ⟨ret_int HV.out.symm, hb⟩
          | false =>
            have HN : Hid (firstE (badO n f) (m + 1) = 0) := by rw [Hid, HST.out, hbad, hmet]; rfl
            rw [hmet] at hcx
            have ro2 : RowAt (wr.setCell ⟨w.heap.size, x, none⟩ (.bool true)) w.heap.size 4 (bools n (metB f (m + 1))) := by
              have := ro.set x (.bool true)
              rw [bools_set, HSP.out] at this
              exact this
            clear hx hbad hxe hxt
            go_wp2
            exact ⟨⟨m + 1, by omega, by go_num, HN, ro2, hb.setCell (by simp) _⟩, by simp [intOf]; omega⟩
      · have HE : Hid (ordE n f = 0) := by
          rw [Hid, HR.out]
          obtain rfl : m = n := by omega
          exact HS.out
        go_wp2
        go_ret
        exact ⟨ret_int HE.out.symm, hb⟩
/-- How often x is among the first k numbers, as long as none came again. -/
def metI (f : Nat → Int) (k x : Nat) : Int := if metB f k x then 1 else 0
theorem metI_step (f : Nat → Int) (k : Nat) (h : 0 ≤ f k) : upd (metI f k) (f k).toNat 1 = metI f (k + 1) := by
  funext x
  have := congrFun (metB_step f k h) x
  unfold metI
  rw [← this]
  by_cases e : x = (f k).toNat
  · rw [e, upd_same, upd_same]; rfl
  · rw [upd_other _ _ e, upd_other _ _ e]
set_option maxHeartbeats 1000000 in
theorem rwrong_any (v : Value) (n : Nat) (f : Nat → Int) (w : World) (hv : NumsAt w v n f) :
    Calls Try.prog 16 #[v] w fun e w' => e = .returned (.int .i64 (ordE n f)) ∧ Below w.heap.size w w' := by
  by_cases h : 65536 < n
  · have HR : Hid (ordE n f = 5) := by rw [Hid]; unfold ordE; rw [if_pos h]
    obtain ⟨a, cap, rfl, _⟩ := hv.len
    have h2 : (65536 : Int) < (n : Int) := by omega
    clear hv
    go_enter Try.func16, Try.ntmps16
    go_wp2
    go_ret
    exact ⟨ret_int HR.out.symm, Below.refl _ _⟩
  · have HR : Hid (ordE n f = firstE (badO n f) n) := by rw [Hid]; unfold ordE; rw [if_neg h]
    have h2 : ¬ (65536 : Int) < (n : Int) := by omega
    have hmk := run_make_row' (P := Try.prog) 22 3 (.int .i64 0) 8 Try.underlying22 y_info_int rfl .i64 .i64 n (by omega) (by omega)
    rw [y_made_tab, ints_new] at hmk
    obtain ⟨a, cap, rfl, hm, hc⟩ := hv
    have HC := (show Hid _ from hc)
    clear hc
    go_enter Try.func16, Try.ntmps16
    go_wp2
    go_loopw [14] (fun i W => ∃ m : Nat, m ≤ n ∧ i = .int .i64 m ∧ Hid (firstE (badO n f) m = 0) ∧ RowAt W w.heap.size 3 (ints n (metI f m)) ∧ Below w.heap.size w W) (fun i _ => ((n : Int) - intOf i).toNat)
    case atStart => exact ⟨0, by omega, rfl, rfl, RowAt.new w _ _, (Below.refl _ _).alloc (Nat.le_refl _) _⟩
    case round =>
      obtain ⟨m, hm, rfl, HS, ro, hb⟩ := hrel
      by_cases hlt : m < n
      · obtain ⟨b, o, rfl, hc0⟩ := HC.out m hlt
        have HB : Hid (b < w.heap.size) := cell_block hc0
        have hc := (hb.cell (p := ⟨b, o + m, none⟩) HB.out).trans hc0
        clear hc0
        have HST := (show Hid _ from firstE_step _ m HS.out)
        by_cases hx : f m < 0 ∨ (n : Int) ≤ f m
        · have HV : Hid (ordE n f = 3) := by
            have h3 : firstE (badO n f) (m + 1) = 3 := by rw [HST.out]; unfold badO; rw [if_pos hx]
            rw [Hid, HR.out, firstE_keep _ (m + 1) (by rw [h3]; decide) n (by omega), h3]
          rcases hx with hx | hx
          · go_wp2
            go_ret
            exact ⟨ret_int HV.out.symm, hb⟩
          · have hx0 : ¬ f m < 0 := by omega
            go_wp2
            go_ret
            exact ⟨ret_int HV.out.symm, hb⟩
        · have h1 : ¬ f m < 0 := by omega
          have h3 : ¬ (n : Int) ≤ f m := by omega
          have HSP : Hid (upd (metI f m) (f m).toNat 1 = metI f (m + 1)) := metI_step f m (by omega)
          obtain ⟨x, hxe⟩ : ∃ x : Nat, f m = x := ⟨(f m).toNat, by omega⟩
          have hxt : (f m).toNat = x := by omega
          rw [hxt] at HSP
          have hbad : badO n f m = if metB f m x then 8 else 0 := by unfold badO; rw [if_neg hx, hxt]
          have hxn : x < n := by omega
          rw [hxe] at hc h1 h3
          have hcx := ro.cell (ints_get (metI f m) hxn)
          have hfx := ro.frozen x
          cases hmet : metB f m x with
          | true =>
            have HV : Hid (ordE n f = 8) := by
              have h3 : firstE (badO n f) (m + 1) = 8 := by rw [HST.out, hbad, hmet]; rfl
              rw [Hid, HR.out, firstE_keep _ (m + 1) (by rw [h3]; decide) n (by omega), h3]
            rw [show metI f m x = 1 by unfold metI; rw [hmet]; rfl] at hcx
            have hcx2 := World.cell?_setCell_same wr ⟨w.heap.size, x, none⟩ (.int .i64 2) hcx
            have hco2 := (World.cell?_setCell_other wr ⟨w.heap.size, x, none⟩ ⟨b, o + m, none⟩ (.int .i64 2) (by have := HB.out; simp <;> omega)).trans hc
            have hbb := hb.setCell (p := ⟨w.heap.size, x, none⟩) (by simp) (.int .i64 2)
            clear hx hbad hxe hxt
            go_wp2
            go_ret
            exact ⟨ret_int HV.out.symm, hbb⟩
          | false =>
            have HN : Hid (firstE (badO n f) (m + 1) = 0) := by rw [Hid, HST.out, hbad, hmet]; rfl
            rw [show metI f m x = 0 by unfold metI; rw [hmet]; rfl] at hcx
            have hcx2 := World.cell?_setCell_same wr ⟨w.heap.size, x, none⟩ (.int .i64 1) hcx
            have ro2 : RowAt (wr.setCell ⟨w.heap.size, x, none⟩ (.int .i64 1)) w.heap.size 3 (ints n (metI f (m + 1))) := by
              have := ro.set x (.int .i64 1)
              rw [ints_set, HSP.out] at this
              exact this
            have hbb := hb.setCell (p := ⟨w.heap.size, x, none⟩) (by simp) (.int .i64 1)
            clear hx hbad hxe hxt
            go_wp2
            exact ⟨⟨m + 1, by omega, by go_num, HN, ro2, hbb⟩, by simp [intOf]; omega⟩
      · have HE : Hid (ordE n f = 0) := by
          rw [Hid, HR.out]
          obtain rfl : m = n := by omega
          exact HS.out
        go_wp2
        go_ret
        exact ⟨ret_int HE.out.symm, hb⟩
end Go.Proofs.Ytennpknkcaeafac
