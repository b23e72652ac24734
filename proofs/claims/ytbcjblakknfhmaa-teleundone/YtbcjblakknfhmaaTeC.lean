/-
  What Wrong, Key, Write and Delta must answer (chapter 13), and that the document's and tele's do.
-/
import Derived.Test.YtbcjblakknfhmaaTeSa
import Derived.Test.YtbcjblakknfhmaaTeWt
import Derived.Test.YtbcjblakknfhmaaTpWt
namespace Go.Proofs.Ytbcjblakknfhmaa
open Go.RowKit PK Tl

def PTWr (F : FuncId) : Prop := ∀ (v : Value) (T : Te) (w : World), TeAt w v T → Calls Try.prog F #[v] w fun e w' => e = .returned (.int .i64 (teE T)) ∧ Below w.heap.size w w'
def PTKy (F : FuncId) : Prop := ∀ (v : Value) (T : Te) (n : Int) (w : World), TeAt w v T → Calls Try.prog F #[v, .int .i64 n] w fun e w' => ∃ v', e = .returned (.tuple #[v', .int .i64 (kyE T n)]) ∧ NumsAt w' v' (rl (kyE T n) n.toNat) (fun i => ((keyN T i : Nat) : Int)) ∧ Below w.heap.size w w'
def PTWt (F : FuncId) : Prop := ∀ (v vt : Value) (T : Te) (n : Nat) (f : Nat → Int) (w : World), TeAt w v T → NumsAt w vt n f → Calls Try.prog F #[v, vt] w fun e w' => ∃ v', e = .returned (.tuple #[v', .int .i64 (twE T n f)]) ∧ NumsAt w' v' (rl (twE T n f) n) (wrN T f) ∧ Below w.heap.size w w'
def PTDe (F : FuncId) : Prop := ∀ (vt : Value) (n : Nat) (f : Nat → Int) (w : World), NumsAt w vt n f → Calls Try.prog F #[vt] w fun e w' => ∃ v', e = .returned (.tuple #[v', .int .i64 (faE n f)]) ∧ NumsAt w' v' (rl (faE n f) (n - 1)) (dlN f) ∧ Below w.heap.size w w'
theorem rl_zero (n : Nat) : rl 0 n = n := if_pos rfl
theorem nums_none {w : World} {E : Int} (hE : E ≠ 0) (n : Nat) (f : Nat → Int) : NumsAt w (.slice none 0 0) (rl E n) f := by
  unfold rl
  rw [if_neg hE]
  exact ⟨none, 0, rfl, by decide, fun c hc => by omega⟩
theorem ref_twr : PTWr 9 := rtw_any
theorem tele_twr : PTWr 8 := ptw_any
theorem ref_tky : PTKy 11 := fun v T n w hd => by
  by_cases hE : kyE T n = 0
  · obtain ⟨h1, h2, h3⟩ := kyE_zero hE
    have hnn : n = ((n.toNat : Nat) : Int) := by omega
    have := rky_ok v T h1 n.toNat (by omega) w hd
    rw [← hnn] at this
    refine this.mono ?_
    rintro e w' ⟨v', h4, h5, h6⟩
    refine ⟨v', by rw [h4, hE], ?_, h6⟩
    have h7 := h5.nums
    rw [kyL_len] at h7
    rw [hE, rl_zero]
    exact h7.congr fun c hc => by rw [kyL_get T hc]
  · refine (rky_bad v T n hE w hd).mono ?_
    rintro e w' ⟨h1, h2⟩
    exact ⟨_, h1, nums_none hE _ _, h2⟩
theorem tele_tky : PTKy 10 := fun v T n w hd => by
  by_cases hE : kyE T n = 0
  · obtain ⟨h1, h2, h3⟩ := kyE_zero hE
    have hnn : n = ((n.toNat : Nat) : Int) := by omega
    have := pky_ok v T h1 n.toNat (by omega) w hd
    rw [← hnn] at this
    refine this.mono ?_
    rintro e w' ⟨g, h4, h5, _, h6⟩
    refine ⟨_, by rw [h4, hE], ?_, h6⟩
    rw [hE, rl_zero]
    exact NumsAt.of_row h5 (by unfold maxLen; omega)
  · refine (pky_bad v T n hE w hd).mono ?_
    rintro e w' ⟨h1, h2⟩
    exact ⟨_, h1, nums_none hE _ _, h2⟩
theorem ref_twt : PTWt 14 := fun v vt T n f w hd ht => by
  by_cases hE : twE T n f = 0
  · obtain ⟨h1, h2⟩ := twE_zero hE
    refine (rwt_ok v vt T n f h1 h2 w hd ht).mono ?_
    rintro e w' ⟨v', h4, h5, h6⟩
    refine ⟨v', by rw [h4, hE], ?_, h6⟩
    have h7 := h5.nums
    rw [wrL_len] at h7
    rw [hE, rl_zero]
    exact h7.congr fun c hc => wrL_get T f hc
  · refine (rwt_bad v vt T n f hE w hd ht).mono ?_
    rintro e w' ⟨h1, h2⟩
    exact ⟨_, h1, nums_none hE _ _, h2⟩
theorem tele_twt : PTWt 13 := fun v vt T n f w hd ht => by
  by_cases hE : twE T n f = 0
  · obtain ⟨h1, h2⟩ := twE_zero hE
    refine (pwt_ok v vt T n f h1 h2 w hd ht).mono ?_
    rintro e w' ⟨g, h4, h5, h6⟩
    refine ⟨_, by rw [h4, hE], ?_, h6⟩
    rw [hE, rl_zero]
    exact NumsAt.of_row h5 (by have := (faE_zero h2).1; unfold maxLen; omega)
  · refine (pwt_bad v vt T n f hE w hd ht).mono ?_
    rintro e w' ⟨h1, h2⟩
    exact ⟨_, h1, nums_none hE _ _, h2⟩
theorem ref_tde : PTDe 16 := fun vt n f w ht => by
  by_cases hE : faE n f = 0
  · refine (rdl_ok vt n f hE w ht).mono ?_
    rintro e w' ⟨v', h4, h5, h6⟩
    refine ⟨v', by rw [h4, hE], ?_, h6⟩
    have h7 := h5.nums
    rw [dlL_len] at h7
    rw [hE, rl_zero]
    exact h7.congr fun c hc => dlL_get f hc
  · refine (rdl_bad vt n f hE w ht).mono ?_
    rintro e w' ⟨h1, h2⟩
    exact ⟨_, h1, nums_none hE _ _, h2⟩
theorem tele_tde : PTDe 15 := fun vt n f w ht => by
  by_cases hE : faE n f = 0
  · refine (pdl_ok vt n f hE w ht).mono ?_
    rintro e w' ⟨g, h4, h5, h6⟩
    refine ⟨_, by rw [h4, hE], ?_, h6⟩
    rw [hE, rl_zero]
    exact NumsAt.of_row h5 (by have := (faE_zero hE).1; unfold maxLen; omega)
  · refine (pdl_bad vt n f hE w ht).mono ?_
    rintro e w' ⟨h1, h2⟩
    exact ⟨_, h1, nums_none hE _ _, h2⟩
theorem smB_self (n : Nat) (f : Nat → Int) : smB n n f f = true := smB_iff.2 ⟨rfl, fun _ _ => rfl⟩
set_option maxRecDepth 100000 in
set_option maxHeartbeats 4000000 in
theorem alive13 (w : World) : Calls Try.prog 19 #[] w fun e w' => e = .returned (.bool true) ∧ Below w.heap.size w w' := by
  have hr1 : RowAt (w.alloc (.cells #[.int .i64 3, .int .i64 5] 3)) w.heap.size 3 (ints 2 fun i => if i = 0 then 3 else 5) := RowAt.new w _ _
  have hbe := (Below.refl w.heap.size w).alloc (Nat.le_refl _) (.cells #[.int .i64 3, .int .i64 5] 3)
  go_enter Try.func19, Try.ntmps19
  go_wp2_with fail
  generalize w.alloc (.cells #[.int .i64 3, .int .i64 5] 3) = W0 at *
  have hE : faE 2 (fun i => if i = 0 then 3 else 5) = 0 := faE_ok (by decide) (fun c hc => by show 0 ≤ (if c = 0 then (3 : Int) else 5) ∧ (if c = 0 then (3 : Int) else 5) ≤ 31; split <;> omega)
  refine (tele_tde _ 2 (fun i => if i = 0 then 3 else 5) W0 (NumsAt.of_row hr1 (by decide))).mono ?_
  rintro e W1 ⟨v', rfl, hv, hb⟩
  rw [hE]
  rw [hE, rl_zero] at hv
  obtain ⟨bb, o, cap, rfl, _, hc⟩ := hv.form (by decide)
  have h0 := hc 0 (by decide)
  have hd0 : dlN (fun i => if i = 0 then 3 else 5) 0 = 6 := by decide
  rw [hd0, Nat.add_zero] at h0
  have HB := (show Hid (Below w.heap.size w W1) from hbe.trans (hb.mono hbe.size))
  clear hb hbe hr1 hv hc hE hd0
  go_wp2
  go_ret
  exact ⟨by first | rfl | simp, HB.out⟩
end Go.Proofs.Ytbcjblakknfhmaa
