/-
  Contracts of rails.misfit, put, back, Write and Read.
-/
import Derived.Test.YtennpknkcaeafacYWrong
import Derived.Test.YtennpknkcaeafacUCheck
namespace Go.Proofs.Ytennpknkcaeafac
open Go.RowKit PK

/-- What is wrong with an order and a text. -/
def fitE (n : Nat) (f : Nat → Int) (l : List UInt8) : Int := if ordE n f ≠ 0 then ordE n f else if ckE l ≠ 0 then ckE l else if n ≠ l.length then 8 else 0
theorem fitE_cases (n : Nat) (f : Nat → Int) (l : List UInt8) : (fitE n f l = 0 ∧ GoodO n f ∧ ckE l = 0 ∧ n = l.length ∧ l.length ≤ 65536 ∧ Pl.Lets l) ∨ (fitE n f l != 0) = true := by
  unfold fitE
  rcases ordE_cases n f with ⟨h1, h2⟩ | h1
  · rw [h1, if_neg (by simp)]
    rcases ck_cases l with ⟨h3, _, h4, h5⟩ | h3
    · rw [h3, if_neg (by simp)]
      by_cases h6 : n = l.length
      · rw [if_neg (by simpa using h6)]; exact .inl ⟨rfl, h2, rfl, h6, h4, h5⟩
      · rw [if_pos h6]; exact .inr rfl
    · rw [if_pos (by simpa using h3)]; exact .inr h3
  · rw [if_pos (by simpa using h1)]; exact .inr h1
set_option maxHeartbeats 1000000 in
theorem misfit_any (v : Value) (n : Nat) (f : Nat → Int) (s : ByteArray) (w : World) (hv : NumsAt w v n f) :
    Calls Try.prog 37 #[v, .string s] w fun e w' => e = .returned (.int .i64 (fitE n f s.data.toList)) ∧ Below w.heap.size w w' := by
  have HW : Hid (Calls Try.prog 15 #[v] w fun e w' => e = .returned (.int .i64 (ordE n f)) ∧ Below w.heap.size w w') := wrong_any v n f w hv
  have HCK := (show Hid (∀ W, Calls Try.prog 28 #[.string s] W fun e w' => e = .returned (.agg #[.int .i64 (ckE s.data.toList), .int .i64 (ckAt s.data.toList)]) ∧ Below W.heap.size W w') from fun W => check_all s W)
  have HF : Hid (fitE n f s.data.toList = if ordE n f ≠ 0 then ordE n f else if ckE s.data.toList ≠ 0 then ckE s.data.toList else if n ≠ s.size then 8 else 0) := by rw [Hid, Pl.size_len s]; rfl
  obtain ⟨a, cap, rfl, hm⟩ := hv.len
  generalize fitE n f s.data.toList = F at *
  generalize ordE n f = E1 at *
  generalize ckE s.data.toList = E2 at *
  generalize ckAt s.data.toList = A2 at *
  clear hv
  by_cases h1 : E1 = 0
  · subst h1
    by_cases h2 : E2 = 0
    · subst h2
      by_cases h3 : n = s.size
      · have HZ : Hid (F = 0) := by rw [Hid, HF.out]; simp [h3]
        subst h3
        go_enter Try.func37, Try.ntmps37
        go_wp2_with (first | (go_at_call 15; refine HW.out.mono ?_; rintro e W1 ⟨rfl, hb1⟩) | (go_at_call 28; refine (HCK.out _).mono ?_; rintro e W2 ⟨rfl, hb2⟩))
        go_ret
        exact ⟨ret_int HZ.out.symm, (hb1.trans (hb2.mono hb1.size)).alloc (by have := hb1.size; have := hb2.size; omega) _⟩
      · have HZ : Hid (F = 8) := by rw [Hid, HF.out]; simp [h3]
        have h4 : ((n : Int) == (s.size : Int)) = false := by simp; omega
        go_enter Try.func37, Try.ntmps37
        go_wp2_with (first | (go_at_call 15; refine HW.out.mono ?_; rintro e W1 ⟨rfl, hb1⟩) | (go_at_call 28; refine (HCK.out _).mono ?_; rintro e W2 ⟨rfl, hb2⟩))
        go_ret
        exact ⟨ret_int HZ.out.symm, (hb1.trans (hb2.mono hb1.size)).alloc (by have := hb1.size; have := hb2.size; omega) _⟩
    · have HZ : Hid (F = E2) := by rw [Hid, HF.out]; simp [h2]
      have h4 : (E2 == 0) = false := by simp; omega
      clear h2
      go_enter Try.func37, Try.ntmps37
      go_wp2_with (first | (go_at_call 15; refine HW.out.mono ?_; rintro e W1 ⟨rfl, hb1⟩) | (go_at_call 28; refine (HCK.out _).mono ?_; rintro e W2 ⟨rfl, hb2⟩))
      go_ret
      exact ⟨ret_int HZ.out.symm, (hb1.trans (hb2.mono hb1.size)).alloc (by have := hb1.size; have := hb2.size; omega) _⟩
  · have HZ : Hid (F = E1) := by rw [Hid, HF.out]; simp [h1]
    have h4 : (E1 == 0) = false := by simp; omega
    clear h1
    go_enter Try.func37, Try.ntmps37
    go_wp2_with (first | (go_at_call 15; refine HW.out.mono ?_; rintro e W1 ⟨rfl, hb1⟩))
    go_ret
    exact ⟨ret_int HZ.out.symm, hb1⟩
end Go.Proofs.Ytennpknkcaeafac
