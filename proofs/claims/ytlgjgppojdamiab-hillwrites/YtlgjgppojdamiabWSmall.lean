/-
  Contracts of hill.number, hill.letter, hill.filled, and of the closure of hill.Write.
-/
import Derived.Test.YtlgjgppojdamiabWRep
namespace Go.Proofs.Ytlgjgppojdamiab
open Go.RowKit PK

/-- A letter's number. -/
def num (b : UInt8) : Int := (b.toNat : Int) - 65
theorem num_any (c : Nat) (h1 : 65 ≤ c) (h2 : c ≤ 90) (w : World) : Calls Try.prog 56 #[.int .u8 (c : Nat)] w fun e w' => e = .returned (.int .i64 ((c : Int) - 65)) ∧ w = w' := by
  have hw : IntKind.u8.wrap ((c : Int) - 65) = (c : Int) - 65 := by rw [IntKind.wrap_u8]; omega
  go_enter Try.func56, Try.ntmps56
  go_wp2
  go_ret
  exact ⟨rfl, rfl⟩
theorem letter_any (n : Int) (h1 : 0 ≤ n) (h2 : n < 26) (w : World) : Calls Try.prog 57 #[.int .i64 n] w fun e w' => e = .returned (.int .u8 (65 + n)) ∧ w = w' := by
  have hw : IntKind.u8.wrap (65 + n) = 65 + n := by rw [IntKind.wrap_u8]; omega
  go_enter Try.func57, Try.ntmps57
  go_wp2
  go_ret
  exact ⟨rfl, rfl⟩
/-- Text, filled up by X till n divides its length. -/
def fullL (n : Nat) (t : List UInt8) : List UInt8 := t ++ List.replicate ((n - t.length % n) % n) 88
theorem wpList_cat {P : Program} {ops : Array Oper} {rest : List Oper} {op : Oper} {a : Act} {w : World} {Q : Exit → Act → World → Prop} (hgd : op.guard = none) (t t' : TypeId) (x y : Operand) (ho : op.op = .binOp .add t x y t')
    (S T : ByteArray) (hx : a.eval x = .string S) (hy : a.eval y = .string T) (hsz : S.size + T.size ≤ 9223372036854775807) (h : wpList P ops Q rest (a.put op.dst (.string (S ++ T))) w) : wpList P ops Q (op :: rest) a w :=
  wpList_plain hgd fun _ hK => by
    unfold Oper.wp execOp
    have h1 : ¬ (S.size + T.size > 9223372036854775807) := by omega
    have h2 : (eqGuard .add t x y (.string S) (.string T)).run P w = .ok () w := by simp [eqGuard]
    have h3 : (binOp .add t (.string S) (.string T)).run P w = .ok (.string (S ++ T)) w := by rw [binOp_string_add, run_string_add_if, if_neg h1]
    simp only [ho, hx, hy, Sem.run_bind, h2, h3, Result.andThen_ok]
    exact hK _ _ h
theorem cat_bytes (S : ByteArray) (l : List UInt8) : S ++ (⟨l.toArray⟩ : ByteArray) = ⟨(S.data.toList ++ l).toArray⟩ := by
  apply ByteArray.ext
  simp [ByteArray.data_append]
set_option maxHeartbeats 1000000 in
theorem filled_any (s : ByteArray) (hs : s.size ≤ 65536) (n : Nat) (h1 : 1 ≤ n) (h4 : n ≤ 4) (w : World) : Calls Try.prog 54 #[.string s, .int .i64 (n : Nat)] w fun e w' => e = .returned (.string ⟨(fullL n s.data.toList).toArray⟩) ∧ Below w.heap.size w w' := by
  have HL : Hid (s.size = s.data.toList.length) := Pl.size_len s
  obtain ⟨c, hc⟩ : ∃ c, c = (n - s.size % n) % n := ⟨_, rfl⟩
  have hmod : s.size % n < n := Nat.mod_lt _ (by omega)
  have hcn : c < n := by rw [hc]; exact Nat.mod_lt _ (by omega)
  have HV : Hid (fullL n s.data.toList = s.data.toList ++ List.replicate c 88) := by rw [Hid]; unfold fullL; rw [← HL.out, ← hc]
  have e1 : ((s.size : Nat) : Int) % ((n : Nat) : Int) = ((s.size % n : Nat) : Int) := by omega
  have e2 : (((n : Nat) : Int) - ((s.size % n : Nat) : Int)) % ((n : Nat) : Int) = ((c : Nat) : Int) := by
    have : ((n : Nat) : Int) - ((s.size % n : Nat) : Int) = ((n - s.size % n : Nat) : Int) := by omega
    rw [this, hc]
    omega
  obtain ⟨r, hr⟩ : ∃ r, r = s.size % n := ⟨_, rfl⟩
  rw [← hr] at e1 e2 hmod
  have hne : (((n : Nat) : Int) == 0) = false := by simp; omega
  clear hc hr
  have hns : ((⟨(List.replicate c 88).toArray⟩ : ByteArray)).size = c := by simp [ByteArray.size]
  go_enter Try.func54, Try.ntmps54
  go_wp2_with fail
  refine Calls.mono (repeatX c (by omega) w) ?_
  rintro e W1 ⟨rfl, hb⟩
  have HC : Hid (s ++ (⟨(List.replicate c 88).toArray⟩ : ByteArray) = ⟨(fullL n s.data.toList).toArray⟩) := by rw [Hid, cat_bytes, HV.out]
  obtain ⟨T, hT⟩ : ∃ T : ByteArray, T = ⟨(List.replicate c 88).toArray⟩ := ⟨_, rfl⟩
  rw [← hT] at HC hns ⊢
  clear hT
  go_wp2_with (first | refine wpList_cat rfl _ _ _ _ rfl _ _ rfl rfl (by omega) ?_)
  go_ret
  exact ⟨by rw [← HC.out]; rfl, hb⟩
end Go.Proofs.Ytlgjgppojdamiab
