/-
  What Write makes of a text: plain mathematics. The closure of hill.Write.
-/
import Derived.Test.YtlgjgppojdamiabWSmall
import Derived.Test.YtlgjgppojdamiabTRefCheck
namespace Go.Proofs.Ytlgjgppojdamiab
open Go.RowKit PK

/-- The number that place i becomes. -/
def encN (n : Nat) (Z : Nat → Nat → Int) (full : List UInt8) (i : Nat) : Int := sumTo (Z (i % n)) (fun k => num (full.getD (i - i % n + k) 0)) n % 26
/-- The letters of the first m places. -/
def encL (n : Nat) (Z : Nat → Nat → Int) (full : List UInt8) (m : Nat) : List UInt8 := (List.range m).map fun i => UInt8.ofNat (65 + (encN n Z full i).toNat)
theorem encN_bound (n : Nat) (Z : Nat → Nat → Int) (full : List UInt8) (i : Nat) : 0 ≤ encN n Z full i ∧ encN n Z full i < 26 := ⟨Int.emod_nonneg _ (by decide), Int.emod_lt_of_pos _ (by decide)⟩
theorem encL_step (n : Nat) (Z : Nat → Nat → Int) (full : List UInt8) (m : Nat) : encL n Z full (m + 1) = encL n Z full m ++ [UInt8.ofNat (65 + (encN n Z full m).toNat)] := by unfold encL; rw [List.range_succ, List.map_append]; rfl
theorem encL_length (n : Nat) (Z : Nat → Nat → Int) (full : List UInt8) (m : Nat) : (encL n Z full m).length = m := by simp [encL]
theorem fullL_length (n : Nat) (h : 1 ≤ n) (t : List UInt8) : (fullL n t).length % n = 0 ∧ t.length ≤ (fullL n t).length ∧ (fullL n t).length < t.length + n := by
  have e : (fullL n t).length = t.length + (n - t.length % n) % n := by simp [fullL]
  have h1 : t.length % n < n := Nat.mod_lt _ (by omega)
  have h2 : (n - t.length % n) % n < n := Nat.mod_lt _ (by omega)
  refine ⟨?_, by omega, by omega⟩
  rw [e]
  by_cases h0 : t.length % n = 0
  · rw [h0, Nat.sub_zero, Nat.mod_self, Nat.add_zero]; exact h0
  · rw [Nat.mod_eq_of_lt (show n - t.length % n < n by omega)]
    have := Nat.div_add_mod t.length n
    have e2 : t.length + (n - t.length % n) = n * (t.length / n + 1) := by rw [Nat.mul_add]; omega
    rw [e2]
    exact Nat.mul_mod_right _ _
theorem lets_full (n : Nat) (t : List UInt8) (h : Pl.Lets t) : Pl.Lets (fullL n t) := fun c hc => by
  rcases List.mem_append.1 hc with h1 | h1
  · exact h c h1
  · rw [(List.mem_replicate.1 h1).2]; decide
theorem num_bound {l : List UInt8} (h : Pl.Lets l) (i : Nat) (hi : i < l.length) : (0 ≤ num (l.getD i 0) ∧ num (l.getD i 0) < 26) ∧ 65 ≤ (l.getD i 0).toNat ∧ (l.getD i 0).toNat ≤ 90 := by
  have hm : l.getD i 0 ∈ l := by
    have : l[i]? = some (l.getD i 0) := by simp [List.getD, List.getElem?_eq_getElem hi]
    exact List.mem_of_getElem? this
  have := of_decide_eq_true (show decide _ = true from h _ hm)
  unfold num
  omega
/-- What Check says. -/
def ckE (t : List UInt8) : Int := if 65536 < t.length then 4 else Pl.chkE t
def ckAt (t : List UInt8) : Int := if 65536 < t.length then 0 else Pl.chkAt t
theorem check_all (s : ByteArray) (w : World) : Calls Try.prog 53 #[.string s] w fun e w' => e = .returned (.agg #[.int .i64 (ckE s.data.toList), .int .i64 (ckAt s.data.toList)]) ∧ Below w.heap.size w w' := by
  unfold ckE ckAt
  have hl := Pl.size_len s
  by_cases h : 65536 < s.size
  · rw [if_pos (by omega), if_pos (by omega)]; exact check_much s w h
  · rw [if_neg (by omega), if_neg (by omega)]; exact check_ok s w (by omega)
theorem rcheck_all (s : ByteArray) (w : World) : Calls Try.prog 58 #[.string s] w fun e w' => e = .returned (.agg #[.int .i64 (ckE s.data.toList), .int .i64 (ckAt s.data.toList)]) ∧ Below w.heap.size w w' := by
  unfold ckE ckAt
  have hl := Pl.size_len s
  by_cases h : 65536 < s.size
  · rw [if_pos (by omega), if_pos (by omega)]; exact rcheck_much s w h
  · rw [if_neg (by omega), if_neg (by omega)]; exact rcheck_ok s w (by omega)
theorem ck_cases (t : List UInt8) : (ckE t = 0 ∧ ckAt t = 0 ∧ t.length ≤ 65536 ∧ Pl.Lets t) ∨ (ckE t != 0) = true := by
  unfold ckE ckAt
  by_cases h : 65536 < t.length
  · rw [if_pos h]; exact .inr rfl
  · rw [if_neg h, if_neg h]
    cases hf : t.findIdx? Pl.bad with
    | none =>
      refine .inl ⟨(chk_none t hf).1, (chk_none t hf).2, by omega, fun c hc => ?_⟩
      have := List.findIdx?_eq_none_iff.1 hf c hc
      simpa [Pl.bad] using this
    | some k => exact .inr (by rw [(chk_some t k hf).1]; rfl)
theorem getD_byte (s : ByteArray) (k : Nat) (hk : k < s.size) : s.data.toList.getD k 0 = s[k] := by
  have hk' : k < s.data.toList.length := by have := Pl.size_len s; omega
  simp only [List.getD, List.getElem?_eq_getElem hk']
  rfl
set_option maxHeartbeats 1000000 in
theorem wr1_any (s : ByteArray) (hl : Pl.Lets s.data.toList) (hs : s.size ≤ 70000) (bf ba at' : Nat) (w : World) (hbf : w.cell? ⟨bf, 0, none⟩ = some (.string s)) (hba : w.cell? ⟨ba, 0, none⟩ = some (.int .i64 (at' : Nat))) (k : Nat) (hk : at' + k < s.size) :
    Calls Try.prog 55 #[.int .i64 (k : Nat), .pointer (some ⟨bf, 0, none⟩), .pointer (some ⟨ba, 0, none⟩)] w fun e w' => e = .returned (.int .i64 (num (s.data.toList.getD (at' + k) 0))) ∧ Below w.heap.size w w' := by
  have hb := num_bound hl (at' + k) (by have := Pl.size_len s; omega)
  have HE : Hid (num (s.data.toList.getD (at' + k) 0) = (((s[at' + k]).toNat : Nat) : Int) - 65) := by rw [Hid, getD_byte s (at' + k) hk]; rfl
  have hb2 : 65 ≤ (s[at' + k]).toNat ∧ (s[at' + k]).toNat ≤ 90 := by rw [← getD_byte s (at' + k) hk]; exact hb.2
  have HN := (show Hid (∀ W, Calls Try.prog 56 #[.int .u8 (((s[at' + k]).toNat : Nat) : Int)] W fun e w' => e = .returned (.int .i64 ((((s[at' + k]).toNat : Nat) : Int) - 65)) ∧ W = w') from fun W => num_any _ hb2.1 hb2.2 W)
  have hi : ((at' : Nat) : Int) + ((k : Nat) : Int) < ((s.size : Nat) : Int) := by omega
  clear hb hb2 hl
  go_enter Try.func55, Try.ntmps55
  go_wp2_with fail
  refine Calls.mono (HN.out w) ?_
  rintro e W1 ⟨rfl, rfl⟩
  go_wp2
  go_ret
  exact ⟨ret_int HE.out.symm, Below.refl _ _⟩
end Go.Proofs.Ytlgjgppojdamiab
