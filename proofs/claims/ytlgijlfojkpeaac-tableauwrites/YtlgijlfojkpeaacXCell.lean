/-
  Contracts of the document's Look, Cell and Row.
-/
import Derived.Test.YtlgijlfojkpeaacVKit
import Derived.Test.YtlgijlfojkpeaacVFor
import Derived.RegionTactic
namespace Go.Proofs.Ytlgijlfojkpeaac
open Go.RowKit PK Vg

set_option maxRecDepth 100000 in
set_option maxHeartbeats 1000000 in
theorem cell_any (k : Nat) (t c : UInt8) (ht : 65 ≤ t.toNat ∧ t.toNat ≤ 90) (hc : 65 ≤ c.toNat ∧ c.toNat ≤ 90) (w : World) : Calls Try.prog 54 #[.int .i64 (k : Nat), .int .u8 t.toNat, .int .u8 c.toNat] w fun e w' => e = .returned (.int .u8 (ltr (there k (num t) (num c))).toNat) ∧ w = w' := by
  have ha := num_lt ht
  have hb := num_lt hc
  have e1 : ((num t : Nat) : Int) = (t.toNat : Int) - 65 := by unfold num; omega
  have e2 : ((num c : Nat) : Int) = (c.toNat : Int) - 65 := by unfold num; omega
  have e3 := ltr_toNat (there_lt k (num t) (num c))
  rw [e3]
  have HV : Hid (there k (num t) (num c) = if k = 2 then (num c + 26 - num t) % 26 else if k = 3 then (num t + 26 - num c) % 26 else (num t + num c) % 26) := rfl
  generalize num t = a at *
  generalize num c = b at *
  generalize t.toNat = x at *
  generalize c.toNat = y at *
  have H1 : Hid (((a : Nat) : Int) = (x : Int) - 65) := e1
  have H2 : Hid (((b : Nat) : Int) = (y : Int) - 65) := e2
  obtain ⟨h1, h2⟩ := ht
  obtain ⟨h3, h4⟩ := hc
  clear e1 e2 e3
  by_cases k2 : k = 2
  · subst k2
    rw [if_pos rfl] at HV
    go_enter Try.func54, Try.ntmps54
    go_wp2
    go_ret
    refine ⟨ret_int ?_, rfl⟩
    have := H1.out
    have := H2.out
    have := HV.out
    omega
  · have k22 : ((k : Int) == 2) = false := beq_false_of_ne (by omega)
    rw [if_neg k2] at HV
    by_cases k3 : k = 3
    · subst k3
      rw [if_pos rfl] at HV
      go_enter Try.func54, Try.ntmps54
      go_wp2
      go_ret
      refine ⟨ret_int ?_, rfl⟩
      have := H1.out
      have := H2.out
      have := HV.out
      omega
    · have k33 : ((k : Int) == 3) = false := beq_false_of_ne (by omega)
      rw [if_neg k3] at HV
      go_enter Try.func54, Try.ntmps54
      go_wp2
      go_ret
      refine ⟨ret_int ?_, rfl⟩
      have := H1.out
      have := H2.out
      have := HV.out
      omega
/-- The first letter that becomes c. -/
theorem row_first (k : Nat) (c b : Nat) (hc : c < 26) (hb : b < 26) (a : Nat) (ha : a < 26) : there k a b = c ↔ a = back k c b := by
  constructor
  · intro e; rw [← e, back_there k ha hb]
  · intro e; rw [e, there_back k hc hb]
set_option maxRecDepth 100000 in
set_option maxHeartbeats 1000000 in
theorem row_any (k : Nat) (c b : UInt8) (hc : 65 ≤ c.toNat ∧ c.toNat ≤ 90) (hb : 65 ≤ b.toNat ∧ b.toNat ≤ 90) (w : World) : Calls Try.prog 55 #[.int .i64 (k : Nat), .int .u8 c.toNat, .int .u8 b.toNat] w fun e w' => e = .returned (.int .u8 (ltr (back k (num c) (num b))).toNat) ∧ w = w' := by
  have hcn := num_lt hc
  have hbn := num_lt hb
  have hbk := back_lt k (num c) (num b)
  have HC := (show Hid (∀ (a : Nat), a < 26 → ∀ W, Calls Try.prog 54 #[.int .i64 (k : Nat), .int .u8 (65 + a : Nat), .int .u8 b.toNat] W fun e w' => e = .returned (.int .u8 (ltr (there k a (num b))).toNat) ∧ W = w') from fun a ha W => by
    have := cell_any k (ltr a) b (ltr_ok ha) hb W
    rw [num_ltr ha, ltr_toNat ha] at this
    exact this)
  have HE := (show Hid (∀ a, a < 26 → (there k a (num b) = num c ↔ a = back k (num c) (num b))) from fun a ha => row_first k _ _ hcn hbn a ha)
  have HL : Hid ((c.toNat : Int) = ((65 + num c : Nat) : Int)) := by rw [Hid]; unfold num; omega
  rw [ltr_toNat hbk]
  generalize back k (num c) (num b) = r at *
  have HLT := (show Hid (∀ a, a < 26 → (ltr (there k a (num b))).toNat = 65 + there k a (num b)) from fun a _ => ltr_toNat (there_lt _ _ _))
  generalize num c = cn at *
  generalize hbb : num b = bn at *
  generalize c.toNat = cc at *
  generalize b.toNat = bb at *
  clear hbb hc hb
  go_enter Try.func55, Try.ntmps55
  go_wp2_with fail
  go_loopw [7] (fun i W => ∃ a : Nat, a ≤ 25 ∧ a ≤ r ∧ i = .int .u8 ((65 + a : Nat) : Int) ∧ w = W) (fun i _ => (100 - intOf i).toNat)
  case atStart => exact ⟨0, by omega, by omega, rfl, rfl⟩
  case round =>
    obtain ⟨a, ha, har, rfl, rfl⟩ := hrel
    by_cases hlt : a < 25
    · have h90 : (65 : Int) + (a : Int) < 90 := by omega
      have HCa := (show Hid (∀ W, Calls Try.prog 54 #[.int .i64 (k : Nat), .int .u8 (65 + (a : Int)), .int .u8 bb] W fun e w' => e = .returned (.int .u8 (ltr (there k a bn)).toNat) ∧ W = w') from HC.out a (by omega))
      rw [HLT.out a (by omega)] at HCa
      have hea := HE.out a (by omega)
      by_cases hr : a = r
      · have hth := hea.2 hr
        have HV : Hid ((65 + there k a bn : Nat) = cc) := by rw [Hid, hth]; have := HL.out; omega
        rw [HV.out] at HCa
        have HR : Hid (a = r) := hr
        clear hr hea hth
        go_wp2_with fail
        refine (HCa.out _).mono ?_
        rintro e W1 ⟨rfl, rfl⟩
        go_wp2
        go_ret
        exact ⟨by rw [← HR.out]; rfl, rfl⟩
      · have hth : ¬ there k a bn = cn := fun e => hr (hea.1 e)
        have hne : (((65 + there k a bn : Nat) : Int) == (cc : Int)) = false := beq_false_of_ne (by have := HL.out; omega)
        have hthl := there_lt k a bn
        generalize (65 + there k a bn : Nat) = z at *
        clear hth hea hthl
        go_wp2_with fail
        refine (HCa.out _).mono ?_
        rintro e W1 ⟨rfl, rfl⟩
        go_wp2
        go_roundw
        case rel => exact ⟨a + 1, by omega, by omega, by go_num, trivial⟩
        case measure => simp [intOf] <;> omega
    · obtain rfl : a = 25 := by omega
      obtain rfl : r = 25 := by omega
      go_wp2
      go_ret
      exact ⟨rfl, rfl⟩
end Go.Proofs.Ytlgijlfojkpeaac
