/-
  Contract of the document's own Print; of the statements' own same.
-/
import Derived.Test.YtlgjgppojdamiaaRPrint
namespace Go.Proofs.Ytlgjgppojdamiaa
open Go.RowKit PK

theorem wpList_cat {P : Program} {ops : Array Oper} {rest : List Oper} {op : Oper} {a : Act} {w : World} {Q : Exit → Act → World → Prop} (hgd : op.guard = none) (t t' : TypeId) (x y : Operand) (ho : op.op = .binOp .add t x y t')
    (S T : ByteArray) (hx : a.eval x = .string S) (hy : a.eval y = .string T) (hsz : S.size + T.size ≤ 9223372036854775807) (h : wpList P ops Q rest (a.put op.dst (.string (S ++ T))) w) : wpList P ops Q (op :: rest) a w :=
  wpList_plain hgd fun _ hK => by
    unfold Oper.wp execOp
    have h1 : ¬ (S.size + T.size > 9223372036854775807) := by omega
    have h2 : (eqGuard .add t x y (.string S) (.string T)).run P w = .ok () w := by simp [eqGuard]
    have h3 : (binOp .add t (.string S) (.string T)).run P w = .ok (.string (S ++ T)) w := by rw [binOp_string_add, run_string_add_if, if_neg h1]
    simp only [ho, hx, hy, Sem.run_bind, h2, h3, Result.andThen_ok]
    exact hK _ _ h
theorem wrAll_cycs (p : Nat → Nat) (k : Nat) : wrAll (Pm.cycs p (k + 1)) = if Pm.met p k k = true then wrAll (Pm.cycs p k) else if 1 < Pm.len p k then wrAll (Pm.cycs p k) ++ wr1 (Pm.cyc p k) else wrAll (Pm.cycs p k) := by
  rw [Pm.cycs]
  by_cases h : Pm.met p k k = true
  · rw [if_pos h, if_pos h]
  · rw [if_neg h, if_neg h, wrAll_snoc, Pm.cyc_length]
theorem wrAll_cycs_len {p : Nat → Nat} (hp : Pm.IsPerm p) (k : Nat) (hk : k ≤ 26) : (wrAll (Pm.cycs p k)).length ≤ 728 := by
  have h1 := wrAll_len (Pm.cycs p k) (fun l hl => by
    obtain ⟨i, hi, rfl, _⟩ := Pm.mem_cycs p k l hl
    rw [Pm.cyc_length]
    exact (Pm.len_is hp i (by omega)).le)
  have h2 := Pm.cycs_len p k
  omega

set_option maxRecDepth 100000 in
set_option maxHeartbeats 4000000 in
theorem rprint_ok (p : Nat → Nat) (hp : Pm.IsPerm p) (w : World) :
    Calls Try.prog 30 #[.agg (ints 26 (Pm.up p))] w fun e w' => e = .returned (.tuple #[.string ⟨(wrAll (Pm.cycs p 26)).toArray⟩, .int .i64 0]) ∧ Below w.heap.size w w' := by
  have H0 : Hid (Pm.wrong (Pm.up p) = 0) := Pm.wrong_up p hp
  have HEND : Hid (∀ (S : ByteArray) (k : Nat), k = 26 → S.data.toList = wrAll (Pm.cycs p k) → Ending.returned (.tuple #[.string S, .int .i64 0]) = .returned (.tuple #[.string ⟨(wrAll (Pm.cycs p 26)).toArray⟩, .int .i64 0])) := fun S k hk hS => by
    subst hk
    rw [← hS]
  go_enter Try.func30, Try.ntmps30
  go_wp2_with (first | refine load_perm rfl _ rfl _ rfl _ (RowAt.new w _ _) ?_)
  refine (rwrong_any (Pm.up p) _).mono ?_
  rintro e W1 ⟨rfl, hb0⟩
  obtain ⟨r1, hb1, hs1⟩ := boxed1 hb0
  clear hb0
  rw [H0.out]
  clear H0
  go_wp2
  go_loopw [5, 6] (fun s i W => ∃ (k : Nat) (S : ByteArray), k ≤ 26 ∧ i = .int .i64 k ∧ s = .string S ∧ Hid (S.data.toList = wrAll (Pm.cycs p k)) ∧ S.size ≤ 728 ∧ RowAt W w.heap.size 35 (ints 26 (Pm.up p)) ∧ Below w.heap.size w W) (fun _ i _ => (26 - intOf i).toNat)
  case atStart => exact ⟨0, ⟨#[]⟩, by omega, rfl, rfl, rfl, by decide, r1, hb1⟩
  case round =>
    clear r1 hb1 hs1
    obtain ⟨k, S, hk, rfl, rfl, HS, hSz, hrp, hb⟩ := hrel
    have hsz := hrp.lt
    by_cases hlt : k < 26
    · have HF : Hid (∀ W, Calls Try.prog 52 #[.agg (ints 26 (Pm.up p)), .int .i64 (k : Nat)] W fun e w' => e = .returned (.bool (!Pm.met p k k)) ∧ Below W.heap.size W w') := fun W => rfirst_any p hp k hlt W
      have HW : Hid (wrAll (Pm.cycs p (k + 1)) = if Pm.met p k k = true then wrAll (Pm.cycs p k) else if 1 < Pm.len p k then wrAll (Pm.cycs p k) ++ wr1 (Pm.cyc p k) else wrAll (Pm.cycs p k)) := wrAll_cycs p k
      have HWL := wrAll_cycs_len hp (k + 1) (by omega)
      have hlen := Pm.len_is hp k hlt
      cases hm : Pm.met p k k
      · rw [hm] at HF
        rw [hm] at HW
        simp only [Bool.false_eq_true, if_false] at HW
        clear hm
        have hpk := hp.lt k hlt
        by_cases hfix : p k = k
        · have h1 : Pm.len p k = 1 := by
            have h2 : Pm.IsLen p k 1 := ⟨by omega, by omega, hfix, fun j a b => by omega⟩
            exact hlen.uniq h2
          rw [if_neg (by omega)] at HW
          have hfe : (((p k : Nat) : Int) == ((k : Nat) : Int)) = true := by rw [hfix]; simp
          clear hfix
          go_wp2_with (first | refine load_perm rfl _ rfl _ rfl _ hrp ?_)
          refine (HF.out _).mono ?_
          rintro e W2 ⟨rfl, hc2⟩
          have hrp2 := hrp.below hc2 hsz
          have hcc := hrp2.cell (ints_get (Pm.up p) hlt)
          simp only [Pm.up] at hcc
          go_wp2
          go_roundw
          case rel => exact ⟨k + 1, S, by omega, by go_num, rfl, by rw [Hid, HW.out]; exact HS.out, hSz, hrp2, hb.trans (hc2.mono (by omega))⟩
          case measure => simp [intOf]; omega
        · have h1 : 1 < Pm.len p k := by
            rcases Nat.lt_or_ge 1 (Pm.len p k) with c | c
            · exact c
            · have h3 : Pm.len p k = 1 := by have := hlen.pos; omega
              have := hlen.ret
              rw [h3] at this
              exact absurd this hfix
          rw [if_pos h1] at HW
          have hfe : (((p k : Nat) : Int) == ((k : Nat) : Int)) = false := by simp; omega
          clear hfix
          go_wp2_with (first | refine load_perm rfl _ rfl _ rfl _ hrp ?_)
          refine (HF.out _).mono ?_
          rintro e W2 ⟨rfl, hc2⟩
          have hrp2 := hrp.below hc2 hsz
          have hcc := hrp2.cell (ints_get (Pm.up p) hlt)
          simp only [Pm.up] at hcc
          have hb2 := hb.trans (hc2.mono (by omega))
          clear hrp hb hc2
          have HE1 : Hid ((Utf8.encode (65 + (k : Int))).size = 1) := by rw [Hid, enc_letter k hlt]; rfl
          have HE2 : Hid ((S ++ (⟨#[40]⟩ : ByteArray)).size = S.size + 1) := by rw [Hid, ByteArray.size_append]; rfl
          have HE3 : Hid ((⟨#[40]⟩ : ByteArray).size = 1) := rfl
          go_wp2_with (first | refine wpList_cat rfl _ _ _ _ rfl _ _ rfl rfl (by have := HE1.out; have := HE2.out; have := HE3.out; omega) ?_)
          go_loop [5, 7] (fun s a => ∃ (m : Nat) (S' : ByteArray), 1 ≤ m ∧ m ≤ Pm.len p k ∧ s = .string S' ∧ a = .int .i64 (Pm.iter p m k : Nat) ∧ Hid (S'.data.toList = wrAll (Pm.cycs p k) ++ 40 :: (List.range m).map fun j => lb (Pm.iter p j k)) ∧ S'.size ≤ 729 + m) (fun _ a => leftTo p k (intOf a).toNat)
          case atStart =>
            refine ⟨1, _, Nat.le_refl _, hlen.pos, rfl, rfl, ?_, ?_⟩
            · rw [Hid, cat_enc _ k hlt, cat_any, HS.out]
              simp [Pm.iter]
            · rw [enc_letter k hlt]
              simp [ByteArray.size_append]
              have : (⟨#[40]⟩ : ByteArray).size = 1 := rfl
              have h8 : (⟨#[lb k]⟩ : ByteArray).size = 1 := rfl
              omega
          case round =>
            clear hcc
            obtain ⟨m, S', hm1, hm2, rfl, rfl, HS2, hS2⟩ := hrel
            have hx := Pm.iter_lt hp k hlt m
            have hle := hlen.le
            by_cases hml : m < Pm.len p k
            · have hne := hlen.min m (by omega) hml
              have HST : Hid (Pm.iter p (m + 1) k = p (Pm.iter p m k)) := rfl
              have hbne : (((Pm.iter p m k : Nat) : Int) != ((k : Nat) : Int)) = true := by simp; omega
              have hc := hrp2.cell (ints_get (Pm.up p) hx)
              simp only [Pm.up] at hc
              have HMS : Hid (leftTo p k (Pm.iter p (m + 1) k) < leftTo p k (Pm.iter p m k)) := by
                rw [Hid, left_iter hp k hlt m hm1 hm2, left_iter hp k hlt (m + 1) (by omega) (by omega)]; omega
              have HX : Hid ((List.range (m + 1)).map (fun j => lb (Pm.iter p j k)) = (List.range m).map (fun j => lb (Pm.iter p j k)) ++ [lb (Pm.iter p m k)]) := by rw [Hid, List.range_succ, List.map_append]; rfl
              rw [HST.out] at HMS
              generalize Pm.iter p m k = x at *
              clear hne
              have HE1 : Hid ((Utf8.encode (65 + (x : Int))).size = 1) := by rw [Hid, enc_letter x hx]; rfl
              go_wp2_with (first | refine wpList_cat rfl _ _ _ _ rfl _ _ rfl rfl (by have := HE1.out; omega) ?_)
              refine ⟨⟨m + 1, _, by omega, by omega, rfl, by rw [HST.out], ?_, ?_⟩, by simpa [intOf] using HMS.out⟩
              · rw [Hid, cat_enc _ x hx, HS2.out, HX.out]
                simp
              · rw [enc_letter x hx]
                simp [ByteArray.size_append]
                have h8 : (⟨#[lb x]⟩ : ByteArray).size = 1 := rfl
                omega
            · have hmm : m = Pm.len p k := by omega
              have hret : Pm.iter p m k = k := by rw [hmm]; exact hlen.ret
              have hbe : (((Pm.iter p m k : Nat) : Int) != ((k : Nat) : Int)) = false := by rw [hret]; simp
              have HFIN : Hid ((S' ++ (⟨#[41]⟩ : ByteArray)).data.toList = wrAll (Pm.cycs p (k + 1))) := by
                rw [Hid, HW.out, cat_any, HS2.out, hmm]
                simp [wr1, Pm.cyc]
              clear hret hmm
              have HE3 : Hid ((⟨#[41]⟩ : ByteArray).size = 1) := rfl
              go_wp2_with (first | refine wpList_cat rfl _ _ _ _ rfl _ _ rfl rfl (by have := HE3.out; omega) ?_)
              refine ⟨⟨k + 1, _, by omega, by go_num, rfl, HFIN, ?_, hrp2, hb2⟩, by simp [intOf]; omega⟩
              have h9 : (S' ++ (⟨#[41]⟩ : ByteArray)).size = (S' ++ (⟨#[41]⟩ : ByteArray)).data.toList.length := rfl
              rw [h9, HFIN.out]
              exact HWL
      · rw [hm] at HF
        rw [hm] at HW
        simp only [if_true] at HW
        clear hm
        go_wp2_with (first | refine load_perm rfl _ rfl _ rfl _ hrp ?_)
        refine (HF.out _).mono ?_
        rintro e W2 ⟨rfl, hc2⟩
        go_wp2
        go_roundw
        case rel => exact ⟨k + 1, S, by omega, by go_num, rfl, by rw [Hid, HW.out]; exact HS.out, hSz, hrp.below hc2 hsz, hb.trans (hc2.mono (by omega))⟩
        case measure => simp [intOf]; omega
    · have HK : Hid (k = 26) := by rw [Hid]; omega
      go_wp2
      go_ret2
      exact ⟨HEND.out S k HK.out HS.out, hb⟩
end Go.Proofs.Ytlgjgppojdamiaa
