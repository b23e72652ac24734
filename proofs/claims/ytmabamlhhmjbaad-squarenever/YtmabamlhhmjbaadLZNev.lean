/-
  SquareNever, walked.
-/
import Derived.Test.YtmabamlhhmjbaadLZUnd
import Derived.Deep.QuietTactic
import Derived.BigQuiet
import Derived.BigRegion
import Derived.Laws.Bits64
namespace Go.Proofs.Ytmabamlhhmjbaad
open Go.RowKit PK Vg Zq

/-- A Fault variable, and what lies below. -/
structure VAt (w W : World) (b : Nat) (E A : Int) : Prop where
  row : RowAt W b 25 #[.int .i64 E, .int .i64 A]
  below : Below w.heap.size w W
  le : w.heap.size ≤ b
theorem VAt.step {w W W' : World} {b : Nat} {E A : Int} (h : VAt w W b E A) (hb : Below W.heap.size W W') : VAt w W' b E A := ⟨h.row.below hb h.row.lt, h.below.trans (hb.mono h.below.size), h.le⟩
theorem VAt.alloc {w W : World} {b : Nat} {E A : Int} (h : VAt w W b E A) (o : Obj) : VAt w (W.alloc o) b E A := ⟨h.row.alloc o, h.below.alloc h.below.size o, h.le⟩
theorem VAt.set {w W : World} {b : Nat} {E A : Int} (h : VAt w W b E A) (E' A' : Int) : VAt w ((W.setCell ⟨b, 0, none⟩ (.int .i64 E')).setCell ⟨b, 1, none⟩ (.int .i64 A')) b E' A' :=
  ⟨(h.row.set 0 (.int .i64 E')).set 1 (.int .i64 A'), (h.below.setCell (p := ⟨b, 0, none⟩) h.le _).setCell (p := ⟨b, 1, none⟩) h.le _, h.le⟩
set_option maxRecDepth 100000 in
set_option maxHeartbeats 4000000 in
theorem znev_a (key t P R : ByteArray) (E1 A1 E2 A2 : Int) (hE : (E1 != 0) = true) (HP : Hid (∀ W, Calls Try.prog 20 #[.string t] W fun e w' => e = .returned (.tuple #[.string P, .agg #[.int .i64 E1, .int .i64 A1]]) ∧ Below W.heap.size W w')) (HW : Hid (∀ W, Calls Try.prog 22 #[.string key, .string t] W fun e w' => e = .returned (.tuple #[.string R, .agg #[.int .i64 E2, .int .i64 A2]]) ∧ Below W.heap.size W w')) (w : World) : Calls Try.prog 8 #[.string key, .string t] w fun e w' => e = .returned (.bool true) ∧ Below w.heap.size w w' := by
  have HA := (show Hid (∀ W, Calls Try.prog 26 #[] W fun e w' => e = .returned (.bool true) ∧ Below W.heap.size W w') from zalive_any)
  go_enter Try.func8, Try.ntmps8
  go_wp2_with fail
  refine (HA.out _).mono ?_
  rintro e W0 ⟨rfl, hb0⟩
  go_wp2_with fail
  refine (HP.out _).mono ?_
  rintro e W1 ⟨rfl, hb1⟩
  have v1 : VAt w (W1.alloc (.cells #[.int .i64 E1, .int .i64 A1] 25)) W1.heap.size E1 A1 := ⟨RowAt.new _ _ _, (hb0.trans (hb1.mono hb0.size)).alloc (by have := hb0.size; have := hb1.size; omega) _, by have := hb0.size; have := hb1.size; omega⟩
  clear hb0 hb1
  go_wp2_with fail
  refine (HW.out _).mono ?_
  rintro e W2 ⟨rfl, hb2⟩
  have v2 := (v1.step hb2).alloc (.cells #[.int .i64 E2, .int .i64 A2] 25)
  have c0 := v2.row.cell (i := 0) rfl
  have c1 := v2.row.cell (i := 1) rfl
  clear hb2 v1
  go_wp2
  go_ret
  exact ⟨rfl, v2.below⟩
set_option maxRecDepth 100000 in
set_option maxHeartbeats 4000000 in
theorem znev_b (key t P R : ByteArray) (E2 A2 : Int) (hE : (E2 != 0) = true) (HP : Hid (∀ W, Calls Try.prog 20 #[.string t] W fun e w' => e = .returned (.tuple #[.string P, .agg #[.int .i64 0, .int .i64 0]]) ∧ Below W.heap.size W w')) (HW : Hid (∀ W, Calls Try.prog 22 #[.string key, .string t] W fun e w' => e = .returned (.tuple #[.string R, .agg #[.int .i64 E2, .int .i64 A2]]) ∧ Below W.heap.size W w')) (w : World) : Calls Try.prog 8 #[.string key, .string t] w fun e w' => e = .returned (.bool true) ∧ Below w.heap.size w w' := by
  have HA := (show Hid (∀ W, Calls Try.prog 26 #[] W fun e w' => e = .returned (.bool true) ∧ Below W.heap.size W w') from zalive_any)
  go_enter Try.func8, Try.ntmps8
  go_wp2_with fail
  refine (HA.out _).mono ?_
  rintro e W0 ⟨rfl, hb0⟩
  go_wp2_with fail
  refine (HP.out _).mono ?_
  rintro e W1 ⟨rfl, hb1⟩
  have v1 : VAt w (W1.alloc (.cells #[.int .i64 0, .int .i64 0] 25)) W1.heap.size 0 0 := ⟨RowAt.new _ _ _, (hb0.trans (hb1.mono hb0.size)).alloc (by have := hb0.size; have := hb1.size; omega) _, by have := hb0.size; have := hb1.size; omega⟩
  clear hb0 hb1
  go_wp2_with fail
  refine (HW.out _).mono ?_
  rintro e W2 ⟨rfl, hb2⟩
  have v2 := (v1.step hb2).alloc (.cells #[.int .i64 E2, .int .i64 A2] 25)
  have c0 := v2.row.cell (i := 0) rfl
  have c1 := v2.row.cell (i := 1) rfl
  clear hb2 v1
  go_wp2
  go_ret
  exact ⟨rfl, v2.below⟩
/-- The other one of a pair. -/
def xr (i : Nat) : Nat := if i % 2 = 0 then i + 1 else i - 1
theorem xor_one (k : Nat) : k ^^^ 1 = xr k := by
  have h1 : (k ^^^ 1) / 2 = k / 2 := by rw [Nat.xor_div_two]; simp
  have h2 : (k ^^^ 1) % 2 = (k + 1) % 2 := by
    have h := Nat.xor_mod_two_pow (a := k) (b := 1) (n := 1)
    rw [Nat.pow_one] at h
    rw [h]
    rcases Nat.mod_two_eq_zero_or_one k with e | e
    · rw [e, show (0 ^^^ 1 % 2 : Nat) = 1 from rfl]; omega
    · rw [e, show (1 ^^^ 1 % 2 : Nat) = 0 from rfl]; omega
  unfold xr
  split <;> omega
theorem bits_xr (k : Nat) (h : k ≤ 1000000) : bits .xor .i64 (k : Int) 1 = ((xr k : Nat) : Int) := by
  have hx : k ^^^ 1 < 2 ^ 20 := Nat.xor_lt_two_pow (by omega) (by omega)
  have h1 : (BitVec.ofInt 64 (k : Int)).toNat = k := by
    rw [BitVec.ofInt_natCast, BitVec.toNat_ofNat]; exact Nat.mod_eq_of_lt (by omega)
  have h2 : (BitVec.ofInt 64 (1 : Int)).toNat = 1 := by decide
  show IntKind.i64.wrap ((BitVec.ofInt 64 (k : Int) ^^^ BitVec.ofInt 64 (1 : Int)).toNat : Int) = _
  rw [BitVec.toNat_xor, h1, h2, IntKind.wrap_i64, xor_one]
  rw [xor_one] at hx
  omega
theorem xr_xr (i : Nat) : xr (xr i) = i := by
  unfold xr
  by_cases h : i % 2 = 0
  · rw [if_pos h, if_neg (by omega)]; omega
  · rw [if_neg h, if_pos (by omega)]; omega
theorem xr_lt {i n : Nat} (hn : n % 2 = 0) (hi : i < n) : xr i < n := by
  unfold xr
  split <;> omega
theorem turn_at {l : List UInt8} (h : Zq.Good l) : ∀ i, i < l.length → (turn l).getD i 0 = l.getD (xr i) 0 := by
  induction h with
  | nil => intro i hi; simp at hi
  | @two a b r ha hb hab _ ih =>
    intro i hi
    match i, hi with
    | 0, _ => rfl
    | 1, _ => rfl
    | i + 2, hi =>
      have h1 := ih i (by simpa using hi)
      have e1 : (turn (a :: b :: r)).getD (i + 2) 0 = (turn r).getD i 0 := rfl
      have e2 : xr (i + 2) = xr i + 2 := by
        unfold xr
        by_cases h : i % 2 = 0
        · rw [if_pos (by omega), if_pos h]
        · rw [if_neg (by omega), if_neg h]; omega
      rw [e1, h1, e2]
      rfl
/-- What is turned, up to a place. -/
def trn (l : List UInt8) (m : Nat) : List UInt8 := (List.range m).map fun i => l.getD (xr i) 0
theorem trn_succ (l : List UInt8) (m : Nat) : trn l (m + 1) = trn l m ++ [l.getD (xr m) 0] := by unfold trn; rw [List.range_succ, List.map_append]; rfl
theorem trn_length (l : List UInt8) (m : Nat) : (trn l m).length = m := by simp [trn]
theorem trn_all {l : List UInt8} (h : Zq.Good l) : trn l l.length = turn l := by
  refine ext_getD (by rw [trn_length]; exact (twos_length _ h).symm) fun i hi => ?_
  rw [trn_length] at hi
  rw [turn_at h i hi]
  exact getD_map hi
set_option maxRecDepth 100000 in
set_option maxHeartbeats 4000000 in
theorem znev_c (key t P R Q T : ByteArray) (hsz : R.size = P.size) (hp6 : P.size ≤ 65536) (hpe : P.size % 2 = 0) (hQ : Q.data.toList = trn P.data.toList P.size) (hT : T.size = R.size)
    (hne : ∀ i, i < P.size → R.data.toList.getD i 0 ≠ P.data.toList.getD i 0 ∧ R.data.toList.getD i 0 ≠ 74) (htr : ∀ i, i < R.size → T.data.toList.getD (xr i) 0 = R.data.toList.getD i 0)
    (HP : Hid (∀ W, Calls Try.prog 20 #[.string t] W fun e w' => e = .returned (.tuple #[.string P, .agg #[.int .i64 0, .int .i64 0]]) ∧ Below W.heap.size W w')) (HW : Hid (∀ W, Calls Try.prog 22 #[.string key, .string t] W fun e w' => e = .returned (.tuple #[.string R, .agg #[.int .i64 0, .int .i64 0]]) ∧ Below W.heap.size W w')) (HP2 : Hid (∀ W, Calls Try.prog 20 #[.string Q] W fun e w' => e = .returned (.tuple #[.string Q, .agg #[.int .i64 0, .int .i64 0]]) ∧ Below W.heap.size W w')) (HW2 : Hid (∀ W, Calls Try.prog 22 #[.string key, .string Q] W fun e w' => e = .returned (.tuple #[.string T, .agg #[.int .i64 0, .int .i64 0]]) ∧ Below W.heap.size W w')) (w : World) : Calls Try.prog 8 #[.string key, .string t] w fun e w' => e = .returned (.bool true) ∧ Below w.heap.size w w' := by
  obtain ⟨i0, hi0, hz0, hz1, hz2⟩ := x_info_parts v_info_byte
  have hcv := fun w => Lib.run_convert_string_bytes (P := Try.prog) w 9 43 5 P Try.underlying9 Try.underlying43 Try.underlying5
  have HPE : Hid (P.size % 2 = 0) := hpe
  have HQ : Hid (Q.data.toList = trn P.data.toList P.size) := hQ
  have HSZ : Hid (R.size = P.size) := hsz
  have HTZ : Hid (T.size = R.size) := hT
  have hszb : (((R.size : Nat) : Int) != ((P.size : Nat) : Int)) = false := by simp; omega
  clear hpe hQ hsz hT
  have HA := (show Hid (∀ W, Calls Try.prog 26 #[] W fun e w' => e = .returned (.bool true) ∧ Below W.heap.size W w') from zalive_any)
  go_enter Try.func8, Try.ntmps8
  go_wp2_with fail
  refine (HA.out _).mono ?_
  rintro e W0 ⟨rfl, hb0⟩
  go_wp2_with fail
  refine (HP.out _).mono ?_
  rintro e W1 ⟨rfl, hb1⟩
  have v1 : VAt w (W1.alloc (.cells #[.int .i64 0, .int .i64 0] 25)) W1.heap.size 0 0 := ⟨RowAt.new _ _ _, (hb0.trans (hb1.mono hb0.size)).alloc (by have := hb0.size; have := hb1.size; omega) _, by have := hb0.size; have := hb1.size; omega⟩
  clear hb0 hb1
  go_wp2_with fail
  refine (HW.out _).mono ?_
  rintro e W2 ⟨rfl, hb2⟩
  have v2 := (v1.step hb2).alloc (.cells #[.int .i64 0, .int .i64 0] 25)
  have c0 := v2.row.cell (i := 0) rfl
  have c1 := v2.row.cell (i := 1) rfl
  clear hb2 v1
  go_wp2_with fail
  have v3 := v2.step (bytes_below (W2.alloc (.cells #[.int .i64 0, .int .i64 0] 25)) 5 P)
  obtain ⟨V, hV⟩ : ∃ V, V = Lib.bytesWorld (W2.alloc (.cells #[.int .i64 0, .int .i64 0] 25)) 5 P := ⟨_, rfl⟩
  rw [← hV] at v3
  rw [← hV]
  clear hV v2 c0 c1 hcv
  go_loopw [9, 43] (fun o i W => ∃ (k : Nat) (v : Value), k ≤ P.size ∧ i = .int .i64 (k : Nat) ∧ v = o ∧ Kit.Owns W V.heap.size 5 v (trn P.data.toList k) ∧ Below V.heap.size V W) (fun _ i _ => ((P.size : Int) - intOf i).toNat)
  case atStart => exact ⟨0, _, by omega, rfl, rfl, Kit.Owns.nil _ _ _, Below.refl _ _⟩
  case round =>
    obtain ⟨k, v, hk, rfl, rfl, hown, hbv⟩ := hrel
    have hzv := hbv.size
    by_cases hlt : k < P.size
    · have hlt2 : (k : Int) < (P.size : Int) := by omega
      have hlR : k < R.size := by rw [HSZ.out]; exact hlt
      have hlR2 : (k : Int) < (R.size : Int) := by omega
      have hip := (getD_byte P k hlt).symm
      have hir := (getD_byte R k hlR).symm
      have hn := hne k hlt
      have hx := xr_lt HPE.out hlt
      have hix := (getD_byte P (xr k) hx).symm
      have HST := (show Hid (trn P.data.toList (k + 1) = trn P.data.toList k ++ [P.data.toList.getD (xr k) 0]) from trn_succ _ _)
      generalize R.data.toList.getD k 0 = r at *
      generalize P.data.toList.getD k 0 = p at *
      generalize P.data.toList.getD (xr k) 0 = q at *
      have hn1 : ((r.toNat : Int) == (p.toNat : Int)) = false := beq_false_of_ne (fun e => hn.1 (UInt8.toNat_inj.1 (by omega)))
      have hn2 : ((r.toNat : Int) == 74) = false := by have := u8_eq (c := r) (n := 74) (by omega); rw [show ((74 : Nat) : Int) = 74 from rfl] at this; rw [this]; simpa using hn.2
      clear hn
      have hxb := bits_xr k (by omega)
      have hx0 : (0 : Int) ≤ (xr k : Int) := by omega
      have hx1 : ((xr k : Nat) : Int) < (P.size : Int) := by omega
      have HTL : Hid ((trn P.data.toList k).length = k) := trn_length _ _
      go_upto_region 13 with fail
      go_quiet (fail)
      have hownN : Kit.Owns (wr.drewN nq) V.heap.size 5 v (trn P.data.toList k) := hown
      have hbN : Below V.heap.size V (wr.drewN nq) := below_draws hbv nq
      go_wp2_with (first | (at_builtin; refine wpList_append_own _ rfl _ _ 43 rfl V.heap.size 5 i0 (.int .u8 0) 1 1 Try.underlying43 hi0 hz0 hz1 hz2 rfl (by decide) _ _ _ rfl (World.ownsRow.alloc hownN _) ⟨(wr.drewN nq).heap.size, 0, none⟩ 1 1 [.int .u8 (q.toNat : Int)] rfl rfl (cells_new _ #[.int .u8 (q.toNat : Int)] _) (fun u hu => by simp at hu; subst hu; rfl) (by have := HTL.out; unfold maxLen; omega) (by have := HTL.out; omega) (by simp; omega) ?_; intro v5 w5 hown5 hgrow5 _))
      have hbY := (hbN.alloc (by show V.heap.size ≤ wr.heap.size; omega) (.cells #[.int .u8 (q.toNat : Int)] 5)).grown hgrow5 (by simp; omega) (fun k hk => (World.ownsRow.lt hown k hk).1)
      go_roundw
      case rel =>
        refine ⟨k + 1, _, by omega, by go_num, rfl, ?_, hbY⟩
        rw [HST.out]
        unfold Kit.Owns
        rw [← v_cells_byte, List.length_append]
        exact hown5
      case measure => simp [intOf]; omega
    · obtain rfl : k = P.size := by omega
      have hst := Kit.run_string_of_own (P := Try.prog) wr 43 9 5 Try.underlying43 Try.underlying5 Try.underlying9 hown
      have hQ2 : (⟨(trn P.data.toList P.size).toArray⟩ : ByteArray) = Q := by rw [← HQ.out]
      rw [hQ2] at hst
      clear hQ2
      have v4 : VAt w wr W1.heap.size 0 0 := ⟨v3.row.below hbv v3.row.lt, v3.below.trans (hbv.mono v3.below.size), v3.le⟩
      have HOW : Hid (Kit.Owns wr V.heap.size 5 v (trn P.data.toList P.size)) := hown
      have hWV : W1.heap.size < V.heap.size := v3.row.lt
      clear v3 hown
      have c0 := v4.row.cell (i := 0) rfl
      have c1 := v4.row.cell (i := 1) rfl
      have f0 := v4.row.frozen 0
      have f1 := v4.row.frozen 1
      go_wp2_with fail
      refine (HP2.out _).mono ?_
      rintro e W3 ⟨rfl, hb3⟩
      have own3 := own_below HOW.out hb3
      have v5 := v4.step hb3
      clear hb3 v4 c0 c1 f0 f1 hst HOW
      have c0 := v5.row.cell (i := 0) rfl
      have c1 := v5.row.cell (i := 1) rfl
      have f0 := v5.row.frozen 0
      have f1 := v5.row.frozen 1
      have v6 := v5.set 0 0
      have own4 := own_set (own_set own3 ⟨W1.heap.size, 0, none⟩ (.int .i64 0) (fun k hk => by have := (own3.lt k hk).1; show k ≠ W1.heap.size; omega)) ⟨W1.heap.size, 1, none⟩ (.int .i64 0) (fun k hk => by have := (own3.lt k hk).1; show k ≠ W1.heap.size; omega)
      have hst := Kit.run_string_of_own (P := Try.prog) _ 43 9 5 Try.underlying43 Try.underlying5 Try.underlying9 own4
      have hQ2 : (⟨(trn P.data.toList P.size).toArray⟩ : ByteArray) = Q := by rw [← HQ.out]
      rw [hQ2] at hst
      clear hQ2 own3 own4 v5
      go_wp2_with fail
      refine (HW2.out _).mono ?_
      rintro e W4 ⟨rfl, hb4⟩
      have v7 := v6.step hb4
      clear hb4 v6 c0 c1 f0 f1 hst
      have c0 := v7.row.cell (i := 0) rfl
      have c1 := v7.row.cell (i := 1) rfl
      have f0 := v7.row.frozen 0
      have f1 := v7.row.frozen 1
      have v8 := v7.set 0 0
      have hszb2 : (((T.size : Nat) : Int) != ((R.size : Nat) : Int)) = false := by have := HTZ.out; simp; omega
      have hcv2 := fun w => Lib.run_convert_string_bytes (P := Try.prog) w 9 43 5 R Try.underlying9 Try.underlying43 Try.underlying5
      clear v7
      go_wp2_with fail
      have v9 := v8.step (bytes_below _ 5 R)
      clear v8 hcv2 c0 c1 f0 f1
      have hR6 : R.size ≤ 65536 := by have := HSZ.out; omega
      have HRE : Hid (R.size % 2 = 0) := by rw [Hid, HSZ.out]; exact HPE.out
      go_loopw [102] (fun i W => ∃ k : Nat, k ≤ R.size ∧ i = .int .i64 (k : Nat) ∧ Below w.heap.size w W) (fun i _ => ((R.size : Int) - intOf i).toNat)
      case atStart => exact ⟨0, by omega, rfl, v9.below⟩
      case round =>
        clear v9
        obtain ⟨k, hk, rfl, hbw⟩ := hrel
        by_cases hlt : k < R.size
        · have hlt2 : (k : Int) < (R.size : Int) := by omega
          have hxb := bits_xr k (by omega)
          have hx := xr_lt HRE.out hlt
          have hxT : xr k < T.size := by rw [HTZ.out]; exact hx
          have hx0 : (0 : Int) ≤ (xr k : Int) := by omega
          have hx1 : ((xr k : Nat) : Int) < (T.size : Int) := by omega
          have hir := (getD_byte R k hlt).symm
          have hit := (getD_byte T (xr k) hxT).symm
          rw [htr k hlt] at hit
          generalize R.data.toList.getD k 0 = r at *
          have hn1 : ((r.toNat : Int) != (r.toNat : Int)) = false := by simp
          go_upto_region 26 with fail
          go_quiet (fail)
          go_wp2_with fail
          go_roundw
          case rel => exact ⟨k + 1, by omega, by go_num, below_draws hbw _⟩
          case measure => simp [intOf]; omega
        · go_wp2
          go_ret
          exact ⟨rfl, hbw⟩
theorem znever_any (key t : ByteArray) (w : World) : Calls Try.prog 8 #[.string key, .string t] w fun e w' => e = .returned (.bool true) ∧ Below w.heap.size w w' := by
  rcases pr_cases t.data.toList with ⟨p1, p2, p3, p4, p5, p6, p7, p8, p9⟩ | p1
  · have HP : ∀ W, Calls Try.prog 20 #[.string t] W fun e w' => e = .returned (.tuple #[.string ⟨(prS t.data.toList).toArray⟩, .agg #[.int .i64 0, .int .i64 0]]) ∧ Below W.heap.size W w' := fun W => by have := zpr_any t W; rw [p1, p2] at this; exact this
    rcases wt_cases key.data.toList t.data.toList with ⟨e1, e2, hk, kl, hp, es⟩ | e1
    · have hsq := sq_laid kl
      have hl : (twos (enc (laid key.data.toList)) (prS t.data.toList)).length = (prS t.data.toList).length := twos_length _ p9
      have hg := enc_good hsq p9
      have htg := turn_good p9
      have htl : (turn (prS t.data.toList)).length = (prS t.data.toList).length := twos_length _ p9
      have hwt := enc_turn hsq p9
      have hnv := never hsq p9
      have htl2 : (turn (twos (enc (laid key.data.toList)) (prS t.data.toList))).length = (prS t.data.toList).length := by rw [← hl]; exact twos_length _ hg
      have q1 := pr_good htg (by rw [htl]; exact p8)
      have q2 := wt_good (key := key.data.toList) hk htg (by rw [htl]; exact p8)
      have hta := turn_at hg
      have hal := trn_all p9
      have HW : ∀ W, Calls Try.prog 22 #[.string key, .string t] W fun e w' => e = .returned (.tuple #[.string ⟨(twos (enc (laid key.data.toList)) (prS t.data.toList)).toArray⟩, .agg #[.int .i64 0, .int .i64 0]]) ∧ Below W.heap.size W w' := fun W => by have := zwr_any key t W; rw [e1, e2, es] at this; exact this
      refine znev_c key t ⟨(prS t.data.toList).toArray⟩ ⟨(twos (enc (laid key.data.toList)) (prS t.data.toList)).toArray⟩ ⟨(turn (prS t.data.toList)).toArray⟩ ⟨(turn (twos (enc (laid key.data.toList)) (prS t.data.toList))).toArray⟩ (by rw [ba_size, ba_size, hl]) (by rw [ba_size]; exact p8) (by rw [ba_size]; exact p9.even) (by rw [ba_size]; exact hal.symm) (by rw [ba_size, ba_size, htl2, hl]) (fun i hi => ?_) (fun i hi => ?_) HP HW (fun W => ?_) (fun W => ?_) w
      · rw [ba_size] at hi
        refine ⟨hnv i hi, fun e => ?_⟩
        have hm : (twos (enc (laid key.data.toList)) (prS t.data.toList)).getD i 0 ∈ twos (enc (laid key.data.toList)) (prS t.data.toList) := by rw [getD_some (by rw [hl]; exact hi)]; exact List.getElem_mem _
        exact (hg.nj _ hm).2 e
      · rw [ba_size] at hi
        have hx := xr_lt hg.even hi
        have := hta (xr i) hx
        rw [xr_xr] at this
        exact this
      · have := zpr_any ⟨(turn (prS t.data.toList)).toArray⟩ W
        rw [show (⟨(turn (prS t.data.toList)).toArray⟩ : ByteArray).data.toList = turn (prS t.data.toList) from rfl, q1.1, q1.2.1, q1.2.2] at this
        exact this
      · have := zwr_any key ⟨(turn (prS t.data.toList)).toArray⟩ W
        rw [show (⟨(turn (prS t.data.toList)).toArray⟩ : ByteArray).data.toList = turn (prS t.data.toList) from rfl, q2.1, q2.2.1, q2.2.2, hwt] at this
        exact this
    · exact znev_b key t _ _ _ _ e1 HP (fun W => zwr_any key t W) w
  · exact znev_a key t _ _ _ _ _ _ p1 (fun W => zpr_any t W) (fun W => zwr_any key t W) w
end Go.Proofs.Ytmabamlhhmjbaad
