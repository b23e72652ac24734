/-
  Contract of chart.Signals.
-/
import Derived.Test.YtigamiehnjipcaaChLk
import Derived.Test.YtigamiehnjipcaaORWt
namespace Go.Proofs.Ytigamiehnjipcaa
open Go.RowKit PK Vg

/-- What is wrong with the first k messages. -/
def sgK (T : Nat → ByteArray) : Nat → Int
  | 0 => 0
  | k + 1 => if sgK T k ≠ 0 then sgK T k else sgE (T k).data.toList
/-- A message's letter at a place, as a number. -/
def sgL (T : Nat → ByteArray) (i j : Nat) : Nat := num ((T j).data.toList.getD i 0)
/-- What is wrong with the links of two places. -/
def lkE (A B : Nat → Nat) (n : Nat) : Int := if ((List.range n).all fun i => decide ((lk A B (i + 1)).1 (A i) = (B i : Nat) + 1)) = true then (if ((List.range 26).any fun c => decide ((lk A B n).1 c = 0)) = true then 6 else 0) else 8
theorem lk_all (A B : Nat → Nat) (n : Nat) : ((List.range n).all fun i => decide ((lk A B (i + 1)).1 (A i) = (B i : Nat) + 1)) = true ↔ lkOk A B n := by
  rw [List.all_eq_true]
  exact ⟨fun h i hi => by simpa using h i (by simpa using hi), fun h i hi => by simpa using h i (by simpa using hi)⟩
theorem lk_zero (A B : Nat → Nat) (n : Nat) : ((List.range 26).any fun c => decide ((lk A B n).1 c = 0)) = true ↔ ∃ c, c < 26 ∧ (lk A B n).1 c = 0 := by
  rw [List.any_eq_true]
  exact ⟨fun ⟨c, hc, h⟩ => ⟨c, by simpa using hc, by simpa using h⟩, fun ⟨c, hc, h⟩ => ⟨c, by simpa using hc, by simpa using h⟩⟩
theorem lkE_fit {A B : Nat → Nat} {n : Nat} (h : ¬ lkOk A B n) : lkE A B n = 8 := by unfold lkE; rw [if_neg (fun e => h ((lk_all A B n).1 e))]
theorem lkE_none {A B : Nat → Nat} {n : Nat} (h : lkOk A B n) (hz : ∃ c, c < 26 ∧ (lk A B n).1 c = 0) : lkE A B n = 6 := by unfold lkE; rw [if_pos ((lk_all A B n).2 h), if_pos ((lk_zero A B n).2 hz)]
theorem lkE_zero {A B : Nat → Nat} {n : Nat} (h : lkOk A B n) (hz : ¬ ∃ c, c < 26 ∧ (lk A B n).1 c = 0) : lkE A B n = 0 := by unfold lkE; rw [if_pos ((lk_all A B n).2 h), if_neg (fun e => hz ((lk_zero A B n).1 e))]
/-- The links as a permutation. -/
def lkP (A B : Nat → Nat) (n : Nat) (c : Nat) : Nat := ((lk A B n).1 c - 1).toNat
def sg3 (T : Nat → ByteArray) (n : Nat) : Nat → Int
  | 0 => 0
  | k + 1 => if sg3 T n k ≠ 0 then sg3 T n k else lkE (sgL T k) (sgL T (k + 3)) n
def sgP (T : Nat → ByteArray) (n : Nat) (i : Nat) : Nat → Nat := lkP (sgL T i) (sgL T (i + 3)) n
theorem sgK_zero {T : Nat → ByteArray} : ∀ {n : Nat}, sgK T n = 0 → ∀ i, i < n → sgE (T i).data.toList = 0
  | 0, _, i, hi => by omega
  | n + 1, h, i, hi => by
    have h0 : sgK T n = 0 := by
      by_cases e : sgK T n = 0
      · exact e
      · unfold sgK at h; rw [if_pos e] at h; exact absurd h e
    unfold sgK at h
    rw [if_neg (fun e => e h0)] at h
    by_cases e : i = n
    · rw [e]; exact h
    · exact sgK_zero h0 i (by omega)
theorem two_of {t : ByteArray} (h : sgE t.data.toList = 0) {i j : Nat} (hi : i < 6) (hj : j < 6) : TwoL t i j (num (t.data.toList.getD i 0)) (num (t.data.toList.getD j 0)) := by
  unfold sgE at h
  have h1 : ckE t.data.toList = 0 := by
    by_cases e : ckE t.data.toList = 0
    · exact e
    · rw [if_pos e] at h; exact absurd h e
  rw [if_neg (fun e => e h1)] at h
  have h2 : 6 ≤ t.data.toList.length := by
    by_cases e : t.data.toList.length < 6
    · rw [if_pos e] at h; cases h
    · omega
  have hsz := Pl.size_len t
  rcases ck_cases t.data.toList with ⟨_, _, _, e4⟩ | e1
  · have hl := ls_of e4
    have one : ∀ i, i < 6 → ∃ h : i < t.size, (t[i].toNat : Int) = (num (t.data.toList.getD i 0) : Int) + 65 ∧ num (t.data.toList.getD i 0) < 26 := fun i hi => by
      have hlt : i < t.size := by omega
      have hx := hl.at (getD_size hlt)
      refine ⟨hlt, ?_, num_lt hx⟩
      rw [← getD_byte t i hlt]
      unfold num
      omega
    obtain ⟨a1, a2, a3⟩ := one i hi
    obtain ⟨b1, b2, b3⟩ := one j hj
    exact ⟨a1, b1, a2, b2, a3, b3⟩
  · rw [h1] at e1; cases e1
theorem link_any (v : Value) (n : Nat) (T : Nat → ByteArray) (i : Nat) (hi : i < 3) (hT : sgK T n = 0) (w : World) (hv : StrsAt w v n T) : Calls Try.prog 40 #[v, .int .i64 (i : Nat), .int .i64 ((i + 3 : Nat) : Int)] w fun e w' => Below w.heap.size w w' ∧ ((lkE (sgL T i) (sgL T (i + 3)) n ≠ 0 ∧ e = .returned (.tuple #[.agg (ints 26 fun _ => 0), .int .i64 (lkE (sgL T i) (sgL T (i + 3)) n)])) ∨ (lkE (sgL T i) (sgL T (i + 3)) n = 0 ∧ e = .returned (.tuple #[.agg (ints 26 (Pm.up (sgP T n i))), .int .i64 0]))) := by
  have h := linked_loop v n T i (i + 3) (sgL T i) (sgL T (i + 3)) (fun j hj => two_of (sgK_zero hT j hj) (by omega) (by omega)) w hv
  refine h.mono ?_
  rintro e w' ⟨hb, ⟨h1, rfl⟩ | ⟨h1, h2, rfl⟩ | ⟨h1, h2, rfl⟩⟩
  · have e : lkE (sgL T i) (sgL T (i + 3)) n = 8 := lkE_fit h1
    rw [e]
    exact ⟨hb, .inl ⟨by decide, rfl⟩⟩
  · have e : lkE (sgL T i) (sgL T (i + 3)) n = 6 := lkE_none h1 h2
    rw [e]
    exact ⟨hb, .inl ⟨by decide, rfl⟩⟩
  · have e : lkE (sgL T i) (sgL T (i + 3)) n = 0 := lkE_zero h1 (fun ⟨c, hc, h3⟩ => h2 c hc h3)
    have hbd := lk_bd (A := sgL T i) (B := sgL T (i + 3)) (fun j hj => (two_of (sgK_zero hT j hj) (i := i) (j := i + 3) (by omega) (by omega)).hb) n (Nat.le_refl _)
    have e2 : ints 26 (fun c => (lk (sgL T i) (sgL T (i + 3)) n).1 c - 1) = ints 26 (Pm.up (sgP T n i)) := ints_ext fun c hc => by
      have h3 := h2 c hc
      have h4 := hbd c
      show (lk (sgL T i) (sgL T (i + 3)) n).1 c - 1 = ((((lk (sgL T i) (sgL T (i + 3)) n).1 c - 1).toNat : Nat) : Int)
      omega
    rw [e, e2]
    exact ⟨hb, .inr ⟨rfl, rfl⟩⟩
/-- What Signals holds. -/
structure SgS (w W : World) (q7 : Nat) (P : Nat → Nat → Nat) (k : Nat) : Prop where
  res : RowAt W w.heap.size 29 (ints 78 fun _ => 0)
  out : RowAt W q7 29 (ints 78 (flatTo P k))
  lt : w.heap.size < q7
  below : Below w.heap.size w W
section
variable {w W W' : World} {q7 : Nat} {P : Nat → Nat → Nat} {k : Nat}
theorem SgS.step (h : SgS w W q7 P k) (hb : Below W.heap.size W W') : SgS w W' q7 P k := ⟨h.res.below hb h.res.lt, h.out.below hb h.out.lt, h.lt, h.below.trans (hb.mono h.below.size)⟩
theorem SgS.lay (h : SgS w W q7 P k) (hk : k < 3) : SgS w (W.setCells q7 (k * 26) (ints 26 (Pm.up (P k))).toList) q7 P (k + 1) := by
  have h1 := h.lt
  refine ⟨row_setCells_other (by omega) h.res, ?_, h.lt, below_setCells (by omega) h.below⟩
  have := row_setCells (o := k * 26) (l := (ints 26 (Pm.up (P k))).toList) h.out
  rw [flat_lay (n := 3) _ rfl hk] at this
  exact this
end
/-- What Signals tells. -/
def sgErr (T : Nat → ByteArray) (n : Nat) : Int := if sgK T n ≠ 0 then sgK T n else sg3 T n 3
def sgArr (T : Nat → ByteArray) (n : Nat) : Array Value := if sgErr T n ≠ 0 then ints 78 fun _ => 0 else ints 78 (flat (sgP T n))
theorem sgK_le {T : Nat → ByteArray} {k : Nat} (h : sgK T k ≠ 0) : ∀ d, sgK T (k + d) = sgK T k
  | 0 => rfl
  | d + 1 => by
    have ih := sgK_le h d
    show (if sgK T (k + d) ≠ 0 then sgK T (k + d) else sgE (T (k + d)).data.toList) = sgK T k
    rw [ih, if_pos h]
theorem sg3_le {T : Nat → ByteArray} {n k : Nat} (h : sg3 T n k ≠ 0) : ∀ d, sg3 T n (k + d) = sg3 T n k
  | 0 => rfl
  | d + 1 => by
    have ih := sg3_le h d
    show (if sg3 T n (k + d) ≠ 0 then sg3 T n (k + d) else lkE (sgL T (k + d)) (sgL T (k + d + 3)) n) = sg3 T n k
    rw [ih, if_pos h]
set_option maxRecDepth 100000 in
set_option maxHeartbeats 4000000 in
theorem signals_any (v : Value) (n : Nat) (T : Nat → ByteArray) (w : World) (hv : StrsAt w v n T) : Calls Try.prog 14 #[v] w fun e w' => e = .returned (.tuple #[.agg (sgArr T n), .int .i64 (sgErr T n)]) ∧ Below w.heap.size w w' := by
  have HV0 := (show Hid (StrsAt w v n T) from hv)
  obtain ⟨av, cv, rfl, hmv, hcv⟩ := hv
  have HCV := (show Hid (∀ i, i < n → ∃ b o, av = some ⟨b, o, none⟩ ∧ w.cell? ⟨b, o + i, none⟩ = some (.string (T i))) from hcv)
  unfold maxLen at hmv
  have hz78 := o_zero v_zero_three
  have hr0 := RowAt.new w 29 (ints 78 fun _ => 0)
  have hbe0 := (Below.refl w.heap.size w).alloc (Nat.le_refl _) (.cells (ints 78 fun _ => 0) 29)
  have HRET : Hid (∀ E : Int, E ≠ 0 → sgErr T n = E → sgArr T n = ints 78 fun _ => 0) := fun E h1 h2 => by unfold sgArr; rw [h2, if_pos h1]
  clear hcv
  go_enter Try.func14, Try.ntmps14
  go_upto_region 1 with fail
  generalize w.alloc (.cells (ints 78 fun _ => 0) 29) = W0 at *
  clear hz78
  go_wp2_with fail
  go_loopw [13] (fun i W => ∃ k : Nat, k ≤ n ∧ i = .int .i64 (k : Nat) ∧ sgK T k = 0 ∧ RowAt W w.heap.size 29 (ints 78 fun _ => 0) ∧ Below w.heap.size w W) (fun i _ => ((n : Int) - intOf i).toNat)
  case atStart => exact ⟨0, by omega, rfl, rfl, hr0, hbe0⟩
  case round =>
    clear hr0 hbe0
    obtain ⟨k, hk, rfl, hok, hrs, hbe⟩ := hrel
    by_cases hlt : k < n
    · have HLT : Hid (k < n) := hlt
      have hlt2 : (k : Int) < (n : Int) := by omega
      obtain ⟨bs, os, rfl, hcs⟩ := HCV.out k hlt
      have hcs2 := (hbe.cell (p := ⟨bs, os + k, none⟩) (cell_block hcs)).trans hcs
      have HSG : Hid (sgK T (k + 1) = sgE (T k).data.toList) := by
        show (if sgK T k ≠ 0 then sgK T k else sgE (T k).data.toList) = _
        rw [if_neg (fun e => e hok)]
      have HRS := (show Hid (RowAt wr w.heap.size 29 (ints 78 fun _ => 0)) from hrs)
      have HBE := (show Hid (Below w.heap.size w wr) from hbe)
      clear hok hcs hlt hrs hbe
      go_wp2_with fail
      refine (sig_any (T k) _).mono ?_
      rintro e W1 ⟨rfl, hb⟩
      have hrs := HRS.out.below hb HRS.out.lt
      have hbe := HBE.out.trans (hb.mono HBE.out.size)
      clear hb HRS HBE hcs2
      obtain ⟨E, hE⟩ : ∃ E, E = sgE (T k).data.toList := ⟨_, rfl⟩
      rw [← hE] at HSG ⊢
      clear hE
      by_cases h0 : E = 0
      · have h0b : (E != 0) = false := by simpa using h0
        have HK1 : Hid (sgK T (k + 1) = 0) := by rw [Hid, HSG.out]; exact h0
        have HRS := (show Hid _ from hrs)
        have HBE := (show Hid _ from hbe)
        clear h0 hrs hbe
        go_wp2
        go_roundw
        case rel => exact ⟨k + 1, HLT.out, by go_num, HK1.out, HRS.out, HBE.out⟩
        case measure => have := HLT.out; simp [intOf]; omega
      · have h0b : (E != 0) = true := by simpa using h0
        have HER : Hid (sgErr T n = E) := by
          have h1 : sgK T (k + 1) ≠ 0 := by rw [HSG.out]; exact h0
          have h2 := sgK_le h1 (n - (k + 1))
          rw [show k + 1 + (n - (k + 1)) = n by have := HLT.out; omega] at h2
          show (if sgK T n ≠ 0 then sgK T n else sg3 T n 3) = E
          rw [h2, if_pos h1, HSG.out]
        have HAR : Hid (sgArr T n = ints 78 fun _ => 0) := HRET.out E h0 HER.out
        clear h0
        go_wp2_with (first | refine wpList_build0 rfl 29 rfl (ints 78 fun _ => 0) built_three ?_ | refine wpList_store_row rfl 29 _ _ rfl w.heap.size (ints 78 fun _ => 0) rfl rfl 29 _ hrs (by rw [ints_size]; exact v_info_three) (by simp only [ints_size]) (ints_one _ _) ?_)
        exact bodyPost_ret (v := .tuple #[.agg (ints 78 fun _ => 0), .int .i64 E]) (results_cell_tmp2 rfl _ _ w.heap.size 29 _ (0, 0) _ _ rfl rfl (hrs.row _) Try.underlying29 rfl (by rw [ints_size]; exact v_info_three)) rfl ⟨by rw [HAR.out, HER.out], Below.setRow hbe _ (Nat.le_refl _) _⟩
    · obtain rfl : k = n := by omega
      have hnn : ¬ ((k : Nat) : Int) < ((k : Nat) : Int) := by omega
      have HK0 := (show Hid (sgK T k = 0) from hok)
      have HER3 : Hid (sgErr T k = sg3 T k 3) := by unfold sgErr; rw [Hid, if_neg (fun h => h HK0.out)]
      have hz78 := o_zero v_zero_three
      have hlr := hrs.lt
      clear hok hlt HCV
      go_upto_region 9 with fail
      have hg0 : SgS w (wr.alloc (.cells (ints 78 fun _ => 0) 29)) wr.heap.size (sgP T k) 0 := ⟨hrs.alloc _, by rw [flatTo_zero]; exact RowAt.new wr _ _, hlr, hbe.alloc hbe.size _⟩
      generalize wr.alloc (.cells (ints 78 fun _ => 0) 29) = V2 at *
      obtain ⟨q7, hq⟩ : ∃ x, x = wr.heap.size := ⟨_, rfl⟩
      rw [← hq] at hg0 ⊢
      clear hq hz78 hrs hbe hlr
      go_wp2_with fail
      go_loopw [24] (fun i W => ∃ j : Nat, j ≤ 3 ∧ i = .int .i64 (j : Nat) ∧ sg3 T k j = 0 ∧ SgS w W q7 (sgP T k) j) (fun i _ => ((3 : Int) - intOf i).toNat)
      case atStart => exact ⟨0, by omega, rfl, rfl, hg0⟩
      case round =>
        clear hg0
        obtain ⟨j, hj, rfl, hok, hg⟩ := hrel
        by_cases hlt : j < 3
        · have HLT : Hid (j < 3) := hlt
          have hlt2 : (j : Int) < 3 := by omega
          have HSG : Hid (sg3 T k (j + 1) = lkE (sgL T j) (sgL T (j + 3)) k) := by
            show (if sg3 T k j ≠ 0 then sg3 T k j else lkE (sgL T j) (sgL T (j + 3)) k) = _
            rw [if_neg (fun e => e hok)]
          have HLA := (show Hid (∀ W, Below w.heap.size w W → Calls Try.prog 40 #[.slice av k cv, .int .i64 (j : Nat), .int .i64 ((j : Int) + 3)] W fun e w' => Below W.heap.size W w' ∧ ((lkE (sgL T j) (sgL T (j + 3)) k ≠ 0 ∧ e = .returned (.tuple #[.agg (ints 26 fun _ => 0), .int .i64 (lkE (sgL T j) (sgL T (j + 3)) k)])) ∨ (lkE (sgL T j) (sgL T (j + 3)) k = 0 ∧ e = .returned (.tuple #[.agg (ints 26 (Pm.up (sgP T k j))), .int .i64 0])))) from fun W hb => by
            have := link_any _ k T j hlt HK0.out W (HV0.out.below hb)
            rw [show ((j + 3 : Nat) : Int) = (j : Int) + 3 by omega] at this
            exact this)
          obtain ⟨E, hE⟩ : ∃ E, E = lkE (sgL T j) (sgL T (j + 3)) k := ⟨_, rfl⟩
          rw [← hE] at HSG HLA
          have HG := (show Hid _ from hg)
          clear hE hok hlt hg
          go_wp2_with fail
          refine (HLA.out _ HG.out.below).mono ?_
          rintro e W1 ⟨hb, ⟨h0, rfl⟩ | ⟨h0, rfl⟩⟩
          · have hg2 := HG.out.step hb
            have h0b : (E != 0) = true := by simpa using h0
            have HER : Hid (sgErr T k = E) := by
              have h1 : sg3 T k (j + 1) ≠ 0 := by rw [HSG.out]; exact h0
              have h2 := sg3_le h1 (3 - (j + 1))
              rw [show j + 1 + (3 - (j + 1)) = 3 by have := HLT.out; omega] at h2
              rw [Hid, HER3.out, h2, HSG.out]
            have HAR : Hid (sgArr T k = ints 78 fun _ => 0) := HRET.out E h0 HER.out
            have hz26 := o_zero v_zero_perm
            have hl1 := hg2.res.lt
            have HRS := (show Hid (RowAt ((W1.alloc (.cells (ints 26 fun _ => 0) 25)).setRow W1.heap.size (ints 26 fun _ => 0)) w.heap.size 29 (ints 78 fun _ => 0)) from (hg2.res.alloc _).rowOther _ _ (by omega))
            have HBE := (show Hid (Below w.heap.size w ((W1.alloc (.cells (ints 26 fun _ => 0) 25)).setRow W1.heap.size (ints 26 fun _ => 0))) from Below.setRow (hg2.below.alloc hg2.below.size _) _ hg2.below.size _)
            clear h0 hb HG hg2 hl1
            go_wp2_with (first | refine wpList_store_row rfl 25 _ _ rfl W1.heap.size (ints 26 fun _ => 0) rfl rfl 25 _ (RowAt.new W1 _ _) (by rw [ints_size]; exact info_perm) (by simp only [ints_size]) (ints_one _ _) ?_ | refine wpList_build0 rfl 29 rfl (ints 78 fun _ => 0) built_three ?_ | refine wpList_store_row rfl 29 _ _ rfl w.heap.size (ints 78 fun _ => 0) rfl rfl 29 _ HRS.out (by rw [ints_size]; exact v_info_three) (by simp only [ints_size]) (ints_one _ _) ?_)
            exact bodyPost_ret (v := .tuple #[.agg (ints 78 fun _ => 0), .int .i64 E]) (results_cell_tmp2 rfl _ _ w.heap.size 29 _ (0, 0) _ _ rfl rfl (RowAt.row HRS.out _) Try.underlying29 rfl (by rw [ints_size]; exact v_info_three)) rfl ⟨by rw [HAR.out, HER.out], Below.setRow HBE.out _ (Nat.le_refl _) _⟩
          · have hg2 := HG.out.step hb
            have HK1 : Hid (sg3 T k (j + 1) = 0) := by rw [Hid, HSG.out]; exact h0
            have hz26 := o_zero v_zero_perm
            obtain ⟨AW, hAW⟩ : ∃ AW, AW = ints 26 (Pm.up (sgP T k j)) := ⟨_, rfl⟩
            have HSZ : Hid (AW.size = 26) := by rw [Hid, hAW, ints_size]
            have HON : Hid (AW.all (·.oneCell') = true) := by rw [Hid, hAW]; exact ints_one _ _
            rw [← hAW]
            have HAW := (show Hid _ from hAW)
            clear h0 hb HG hAW HLA
            go_upto_region 13 with (first | refine wpList_store_row rfl 25 _ _ rfl W1.heap.size AW rfl rfl 25 _ (RowAt.new W1 _ _) (by rw [HSZ.out]; exact info_perm) (by rw [HSZ.out, ints_size]) HON.out ?_)
            have hr9 := (RowAt.new W1 25 (ints 26 fun _ => 0)).row AW
            have hbx := Below.setRow ((Below.refl W1.heap.size W1).alloc (Nat.le_refl _) (.cells (ints 26 fun _ => 0) 25)) W1.heap.size (Nat.le_refl _) AW
            have hg3 := hg2.step hbx
            generalize (W1.alloc (.cells (ints 26 fun _ => 0) 25)).setRow W1.heap.size AW = X at *
            obtain ⟨q9, hq⟩ : ∃ x, x = W1.heap.size := ⟨_, rfl⟩
            rw [← hq] at hr9 ⊢
            have HTH := (show Hid (X.there q7 (j * 26) 26) from there_row (o := j * 26) (n := 26) hg3.out (by rw [ints_size]; have := HLT.out; omega))
            have HN : Hid (SgS w (X.setCells q7 (j * 26) AW.toList) q7 (sgP T k) (j + 1)) := by rw [HAW.out]; exact hg3.lay HLT.out
            clear hq hbx hg2 hg3 hz26
            go_wp2_with (first | refine wpList_load_row rfl 25 _ rfl q9 rfl 25 AW (0, 0) _ hr9 Try.underlying25 rfl (by rw [HSZ.out]; exact info_perm) ?_ | refine wpList_store_mid rfl 25 _ _ rfl q7 (j * 26) AW rfl rfl (by rw [HSZ.out]; exact HTH.out) (by rw [HSZ.out]; exact info_perm) HON.out ?_)
            go_roundw
            case rel => exact ⟨j + 1, HLT.out, by go_num, HK1.out, HN.out⟩
            case measure => have := HLT.out; simp [intOf]; omega
        · obtain rfl : j = 3 := by omega
          have hor := hg.out
          rw [flatTo_all _ 3 rfl] at hor
          have hrs := hg.res
          have HBE := (show Hid (Below w.heap.size w wr) from hg.below)
          have HER : Hid (sgErr T k = 0) := by rw [Hid, HER3.out]; exact hok
          have HAR : Hid (sgArr T k = ints 78 (flat (sgP T k))) := by unfold sgArr; rw [Hid, HER.out, if_neg (fun h => h rfl)]
          clear hg hlt hok
          go_wp2_with (first | refine wpList_load_row rfl 29 _ rfl q7 rfl 29 (ints 78 (flat (sgP T k))) (0, 0) _ hor Try.underlying29 rfl (by rw [ints_size]; exact v_info_three) ?_ | refine wpList_store_row rfl 29 _ _ rfl w.heap.size (ints 78 (flat (sgP T k))) rfl rfl 29 _ hrs (by rw [ints_size]; exact v_info_three) (by simp only [ints_size]) (ints_one _ _) ?_)
          exact bodyPost_ret (v := .tuple #[.agg (ints 78 (flat (sgP T k))), .int .i64 0]) (results_cell_tmp2 rfl _ _ w.heap.size 29 _ (0, 0) _ _ rfl rfl (hrs.row _) Try.underlying29 rfl (by rw [ints_size]; exact v_info_three)) rfl ⟨by rw [HAR.out, HER.out], Below.setRow HBE.out _ (Nat.le_refl _) _⟩
end Go.Proofs.Ytigamiehnjipcaa
