/-
  Contracts of bombe.wrong and of the document's Wrong (chapter 10).
-/
import Derived.Test.YtigamiehnjipcaaBoRp
import Derived.Test.YtigamiehnjipcaaRoWg
import Derived.Test.YtigamiehnjipcaaORWr
import Derived.Test.YtigamiehnjipcaaJn9
namespace Go.Proofs.Ytigamiehnjipcaa
open Go.RowKit PK Vg

/-- What is wrong with a machine, a crib and what it became. -/
def bwR (G E1 E2 : Int) (c t : List UInt8) : Int := if G ≠ 0 then G else if E1 ≠ 0 then E1 else if E2 ≠ 0 then E2 else if c.length < 1 ∨ 32 < c.length then 5 else if t.length ≠ c.length then 8 else if mt t c 0 = true then 8 else 0
def bwE (g : Gm) (c t : List UInt8) : Int := bwR (gE g) (ckE c) (ckE t) c t
theorem bwE_zero {g : Gm} {c t : List UInt8} (h : bwE g c t = 0) : gE g = 0 ∧ ckE c = 0 ∧ ckE t = 0 ∧ 1 ≤ c.length ∧ c.length ≤ 32 ∧ t.length = c.length ∧ mt t c 0 = false := by
  unfold bwE bwR at h
  by_cases h1 : gE g ≠ 0
  · rw [if_pos h1] at h; exact absurd h h1
  rw [if_neg h1] at h
  by_cases h2 : ckE c ≠ 0
  · rw [if_pos h2] at h; exact absurd h h2
  rw [if_neg h2] at h
  by_cases h3 : ckE t ≠ 0
  · rw [if_pos h3] at h; exact absurd h h3
  rw [if_neg h3] at h
  by_cases h4 : c.length < 1 ∨ 32 < c.length
  · rw [if_pos h4] at h; cases h
  rw [if_neg h4] at h
  by_cases h5 : t.length ≠ c.length
  · rw [if_pos h5] at h; cases h
  rw [if_neg h5] at h
  by_cases h6 : mt t c 0 = true
  · rw [if_pos h6] at h; cases h
  simp at h1 h2 h3 h6
  exact ⟨h1, h2, h3, by omega, by omega, by omega, h6⟩
set_option maxRecDepth 100000 in
set_option maxHeartbeats 4000000 in
theorem bwrong_run (a b c : Value) (rf pl : Nat → Int) (cr te : ByteArray) (G E1 A1 E2 A2 : Int) (HB1 : Hid (E1 = 0 → cr.size ≤ 65536)) (HB2 : Hid (E2 = 0 → te.size ≤ 65536)) (w : World)
    (HW : Hid (∀ W, Below w.heap.size w W → Calls Try.prog 35 #[.agg (mac a b c rf pl)] W fun e w' => e = .returned (.int .i64 G) ∧ Below W.heap.size W w'))
    (HC : Hid (∀ W, Calls Try.prog 36 #[.string cr] W fun e w' => e = .returned (.agg #[.int .i64 E1, .int .i64 A1]) ∧ Below W.heap.size W w'))
    (HT : Hid (∀ W, Calls Try.prog 36 #[.string te] W fun e w' => e = .returned (.agg #[.int .i64 E2, .int .i64 A2]) ∧ Below W.heap.size W w')) :
    Calls Try.prog 42 #[.agg (mac a b c rf pl), .string cr, .string te] w fun e w' => e = .returned (.int .i64 (bwR G E1 E2 cr.data.toList te.data.toList)) ∧ Below w.heap.size w w' := by
  have h0 := MgAt.new w a b c rf pl
  have HS1 : Hid (cr.size = cr.data.toList.length) := Pl.size_len cr
  have HS2 : Hid (te.size = te.data.toList.length) := Pl.size_len te
  go_enter Try.func42, Try.ntmps42
  go_wp2_with (first | refine wpList_load_row rfl 27 _ rfl w.heap.size rfl 27 (mac a b c rf pl) (0, 0) _ h0.row Try.underlying27 rfl (by rw [mac_size]; exact v_info_mac) ?_)
  refine (HW.out _ h0.below).mono ?_
  rintro e W1 ⟨rfl, hb⟩
  have h1 := h0.step hb
  clear hb h0 HW
  by_cases hG : G = 0
  case neg =>
    have hGb : (G != 0) = true := by simpa using hG
    have HEQ : Hid (bwR G E1 E2 cr.data.toList te.data.toList = G) := by unfold bwR; rw [Hid, if_pos hG]
    clear hG
    go_wp2
    go_ret
    exact ⟨by rw [HEQ.out]; rfl, h1.below⟩
  subst hG
  go_wp2_with fail
  refine (HC.out _).mono ?_
  rintro e W2 ⟨rfl, hb⟩
  have h2 := FmAt.new (h1.step hb) (.int .i64 E1) (.int .i64 A1)
  have HBE := (show Hid _ from h2.mg.below)
  have c0 := h2.f.cell (i := 0) rfl
  have HM2 := (show Hid _ from h2.mg)
  clear hb h1 HC h2
  by_cases hE : E1 = 0
  case neg =>
    have hEb : (E1 != 0) = true := by simpa using hE
    have HEQ : Hid (bwR 0 E1 E2 cr.data.toList te.data.toList = E1) := by unfold bwR; rw [Hid, if_neg (fun h => h rfl), if_pos hE]
    clear hE
    go_wp2
    go_ret
    exact ⟨by rw [HEQ.out]; rfl, HBE.out⟩
  subst hE
  have hs1 := HB1.out rfl
  go_wp2_with fail
  clear c0
  refine (HT.out _).mono ?_
  rintro e W3 ⟨rfl, hb⟩
  have h3 := FmAt.new (HM2.out.step hb) (.int .i64 E2) (.int .i64 A2)
  have HBE := (show Hid _ from h3.mg.below)
  have c0 := h3.f.cell (i := 0) rfl
  clear hb HT h3 HM2
  by_cases hE : E2 = 0
  case neg =>
    have hEb : (E2 != 0) = true := by simpa using hE
    have HEQ : Hid (bwR 0 0 E2 cr.data.toList te.data.toList = E2) := by unfold bwR; rw [Hid, if_neg (fun h => h rfl), if_neg (fun h => h rfl), if_pos hE]
    clear hE
    go_wp2
    go_ret
    exact ⟨by rw [HEQ.out]; rfl, HBE.out⟩
  subst hE
  have hs2 := HB2.out rfl
  have HR0 : Hid (bwR 0 0 0 cr.data.toList te.data.toList = if cr.data.toList.length < 1 ∨ 32 < cr.data.toList.length then 5 else if te.data.toList.length ≠ cr.data.toList.length then 8 else if mt te.data.toList cr.data.toList 0 = true then 8 else 0) := by unfold bwR; rw [Hid, if_neg (fun h => h rfl), if_neg (fun h => h rfl), if_neg (fun h => h rfl)]
  obtain ⟨V, hV⟩ : ∃ x, x = W3.alloc (.cells #[.int .i64 0, .int .i64 A2] 39) := ⟨_, rfl⟩
  rw [← hV] at HBE c0
  by_cases hl : cr.size < 1 ∨ 32 < cr.size
  case pos =>
    have HEQ : Hid (bwR 0 0 0 cr.data.toList te.data.toList = 5) := by rw [Hid, HR0.out, if_pos (by rw [← HS1.out]; exact hl)]
    by_cases hl1 : cr.size < 1
    · have hl2 : (cr.size : Int) < 1 := by omega
      clear hl hl1
      go_upto_region 10 with fail
      rw [← hV]
      clear hV
      go_wp2
      go_ret
      exact ⟨by rw [HEQ.out]; rfl, HBE.out⟩
    · have hl2 : ¬ (cr.size : Int) < 1 := by omega
      have hl3 : (32 : Int) < (cr.size : Int) := by omega
      clear hl hl1
      go_upto_region 10 with fail
      rw [← hV]
      clear hV
      go_wp2
      go_ret
      exact ⟨by rw [HEQ.out]; rfl, HBE.out⟩
  have HR1 : Hid (bwR 0 0 0 cr.data.toList te.data.toList = if te.data.toList.length ≠ cr.data.toList.length then 8 else if mt te.data.toList cr.data.toList 0 = true then 8 else 0) := by rw [Hid, HR0.out, if_neg (by rw [← HS1.out]; exact hl)]
  have hl2 : ¬ (cr.size : Int) < 1 := by omega
  have hl3 : ¬ (32 : Int) < (cr.size : Int) := by omega
  have hl4 : cr.size ≤ 32 := by omega
  clear hl
  go_upto_region 10 with fail
  rw [← hV]
  clear hV
  by_cases hq : te.size = cr.size
  case neg =>
    have HEQ : Hid (bwR 0 0 0 cr.data.toList te.data.toList = 8) := by rw [Hid, HR1.out, if_pos (by rw [← HS1.out, ← HS2.out]; exact hq)]
    have hqb : (((te.size : Nat) : Int) != ((cr.size : Nat) : Int)) = true := by simp; omega
    clear hq
    go_wp2
    go_ret
    exact ⟨by rw [HEQ.out]; rfl, HBE.out⟩
  have HR2 : Hid (bwR 0 0 0 cr.data.toList te.data.toList = if mt te.data.toList cr.data.toList 0 = true then 8 else 0) := by rw [Hid, HR1.out, if_neg (by rw [← HS1.out, ← HS2.out]; exact fun h => h hq)]
  have HME := (show Hid (∀ W, Calls Try.prog 41 #[.string te, .string cr] W fun e w' => e = .returned (.bool (mt te.data.toList cr.data.toList 0)) ∧ Below W.heap.size W w') from fun W => meet_any te cr (by omega) (by omega) W)
  have hqb : (((te.size : Nat) : Int) != ((cr.size : Nat) : Int)) = false := by simp; omega
  clear hq
  go_wp2_with fail
  refine (HME.out _).mono ?_
  rintro e W4 ⟨rfl, hb⟩
  have hbe := HBE.out.trans (hb.mono HBE.out.size)
  clear hb HBE HME c0
  cases hm : mt te.data.toList cr.data.toList 0
  · have HEQ : Hid (bwR 0 0 0 cr.data.toList te.data.toList = 0) := by rw [Hid, HR2.out, hm]; rfl
    clear hm
    go_wp2
    go_ret
    exact ⟨by rw [HEQ.out]; rfl, hbe⟩
  · have HEQ : Hid (bwR 0 0 0 cr.data.toList te.data.toList = 8) := by rw [Hid, HR2.out, hm]; rfl
    clear hm
    go_wp2
    go_ret
    exact ⟨by rw [HEQ.out]; rfl, hbe⟩
theorem bwrong_any (vm : Value) (g : Gm) (cr te : ByteArray) (w : World) (hm : MacAt w vm g) : Calls Try.prog 42 #[vm, .string cr, .string te] w fun e w' => e = .returned (.int .i64 (bwE g cr.data.toList te.data.toList)) ∧ Below w.heap.size w w' := by
  have HW := fun W (hb : Below w.heap.size w W) => gw_any vm g W (hm.below hb)
  have HC := fun W => check_all cr W
  have HT := fun W => check_all te W
  obtain ⟨a, b, c, rfl, _⟩ := hm
  have hck : ∀ s : ByteArray, ckE s.data.toList = 0 → s.size ≤ 65536 := fun s hs => by
    have := Pl.size_len s
    rcases ck_cases s.data.toList with ⟨_, _, h, _⟩ | h
    · omega
    · rw [hs] at h; cases h
  exact bwrong_run a b c g.rf g.pl cr te _ _ _ _ _ (hck cr) (hck te) w HW HC HT
set_option maxRecDepth 100000 in
set_option maxHeartbeats 4000000 in
theorem brwrong_run (a b c : Value) (rf pl : Nat → Int) (cr te : ByteArray) (G E1 A1 E2 A2 : Int) (HB1 : Hid (E1 = 0 → cr.size ≤ 65536)) (HB2 : Hid (E2 = 0 → te.size ≤ 65536)) (w : World)
    (HW : Hid (∀ W, Below w.heap.size w W → Calls Try.prog 30 #[.agg (mac a b c rf pl)] W fun e w' => e = .returned (.int .i64 G) ∧ Below W.heap.size W w'))
    (HC : Hid (∀ W, Calls Try.prog 37 #[.string cr] W fun e w' => e = .returned (.agg #[.int .i64 E1, .int .i64 A1]) ∧ Below W.heap.size W w'))
    (HT : Hid (∀ W, Calls Try.prog 37 #[.string te] W fun e w' => e = .returned (.agg #[.int .i64 E2, .int .i64 A2]) ∧ Below W.heap.size W w')) :
    Calls Try.prog 45 #[.agg (mac a b c rf pl), .string cr, .string te] w fun e w' => e = .returned (.int .i64 (bwR G E1 E2 cr.data.toList te.data.toList)) ∧ Below w.heap.size w w' := by
  have h0 := MgAt.new w a b c rf pl
  have HS1 : Hid (cr.size = cr.data.toList.length) := Pl.size_len cr
  have HS2 : Hid (te.size = te.data.toList.length) := Pl.size_len te
  go_enter Try.func45, Try.ntmps45
  go_wp2_with (first | refine wpList_load_row rfl 27 _ rfl w.heap.size rfl 27 (mac a b c rf pl) (0, 0) _ h0.row Try.underlying27 rfl (by rw [mac_size]; exact v_info_mac) ?_)
  refine (HW.out _ h0.below).mono ?_
  rintro e W1 ⟨rfl, hb⟩
  have h1 := h0.step hb
  clear hb h0 HW
  by_cases hG : G = 0
  case neg =>
    have hGb : (G != 0) = true := by simpa using hG
    have HEQ : Hid (bwR G E1 E2 cr.data.toList te.data.toList = G) := by unfold bwR; rw [Hid, if_pos hG]
    clear hG
    go_wp2
    go_ret
    exact ⟨by rw [HEQ.out]; rfl, h1.below⟩
  subst hG
  go_wp2_with fail
  refine (HC.out _).mono ?_
  rintro e W2 ⟨rfl, hb⟩
  have h2 := FmAt.new (h1.step hb) (.int .i64 E1) (.int .i64 A1)
  have HBE := (show Hid _ from h2.mg.below)
  have c0 := h2.f.cell (i := 0) rfl
  have HM2 := (show Hid _ from h2.mg)
  clear hb h1 HC h2
  by_cases hE : E1 = 0
  case neg =>
    have hEb : (E1 != 0) = true := by simpa using hE
    have HEQ : Hid (bwR 0 E1 E2 cr.data.toList te.data.toList = E1) := by unfold bwR; rw [Hid, if_neg (fun h => h rfl), if_pos hE]
    clear hE
    go_wp2
    go_ret
    exact ⟨by rw [HEQ.out]; rfl, HBE.out⟩
  subst hE
  have hs1 := HB1.out rfl
  go_wp2_with fail
  clear c0
  refine (HT.out _).mono ?_
  rintro e W3 ⟨rfl, hb⟩
  have h3 := FmAt.new (HM2.out.step hb) (.int .i64 E2) (.int .i64 A2)
  have HBE := (show Hid _ from h3.mg.below)
  have c0 := h3.f.cell (i := 0) rfl
  clear hb HT h3 HM2
  by_cases hE : E2 = 0
  case neg =>
    have hEb : (E2 != 0) = true := by simpa using hE
    have HEQ : Hid (bwR 0 0 E2 cr.data.toList te.data.toList = E2) := by unfold bwR; rw [Hid, if_neg (fun h => h rfl), if_neg (fun h => h rfl), if_pos hE]
    clear hE
    go_wp2
    go_ret
    exact ⟨by rw [HEQ.out]; rfl, HBE.out⟩
  subst hE
  have hs2 := HB2.out rfl
  have HR0 : Hid (bwR 0 0 0 cr.data.toList te.data.toList = if cr.data.toList.length < 1 ∨ 32 < cr.data.toList.length then 5 else if te.data.toList.length ≠ cr.data.toList.length then 8 else if mt te.data.toList cr.data.toList 0 = true then 8 else 0) := by unfold bwR; rw [Hid, if_neg (fun h => h rfl), if_neg (fun h => h rfl), if_neg (fun h => h rfl)]
  obtain ⟨V, hV⟩ : ∃ x, x = W3.alloc (.cells #[.int .i64 0, .int .i64 A2] 39) := ⟨_, rfl⟩
  rw [← hV] at HBE c0
  by_cases hl : cr.size < 1 ∨ 32 < cr.size
  case pos =>
    have HEQ : Hid (bwR 0 0 0 cr.data.toList te.data.toList = 5) := by rw [Hid, HR0.out, if_pos (by rw [← HS1.out]; exact hl)]
    by_cases hl1 : cr.size < 1
    · have hl2 : (cr.size : Int) < 1 := by omega
      clear hl hl1
      go_upto_region 10 with fail
      rw [← hV]
      clear hV
      go_wp2
      go_ret
      exact ⟨by rw [HEQ.out]; rfl, HBE.out⟩
    · have hl2 : ¬ (cr.size : Int) < 1 := by omega
      have hl3 : (32 : Int) < (cr.size : Int) := by omega
      clear hl hl1
      go_upto_region 10 with fail
      rw [← hV]
      clear hV
      go_wp2
      go_ret
      exact ⟨by rw [HEQ.out]; rfl, HBE.out⟩
  have HR1 : Hid (bwR 0 0 0 cr.data.toList te.data.toList = if te.data.toList.length ≠ cr.data.toList.length then 8 else if mt te.data.toList cr.data.toList 0 = true then 8 else 0) := by rw [Hid, HR0.out, if_neg (by rw [← HS1.out]; exact hl)]
  have hl2 : ¬ (cr.size : Int) < 1 := by omega
  have hl3 : ¬ (32 : Int) < (cr.size : Int) := by omega
  have hl4 : cr.size ≤ 32 := by omega
  clear hl
  go_upto_region 10 with fail
  rw [← hV]
  clear hV
  by_cases hq : te.size = cr.size
  case neg =>
    have HEQ : Hid (bwR 0 0 0 cr.data.toList te.data.toList = 8) := by rw [Hid, HR1.out, if_pos (by rw [← HS1.out, ← HS2.out]; exact hq)]
    have hqb : (((cr.size : Nat) : Int) != ((te.size : Nat) : Int)) = true := by simp; omega
    clear hq
    go_wp2
    go_ret
    exact ⟨by rw [HEQ.out]; rfl, HBE.out⟩
  have HR2 : Hid (bwR 0 0 0 cr.data.toList te.data.toList = if mt te.data.toList cr.data.toList 0 = true then 8 else 0) := by rw [Hid, HR1.out, if_neg (by rw [← HS1.out, ← HS2.out]; exact fun h => h hq)]
  have hqb : (((cr.size : Nat) : Int) != ((te.size : Nat) : Int)) = false := by simp; omega
  have hcv := fun w => Lib.run_convert_string_bytes (P := Try.prog) w 9 59 5 cr Try.underlying9 Try.underlying59 Try.underlying5
  go_wp2_with fail
  have hbB : Below V.heap.size V (Lib.bytesWorld V 5 cr) := below_bytes V (Nat.le_refl _) 5 cr
  have hbeB := HBE.out.trans (hbB.mono HBE.out.size)
  generalize Lib.bytesWorld V 5 cr = V2 at *
  clear hcv hbB HBE c0 hqb
  go_loopw [46] (fun i W => ∃ k : Nat, k ≤ cr.size ∧ i = .int .i64 (k : Nat) ∧ (∀ j, j < k → te.data.toList.getD j 0 ≠ cr.data.toList.getD j 0) ∧ Below w.heap.size w W) (fun i _ => ((cr.size : Int) - intOf i).toNat)
  case atStart => exact ⟨0, by omega, rfl, fun j hj => by omega, hbeB⟩
  case round =>
    clear hbeB
    obtain ⟨k, hk, rfl, hn, hbe⟩ := hrel
    have HN := (show Hid _ from hn)
    have HBE := (show Hid _ from hbe)
    clear hn hbe
    by_cases hlt : k < cr.size
    · have HLT : Hid (k < cr.size) := hlt
      have hl1 : (k : Int) < (cr.size : Int) := by omega
      have hl5 : (k : Int) < (te.size : Int) := by omega
      have hl6 : k < te.size := by omega
      have hx := (getD_byte cr k hlt).symm
      have hy := (getD_byte te k hl6).symm
      have HNX : Hid (te.data.toList.getD k 0 ≠ cr.data.toList.getD k 0 → ∀ j, j < k + 1 → te.data.toList.getD j 0 ≠ cr.data.toList.getD j 0) := fun h j hj => by
        by_cases e : j = k
        · rw [e]; exact h
        · exact HN.out j (by omega)
      have HYES : Hid (te.data.toList.getD k 0 = cr.data.toList.getD k 0 → mt te.data.toList cr.data.toList 0 = true) := fun h => mt_true (i := k) (by rw [← HS1.out]; exact HLT.out) (by rw [Nat.zero_add]; exact h)
      generalize cr.data.toList.getD k 0 = x at *
      generalize te.data.toList.getD k 0 = y at *
      by_cases hxy : x = y
      · subst hxy
        have HT := (show Hid _ from HYES.out rfl)
        have hb : (((x.toNat : Nat) : Int) == ((x.toNat : Nat) : Int)) = true := by simp
        clear HYES HNX
        go_upto_region 17 with fail
        go_quiet (fail)
        go_wp2
        go_ret
        exact ⟨by rw [HR2.out, HT.out]; rfl, HBE.out.trans ⟨rfl, rfl, rfl, Nat.le_refl _, fun _ _ => rfl⟩⟩
      · have HNN := (show Hid _ from HNX.out (fun e => hxy e.symm))
        have hb := byte_ne hxy
        clear HYES HNX hxy
        go_upto_region 17 with fail
        go_quiet (fail)
        go_wp2
        go_roundw
        case rel => exact ⟨k + 1, HLT.out, by go_num, HNN.out, HBE.out.trans ⟨rfl, rfl, rfl, Nat.le_refl _, fun _ _ => rfl⟩⟩
        case measure => have := HLT.out; simp [intOf]; omega
    · obtain rfl : k = cr.size := by omega
      have hnn : ¬ ((cr.size : Nat) : Int) < ((cr.size : Nat) : Int) := by omega
      have HF : Hid (mt te.data.toList cr.data.toList 0 = false) := mt_false fun i hi => by rw [Nat.zero_add]; exact HN.out i (by rw [HS1.out]; exact hi)
      clear hlt
      go_wp2
      go_ret
      exact ⟨by rw [HR2.out, HF.out]; rfl, HBE.out⟩
theorem brwrong_any (vm : Value) (g : Gm) (cr te : ByteArray) (w : World) (hm : MacAt w vm g) : Calls Try.prog 45 #[vm, .string cr, .string te] w fun e w' => e = .returned (.int .i64 (bwE g cr.data.toList te.data.toList)) ∧ Below w.heap.size w w' := by
  have HW := fun W (hb : Below w.heap.size w W) => rgw_any vm g W (hm.below hb)
  have HC := fun W => rcheck_all cr W
  have HT := fun W => rcheck_all te W
  obtain ⟨a, b, c, rfl, _⟩ := hm
  have hck : ∀ s : ByteArray, ckE s.data.toList = 0 → s.size ≤ 65536 := fun s hs => by
    have := Pl.size_len s
    rcases ck_cases s.data.toList with ⟨_, _, h, _⟩ | h
    · omega
    · rw [hs] at h; cases h
  exact brwrong_run a b c g.rf g.pl cr te _ _ _ _ _ (hck cr) (hck te) w HW HC HT
end Go.Proofs.Ytigamiehnjipcaa
