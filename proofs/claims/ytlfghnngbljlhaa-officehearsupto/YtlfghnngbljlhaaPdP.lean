/-
  Contracts of pad's textWrong, Write and Read (chapter 14).
-/
import Derived.Test.YtlfghnngbljlhaaPdS
import Derived.Laws.CopyOwn
namespace Go.Proofs.Ytlfghnngbljlhaa
open Go.RowKit PK Pd

/-- What is made so far: the first m. -/
def mk (F : Nat → Int) (m : Nat) : Nat → Int := fun k => if k < m then F k else 0
theorem mk_zero (F : Nat → Int) (n : Nat) : ints n (fun _ => 0) = ints n (mk F 0) := ints_ext fun i _ => by unfold mk; rw [if_neg (by omega)]
theorem mk_next (F : Nat → Int) (n m : Nat) : ints n (upd (mk F m) m (F m)) = ints n (mk F (m + 1)) := ints_ext fun i _ => by
  unfold upd
  by_cases e : i = m
  · rw [if_pos e]
    unfold mk
    rw [if_pos (by omega), e]
  · rw [if_neg e]
    unfold mk
    by_cases e2 : i < m
    · rw [if_pos e2, if_pos (by omega)]
    · rw [if_neg e2, if_neg (by omega)]
theorem mk_all (F : Nat → Int) (n : Nat) : ints n (mk F n) = ints n F := ints_ext fun i hi => by
  unfold mk
  rw [if_pos hi]
theorem nums_ext {w : World} {v : Value} {n : Nat} {f g : Nat → Int} (h : NumsAt w v n f) (he : ∀ i, i < n → f i = g i) : NumsAt w v n g := h.congr he
theorem Ans.row {w : World} {g n : Nat} {f : Nat → Int} (h : RowAt w g 3 (ints n f)) (hn : n ≤ maxLen) : Ans w (.slice (some ⟨g, 0, none⟩) n n) n f := ⟨⟨_, _, rfl, Nat.le_refl _, fun h => by cases h⟩, NumsAt.of_row h hn⟩
theorem range_tabT (N : Nat) (h : Nat → Value) : (Array.range N).map h = tab N h := by
  apply Array.ext_getElem?
  intro i
  by_cases h1 : i < N
  · simp [tab, h1]
  · simp [tab, h1]
theorem made_tabT (z : Value) (n : Nat) : madeCells #[z] n = tab n fun _ => z := by
  unfold madeCells
  rw [range_tabT]
  exact tab_ext fun i _ => by simp [Nat.mod_one]
/-- Two lists in a list. -/
def or2 {α : Type} (a b : α) : Nat → α := fun r => if r = 0 then a else b
theorem two_mat (w : World) (v1 v2 : Value) (l1 l2 : Nat) (f1 f2 : Nat → Int) (h1 : NumsAt w v1 l1 f1) (h2 : NumsAt w v2 l2 f2) : MatAt (w.alloc (.cells #[v1, v2] 22)) (.slice (some ⟨w.heap.size, 0, none⟩) 2 2) 2 (or2 l1 l2) (or2 f1 f2) := by
  have e : (#[v1, v2] : Array Value) = tab 2 (or2 v1 v2) := rfl
  rw [e]
  refine MatAt.of_rows (RowAt.new w _ _) (by decide) fun r hr => ?_
  rcases (by omega : r = 0 ∨ r = 1) with rfl | rfl
  · exact h1.alloc _
  · exact h2.alloc _
theorem one_mat (w : World) (v1 : Value) (l1 : Nat) (f1 : Nat → Int) (h1 : NumsAt w v1 l1 f1) : MatAt (w.alloc (.cells #[v1] 22)) (.slice (some ⟨w.heap.size, 0, none⟩) 1 1) 1 (fun _ => l1) (fun _ => f1) := by
  have e : (#[v1] : Array Value) = tab 1 fun _ => v1 := rfl
  rw [e]
  refine MatAt.of_rows (RowAt.new w _ _) (by decide) fun r hr => ?_
  exact h1.alloc _
theorem two_nums (w : World) (x y : Int) : NumsAt (w.alloc (.cells #[.int .i64 x, .int .i64 y] 3)) (.slice (some ⟨w.heap.size, 0, none⟩) 2 2) 2 (or2 x y) := by
  have e : (#[.int .i64 x, .int .i64 y] : Array Value) = ints 2 (or2 x y) := rfl
  rw [e]
  exact NumsAt.of_row (RowAt.new w _ _) (by decide)
theorem one_num (w : World) (x : Int) : NumsAt (w.alloc (.cells #[.int .i64 x] 3)) (.slice (some ⟨w.heap.size, 0, none⟩) 1 1) 1 (fun _ => x) := by
  have e : (#[.int .i64 x] : Array Value) = ints 1 fun _ => x := rfl
  rw [e]
  exact NumsAt.of_row (RowAt.new w _ _) (by decide)
theorem sgE_two (n : Int) (l1 l2 : Nat) (f1 f2 : Nat → Int) : sgE n 2 (or2 l1 l2) (or2 f1 f2) = if n < 2 ∨ 64 < n then 1 else if inB n l1 f1 = false ∨ inB n l2 f2 = false then 3 else 0 := by
  unfold sgE
  by_cases h : n < 2 ∨ 64 < n
  · rw [if_pos h, if_pos h]
  · rw [if_neg h, if_neg h]
    have e : (List.range 2).all (fun r => inB n (or2 l1 l2 r) (or2 f1 f2 r)) = (inB n l1 f1 && (inB n l2 f2 && true)) := rfl
    rw [e]
    cases inB n l1 f1 <;> cases inB n l2 f2 <;> rfl
theorem sgE_one (n : Int) (l1 : Nat) (f1 : Nat → Int) : sgE n 1 (fun _ => l1) (fun _ => f1) = if n < 2 ∨ 64 < n then 1 else if inB n l1 f1 = false then 3 else 0 := by
  unfold sgE
  by_cases h : n < 2 ∨ 64 < n
  · rw [if_pos h, if_pos h]
  · rw [if_neg h, if_neg h]
    have e : (List.range 1).all (fun _ => inB n l1 f1) = (inB n l1 f1 && true) := rfl
    rw [e]
    cases inB n l1 f1 <;> rfl
theorem sm_two (N x y : Nat) (hx : x < N) : sm N (or2 x y) 2 = (x + y) % N := by
  show ((0 + x) % N + y) % N = _
  rw [Nat.zero_add, Nat.mod_eq_of_lt hx]
/-- added(n, x, y). -/
theorem padd_two (N x y : Nat) (h1 : 2 ≤ N) (h2 : N ≤ 64) (hx : x < N) (hy : y < N) (w : World) : Calls Try.prog 28 #[.int .i64 (N : Nat), .slice (some ⟨w.heap.size, 0, none⟩) 2 2] (w.alloc (.cells #[.int .i64 (x : Nat), .int .i64 (y : Nat)] 3)) fun e w' => w.alloc (.cells #[.int .i64 (x : Nat), .int .i64 (y : Nat)] 3) = w' ∧ e = .returned (.int .i64 (((x + y) % N : Nat) : Int)) := by
  have := padd_any N h1 h2 _ 2 (or2 x y) (fun i hi => by unfold or2; split <;> assumption) _ (nums_ext (two_nums w (x : Int) (y : Int)) fun i hi => by unfold or2; split <;> rfl)
  rw [sm_two N x y hx] at this
  exact this
set_option maxRecDepth 100000 in
set_option maxHeartbeats 4000000 in
theorem ptxt_any (n : Int) (vt vp : Value) (nt np : Nat) (ft fp : Nat → Int) (w : World) (ht : NumsAt w vt nt ft) (hp : NumsAt w vp np fp) : Calls Try.prog 27 #[.int .i64 n, vt, vp] w fun e w' => e = .returned (.int .i64 (txE n nt np ft fp)) ∧ Below w.heap.size w w' := by
  have HM := (show Hid (Calls Try.prog 31 #[.int .i64 n, .slice (some ⟨w.heap.size, 0, none⟩) 2 2] (w.alloc (.cells #[vt, vp] 22)) fun e w' => w.alloc (.cells #[vt, vp] 22) = w' ∧ e = .returned (.int .i64 (if n < 2 ∨ 64 < n then 1 else if inB n nt ft = false ∨ inB n np fp = false then 3 else 0))) from by
    have := psig_any n _ 2 _ _ _ (two_mat w vt vp nt np ft fp ht hp)
    rw [sgE_two] at this
    exact this)
  obtain ⟨at', ct, rfl, hmt, _⟩ := ht
  obtain ⟨ap, cp, rfl, hmp, _⟩ := hp
  unfold maxLen at hmt hmp
  have HB := (show Hid (Below w.heap.size w (w.alloc (.cells #[.slice at' nt ct, .slice ap np cp] 22))) from (Below.refl _ _).alloc (Nat.le_refl _) _)
  go_enter Try.func27, Try.ntmps27
  go_wp2_with fail
  refine HM.out.mono ?_
  rintro e W1 ⟨rfl, rfl⟩
  clear HM
  by_cases h1 : n < 2 ∨ 64 < n
  · have HE : Hid (txE n nt np ft fp = 1) := by unfold txE; rw [Hid, if_pos h1]
    rw [if_pos h1]
    clear h1
    go_wp2
    go_ret
    exact ⟨by rw [HE.out]; rfl, HB.out⟩
  rw [if_neg h1]
  by_cases h2 : inB n nt ft = false ∨ inB n np fp = false
  · have HE : Hid (txE n nt np ft fp = 3) := by unfold txE; rw [Hid, if_neg h1, if_pos h2]
    rw [if_pos h2]
    clear h1 h2
    go_wp2
    go_ret
    exact ⟨by rw [HE.out]; rfl, HB.out⟩
  rw [if_neg h2]
  by_cases h3 : 65536 < nt
  · have HE : Hid (txE n nt np ft fp = 5) := by unfold txE; rw [Hid, if_neg h1, if_neg h2, if_pos h3]
    have h4 : (65536 : Int) < (nt : Int) := by omega
    clear h1 h2 h3
    go_wp2
    go_ret
    exact ⟨by rw [HE.out]; rfl, HB.out⟩
  have h4 : ¬ (65536 : Int) < (nt : Int) := by omega
  by_cases h5 : np < nt
  · have HE : Hid (txE n nt np ft fp = 10) := by unfold txE; rw [Hid, if_neg h1, if_neg h2, if_neg h3, if_pos h5]
    have h6 : (np : Int) < (nt : Int) := by omega
    clear h1 h2 h3 h5
    go_wp2
    go_ret
    exact ⟨by rw [HE.out]; rfl, HB.out⟩
  have HE : Hid (txE n nt np ft fp = 0) := by unfold txE; rw [Hid, if_neg h1, if_neg h2, if_neg h3, if_neg h5]
  have h6 : ¬ (np : Int) < (nt : Int) := by omega
  clear h1 h2 h3 h5
  go_wp2
  go_ret
  exact ⟨by rw [HE.out]; rfl, HB.out⟩
set_option maxRecDepth 100000 in
set_option maxHeartbeats 4000000 in
theorem pwr_any (n : Int) (vt vp : Value) (nt np : Nat) (ft fp : Nat → Int) (w : World) (ht : NumsAt w vt nt ft) (hp : NumsAt w vp np fp) : Calls Try.prog 20 #[.int .i64 n, vt, vp] w fun e w' => ∃ v, e = .returned (.tuple #[v, .int .i64 (txE n nt np ft fp)]) ∧ Ans w' v (rl (txE n nt np ft fp) nt) (wrF n ft fp) ∧ Below w.heap.size w w' := by
  have HT := (show Hid (Calls Try.prog 27 #[.int .i64 n, vt, vp] w fun e w' => e = .returned (.int .i64 (txE n nt np ft fp)) ∧ Below w.heap.size w w') from ptxt_any n vt vp nt np ft fp w ht hp)
  obtain ⟨at', ct, rfl, hmt, hct⟩ := ht
  obtain ⟨ap, cp, rfl, hmp, hcp⟩ := hp
  have HCT := (show Hid (∀ c, c < nt → ∃ b o, at' = some ⟨b, o, none⟩ ∧ w.cell? ⟨b, o + c, none⟩ = some (.int .i64 (ft c))) from hct)
  have HCP := (show Hid (∀ c, c < np → ∃ b o, ap = some ⟨b, o, none⟩ ∧ w.cell? ⟨b, o + c, none⟩ = some (.int .i64 (fp c))) from hcp)
  unfold maxLen at hmt hmp
  clear hct hcp
  obtain ⟨E, hE⟩ : ∃ E, E = txE n nt np ft fp := ⟨_, rfl⟩
  rw [← hE] at HT ⊢
  have HE := (show Hid _ from hE)
  clear hE
  by_cases hE : E = 0
  case neg =>
    have hE1 : (E != 0) = true := by simp [hE]
    have HR : Hid (rl E nt = 0) := by unfold rl; rw [Hid, if_neg hE]
    clear hE HCT HCP HE
    go_enter Try.func20, Try.ntmps20
    go_wp2_with fail
    refine HT.out.mono ?_
    rintro e W1 ⟨rfl, hb⟩
    clear HT
    go_wp2
    go_ret2
    exact ⟨_, rfl, by rw [HR.out]; exact Ans.nil _ _, hb⟩
  subst hE
  obtain ⟨h1, h2, hft, hfp, h5, h6⟩ := txE_zero HE.out.symm
  clear HE
  obtain ⟨N, rfl⟩ : ∃ N : Nat, n = (N : Int) := ⟨n.toNat, by omega⟩
  have HFT := (show Hid _ from hft)
  have HFP := (show Hid _ from hfp)
  have hN1 : 2 ≤ N := by omega
  have hN2 : N ≤ 64 := by omega
  have hmk := run_make_row' (P := Try.prog) 22 3 (.int .i64 0) 8 Try.underlying22 g_info_int rfl .i64 .i64 nt (by omega) (by omega)
  rw [made_tabT] at hmk
  clear hft hfp h1 h2
  go_enter Try.func20, Try.ntmps20
  go_wp2_with fail
  refine HT.out.mono ?_
  rintro e W1 ⟨rfl, hbe0⟩
  clear HT
  go_upto_region 5 with fail
  have hr6 : RowAt (W1.alloc (.cells (tab nt fun _ => .int .i64 0) 3)) W1.heap.size 3 (ints nt (mk (wrF (N : Int) ft fp) 0)) := by
    rw [← mk_zero]
    exact RowAt.new W1 _ _
  have hb6 := hbe0.alloc hbe0.size (.cells (tab nt fun _ => .int .i64 0) 3)
  generalize W1.alloc (.cells (tab nt fun _ => .int .i64 0) 3) = W3 at *
  have hz0 := hbe0.size
  generalize W1.heap.size = g at *
  clear hmk hbe0
  go_wp2_with fail
  go_loopw [24] (fun x W => ∃ i : Nat, i ≤ nt ∧ x = .int .i64 (i : Nat) ∧ RowAt W g 3 (ints nt (mk (wrF (N : Int) ft fp) i)) ∧ Below w.heap.size w W) (fun x _ => ((nt : Int) - intOf x).toNat)
  case atStart => exact ⟨0, by omega, rfl, hr6, hb6⟩
  case round =>
    clear hr6 hb6
    obtain ⟨i, hi, rfl, hro, hbe⟩ := hrel
    by_cases hlt : i < nt
    case neg =>
      obtain rfl : i = nt := by omega
      have hnn : ¬ ((i : Nat) : Int) < ((i : Nat) : Int) := by omega
      rw [mk_all] at hro
      have HRO := (show Hid _ from hro)
      have HBE := (show Hid _ from hbe)
      have HR : Hid (rl 0 i = i) := rfl
      clear hro hbe hlt
      go_wp2
      go_ret2
      exact ⟨_, rfl, by rw [HR.out]; exact Ans.row HRO.out (by unfold maxLen; omega), HBE.out⟩
    have HLT : Hid (i < nt) := hlt
    have hlt2 : (i : Int) < (nt : Int) := by omega
    have hlt3 : (i : Int) < (np : Int) := by omega
    obtain ⟨b1, o1, rfl, c1⟩ := HCT.out i hlt
    obtain ⟨b2, o2, rfl, c2⟩ := HCP.out i (by omega)
    have d1 := (hbe.cell (p := ⟨b1, o1 + i, none⟩) (cell_block c1)).trans c1
    have d2 := (hbe.cell (p := ⟨b2, o2 + i, none⟩) (cell_block c2)).trans c2
    obtain ⟨x, hx⟩ : ∃ x, x = (ft i).toNat := ⟨_, rfl⟩
    obtain ⟨y, hy⟩ : ∃ y, y = (fp i).toNat := ⟨_, rfl⟩
    have hx1 := HFT.out i hlt
    have hy1 := HFP.out i (by omega)
    have hx2 : ft i = (x : Int) := by omega
    have hy2 : fp i = (y : Int) := by omega
    have hx3 : x < N := by omega
    have hy3 : y < N := by omega
    have HV : Hid (wrF (N : Int) ft fp i = (((x + y) % N : Nat) : Int)) := by
      rw [Hid]
      unfold wrF
      rw [← hx, ← hy, Int.toNat_natCast]
    rw [hx2] at d1
    rw [hy2] at d2
    clear c1 c2 hx hy hx1 hy1 hx2 hy2 hlt
    have hz := hbe.size
    obtain ⟨y', hy'⟩ : ∃ y', y' = y := ⟨_, rfl⟩
    rw [← hy'] at d2 HV hy3
    clear hy'
    go_wp2_with fail
    refine (padd_two N x y' hN1 hN2 hx3 hy3 wr).mono ?_
    rintro e W4 ⟨rfl, rfl⟩
    have hqn : i < nt := HLT.out
    have hro5 := hro.alloc (.cells #[.int .i64 (x : Nat), .int .i64 (y' : Nat)] 3)
    have hbe5 := hbe.alloc hz (.cells #[.int .i64 (x : Nat), .int .i64 (y' : Nat)] 3)
    have hcell := hro5.cell (ints_get (mk (wrF (N : Int) ft fp) i) hqn)
    have hfz := hro5.frozen i
    generalize wr.alloc (.cells #[.int .i64 (x : Nat), .int .i64 (y' : Nat)] 3) = W5 at *
    have HN : Hid (RowAt (W5.setCell ⟨g, i, none⟩ (.int .i64 (wrF (N : Int) ft fp i))) g 3 (ints nt (mk (wrF (N : Int) ft fp) (i + 1))) ∧ Below w.heap.size w (W5.setCell ⟨g, i, none⟩ (.int .i64 (wrF (N : Int) ft fp i)))) := by
      refine ⟨?_, hbe5.setCell (p := ⟨g, i, none⟩) hz0 _⟩
      have h1 := hro5.set i (.int .i64 (wrF (N : Int) ft fp i))
      rw [ints_set, mk_next] at h1
      exact h1
    rw [HV.out] at HN
    clear HV hro hbe hro5 hbe5 hqn
    generalize (x + y') % N = z at *
    go_wp2
    go_roundw
    case rel => exact ⟨i + 1, HLT.out, by go_num, HN.out.1, HN.out.2⟩
    case measure => have := HLT.out; simp [intOf]; omega
set_option maxRecDepth 100000 in
set_option maxHeartbeats 4000000 in
theorem prd_any (n : Int) (vt vp : Value) (nt np : Nat) (ft fp : Nat → Int) (w : World) (ht : NumsAt w vt nt ft) (hp : NumsAt w vp np fp) : Calls Try.prog 24 #[.int .i64 n, vt, vp] w fun e w' => ∃ v, e = .returned (.tuple #[v, .int .i64 (txE n nt np ft fp)]) ∧ Ans w' v (rl (txE n nt np ft fp) nt) (rdF n ft fp) ∧ Below w.heap.size w w' := by
  have HT := (show Hid (Calls Try.prog 27 #[.int .i64 n, vt, vp] w fun e w' => e = .returned (.int .i64 (txE n nt np ft fp)) ∧ Below w.heap.size w w') from ptxt_any n vt vp nt np ft fp w ht hp)
  obtain ⟨at', ct, rfl, hmt, hct⟩ := ht
  obtain ⟨ap, cp, rfl, hmp, hcp⟩ := hp
  have HCT := (show Hid (∀ c, c < nt → ∃ b o, at' = some ⟨b, o, none⟩ ∧ w.cell? ⟨b, o + c, none⟩ = some (.int .i64 (ft c))) from hct)
  have HCP := (show Hid (∀ c, c < np → ∃ b o, ap = some ⟨b, o, none⟩ ∧ w.cell? ⟨b, o + c, none⟩ = some (.int .i64 (fp c))) from hcp)
  unfold maxLen at hmt hmp
  clear hct hcp
  obtain ⟨E, hE⟩ : ∃ E, E = txE n nt np ft fp := ⟨_, rfl⟩
  rw [← hE] at HT ⊢
  have HE := (show Hid _ from hE)
  clear hE
  by_cases hE : E = 0
  case neg =>
    have hE1 : (E != 0) = true := by simp [hE]
    have HR : Hid (rl E nt = 0) := by unfold rl; rw [Hid, if_neg hE]
    clear hE HCT HCP HE
    go_enter Try.func24, Try.ntmps24
    go_wp2_with fail
    refine HT.out.mono ?_
    rintro e W1 ⟨rfl, hb⟩
    clear HT
    go_wp2
    go_ret2
    exact ⟨_, rfl, by rw [HR.out]; exact Ans.nil _ _, hb⟩
  subst hE
  obtain ⟨h1, h2, hft, hfp, h5, h6⟩ := txE_zero HE.out.symm
  clear HE
  obtain ⟨N, rfl⟩ : ∃ N : Nat, n = (N : Int) := ⟨n.toNat, by omega⟩
  have HFT := (show Hid _ from hft)
  have HFP := (show Hid _ from hfp)
  have hN1 : 2 ≤ N := by omega
  have hN2 : N ≤ 64 := by omega
  have hmk := run_make_row' (P := Try.prog) 22 3 (.int .i64 0) 8 Try.underlying22 g_info_int rfl .i64 .i64 nt (by omega) (by omega)
  rw [made_tabT] at hmk
  clear hft hfp h1 h2
  go_enter Try.func24, Try.ntmps24
  go_wp2_with fail
  refine HT.out.mono ?_
  rintro e W1 ⟨rfl, hbe0⟩
  clear HT
  go_upto_region 5 with fail
  have hr6 : RowAt (W1.alloc (.cells (tab nt fun _ => .int .i64 0) 3)) W1.heap.size 3 (ints nt (mk (rdF (N : Int) ft fp) 0)) := by
    rw [← mk_zero]
    exact RowAt.new W1 _ _
  have hb6 := hbe0.alloc hbe0.size (.cells (tab nt fun _ => .int .i64 0) 3)
  generalize W1.alloc (.cells (tab nt fun _ => .int .i64 0) 3) = W3 at *
  have hz0 := hbe0.size
  generalize W1.heap.size = g at *
  clear hmk hbe0
  go_wp2_with fail
  go_loopw [24] (fun x W => ∃ i : Nat, i ≤ nt ∧ x = .int .i64 (i : Nat) ∧ RowAt W g 3 (ints nt (mk (rdF (N : Int) ft fp) i)) ∧ Below w.heap.size w W) (fun x _ => ((nt : Int) - intOf x).toNat)
  case atStart => exact ⟨0, by omega, rfl, hr6, hb6⟩
  case round =>
    clear hr6 hb6
    obtain ⟨i, hi, rfl, hro, hbe⟩ := hrel
    by_cases hlt : i < nt
    case neg =>
      obtain rfl : i = nt := by omega
      have hnn : ¬ ((i : Nat) : Int) < ((i : Nat) : Int) := by omega
      rw [mk_all] at hro
      have HRO := (show Hid _ from hro)
      have HBE := (show Hid _ from hbe)
      have HR : Hid (rl 0 i = i) := rfl
      clear hro hbe hlt
      go_wp2
      go_ret2
      exact ⟨_, rfl, by rw [HR.out]; exact Ans.row HRO.out (by unfold maxLen; omega), HBE.out⟩
    have HLT : Hid (i < nt) := hlt
    have hlt2 : (i : Int) < (nt : Int) := by omega
    have hlt3 : (i : Int) < (np : Int) := by omega
    obtain ⟨b1, o1, rfl, c1⟩ := HCT.out i hlt
    obtain ⟨b2, o2, rfl, c2⟩ := HCP.out i (by omega)
    have d1 := (hbe.cell (p := ⟨b1, o1 + i, none⟩) (cell_block c1)).trans c1
    have d2 := (hbe.cell (p := ⟨b2, o2 + i, none⟩) (cell_block c2)).trans c2
    obtain ⟨x, hx⟩ : ∃ x, x = (ft i).toNat := ⟨_, rfl⟩
    obtain ⟨y, hy⟩ : ∃ y, y = (fp i).toNat := ⟨_, rfl⟩
    have hx1 := HFT.out i hlt
    have hy1 := HFP.out i (by omega)
    have hx2 : ft i = (x : Int) := by omega
    have hy2 : fp i = (y : Int) := by omega
    have hx3 : x < N := by omega
    have hy3 : y < N := by omega
    have HV : Hid (rdF (N : Int) ft fp i = (((x + (N - y) % N) % N : Nat) : Int)) := by
      rw [Hid]
      unfold rdF
      rw [← hx, ← hy, Int.toNat_natCast]
      rfl
    rw [hx2] at d1
    rw [hy2] at d2
    clear c1 c2 hx hy hx1 hy1 hx2 hy2 hlt
    have hz := hbe.size
    go_wp2_with fail
    refine (popp_any N y hN1 hN2 hy3 wr).mono ?_
    rintro e W4 ⟨rfl, rfl⟩
    have hy4 : (N - y) % N < N := Nat.mod_lt _ (by omega)
    generalize (N - y) % N = y' at *
    go_wp2_with fail
    refine (padd_two N x y' hN1 hN2 hx3 hy4 wr).mono ?_
    rintro e W4 ⟨rfl, rfl⟩
    have hqn : i < nt := HLT.out
    have hro5 := hro.alloc (.cells #[.int .i64 (x : Nat), .int .i64 (y' : Nat)] 3)
    have hbe5 := hbe.alloc hz (.cells #[.int .i64 (x : Nat), .int .i64 (y' : Nat)] 3)
    have hcell := hro5.cell (ints_get (mk (rdF (N : Int) ft fp) i) hqn)
    have hfz := hro5.frozen i
    generalize wr.alloc (.cells #[.int .i64 (x : Nat), .int .i64 (y' : Nat)] 3) = W5 at *
    have HN : Hid (RowAt (W5.setCell ⟨g, i, none⟩ (.int .i64 (rdF (N : Int) ft fp i))) g 3 (ints nt (mk (rdF (N : Int) ft fp) (i + 1))) ∧ Below w.heap.size w (W5.setCell ⟨g, i, none⟩ (.int .i64 (rdF (N : Int) ft fp i)))) := by
      refine ⟨?_, hbe5.setCell (p := ⟨g, i, none⟩) hz0 _⟩
      have h1 := hro5.set i (.int .i64 (rdF (N : Int) ft fp i))
      rw [ints_set, mk_next] at h1
      exact h1
    rw [HV.out] at HN
    clear HV hro hbe hro5 hbe5 hqn
    generalize (x + y') % N = z at *
    go_wp2
    go_roundw
    case rel => exact ⟨i + 1, HLT.out, by go_num, HN.out.1, HN.out.2⟩
    case measure => have := HLT.out; simp [intOf]; omega
end Go.Proofs.Ytlfghnngbljlhaa
