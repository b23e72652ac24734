/-
  Contracts of register's Profile and Shortest (chapter 11).
-/
import Derived.Test.YtflehdigikdhmaaRgP6
namespace Go.Proofs.Ytflehdigikdhmaa
open Go.RowKit PK Rg

theorem FdAt.other {W : World} {B g L lr lb d : Nat} {R M : Nat → Bool} {qr qm : Nat} (h : FdAt W B g L lr lb d R M qr qm) (a : Addr) (v : Value) (ha : a.block < B) : FdAt (W.setCell a v) B g L lr lb d R M qr qm := by
  have h1 := h.br
  have h2 := h.bm
  have h3 := h.bg
  exact ⟨h.row.setOther _ _ (by omega), h.rule.setOther _ _ (by omega), h.mend.setOther _ _ (by omega), h.br, h.bm, h.bg, h.nr, h.nm⟩
theorem TkP.start {s : Nat → Bool} {W : World} {B g q1 q2 : Nat} (hr : RowAt W g 35 (fdA 0 (.slice (some ⟨q1, 0, none⟩) 1 1) (.slice (some ⟨q2, 0, none⟩) 1 1) 1)) (h1 : RowAt W q1 3 (ints 1 (bi fun k => decide (k = 0)))) (h2 : RowAt W q2 3 (ints 1 (bi fun k => decide (k = 0)))) (b1 : B ≤ q1) (b2 : B ≤ q2) (bg : B ≤ g) (n1 : q1 ≠ g) (n2 : q2 ≠ g) : TkP s 0 B g W :=
  ⟨0, 1, 1, 1, _, _, q1, q2, ⟨hr, h1, h2, b1, b2, bg, n1, n2⟩, Fdr.start s⟩
/-- What is held behind i bits of Profile. -/
structure PfS (s : Nat → Bool) (n i B g q : Nat) (w W : World) : Prop where
  tk : TkP s i B g W
  out : ∃ l : List Nat, ProfL s l i ∧ RowAt W q 3 (ints n fun k => ((l.getD k 0 : Nat) : Int))
  below : Below w.heap.size w W
theorem snoc_row {l : List Nat} {n i L : Nat} (hl : l.length = i) : ints n (upd (fun k => ((l.getD k 0 : Nat) : Int)) i (L : Nat)) = ints n fun k => (((l ++ [L]).getD k 0 : Nat) : Int) := ints_ext fun k hk => by
  unfold upd
  simp only [List.getD_eq_getElem?_getD]
  by_cases e : k = i
  · rw [if_pos e, List.getElem?_append_right (by omega), hl, e]
    simp
  · rw [if_neg e]
    by_cases e2 : k < i
    · rw [List.getElem?_append_left (by omega)]
    · rw [List.getElem?_eq_none (by omega), List.getElem?_eq_none (by simp; omega)]
theorem bits_nums {W : World} {a : Option Addr} {n cap : Nat} {f : Nat → Int} (h : NumsAt W (.slice a n cap) n f) (hf : frB n f = true) {m : Nat} (hm : m ≤ n) : NumsAt W (.slice a m cap) m (bi (sB f)) := by
  obtain ⟨a', cap', e, h2, h3⟩ := h
  cases e
  refine ⟨a, cap, rfl, by omega, fun c hc => ?_⟩
  obtain ⟨b, o, e, hcell⟩ := h3 c (by omega)
  refine ⟨b, o, e, ?_⟩
  have e1 := fair_nat hf (show c < n by omega)
  have e2 : bi (sB f) c = f c := by
    show b1 (bt (f c).toNat) = f c
    rw [b1_bt e1.2]
    exact e1.1.symm
  rw [e2]
  exact hcell
set_option maxRecDepth 100000 in
set_option maxHeartbeats 4000000 in
theorem pprof_ok (a : Option Addr) (n cap : Nat) (hcap : n ≤ cap) (hn : n ≤ 256) (f : Nat → Int) (hf : frB n f = true) (w : World) (hv : NumsAt w (.slice a n cap) n f) :
    Calls Try.prog 10 #[.slice a n cap] w fun e w' => ∃ q l, e = .returned (.tuple #[.slice (some ⟨q, 0, none⟩) n n, .int .i64 0]) ∧ ProfL (sB f) l n ∧ RowAt w' q 3 (ints n fun k => ((l.getD k 0 : Nat) : Int)) ∧ Below w.heap.size w w' := by
  have hE : rsE n f = 0 := by
    unfold rsE
    rw [if_neg (by omega), hf]
    rfl
  have HWR := (show Hid (Calls Try.prog 18 #[.slice a n cap] w fun e w' => e = .returned (.int .i64 0) ∧ Below w.heap.size w w') from by
    have := pwrong_any _ n f w hv
    rw [hE] at this
    exact this)
  have HV := (show Hid (NumsAt w (.slice a n cap) n f) from hv)
  have hsome : 0 < n → ∃ b o, a = some ⟨b, o, none⟩ := fun h0 => by
    obtain ⟨a', cap', e, h2, h3⟩ := hv
    cases e
    obtain ⟨b, o, e, _⟩ := h3 0 h0
    exact ⟨b, o, e⟩
  have HSO := (show Hid _ from hsome)
  have hmk := run_make_row' (P := Try.prog) 22 3 (.int .i64 0) 8 Try.underlying22 g_info_int rfl .i64 .i64 n (by omega) (by omega)
  rw [made_tabT] at hmk
  have hz4 := o_zero v_zero_fd
  have HPF : Hid (frB n f = true) := hf
  clear hE hv hsome hf
  go_enter Try.func10, Try.ntmps10
  go_wp2_with fail
  refine Calls.mono HWR.out ?_
  rintro e W1 ⟨rfl, hb1⟩
  clear HWR
  go_upto_region 5 with fail
  have hr2 : RowAt (W1.alloc (.cells (tab n fun _ => .int .i64 0) 3)) W1.heap.size 3 (ints n fun k => ((([] : List Nat).getD k 0 : Nat) : Int)) := RowAt.new W1 _ _
  have hb2 := hb1.alloc hb1.size (.cells (tab n fun _ => .int .i64 0) 3)
  have hz1 := hb1.size
  clear hmk hb1
  generalize W1.alloc (.cells (tab n fun _ => .int .i64 0) 3) = W2 at *
  have hql := hr2.lt
  generalize W1.heap.size = q at *
  go_wp2_with fail
  refine Calls.mono (pnew_any W2) ?_
  rintro e W3 ⟨q1, q2, rfl, hq1, hq2, hr1, hrm, hb3⟩
  have k1 := hr2.below hb3 hr2.lt
  have kb := hb2.trans (hb3.mono hb2.size)
  have hz3 := hb3.size
  obtain ⟨B, hB⟩ : ∃ B, B = W2.heap.size := ⟨_, rfl⟩
  rw [← hB] at hq1 hq2 hql hz3
  clear hr2 hb2 hb3 hB
  have hl1 := hr1.lt
  have hl2 := hrm.lt
  go_upto_region 6 with (first | refine wpList_store_row rfl 35 _ _ rfl W3.heap.size (fdA 0 (.slice (some ⟨q1, 0, none⟩) 1 1) (.slice (some ⟨q2, 0, none⟩) 1 1) 1) rfl rfl 35 _ (RowAt.new W3 _ _) v_info_fd rfl (fdA_one _ _ _ _ _ _ _ _) ?_)
  have hP : PfS (sB f) n 0 B W3.heap.size q w ((W3.alloc (.cells (fdA 0 (.slice none 0 0) (.slice none 0 0) 0) 35)).setRow W3.heap.size (fdA 0 (.slice (some ⟨q1, 0, none⟩) 1 1) (.slice (some ⟨q2, 0, none⟩) 1 1) 1)) :=
    ⟨TkP.start ((RowAt.new W3 _ _).row _) ((hr1.alloc _).rowOther _ _ (by omega)) ((hrm.alloc _).rowOther _ _ (by omega)) hq1 hq2 (by omega) (by omega) (by omega), ⟨[], ⟨rfl, fun i hi => by omega⟩, (k1.alloc _).rowOther _ _ (by omega)⟩, Below.setRow (kb.alloc kb.size _) _ kb.size _⟩
  generalize (W3.alloc (.cells (fdA 0 (.slice none 0 0) (.slice none 0 0) 0) 35)).setRow W3.heap.size (fdA 0 (.slice (some ⟨q1, 0, none⟩) 1 1) (.slice (some ⟨q2, 0, none⟩) 1 1) 1) = W4 at *
  have hgB : B ≤ W3.heap.size := hz3
  generalize W3.heap.size = g at *
  clear hr1 hrm k1 kb hl1 hl2 hq1 hq2 hz3 hz4
  go_wp2_with fail
  go_loopw [19] (fun x W => ∃ i : Nat, i ≤ n ∧ x = .int .i64 (i : Nat) ∧ PfS (sB f) n i B g q w W) (fun x _ => ((n : Int) - intOf x).toNat)
  case atStart => exact ⟨0, by omega, rfl, hP⟩
  case round =>
    clear hP
    obtain ⟨i, hi, rfl, hS⟩ := hrel
    by_cases hlt : i < n
    case neg =>
      obtain rfl : i = n := by omega
      have hnn : ¬ ((i : Nat) : Int) < ((i : Nat) : Int) := by omega
      obtain ⟨_, ⟨l, hl, hro⟩, hbe⟩ := hS
      have HL := (show Hid _ from hl)
      have HRO := (show Hid _ from hro)
      have HBE := (show Hid _ from hbe)
      clear hl hro hbe hlt
      go_wp2
      go_ret2
      first | exact ⟨q, l, rfl, HL.out, HRO.out, HBE.out⟩ | exact ⟨q, rfl, l, HL.out, HRO.out, HBE.out⟩
    obtain ⟨b, o, rfl⟩ := HSO.out (by omega)
    have HLT : Hid (i < n) := hlt
    have hlt2 : (i : Int) < (n : Int) := by omega
    have HT := (show Hid (Calls Try.prog 20 #[.pointer (some ⟨g, 0, none⟩), .slice (some ⟨b, o, none⟩) (i + 1) cap] wr fun e w' => e = .returned (.tuple #[]) ∧ TkP (sB f) (i + 1) B g w' ∧ Below B wr w') from ptake_any (sB f) i (by omega) B g _ wr hS.tk (bits_nums (NumsAt.below HV.out hS.below) HPF.out (by omega)))
    have HS := (show Hid (PfS (sB f) n i B g q w wr) from hS)
    have hj1 : (i : Int) + 1 ≤ (cap : Int) := by omega
    obtain ⟨j, hj⟩ : ∃ j, j = i + 1 := ⟨_, rfl⟩
    have hj2 : (i : Int) + 1 = (j : Int) := by omega
    have hj3 : (j : Int) ≤ (cap : Int) := by omega
    have hj4 : j ≤ 1000 := by omega
    rw [← hj] at HT
    have HJ := (show Hid _ from hj)
    clear hS hlt HV HSO HPF hj
    go_wp2_with fail
    refine Calls.mono HT.out ?_
    rintro e W5 ⟨rfl, htk, hb5⟩
    obtain ⟨l, hl, hro⟩ := HS.out.out
    have hro5 := hro.below hb5 hql
    have hbe5 := HS.out.below.trans (hb5.mono (by omega))
    obtain ⟨L, lr, lb, d, R, M, qr, qm, hfd, hF⟩ := htk
    have c0 := hfd.c0
    have cq := hro5.cell (ints_get _ HLT.out)
    have fq := hro5.frozen i
    have hLe := hF.least
    have hLL := hLe.le
    have hNr : RowAt (W5.setCell ⟨q, i, none⟩ (.int .i64 (L : Nat))) q 3 (ints n fun k => (((l ++ [L]).getD k 0 : Nat) : Int)) := by
      have h1 := hro5.set i (.int .i64 (L : Nat))
      rw [ints_set, snoc_row hl.1] at h1
      exact h1
    rw [HJ.out] at hLe
    have HN : Hid (PfS (sB f) n (i + 1) B g q w (W5.setCell ⟨q, i, none⟩ (.int .i64 (L : Nat)))) := ⟨⟨L, lr, lb, d, R, M, qr, qm, hfd.other _ _ hql, by rw [← HJ.out]; exact hF⟩, ⟨_, hl.snoc hLe, hNr⟩, hbe5.setCell (p := ⟨q, i, none⟩) hz1 _⟩
    generalize l.getD i 0 = y at *
    clear hNr hLe hfd hF hro5 hbe5 hb5 hro hl HS HT
    go_wp2
    go_roundw
    case rel => exact ⟨i + 1, HLT.out, by go_num, HN.out⟩
    case measure => have := HLT.out; simp [intOf]; omega
set_option maxRecDepth 100000 in
set_option maxHeartbeats 4000000 in
theorem pprof_bad (v : Value) (n : Nat) (f : Nat → Int) (hE : rsE n f ≠ 0) (w : World) (hv : NumsAt w v n f) : Calls Try.prog 10 #[v] w fun e w' => e = .returned (.tuple #[.slice none 0 0, .int .i64 (rsE n f)]) ∧ Below w.heap.size w w' := by
  have HWR := (show Hid (Calls Try.prog 18 #[v] w fun e w' => e = .returned (.int .i64 (rsE n f)) ∧ Below w.heap.size w w') from pwrong_any _ n f w hv)
  have hz : (rsE n f != 0) = true := by simpa using hE
  obtain ⟨a, c, rfl, _, _⟩ := hv
  generalize rsE n f = E at *
  clear hE
  go_enter Try.func10, Try.ntmps10
  go_wp2_with fail
  refine Calls.mono HWR.out ?_
  rintro e W1 ⟨rfl, hb1⟩
  clear HWR
  go_wp2
  go_ret2
  exact ⟨rfl, hb1⟩
set_option maxRecDepth 100000 in
set_option maxHeartbeats 4000000 in
theorem pshort_bad (v : Value) (n : Nat) (f : Nat → Int) (hE : rsE n f ≠ 0) (w : World) (hv : NumsAt w v n f) : Calls Try.prog 12 #[v] w fun e w' => e = .returned (.tuple #[.slice none 0 0, .int .i64 (rsE n f)]) ∧ Below w.heap.size w w' := by
  have HWR := (show Hid (Calls Try.prog 18 #[v] w fun e w' => e = .returned (.int .i64 (rsE n f)) ∧ Below w.heap.size w w') from pwrong_any _ n f w hv)
  have hz : (rsE n f != 0) = true := by simpa using hE
  obtain ⟨a, c, rfl, _, _⟩ := hv
  generalize rsE n f = E at *
  clear hE
  go_enter Try.func12, Try.ntmps12
  go_wp2_with fail
  refine Calls.mono HWR.out ?_
  rintro e W1 ⟨rfl, hb1⟩
  clear HWR
  go_wp2
  go_ret2
  exact ⟨rfl, hb1⟩
set_option maxRecDepth 100000 in
set_option maxHeartbeats 4000000 in
theorem pshort_ok (a : Option Addr) (n cap : Nat) (hcap : n ≤ cap) (hn : n ≤ 256) (f : Nat → Int) (hf : frB n f = true) (w : World) (hv : NumsAt w (.slice a n cap) n f) :
    Calls Try.prog 12 #[.slice a n cap] w fun e w' => ∃ L x q, e = .returned (.tuple #[.slice (some ⟨q, 0, none⟩) L L, .int .i64 0]) ∧ Least (sB f) n L ∧ First (sB f) L n x ∧ RowAt w' q 3 (ints L (bi x)) ∧ Below w.heap.size w w' := by
  have hE : rsE n f = 0 := by
    unfold rsE
    rw [if_neg (by omega), hf]
    rfl
  have HWR := (show Hid (Calls Try.prog 18 #[.slice a n cap] w fun e w' => e = .returned (.int .i64 0) ∧ Below w.heap.size w w') from by
    have := pwrong_any _ n f w hv
    rw [hE] at this
    exact this)
  have HV := (show Hid (NumsAt w (.slice a n cap) n f) from hv)
  have hsome : 0 < n → ∃ b o, a = some ⟨b, o, none⟩ := fun h0 => by
    obtain ⟨a', cap', e, h2, h3⟩ := hv
    cases e
    obtain ⟨b, o, e, _⟩ := h3 0 h0
    exact ⟨b, o, e⟩
  have HSO := (show Hid _ from hsome)
  have hz4 := o_zero v_zero_fd
  have HPF : Hid (frB n f = true) := hf
  clear hE hv hsome hf
  go_enter Try.func12, Try.ntmps12
  go_wp2_with fail
  refine Calls.mono HWR.out ?_
  rintro e W2 ⟨rfl, hb2⟩
  clear HWR
  go_wp2_with fail
  refine Calls.mono (pnew_any W2) ?_
  rintro e W3 ⟨q1, q2, rfl, hq1, hq2, hr1, hrm, hb3⟩
  have kb := hb2.trans (hb3.mono hb2.size)
  have hz3 := hb3.size
  have hzB := hb2.size
  obtain ⟨B, hB⟩ : ∃ B, B = W2.heap.size := ⟨_, rfl⟩
  rw [← hB] at hq1 hq2 hz3 hzB
  clear hb2 hb3 hB
  have hl1 := hr1.lt
  have hl2 := hrm.lt
  go_upto_region 5 with (first | refine wpList_store_row rfl 35 _ _ rfl W3.heap.size (fdA 0 (.slice (some ⟨q1, 0, none⟩) 1 1) (.slice (some ⟨q2, 0, none⟩) 1 1) 1) rfl rfl 35 _ (RowAt.new W3 _ _) v_info_fd rfl (fdA_one _ _ _ _ _ _ _ _) ?_)
  have hP : TkP (sB f) 0 B W3.heap.size ((W3.alloc (.cells (fdA 0 (.slice none 0 0) (.slice none 0 0) 0) 35)).setRow W3.heap.size (fdA 0 (.slice (some ⟨q1, 0, none⟩) 1 1) (.slice (some ⟨q2, 0, none⟩) 1 1) 1)) ∧ Below w.heap.size w ((W3.alloc (.cells (fdA 0 (.slice none 0 0) (.slice none 0 0) 0) 35)).setRow W3.heap.size (fdA 0 (.slice (some ⟨q1, 0, none⟩) 1 1) (.slice (some ⟨q2, 0, none⟩) 1 1) 1)) :=
    ⟨TkP.start ((RowAt.new W3 _ _).row _) ((hr1.alloc _).rowOther _ _ (by omega)) ((hrm.alloc _).rowOther _ _ (by omega)) hq1 hq2 (by omega) (by omega) (by omega), Below.setRow (kb.alloc kb.size _) _ kb.size _⟩
  generalize (W3.alloc (.cells (fdA 0 (.slice none 0 0) (.slice none 0 0) 0) 35)).setRow W3.heap.size (fdA 0 (.slice (some ⟨q1, 0, none⟩) 1 1) (.slice (some ⟨q2, 0, none⟩) 1 1) 1) = W4 at *
  generalize W3.heap.size = g at *
  clear hr1 hrm kb hl1 hl2 hq1 hq2 hz3 hz4
  go_wp2_with fail
  go_loopw [15] (fun x W => ∃ i : Nat, i ≤ n ∧ x = .int .i64 (i : Nat) ∧ TkP (sB f) i B g W ∧ Below w.heap.size w W) (fun x _ => ((n : Int) - intOf x).toNat)
  case atStart => exact ⟨0, by omega, rfl, hP⟩
  case round =>
    clear hP
    obtain ⟨i, hi, rfl, htk, hbe⟩ := hrel
    by_cases hlt : i < n
    case neg =>
      obtain rfl : i = n := by omega
      have hnn : ¬ ((i : Nat) : Int) < ((i : Nat) : Int) := by omega
      have HFI := (show Hid (Calls Try.prog 23 #[.pointer (some ⟨g, 0, none⟩), .int .i64 (i : Nat)] wr fun e w' => ∃ L x q, e = .returned (.slice (some ⟨q, 0, none⟩) L L) ∧ Least (sB f) i L ∧ First (sB f) L i x ∧ RowAt w' q 3 (ints L (bi x)) ∧ Below wr.heap.size wr w') from pfirst_any (sB f) i hn B g wr htk)
      have HBE := (show Hid (Below w.heap.size w wr) from hbe)
      clear htk hbe hlt
      go_wp2_with fail
      refine Calls.mono HFI.out ?_
      rintro e W6 ⟨L, x, q, rfl, hLe, hFi, hro, hb6⟩
      have HR := (show Hid (Least (sB f) i L ∧ First (sB f) L i x ∧ RowAt W6 q 3 (ints L (bi x)) ∧ Below w.heap.size w W6) from ⟨hLe, hFi, hro, HBE.out.trans (hb6.mono HBE.out.size)⟩)
      clear hLe hFi hro hb6 HBE HFI
      go_wp2
      go_ret2
      first | exact ⟨L, x, q, rfl, HR.out⟩ | exact ⟨L, q, rfl, HR.out.1, x, HR.out.2⟩ | exact ⟨L, q, rfl, x, HR.out⟩
    obtain ⟨b, o, rfl⟩ := HSO.out (by omega)
    have HLT : Hid (i < n) := hlt
    have hlt2 : (i : Int) < (n : Int) := by omega
    have HT := (show Hid (Calls Try.prog 20 #[.pointer (some ⟨g, 0, none⟩), .slice (some ⟨b, o, none⟩) (i + 1) cap] wr fun e w' => e = .returned (.tuple #[]) ∧ TkP (sB f) (i + 1) B g w' ∧ Below B wr w') from ptake_any (sB f) i (by omega) B g _ wr htk (bits_nums (NumsAt.below HV.out hbe) HPF.out (by omega)))
    have HBE := (show Hid (Below w.heap.size w wr) from hbe)
    have hj1 : (i : Int) + 1 ≤ (cap : Int) := by omega
    obtain ⟨j, hj⟩ : ∃ j, j = i + 1 := ⟨_, rfl⟩
    have hj2 : (i : Int) + 1 = (j : Int) := by omega
    have hj3 : (j : Int) ≤ (cap : Int) := by omega
    have hj4 : j ≤ 1000 := by omega
    rw [← hj] at HT
    have HJ := (show Hid _ from hj)
    clear htk hbe hlt HV HSO HPF hj
    go_wp2_with fail
    refine Calls.mono HT.out ?_
    rintro e W5 ⟨rfl, htk, hb5⟩
    have HN : Hid (TkP (sB f) (i + 1) B g W5 ∧ Below w.heap.size w W5) := ⟨by rw [← HJ.out]; exact htk, HBE.out.trans (hb5.mono hzB)⟩
    clear htk hb5 HT HBE
    go_wp2
    go_roundw
    case rel => exact ⟨i + 1, HLT.out, by go_num, HN.out⟩
    case measure => have := HLT.out; simp [intOf]; omega
theorem prg_prof : PProf 10 := fun v n f w hv => by
  by_cases hE : rsE n f = 0
  · obtain ⟨h1, h2⟩ := rsE_zero hE
    obtain ⟨⟨a, cap, rfl, hcap⟩, hv2⟩ := hv
    refine (pprof_ok a n cap hcap h1 f h2 w hv2).mono ?_
    rintro e w' ⟨q, l, h3, h4, h5, h6⟩
    refine ⟨_, l, by rw [h3, hE], fun _ => h4, ?_, h6⟩
    rw [hE]
    exact ⟨⟨_, _, rfl, Nat.le_refl _⟩, NumsAt.of_row h5 (by show n ≤ maxLen; unfold maxLen; omega)⟩
  · refine (pprof_bad v n f hE w hv.2).mono ?_
    rintro e w' ⟨h1, h2⟩
    refine ⟨_, [], h1, fun h => absurd h hE, ?_, h2⟩
    unfold rl
    rw [if_neg hE]
    exact Ans.nil _ _
theorem prg_short : PShort 12 := fun v n f w hv => by
  by_cases hE : rsE n f = 0
  · obtain ⟨h1, h2⟩ := rsE_zero hE
    obtain ⟨⟨a, cap, rfl, hcap⟩, hv2⟩ := hv
    refine (pshort_ok a n cap hcap h1 f h2 w hv2).mono ?_
    rintro e w' ⟨L, x, q, h3, h4, h5, h6, h7⟩
    refine ⟨_, L, x, by rw [h3, hE], fun _ => ⟨h4, h5⟩, ?_, h7⟩
    have := h4.le
    rw [hE]
    exact ⟨⟨_, _, rfl, Nat.le_refl _⟩, NumsAt.of_row h6 (by show L ≤ maxLen; unfold maxLen; omega)⟩
  · refine (pshort_bad v n f hE w hv.2).mono ?_
    rintro e w' ⟨h1, h2⟩
    refine ⟨_, 0, fun _ => false, h1, fun h => absurd h hE, ?_, h2⟩
    unfold rl
    rw [if_neg hE]
    exact Ans.nil _ _
end Go.Proofs.Ytflehdigikdhmaa
