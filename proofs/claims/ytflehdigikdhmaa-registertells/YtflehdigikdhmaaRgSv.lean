/-
  Contract of the document's Solved (chapter 11): the walk.
-/
import Derived.Test.YtflehdigikdhmaaRgSo
namespace Go.Proofs.Ytflehdigikdhmaa
open Go.RowKit PK Rg

theorem SvS.stepB {w W W' : World} {g q6 q8 m L q : Nat} {R : Nat → Nat → Nat} {us : Nat → Bool} {st : Nat → Option Nat} (h : SvS w W g q6 q8 m L R us st) (hb : Below q W W') (hq : q8 < q) : SvS w W' g q6 q8 m L R us st := by
  have h1 := h.lg
  have h2 := h.l6
  have h3 := h.l8
  exact ⟨fun r j hr hj => ⟨(hb.cell (p := ⟨g, r * 5 + j, none⟩) (by show g < q; omega)).trans (h.rows r j hr hj).1, (hb.frozen (p := ⟨g, r * 5 + j, none⟩) (by show g < q; omega)).trans (h.rows r j hr hj).2⟩, h.s6.below hb (by omega), h.s8.below hb hq, ⟨hb.os.trans h.grow.os, hb.tape.trans h.grow.tape, hb.output.trans h.grow.output, Nat.le_trans h.grow.size hb.size, fun k hk hne => (hb.block k (by omega)).trans (h.grow.block k hk hne)⟩, h.lg, h.l6, h.l8⟩
theorem tp_no {k n : Nat} {x : Nat → Bool} (h : x n = false) : (ints k fun c => if c < n + 1 ∧ x c = true then (1 : Int) else 0) = ints k fun c => if c < n ∧ x c = true then 1 else 0 := ints_ext fun c _ => by
  show (if c < n + 1 ∧ x c = true then (1 : Int) else 0) = if c < n ∧ x c = true then 1 else 0
  by_cases e : c < n ∧ x c = true
  · rw [if_pos e, if_pos ⟨by omega, e.2⟩]
  · rw [if_neg e, if_neg]
    rintro ⟨h1, h2⟩
    by_cases e2 : c = n
    · rw [e2, h] at h2; cases h2
    · exact e ⟨by omega, h2⟩
theorem tp_yes {n : Nat} {x : Nat → Bool} (h : x n = true) : upd (fun c => if c < n ∧ x c = true then (1 : Int) else 0) n 1 = fun c => if c < n + 1 ∧ x c = true then 1 else 0 := funext fun c => by
  unfold upd
  by_cases e : c = n
  · rw [if_pos e, if_pos ⟨by omega, by rw [e]; exact h⟩]
  · rw [if_neg e]
    show (if c < n ∧ x c = true then (1 : Int) else 0) = if c < n + 1 ∧ x c = true then 1 else 0
    by_cases e2 : c < n ∧ x c = true
    · rw [if_pos e2, if_pos ⟨by omega, e2.2⟩]
    · rw [if_neg e2, if_neg (fun h2 => e2 ⟨by omega, h2.2⟩)]
/-- What Solved says. -/
def SolvedP (R0 : Nat → Nat → Nat) (L m g : Nat) (w : World) (e : Ending) (w' : World) : Prop := w.grownBy w' (some g) ∧ ((∃ (q : Nat) (x : Nat → Bool), e = .returned (.tuple #[.slice (some ⟨q, 0, none⟩) L L, .bool true]) ∧ RowAt w' q 3 (ints L fun c => if x c = true then 1 else 0) ∧ w.heap.size ≤ q ∧ Sol (fun r c => rbit (R0 r) c) L m x ∧ ∀ y, Sol (fun r c => rbit (R0 r) c) L m y → ∀ j, j < L → (∀ c, c < j → y c = x c) → y j ≠ x j → x j = false ∧ y j = true) ∨ (e = .returned (.tuple #[.slice none 0 0, .bool false]) ∧ ∀ x, ¬ Sol (fun r c => rbit (R0 r) c) L m x))
/-- The state between columns. -/
def ColS (R0 : Nat → Nat → Nat) (w W : World) (g q6 q8 m L kk : Nat) : Prop := ∃ R us st, SvS w W g q6 q8 m L R us st ∧ (∀ r, Wd (R r)) ∧ Inv (fun r c => rbit (R0 r) c) (fun r c => rbit (R r) c) L m kk us st
set_option maxRecDepth 100000 in
set_option maxHeartbeats 16000000 in
theorem rsolved_any (g cap m L : Nat) (hm : m ≤ 256) (hL : L ≤ 256) (R0 : Nat → Nat → Nat) (hR0 : ∀ r, Wd (R0 r)) (w : World) (hg : g < w.heap.size) (hrows : ∀ r j, r < m → j < 5 → w.cell? ⟨g, r * 5 + j, none⟩ = some (.int .u64 (R0 r j : Nat)) ∧ w.frozen? ⟨g, r * 5 + j, none⟩ = false) : Calls Try.prog 21 #[.slice (some ⟨g, 0, none⟩) m cap, .int .i64 (L : Nat)] w fun e w' => SolvedP R0 L m g w e w' := by
  have hmk6 := run_make_row' (P := Try.prog) 22 3 (.int .i64 0) 8 Try.underlying22 g_info_int rfl .i64 .i64 L (by omega) (by omega)
  rw [made_tabT] at hmk6
  have HROW := (show Hid _ from hrows)
  have HWD := (show Hid _ from hR0)
  clear hrows hR0
  go_enter Try.func21, Try.ntmps21
  go_wp2_with fail
  have h6 : RowAt (w.alloc (.cells (tab L fun _ => .int .i64 0) 3)) w.heap.size 3 (ints L fun c => if c < 0 then -1 else 0) := by
    have e : (ints L fun c => if c < 0 then (-1 : Int) else 0) = tab L fun _ => .int .i64 0 := tab_ext fun i _ => by show Value.int .i64 (if i < 0 then (-1 : Int) else 0) = _; rw [if_neg (by omega)]
    rw [e]
    exact RowAt.new w _ _
  have hb6 := (Below.refl w.heap.size w).alloc (Nat.le_refl _) (.cells (tab L fun _ => .int .i64 0) 3)
  have hz6 : (w.alloc (.cells (tab L fun _ => .int .i64 0) 3)).heap.size = w.heap.size + 1 := by simp
  generalize w.alloc (.cells (tab L fun _ => .int .i64 0) 3) = W0 at *
  clear hmk6
  go_loopw [21] (fun x W => ∃ k : Nat, k ≤ L ∧ x = .int .i64 (k : Nat) ∧ RowAt W w.heap.size 3 (ints L fun c => if c < k then -1 else 0) ∧ Below w.heap.size w W ∧ W.heap.size = w.heap.size + 1) (fun x _ => ((L : Int) - intOf x).toNat)
  case atStart => exact ⟨0, by omega, rfl, h6, hb6, hz6⟩
  case round =>
    clear h6 hb6 hz6
    obtain ⟨k, hk, rfl, hr, hbe, hze⟩ := hrel
    by_cases hlt : k < L
    · have HLT : Hid (k < L) := hlt
      have hlt2 : (k : Int) < (L : Int) := by omega
      have hc := hr.cell (ints_get (fun c => if c < k then -1 else 0) hlt)
      have hf := hr.frozen k
      have HN : Hid (RowAt (wr.setCell ⟨w.heap.size, k, none⟩ (.int .i64 (-1))) w.heap.size 3 (ints L fun c => if c < k + 1 then -1 else 0) ∧ Below w.heap.size w (wr.setCell ⟨w.heap.size, k, none⟩ (.int .i64 (-1))) ∧ (wr.setCell ⟨w.heap.size, k, none⟩ (.int .i64 (-1))).heap.size = w.heap.size + 1) := by
        refine ⟨?_, hbe.setCell (p := ⟨w.heap.size, k, none⟩) (Nat.le_refl _) _, by simpa using hze⟩
        have h1 := hr.set k (.int .i64 (-1))
        rw [ints_set] at h1
        have e : upd (fun c => if c < k then (-1 : Int) else 0) k (-1) = fun c => if c < k + 1 then -1 else 0 := funext fun c => by
          unfold upd
          by_cases e1 : c = k
          · rw [if_pos e1, if_pos (by omega)]
          · rw [if_neg e1]
            show (if c < k then (-1 : Int) else 0) = if c < k + 1 then -1 else 0
            by_cases e2 : c < k
            · rw [if_pos e2, if_pos (by omega)]
            · rw [if_neg e2, if_neg (by omega)]
        rw [e] at h1
        exact h1
      clear hlt hr hbe hze
      go_wp2
      go_roundw
      case rel => exact ⟨k + 1, HLT.out, by go_num, HN.out.1, HN.out.2.1, HN.out.2.2⟩
      case measure => have := HLT.out; simp [intOf]; omega
    · obtain rfl : k = L := by omega
      have hnn : ¬ ((k : Nat) : Int) < ((k : Nat) : Int) := by omega
      have hmk8 := run_make_row' (P := Try.prog) 45 4 (.bool false) 1 Try.underlying45 g_info_bool rfl .i64 .i64 m (by omega) (by omega)
      rw [made_tabT] at hmk8
      have e6 : (ints k fun c => if c < k then (-1 : Int) else 0) = ints k fun c => sI ((fun _ => none) c) := ints_ext fun i hi => if_pos hi
      rw [e6] at hr
      have hcol : ColS R0 w (wr.alloc (.cells (tab m fun _ => .bool false) 4)) g w.heap.size (w.heap.size + 1) m k k := by
        have h8 := RowAt.new wr 4 (tab m fun _ => .bool false)
        rw [hze] at h8
        have hba := hbe.alloc hbe.size (.cells (tab m fun _ => .bool false) 4)
        exact ⟨R0, fun _ => false, fun _ => none, ⟨fun r j hr' hj => ⟨(hba.cell (p := ⟨g, r * 5 + j, none⟩) hg).trans (HROW.out r j hr' hj).1, (hba.frozen (p := ⟨g, r * 5 + j, none⟩) hg).trans (HROW.out r j hr' hj).2⟩, hr.alloc _, h8, ⟨hba.os, hba.tape, hba.output, hba.size, fun k hk _ => hba.block k hk⟩, hg, Nat.le_refl _, Nat.lt_succ_self _⟩, HWD.out, Inv.start _ _ _⟩
      have hq8 : wr.heap.size = w.heap.size + 1 := hze
      clear hlt e6 hr hbe
      go_upto_region 8 with fail
      try rw [hq8]
      have HCOL := (show Hid _ from hcol)
      generalize wr.alloc (.cells (tab m fun _ => .bool false) 4) = V0 at *
      clear hmk8 hcol hq8 hze
      generalize hq6 : w.heap.size + 1 = q8 at *
      have HQ8 := (show Hid (w.heap.size + 1 = q8) from hq6)
      clear hq6
      go_wp2_with fail
      go_loopw [9] (fun x W => ∃ kk : Nat, kk ≤ k ∧ x = .int .i64 ((kk : Int) - 1) ∧ ColS R0 w W g w.heap.size q8 m k kk) (fun x _ => (intOf x + 1).toNat)
      case atStart => exact ⟨k, by omega, rfl, HCOL.out⟩
      case round =>
        clear HCOL
        obtain ⟨kk, hkk, rfl, R, us, st, hsv, hwd, hinv⟩ := hrel
        by_cases h0 : kk = 0
        · subst h0
          have HINV := (show Hid _ from hinv)
          have HWR := (show Hid _ from hwd)
          have hm1 : ((0 : Nat) : Int) - 1 = -1 := by omega
          rw [hm1]
          have hk320 : k < 320 := by omega
          have hmk13 := run_make_row' (P := Try.prog) 22 3 (.int .i64 0) 8 Try.underlying22 g_info_int rfl .i64 .i64 k (by omega) (by omega)
          rw [made_tabT] at hmk13
          obtain ⟨x, hx⟩ : ∃ x, x = off (fun r c => rbit (R r) c) k st := ⟨_, rfl⟩
          have HX := (show Hid _ from hx)
          have HF : Hid (SvS w (wr.alloc (.cells (tab k fun _ => .int .i64 0) 3)) g w.heap.size q8 m k R us st ∧ RowAt (wr.alloc (.cells (tab k fun _ => .int .i64 0) 3)) wr.heap.size 3 (ints k fun c => if c < 0 ∧ x c = true then 1 else 0) ∧ q8 < wr.heap.size) := by
            refine ⟨hsv.step ((Below.refl _ wr).alloc (Nat.le_refl _) _), ?_, hsv.s8.lt⟩
            have e : (ints k fun c => if c < 0 ∧ x c = true then (1 : Int) else 0) = tab k fun _ => .int .i64 0 := tab_ext fun i _ => by show Value.int .i64 (if i < 0 ∧ x i = true then (1 : Int) else 0) = _; rw [if_neg (by omega)]
            rw [e]
            exact RowAt.new wr _ _
          clear hsv hwd hinv hx hm1
          go_wp2_with fail
          generalize wr.alloc (.cells (tab k fun _ => .int .i64 0) 3) = V1 at *
          generalize wr.heap.size = q13 at *
          clear hmk13
          go_loopw [106] (fun v W => ∃ n : Nat, n ≤ k ∧ v = .int .i64 (n : Nat) ∧ SvS w W g w.heap.size q8 m k R us st ∧ RowAt W q13 3 (ints k fun c => if c < n ∧ x c = true then 1 else 0) ∧ q8 < q13) (fun v _ => ((k : Int) - intOf v).toNat)
          case atStart => exact ⟨0, by omega, rfl, HF.out⟩
          case round =>
            clear HF
            obtain ⟨n, hn, rfl, hsv, hr, hq⟩ := hrel
            have HSV := (show Hid _ from hsv)
            have HR13 := (show Hid _ from hr)
            have HQ13 := (show Hid _ from hq)
            by_cases hlt : n < k
            · have HLT : Hid (n < k) := hlt
              have hlt2 : (n : Int) < (k : Int) := by omega
              have hcl := hsv.s6.cell (ints_get (fun c => sI (st c)) hlt)
              cases hst : st n with
              | none =>
                have hx0 : x n = false := by rw [HX.out]; unfold off; rw [hst]
                have HR2 : Hid (RowAt wr q13 3 (ints k fun c => if c < n + 1 ∧ x c = true then 1 else 0)) := by rw [tp_no hx0]; exact hr
                rw [hst] at hcl
                have hcl2 : wr.cell? ⟨w.heap.size, n, none⟩ = some (.int .i64 (-1)) := hcl
                clear hcl hst hx0 hlt hsv hr hq
                go_wp2
                go_roundw
                case rel => exact ⟨n + 1, HLT.out, by go_num, HSV.out, HR2.out, HQ13.out⟩
                case measure => have := HLT.out; simp [intOf]; omega
              | some i =>
                obtain ⟨hi, _, _, _⟩ := HINV.out.piv n i (Nat.zero_le _) hlt hst
                have hxi : x n = rbit (R i) k := by rw [HX.out]; unfold off; rw [hst]
                have HXI := (show Hid _ from hxi)
                rw [hst] at hcl
                have hcl2 : wr.cell? ⟨w.heap.size, n, none⟩ = some (.int .i64 (i : Nat)) := hcl
                have hi2 : (i : Int) < (m : Int) := by omega
                have hi0 : (0 : Int) ≤ (i : Int) := by omega
                have hrg := hsv.range hi
                have HBT := (show Hid (∀ W, Calls Try.prog 25 #[.agg (u64s 5 (R i)), .int .i64 (k : Nat)] W fun e w' => e = .returned (.bool (rbit (R i) k)) ∧ Below W.heap.size W w') from fun W => rbit_any (R i) (HWR.out i) k hk320 W)
                clear hcl hst hxi hlt hsv hr hq hi
                go_wp2_with (first | refine wpList_load_arr_w rfl 48 _ rfl g (i * 5) rfl (u64s 5 (R i)) _ hrg Try.underlying48 rfl (by rw [u64s_size]; exact g_info_row) ?_)
                refine (HBT.out _).mono ?_
                rintro e W3 ⟨rfl, hb⟩
                have hsv3 := HSV.out.step hb
                have hr3 := RowAt.below HR13.out hb (RowAt.lt HR13.out)
                clear hb HSV HBT hrg hcl2 HR13
                cases hbt : rbit (R i) k
                · have HR2 : Hid (RowAt W3 q13 3 (ints k fun c => if c < n + 1 ∧ x c = true then 1 else 0)) := by rw [tp_no (HXI.out.trans hbt)]; exact hr3
                  have HS3 := (show Hid _ from hsv3)
                  clear hbt hsv3 hr3
                  go_wp2
                  go_roundw
                  case rel => exact ⟨n + 1, HLT.out, by go_num, HS3.out, HR2.out, HQ13.out⟩
                  case measure => have := HLT.out; simp [intOf]; omega
                · have c13 := hr3.cell (ints_get (fun c => if c < n ∧ x c = true then 1 else 0) HLT.out)
                  have f13 := hr3.frozen n
                  have HS4 : Hid (SvS w (W3.setCell ⟨q13, n, none⟩ (.int .i64 1)) g w.heap.size q8 m k R us st) := hsv3.stepB (Below.setCell (Below.refl q13 W3) (p := ⟨q13, n, none⟩) (Nat.le_refl _) _) HQ13.out
                  have HR4 : Hid (RowAt (W3.setCell ⟨q13, n, none⟩ (.int .i64 1)) q13 3 (ints k fun c => if c < n + 1 ∧ x c = true then 1 else 0)) := by
                    have h1 := hr3.set n (.int .i64 1)
                    rw [ints_set, tp_yes (HXI.out.trans hbt)] at h1
                    exact h1
                  clear hbt hsv3 hr3
                  go_wp2
                  go_roundw
                  case rel => exact ⟨n + 1, HLT.out, by go_num, HS4.out, HR4.out, HQ13.out⟩
                  case measure => have := HLT.out; simp [intOf]; omega
            · obtain rfl : k = n := by omega
              have hnn3 : ¬ ((k : Nat) : Int) < ((k : Nat) : Int) := by omega
              clear hlt hsv hr hq
              go_wp2_with fail
              go_loopw [127] (fun v W => ∃ n : Nat, n ≤ m ∧ v = .int .i64 (n : Nat) ∧ SvS w W g w.heap.size q8 m k R us st ∧ RowAt W q13 3 (ints k fun c => if c < k ∧ x c = true then 1 else 0) ∧ ∀ r, r < n → us r = false → rbit (R r) k = false) (fun v _ => ((m : Int) - intOf v).toNat)
              case atStart => exact ⟨0, by omega, rfl, HSV.out, HR13.out, fun r hr => by omega⟩
              case round =>
                clear HSV HR13
                obtain ⟨n, hn, rfl, hsv, hr, hz⟩ := hrel
                by_cases hlt : n < m
                case neg =>
                  obtain rfl : m = n := by omega
                  have hnn4 : ¬ ((m : Nat) : Int) < ((m : Nat) : Int) := by omega
                  have HFIN : Hid (SolvedP R0 k m g w (.returned (.tuple #[.slice (some ⟨q13, 0, none⟩) k k, .bool true])) wr) := by
                    refine ⟨hsv.grow, .inl ⟨q13, x, rfl, ?_, ?_, ?_, ?_⟩⟩
                    · have e : (ints k fun c => if c < k ∧ x c = true then (1 : Int) else 0) = ints k fun c => if x c = true then 1 else 0 := ints_ext fun c hc => by
                        show (if c < k ∧ x c = true then (1 : Int) else 0) = if x c = true then 1 else 0
                        by_cases e : x c = true
                        · rw [if_pos ⟨hc, e⟩, if_pos e]
                        · rw [if_neg (fun h => e h.2), if_neg e]
                      rw [← e]
                      exact hr
                    · have h1 := hsv.l8
                      have h2 := HQ13.out
                      omega
                    · rw [HX.out]; exact HINV.out.solves hz
                    · rw [HX.out]; exact fun y hy j hj h1 h2 => HINV.out.first hz hy hj h1 h2
                  clear hsv hr hz hlt
                  go_wp2
                  exact bodyPost_ret (v := .tuple #[.slice (some ⟨q13, 0, none⟩) k k, .bool true]) (by simp [results, Try.results21, go_sem]) rfl HFIN.out
                have HLT : Hid (n < m) := hlt
                have hlt2 : (n : Int) < (m : Int) := by omega
                have HSV := (show Hid _ from hsv)
                have HR13 := (show Hid _ from hr)
                have hu := hsv.s8.cell (bools_get us hlt)
                have hrg := hsv.range hlt
                have HBT := (show Hid (∀ W, Calls Try.prog 25 #[.agg (u64s 5 (R n)), .int .i64 (k : Nat)] W fun e w' => e = .returned (.bool (rbit (R n) k)) ∧ Below W.heap.size W w') from fun W => rbit_any (R n) (HWR.out n) k hk320 W)
                have HNEXT : Hid ((us n = false → rbit (R n) k = false) → ∀ r, r < n + 1 → us r = false → rbit (R r) k = false) := fun h r hr' => by
                  by_cases e : r = n
                  · rw [e]; exact h
                  · exact hz r (by omega)
                clear hsv hr hz hlt
                cases hus : us n
                case true =>
                  rw [hus] at hu
                  have HN := (show Hid _ from HNEXT.out (fun h => by rw [hus] at h; cases h))
                  clear hus HNEXT hrg
                  go_wp2
                  go_roundw
                  case rel => exact ⟨n + 1, HLT.out, by go_num, HSV.out, HR13.out, HN.out⟩
                  case measure => have := HLT.out; simp [intOf]; omega
                rw [hus] at hu
                have HUS := (show Hid _ from hus)
                clear hus
                go_wp2_with (first | refine wpList_load_arr_w rfl 48 _ rfl g (n * 5) rfl (u64s 5 (R n)) _ hrg Try.underlying48 rfl (by rw [u64s_size]; exact g_info_row) ?_)
                refine (HBT.out _).mono ?_
                rintro e W3 ⟨rfl, hb⟩
                have hsv3 := HSV.out.step hb
                have hr3 := RowAt.below HR13.out hb (RowAt.lt HR13.out)
                clear hb HSV HBT hrg hu HR13
                cases hbt : rbit (R n) k
                · have HN := (show Hid _ from HNEXT.out (fun _ => hbt))
                  have HS3 := (show Hid _ from hsv3)
                  have HR3 := (show Hid _ from hr3)
                  clear hbt hsv3 hr3 HNEXT
                  go_wp2
                  go_roundw
                  case rel => exact ⟨n + 1, HLT.out, by go_num, HS3.out, HR3.out, HN.out⟩
                  case measure => have := HLT.out; simp [intOf]; omega
                · have HFIN : Hid (SolvedP R0 k m g w (.returned (.tuple #[.slice none 0 0, .bool false])) W3) := ⟨hsv3.grow, .inr ⟨rfl, fun y => HINV.out.fails HLT.out HUS.out hbt y⟩⟩
                  clear hbt hsv3 hr3 HNEXT
                  go_wp2
                  exact bodyPost_ret (v := .tuple #[.slice none 0 0, .bool false]) (by simp [results, Try.results21, go_sem]) rfl HFIN.out
        · obtain ⟨c, rfl⟩ : ∃ c, kk = c + 1 := ⟨kk - 1, by omega⟩
          have hcs : ((c + 1 : Nat) : Int) - 1 = (c : Int) := by omega
          rw [hcs]
          have HCK : Hid (c < k) := by rw [Hid]; omega
          have hck : (c : Int) < (k : Int) := by omega
          have hc320 : c < 320 := by omega
          have HSV := (show Hid _ from hsv)
          have HWR := (show Hid _ from hwd)
          have HINV := (show Hid _ from hinv)
          clear hsv hwd hinv hcs h0
          go_wp2_with fail
          go_loopw [39] (fun x W => ∃ i : Nat, i ≤ m ∧ x = .int .i64 (i : Nat) ∧ SvS w W g w.heap.size q8 m k R us st ∧ ∀ r, r < i → us r = true ∨ rbit (R r) c = false) (fun x _ => ((m : Int) - intOf x).toNat)
          case atStart => exact ⟨0, by omega, rfl, HSV.out, fun r hr => by omega⟩
          case round =>
            clear HSV
            obtain ⟨i, hi, rfl, hsv, hno⟩ := hrel
            have HSV := (show Hid _ from hsv)
            have HNO := (show Hid _ from hno)
            by_cases hlt : i < m
            case neg =>
              obtain rfl : i = m := by omega
              have hnn2 : ¬ ((i : Nat) : Int) < ((i : Nat) : Int) := by omega
              have HN : Hid (ColS R0 w wr g w.heap.size q8 i k c) := ⟨R, us, st, hsv, HWR.out, HINV.out.skip hno⟩
              clear hsv hno hlt
              go_wp2
              go_roundw
              case rel => exact ⟨c, by have := HCK.out; omega, by go_num, HN.out⟩
              case measure => simp [intOf]
            have HLT : Hid (i < m) := hlt
            have hlt2 : (i : Int) < (m : Int) := by omega
            have hu := hsv.s8.cell (bools_get us hlt)
            have hrg := hsv.range hlt
            have HBT := (show Hid (∀ W, Calls Try.prog 25 #[.agg (u64s 5 (R i)), .int .i64 (c : Nat)] W fun e w' => e = .returned (.bool (rbit (R i) c)) ∧ Below W.heap.size W w') from fun W => rbit_any (R i) (HWR.out i) c hc320 W)
            have HNEXT : Hid ((us i = true ∨ rbit (R i) c = false) → ∀ r, r < i + 1 → us r = true ∨ rbit (R r) c = false) := fun h r hr => by
              by_cases e : r = i
              · rw [e]; exact h
              · exact HNO.out r (by omega)
            clear hsv hno hlt
            cases hus : us i
            case true =>
              rw [hus] at hu
              have HN := (show Hid _ from HNEXT.out (.inl hus))
              clear hus HNEXT hrg
              go_wp2
              go_roundw
              case rel => exact ⟨i + 1, HLT.out, by go_num, HSV.out, HN.out⟩
              case measure => have := HLT.out; simp [intOf]; omega
            rw [hus] at hu
            have HUS := (show Hid _ from hus)
            clear hus
            go_wp2_with (first | refine wpList_load_arr_w rfl 48 _ rfl g (i * 5) rfl (u64s 5 (R i)) _ hrg Try.underlying48 rfl (by rw [u64s_size]; exact g_info_row) ?_)
            refine (HBT.out _).mono ?_
            rintro e W3 ⟨rfl, hb⟩
            have hsv3 := HSV.out.step hb
            clear hb HSV HBT hu hrg
            cases hbt : rbit (R i) c
            · have HN := (show Hid _ from HNEXT.out (.inr hbt))
              have HS3 := (show Hid _ from hsv3)
              clear hbt HNEXT hsv3
              go_wp2
              go_roundw
              case rel => exact ⟨i + 1, HLT.out, by go_num, HS3.out, HN.out⟩
              case measure => have := HLT.out; simp [intOf]; omega
            · have HBI := (show Hid _ from hbt)
              have c8 := hsv3.s8.cell (bools_get us HLT.out)
              have f8 := hsv3.s8.frozen i
              have hs8 := hsv3.set8 i
              have c6 := hs8.s6.cell (ints_get (fun c => sI (st c)) (i := c) HCK.out)
              have f6 := hs8.s6.frozen c
              have HS6 : Hid (SvS w ((W3.setCell ⟨q8, i, none⟩ (.bool true)).setCell ⟨w.heap.size, c, none⟩ (.int .i64 (i : Nat))) g w.heap.size q8 m k R (fun r => if r = i then true else us r) (fun x => if x = c then some i else st x)) := hs8.set6 c (some i)
              clear hbt HNEXT hsv3 hs8
              go_wp2_with fail
              generalize (W3.setCell ⟨q8, i, none⟩ (.bool true)).setCell ⟨w.heap.size, c, none⟩ (.int .i64 (i : Nat)) = Z at *
              clear c8 f8 c6 f6
              go_loopw [64] (fun x W => ∃ j : Nat, j ≤ m ∧ x = .int .i64 (j : Nat) ∧ SvS w W g w.heap.size q8 m k (el R i c j) (fun r => if r = i then true else us r) (fun x => if x = c then some i else st x)) (fun x _ => ((m : Int) - intOf x).toNat)
              case atStart => exact ⟨0, by omega, rfl, by rw [el_zero]; exact HS6.out⟩
              case round =>
                clear HS6
                obtain ⟨j, hj, rfl, hsv⟩ := hrel
                have HSV := (show Hid _ from hsv)
                by_cases hltj : j < m
                case neg =>
                  obtain rfl : j = m := by omega
                  have hnn2 : ¬ ((j : Nat) : Int) < ((j : Nat) : Int) := by omega
                  have HN : Hid (ColS R0 w wr g w.heap.size q8 j k c) := ⟨el R i c j, _, _, hsv, fun r => el_wd HWR.out i c j r, Inv.congr (HINV.out.take HCK.out HLT.out HUS.out HBI.out) fun r c' hr hc' => (el_bits hr (by omega)).symm⟩
                  clear hsv hltj
                  go_wp2
                  go_roundw
                  case rel => exact ⟨c, by have := HCK.out; omega, by go_num, HN.out⟩
                  case measure => simp [intOf]
                have HLJ : Hid (j < m) := hltj
                have hltj2 : (j : Int) < (m : Int) := by omega
                by_cases hji : j = i
                · have hjb : (((j : Nat) : Int) != ((i : Nat) : Int)) = false := by rw [hji]; simp
                  have HN : Hid (SvS w wr g w.heap.size q8 m k (el R i c (j + 1)) (fun r => if r = i then true else us r) (fun x => if x = c then some i else st x)) := by rw [el_no (fun h => h.1 hji)]; exact hsv
                  clear hji hsv hltj
                  go_wp2
                  go_roundw
                  case rel => exact ⟨j + 1, HLJ.out, by go_num, HN.out⟩
                  case measure => have := HLJ.out; simp [intOf]; omega
                · have hjb : (((j : Nat) : Int) != ((i : Nat) : Int)) = true := by simp; omega
                  have hrg := hsv.range hltj
                  rw [el_later R i c j (Nat.le_refl _)] at hrg
                  have HBT := (show Hid (∀ W, Calls Try.prog 25 #[.agg (u64s 5 (R j)), .int .i64 (c : Nat)] W fun e w' => e = .returned (.bool (rbit (R j) c)) ∧ Below W.heap.size W w') from fun W => rbit_any (R j) (HWR.out j) c hc320 W)
                  have HJI := (show Hid _ from hji)
                  clear hsv hltj hji
                  go_wp2_with (first | refine wpList_load_arr_w rfl 48 _ rfl g (j * 5) rfl (u64s 5 (R j)) _ hrg Try.underlying48 rfl (by rw [u64s_size]; exact g_info_row) ?_)
                  refine (HBT.out _).mono ?_
                  rintro e W4 ⟨rfl, hb⟩
                  have hsv4 := HSV.out.step hb
                  clear hb HSV HBT hrg
                  cases hbj : rbit (R j) c
                  · have HN : Hid (SvS w W4 g w.heap.size q8 m k (el R i c (j + 1)) (fun r => if r = i then true else us r) (fun x => if x = c then some i else st x)) := by rw [el_no (fun h => by rw [hbj] at h; cases h.2)]; exact hsv4
                    clear hbj hsv4
                    go_wp2
                    go_roundw
                    case rel => exact ⟨j + 1, HLJ.out, by go_num, HN.out⟩
                    case measure => have := HLJ.out; simp [intOf]; omega
                  · have HEY := (show Hid _ from el_yes ⟨HJI.out, hbj⟩)
                    have HS5 : Hid (SvS w W4 g w.heap.size q8 m k (xw (el R i c j) j i 0) (fun r => if r = i then true else us r) (fun x => if x = c then some i else st x)) := by rw [xw_zero]; exact hsv4
                    have HEW := (show Hid (∀ r, Wd (el R i c j r)) from fun r => el_wd HWR.out i c j r)
                    generalize el R i c j = E at *
                    clear hbj hsv4
                    go_wp2_with fail
                    go_loopw [78] (fun x W => ∃ t : Nat, t ≤ 5 ∧ x = .int .i64 (t : Nat) ∧ SvS w W g w.heap.size q8 m k (xw E j i t) (fun r => if r = i then true else us r) (fun x => if x = c then some i else st x)) (fun x _ => ((5 : Int) - intOf x).toNat)
                    case atStart => exact ⟨0, by omega, rfl, HS5.out⟩
                    case round =>
                      clear HS5
                      obtain ⟨t, ht, rfl, hsv⟩ := hrel
                      by_cases hltt : t < 5
                      case neg =>
                        obtain rfl : t = 5 := by omega
                        have HN : Hid (SvS w wr g w.heap.size q8 m k (el R i c (j + 1)) (fun r => if r = i then true else us r) (fun x => if x = c then some i else st x)) := by rw [← HEY.out]; exact hsv
                        clear hsv hltt
                        go_wp2
                        go_roundw
                        case rel => exact ⟨j + 1, HLJ.out, by go_num, HN.out⟩
                        case measure => have := HLJ.out; simp [intOf]; omega
                      have HLTT : Hid (t < 5) := hltt
                      have hlt5 : (t : Int) < 5 := by omega
                      have hcj := hsv.rows j t HLJ.out hltt
                      have hci := hsv.rows i t HLT.out hltt
                      have exj : xw E j i t j t = E j t := by unfold xw; rw [upd_same, if_neg (Nat.lt_irrefl _)]
                      have exi : xw E j i t i t = E i t := by unfold xw; rw [upd_other _ _ (fun e => HJI.out e.symm)]
                      rw [exj] at hcj
                      rw [exi] at hci
                      have HXB := (show Hid (bits .xor .u64 (E j t : Int) (E i t : Int) = ((E j t ^^^ E i t : Nat) : Int)) from bits_xor64 (HEW.out j t) (HEW.out i t))
                      have HNX : Hid (SvS w (wr.drew.setCell ⟨g, j * 5 + t, none⟩ (.int .u64 ((E j t ^^^ E i t : Nat) : Int))) g w.heap.size q8 m k (xw E j i (t + 1)) (fun r => if r = i then true else us r) (fun x => if x = c then some i else st x)) := by
                        have hd : SvS w wr.drew g w.heap.size q8 m k (xw E j i t) (fun r => if r = i then true else us r) (fun x => if x = c then some i else st x) := ⟨hsv.rows, hsv.s6, hsv.s8, ⟨hsv.grow.os, hsv.grow.tape, hsv.grow.output, hsv.grow.size, hsv.grow.block⟩, hsv.lg, hsv.l6, hsv.l8⟩
                        have h1 := hd.setR HLJ.out hltt (E j t ^^^ E i t)
                        rw [xw_step] at h1
                        exact h1
                      clear hsv hltt exj exi
                      obtain ⟨x, hx⟩ : ∃ x, x = E j t := ⟨_, rfl⟩
                      obtain ⟨y, hy⟩ : ∃ y, y = E i t := ⟨_, rfl⟩
                      rw [← hx] at hcj HXB HNX
                      rw [← hy] at hci HXB HNX
                      clear hx hy
                      go_upto_region 24 with fail
                      refine wp_region_noPanic ?_
                      refine wp_region_late_drew (S := fun W => W.cell? ⟨g, j * 5 + t, none⟩ = some (.int .u64 (x : Nat)) ∧ W.cell? ⟨g, i * 5 + t, none⟩ = some (.int .u64 (y : Nat))) (T := fun _ => True) (fun j => j == 18) (by kernel_rfl) ?_
                      have hS : wr.drew.cell? ⟨g, j * 5 + t, none⟩ = some (.int .u64 (x : Nat)) ∧ wr.drew.cell? ⟨g, i * 5 + t, none⟩ = some (.int .u64 (y : Nat)) := ⟨hcj.1, hci.1⟩
                      have hT : True := trivial
                      have hfj : wr.drew.frozen? ⟨g, j * 5 + t, none⟩ = false := hcj.2
                      obtain ⟨U, hU⟩ : ∃ x, x = wr.drew := ⟨_, rfl⟩
                      rw [← hU] at hS hfj HNX ⊢
                      clear hU hcj hci
                      refine ltake 0 81 (.slice (some ⟨g, 0, none⟩) m cap) rfl rfl (by kernel_rfl) (by kernel_rfl) (by kernel_rfl) rfl (by kernel_rfl) (by kernel_rfl) (fun _ _ _ _ h => h) (by rfl) (fun W hW => by clear hS hT hW; go_simp) hS hT ?_
                      simp only [List.setIfInBounds_toArray, List.set_cons_succ, List.set_cons_zero]
                      refine ltake 1 82 (.int .i64 (j : Nat)) rfl rfl (by kernel_rfl) (by kernel_rfl) (by kernel_rfl) rfl (by kernel_rfl) (by kernel_rfl) (fun _ _ _ _ h => h) (by rfl) (fun W hW => by clear hS hT hW; go_simp) hS hT ?_
                      simp only [List.setIfInBounds_toArray, List.set_cons_succ, List.set_cons_zero]
                      refine ltake 2 83 (.int .i64 (t : Nat)) rfl rfl (by kernel_rfl) (by kernel_rfl) (by kernel_rfl) rfl (by kernel_rfl) (by kernel_rfl) (fun _ _ _ _ h => h) (by rfl) (fun W hW => by clear hS hT hW; go_simp) hS hT ?_
                      simp only [List.setIfInBounds_toArray, List.set_cons_succ, List.set_cons_zero]
                      refine ltake 3 84 (.slice (some ⟨g, 0, none⟩) m cap) rfl rfl (by kernel_rfl) (by kernel_rfl) (by kernel_rfl) rfl (by kernel_rfl) (by kernel_rfl) (fun _ _ _ _ h => h) (by rfl) (fun W hW => by clear hS hT hW; go_simp) hS hT ?_
                      simp only [List.setIfInBounds_toArray, List.set_cons_succ, List.set_cons_zero]
                      refine ltake 4 85 (.int .i64 (j : Nat)) rfl rfl (by kernel_rfl) (by kernel_rfl) (by kernel_rfl) rfl (by kernel_rfl) (by kernel_rfl) (fun _ _ _ _ h => h) (by rfl) (fun W hW => by clear hS hT hW; go_simp) hS hT ?_
                      simp only [List.setIfInBounds_toArray, List.set_cons_succ, List.set_cons_zero]
                      refine ltake 5 86 (.int .i64 (t : Nat)) rfl rfl (by kernel_rfl) (by kernel_rfl) (by kernel_rfl) rfl (by kernel_rfl) (by kernel_rfl) (fun _ _ _ _ h => h) (by rfl) (fun W hW => by clear hS hT hW; go_simp) hS hT ?_
                      simp only [List.setIfInBounds_toArray, List.set_cons_succ, List.set_cons_zero]
                      refine ltake 6 87 (.pointer (some ⟨g, j * 5, none⟩)) rfl rfl (by kernel_rfl) (by kernel_rfl) (by kernel_rfl) rfl (by kernel_rfl) (by kernel_rfl) (fun _ _ _ _ h => h) (by rfl) (fun W hW => by clear hS hT hW; go_simp) hS hT ?_
                      simp only [List.setIfInBounds_toArray, List.set_cons_succ, List.set_cons_zero]
                      refine ltake 7 88 (.pointer (some ⟨g, j * 5 + t, none⟩)) rfl rfl (by kernel_rfl) (by kernel_rfl) (by kernel_rfl) rfl (by kernel_rfl) (by kernel_rfl) (fun _ _ _ _ h => h) (by rfl) (fun W hW => by have u1 : ¬ (5 : Int) ≤ (t : Int) := (by omega); clear hS hT hW; go_simp) hS hT ?_
                      simp only [List.setIfInBounds_toArray, List.set_cons_succ, List.set_cons_zero]
                      refine ltake 8 89 (.int .u64 (x : Nat)) rfl rfl (by kernel_rfl) (by kernel_rfl) (by kernel_rfl) rfl (by kernel_rfl) (by kernel_rfl) (fun _ _ _ _ h => h) (by rfl) (fun W hW => by have u := hW.1; clear hS hT hW; go_simp) hS hT ?_
                      simp only [List.setIfInBounds_toArray, List.set_cons_succ, List.set_cons_zero]
                      refine ltake 9 90 (.slice (some ⟨g, 0, none⟩) m cap) rfl rfl (by kernel_rfl) (by kernel_rfl) (by kernel_rfl) rfl (by kernel_rfl) (by kernel_rfl) (fun _ _ _ _ h => h) (by rfl) (fun W hW => by clear hS hT hW; go_simp) hS hT ?_
                      simp only [List.setIfInBounds_toArray, List.set_cons_succ, List.set_cons_zero]
                      refine ltake 10 91 (.int .i64 (i : Nat)) rfl rfl (by kernel_rfl) (by kernel_rfl) (by kernel_rfl) rfl (by kernel_rfl) (by kernel_rfl) (fun _ _ _ _ h => h) (by rfl) (fun W hW => by clear hS hT hW; go_simp) hS hT ?_
                      simp only [List.setIfInBounds_toArray, List.set_cons_succ, List.set_cons_zero]
                      refine ltake 11 92 (.int .i64 (t : Nat)) rfl rfl (by kernel_rfl) (by kernel_rfl) (by kernel_rfl) rfl (by kernel_rfl) (by kernel_rfl) (fun _ _ _ _ h => h) (by rfl) (fun W hW => by clear hS hT hW; go_simp) hS hT ?_
                      simp only [List.setIfInBounds_toArray, List.set_cons_succ, List.set_cons_zero]
                      refine ltake 12 93 (.pointer (some ⟨g, i * 5, none⟩)) rfl rfl (by kernel_rfl) (by kernel_rfl) (by kernel_rfl) rfl (by kernel_rfl) (by kernel_rfl) (fun _ _ _ _ h => h) (by rfl) (fun W hW => by clear hS hT hW; go_simp) hS hT ?_
                      simp only [List.setIfInBounds_toArray, List.set_cons_succ, List.set_cons_zero]
                      refine ltake 13 94 (.pointer (some ⟨g, i * 5 + t, none⟩)) rfl rfl (by kernel_rfl) (by kernel_rfl) (by kernel_rfl) rfl (by kernel_rfl) (by kernel_rfl) (fun _ _ _ _ h => h) (by rfl) (fun W hW => by have u1 : ¬ (5 : Int) ≤ (t : Int) := (by omega); clear hS hT hW; go_simp) hS hT ?_
                      simp only [List.setIfInBounds_toArray, List.set_cons_succ, List.set_cons_zero]
                      refine ltake 14 95 (.int .u64 (y : Nat)) rfl rfl (by kernel_rfl) (by kernel_rfl) (by kernel_rfl) rfl (by kernel_rfl) (by kernel_rfl) (fun _ _ _ _ h => h) (by rfl) (fun W hW => by have u := hW.2; clear hS hT hW; go_simp) hS hT ?_
                      simp only [List.setIfInBounds_toArray, List.set_cons_succ, List.set_cons_zero]
                      refine ltake 15 96 (.int .u64 ((x ^^^ y : Nat) : Int)) rfl rfl (by kernel_rfl) (by kernel_rfl) (by kernel_rfl) rfl (by kernel_rfl) (by kernel_rfl) (fun _ _ _ _ h => h) (by rfl) (fun W hW => by have u := HXB.out; clear hS hT hW; go_simp) hS hT ?_
                      simp only [List.setIfInBounds_toArray, List.set_cons_succ, List.set_cons_zero]
                      refine ttake 16 97 (.pointer (some ⟨g, j * 5, none⟩)) rfl rfl (by kernel_rfl) (by kernel_rfl) (by kernel_rfl) rfl (fun _ _ _ _ h => h) (by rfl) (fun W hW => by clear hS hT hW; go_simp) (fun _ => hS) hT ?_
                      simp only [List.setIfInBounds_toArray, List.set_cons_succ, List.set_cons_zero]
                      refine ltake 17 98 (.pointer (some ⟨g, j * 5 + t, none⟩)) rfl rfl (by kernel_rfl) (by kernel_rfl) (by kernel_rfl) rfl (by kernel_rfl) (by kernel_rfl) (fun _ _ _ _ h => h) (by rfl) (fun W hW => by have u1 : ¬ (5 : Int) ≤ (t : Int) := (by omega); clear hS hT hW; go_simp) hS hT ?_
                      simp only [List.setIfInBounds_toArray, List.set_cons_succ, List.set_cons_zero]
                      refine late_one 18 (by kernel_rfl) (late_storeI 18 _ rfl (by rfl) rfl 46 (.tmp 98) (.tmp 96) rfl g_size_u64 ⟨g, j * 5 + t, none⟩ rfl .u64 ((x ^^^ y : Nat) : Int) rfl _ hS.1 hfj (by kernel_rfl) trivial ?_)
                      clear hS hT hfj
                      refine late_done (by kernel_rfl) ?_ _
                      refine NoPanic.normal ?_
                      go_wp2_with fail
                      go_roundw
                      case rel => exact ⟨t + 1, HLTT.out, by go_num, HNX.out⟩
                      case measure => have := HLTT.out; simp [intOf]; omega
end Go.Proofs.Ytflehdigikdhmaa
