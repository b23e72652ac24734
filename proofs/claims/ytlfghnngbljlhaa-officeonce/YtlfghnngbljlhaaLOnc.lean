/-
  OfficeOnce: its function (chapter 16).
-/
import Derived.Test.YtlfghnngbljlhaaOfA
import Derived.Test.YtlfghnngbljlhaaOfOn
import Derived.Deep.DeepCutAuto
import Derived.Deep.QuietTactic
import Derived.BigQuiet
import Derived.BigRegion
namespace Go.Proofs.Ytlfghnngbljlhaa
open Go.RowKit PK Pd

theorem below_draws' {B : Nat} {a w : World} (h : Below B a w) (n : Nat) : Below B a (w.drewN n) := h.trans ⟨rfl, rfl, rfl, Nat.le_refl _, fun _ _ => rfl⟩
theorem g_info_bool : (Try.prog.info? 4).map (fun i => (i.zero, i.size, i.bytes)) = some (some (.bool false), 1, 1) := by kernel_rfl
set_option maxRecDepth 100000 in
set_option maxHeartbeats 8000000 in
theorem once_of (n : Int) (vp vc : Value) (P : Nat) (p : Nat → Int) (K : Nat) (X : Nat → Oc.Sp) (w : World) (hp : NumsAt w vp P p) (hc : StpAt w vc K X) (hP : P * 8 ≤ 140737488355328) (hK : (K + K / 4 + 192) * 56 ≤ 281474976710656) : Calls Try.prog 4 #[.int .i64 n, vp, vc] w fun e w' => e = .returned (.bool true) ∧ Below w.heap.size w w' := by
  have HAL : Hid (Calls Try.prog 9 #[] w fun e w' => e = .returned (.bool true) ∧ Below w.heap.size w w') := alive16 w
  obtain ⟨ua, ub, F1, F2, F3⟩ := Oc.once_facts n P p 2 X (Oc.s0 (or2 0 0))
  have HOF : Hid (∀ W, Below w.heap.size w W → Calls Try.prog 6 #[.int .i64 n, vp, .slice (some ⟨W.heap.size, 0, none⟩) 2 2, vc] (W.alloc (.cells #[.int .i64 0, .int .i64 0] 2)) fun e w' => ∃ v u, e = .returned (.tuple #[v, u, .bool true]) ∧ SenAt w' v K (Oc.seen n P p 2 X (Oc.s0 (or2 0 0))) ∧ NumsAt w' u 2 (Oc.last n P p 2 (or2 0 0) X K) ∧ Below (W.alloc (.cells #[.int .i64 0, .int .i64 0] 2)).heap.size (W.alloc (.cells #[.int .i64 0, .int .i64 0] 2)) w') := fun W hb => by
    have hba := hb.alloc hb.size (.cells #[.int .i64 0, .int .i64 0] 2)
    exact office_any n vp _ vc P p 2 _ K X _ (hp.below hba) (two64 W 0 0) (hc.below hba) (fun c e => by cases e) (by decide) hK
  have hmk := run_make_row' (P := Try.prog) 36 4 (.bool false) 1 Try.underlying36 g_info_bool rfl .i64 .i64 P (by omega) (by omega)
  rw [made_tabT] at hmk
  obtain ⟨Z, hZ⟩ : ∃ Z, Z = Oc.seen n P p 2 X (Oc.s0 (or2 0 0)) := ⟨_, rfl⟩
  rw [← hZ] at HOF
  have HF1 := (show Hid (∀ k, ((Z k).e1 ≠ 0 ∨ (Z k).e2 ≠ 0 ∨ ((X k).sd = false ∧ (X k).tk = false)) → ua (k + 1) = ua k ∧ ub (k + 1) = ub k) from by rw [hZ]; exact F1)
  have HF2 := (show Hid (∀ k, (Z k).e1 = 0 → (Z k).e2 = 0 → (X k).sd = true → ∃ a : Nat, (Z k).pl = a ∧ ua k ≤ a ∧ a + (X k).tn ≤ P ∧ (Z k).tn = (X k).tn ∧ ua (k + 1) = a + (X k).tn ∧ ub (k + 1) = ub k) from by rw [hZ]; exact F2)
  have HF3 := (show Hid (∀ k, (Z k).e1 = 0 → (Z k).e2 = 0 → (X k).sd = false → (X k).tk = true → ∃ a : Nat, (X k).pl = a ∧ ub k ≤ a ∧ a + (X k).tn ≤ P ∧ (Z k).tn = (X k).tn ∧ ub (k + 1) = a + (X k).tn ∧ ua (k + 1) = ua k) from by rw [hZ]; exact F3)
  clear F1 F2 F3 hZ
  obtain ⟨ap, cp, rfl, hmp⟩ := hp.len
  obtain ⟨ac, cc, R0, rfl, hmc, hrc, hnc⟩ := hc
  unfold maxLen at hmp hmc
  have HRC := (show Hid (∀ i, i < K → ∃ b o, ac = some ⟨b, o, none⟩ ∧ w.rangeAt b (o + i * 6) (stc (X i) (R0 i)).toList) from hrc)
  have HNC := (show Hid (∀ i, i < K → NumsAt w (R0 i) (X i).tn (X i).tf) from hnc)
  clear hrc hnc hp
  go_enter Try.func4, Try.ntmps4
  go_wp2_with fail
  refine HAL.out.mono ?_
  rintro e W0 ⟨rfl, hb0⟩
  clear HAL
  go_wp2_with fail
  refine (HOF.out W0 hb0).mono ?_
  rintro e W1 ⟨v, u, rfl, hse, hu, hb1⟩
  obtain ⟨au, cu, rfl, _⟩ := hu.len
  have hbw : Below w.heap.size w W1 := (hb0.alloc hb0.size _).trans (hb1.mono (hb0.alloc hb0.size _).size)
  obtain ⟨a, cap, R, rfl, hmk2, hpt⟩ := hse.part
  have HPT := (show Hid (∀ i, i < K → ∃ b o ar cr, a = some ⟨b, o, none⟩ ∧ R i = .slice ar (Z i).tn cr ∧ W1.cell? ⟨b, o + i * 5, none⟩ = some (.int .i64 (Z i).pl) ∧ W1.cell? ⟨b, o + i * 5 + 1, none⟩ = some (.slice ar (Z i).tn cr) ∧ W1.cell? ⟨b, o + i * 5 + 2, none⟩ = some (.int .i64 (Z i).e1) ∧ W1.cell? ⟨b, o + i * 5 + 3, none⟩ = some (.int .i64 (Z i).e2) ∧ W1.cell? ⟨b, o + i * 5 + 4, none⟩ = some (.int .i64 (Z i).lf) ∧ W1.rangeAt b (o + i * 5) [.int .i64 (Z i).pl, .slice ar (Z i).tn cr, .int .i64 (Z i).e1, .int .i64 (Z i).e2, .int .i64 (Z i).lf] ∧ NumsAt W1 (.slice ar (Z i).tn cr) (Z i).tn (Z i).tf) from hpt)
  clear HOF hse hu hb1 hb0 hpt hmk2
  go_upto_region 6 with fail
  go_cut [10, 11] (fun x y W => ∃ gs gt, x = .slice (some ⟨gs, 0, none⟩) P P ∧ y = .slice (some ⟨gt, 0, none⟩) P P ∧ gs ≠ gt ∧ W1.heap.size ≤ gs ∧ W1.heap.size ≤ gt ∧ RowAt W gs 4 (bools P fun _ => false) ∧ RowAt W gt 4 (bools P fun _ => false) ∧ Below W1.heap.size W1 W)
  case first =>
    have r1 : RowAt ((W1.alloc (.cells (tab P fun _ => .bool false) 4)).alloc (.cells (tab P fun _ => .bool false) 4)) W1.heap.size 4 (bools P fun _ => false) := (RowAt.new W1 _ _).alloc _
    have r2 : RowAt ((W1.alloc (.cells (tab P fun _ => .bool false) 4)).alloc (.cells (tab P fun _ => .bool false) 4)) (W1.heap.size + 1) 4 (bools P fun _ => false) := by
      have := RowAt.new (W1.alloc (.cells (tab P fun _ => .bool false) 4)) 4 (bools P fun _ => false)
      have hz : (W1.alloc (.cells (tab P fun _ => .bool false) 4)).heap.size = W1.heap.size + 1 := by simp
      rw [hz] at this
      exact this
    have hb2 : Below W1.heap.size W1 ((W1.alloc (.cells (tab P fun _ => .bool false) 4)).alloc (.cells (tab P fun _ => .bool false) 4)) := ((Below.refl _ _).alloc (Nat.le_refl _) _).alloc (by simp) _
    have HR1 := (show Hid _ from r1)
    have HR2 := (show Hid _ from r2)
    have HB2 := (show Hid _ from hb2)
    clear r1 r2 hb2
    go_region
    all_goals
      go_wp2_with fail
      go_meet
      first
      | exact ⟨W1.heap.size, W1.heap.size + 1, rfl, rfl, by omega, by omega, by omega, HR1.out, HR2.out, HB2.out.drew⟩
      | exact ⟨W1.heap.size + 1, W1.heap.size, rfl, rfl, by omega, by omega, by omega, HR2.out, HR1.out, HB2.out.drew⟩
      | exact ⟨W1.heap.size, W1.heap.size + 1, rfl, rfl, by omega, by omega, by omega, HR1.out, HR2.out, HB2.out⟩
      | exact ⟨W1.heap.size + 1, W1.heap.size, rfl, rfl, by omega, by omega, by omega, HR2.out, HR1.out, HB2.out⟩
  case rest =>
  obtain ⟨gs, gt, rfl, rfl, hne, hgs, hgt, hrs, hrt, hbe0⟩ := hcut
  clear hmk
  go_wp2_with fail
  go_loopw [46] (fun i W => ∃ (k : Nat) (F G : Nat → Bool), k ≤ K ∧ i = .int .i64 (k : Nat) ∧ RowAt W gs 4 (bools P F) ∧ RowAt W gt 4 (bools P G) ∧ (∀ j, F j = true → j < ua k) ∧ (∀ j, G j = true → j < ub k) ∧ Below W1.heap.size W1 W) (fun i _ => ((K : Int) - intOf i).toNat)
  case atStart => exact ⟨0, _, _, by omega, rfl, hrs, hrt, fun j h => (by cases h), fun j h => (by cases h), hbe0⟩
  case round =>
    clear hrs hrt hbe0
    obtain ⟨k, F, G, hk, rfl, hrs, hrt, hF, hG, hbe⟩ := hrel
    have HF := (show Hid (∀ j, F j = true → j < ua k) from hF)
    have HG := (show Hid (∀ j, G j = true → j < ub k) from hG)
    have hwe := hbe.size
    clear hF hG
    by_cases hlt : k < K
    case neg =>
      obtain rfl : k = K := by omega
      have hnl : ¬ ((k : Nat) : Int) < ((k : Nat) : Int) := by omega
      have HBE : Hid (Below w.heap.size w wr) := hbw.trans (hbe.mono hbw.size)
      clear hrs hrt HRC HNC HPT HF1 HF2 HF3 hlt hbe
      go_wp2
      go_ret
      exact ⟨rfl, HBE.out⟩
    obtain ⟨bc, oc, rfl, hr6⟩ := HRC.out k hlt
    obtain ⟨ar0, cr0, er0, hmr0⟩ := (HNC.out k hlt).len
    rw [er0] at hr6
    obtain ⟨b, o, ar, cr, rfl, _, _, _, _, _, _, hr5, hnz⟩ := HPT.out k hlt
    have hr7 : wr.rangeAt bc (oc + k * 6) [.int .i64 (X k).pw, .bool (X k).op, .bool (X k).sd, .bool (X k).tk, .int .i64 (X k).pl, .slice ar0 (X k).tn cr0] := rangeAt_belowO (rangeAt_belowO hr6 hbw) hbe
    have hr8 : wr.rangeAt b (o + k * 5) [.int .i64 (Z k).pl, .slice ar (Z k).tn cr, .int .i64 (Z k).e1, .int .i64 (Z k).e2, .int .i64 (Z k).lf] := rangeAt_belowO hr5 hbe
    have HLT : Hid (k < K) := hlt
    have G1 := HF1.out k
    have G2 := HF2.out k
    have G3 := HF3.out k
    obtain ⟨_, _, _, hmz⟩ := hnz.len
    clear hr6 hr5 er0 hnz
    unfold maxLen at hmr0 hmz
    generalize X k = x at *
    generalize Z k = z at *
    have HG1 := (show Hid ((z.e1 ≠ 0 ∨ z.e2 ≠ 0 ∨ (x.sd = false ∧ x.tk = false)) → ua (k + 1) = ua k ∧ ub (k + 1) = ub k) from G1)
    have HG2 := (show Hid (z.e1 = 0 → z.e2 = 0 → x.sd = true → ∃ a : Nat, z.pl = a ∧ ua k ≤ a ∧ a + x.tn ≤ P ∧ z.tn = x.tn ∧ ua (k + 1) = a + x.tn ∧ ub (k + 1) = ub k) from G2)
    have HG3 := (show Hid (z.e1 = 0 → z.e2 = 0 → x.sd = false → x.tk = true → ∃ a : Nat, x.pl = a ∧ ub k ≤ a ∧ a + x.tn ≤ P ∧ z.tn = x.tn ∧ ub (k + 1) = a + x.tn ∧ ua (k + 1) = ua k) from G3)
    clear G1 G2 G3
    have hlt2 : (k : Int) < (K : Int) := by omega
    have hps := (RowAt.new wr 38 #[.int .i64 x.pw, .bool x.op, .bool x.sd, .bool x.tk, .int .i64 x.pl, .slice ar0 x.tn cr0]).alloc (.cells #[.int .i64 z.pl, .slice ar z.tn cr, .int .i64 z.e1, .int .i64 z.e2, .int .i64 z.lf] 32)
    have hpx := RowAt.new (wr.alloc (.cells #[.int .i64 x.pw, .bool x.op, .bool x.sd, .bool x.tk, .int .i64 x.pl, .slice ar0 x.tn cr0] 38)) 32 #[.int .i64 z.pl, .slice ar z.tn cr, .int .i64 z.e1, .int .i64 z.e2, .int .i64 z.lf]
    have hz1 : (wr.alloc (.cells #[.int .i64 x.pw, .bool x.op, .bool x.sd, .bool x.tk, .int .i64 x.pl, .slice ar0 x.tn cr0] 38)).heap.size = wr.heap.size + 1 := by simp
    rw [hz1] at hpx
    have hrs2 := (hrs.alloc (.cells #[.int .i64 x.pw, .bool x.op, .bool x.sd, .bool x.tk, .int .i64 x.pl, .slice ar0 x.tn cr0] 38)).alloc (.cells #[.int .i64 z.pl, .slice ar z.tn cr, .int .i64 z.e1, .int .i64 z.e2, .int .i64 z.lf] 32)
    have hrt2 := (hrt.alloc (.cells #[.int .i64 x.pw, .bool x.op, .bool x.sd, .bool x.tk, .int .i64 x.pl, .slice ar0 x.tn cr0] 38)).alloc (.cells #[.int .i64 z.pl, .slice ar z.tn cr, .int .i64 z.e1, .int .i64 z.e2, .int .i64 z.lf] 32)
    have hbe2 := (hbe.alloc hbe.size (.cells #[.int .i64 x.pw, .bool x.op, .bool x.sd, .bool x.tk, .int .i64 x.pl, .slice ar0 x.tn cr0] 38)).alloc (by rw [hz1]; omega) (.cells #[.int .i64 z.pl, .slice ar z.tn cr, .int .i64 z.e1, .int .i64 z.e2, .int .i64 z.lf] 32)
    clear hz1
    go_upto_region 11 with (first | refine wpList_load_mid rfl 38 _ rfl bc (oc + k * 6) rfl [.int .i64 x.pw, .bool x.op, .bool x.sd, .bool x.tk, .int .i64 x.pl, .slice ar0 x.tn cr0] _ hr7 Try.underlying38 rfl s_info_stp ?_ | refine wpList_load_mid rfl 32 _ rfl b (o + k * 5) rfl [.int .i64 z.pl, .slice ar z.tn cr, .int .i64 z.e1, .int .i64 z.e2, .int .i64 z.lf] _ (rangeAt_belowO hr8 ((Below.refl _ _).alloc (Nat.le_refl _) _)) Try.underlying32 rfl s_info_sen ?_)
    generalize (wr.alloc (.cells #[.int .i64 x.pw, .bool x.op, .bool x.sd, .bool x.tk, .int .i64 x.pl, .slice ar0 x.tn cr0] 38)).alloc (.cells #[.int .i64 z.pl, .slice ar z.tn cr, .int .i64 z.e1, .int .i64 z.e2, .int .i64 z.lf] 32) = V at *
    obtain ⟨ps, hpe⟩ : ∃ q, q = wr.heap.size := ⟨_, rfl⟩
    rw [← hpe] at hps hpx ⊢
    clear hr7 hr8 hrs hrt hbe HRC HNC HPT HF1 HF2 HF3 hpe
    have s2 : V.cell? ⟨ps, 2, none⟩ = some (.bool x.sd) := hps.cell rfl
    have s3 : V.cell? ⟨ps, 3, none⟩ = some (.bool x.tk) := hps.cell rfl
    have s4 : V.cell? ⟨ps, 4, none⟩ = some (.int .i64 x.pl) := hps.cell rfl
    have s5 : V.cell? ⟨ps, 5, none⟩ = some (.slice ar0 x.tn cr0) := hps.cell rfl
    have x0 : V.cell? ⟨ps + 1, 0, none⟩ = some (.int .i64 z.pl) := hpx.cell rfl
    have x1 : V.cell? ⟨ps + 1, 1, none⟩ = some (.slice ar z.tn cr) := hpx.cell rfl
    have x2 : V.cell? ⟨ps + 1, 2, none⟩ = some (.int .i64 z.e1) := hpx.cell rfl
    have x3 : V.cell? ⟨ps + 1, 3, none⟩ = some (.int .i64 z.e2) := hpx.cell rfl
    clear hps hpx
    by_cases he1 : z.e1 = 0
    case neg =>
      have hn1 : (z.e1 != 0) = true := by simpa using he1
      have HU := (show Hid (ua (k + 1) = ua k ∧ ub (k + 1) = ub k) from HG1.out (.inl he1))
      clear HG1 HG2 HG3
      go_wp2
      go_roundw
      case rel => exact ⟨k + 1, F, G, HLT.out, by go_num, hrs2, hrt2, by rw [HU.out.1]; exact HF.out, by rw [HU.out.2]; exact HG.out, hbe2⟩
      case measure => have := HLT.out; simp [intOf]; omega
    have hn1 : (z.e1 != 0) = false := by simp [he1]
    by_cases he2 : z.e2 = 0
    case neg =>
      have hn2 : (z.e2 != 0) = true := by simpa using he2
      have HU := (show Hid (ua (k + 1) = ua k ∧ ub (k + 1) = ub k) from HG1.out (.inr (.inl he2)))
      clear he1 HG1 HG2 HG3
      go_wp2
      go_roundw
      case rel => exact ⟨k + 1, F, G, HLT.out, by go_num, hrs2, hrt2, by rw [HU.out.1]; exact HF.out, by rw [HU.out.2]; exact HG.out, hbe2⟩
      case measure => have := HLT.out; simp [intOf]; omega
    cases hsd : x.sd with
    | true =>
      obtain ⟨a, hpl, hua, hap, htn, hu1, hu2⟩ := HG2.out he1 he2 hsd
      have HUA : Hid (ua k ≤ a) := hua
      have HU1 := (show Hid (ua (k + 1) = a + x.tn) from hu1)
      have HU2 := (show Hid (ub (k + 1) = ub k) from hu2)
      rw [hpl] at x0
      rw [htn] at x1
      rw [he1] at x2
      rw [he2] at x3
      rw [hsd] at s2

      clear HG1 HG2 HG3 hpl hua htn hu1 hu2 he1 he2 hsd  hmz
      generalize x.tn = m at *
      have h1 : ¬ ((a : Nat) : Int) < 0 := by omega
      have h2 : ¬ ((P : Nat) : Int) < ((a : Nat) : Int) := by omega
      have h3 : ¬ ((P : Nat) : Int) - ((a : Nat) : Int) < ((m : Nat) : Int) := by omega
      have hpw : w.heap.size ≤ W1.heap.size := hbw.size
      go_upto_region 12 with fail
      go_quiet (fail)


      go_wp2_with fail
      go_loopw [112] (fun i W => ∃ j : Nat, j ≤ m ∧ i = .int .i64 (j : Nat) ∧ RowAt W gs 4 (bools P (Oc.mark F a j)) ∧ RowAt W gt 4 (bools P G) ∧ Below W1.heap.size W1 W) (fun i _ => ((m : Int) - intOf i).toNat)
      case atStart => exact ⟨0, by omega, rfl, by rw [Oc.mark_zero]; exact hrs2, hrt2, by first | exact hbe2 | exact hbe2.drew | exact hbe2.drew.drew | exact below_draws' hbe2 _⟩
      case round =>
        clear hrs2 hrt2 hbe2 s2 s3 s4 s5 x0 x1 x2 x3
        obtain ⟨j, hj, rfl, hr, ho, hbz⟩ := hrel
        by_cases hjm : j < m
        · have HJ : Hid (j < m) := hjm
          have hj2 : (j : Int) < (m : Int) := by omega
          have hcl := hr.cell (bools_get (Oc.mark F a j) (show a + j < P by omega))
          rw [Oc.mark_new HF.out HUA.out] at hcl
          have hfz := hr.frozen (a + j)
          have hr2 := hr.set (a + j) (.bool true)
          rw [bools_set, Oc.mark_next] at hr2
          have ho2 := ho.setOther ⟨gs, a + j, none⟩ (.bool true) hne.symm
          have hb2 := hbz.setCell (p := ⟨gs, a + j, none⟩) hgs (.bool true)
          have h4 : ((a : Nat) : Int) + ((j : Nat) : Int) < ((P : Nat) : Int) := by omega
          clear hr ho hbz hjm
          go_wp2
          go_roundw
          case rel => exact ⟨j + 1, HJ.out, by go_num, hr2, ho2, hb2⟩
          case measure => have := HJ.out; simp [intOf]; omega
        · obtain rfl : j = m := by omega
          have hnj : ¬ ((j : Nat) : Int) < ((j : Nat) : Int) := by omega
          clear hjm hj
          go_wp2
          go_roundw
          case rel => exact ⟨k + 1, Oc.mark F a j, G, HLT.out, by go_num, hr, ho, by rw [HU1.out]; exact Oc.mark_lt HF.out HUA.out, by rw [HU2.out]; exact HG.out, hbz⟩
          case measure => have := HLT.out; simp [intOf]; omega
    | false =>
      cases htk : x.tk with
      | true =>
        obtain ⟨a, hpl, hua, hap, htn, hu1, hu2⟩ := HG3.out he1 he2 hsd htk
        have HUA : Hid (ub k ≤ a) := hua
        have HU1 := (show Hid (ub (k + 1) = a + x.tn) from hu1)
        have HU2 := (show Hid (ua (k + 1) = ua k) from hu2)
        rw [hpl] at s4
        rw [htn] at x1
        rw [he1] at x2
        rw [he2] at x3
        rw [hsd] at s2
        rw [htk] at s3
        clear HG1 HG2 HG3 hpl hua htn hu1 hu2 he1 he2 hsd htk hmz
        generalize x.tn = m at *
        have h1 : ¬ ((a : Nat) : Int) < 0 := by omega
        have h2 : ¬ ((P : Nat) : Int) < ((a : Nat) : Int) := by omega
        have h3 : ¬ ((P : Nat) : Int) - ((a : Nat) : Int) < ((m : Nat) : Int) := by omega
        have hpw : w.heap.size ≤ W1.heap.size := hbw.size
        go_upto_region 12 with fail
        go_quiet (fail)
        go_upto_region 14 with fail
        go_quiet (fail)
        go_wp2_with fail
        go_loopw [112] (fun i W => ∃ j : Nat, j ≤ m ∧ i = .int .i64 (j : Nat) ∧ RowAt W gt 4 (bools P (Oc.mark G a j)) ∧ RowAt W gs 4 (bools P F) ∧ Below W1.heap.size W1 W) (fun i _ => ((m : Int) - intOf i).toNat)
        case atStart => exact ⟨0, by omega, rfl, by rw [Oc.mark_zero]; exact hrt2, hrs2, by first | exact hbe2 | exact hbe2.drew | exact hbe2.drew.drew | exact below_draws' hbe2 _⟩
        case round =>
          clear hrt2 hrs2 hbe2 s2 s3 s4 s5 x0 x1 x2 x3
          obtain ⟨j, hj, rfl, hr, ho, hbz⟩ := hrel
          by_cases hjm : j < m
          · have HJ : Hid (j < m) := hjm
            have hj2 : (j : Int) < (m : Int) := by omega
            have hcl := hr.cell (bools_get (Oc.mark G a j) (show a + j < P by omega))
            rw [Oc.mark_new HG.out HUA.out] at hcl
            have hfz := hr.frozen (a + j)
            have hr2 := hr.set (a + j) (.bool true)
            rw [bools_set, Oc.mark_next] at hr2
            have ho2 := ho.setOther ⟨gt, a + j, none⟩ (.bool true) hne
            have hb2 := hbz.setCell (p := ⟨gt, a + j, none⟩) hgt (.bool true)
            have h4 : ((a : Nat) : Int) + ((j : Nat) : Int) < ((P : Nat) : Int) := by omega
            clear hr ho hbz hjm
            go_wp2
            go_roundw
            case rel => exact ⟨j + 1, HJ.out, by go_num, hr2, ho2, hb2⟩
            case measure => have := HJ.out; simp [intOf]; omega
          · obtain rfl : j = m := by omega
            have hnj : ¬ ((j : Nat) : Int) < ((j : Nat) : Int) := by omega
            clear hjm hj
            go_wp2
            go_roundw
            case rel => exact ⟨k + 1, F, Oc.mark G a j, HLT.out, by go_num, ho, hr, by rw [HU2.out]; exact HF.out, by rw [HU1.out]; exact Oc.mark_lt HG.out HUA.out, hbz⟩
            case measure => have := HLT.out; simp [intOf]; omega
      | false =>
        rw [he1] at x2
        rw [he2] at x3
        rw [hsd] at s2
        rw [htk] at s3
        have HU := (show Hid (ua (k + 1) = ua k ∧ ub (k + 1) = ub k) from HG1.out (.inr (.inr ⟨hsd, htk⟩)))
        clear he1 he2 hsd htk hn1 HG1 HG2 HG3
        go_wp2
        go_roundw
        case rel => exact ⟨k + 1, F, G, HLT.out, by go_num, hrs2, hrt2, by rw [HU.out.1]; exact HF.out, by rw [HU.out.2]; exact HG.out, hbe2⟩
        case measure => have := HLT.out; simp [intOf]; omega
end Go.Proofs.Ytlfghnngbljlhaa
