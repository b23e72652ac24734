/-
  OfficePlays: its function (chapter 16).
-/
import Derived.Test.YtlfghnngbljlhaaOfA
import Derived.Test.YtlfghnngbljlhaaOfY
import Derived.Test.YtlfghnngbljlhaaOfYb
import Derived.Test.YtlfghnngbljlhaaOStH
import Derived.Deep.DeepCutAuto
import Derived.Deep.QuietTactic
import Derived.BigQuiet
import Derived.BigRegion
namespace Go.Proofs.Ytlfghnngbljlhaa
open Go.RowKit PK Pd

theorem rplay_any (n : Int) (ap : Option Addr) (cp : Nat) (vw vc : Value) (P : Nat) (p : Nat → Int) (D : Nat) (d : Nat → Int) (K : Nat) (X : Nat → Oc.Sp) (w : World) (hp : NumsAt w (.slice ap P cp) P p) (hpc : P ≤ cp) (hw : NumsAt w vw D d) (hc : StpAt w vc K X) (hwc : ∀ c, vw = .slice none 0 c → c = 0) (hD : D * 8 ≤ 140737488355328) (hK : (K + K / 4 + 192) * 56 ≤ 281474976710656) : Calls Try.prog 7 #[.int .i64 n, .slice ap P cp, vw, vc] w fun e w' => ∃ v u, e = .returned (.tuple #[v, u]) ∧ SenAt w' v K (Oc.seen n P p D X (Oc.s0 d)) ∧ NumsAt w' u D (Oc.last n P p D d X K) ∧ Below w.heap.size w w' := by
  by_cases hE : Oc.opE n P p D = 0
  · exact rplay_ok n ap cp vw vc P p D d K X w hp hpc hw hc hD hK hE
  · exact rplay_bad n ap cp vw vc P p D d K X w hp hwc hw hc hD hK hE
theorem s_zero_sen : (Try.prog.info? 32).map (·.zero) = some (some (.agg #[.int .i64 0, .slice none 0 0, .int .i64 0, .int .i64 0, .int .i64 0])) := by kernel_rfl
theorem sec_ones' (a b c e : Int) (ar : Option Addr) (n cr : Nat) : (#[.int .i64 a, .slice ar n cr, .int .i64 b, .int .i64 c, .int .i64 e] : Array Value).all (·.oneCell') = true := by
  rw [Array.all_eq_true_iff_forall_mem]
  intro u hu
  exact sen_ones a b c e ar n cr u (by simpa using hu)
set_option maxRecDepth 100000 in
set_option maxHeartbeats 8000000 in
theorem plays_of (n : Int) (vp vw vc : Value) (P : Nat) (p : Nat → Int) (D : Nat) (d : Nat → Int) (K : Nat) (X : Nat → Oc.Sp) (w : World) (hp : NumsAt w vp P p) (hpc : ∃ a c, vp = .slice a P c ∧ P ≤ c) (hw : NumsAt w vw D d) (hc : StpAt w vc K X) (hwc : ∀ c, vw = .slice none 0 c → c = 0) (hD : D * 8 ≤ 140737488355328) (hK : (K + K / 4 + 192) * 56 ≤ 281474976710656) : Calls Try.prog 3 #[.int .i64 n, vp, vw, vc] w fun e w' => e = .returned (.bool true) ∧ Below w.heap.size w w' := by
  obtain ⟨ap, cp, rfl, hpc⟩ := hpc
  obtain ⟨Z, hZ⟩ : ∃ Z, Z = Oc.seen n P p D X (Oc.s0 d) := ⟨_, rfl⟩
  obtain ⟨f, hf⟩ : ∃ f, f = Oc.last n P p D d X K := ⟨_, rfl⟩
  have H1 : Hid (Calls Try.prog 6 #[.int .i64 n, .slice ap P cp, vw, vc] w fun e w' => ∃ v u, e = .returned (.tuple #[v, u, .bool true]) ∧ SenAt w' v K Z ∧ NumsAt w' u D f ∧ Below w.heap.size w w') := by rw [hZ, hf]; exact office_any n _ vw vc P p D d K X w hp hw hc hwc hD hK
  have H2 : Hid (∀ W, Below w.heap.size w W → Calls Try.prog 7 #[.int .i64 n, .slice ap P cp, vw, vc] W fun e w' => ∃ v u, e = .returned (.tuple #[v, u]) ∧ SenAt w' v K Z ∧ NumsAt w' u D f ∧ Below W.heap.size W w') := fun W hb => by rw [hZ, hf]; exact rplay_any n ap cp vw vc P p D d K X W (hp.below hb) hpc (hw.below hb) (hc.below hb) hwc hD hK
  obtain ⟨aw, cw, rfl, hmw⟩ := hw.len
  obtain ⟨ac, cc, _, rfl, hmc, _, _⟩ := hc
  have hz5 := o_zero s_zero_sen
  unfold maxLen at hmw hmc
  clear hp hw hwc hZ hf
  go_enter Try.func3, Try.ntmps3
  go_wp2_with fail
  refine H1.out.mono ?_
  rintro e W1 ⟨v1, u1, rfl, hs1, hn1, hb1⟩
  clear H1
  obtain ⟨a1, c1, rfl, _⟩ := hn1.len
  obtain ⟨b1, e1, R1, rfl, _, hp1⟩ := hs1.part
  go_wp2_with fail
  refine (H2.out W1 hb1).mono ?_
  rintro e W2 ⟨v2, u2, rfl, hs2, hn2, hb2⟩
  clear H2
  obtain ⟨a2, c2, rfl, _⟩ := hn2.len
  have hs1' := hs1.below hb2
  have hn1' := hn1.below hb2
  have hbw := hb1.trans (hb2.mono hb1.size)
  clear hp1
  obtain ⟨b1', e1', R1', er1, _, hp1⟩ := hs1'.part
  cases er1
  obtain ⟨b2, e2, R2, rfl, _, hp2⟩ := hs2.part
  have HP1 := (show Hid (∀ i, i < K → ∃ b o ar cr, b1 = some ⟨b, o, none⟩ ∧ R1' i = .slice ar (Z i).tn cr ∧ W2.cell? ⟨b, o + i * 5, none⟩ = some (.int .i64 (Z i).pl) ∧ W2.cell? ⟨b, o + i * 5 + 1, none⟩ = some (.slice ar (Z i).tn cr) ∧ W2.cell? ⟨b, o + i * 5 + 2, none⟩ = some (.int .i64 (Z i).e1) ∧ W2.cell? ⟨b, o + i * 5 + 3, none⟩ = some (.int .i64 (Z i).e2) ∧ W2.cell? ⟨b, o + i * 5 + 4, none⟩ = some (.int .i64 (Z i).lf) ∧ W2.rangeAt b (o + i * 5) [.int .i64 (Z i).pl, .slice ar (Z i).tn cr, .int .i64 (Z i).e1, .int .i64 (Z i).e2, .int .i64 (Z i).lf] ∧ NumsAt W2 (.slice ar (Z i).tn cr) (Z i).tn (Z i).tf) from hp1)
  have HP2 := (show Hid (∀ i, i < K → ∃ b o ar cr, b2 = some ⟨b, o, none⟩ ∧ R2 i = .slice ar (Z i).tn cr ∧ W2.cell? ⟨b, o + i * 5, none⟩ = some (.int .i64 (Z i).pl) ∧ W2.cell? ⟨b, o + i * 5 + 1, none⟩ = some (.slice ar (Z i).tn cr) ∧ W2.cell? ⟨b, o + i * 5 + 2, none⟩ = some (.int .i64 (Z i).e1) ∧ W2.cell? ⟨b, o + i * 5 + 3, none⟩ = some (.int .i64 (Z i).e2) ∧ W2.cell? ⟨b, o + i * 5 + 4, none⟩ = some (.int .i64 (Z i).lf) ∧ W2.rangeAt b (o + i * 5) [.int .i64 (Z i).pl, .slice ar (Z i).tn cr, .int .i64 (Z i).e1, .int .i64 (Z i).e2, .int .i64 (Z i).lf] ∧ NumsAt W2 (.slice ar (Z i).tn cr) (Z i).tn (Z i).tf) from hp2)
  obtain ⟨_, _, q1, _, hd1⟩ := hn1'
  cases q1
  obtain ⟨_, _, q2, _, hd2⟩ := hn2
  cases q2
  have HD1 := (show Hid (∀ c, c < D → ∃ b o, a1 = some ⟨b, o, none⟩ ∧ W2.cell? ⟨b, o + c, none⟩ = some (.int .i64 (f c))) from hd1)
  have HD2 := (show Hid (∀ c, c < D → ∃ b o, a2 = some ⟨b, o, none⟩ ∧ W2.cell? ⟨b, o + c, none⟩ = some (.int .i64 (f c))) from hd2)
  clear hp1 hp2 hd1 hd2 hs1 hs1' hs2 hn1 hb1 hb2
  go_wp2_with fail
  go_loopw [53] (fun i W => ∃ k : Nat, k ≤ D ∧ i = .int .i64 (k : Nat) ∧ Below W2.heap.size W2 W) (fun i _ => ((D : Int) - intOf i).toNat)
  case atStart => exact ⟨0, by omega, rfl, Below.refl _ _⟩
  case round =>
    obtain ⟨k, hk, rfl, hbe⟩ := hrel
    by_cases hlt : k < D
    · have HLT : Hid (k < D) := hlt
      have hlt2 : (k : Int) < (D : Int) := by omega
      obtain ⟨x1, y1, rfl, k1⟩ := HD1.out k hlt
      obtain ⟨x2, y2, rfl, k2⟩ := HD2.out k hlt
      have j1 := (hbe.cell (p := ⟨x1, y1 + k, none⟩) (cell_block k1)).trans k1
      have j2 := (hbe.cell (p := ⟨x2, y2 + k, none⟩) (cell_block k2)).trans k2
      generalize f k = fk at *
      clear k1 k2 hlt HD1 HD2 HP1 HP2 hz5
      go_upto_region 8 with fail
      go_quiet (fail)
      go_wp2
      go_roundw
      case rel => exact ⟨k + 1, HLT.out, by go_num, hbe.trans ⟨rfl, rfl, rfl, Nat.le_refl _, fun _ _ => rfl⟩⟩
      case measure => have := HLT.out; simp [intOf]; omega
    · obtain rfl : k = D := by omega
      have hnn : ¬ ((k : Nat) : Int) < ((k : Nat) : Int) := by omega
      have hbe1 := hbe
      clear hlt HD1 HD2 hbe
      go_wp2_with fail
      go_loopw [68] (fun i W => ∃ j : Nat, j ≤ K ∧ i = .int .i64 (j : Nat) ∧ Below W2.heap.size W2 W) (fun i _ => ((K : Int) - intOf i).toNat)
      case atStart => exact ⟨0, by omega, rfl, hbe1⟩
      case round =>
        clear hbe1
        obtain ⟨j, hj, rfl, hbe⟩ := hrel
        by_cases hlt : j < K
        case neg =>
          obtain rfl : j = K := by omega
          have hnj : ¬ ((j : Nat) : Int) < ((j : Nat) : Int) := by omega
          have hfin := hbw.trans (hbe.mono hbw.size)
          clear hlt HP1 HP2 hz5 hbe
          go_wp2
          go_ret
          exact ⟨rfl, hfin⟩
        have HLT : Hid (j < K) := hlt
        have hlt2 : (j : Int) < (K : Int) := by omega
        obtain ⟨ba, oa, ar, cr, rfl, _, _, _, _, _, _, hra, hna⟩ := HP1.out j hlt
        obtain ⟨bb, ob, ar2, cr2, rfl, _, _, _, _, _, _, hrb, hnb⟩ := HP2.out j hlt
        have HRA := (show Hid _ from hra)
        have HRB := (show Hid _ from hrb)
        have HNA := (show Hid (NumsAt W2 (.slice ar (Z j).tn cr) (Z j).tn (Z j).tf) from hna)
        have HNB := (show Hid (NumsAt W2 (.slice ar2 (Z j).tn cr2) (Z j).tn (Z j).tf) from hnb)
        clear hra hrb hna hnb hlt HP1 HP2
        generalize Z j = z at *
        go_upto_region 14 with fail
        go_cut [16, 17] (fun x y W => ∃ qx qy, x = .pointer (some ⟨qx, 0, none⟩) ∧ y = .pointer (some ⟨qy, 0, none⟩) ∧ RowAt W qx 32 #[.int .i64 z.pl, .slice ar z.tn cr, .int .i64 z.e1, .int .i64 z.e2, .int .i64 z.lf] ∧ RowAt W qy 32 #[.int .i64 z.pl, .slice ar2 z.tn cr2, .int .i64 z.e1, .int .i64 z.e2, .int .i64 z.lf] ∧ Below W2.heap.size W2 W)
        case first =>
          refine wp_region_noPanic ?_
          refine wp_region_held_drew (S := fun W => Below W2.heap.size W2 W) (by kernel_rfl) hbe.drew (fun hS => ?_)
          refine vtake 0 71 (.slice (some ⟨ba, oa, none⟩) K e1) rfl rfl (by kernel_rfl) (by kernel_rfl) (by kernel_rfl) (fun _ _ _ _ h => h) (by rfl) (fun W hW => by clear hS hW; go_simp) hS ?_
          simp only [List.setIfInBounds_toArray, List.set_cons_succ, List.set_cons_zero]
          refine vtake 1 72 (.int .i64 (j : Nat)) rfl rfl (by kernel_rfl) (by kernel_rfl) (by kernel_rfl) (fun _ _ _ _ h => h) (by rfl) (fun W hW => by clear hS hW; go_simp) hS ?_
          simp only [List.setIfInBounds_toArray, List.set_cons_succ, List.set_cons_zero]
          refine vtake 2 73 (.pointer (some ⟨ba, oa + j * 5, none⟩)) rfl rfl (by kernel_rfl) (by kernel_rfl) (by kernel_rfl) (fun _ _ _ _ h => h) (by rfl) (fun W hW => by clear hS hW; go_simp) hS ?_
          simp only [List.setIfInBounds_toArray, List.set_cons_succ, List.set_cons_zero]
          refine vtake 3 74 (.agg #[.int .i64 z.pl, .slice ar z.tn cr, .int .i64 z.e1, .int .i64 z.e2, .int .i64 z.lf]) rfl rfl (by kernel_rfl) (by kernel_rfl) (by kernel_rfl) (fun _ _ _ _ h => h) (by rfl) (fun W hW => by have u := run_loadAt_mid (P := Try.prog) W ba (oa + j * 5) 32 (#[.int .i64 z.pl, .slice ar z.tn cr, .int .i64 z.e1, .int .i64 z.e2, .int .i64 z.lf] : Array Value).toList _ (rangeAt_belowO HRA.out hW) Try.underlying32 rfl s_info_sen; rw [Array.toArray_toList] at u; clear hS hW; simp [execOp, Act.eval, u]) hS ?_
          simp only [List.setIfInBounds_toArray, List.set_cons_succ, List.set_cons_zero]
          refine vtake 4 75 (.slice (some ⟨bb, ob, none⟩) K e2) rfl rfl (by kernel_rfl) (by kernel_rfl) (by kernel_rfl) (fun _ _ _ _ h => h) (by rfl) (fun W hW => by clear hS hW; go_simp) hS ?_
          simp only [List.setIfInBounds_toArray, List.set_cons_succ, List.set_cons_zero]
          refine vtake 5 76 (.int .i64 (j : Nat)) rfl rfl (by kernel_rfl) (by kernel_rfl) (by kernel_rfl) (fun _ _ _ _ h => h) (by rfl) (fun W hW => by clear hS hW; go_simp) hS ?_
          simp only [List.setIfInBounds_toArray, List.set_cons_succ, List.set_cons_zero]
          refine vtake 6 77 (.pointer (some ⟨bb, ob + j * 5, none⟩)) rfl rfl (by kernel_rfl) (by kernel_rfl) (by kernel_rfl) (fun _ _ _ _ h => h) (by rfl) (fun W hW => by clear hS hW; go_simp) hS ?_
          simp only [List.setIfInBounds_toArray, List.set_cons_succ, List.set_cons_zero]
          refine vtake 7 78 (.agg #[.int .i64 z.pl, .slice ar2 z.tn cr2, .int .i64 z.e1, .int .i64 z.e2, .int .i64 z.lf]) rfl rfl (by kernel_rfl) (by kernel_rfl) (by kernel_rfl) (fun _ _ _ _ h => h) (by rfl) (fun W hW => by have u := run_loadAt_mid (P := Try.prog) W bb (ob + j * 5) 32 (#[.int .i64 z.pl, .slice ar2 z.tn cr2, .int .i64 z.e1, .int .i64 z.e2, .int .i64 z.lf] : Array Value).toList _ (rangeAt_belowO HRB.out hW) Try.underlying32 rfl s_info_sen; rw [Array.toArray_toList] at u; clear hS hW; simp [execOp, Act.eval, u]) hS ?_
          simp only [List.setIfInBounds_toArray, List.set_cons_succ, List.set_cons_zero]
          refine wpAnyH_ready (rs := [8, 9]) (by kernel_rfl) (by simp) ?_
          refine AllReadyH.cons (o := _) rfl (fun K hK => ?_) (AllReadyH.cons (o := _) rfl (fun K hK => ?_) AllReadyH.nil)
          · rw [if_pos (by rfl)]
            go_simp
            refine hK.out _ _ (hS.alloc hS.size _) (fun hS1 => ?_)
            clear hK hS K
            have hS := hS1
            clear hS1
            refine wpAnyH_ready (rs := [9]) (by kernel_rfl) (by simp) ?_
            refine AllReadyH.cons (o := _) rfl (fun K hK => ?_) AllReadyH.nil
            rw [if_pos (by rfl)]
            go_simp
            refine hK.out _ _ (hS.alloc hS.size _) (fun hS1 => ?_)
            clear hK hS K hS1
            have r1' : RowAt ((wr.alloc (.cells #[.int .i64 0, .slice none 0 0, .int .i64 0, .int .i64 0, .int .i64 0] 32)).alloc (.cells #[.int .i64 0, .slice none 0 0, .int .i64 0, .int .i64 0, .int .i64 0] 32)).drew wr.heap.size 32 #[.int .i64 0, .slice none 0 0, .int .i64 0, .int .i64 0, .int .i64 0] := (RowAt.new wr 32 #[.int .i64 0, .slice none 0 0, .int .i64 0, .int .i64 0, .int .i64 0]).alloc (.cells #[.int .i64 0, .slice none 0 0, .int .i64 0, .int .i64 0, .int .i64 0] 32)
            have r2 := RowAt.new (wr.alloc (.cells #[.int .i64 0, .slice none 0 0, .int .i64 0, .int .i64 0, .int .i64 0] 32)) 32 #[.int .i64 0, .slice none 0 0, .int .i64 0, .int .i64 0, .int .i64 0]
            rw [World.size_alloc] at r2
            have r2' : RowAt ((wr.alloc (.cells #[.int .i64 0, .slice none 0 0, .int .i64 0, .int .i64 0, .int .i64 0] 32)).alloc (.cells #[.int .i64 0, .slice none 0 0, .int .i64 0, .int .i64 0, .int .i64 0] 32)).drew (wr.heap.size + 1) 32 #[.int .i64 0, .slice none 0 0, .int .i64 0, .int .i64 0, .int .i64 0] := r2
            have hlw := hbe.size
            have hS : Below W2.heap.size W2 ((wr.alloc (.cells #[.int .i64 0, .slice none 0 0, .int .i64 0, .int .i64 0, .int .i64 0] 32)).alloc (.cells #[.int .i64 0, .slice none 0 0, .int .i64 0, .int .i64 0, .int .i64 0] 32)).drew := ((hbe.alloc hbe.size _).alloc (by rw [World.size_alloc]; omega) _).drew
            clear r2
            generalize ((wr.alloc (.cells #[.int .i64 0, .slice none 0 0, .int .i64 0, .int .i64 0, .int .i64 0] 32)).alloc (.cells #[.int .i64 0, .slice none 0 0, .int .i64 0, .int .i64 0, .int .i64 0] 32)).drew = V at *
            have sx := r1'.row #[.int .i64 z.pl, .slice ar z.tn cr, .int .i64 z.e1, .int .i64 z.e2, .int .i64 z.lf]
            have sy := r2'.rowOther wr.heap.size #[.int .i64 z.pl, .slice ar z.tn cr, .int .i64 z.e1, .int .i64 z.e2, .int .i64 z.lf] (by omega)
            refine storeH 10 { dst := none, op := Op.store 32 (Operand.tmp 16) (Operand.tmp 74), type := 0, pos := "law.go:30", after := #[{ on := 8, ground := Ground.data }, { on := 3, ground := Ground.data }, { on := 0, ground := Ground.phase }, { on := 1, ground := Ground.phase }, { on := 2, ground := Ground.phase }, { on := 3, ground := Ground.phase }, { on := 4, ground := Ground.textOnly Departure.lateStores }, { on := 5, ground := Ground.textOnly Departure.lateStores }, { on := 6, ground := Ground.textOnly Departure.lateStores }, { on := 7, ground := Ground.textOnly Departure.lateStores }, { on := 8, ground := Ground.phase }, { on := 9, ground := Ground.phase }], guard := none } (by kernel_rfl) (by kernel_rfl) (by kernel_rfl) 32 (Operand.tmp 16) (Operand.tmp 74) (by kernel_rfl) wr.heap.size #[.int .i64 z.pl, .slice ar z.tn cr, .int .i64 z.e1, .int .i64 z.e2, .int .i64 z.lf] (by kernel_rfl) (by kernel_rfl) 32 _ r1' s_info_sen rfl (sec_ones' _ _ _ _ _ _ _) (by kernel_rfl) (Below.setRow hS _ (by omega) _) (fun hS1 => ?_)
            have tx := sx.rowOther (wr.heap.size + 1) #[.int .i64 z.pl, .slice ar2 z.tn cr2, .int .i64 z.e1, .int .i64 z.e2, .int .i64 z.lf] (by omega)
            have ty := sy.row #[.int .i64 z.pl, .slice ar2 z.tn cr2, .int .i64 z.e1, .int .i64 z.e2, .int .i64 z.lf]
            clear hS r1' r2'
            refine storeH 11 { dst := none, op := Op.store 32 (Operand.tmp 17) (Operand.tmp 78), type := 0, pos := "law.go:30", after := #[{ on := 9, ground := Ground.data }, { on := 7, ground := Ground.data }, { on := 10, ground := Ground.chain }, { on := 0, ground := Ground.phase }, { on := 1, ground := Ground.phase }, { on := 2, ground := Ground.phase }, { on := 3, ground := Ground.phase }, { on := 4, ground := Ground.phase }, { on := 5, ground := Ground.phase }, { on := 6, ground := Ground.phase }, { on := 7, ground := Ground.phase }, { on := 8, ground := Ground.phase }, { on := 9, ground := Ground.phase }, { on := 10, ground := Ground.phase }], guard := none } (by kernel_rfl) (by kernel_rfl) (by kernel_rfl) 32 (Operand.tmp 17) (Operand.tmp 78) (by kernel_rfl) (wr.heap.size + 1) #[.int .i64 z.pl, .slice ar2 z.tn cr2, .int .i64 z.e1, .int .i64 z.e2, .int .i64 z.lf] (by kernel_rfl) (by kernel_rfl) 32 _ sy s_info_sen rfl (sec_ones' _ _ _ _ _ _ _) (by kernel_rfl) (Below.setRow hS1 _ (by omega) _) (fun hS2 => ?_)
            clear hS1 sx sy
            refine wpAnyH_done (by kernel_rfl) ?_ _
            refine NoPanic.normal ?_
            go_wp2_with fail
            go_meet
            exact ⟨wr.heap.size, (wr.heap.size + 1), rfl, rfl, tx, ty, hS2⟩
          · rw [if_pos (by rfl)]
            go_simp
            refine hK.out _ _ (hS.alloc hS.size _) (fun hS1 => ?_)
            clear hK hS K
            have hS := hS1
            clear hS1
            refine wpAnyH_ready (rs := [8]) (by kernel_rfl) (by simp) ?_
            refine AllReadyH.cons (o := _) rfl (fun K hK => ?_) AllReadyH.nil
            rw [if_pos (by rfl)]
            go_simp
            refine hK.out _ _ (hS.alloc hS.size _) (fun hS1 => ?_)
            clear hK hS K hS1
            have r1' : RowAt ((wr.alloc (.cells #[.int .i64 0, .slice none 0 0, .int .i64 0, .int .i64 0, .int .i64 0] 32)).alloc (.cells #[.int .i64 0, .slice none 0 0, .int .i64 0, .int .i64 0, .int .i64 0] 32)).drew wr.heap.size 32 #[.int .i64 0, .slice none 0 0, .int .i64 0, .int .i64 0, .int .i64 0] := (RowAt.new wr 32 #[.int .i64 0, .slice none 0 0, .int .i64 0, .int .i64 0, .int .i64 0]).alloc (.cells #[.int .i64 0, .slice none 0 0, .int .i64 0, .int .i64 0, .int .i64 0] 32)
            have r2 := RowAt.new (wr.alloc (.cells #[.int .i64 0, .slice none 0 0, .int .i64 0, .int .i64 0, .int .i64 0] 32)) 32 #[.int .i64 0, .slice none 0 0, .int .i64 0, .int .i64 0, .int .i64 0]
            rw [World.size_alloc] at r2
            have r2' : RowAt ((wr.alloc (.cells #[.int .i64 0, .slice none 0 0, .int .i64 0, .int .i64 0, .int .i64 0] 32)).alloc (.cells #[.int .i64 0, .slice none 0 0, .int .i64 0, .int .i64 0, .int .i64 0] 32)).drew (wr.heap.size + 1) 32 #[.int .i64 0, .slice none 0 0, .int .i64 0, .int .i64 0, .int .i64 0] := r2
            have hlw := hbe.size
            have hS : Below W2.heap.size W2 ((wr.alloc (.cells #[.int .i64 0, .slice none 0 0, .int .i64 0, .int .i64 0, .int .i64 0] 32)).alloc (.cells #[.int .i64 0, .slice none 0 0, .int .i64 0, .int .i64 0, .int .i64 0] 32)).drew := ((hbe.alloc hbe.size _).alloc (by rw [World.size_alloc]; omega) _).drew
            clear r2
            generalize ((wr.alloc (.cells #[.int .i64 0, .slice none 0 0, .int .i64 0, .int .i64 0, .int .i64 0] 32)).alloc (.cells #[.int .i64 0, .slice none 0 0, .int .i64 0, .int .i64 0, .int .i64 0] 32)).drew = V at *
            have sx := r2'.row #[.int .i64 z.pl, .slice ar z.tn cr, .int .i64 z.e1, .int .i64 z.e2, .int .i64 z.lf]
            have sy := r1'.rowOther (wr.heap.size + 1) #[.int .i64 z.pl, .slice ar z.tn cr, .int .i64 z.e1, .int .i64 z.e2, .int .i64 z.lf] (by omega)
            refine storeH 10 { dst := none, op := Op.store 32 (Operand.tmp 16) (Operand.tmp 74), type := 0, pos := "law.go:30", after := #[{ on := 8, ground := Ground.data }, { on := 3, ground := Ground.data }, { on := 0, ground := Ground.phase }, { on := 1, ground := Ground.phase }, { on := 2, ground := Ground.phase }, { on := 3, ground := Ground.phase }, { on := 4, ground := Ground.textOnly Departure.lateStores }, { on := 5, ground := Ground.textOnly Departure.lateStores }, { on := 6, ground := Ground.textOnly Departure.lateStores }, { on := 7, ground := Ground.textOnly Departure.lateStores }, { on := 8, ground := Ground.phase }, { on := 9, ground := Ground.phase }], guard := none } (by kernel_rfl) (by kernel_rfl) (by kernel_rfl) 32 (Operand.tmp 16) (Operand.tmp 74) (by kernel_rfl) (wr.heap.size + 1) #[.int .i64 z.pl, .slice ar z.tn cr, .int .i64 z.e1, .int .i64 z.e2, .int .i64 z.lf] (by kernel_rfl) (by kernel_rfl) 32 _ r2' s_info_sen rfl (sec_ones' _ _ _ _ _ _ _) (by kernel_rfl) (Below.setRow hS _ (by omega) _) (fun hS1 => ?_)
            have tx := sx.rowOther wr.heap.size #[.int .i64 z.pl, .slice ar2 z.tn cr2, .int .i64 z.e1, .int .i64 z.e2, .int .i64 z.lf] (by omega)
            have ty := sy.row #[.int .i64 z.pl, .slice ar2 z.tn cr2, .int .i64 z.e1, .int .i64 z.e2, .int .i64 z.lf]
            clear hS r1' r2'
            refine storeH 11 { dst := none, op := Op.store 32 (Operand.tmp 17) (Operand.tmp 78), type := 0, pos := "law.go:30", after := #[{ on := 9, ground := Ground.data }, { on := 7, ground := Ground.data }, { on := 10, ground := Ground.chain }, { on := 0, ground := Ground.phase }, { on := 1, ground := Ground.phase }, { on := 2, ground := Ground.phase }, { on := 3, ground := Ground.phase }, { on := 4, ground := Ground.phase }, { on := 5, ground := Ground.phase }, { on := 6, ground := Ground.phase }, { on := 7, ground := Ground.phase }, { on := 8, ground := Ground.phase }, { on := 9, ground := Ground.phase }, { on := 10, ground := Ground.phase }], guard := none } (by kernel_rfl) (by kernel_rfl) (by kernel_rfl) 32 (Operand.tmp 17) (Operand.tmp 78) (by kernel_rfl) wr.heap.size #[.int .i64 z.pl, .slice ar2 z.tn cr2, .int .i64 z.e1, .int .i64 z.e2, .int .i64 z.lf] (by kernel_rfl) (by kernel_rfl) 32 _ sy s_info_sen rfl (sec_ones' _ _ _ _ _ _ _) (by kernel_rfl) (Below.setRow hS1 _ (by omega) _) (fun hS2 => ?_)
            clear hS1 sx sy
            refine wpAnyH_done (by kernel_rfl) ?_ _
            refine NoPanic.normal ?_
            go_wp2_with fail
            go_meet
            exact ⟨(wr.heap.size + 1), wr.heap.size, rfl, rfl, tx, ty, hS2⟩
        case rest =>
        obtain ⟨qx, qy, rfl, rfl, tx, ty, hbe2⟩ := hcut
        obtain ⟨V, hV⟩ : ∃ V, V = wc := ⟨_, rfl⟩
        rw [← hV] at tx ty hbe2 ⊢
        clear hV hz5 hbe
        have x0 := tx.cell (i := 0) rfl
        have x1 := tx.cell (i := 1) rfl
        have x2 := tx.cell (i := 2) rfl
        have x3 := tx.cell (i := 3) rfl
        have x4 := tx.cell (i := 4) rfl
        have y0 := ty.cell (i := 0) rfl
        have y1 := ty.cell (i := 1) rfl
        have y2 := ty.cell (i := 2) rfl
        have y3 := ty.cell (i := 3) rfl
        have y4 := ty.cell (i := 4) rfl
        have HSA : Hid (Calls Try.prog 8 #[.slice ar z.tn cr, .slice ar2 z.tn cr2] V fun e w' => e = .returned (.bool true) ∧ Below V.heap.size V w') := by
          have := rsm_any (.slice ar z.tn cr) (.slice ar2 z.tn cr2) z.tn z.tn z.tf z.tf V (HNA.out.below hbe2) (HNB.out.below hbe2)
          rw [smB_iff.2 ⟨rfl, fun _ _ => rfl⟩] at this
          exact this
        clear tx ty HRA HRB HNA HNB
        go_wp2_with fail
        refine HSA.out.mono ?_
        rintro e V5 ⟨rfl, hb5⟩
        have hbe3 := hbe2.trans (hb5.mono hbe2.size)
        clear HSA hb5 hbe2 x0 x1 x2 x3 x4 y0 y1 y2 y3 y4
        go_wp2
        go_roundw
        case rel => exact ⟨j + 1, HLT.out, by go_num, hbe3⟩
        case measure => have := HLT.out; simp [intOf]; omega
end Go.Proofs.Ytlfghnngbljlhaa
