/-
  tele.Best, alone, to where its counts are made.
-/
import Derived.Test.YtpdemelchhkfaaaJn27
namespace Go.Proofs.Ytpdemelchhkfaaa
open Go.RowKit PK Tl
namespace Cs
/-- The first k pieces of a sequence, and what is behind them. -/
def cutAt : Nat → Code → Code
  | 0, _ => .skip
  | k + 1, .seq a b => .seq a (cutAt k b)
  | _ + 1, c => c
def restAt : Nat → Code → Code
  | 0, c => c
  | k + 1, .seq _ b => restAt k b
  | _ + 1, c => c
def longOf : Nat → Code → Bool
  | 0, _ => true
  | k + 1, .seq _ b => longOf k b
  | _ + 1, _ => false
noncomputable def bBody : Code := Try.f7.body.getD .skip
end Cs
theorem tf_zero {P : Program} {t : TypeId} {z : Value} (h : (P.info? t).map (·.zero) = some (some z)) (w : World) : (zeroValue t).run P w = .ok z w := by
  cases hi : P.info? t with
  | none => rw [hi] at h; cases h
  | some i =>
    rw [hi] at h
    simp only [Option.map_some, Option.some.injEq] at h
    simp [zeroValue, typeInfo, hi, h, go_sem]
theorem tf_zero_search : (Try.prog.info? 55).map (·.zero) = some (some (.agg #[.slice none 0 0, .slice none 0 0, .slice none 0 0])) := by kernel_rfl
theorem tf_info_search : (Try.prog.info? 55).map (·.size) = some 3 := by kernel_rfl
theorem row_ne {w : World} {b g : Nat} {T T2 : TypeId} {x y : Array Value} (h : RowAt w b T x) (k : RowAt w g T2 y) (hT : T ≠ T2) : b ≠ g := fun e => by
  subst e
  have := (show w.heap[b]? = _ from h).symm.trans (show w.heap[b]? = _ from k)
  injection this with this
  injection this with _ e
  exact hT e
/-- Where Best stands when its counts are to be made. -/
def FrP (v va vb : Value) (h s la lb : Nat) (GF FA FB : Nat → Int) (T : Array Value) (W : World) : Prop :=
  ∃ (f : Nat → Value) (bb b8 q gp ga gb : Nat), T = #[v, va, vb, .int .i64 (h : Nat), f 4, f 5, .pointer (some ⟨bb, 0, none⟩), f 7, .pointer (some ⟨b8, 0, none⟩), .int .i64 0, f 10, f 11, f 12, .pointer (some ⟨q, 0, none⟩), f 14, f 15, f 16, f 17, f 18, f 19, f 20, f 21, f 22, f 23, f 24, f 25, f 26, f 27, f 28, f 29, f 30, f 31, f 32, f 33, f 34, f 35, f 36, f 37, f 38, f 39, f 40, f 41, f 42, f 43, f 44, f 45, f 46, f 47, f 48, f 49, f 50, f 51, f 52, f 53, f 54, f 55, f 56, f 57, f 58, f 59, f 60, f 61, f 62, f 63, f 64, f 65, f 66, f 67, f 68, f 69, f 70, f 71] ∧ RowAt W bb 24 #[vb] ∧ RowAt W b8 26 #[.int .i64 0, .int .i64 0, .int .i64 0] ∧ RowAt W q 55 #[.slice (some ⟨gp, 0, none⟩) s s, .slice (some ⟨ga, 0, none⟩) la la, .slice (some ⟨gb, 0, none⟩) lb lb] ∧ RowAt W gp 79 (ints (s * 2) GF) ∧ RowAt W ga 3 (ints la FA) ∧ RowAt W gb 3 (ints lb FB)
def FrE (v va vb : Value) (h s la lb : Nat) (GF FA FB : Nat → Int) (e : Exit) (a : Act) (w' : World) : Prop := e = .normal ∧ a.defers = [] ∧ FrP v va vb h s la lb GF FA FB a.tmps w'
set_option maxRecDepth 100000 in
set_option maxHeartbeats 8000000 in
theorem best_front (v va vb : Value) (n la lb h : Nat) (f : Nat → Nat) (p q : Nat → Bool) (hn : n ≤ 65536) (hf : ∀ i, i < n → f i < 32) (ha : 1 ≤ la ∧ la ≤ 47) (hb : 1 ≤ lb ∧ lb ≤ 47) (hh : 1 ≤ h ∧ h ≤ 16) (w : World) (hv : NumsAt w v n (fun i => (f i : Int))) (h1 : PinsAt w va la p) (h2 : PinsAt w vb lb q) :
    (Cs.cutAt 5 Cs.bBody).wp Try.prog (FrE v va vb h (min (n - 1) (la * lb)) la lb (gaF (fun i => unN (f i ^^^ f (i + 1))) (la * lb) (n - 1)) (fun k => (chN p la k : Int)) (fun k => (chN q lb k : Int))) ⟨#[v, va, vb, .int .i64 (h : Nat), undef, undef, undef, undef, undef, undef, undef, undef, undef, undef, undef, undef, undef, undef, undef, undef, undef, undef, undef, undef, undef, undef, undef, undef, undef, undef, undef, undef, undef, undef, undef, undef, undef, undef, undef, undef, undef, undef, undef, undef, undef, undef, undef, undef, undef, undef, undef, undef, undef, undef, undef, undef, undef, undef, undef, undef, undef, undef, undef, undef, undef, undef, undef, undef, undef, undef, undef, undef], []⟩ w := by
  have hz := tf_zero (P := Try.prog) tf_zero_search
  have hR : 1 ≤ la * lb ∧ la * lb ≤ 2209 := ⟨Nat.mul_pos ha.1 hb.1, Nat.mul_le_mul ha.2 hb.2⟩
  have HDE : Hid (∀ W, Below w.heap.size w W → Calls Try.prog 16 #[v] W fun e w' => ∃ g, e = .returned (.tuple #[.slice (some ⟨g, 0, none⟩) (n - 1) (n - 1), .int .i64 0]) ∧ RowAt w' g 3 (ints (n - 1) (dlN fun i => (f i : Int))) ∧ Below W.heap.size W w') := fun W hW => pdl_ok v n _ (faE_ok hn (fun c hc => by have := hf c hc; constructor <;> omega)) W (hv.below hW)
  have HG : Hid (∀ g W, RowAt W g 3 (ints (n - 1) (dlN fun i => (f i : Int))) → Calls Try.prog 18 #[.slice (some ⟨g, 0, none⟩) (n - 1) (n - 1), .int .i64 ((la * lb : Nat) : Int)] W fun e w' => e = .returned (.slice (some ⟨W.heap.size, 0, none⟩) (min (n - 1) (la * lb)) (min (n - 1) (la * lb))) ∧ RowAt w' W.heap.size 79 (ints (min (n - 1) (la * lb) * 2) (gaF (fun i => unN (f i ^^^ f (i + 1))) (la * lb) (n - 1))) ∧ Below W.heap.size W w') := fun g W hg => pgat_any _ (n - 1) (fun i => f i ^^^ f (i + 1)) (la * lb) (by omega) hR (fun i hi => Nat.xor_lt_two_pow (n := 5) (hf i (by omega)) (hf (i + 1) (by omega))) W (NumsAt.of_row (by
    have e : (dlN fun i => (f i : Int)) = fun i => ((f i ^^^ f (i + 1) : Nat) : Int) := funext fun i => by simp [dlN]
    rw [← e]
    exact hg) (by unfold maxLen; omega))
  have HA : Hid (∀ W, Below w.heap.size w W → Calls Try.prog 19 #[va] W fun e w' => e = .returned (.slice (some ⟨W.heap.size, 0, none⟩) la la) ∧ RowAt w' W.heap.size 3 (ints la fun k => (chN p la k : Int)) ∧ Below W.heap.size W w') := fun W hW => pchg_any va la p ha.1 ha.2 W (h1.below hW)
  have HB : Hid (∀ W, Below w.heap.size w W → Calls Try.prog 19 #[vb] W fun e w' => e = .returned (.slice (some ⟨W.heap.size, 0, none⟩) lb lb) ∧ RowAt w' W.heap.size 3 (ints lb fun k => (chN q lb k : Int)) ∧ Below W.heap.size W w') := fun W hW => pchg_any vb lb q hb.1 hb.2 W (h2.below hW)
  obtain ⟨a1, c1, rfl, _⟩ := hv
  obtain ⟨⟨b1, o1, k1, rfl, _, _⟩, ⟨b2, o2, k2, rfl, _, _⟩⟩ := And.intro (h1.form ha.1) (h2.form hb.1)
  have HS : Hid (∀ W, Calls Try.prog 17 #[.slice (some ⟨b1, o1, none⟩) la k1, .slice (some ⟨b2, o2, none⟩) lb k2, .int .i64 (h : Nat)] W fun e w' => e = .returned (.int .i64 0) ∧ W = w') := fun W => by
    have := psrw_any (some ⟨b1, o1, none⟩) (some ⟨b2, o2, none⟩) la lb k1 k2 (h : Int) W (by unfold maxLen; omega) (by unfold maxLen; omega)
    rw [show srE la lb (h : Int) = 0 by unfold srE whE; rw [if_neg (by omega), if_neg (by omega)]; simp; omega] at this
    exact this
  have hmul : ((la : Int) * (lb : Int)) = ((la * lb : Nat) : Int) := by push_cast; rfl
  obtain ⟨S, hS0⟩ : ∃ S, S = min (n - 1) (la * lb) := ⟨_, rfl⟩
  rw [← hS0] at HG ⊢
  generalize la * lb = R at *
  generalize gaF (fun i => unN (f i ^^^ f (i + 1))) R (n - 1) = GF at *
  generalize (dlN fun i => (f i : Int)) = DF at *
  generalize (fun k => (chN p la k : Int)) = FA at *
  generalize (fun k => (chN q lb k : Int)) = FB at *
  generalize n - 1 = m at *
  clear hf h1 h2 hS0
  have hx1 := RowAt.new w 24 #[.slice (some ⟨b2, o2, none⟩) lb k2]
  have hx2 := hx1.alloc (.cells #[.int .i64 0, .int .i64 0, .int .i64 0] 26)
  have hx3 := RowAt.new (w.alloc (.cells #[.slice (some ⟨b2, o2, none⟩) lb k2] 24)) 26 #[.int .i64 0, .int .i64 0, .int .i64 0]
  have hbl := ((Below.refl w.heap.size w).alloc (Nat.le_refl _) (.cells #[.slice (some ⟨b2, o2, none⟩) lb k2] 24)).alloc (by simp) (.cells #[.int .i64 0, .int .i64 0, .int .i64 0] 26)
  simp only [Cs.cutAt, Cs.bBody, Try.f7, Option.getD_some]
  go_upto_region 1 with fail
  rw [show (w.alloc (.cells #[.slice (some ⟨b2, o2, none⟩) lb k2] 24)).heap.size = w.heap.size + 1 by simp] at hx3
  generalize (w.alloc (.cells #[.slice (some ⟨b2, o2, none⟩) lb k2] 24)).alloc (.cells #[.int .i64 0, .int .i64 0, .int .i64 0] 26) = W1 at *
  have hlt6 : w.heap.size < W1.heap.size := hx2.lt
  clear hx1
  go_wp2_with fail
  refine Calls.mono (HDE.out _ hbl) ?_
  rintro e Y ⟨g, rfl, hg, hY⟩
  clear HDE
  have hx4 := hx2.below hY hx2.lt
  have hx5 := hx3.below hY hx3.lt
  have hY2 : Below w.heap.size w Y := hbl.trans (hY.mono hbl.size)
  have cbx := hx4.cell (i := 0) rfl
  clear hx2 hx3 hbl hY
  go_wp2_with fail
  refine Calls.mono (HS.out _) ?_
  rintro e Y' ⟨rfl, rfl⟩
  clear HS
  go_upto_region 7 with fail
  have HX4 := (show Hid (RowAt Y w.heap.size 24 #[.slice (some ⟨b2, o2, none⟩) lb k2]) from hx4)
  have HX5 := (show Hid (RowAt Y (w.heap.size + 1) 26 #[.int .i64 0, .int .i64 0, .int .i64 0]) from hx5)
  have HGR := (show Hid (RowAt Y g 3 (ints m DF)) from hg)
  have HY2 := (show Hid (Below w.heap.size w Y) from hY2)
  clear hx4 hx5 hg hY2 cbx
  refine wp_region_noPanic ?_
  refine wp_region_held_drew (S := fun W => Below Y.heap.size Y W) (by kernel_rfl) (Below.refl _ _).drew (fun hS => ?_)
  obtain ⟨Z, hZ⟩ : ∃ x, x = Y.drew := ⟨_, rfl⟩
  rw [← hZ] at hS ⊢
  clear hZ
  refine vtake 0 34 (.slice (some ⟨g, 0, none⟩) m m) rfl rfl (by kernel_rfl) (by kernel_rfl) (by kernel_rfl) (fun _ _ _ _ h => h) (by rfl) (fun W hW => by clear hS hW; go_simp) hS ?_
  simp only [List.setIfInBounds_toArray, List.set_cons_succ, List.set_cons_zero]
  refine vtake 1 35 (.slice (some ⟨b1, o1, none⟩) la k1) rfl rfl (by kernel_rfl) (by kernel_rfl) (by kernel_rfl) (fun _ _ _ _ h => h) (by rfl) (fun W hW => by clear hS hW; go_simp) hS ?_
  simp only [List.setIfInBounds_toArray, List.set_cons_succ, List.set_cons_zero]
  refine vtake 2 36 (.int .i64 (la : Nat)) rfl rfl (by kernel_rfl) (by kernel_rfl) (by kernel_rfl) (fun _ _ _ _ h => h) (by rfl) (fun W hW => by clear hS hW; go_simp) hS ?_
  simp only [List.setIfInBounds_toArray, List.set_cons_succ, List.set_cons_zero]
  refine vtake 3 37 (.slice (some ⟨b2, o2, none⟩) lb k2) rfl rfl (by kernel_rfl) (by kernel_rfl) (by kernel_rfl) (fun _ _ _ _ h => h) (by rfl) (fun W hW => by have cbx := (HX4.out.below hW HX4.out.lt).cell (i := 0) rfl; clear hS hW; go_simp) hS ?_
  simp only [List.setIfInBounds_toArray, List.set_cons_succ, List.set_cons_zero]
  refine vtake 4 38 (.int .i64 (lb : Nat)) rfl rfl (by kernel_rfl) (by kernel_rfl) (by kernel_rfl) (fun _ _ _ _ h => h) (by rfl) (fun W hW => by clear hS hW; go_simp) hS ?_
  simp only [List.setIfInBounds_toArray, List.set_cons_succ, List.set_cons_zero]
  refine vtake 5 39 (.int .i64 (R : Nat)) rfl rfl (by kernel_rfl) (by kernel_rfl) (by kernel_rfl) (fun _ _ _ _ h => h) (by rfl) (fun W hW => by have u1 : IntKind.i64.wrap ((R : Nat) : Int) = (R : Int) := (by rw [IntKind.wrap_i64]; omega); clear hS hW; simp [execOp, Act.eval, go_sem, hmul, u1]) hS ?_
  simp only [List.setIfInBounds_toArray, List.set_cons_succ, List.set_cons_zero]
  refine vtake 7 41 (.slice (some ⟨b1, o1, none⟩) la k1) rfl rfl (by kernel_rfl) (by kernel_rfl) (by kernel_rfl) (fun _ _ _ _ h => h) (by rfl) (fun W hW => by clear hS hW; go_simp) hS ?_
  simp only [List.setIfInBounds_toArray, List.set_cons_succ, List.set_cons_zero]
  refine vtake 9 43 (.slice (some ⟨b2, o2, none⟩) lb k2) rfl rfl (by kernel_rfl) (by kernel_rfl) (by kernel_rfl) (fun _ _ _ _ h => h) (by rfl) (fun W hW => by have cbx := (HX4.out.below hW HX4.out.lt).cell (i := 0) rfl; clear hS hW; go_simp) hS ?_
  simp only [List.setIfInBounds_toArray, List.set_cons_succ, List.set_cons_zero]
  refine wpAnyH_ready (rs := [6, 12]) (by kernel_rfl) (by simp) ?_
  refine AllReadyH.cons (o := _) rfl (fun K hK => ?_) (AllReadyH.cons (o := _) rfl (fun K hK => ?_) AllReadyH.nil)
  · rw [if_pos (by rfl)]
    go_simp
    refine Calls.mono (HG.out g _ (HGR.out.below hS HGR.out.lt)) ?_
    rintro e V1 ⟨rfl, hgp, hb8⟩
    obtain ⟨gp, hgq⟩ : ∃ x, x = Z.heap.size := ⟨_, rfl⟩
    rw [← hgq] at hgp ⊢
    clear hgq
    refine hK.out _ _ (hS.trans (hb8.mono hS.size)) (fun hS1 => ?_)
    clear hb8
    clear hK K
    clear hS
    have hS := hS1
    clear hS1
    refine wpAnyH_ready (rs := [8, 12]) (by kernel_rfl) (by simp) ?_
    refine AllReadyH.cons (o := _) rfl (fun K hK => ?_) (AllReadyH.cons (o := _) rfl (fun K hK => ?_) AllReadyH.nil)
    · rw [if_pos (by rfl)]
      go_simp
      refine Calls.mono (HA.out _ (HY2.out.trans (hS.mono HY2.out.size))) ?_
      rintro e V3 ⟨rfl, hga, hb8⟩
      obtain ⟨ga, hgq⟩ : ∃ x, x = V1.heap.size := ⟨_, rfl⟩
      rw [← hgq] at hga ⊢
      clear hgq
      refine hK.out _ _ (hS.trans (hb8.mono hS.size)) (fun hS1 => ?_)
      have hgp1 := hgp.below hb8 hgp.lt
      clear hgp
      have hgp := hgp1
      clear hgp1
      clear hb8
      clear hK K
      clear hS
      have hS := hS1
      clear hS1
      refine wpAnyH_ready (rs := [10, 12]) (by kernel_rfl) (by simp) ?_
      refine AllReadyH.cons (o := _) rfl (fun K hK => ?_) (AllReadyH.cons (o := _) rfl (fun K hK => ?_) AllReadyH.nil)
      · rw [if_pos (by rfl)]
        go_simp
        refine Calls.mono (HB.out _ (HY2.out.trans (hS.mono HY2.out.size))) ?_
        rintro e V5 ⟨rfl, hgb, hb8⟩
        obtain ⟨gb, hgq⟩ : ∃ x, x = V3.heap.size := ⟨_, rfl⟩
        rw [← hgq] at hgb ⊢
        clear hgq
        refine hK.out _ _ (hS.trans (hb8.mono hS.size)) (fun hS1 => ?_)
        have hgp1 := hgp.below hb8 hgp.lt
        clear hgp
        have hgp := hgp1
        clear hgp1
        have hga1 := hga.below hb8 hga.lt
        clear hga
        have hga := hga1
        clear hga1
        clear hb8
        clear hK K
        clear hS
        have hS := hS1
        clear hS1
        refine vtake 11 45 (.agg #[.slice (some ⟨gp, 0, none⟩) S S, .slice (some ⟨ga, 0, none⟩) la la, .slice (some ⟨gb, 0, none⟩) lb lb]) rfl rfl (by kernel_rfl) (by kernel_rfl) (by kernel_rfl) (fun _ _ _ _ h => h) (by rfl) (fun W hW => by clear hS hW; simp [execOp, Act.eval, go_sem, hz]) hS ?_
        simp only [List.setIfInBounds_toArray, List.set_cons_succ, List.set_cons_zero]
        refine wpAnyH_ready (rs := [12]) (by kernel_rfl) (by simp) ?_
        refine AllReadyH.cons (o := _) rfl (fun K hK => ?_) AllReadyH.nil
        rw [if_pos (by rfl)]
        go_simp
        have hq := RowAt.new V5 55 #[.slice none 0 0, .slice none 0 0, .slice none 0 0]
        have hql := hS.size
        refine hK.out _ _ (hS.alloc hS.size _) (fun hS1 => ?_)
        have hgp1 := hgp.alloc (.cells #[.slice none 0 0, .slice none 0 0, .slice none 0 0] 55)
        clear hgp
        have hgp := hgp1
        clear hgp1
        have hga1 := hga.alloc (.cells #[.slice none 0 0, .slice none 0 0, .slice none 0 0] 55)
        clear hga
        have hga := hga1
        clear hga1
        have hgb1 := hgb.alloc (.cells #[.slice none 0 0, .slice none 0 0, .slice none 0 0] 55)
        clear hgb
        have hgb := hgb1
        clear hgb1
        clear hK K
        clear hS
        have hS := hS1
        clear hS1
        obtain ⟨qq, hqq⟩ : ∃ x, x = V5.heap.size := ⟨_, rfl⟩
        rw [← hqq] at hq hql ⊢
        generalize V5.alloc (.cells #[.slice none 0 0, .slice none 0 0, .slice none 0 0] 55) = V7 at *
        clear hqq
        refine storeH 13 _ (by kernel_rfl) rfl (by kernel_rfl) 55 (Operand.tmp 13) (Operand.tmp 45) rfl qq #[.slice (some ⟨gp, 0, none⟩) S S, .slice (some ⟨ga, 0, none⟩) la la, .slice (some ⟨gb, 0, none⟩) lb lb] rfl rfl 55 _ hq tf_info_search rfl (by simp [Value.oneCell']) rfl (Below.setRow hS qq hql _) (fun hS1 => ?_)
        have hq2 := hq.row #[.slice (some ⟨gp, 0, none⟩) S S, .slice (some ⟨ga, 0, none⟩) la la, .slice (some ⟨gb, 0, none⟩) lb lb]
        have hp2 := hgp.rowOther qq #[.slice (some ⟨gp, 0, none⟩) S S, .slice (some ⟨ga, 0, none⟩) la la, .slice (some ⟨gb, 0, none⟩) lb lb] (row_ne hgp hq (by decide))
        have ha2 := hga.rowOther qq #[.slice (some ⟨gp, 0, none⟩) S S, .slice (some ⟨ga, 0, none⟩) la la, .slice (some ⟨gb, 0, none⟩) lb lb] (row_ne hga hq (by decide))
        have hb2 := hgb.rowOther qq #[.slice (some ⟨gp, 0, none⟩) S S, .slice (some ⟨ga, 0, none⟩) la la, .slice (some ⟨gb, 0, none⟩) lb lb] (row_ne hgb hq (by decide))
        clear hS hq hgp hga hgb
        have hS := hS1
        clear hS1
        refine wpAnyH_done (by kernel_rfl) ?_ _
        refine NoPanic.normal ?_
        have HF1 := (show Hid _ from HX4.out.below hS HX4.out.lt)
        have HF2 := (show Hid _ from HX5.out.below hS HX5.out.lt)
        clear HX4 HX5 HGR HY2 HG HA HB hS
        have HQ2 := (show Hid _ from hq2)
        have HP2 := (show Hid _ from hp2)
        have HA2 := (show Hid _ from ha2)
        have HB2 := (show Hid _ from hb2)
        clear hq2 hp2 ha2 hb2
        go_wp2
        exact ⟨rfl, rfl, fun i => ([undef, undef, undef, undef, _, _, undef, _, undef, undef, _, _, _, undef, _, _, _, _, _, _, _, _, _, _, _, _, _, _, _, _, _, _, _, _, _, _, _, _, _, _, _, _, _, _, _, _, _, _, _, _, _, _, _, _, _, _, _, _, _, _, _, _, _, _, _, _, _, _, _, _, _, _] : List Value).getD i undef, _, _, _, _, _, _, rfl, HF1.out, HF2.out, HQ2.out, HP2.out, HA2.out, HB2.out⟩
      · rw [if_pos (by rfl)]
        go_simp
        have hq := RowAt.new V3 55 #[.slice none 0 0, .slice none 0 0, .slice none 0 0]
        have hql := hS.size
        refine hK.out _ _ (hS.alloc hS.size _) (fun hS1 => ?_)
        have hgp1 := hgp.alloc (.cells #[.slice none 0 0, .slice none 0 0, .slice none 0 0] 55)
        clear hgp
        have hgp := hgp1
        clear hgp1
        have hga1 := hga.alloc (.cells #[.slice none 0 0, .slice none 0 0, .slice none 0 0] 55)
        clear hga
        have hga := hga1
        clear hga1
        clear hK K
        clear hS
        have hS := hS1
        clear hS1
        obtain ⟨qq, hqq⟩ : ∃ x, x = V3.heap.size := ⟨_, rfl⟩
        rw [← hqq] at hq hql ⊢
        generalize V3.alloc (.cells #[.slice none 0 0, .slice none 0 0, .slice none 0 0] 55) = V6 at *
        clear hqq
        refine wpAnyH_ready (rs := [10]) (by kernel_rfl) (by simp) ?_
        refine AllReadyH.cons (o := _) rfl (fun K hK => ?_) AllReadyH.nil
        rw [if_pos (by rfl)]
        go_simp
        refine Calls.mono (HB.out _ (HY2.out.trans (hS.mono HY2.out.size))) ?_
        rintro e V8 ⟨rfl, hgb, hb8⟩
        obtain ⟨gb, hgq⟩ : ∃ x, x = V6.heap.size := ⟨_, rfl⟩
        rw [← hgq] at hgb ⊢
        clear hgq
        refine hK.out _ _ (hS.trans (hb8.mono hS.size)) (fun hS1 => ?_)
        have hgp1 := hgp.below hb8 hgp.lt
        clear hgp
        have hgp := hgp1
        clear hgp1
        have hga1 := hga.below hb8 hga.lt
        clear hga
        have hga := hga1
        clear hga1
        have hq1 := hq.below hb8 hq.lt
        clear hq
        have hq := hq1
        clear hq1
        clear hb8
        clear hK K
        clear hS
        have hS := hS1
        clear hS1
        refine vtake 11 45 (.agg #[.slice (some ⟨gp, 0, none⟩) S S, .slice (some ⟨ga, 0, none⟩) la la, .slice (some ⟨gb, 0, none⟩) lb lb]) rfl rfl (by kernel_rfl) (by kernel_rfl) (by kernel_rfl) (fun _ _ _ _ h => h) (by rfl) (fun W hW => by clear hS hW; simp [execOp, Act.eval, go_sem, hz]) hS ?_
        simp only [List.setIfInBounds_toArray, List.set_cons_succ, List.set_cons_zero]
        refine storeH 13 _ (by kernel_rfl) rfl (by kernel_rfl) 55 (Operand.tmp 13) (Operand.tmp 45) rfl qq #[.slice (some ⟨gp, 0, none⟩) S S, .slice (some ⟨ga, 0, none⟩) la la, .slice (some ⟨gb, 0, none⟩) lb lb] rfl rfl 55 _ hq tf_info_search rfl (by simp [Value.oneCell']) rfl (Below.setRow hS qq hql _) (fun hS1 => ?_)
        have hq2 := hq.row #[.slice (some ⟨gp, 0, none⟩) S S, .slice (some ⟨ga, 0, none⟩) la la, .slice (some ⟨gb, 0, none⟩) lb lb]
        have hp2 := hgp.rowOther qq #[.slice (some ⟨gp, 0, none⟩) S S, .slice (some ⟨ga, 0, none⟩) la la, .slice (some ⟨gb, 0, none⟩) lb lb] (row_ne hgp hq (by decide))
        have ha2 := hga.rowOther qq #[.slice (some ⟨gp, 0, none⟩) S S, .slice (some ⟨ga, 0, none⟩) la la, .slice (some ⟨gb, 0, none⟩) lb lb] (row_ne hga hq (by decide))
        have hb2 := hgb.rowOther qq #[.slice (some ⟨gp, 0, none⟩) S S, .slice (some ⟨ga, 0, none⟩) la la, .slice (some ⟨gb, 0, none⟩) lb lb] (row_ne hgb hq (by decide))
        clear hS hq hgp hga hgb
        have hS := hS1
        clear hS1
        refine wpAnyH_done (by kernel_rfl) ?_ _
        refine NoPanic.normal ?_
        have HF1 := (show Hid _ from HX4.out.below hS HX4.out.lt)
        have HF2 := (show Hid _ from HX5.out.below hS HX5.out.lt)
        clear HX4 HX5 HGR HY2 HG HA HB hS
        have HQ2 := (show Hid _ from hq2)
        have HP2 := (show Hid _ from hp2)
        have HA2 := (show Hid _ from ha2)
        have HB2 := (show Hid _ from hb2)
        clear hq2 hp2 ha2 hb2
        go_wp2
        exact ⟨rfl, rfl, fun i => ([undef, undef, undef, undef, _, _, undef, _, undef, undef, _, _, _, undef, _, _, _, _, _, _, _, _, _, _, _, _, _, _, _, _, _, _, _, _, _, _, _, _, _, _, _, _, _, _, _, _, _, _, _, _, _, _, _, _, _, _, _, _, _, _, _, _, _, _, _, _, _, _, _, _, _, _] : List Value).getD i undef, _, _, _, _, _, _, rfl, HF1.out, HF2.out, HQ2.out, HP2.out, HA2.out, HB2.out⟩
    · rw [if_pos (by rfl)]
      go_simp
      have hq := RowAt.new V1 55 #[.slice none 0 0, .slice none 0 0, .slice none 0 0]
      have hql := hS.size
      refine hK.out _ _ (hS.alloc hS.size _) (fun hS1 => ?_)
      have hgp1 := hgp.alloc (.cells #[.slice none 0 0, .slice none 0 0, .slice none 0 0] 55)
      clear hgp
      have hgp := hgp1
      clear hgp1
      clear hK K
      clear hS
      have hS := hS1
      clear hS1
      obtain ⟨qq, hqq⟩ : ∃ x, x = V1.heap.size := ⟨_, rfl⟩
      rw [← hqq] at hq hql ⊢
      generalize V1.alloc (.cells #[.slice none 0 0, .slice none 0 0, .slice none 0 0] 55) = V4 at *
      clear hqq
      refine wpAnyH_ready (rs := [8]) (by kernel_rfl) (by simp) ?_
      refine AllReadyH.cons (o := _) rfl (fun K hK => ?_) AllReadyH.nil
      rw [if_pos (by rfl)]
      go_simp
      refine Calls.mono (HA.out _ (HY2.out.trans (hS.mono HY2.out.size))) ?_
      rintro e V9 ⟨rfl, hga, hb8⟩
      obtain ⟨ga, hgq⟩ : ∃ x, x = V4.heap.size := ⟨_, rfl⟩
      rw [← hgq] at hga ⊢
      clear hgq
      refine hK.out _ _ (hS.trans (hb8.mono hS.size)) (fun hS1 => ?_)
      have hgp1 := hgp.below hb8 hgp.lt
      clear hgp
      have hgp := hgp1
      clear hgp1
      have hq1 := hq.below hb8 hq.lt
      clear hq
      have hq := hq1
      clear hq1
      clear hb8
      clear hK K
      clear hS
      have hS := hS1
      clear hS1
      refine wpAnyH_ready (rs := [10]) (by kernel_rfl) (by simp) ?_
      refine AllReadyH.cons (o := _) rfl (fun K hK => ?_) AllReadyH.nil
      rw [if_pos (by rfl)]
      go_simp
      refine Calls.mono (HB.out _ (HY2.out.trans (hS.mono HY2.out.size))) ?_
      rintro e V10 ⟨rfl, hgb, hb8⟩
      obtain ⟨gb, hgq⟩ : ∃ x, x = V9.heap.size := ⟨_, rfl⟩
      rw [← hgq] at hgb ⊢
      clear hgq
      refine hK.out _ _ (hS.trans (hb8.mono hS.size)) (fun hS1 => ?_)
      have hgp1 := hgp.below hb8 hgp.lt
      clear hgp
      have hgp := hgp1
      clear hgp1
      have hga1 := hga.below hb8 hga.lt
      clear hga
      have hga := hga1
      clear hga1
      have hq1 := hq.below hb8 hq.lt
      clear hq
      have hq := hq1
      clear hq1
      clear hb8
      clear hK K
      clear hS
      have hS := hS1
      clear hS1
      refine vtake 11 45 (.agg #[.slice (some ⟨gp, 0, none⟩) S S, .slice (some ⟨ga, 0, none⟩) la la, .slice (some ⟨gb, 0, none⟩) lb lb]) rfl rfl (by kernel_rfl) (by kernel_rfl) (by kernel_rfl) (fun _ _ _ _ h => h) (by rfl) (fun W hW => by clear hS hW; simp [execOp, Act.eval, go_sem, hz]) hS ?_
      simp only [List.setIfInBounds_toArray, List.set_cons_succ, List.set_cons_zero]
      refine storeH 13 _ (by kernel_rfl) rfl (by kernel_rfl) 55 (Operand.tmp 13) (Operand.tmp 45) rfl qq #[.slice (some ⟨gp, 0, none⟩) S S, .slice (some ⟨ga, 0, none⟩) la la, .slice (some ⟨gb, 0, none⟩) lb lb] rfl rfl 55 _ hq tf_info_search rfl (by simp [Value.oneCell']) rfl (Below.setRow hS qq hql _) (fun hS1 => ?_)
      have hq2 := hq.row #[.slice (some ⟨gp, 0, none⟩) S S, .slice (some ⟨ga, 0, none⟩) la la, .slice (some ⟨gb, 0, none⟩) lb lb]
      have hp2 := hgp.rowOther qq #[.slice (some ⟨gp, 0, none⟩) S S, .slice (some ⟨ga, 0, none⟩) la la, .slice (some ⟨gb, 0, none⟩) lb lb] (row_ne hgp hq (by decide))
      have ha2 := hga.rowOther qq #[.slice (some ⟨gp, 0, none⟩) S S, .slice (some ⟨ga, 0, none⟩) la la, .slice (some ⟨gb, 0, none⟩) lb lb] (row_ne hga hq (by decide))
      have hb2 := hgb.rowOther qq #[.slice (some ⟨gp, 0, none⟩) S S, .slice (some ⟨ga, 0, none⟩) la la, .slice (some ⟨gb, 0, none⟩) lb lb] (row_ne hgb hq (by decide))
      clear hS hq hgp hga hgb
      have hS := hS1
      clear hS1
      refine wpAnyH_done (by kernel_rfl) ?_ _
      refine NoPanic.normal ?_
      have HF1 := (show Hid _ from HX4.out.below hS HX4.out.lt)
      have HF2 := (show Hid _ from HX5.out.below hS HX5.out.lt)
      clear HX4 HX5 HGR HY2 HG HA HB hS
      have HQ2 := (show Hid _ from hq2)
      have HP2 := (show Hid _ from hp2)
      have HA2 := (show Hid _ from ha2)
      have HB2 := (show Hid _ from hb2)
      clear hq2 hp2 ha2 hb2
      go_wp2
      exact ⟨rfl, rfl, fun i => ([undef, undef, undef, undef, _, _, undef, _, undef, undef, _, _, _, undef, _, _, _, _, _, _, _, _, _, _, _, _, _, _, _, _, _, _, _, _, _, _, _, _, _, _, _, _, _, _, _, _, _, _, _, _, _, _, _, _, _, _, _, _, _, _, _, _, _, _, _, _, _, _, _, _, _, _] : List Value).getD i undef, _, _, _, _, _, _, rfl, HF1.out, HF2.out, HQ2.out, HP2.out, HA2.out, HB2.out⟩
  · rw [if_pos (by rfl)]
    go_simp
    have hq := RowAt.new Z 55 #[.slice none 0 0, .slice none 0 0, .slice none 0 0]
    have hql := hS.size
    refine hK.out _ _ (hS.alloc hS.size _) (fun hS1 => ?_)
    clear hK K
    clear hS
    have hS := hS1
    clear hS1
    obtain ⟨qq, hqq⟩ : ∃ x, x = Z.heap.size := ⟨_, rfl⟩
    rw [← hqq] at hq hql ⊢
    generalize Z.alloc (.cells #[.slice none 0 0, .slice none 0 0, .slice none 0 0] 55) = V2 at *
    clear hqq
    refine wpAnyH_ready (rs := [6]) (by kernel_rfl) (by simp) ?_
    refine AllReadyH.cons (o := _) rfl (fun K hK => ?_) AllReadyH.nil
    rw [if_pos (by rfl)]
    go_simp
    refine Calls.mono (HG.out g _ (HGR.out.below hS HGR.out.lt)) ?_
    rintro e V11 ⟨rfl, hgp, hb8⟩
    obtain ⟨gp, hgq⟩ : ∃ x, x = V2.heap.size := ⟨_, rfl⟩
    rw [← hgq] at hgp ⊢
    clear hgq
    refine hK.out _ _ (hS.trans (hb8.mono hS.size)) (fun hS1 => ?_)
    have hq1 := hq.below hb8 hq.lt
    clear hq
    have hq := hq1
    clear hq1
    clear hb8
    clear hK K
    clear hS
    have hS := hS1
    clear hS1
    refine wpAnyH_ready (rs := [8]) (by kernel_rfl) (by simp) ?_
    refine AllReadyH.cons (o := _) rfl (fun K hK => ?_) AllReadyH.nil
    rw [if_pos (by rfl)]
    go_simp
    refine Calls.mono (HA.out _ (HY2.out.trans (hS.mono HY2.out.size))) ?_
    rintro e V12 ⟨rfl, hga, hb8⟩
    obtain ⟨ga, hgq⟩ : ∃ x, x = V11.heap.size := ⟨_, rfl⟩
    rw [← hgq] at hga ⊢
    clear hgq
    refine hK.out _ _ (hS.trans (hb8.mono hS.size)) (fun hS1 => ?_)
    have hgp1 := hgp.below hb8 hgp.lt
    clear hgp
    have hgp := hgp1
    clear hgp1
    have hq1 := hq.below hb8 hq.lt
    clear hq
    have hq := hq1
    clear hq1
    clear hb8
    clear hK K
    clear hS
    have hS := hS1
    clear hS1
    refine wpAnyH_ready (rs := [10]) (by kernel_rfl) (by simp) ?_
    refine AllReadyH.cons (o := _) rfl (fun K hK => ?_) AllReadyH.nil
    rw [if_pos (by rfl)]
    go_simp
    refine Calls.mono (HB.out _ (HY2.out.trans (hS.mono HY2.out.size))) ?_
    rintro e V13 ⟨rfl, hgb, hb8⟩
    obtain ⟨gb, hgq⟩ : ∃ x, x = V12.heap.size := ⟨_, rfl⟩
    rw [← hgq] at hgb ⊢
    clear hgq
    refine hK.out _ _ (hS.trans (hb8.mono hS.size)) (fun hS1 => ?_)
    have hgp1 := hgp.below hb8 hgp.lt
    clear hgp
    have hgp := hgp1
    clear hgp1
    have hga1 := hga.below hb8 hga.lt
    clear hga
    have hga := hga1
    clear hga1
    have hq1 := hq.below hb8 hq.lt
    clear hq
    have hq := hq1
    clear hq1
    clear hb8
    clear hK K
    clear hS
    have hS := hS1
    clear hS1
    refine vtake 11 45 (.agg #[.slice (some ⟨gp, 0, none⟩) S S, .slice (some ⟨ga, 0, none⟩) la la, .slice (some ⟨gb, 0, none⟩) lb lb]) rfl rfl (by kernel_rfl) (by kernel_rfl) (by kernel_rfl) (fun _ _ _ _ h => h) (by rfl) (fun W hW => by clear hS hW; simp [execOp, Act.eval, go_sem, hz]) hS ?_
    simp only [List.setIfInBounds_toArray, List.set_cons_succ, List.set_cons_zero]
    refine storeH 13 _ (by kernel_rfl) rfl (by kernel_rfl) 55 (Operand.tmp 13) (Operand.tmp 45) rfl qq #[.slice (some ⟨gp, 0, none⟩) S S, .slice (some ⟨ga, 0, none⟩) la la, .slice (some ⟨gb, 0, none⟩) lb lb] rfl rfl 55 _ hq tf_info_search rfl (by simp [Value.oneCell']) rfl (Below.setRow hS qq hql _) (fun hS1 => ?_)
    have hq2 := hq.row #[.slice (some ⟨gp, 0, none⟩) S S, .slice (some ⟨ga, 0, none⟩) la la, .slice (some ⟨gb, 0, none⟩) lb lb]
    have hp2 := hgp.rowOther qq #[.slice (some ⟨gp, 0, none⟩) S S, .slice (some ⟨ga, 0, none⟩) la la, .slice (some ⟨gb, 0, none⟩) lb lb] (row_ne hgp hq (by decide))
    have ha2 := hga.rowOther qq #[.slice (some ⟨gp, 0, none⟩) S S, .slice (some ⟨ga, 0, none⟩) la la, .slice (some ⟨gb, 0, none⟩) lb lb] (row_ne hga hq (by decide))
    have hb2 := hgb.rowOther qq #[.slice (some ⟨gp, 0, none⟩) S S, .slice (some ⟨ga, 0, none⟩) la la, .slice (some ⟨gb, 0, none⟩) lb lb] (row_ne hgb hq (by decide))
    clear hS hq hgp hga hgb
    have hS := hS1
    clear hS1
    refine wpAnyH_done (by kernel_rfl) ?_ _
    refine NoPanic.normal ?_
    have HF1 := (show Hid _ from HX4.out.below hS HX4.out.lt)
    have HF2 := (show Hid _ from HX5.out.below hS HX5.out.lt)
    clear HX4 HX5 HGR HY2 HG HA HB hS
    have HQ2 := (show Hid _ from hq2)
    have HP2 := (show Hid _ from hp2)
    have HA2 := (show Hid _ from ha2)
    have HB2 := (show Hid _ from hb2)
    clear hq2 hp2 ha2 hb2
    go_wp2
    exact ⟨rfl, rfl, fun i => ([undef, undef, undef, undef, _, _, undef, _, undef, undef, _, _, _, undef, _, _, _, _, _, _, _, _, _, _, _, _, _, _, _, _, _, _, _, _, _, _, _, _, _, _, _, _, _, _, _, _, _, _, _, _, _, _, _, _, _, _, _, _, _, _, _, _, _, _, _, _, _, _, _, _, _, _] : List Value).getD i undef, _, _, _, _, _, _, rfl, HF1.out, HF2.out, HQ2.out, HP2.out, HA2.out, HB2.out⟩
end Go.Proofs.Ytpdemelchhkfaaa
