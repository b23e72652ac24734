/-
  Several texts, joined: TgP, TgN.
-/
import Derived.Test.YtpdemelchhkfaaaJn35
import Derived.Test.YtpdemelchhkfaaaCzC
import Derived.Laws.StructEq
/-
  A call of tele.Best in which something is wrong, in company.
-/
namespace Go.Proofs.Ytpdemelchhkfaaa
open Go.RowKit PK Tl
namespace Cs
def cutU : Nat → Code → Code
  | 0, _ => .exit 1000000
  | k + 1, .seq a b => .seq a (cutU k b)
  | _ + 1, c => c
theorem uc_cut : ∀ {k : Nat} {c : Code}, longOf k c = true → UC (restAt k c) (cutU k c) c
  | 0, _, _ => .out
  | k + 1, .seq a b, h => .seq a (uc_cut (k := k) (c := b) h)
  | _ + 1, .skip, h | _ + 1, .region _ _ _, h | _ + 1, .cond _ _ _, h | _ + 1, .block _ _, h | _ + 1, .loop _, h | _ + 1, .scope _, h | _ + 1, .label _, h | _ + 1, .exit _, h | _ + 1, .goto _, h | _ + 1, .ret, h | _ + 1, .rangeFunc _ _ _ _, h | _ + 1, .refuse _, h => by cases h
theorem bu_ok : codeOk Try.prog (cutU 5 bBody) = true := by kernel_rfl
end Cs
set_option maxRecDepth 100000 in
set_option maxHeartbeats 4000000 in
theorem pbest_cut (v va vb : Value) (n la lb : Nat) (h : Int) (f : Nat → Int) (p q : Nat → Bool) (hE : beE n f la lb h ≠ 0) (w : World) (hv : NumsAt w v n f) (h1 : PinsAt w va la p) (h2 : PinsAt w vb lb q) :
    (Cs.cutU 5 Cs.bBody).wp Try.prog (bodyPost Try.prog Try.f7 (Cs.PostE fun u w' => u = .tuple #[.agg #[.int .i64 0, .int .i64 0, .int .i64 0], .int .i64 (beE n f la lb h)] ∧ Below w.heap.size w w')) ⟨#[v, va, vb, .int .i64 h, undef, undef, undef, undef, undef, undef, undef, undef, undef, undef, undef, undef, undef, undef, undef, undef, undef, undef, undef, undef, undef, undef, undef, undef, undef, undef, undef, undef, undef, undef, undef, undef, undef, undef, undef, undef, undef, undef, undef, undef, undef, undef, undef, undef, undef, undef, undef, undef, undef, undef, undef, undef, undef, undef, undef, undef, undef, undef, undef, undef, undef, undef, undef, undef, undef, undef, undef, undef], []⟩ w := by
  obtain ⟨a2, k2, rfl, l2, _⟩ := h2
  obtain ⟨a1, k1, rfl, l1, _⟩ := h1
  have hz := tf_zero (P := Try.prog) tf_zero_hit
  have HS : Hid (∀ W, Calls Try.prog 17 #[.slice a1 la k1, .slice a2 lb k2, .int .i64 h] W fun e w' => e = .returned (.int .i64 (srE la lb h)) ∧ W = w') := fun W => psrw_any a1 a2 la lb k1 k2 h W l1 l2
  have HB : Hid (faE n f ≠ 0 → ∀ W, Below w.heap.size w W → Calls Try.prog 16 #[v] W fun e w' => e = .returned (.tuple #[.slice none 0 0, .int .i64 (faE n f)]) ∧ Below W.heap.size W w') := fun h0 W hW => pdl_bad v n f h0 W (hv.below hW)
  have HO : Hid (faE n f = 0 → ∀ W, Below w.heap.size w W → Calls Try.prog 16 #[v] W fun e w' => ∃ g, e = .returned (.tuple #[.slice (some ⟨g, 0, none⟩) (n - 1) (n - 1), .int .i64 0]) ∧ RowAt w' g 3 (ints (n - 1) (dlN f)) ∧ Below W.heap.size W w') := fun h0 W hW => pdl_ok v n f h0 W (hv.below hW)
  obtain ⟨a0, c0, rfl, _⟩ := hv
  have hx1 := RowAt.new w 24 #[.slice a2 lb k2]
  have hx2 := hx1.alloc (.cells #[.int .i64 0, .int .i64 0, .int .i64 0] 26)
  have hx3 := RowAt.new (w.alloc (.cells #[.slice a2 lb k2] 24)) 26 #[.int .i64 0, .int .i64 0, .int .i64 0]
  have hbl := ((Below.refl w.heap.size w).alloc (Nat.le_refl _) (.cells #[.slice a2 lb k2] 24)).alloc (by simp) (.cells #[.int .i64 0, .int .i64 0, .int .i64 0] 26)
  rw [show (w.alloc (.cells #[.slice a2 lb k2] 24)).heap.size = w.heap.size + 1 by simp] at hx3
  have HEE : Hid (beE n f la lb h = if faE n f ≠ 0 then faE n f else srE la lb h) := rfl
  obtain ⟨BE, hBE⟩ : ∃ x, x = beE n f la lb h := ⟨_, rfl⟩
  rw [← hBE] at HEE hE ⊢
  clear hBE
  generalize faE n f = FE at *
  have hcs := srE_cs la lb h
  generalize srE la lb h = SE at *
  clear hx1
  simp only [Cs.cutU, Cs.bBody, Try.f7, Option.getD_some]
  go_upto_region 1 with fail
  generalize (w.alloc (.cells #[.slice a2 lb k2] 24)).alloc (.cells #[.int .i64 0, .int .i64 0, .int .i64 0] 26) = W1 at *
  by_cases h0 : FE = 0
  · subst h0
    have HX : Hid (BE = SE) := HEE.out.trans (if_neg (by simp))
    have hse : SE = 3 := by
      rcases hcs with e | e
      · exact absurd (HX.out.trans e) hE
      · exact e
    have HO2 := (show Hid (∀ W, Below w.heap.size w W → Calls Try.prog 16 #[.slice a0 n c0] W fun e w' => ∃ g, e = .returned (.tuple #[.slice (some ⟨g, 0, none⟩) (n - 1) (n - 1), .int .i64 0]) ∧ RowAt w' g 3 (ints (n - 1) (dlN f)) ∧ Below W.heap.size W w') from HO.out rfl)
    clear HB HO HEE hE hcs
    go_wp2_with fail
    refine Calls.mono (HO2.out _ hbl) ?_
    rintro e Y ⟨g, rfl, _, hY⟩
    have hx4 := hx2.below hY hx2.lt
    have hx5 := hx3.below hY hx3.lt
    have HY : Hid (Below w.heap.size w Y) := hbl.trans (hY.mono hbl.size)
    have cbx := hx4.cell (i := 0) rfl
    clear HO2 hx2 hx3 hbl hY
    go_wp2_with fail
    refine Calls.mono (HS.out _) ?_
    rintro e Y' ⟨rfl, rfl⟩
    subst hse
    have d0 := hx5.cell (i := 0) rfl
    have d1 := hx5.cell (i := 1) rfl
    have d2 := hx5.cell (i := 2) rfl
    have f0 := hx5.frozen 0
    have f1 := hx5.frozen 1
    have f2 := hx5.frozen 2
    have HX5 := (show Hid (RowAt Y (w.heap.size + 1) 26 #[.int .i64 0, .int .i64 0, .int .i64 0]) from hx5)
    clear HS hx4 hx5
    go_wp2
    exact bodyPost_ret (v := .tuple #[.agg #[.int .i64 0, .int .i64 0, .int .i64 0], .int .i64 3]) (tf_cell_tmp2 rfl _ _ (w.heap.size + 1) 26 _ (0, 0) _ _ rfl rfl (((HX5.out.set 0 (.int .i64 0)).set 1 (.int .i64 0)).set 2 (.int .i64 0)) Try.underlying26 rfl tf_info_hit) rfl ⟨_, rfl, by rw [HX.out], ((HY.out.setCell (p := ⟨w.heap.size + 1, 0, none⟩) (Nat.le_succ _) _).setCell (p := ⟨w.heap.size + 1, 1, none⟩) (Nat.le_succ _) _).setCell (p := ⟨w.heap.size + 1, 2, none⟩) (Nat.le_succ _) _⟩
  · have HX : Hid (BE = FE) := HEE.out.trans (if_pos h0)
    have HB2 := (show Hid (∀ W, Below w.heap.size w W → Calls Try.prog 16 #[.slice a0 n c0] W fun e w' => e = .returned (.tuple #[.slice none 0 0, .int .i64 FE]) ∧ Below W.heap.size W w') from HB.out h0)
    have hb0 : (FE != 0) = true := by simpa using h0
    clear HB HO HEE hE hcs HS
    go_wp2_with fail
    refine Calls.mono (HB2.out _ hbl) ?_
    rintro e Y ⟨rfl, hY⟩
    have hx5 := hx3.below hY hx3.lt
    have HY : Hid (Below w.heap.size w Y) := hbl.trans (hY.mono hbl.size)
    have d0 := hx5.cell (i := 0) rfl
    have d1 := hx5.cell (i := 1) rfl
    have d2 := hx5.cell (i := 2) rfl
    have f0 := hx5.frozen 0
    have f1 := hx5.frozen 1
    have f2 := hx5.frozen 2
    have HX5 := (show Hid (RowAt Y (w.heap.size + 1) 26 #[.int .i64 0, .int .i64 0, .int .i64 0]) from hx5)
    clear HB2 hx2 hx3 hbl hY hx5
    go_wp2
    exact bodyPost_ret (v := .tuple #[.agg #[.int .i64 0, .int .i64 0, .int .i64 0], .int .i64 FE]) (tf_cell_tmp2 rfl _ _ (w.heap.size + 1) 26 _ (0, 0) _ _ rfl rfl (((HX5.out.set 0 (.int .i64 0)).set 1 (.int .i64 0)).set 2 (.int .i64 0)) Try.underlying26 rfl tf_info_hit) rfl ⟨_, rfl, by rw [HX.out], ((HY.out.setCell (p := ⟨w.heap.size + 1, 0, none⟩) (Nat.le_succ _) _).setCell (p := ⟨w.heap.size + 1, 1, none⟩) (Nat.le_succ _) _).setCell (p := ⟨w.heap.size + 1, 2, none⟩) (Nat.le_succ _) _⟩
namespace Cs
open Go.Conc
set_option maxRecDepth 100000 in
set_option maxHeartbeats 4000000 in
/-- A call of Best beside goroutines that only leave, in which something is wrong. -/
theorem best_early (v va vb : Value) (n la lb : Nat) (h : Int) (f : Nat → Int) (p q : Nat → Bool) (hE : beE n f la lb h ≠ 0) (W0 W : World) (hv : NumsAt W0 v n f) (h1 : PinsAt W0 va la p) (h2 : PinsAt W0 vb lb q) (rv : Rt W0 v) (ra : Rt W0 va) (rb : Rt W0 vb) (hag : ∀ b, b < W0.heap.size → W.heap[b]? = W0.heap[b]?) {Sn : Nat → Prop} (hS : ∀ b, Sn b → W0.heap.size ≤ b ∧ b < W.heap.size) (cal : Frame) (rest : List Frame) {gs : Array Goroutine} {t : Trace} {qq : Nat → Nat} (i0 : gs[0]? = some (G (mkF 7 #[v, va, vb, .int .i64 h, undef, undef, undef, undef, undef, undef, undef, undef, undef, undef, undef, undef, undef, undef, undef, undef, undef, undef, undef, undef, undef, undef, undef, undef, undef, undef, undef, undef, undef, undef, undef, undef, undef, undef, undef, undef, undef, undef, undef, undef, undef, undef, undef, undef, undef, undef, undef, undef, undef, undef, undef, undef, undef, undef, undef, undef, undef, undef, undef, undef, undef, undef, undef, undef, undef, undef, undef, undef] [.code bBody] .run) (cal :: rest))) (hq : Qs Try.prog Sn gs t qq 0 W.heap.size) (sl : Option (Nat × Nat)) :
    ∃ N gs' w' sl' t' q', runNT Try.prog N (crowd gs W sl) t = (.next (crowd gs' w' sl'), t') ∧ gs'[0]? = some (G (cal.finish (.tuple #[.agg #[.int .i64 0, .int .i64 0, .int .i64 0], .int .i64 (beE n f la lb h)])) rest) ∧ (∀ b, b < W.heap.size → w'.heap[b]? = W.heap[b]?) ∧ w'.os = W.os ∧ w'.output = W.output ∧ W.heap.size ≤ w'.heap.size ∧ Qs Try.prog Sn gs' t' q' 0 w'.heap.size := by
  obtain ⟨av, cv, rfl, nv, kv⟩ := hv
  obtain ⟨aa, ca, rfl, na, ka⟩ := h1
  obtain ⟨ab, cb, rfl, nb, kb⟩ := h2
  have hn0 : ∀ b q s, (fun _ => none : Env) b ≠ some (q, s, true) := fun b q s e => by cases e
  obtain ⟨E1, wl1, av', c1, s1, b1, e1, r1, k1⟩ := cq_slice (P := Try.prog) (w := W0) (Cp.nil W0).cq hn0 no_type (f := fun i => .int .i64 (f i)) (fun i E => .int _ _) kv rv
  obtain ⟨E2, wl2, aa', c2, s2, b2, e2, r2, k2⟩ := cq_slice c1 s1 no_type (f := fun i => .bool (p i)) (fun i E => .bool _) ka ra
  obtain ⟨E3, wl3, ab', c3, s3, b3, e3, r3, k3⟩ := cq_slice c2 s2 no_type (f := fun i => .bool (q i)) (fun i E => .bool _) kb rb
  have low : ∀ b q s o, E3 b = some (q, s, o) → o = false ∧ q < W0.heap.size := fun b q s o e => by
    refine ⟨?_, ?_⟩
    · cases o with
      | false => rfl
      | true => exact absurd e (s3 b q s)
    · rcases b3 b q s o e with e | e
      · rcases b2 b q s o e with e | e
        · rcases b1 b q s o e with e | e
          · cases e
          · exact e
        · exact e
      · exact e
  have hwr : WR Try.prog E3 wl3 W := wr_move c3.wr fun b x e => by
    obtain ⟨q, s, o⟩ := x
    exact hag q (low b q s o e).2
  have hin := InEar.start (c := cal :: rest) (Post := fun u _ => u = .tuple #[.agg #[.int .i64 0, .int .i64 0, .int .i64 0], .int .i64 (beE n f la lb h)]) (P := Try.prog) (E := E3) (wl := wl3) (w := W) ⟨_, Try.func7⟩ (x := #[.slice av' n cv, .slice aa' la ca, .slice ab' lb cb, .int .i64 h, undef, undef, undef, undef, undef, undef, undef, undef, undef, undef, undef, undef, undef, undef, undef, undef, undef, undef, undef, undef, undef, undef, undef, undef, undef, undef, undef, undef, undef, undef, undef, undef, undef, undef, undef, undef, undef, undef, undef, undef, undef, undef, undef, undef, undef, undef, undef, undef, undef, undef, undef, undef, undef, undef, undef, undef, undef, undef, undef, undef, undef, undef, undef, undef, undef, undef, undef, undef]) (y := #[.slice av n cv, .slice aa la ca, .slice ab lb cb, .int .i64 h, undef, undef, undef, undef, undef, undef, undef, undef, undef, undef, undef, undef, undef, undef, undef, undef, undef, undef, undef, undef, undef, undef, undef, undef, undef, undef, undef, undef, undef, undef, undef, undef, undef, undef, undef, undef, undef, undef, undef, undef, undef, undef, undef, undef, undef, undef, undef, undef, undef, undef, undef, undef, undef, undef, undef, undef, undef, undef, undef, undef, undef, undef, undef, undef, undef, undef, undef, undef]) (lr_cons ((r1.mono e2.le).mono e3.le) (lr_cons (r2.mono e3.le) (lr_cons r3 (lr_cons (.int _ _) (lr_cons (.mkTuple (LR.nil _)) (lr_cons (.mkTuple (LR.nil _)) (lr_cons (.mkTuple (LR.nil _)) (lr_cons (.mkTuple (LR.nil _)) (lr_cons (.mkTuple (LR.nil _)) (lr_cons (.mkTuple (LR.nil _)) (lr_cons (.mkTuple (LR.nil _)) (lr_cons (.mkTuple (LR.nil _)) (lr_cons (.mkTuple (LR.nil _)) (lr_cons (.mkTuple (LR.nil _)) (lr_cons (.mkTuple (LR.nil _)) (lr_cons (.mkTuple (LR.nil _)) (lr_cons (.mkTuple (LR.nil _)) (lr_cons (.mkTuple (LR.nil _)) (lr_cons (.mkTuple (LR.nil _)) (lr_cons (.mkTuple (LR.nil _)) (lr_cons (.mkTuple (LR.nil _)) (lr_cons (.mkTuple (LR.nil _)) (lr_cons (.mkTuple (LR.nil _)) (lr_cons (.mkTuple (LR.nil _)) (lr_cons (.mkTuple (LR.nil _)) (lr_cons (.mkTuple (LR.nil _)) (lr_cons (.mkTuple (LR.nil _)) (lr_cons (.mkTuple (LR.nil _)) (lr_cons (.mkTuple (LR.nil _)) (lr_cons (.mkTuple (LR.nil _)) (lr_cons (.mkTuple (LR.nil _)) (lr_cons (.mkTuple (LR.nil _)) (lr_cons (.mkTuple (LR.nil _)) (lr_cons (.mkTuple (LR.nil _)) (lr_cons (.mkTuple (LR.nil _)) (lr_cons (.mkTuple (LR.nil _)) (lr_cons (.mkTuple (LR.nil _)) (lr_cons (.mkTuple (LR.nil _)) (lr_cons (.mkTuple (LR.nil _)) (lr_cons (.mkTuple (LR.nil _)) (lr_cons (.mkTuple (LR.nil _)) (lr_cons (.mkTuple (LR.nil _)) (lr_cons (.mkTuple (LR.nil _)) (lr_cons (.mkTuple (LR.nil _)) (lr_cons (.mkTuple (LR.nil _)) (lr_cons (.mkTuple (LR.nil _)) (lr_cons (.mkTuple (LR.nil _)) (lr_cons (.mkTuple (LR.nil _)) (lr_cons (.mkTuple (LR.nil _)) (lr_cons (.mkTuple (LR.nil _)) (lr_cons (.mkTuple (LR.nil _)) (lr_cons (.mkTuple (LR.nil _)) (lr_cons (.mkTuple (LR.nil _)) (lr_cons (.mkTuple (LR.nil _)) (lr_cons (.mkTuple (LR.nil _)) (lr_cons (.mkTuple (LR.nil _)) (lr_cons (.mkTuple (LR.nil _)) (lr_cons (.mkTuple (LR.nil _)) (lr_cons (.mkTuple (LR.nil _)) (lr_cons (.mkTuple (LR.nil _)) (lr_cons (.mkTuple (LR.nil _)) (lr_cons (.mkTuple (LR.nil _)) (lr_cons (.mkTuple (LR.nil _)) (lr_cons (.mkTuple (LR.nil _)) (lr_cons (.mkTuple (LR.nil _)) (lr_cons (.mkTuple (LR.nil _)) (lr_cons (.mkTuple (LR.nil _)) (lr_cons (.mkTuple (LR.nil _)) (lr_cons (.mkTuple (LR.nil _)) (lr_cons (.mkTuple (LR.nil _)) (lr_cons (.mkTuple (LR.nil _)) (lr_cons (.mkTuple (LR.nil _)) lr_nil)))))))))))))))))))))))))))))))))))))))))))))))))))))))))))))))))))))))) hwr c3.big bu_ok (uc_cut b_long) (fun τ => by
    obtain ⟨n', fr', w', u', s1, s2, s3⟩ := reach_code (cs := [trap Try.prog]) Try.func7 (pbest_cut _ _ _ n la lb h f p q hE (wl3.tp τ) ⟨_, _, rfl, nv, fun c hc => by obtain ⟨b, o, e, k⟩ := k1 c hc; exact ⟨b, o, e, (e2.trans e3).cell k⟩⟩ ⟨_, _, rfl, na, fun c hc => by obtain ⟨b, o, e, k⟩ := k2 c hc; exact ⟨b, o, e, e3.cell k⟩⟩ ⟨_, _, rfl, nb, k3⟩)
    exact ⟨n', fr', w', u', s1, s2, s3.1⟩)
  obtain ⟨N, gs', w', sl', t', q', E', u, u', wl2', r, z, i, rfl, vr, wr, fc, Q⟩ := beside_early (sl := sl) (Nat.le_refl _) tf_fnsCode (fun b x e hs => by
    obtain ⟨q, s, o⟩ := x
    have := (low b q s o e).2
    have := (hS _ hs).1
    omega) (fun b hb => (hS b hb).2) i0 hin hq
  obtain rfl := vr_hit vr
  exact ⟨N, gs', w', sl', t', q', r, i, fun b hb => fc.keep b hb fun b' s e => (by have := (low _ _ _ _ e).1; cases this), fc.os, fc.output, fc.size, Q⟩
end Cs
end Go.Proofs.Ytpdemelchhkfaaa

/-
  TeleFinds, alone: where something is wrong; and behind Best.
-/
namespace Go.Proofs.Ytpdemelchhkfaaa
open Go.RowKit PK Tl
set_option maxRecDepth 100000 in
set_option maxHeartbeats 4000000 in
theorem rbest_bad (v va vb : Value) (n la lb : Nat) (h : Int) (f : Nat → Int) (p q : Nat → Bool) (hE : beE n f la lb h ≠ 0) (w : World) (hv : NumsAt w v n f) (h1 : PinsAt w va la p) (h2 : PinsAt w vb lb q) :
    Calls Try.prog 8 #[v, va, vb, .int .i64 h] w fun e w' => e = .returned (.tuple #[.agg #[.int .i64 0, .int .i64 0, .int .i64 0], .int .i64 (beE n f la lb h)]) ∧ Below w.heap.size w w' := by
  obtain ⟨a2, k2, rfl, l2, _⟩ := h2
  obtain ⟨a1, k1, rfl, l1, _⟩ := h1
  have hz := tf_zero (P := Try.prog) tf_zero_hit
  have HS1 : Hid (∀ W, Calls Try.prog 26 #[.slice a1 la k1, .int .i64 0] W fun e w' => e = .returned (.int .i64 (whE la)) ∧ W = w') := fun W => by rw [← wE_z]; exact rstd_any a1 la k1 0 W l1
  have HS2 : Hid (∀ W, Calls Try.prog 26 #[.slice a2 lb k2, .int .i64 0] W fun e w' => e = .returned (.int .i64 (whE lb)) ∧ W = w') := fun W => by rw [← wE_z]; exact rstd_any a2 lb k2 0 W l2
  have HF : Hid (∀ W, Below w.heap.size w W → Calls Try.prog 25 #[v] W fun e w' => e = .returned (.int .i64 (faE n f)) ∧ W = w') := fun W hW => rfair_any v n f W (hv.below hW)
  obtain ⟨a0, c0, rfl, _⟩ := hv
  have hx1 := RowAt.new w 26 #[.int .i64 0, .int .i64 0, .int .i64 0]
  have hbl := (Below.refl w.heap.size w).alloc (Nat.le_refl _) (.cells #[.int .i64 0, .int .i64 0, .int .i64 0] 26)
  have HEE : Hid (beE n f la lb h = if faE n f ≠ 0 then faE n f else if whE la ≠ 0 then 3 else if whE lb ≠ 0 then 3 else if h < 1 ∨ 16 < h then 3 else 0) := rfl
  obtain ⟨BE, hBE⟩ : ∃ x, x = beE n f la lb h := ⟨_, rfl⟩
  rw [← hBE] at HEE hE ⊢
  clear hBE
  have cs1 := whE_cs la
  have cs2 := whE_cs lb
  generalize faE n f = FE at *
  generalize whE la = E1 at *
  generalize whE lb = E2 at *
  have d0 := hx1.cell (i := 0) rfl
  have d1 := hx1.cell (i := 1) rfl
  have d2 := hx1.cell (i := 2) rfl
  have f0 := hx1.frozen 0
  have f1 := hx1.frozen 1
  have f2 := hx1.frozen 2
  have HX1 := (show Hid (RowAt (w.alloc (.cells #[.int .i64 0, .int .i64 0, .int .i64 0] 26)) w.heap.size 26 #[.int .i64 0, .int .i64 0, .int .i64 0]) from hx1)
  have HBL := (show Hid (Below w.heap.size w (w.alloc (.cells #[.int .i64 0, .int .i64 0, .int .i64 0] 26))) from hbl)
  clear hx1
  go_enter Try.func8, Try.ntmps8
  go_upto_region 1 with fail
  generalize w.alloc (.cells #[.int .i64 0, .int .i64 0, .int .i64 0] 26) = V at *
  go_wp2_with fail
  refine Calls.mono (HF.out _ hbl) ?_
  rintro e Y ⟨rfl, rfl⟩
  clear HF hbl
  by_cases h0 : FE = 0
  · subst h0
    go_wp2_with fail
    refine Calls.mono (HS1.out _) ?_
    rintro e Y ⟨rfl, rfl⟩
    clear HS1
    rcases cs1 with rfl | rfl
    · go_wp2_with fail
      refine Calls.mono (HS2.out _) ?_
      rintro e Y ⟨rfl, rfl⟩
      clear HS2
      rcases cs2 with rfl | rfl
      · have hh : h < 1 ∨ 16 < h := by
          refine Classical.byContradiction fun hc => hE (HEE.out.trans ?_)
          rw [if_neg (by simp), if_neg (by simp), if_neg (by simp), if_neg hc]
        have HX : Hid (BE = 3) := HEE.out.trans (by rw [if_neg (by simp), if_neg (by simp), if_neg (by simp), if_pos hh])
        clear HEE hE
        by_cases g1 : h < 1
        · clear hh
          go_wp2
          exact bodyPost_ret (v := .tuple #[.agg #[.int .i64 0, .int .i64 0, .int .i64 0], .int .i64 3]) (tf_cell_tmp2 rfl _ _ w.heap.size 26 _ (0, 0) _ _ rfl rfl (((HX1.out.set 0 (.int .i64 0)).set 1 (.int .i64 0)).set 2 (.int .i64 0)) Try.underlying26 rfl tf_info_hit) rfl ⟨by rw [HX.out], ((HBL.out.setCell (p := ⟨w.heap.size, 0, none⟩) (Nat.le_refl _) _).setCell (p := ⟨w.heap.size, 1, none⟩) (Nat.le_refl _) _).setCell (p := ⟨w.heap.size, 2, none⟩) (Nat.le_refl _) _⟩
        · have g2 : 16 < h := by omega
          clear hh
          go_wp2
          exact bodyPost_ret (v := .tuple #[.agg #[.int .i64 0, .int .i64 0, .int .i64 0], .int .i64 3]) (tf_cell_tmp2 rfl _ _ w.heap.size 26 _ (0, 0) _ _ rfl rfl (((HX1.out.set 0 (.int .i64 0)).set 1 (.int .i64 0)).set 2 (.int .i64 0)) Try.underlying26 rfl tf_info_hit) rfl ⟨by rw [HX.out], ((HBL.out.setCell (p := ⟨w.heap.size, 0, none⟩) (Nat.le_refl _) _).setCell (p := ⟨w.heap.size, 1, none⟩) (Nat.le_refl _) _).setCell (p := ⟨w.heap.size, 2, none⟩) (Nat.le_refl _) _⟩
      · have HX : Hid (BE = 3) := HEE.out.trans (by rw [if_neg (by simp), if_neg (by simp), if_pos (by decide)])
        clear HEE hE
        go_wp2
        exact bodyPost_ret (v := .tuple #[.agg #[.int .i64 0, .int .i64 0, .int .i64 0], .int .i64 3]) (tf_cell_tmp2 rfl _ _ w.heap.size 26 _ (0, 0) _ _ rfl rfl (((HX1.out.set 0 (.int .i64 0)).set 1 (.int .i64 0)).set 2 (.int .i64 0)) Try.underlying26 rfl tf_info_hit) rfl ⟨by rw [HX.out], ((HBL.out.setCell (p := ⟨w.heap.size, 0, none⟩) (Nat.le_refl _) _).setCell (p := ⟨w.heap.size, 1, none⟩) (Nat.le_refl _) _).setCell (p := ⟨w.heap.size, 2, none⟩) (Nat.le_refl _) _⟩
    · have HX : Hid (BE = 3) := HEE.out.trans (by rw [if_neg (by simp), if_pos (by decide)])
      clear HEE hE HS2
      go_wp2
      exact bodyPost_ret (v := .tuple #[.agg #[.int .i64 0, .int .i64 0, .int .i64 0], .int .i64 3]) (tf_cell_tmp2 rfl _ _ w.heap.size 26 _ (0, 0) _ _ rfl rfl (((HX1.out.set 0 (.int .i64 0)).set 1 (.int .i64 0)).set 2 (.int .i64 0)) Try.underlying26 rfl tf_info_hit) rfl ⟨by rw [HX.out], ((HBL.out.setCell (p := ⟨w.heap.size, 0, none⟩) (Nat.le_refl _) _).setCell (p := ⟨w.heap.size, 1, none⟩) (Nat.le_refl _) _).setCell (p := ⟨w.heap.size, 2, none⟩) (Nat.le_refl _) _⟩
  · have HX : Hid (BE = FE) := HEE.out.trans (if_pos h0)
    have hb0 : (FE != 0) = true := by simpa using h0
    clear HEE hE HS1 HS2
    go_wp2
    exact bodyPost_ret (v := .tuple #[.agg #[.int .i64 0, .int .i64 0, .int .i64 0], .int .i64 FE]) (tf_cell_tmp2 rfl _ _ w.heap.size 26 _ (0, 0) _ _ rfl rfl (((HX1.out.set 0 (.int .i64 0)).set 1 (.int .i64 0)).set 2 (.int .i64 0)) Try.underlying26 rfl tf_info_hit) rfl ⟨by rw [HX.out], ((HBL.out.setCell (p := ⟨w.heap.size, 0, none⟩) (Nat.le_refl _) _).setCell (p := ⟨w.heap.size, 1, none⟩) (Nat.le_refl _) _).setCell (p := ⟨w.heap.size, 2, none⟩) (Nat.le_refl _) _⟩
noncomputable def fB3 : Code := Try.f3.body.getD .skip
noncomputable def fO1 : Array Oper := match Cs.restAt 1 fB3 with | .seq (.region _ o _) _ => o | _ => #[]
theorem hit_held : (Try.prog).stoodInHeld 26 = false := by kernel_rfl
theorem eqh_gen (a b c : Int) (w : World) (d : Nat) : (Op.equalIn (d + 3) 26 (.agg #[.int .i64 a, .int .i64 b, .int .i64 c]) (.agg #[.int .i64 a, .int .i64 b, .int .i64 c])).run Try.prog w = .ok true w := by
  have e0 : ∀ z : Int, (Op.equalIn (d + 2) 3 (.int .i64 z) (.int .i64 z)).run Try.prog w = .ok true w := fun z => by
    rw [Op.equalIn]
    simp [Sem.run_bind, run_underlying Try.underlying3]
  have hh := hit_held
  have hS : Try.prog.underlying 26 = some (.struct (Try.prog.fieldsOf 26)) := by kernel_rfl
  rw [run_equalIn_struct w (d + 2) 26 _ _ hS hh]
  simp only [Program.fieldsOf, Try.underlying26]
  clear hS hh
  go_simp
theorem run_eq_hit (a b c : Int) (w : World) : (Op.equalIn 10000 26 (.agg #[.int .i64 a, .int .i64 b, .int .i64 c]) (.agg #[.int .i64 a, .int .i64 b, .int .i64 c])).run Try.prog w = .ok true w := eqh_gen a b c w 9997
set_option maxRecDepth 100000 in
set_option maxHeartbeats 4000000 in
/-- The law behind Best. -/
theorem finds_rest (j : Nat → Value) (v va vb : Value) (n la lb h : Nat) (f : Nat → Nat) (p q : Nat → Bool) (hn : n ≤ 65536) (hf : ∀ i, i < n → f i < 32) (ha : 1 ≤ la ∧ la ≤ 47) (hb : 1 ≤ lb ∧ lb ≤ 47) (hh : 1 ≤ h ∧ h ≤ 16) (w : World) (hv : NumsAt w v n (fun i => (f i : Int))) (h1 : PinsAt w va la p) (h2 : PinsAt w vb lb q) :
    wpOps Try.prog fO1 (Exit.then ((Cs.restAt 2 fB3).wp Try.prog (bodyPost Try.prog Try.f3 (Cs.PostE fun u _ => u = .bool true))) (bodyPost Try.prog Try.f3 (Cs.PostE fun u _ => u = .bool true))) (List.range' 5 6) ⟨#[v, va, vb, .int .i64 (h : Nat), j 4, j 5, j 6, j 7, j 8, j 9, j 10, j 11, j 12, j 13, j 14, j 15, j 16, j 17, .tuple #[.agg (hitV f n p la q lb (Tf.bk (plF f n p la q lb) (la * lb))), .int .i64 0], j 19, j 20, j 21, j 22, j 23, j 24, j 25, j 26, j 27, j 28, j 29, j 30, j 31, j 32, j 33, j 34, j 35, j 36], []⟩ w := by
  refine ops_from 5 6 rfl ?_
  have HR : Hid (∀ W, Below w.heap.size w W → Calls Try.prog 8 #[v, va, vb, .int .i64 (h : Nat)] W fun e w' => e = .returned (.tuple #[.agg (hitV f n p la q lb (Tf.bk (plF f n p la q lb) (la * lb))), .int .i64 0]) ∧ Below W.heap.size W w') := fun W hW => rbest_ok v va vb n la lb h f p q hn hf ha hb hh W (hv.below hW) (h1.below hW) (h2.below hW)
  obtain ⟨qd, qr, M, hV⟩ : ∃ qd qr M : Nat, hitV f n p la q lb (Tf.bk (plF f n p la q lb) (la * lb)) = #[.int .i64 (qd : Nat), .int .i64 (qr : Nat), .int .i64 (M : Nat)] := ⟨_, _, _, rfl⟩
  rw [hV] at HR ⊢
  clear hV hf hv h1 h2
  have he := run_eq_hit (qd : Int) (qr : Int) (M : Int)
  have hz := tf_zero (P := Try.prog) tf_zero_hit
  simp only [fO1, fB3, Cs.restAt, Try.f3, Option.getD_some, List.drop]
  go_wp2_with fail
  have hx1 := RowAt.new w 26 #[.int .i64 (qd : Nat), .int .i64 (qr : Nat), .int .i64 (M : Nat)]
  have hbl := (Below.refl w.heap.size w).alloc (Nat.le_refl _) (.cells #[.int .i64 (qd : Nat), .int .i64 (qr : Nat), .int .i64 (M : Nat)] 26)
  generalize w.alloc (.cells #[.int .i64 (qd : Nat), .int .i64 (qr : Nat), .int .i64 (M : Nat)] 26) = W1 at *
  generalize w.heap.size = q1 at *
  refine Calls.mono (HR.out _ hbl) ?_
  rintro e Y ⟨rfl, hY⟩
  have hx2 := hx1.below hY hx1.lt
  have hx3 := hx2.alloc (.cells #[.int .i64 (qd : Nat), .int .i64 (qr : Nat), .int .i64 (M : Nat)] 26)
  have hx4 := RowAt.new Y 26 #[.int .i64 (qd : Nat), .int .i64 (qr : Nat), .int .i64 (M : Nat)]
  clear HR hbl hY hx1 hx2
  go_upto_region 3 with fail
  generalize Y.alloc (.cells #[.int .i64 (qd : Nat), .int .i64 (qr : Nat), .int .i64 (M : Nat)] 26) = V at *
  generalize Y.heap.size = q2 at *
  have a0 := hx3.cell (i := 0) rfl
  have a1 := hx3.cell (i := 1) rfl
  have a2 := hx3.cell (i := 2) rfl
  have b0 := hx4.cell (i := 0) rfl
  have b1 := hx4.cell (i := 1) rfl
  have b2 := hx4.cell (i := 2) rfl
  go_wp2
  refine ⟨rfl, .bool true, ?_, _, rfl, rfl⟩
  simp [results, Array.mapM_eq_mapM_toList, List.mapM_cons]
set_option maxRecDepth 100000 in
set_option maxHeartbeats 4000000 in
/-- The law where something is wrong. -/
theorem finds_bad (v va vb : Value) (n la lb : Nat) (h : Int) (f : Nat → Int) (p q : Nat → Bool) (hE : beE n f la lb h ≠ 0) (w : World) (hv : NumsAt w v n f) (h1 : PinsAt w va la p) (h2 : PinsAt w vb lb q) :
    Calls Try.prog 3 #[v, va, vb, .int .i64 h] w fun e w' => e = .returned (.bool true) ∧ Below w.heap.size w w' := by
  have HP : Hid (Calls Try.prog 7 #[v, va, vb, .int .i64 h] w fun e w' => e = .returned (.tuple #[.agg #[.int .i64 0, .int .i64 0, .int .i64 0], .int .i64 (beE n f la lb h)]) ∧ Below w.heap.size w w') := pbest_bad v va vb n la lb h f p q hE w hv h1 h2
  have HR : Hid (∀ W, Below w.heap.size w W → Calls Try.prog 8 #[v, va, vb, .int .i64 h] W fun e w' => e = .returned (.tuple #[.agg #[.int .i64 0, .int .i64 0, .int .i64 0], .int .i64 (beE n f la lb h)]) ∧ Below W.heap.size W w') := fun W hW => rbest_bad v va vb n la lb h f p q hE W (hv.below hW) (h1.below hW) (h2.below hW)
  obtain ⟨a0, c0, rfl, _⟩ := hv
  obtain ⟨a1, c1, rfl, _⟩ := h1
  obtain ⟨a2, c2, rfl, _⟩ := h2
  generalize beE n f la lb h = BE at *
  have he := run_eq_hit 0 0 0
  have hz := tf_zero (P := Try.prog) tf_zero_hit
  clear hE
  go_enter Try.func3, Try.ntmps3
  go_wp2_with fail
  refine Calls.mono HP.out ?_
  rintro e X ⟨rfl, hX⟩
  clear HP
  have hx1 := RowAt.new X 26 #[.int .i64 0, .int .i64 0, .int .i64 0]
  have hbl := hX.alloc hX.size (.cells #[.int .i64 0, .int .i64 0, .int .i64 0] 26)
  clear hX
  go_wp2_with fail
  generalize X.alloc (.cells #[.int .i64 0, .int .i64 0, .int .i64 0] 26) = W1 at *
  generalize X.heap.size = q1 at *
  refine Calls.mono (HR.out _ hbl) ?_
  rintro e Y ⟨rfl, hY⟩
  have hx2 := hx1.below hY hx1.lt
  have hx3 := hx2.alloc (.cells #[.int .i64 0, .int .i64 0, .int .i64 0] 26)
  have hx4 := RowAt.new Y 26 #[.int .i64 0, .int .i64 0, .int .i64 0]
  have HB : Hid (Below w.heap.size w (Y.alloc (.cells #[.int .i64 0, .int .i64 0, .int .i64 0] 26))) := (hbl.trans (hY.mono hbl.size)).alloc (hbl.trans (hY.mono hbl.size)).size _
  clear HR hbl hY hx1 hx2
  go_upto_region 3 with fail
  generalize Y.alloc (.cells #[.int .i64 0, .int .i64 0, .int .i64 0] 26) = V at *
  generalize Y.heap.size = q2 at *
  have a0 := hx3.cell (i := 0) rfl
  have a1 := hx3.cell (i := 1) rfl
  have a2 := hx3.cell (i := 2) rfl
  have b0 := hx4.cell (i := 0) rfl
  have b1 := hx4.cell (i := 1) rfl
  have b2 := hx4.cell (i := 2) rfl
  go_wp2
  go_ret
  exact ⟨rfl, HB.out⟩
end Go.Proofs.Ytpdemelchhkfaaa
