/-
  Several texts, joined: TgM, TgL, TgN.
-/
import Derived.Test.YtpdemelchhkfaaaTgK
import Derived.Test.YtpdemelchhkfaaaJn16
import Derived.Conc.LeavingOf
import Derived.LoneHanded
import Derived.Laws.StructEq
/-
  The end of a run beside goroutines that only leave, where some blocks were touched by atomic means.
-/
namespace Go.Proofs.Ytpdemelchhkfaaa.Cs
open Go.Conc
section
variable {P : Program} {Sn : Nat → Prop} {gs : Array Goroutine} {t : Trace} {q : Nat → Nat} {size : Nat}
theorem Qs.past (h : Qs P Sn gs t q 0 size) : ∃ B0, ∀ B, B0 ≤ B → Past (snL Sn) B t := by
  obtain ⟨B0, hB0⟩ := low_some t
  refine ⟨B0, fun B hB => ⟨h.clean, fun i a ha _ => ?_, fun i g hg0 hne hc => ?_, h.df, hB0 B hB⟩⟩
  · obtain ⟨x, hx, hxa⟩ := touch_of ha
    by_cases hs : snL Sn a.loc
    · obtain ⟨h1, h2⟩ := h.sn i x a hx hxa hs
      cases hk : a.kind with
      | plain => exact absurd hk h1
      | said =>
        have := knows_own hx
        rw [h2 hk] at this
        exact .inl this
      | atomic => exact .inr ⟨hs, rfl⟩
    · exact .inl (h.kn i x a hx hxa (.inl hs))
  · obtain ⟨a, ha, _, hk⟩ := hc
    obtain ⟨x, hx, hxa⟩ := touch_of ha
    have hgx : x.g = g := by
      rw [Trace.g?, hx] at hg0
      exact Option.some.inj hg0
    have hkn : Knows t 0 i := by
      by_cases hs : snL Sn a.loc
      · rcases hk with hk | hk
        · obtain ⟨h1, h2⟩ := h.sn i x a hx hxa hs
          cases hk2 : a.kind with
          | plain => exact absurd hk2 h1
          | said => exact absurd (hgx.symm.trans (h2 hk2)) hne
          | atomic => exact absurd hk2 hk
        · exact h.kn i x a hx hxa (.inr hk)
      · exact h.kn i x a hx hxa (.inl hs)
    obtain ⟨j, z, h1, h2, h3⟩ := hkn
    refine ⟨j, by simp [Trace.g?, h1, h2], ?_⟩
    rcases h3 with rfl | h3
    · rw [hx] at h1
      cases h1
      exact absurd (hgx.symm.trans h2) hne
    · exact h3
end
variable [Fns]
/-- A call beside goroutines that only leave comes to its return. -/
theorem beside_stop2 {P : Program} {Sn : Nat → Prop} {Post : Value → World → Prop} (hG : P.globals.size ≤ Fns.G) (hC : FnsCode P) {gs : Array Goroutine} {t : Trace} {q : Nat → Nat} {d : Nat} {g : Goroutine} {w : World} {sl : Option (Nat × Nat)} {c : List Frame} {E : Env} {gl : Goroutine} {wl : World} (hn : ∀ b x, E b = some x → ¬ Sn x.1) (hsn : ∀ b, Sn b → b < w.heap.size) (h0 : gs[0]? = some g) (hin : InCall P Post c E gl wl g w) (hq : Qs P Sn gs t q d w.heap.size) :
    ∃ N gs' w' sl' t' q' E' gl' wl' g', runNT P N (crowd gs w sl) t = (.next (crowd gs' w' sl'), t') ∧ gs'.size = gs.size ∧ gs'[0]? = some g' ∧ InCall P Post c E' gl' wl' g' w' ∧ Stop [trap P] gl' ∧ lastG g' = lastG g ∧ FC E E' w w' ∧ Qs P Sn gs' t' q' d w'.heap.size := by
  have hnn : ∀ {E' : Env} {w' : World}, FC E E' w w' → ∀ b x, E' b = some x → ¬ Sn x.1 := fun {E' w'} hf b x hx hs => by
    obtain ⟨c, s, o⟩ := x
    rcases hf.fresh b c s o hx with h1 | ⟨h1, _⟩
    · exact hn b _ h1 hs
    · exact absurd (hsn c hs) (by omega)
  let Q : Nat → Goroutine → World → Prop := fun d' g' w' => d' = d ∧ ∃ E' gl' wl', InCall P Post c E' gl' wl' g' w' ∧ Stop [trap P] gl' ∧ lastG g' = lastG g ∧ FC E E' w w'
  let I : Option { s : Gh // Acc (After P [trap P]) s } → Nat → Goroutine → World → Prop := fun μ d' g' w' => match μ with
    | some s => d' = d ∧ ∃ E', InCall P Post c E' s.1.1 s.1.2 g' w' ∧ lastG g' = lastG g ∧ FC E E' w w'
    | none => False
  have fcAt : ∀ {E' : Env} {w' : World} (k : Nat), FC E E' w w' → FC E E' w (w'.at k) := fun k h => ⟨h.le, h.os, h.tape, h.output, h.size, h.keep, h.fresh⟩
  have fcAt' : ∀ {E' : Env} {w' : World} (k : Nat), FC E E' w (w'.at k) → FC E E' w w' := fun k h => ⟨h.le, h.os, h.tape, h.output, h.size, h.keep, h.fresh⟩
  have a1 : ∀ μ d' g' w' k, I μ d' g' w' → I μ d' g' (w'.at k) := fun μ d' g' w' k h => by
    cases μ with
    | none => exact h.elim
    | some s =>
      obtain ⟨h0, E', h1, h3, h2⟩ := h
      exact ⟨h0, E', h1.other fun _ _ _ => rfl, h3, fcAt k h2⟩
  have a2 : ∀ d' g' w' k, Q d' g' (w'.at k) → Q d' g' w' := fun d' g' w' k h => by
    obtain ⟨h1, E', gl', wl', k1, k2, k3, k4⟩ := h
    exact ⟨h1, E', gl', wl', k1.other fun _ _ _ => rfl, k2, k3, fcAt' k k4⟩
  have a3 : ∀ μ d' g' w', I μ d' g' w' → g'.status = .running := fun μ d' g' w' h => by
    cases μ with
    | none => exact h.elim
    | some s =>
      obtain ⟨_, E', h1, h3, h2⟩ := h
      exact h1.running
  have a4 : ∀ μ d' g' w', I μ d' g' w' → Q d' g' w' ∨ ∃ g2 w2 es μ', stepG P true g' w' = .go g2 w2 es ∧ OptLt P μ' μ ∧ I μ' (deafBehind d' es) g2 w2 ∧ w'.heap.size ≤ w2.heap.size ∧ ∀ e ∈ es, EvS Sn w2.heap.size e := fun μ d' g' w' h => by
    cases μ with
    | none => exact h.elim
    | some s =>
      obtain ⟨rfl, E1, hin1, hl1, hf1⟩ := h
      by_cases hs : Stop [trap P] s.1.1
      · exact .inl ⟨rfl, E1, _, _, hin1, hs, hl1, hf1⟩
      · obtain ⟨E', gl', wl', g2, w2, es, hst, hin', haft, hev, hfc, hl2⟩ := hin1.step2 hG hC true hs
        have hok := fun e he => evOk_s (Sn := Sn) hin'.wr (hnn (hf1.trans hfc)) (hev e he)
        exact .inr ⟨g2, w2, es, some ⟨(gl', wl'), live_acc hin'.live⟩, hst, .on haft, ⟨deafBehind_still (fun e he => (hok e he).2) _, E', hin', hl2.trans hl1, hf1.trans hfc⟩, hfc.size, fun e he => (hok e he).1⟩
  obtain ⟨N, gs', w', sl', t', q', d', g', h1, h2, h3, ⟨rfl, E', gl', wl', k1, k2, k3, k4⟩, h5⟩ := beside2 (P := P) (optLt_wf P) I Q a1 a2 a3 a4 (μ := some ⟨(gl, wl), live_acc hin.live⟩) (sl := sl) h0 ⟨rfl, E, hin, rfl, FC.refl E w⟩ hq
  exact ⟨N, gs', w', sl', t', q', E', gl', wl', g', h1, h2, h3, k1, k2, k3, k4, h5⟩
end Go.Proofs.Ytpdemelchhkfaaa.Cs
namespace Go.Proofs.Ytpdemelchhkfaaa
open Go.Conc
theorem lone_good {P : Program} {f : FuncId} {args : Array Value} {w : World} {R : Value → World → Prop} (h : Calls P f args w fun e w' => ∃ v, e = .returned v ∧ R v w') (hi : P.inits.idxOf? f = none) :
    ∃ N last o w' t', runNT P (N + 1) (solo (G (Frame.enter P f args .normal) []) w) #[] = (.ended o w', t') ∧ runN P N (solo (G (Frame.enter P f args .normal) []) w) = .next last ∧ step P last = .ended o w' ∧ Conc.Good P R last o w' t' := by
  have h' : Calls P f args w fun | .returned v, w' => R v w' | _, _ => False := h.mono fun e w' ⟨v, e1, e2⟩ => by
    subst e1
    exact e2
  obtain ⟨n, v, w', fr, hn, hend, hp⟩ := h'.done_lone hi
  have hall := allBy_of_lone P n _ _ hn (by simp [lone]) rfl
  have hT : runNT P (n + 1) (lone (Frame.enter P f args .normal) [] w) #[] = (.ended (.done v) w', (runNT P (n + 1) (lone (Frame.enter P f args .normal) [] w) #[]).2) := by
    refine Prod.ext ?_ rfl
    rw [runNT_fst]
    exact hend
  obtain ⟨_, a2, a3⟩ := alone_of_lone (w' := w') hn
  refine ⟨n, _, _, _, _, hT, hn, step_of_runs hn hend, v, rfl, hp, fun said => ?_, a2, ⟨fun g hg => by simp [lone] at hg, rfl⟩, a3⟩
  exact not_race_of_allBy hall
end Go.Proofs.Ytpdemelchhkfaaa

/-
  tele.Best and the document's Best where something is wrong: alone; the end of a run beside goroutines that only leave.
-/
namespace Go.Proofs.Ytpdemelchhkfaaa
open Go.RowKit PK Tl
theorem whE_cs (l : Nat) : whE l = 0 ∨ whE l = 3 := by unfold whE; split <;> simp
theorem srE_cs (la lb : Nat) (h : Int) : srE la lb h = 0 ∨ srE la lb h = 3 := by
  unfold srE
  split
  · exact .inr rfl
  · split
    · exact .inr rfl
    · split
      · exact .inr rfl
      · exact .inl rfl
set_option maxRecDepth 100000 in
set_option maxHeartbeats 4000000 in
theorem pbest_bad (v va vb : Value) (n la lb : Nat) (h : Int) (f : Nat → Int) (p q : Nat → Bool) (hE : beE n f la lb h ≠ 0) (w : World) (hv : NumsAt w v n f) (h1 : PinsAt w va la p) (h2 : PinsAt w vb lb q) :
    Calls Try.prog 7 #[v, va, vb, .int .i64 h] w fun e w' => e = .returned (.tuple #[.agg #[.int .i64 0, .int .i64 0, .int .i64 0], .int .i64 (beE n f la lb h)]) ∧ Below w.heap.size w w' := by
  obtain ⟨a2, k2, rfl, l2, _⟩ := h2
  obtain ⟨a1, k1, rfl, l1, _⟩ := h1
  have hz := tf_zero (P := Try.prog) tf_zero_hit
  have HS : Hid (∀ W, Calls Try.prog 17 #[.slice a1 la k1, .slice a2 lb k2, .int .i64 h] W fun e w' => e = .returned (.int .i64 (srE la lb h)) ∧ W = w') := fun W => psrw_any a1 a2 la lb k1 k2 h W l1 l2
  have HB : Hid (faE n f ≠ 0 → ∀ W, Below w.heap.size w W → Calls Try.prog 16 #[v] W fun e w' => e = .returned (.tuple #[.slice none 0 0, .int .i64 (faE n f)]) ∧ Below W.heap.size W w') := fun h0 W hW => pdl_bad v n f h0 W (hv.below hW)
  have HO : Hid (faE n f = 0 → ∀ W, Below w.heap.size w W → Calls Try.prog 16 #[v] W fun e w' => ∃ g, e = .returned (.tuple #[.slice (some ⟨g, 0, none⟩) (n - 1) (n - 1), .int .i64 0]) ∧ RowAt w' g 3 (ints (n - 1) (dlN f)) ∧ Below W.heap.size W w') := fun h0 W hW => pdl_ok v n f h0 W (hv.below hW)
  obtain ⟨a0, c0, rfl, _⟩ := hv
  have hx1 := RowAt.new w 24 #[.slice a2 lb k2]
  have hx2 := hx1.alloc (.cells #[.int .i64 0, .int .i64 0, .int .i64 0] 26)
  have hx3 := RowAt.new (w.alloc (.cells #[.slice a2 lb k2] 24)) 26 #[.int .i64 0, .int .i64 0, .int .i64 0]
  have hbl := ((Below.refl w.heap.size w).alloc (Nat.le_refl _) (.cells #[.slice a2 lb k2] 24)).alloc (by simp) (.cells #[.int .i64 0, .int .i64 0, .int .i64 0] 26)
  rw [show (w.alloc (.cells #[.slice a2 lb k2] 24)).heap.size = w.heap.size + 1 by simp] at hx3
  have HEE : Hid (beE n f la lb h = if faE n f ≠ 0 then faE n f else srE la lb h) := rfl
  obtain ⟨BE, hBE⟩ : ∃ x, x = beE n f la lb h := ⟨_, rfl⟩
  rw [← hBE] at HEE hE ⊢
  clear hBE
  generalize faE n f = FE at *
  have hcs := srE_cs la lb h
  generalize srE la lb h = SE at *
  clear hx1
  go_enter Try.func7, Try.ntmps7
  go_upto_region 1 with fail
  generalize (w.alloc (.cells #[.slice a2 lb k2] 24)).alloc (.cells #[.int .i64 0, .int .i64 0, .int .i64 0] 26) = W1 at *
  by_cases h0 : FE = 0
  · subst h0
    have HX : Hid (BE = SE) := HEE.out.trans (if_neg (by simp))
    have hse : SE = 3 := by
      rcases hcs with e | e
      · exact absurd (HX.out.trans e) hE
      · exact e
    have HO2 := (show Hid (∀ W, Below w.heap.size w W → Calls Try.prog 16 #[.slice a0 n c0] W fun e w' => ∃ g, e = .returned (.tuple #[.slice (some ⟨g, 0, none⟩) (n - 1) (n - 1), .int .i64 0]) ∧ RowAt w' g 3 (ints (n - 1) (dlN f)) ∧ Below W.heap.size W w') from HO.out rfl)
    clear HB HO HEE hE hcs
    go_wp2_with fail
    refine Calls.mono (HO2.out _ hbl) ?_
    rintro e Y ⟨g, rfl, _, hY⟩
    have hx4 := hx2.below hY hx2.lt
    have hx5 := hx3.below hY hx3.lt
    have HY : Hid (Below w.heap.size w Y) := hbl.trans (hY.mono hbl.size)
    have cbx := hx4.cell (i := 0) rfl
    clear HO2 hx2 hx3 hbl hY
    go_wp2_with fail
    refine Calls.mono (HS.out _) ?_
    rintro e Y' ⟨rfl, rfl⟩
    subst hse
    have d0 := hx5.cell (i := 0) rfl
    have d1 := hx5.cell (i := 1) rfl
    have d2 := hx5.cell (i := 2) rfl
    have f0 := hx5.frozen 0
    have f1 := hx5.frozen 1
    have f2 := hx5.frozen 2
    have HX5 := (show Hid (RowAt Y (w.heap.size + 1) 26 #[.int .i64 0, .int .i64 0, .int .i64 0]) from hx5)
    clear HS hx4 hx5
    go_wp2
    exact bodyPost_ret (v := .tuple #[.agg #[.int .i64 0, .int .i64 0, .int .i64 0], .int .i64 3]) (tf_cell_tmp2 rfl _ _ (w.heap.size + 1) 26 _ (0, 0) _ _ rfl rfl (((HX5.out.set 0 (.int .i64 0)).set 1 (.int .i64 0)).set 2 (.int .i64 0)) Try.underlying26 rfl tf_info_hit) rfl ⟨by rw [HX.out], ((HY.out.setCell (p := ⟨w.heap.size + 1, 0, none⟩) (Nat.le_succ _) _).setCell (p := ⟨w.heap.size + 1, 1, none⟩) (Nat.le_succ _) _).setCell (p := ⟨w.heap.size + 1, 2, none⟩) (Nat.le_succ _) _⟩
  · have HX : Hid (BE = FE) := HEE.out.trans (if_pos h0)
    have HB2 := (show Hid (∀ W, Below w.heap.size w W → Calls Try.prog 16 #[.slice a0 n c0] W fun e w' => e = .returned (.tuple #[.slice none 0 0, .int .i64 FE]) ∧ Below W.heap.size W w') from HB.out h0)
    have hb0 : (FE != 0) = true := by simpa using h0
    clear HB HO HEE hE hcs HS
    go_wp2_with fail
    refine Calls.mono (HB2.out _ hbl) ?_
    rintro e Y ⟨rfl, hY⟩
    have hx5 := hx3.below hY hx3.lt
    have HY : Hid (Below w.heap.size w Y) := hbl.trans (hY.mono hbl.size)
    have d0 := hx5.cell (i := 0) rfl
    have d1 := hx5.cell (i := 1) rfl
    have d2 := hx5.cell (i := 2) rfl
    have f0 := hx5.frozen 0
    have f1 := hx5.frozen 1
    have f2 := hx5.frozen 2
    have HX5 := (show Hid (RowAt Y (w.heap.size + 1) 26 #[.int .i64 0, .int .i64 0, .int .i64 0]) from hx5)
    clear HB2 hx2 hx3 hbl hY hx5
    go_wp2
    exact bodyPost_ret (v := .tuple #[.agg #[.int .i64 0, .int .i64 0, .int .i64 0], .int .i64 FE]) (tf_cell_tmp2 rfl _ _ (w.heap.size + 1) 26 _ (0, 0) _ _ rfl rfl (((HX5.out.set 0 (.int .i64 0)).set 1 (.int .i64 0)).set 2 (.int .i64 0)) Try.underlying26 rfl tf_info_hit) rfl ⟨by rw [HX.out], ((HY.out.setCell (p := ⟨w.heap.size + 1, 0, none⟩) (Nat.le_succ _) _).setCell (p := ⟨w.heap.size + 1, 1, none⟩) (Nat.le_succ _) _).setCell (p := ⟨w.heap.size + 1, 2, none⟩) (Nat.le_succ _) _⟩
end Go.Proofs.Ytpdemelchhkfaaa

/-
  TeleFinds, alone: where something is wrong; and behind Best.
-/
namespace Go.Proofs.Ytpdemelchhkfaaa
open Go.RowKit PK Tl
set_option maxRecDepth 100000 in
set_option maxHeartbeats 4000000 in
theorem rbest_bad (v va vb : Value) (n la lb : Nat) (h : Int) (f : Nat → Int) (p q : Nat → Bool) (hE : beE n f la lb h ≠ 0) (w : World) (hv : NumsAt w v n f) (h1 : PinsAt w va la p) (h2 : PinsAt w vb lb q) :
    Calls Try.prog 8 #[v, va, vb, .int .i64 h] w fun e w' => e = .returned (.tuple #[.agg #[.int .i64 0, .int .i64 0, .int .i64 0], .int .i64 (beE n f la lb h)]) ∧ Below w.heap.size w w' := by
  obtain ⟨a2, k2, rfl, l2, _⟩ := h2
  obtain ⟨a1, k1, rfl, l1, _⟩ := h1
  have hz := tf_zero (P := Try.prog) tf_zero_hit
  have HS1 : Hid (∀ W, Calls Try.prog 26 #[.slice a1 la k1, .int .i64 0] W fun e w' => e = .returned (.int .i64 (whE la)) ∧ W = w') := fun W => by rw [← wE_z]; exact rstd_any a1 la k1 0 W l1
  have HS2 : Hid (∀ W, Calls Try.prog 26 #[.slice a2 lb k2, .int .i64 0] W fun e w' => e = .returned (.int .i64 (whE lb)) ∧ W = w') := fun W => by rw [← wE_z]; exact rstd_any a2 lb k2 0 W l2
  have HF : Hid (∀ W, Below w.heap.size w W → Calls Try.prog 25 #[v] W fun e w' => e = .returned (.int .i64 (faE n f)) ∧ W = w') := fun W hW => rfair_any v n f W (hv.below hW)
  obtain ⟨a0, c0, rfl, _⟩ := hv
  have hx1 := RowAt.new w 26 #[.int .i64 0, .int .i64 0, .int .i64 0]
  have hbl := (Below.refl w.heap.size w).alloc (Nat.le_refl _) (.cells #[.int .i64 0, .int .i64 0, .int .i64 0] 26)
  have HEE : Hid (beE n f la lb h = if faE n f ≠ 0 then faE n f else if whE la ≠ 0 then 3 else if whE lb ≠ 0 then 3 else if h < 1 ∨ 16 < h then 3 else 0) := rfl
  obtain ⟨BE, hBE⟩ : ∃ x, x = beE n f la lb h := ⟨_, rfl⟩
  rw [← hBE] at HEE hE ⊢
  clear hBE
  have cs1 := whE_cs la
  have cs2 := whE_cs lb
  generalize faE n f = FE at *
  generalize whE la = E1 at *
  generalize whE lb = E2 at *
  have d0 := hx1.cell (i := 0) rfl
  have d1 := hx1.cell (i := 1) rfl
  have d2 := hx1.cell (i := 2) rfl
  have f0 := hx1.frozen 0
  have f1 := hx1.frozen 1
  have f2 := hx1.frozen 2
  have HX1 := (show Hid (RowAt (w.alloc (.cells #[.int .i64 0, .int .i64 0, .int .i64 0] 26)) w.heap.size 26 #[.int .i64 0, .int .i64 0, .int .i64 0]) from hx1)
  have HBL := (show Hid (Below w.heap.size w (w.alloc (.cells #[.int .i64 0, .int .i64 0, .int .i64 0] 26))) from hbl)
  clear hx1
  go_enter Try.func8, Try.ntmps8
  go_upto_region 1 with fail
  generalize w.alloc (.cells #[.int .i64 0, .int .i64 0, .int .i64 0] 26) = V at *
  go_wp2_with fail
  refine Calls.mono (HF.out _ hbl) ?_
  rintro e Y ⟨rfl, rfl⟩
  clear HF hbl
  by_cases h0 : FE = 0
  · subst h0
    go_wp2_with fail
    refine Calls.mono (HS1.out _) ?_
    rintro e Y ⟨rfl, rfl⟩
    clear HS1
    rcases cs1 with rfl | rfl
    · go_wp2_with fail
      refine Calls.mono (HS2.out _) ?_
      rintro e Y ⟨rfl, rfl⟩
      clear HS2
      rcases cs2 with rfl | rfl
      · have hh : h < 1 ∨ 16 < h := by
          refine Classical.byContradiction fun hc => hE (HEE.out.trans ?_)
          rw [if_neg (by simp), if_neg (by simp), if_neg (by simp), if_neg hc]
        have HX : Hid (BE = 3) := HEE.out.trans (by rw [if_neg (by simp), if_neg (by simp), if_neg (by simp), if_pos hh])
        clear HEE hE
        by_cases g1 : h < 1
        · clear hh
          go_wp2
          exact bodyPost_ret (v := .tuple #[.agg #[.int .i64 0, .int .i64 0, .int .i64 0], .int .i64 3]) (tf_cell_tmp2 rfl _ _ w.heap.size 26 _ (0, 0) _ _ rfl rfl (((HX1.out.set 0 (.int .i64 0)).set 1 (.int .i64 0)).set 2 (.int .i64 0)) Try.underlying26 rfl tf_info_hit) rfl ⟨by rw [HX.out], ((HBL.out.setCell (p := ⟨w.heap.size, 0, none⟩) (Nat.le_refl _) _).setCell (p := ⟨w.heap.size, 1, none⟩) (Nat.le_refl _) _).setCell (p := ⟨w.heap.size, 2, none⟩) (Nat.le_refl _) _⟩
        · have g2 : 16 < h := by omega
          clear hh
          go_wp2
          exact bodyPost_ret (v := .tuple #[.agg #[.int .i64 0, .int .i64 0, .int .i64 0], .int .i64 3]) (tf_cell_tmp2 rfl _ _ w.heap.size 26 _ (0, 0) _ _ rfl rfl (((HX1.out.set 0 (.int .i64 0)).set 1 (.int .i64 0)).set 2 (.int .i64 0)) Try.underlying26 rfl tf_info_hit) rfl ⟨by rw [HX.out], ((HBL.out.setCell (p := ⟨w.heap.size, 0, none⟩) (Nat.le_refl _) _).setCell (p := ⟨w.heap.size, 1, none⟩) (Nat.le_refl _) _).setCell (p := ⟨w.heap.size, 2, none⟩) (Nat.le_refl _) _⟩
      · have HX : Hid (BE = 3) := HEE.out.trans (by rw [if_neg (by simp), if_neg (by simp), if_pos (by decide)])
        clear HEE hE
        go_wp2
        exact bodyPost_ret (v := .tuple #[.agg #[.int .i64 0, .int .i64 0, .int .i64 0], .int .i64 3]) (tf_cell_tmp2 rfl _ _ w.heap.size 26 _ (0, 0) _ _ rfl rfl (((HX1.out.set 0 (.int .i64 0)).set 1 (.int .i64 0)).set 2 (.int .i64 0)) Try.underlying26 rfl tf_info_hit) rfl ⟨by rw [HX.out], ((HBL.out.setCell (p := ⟨w.heap.size, 0, none⟩) (Nat.le_refl _) _).setCell (p := ⟨w.heap.size, 1, none⟩) (Nat.le_refl _) _).setCell (p := ⟨w.heap.size, 2, none⟩) (Nat.le_refl _) _⟩
    · have HX : Hid (BE = 3) := HEE.out.trans (by rw [if_neg (by simp), if_pos (by decide)])
      clear HEE hE HS2
      go_wp2
      exact bodyPost_ret (v := .tuple #[.agg #[.int .i64 0, .int .i64 0, .int .i64 0], .int .i64 3]) (tf_cell_tmp2 rfl _ _ w.heap.size 26 _ (0, 0) _ _ rfl rfl (((HX1.out.set 0 (.int .i64 0)).set 1 (.int .i64 0)).set 2 (.int .i64 0)) Try.underlying26 rfl tf_info_hit) rfl ⟨by rw [HX.out], ((HBL.out.setCell (p := ⟨w.heap.size, 0, none⟩) (Nat.le_refl _) _).setCell (p := ⟨w.heap.size, 1, none⟩) (Nat.le_refl _) _).setCell (p := ⟨w.heap.size, 2, none⟩) (Nat.le_refl _) _⟩
  · have HX : Hid (BE = FE) := HEE.out.trans (if_pos h0)
    have hb0 : (FE != 0) = true := by simpa using h0
    clear HEE hE HS1 HS2
    go_wp2
    exact bodyPost_ret (v := .tuple #[.agg #[.int .i64 0, .int .i64 0, .int .i64 0], .int .i64 FE]) (tf_cell_tmp2 rfl _ _ w.heap.size 26 _ (0, 0) _ _ rfl rfl (((HX1.out.set 0 (.int .i64 0)).set 1 (.int .i64 0)).set 2 (.int .i64 0)) Try.underlying26 rfl tf_info_hit) rfl ⟨by rw [HX.out], ((HBL.out.setCell (p := ⟨w.heap.size, 0, none⟩) (Nat.le_refl _) _).setCell (p := ⟨w.heap.size, 1, none⟩) (Nat.le_refl _) _).setCell (p := ⟨w.heap.size, 2, none⟩) (Nat.le_refl _) _⟩
noncomputable def fB3 : Code := Try.f3.body.getD .skip
noncomputable def fO1 : Array Oper := match Cs.restAt 1 fB3 with | .seq (.region _ o _) _ => o | _ => #[]
theorem hit_held : (Try.prog).stoodInHeld 26 = false := by kernel_rfl
theorem eqh_gen (a b c : Int) (w : World) (d : Nat) : (Op.equalIn (d + 3) 26 (.agg #[.int .i64 a, .int .i64 b, .int .i64 c]) (.agg #[.int .i64 a, .int .i64 b, .int .i64 c])).run Try.prog w = .ok true w := by
  have e0 : ∀ z : Int, (Op.equalIn (d + 2) 3 (.int .i64 z) (.int .i64 z)).run Try.prog w = .ok true w := fun z => by
    rw [Op.equalIn]
    simp [Sem.run_bind, run_underlying Try.underlying3]
  have hh := hit_held
  have hS : Try.prog.underlying 26 = some (.struct (Try.prog.fieldsOf 26)) := by kernel_rfl
  rw [run_equalIn_struct w (d + 2) 26 _ _ hS hh]
  simp only [Program.fieldsOf, Try.underlying26]
  clear hS hh
  go_simp
theorem run_eq_hit (a b c : Int) (w : World) : (Op.equalIn 10000 26 (.agg #[.int .i64 a, .int .i64 b, .int .i64 c]) (.agg #[.int .i64 a, .int .i64 b, .int .i64 c])).run Try.prog w = .ok true w := eqh_gen a b c w 9997
set_option maxRecDepth 100000 in
set_option maxHeartbeats 4000000 in
/-- The law behind Best. -/
theorem finds_rest (j : Nat → Value) (v va vb : Value) (n la lb h : Nat) (f : Nat → Nat) (p q : Nat → Bool) (hn : n ≤ 65536) (hf : ∀ i, i < n → f i < 32) (ha : 1 ≤ la ∧ la ≤ 47) (hb : 1 ≤ lb ∧ lb ≤ 47) (hh : 1 ≤ h ∧ h ≤ 16) (w : World) (hv : NumsAt w v n (fun i => (f i : Int))) (h1 : PinsAt w va la p) (h2 : PinsAt w vb lb q) :
    wpOps Try.prog fO1 (Exit.then ((Cs.restAt 2 fB3).wp Try.prog (bodyPost Try.prog Try.f3 (Cs.PostE fun u _ => u = .bool true))) (bodyPost Try.prog Try.f3 (Cs.PostE fun u _ => u = .bool true))) (List.range' 5 6) ⟨#[v, va, vb, .int .i64 (h : Nat), j 4, j 5, j 6, j 7, j 8, j 9, j 10, j 11, j 12, j 13, j 14, j 15, j 16, j 17, .tuple #[.agg (hitV f n p la q lb (Tf.bk (plF f n p la q lb) (la * lb))), .int .i64 0], j 19, j 20, j 21, j 22, j 23, j 24, j 25, j 26, j 27, j 28, j 29, j 30, j 31, j 32, j 33, j 34, j 35, j 36], []⟩ w := by
  refine ops_from 5 6 rfl ?_
  have HR : Hid (∀ W, Below w.heap.size w W → Calls Try.prog 8 #[v, va, vb, .int .i64 (h : Nat)] W fun e w' => e = .returned (.tuple #[.agg (hitV f n p la q lb (Tf.bk (plF f n p la q lb) (la * lb))), .int .i64 0]) ∧ Below W.heap.size W w') := fun W hW => rbest_ok v va vb n la lb h f p q hn hf ha hb hh W (hv.below hW) (h1.below hW) (h2.below hW)
  obtain ⟨qd, qr, M, hV⟩ : ∃ qd qr M : Nat, hitV f n p la q lb (Tf.bk (plF f n p la q lb) (la * lb)) = #[.int .i64 (qd : Nat), .int .i64 (qr : Nat), .int .i64 (M : Nat)] := ⟨_, _, _, rfl⟩
  rw [hV] at HR ⊢
  clear hV hf hv h1 h2
  have he := run_eq_hit (qd : Int) (qr : Int) (M : Int)
  have hz := tf_zero (P := Try.prog) tf_zero_hit
  simp only [fO1, fB3, Cs.restAt, Try.f3, Option.getD_some, List.drop]
  go_wp2_with fail
  have hx1 := RowAt.new w 26 #[.int .i64 (qd : Nat), .int .i64 (qr : Nat), .int .i64 (M : Nat)]
  have hbl := (Below.refl w.heap.size w).alloc (Nat.le_refl _) (.cells #[.int .i64 (qd : Nat), .int .i64 (qr : Nat), .int .i64 (M : Nat)] 26)
  generalize w.alloc (.cells #[.int .i64 (qd : Nat), .int .i64 (qr : Nat), .int .i64 (M : Nat)] 26) = W1 at *
  generalize w.heap.size = q1 at *
  refine Calls.mono (HR.out _ hbl) ?_
  rintro e Y ⟨rfl, hY⟩
  have hx2 := hx1.below hY hx1.lt
  have hx3 := hx2.alloc (.cells #[.int .i64 (qd : Nat), .int .i64 (qr : Nat), .int .i64 (M : Nat)] 26)
  have hx4 := RowAt.new Y 26 #[.int .i64 (qd : Nat), .int .i64 (qr : Nat), .int .i64 (M : Nat)]
  clear HR hbl hY hx1 hx2
  go_upto_region 3 with fail
  generalize Y.alloc (.cells #[.int .i64 (qd : Nat), .int .i64 (qr : Nat), .int .i64 (M : Nat)] 26) = V at *
  generalize Y.heap.size = q2 at *
  have a0 := hx3.cell (i := 0) rfl
  have a1 := hx3.cell (i := 1) rfl
  have a2 := hx3.cell (i := 2) rfl
  have b0 := hx4.cell (i := 0) rfl
  have b1 := hx4.cell (i := 1) rfl
  have b2 := hx4.cell (i := 2) rfl
  go_wp2
  refine ⟨rfl, .bool true, ?_, _, rfl, rfl⟩
  simp [results, Array.mapM_eq_mapM_toList, List.mapM_cons]
set_option maxRecDepth 100000 in
set_option maxHeartbeats 4000000 in
/-- The law where something is wrong. -/
theorem finds_bad (v va vb : Value) (n la lb : Nat) (h : Int) (f : Nat → Int) (p q : Nat → Bool) (hE : beE n f la lb h ≠ 0) (w : World) (hv : NumsAt w v n f) (h1 : PinsAt w va la p) (h2 : PinsAt w vb lb q) :
    Calls Try.prog 3 #[v, va, vb, .int .i64 h] w fun e w' => e = .returned (.bool true) ∧ Below w.heap.size w w' := by
  have HP : Hid (Calls Try.prog 7 #[v, va, vb, .int .i64 h] w fun e w' => e = .returned (.tuple #[.agg #[.int .i64 0, .int .i64 0, .int .i64 0], .int .i64 (beE n f la lb h)]) ∧ Below w.heap.size w w') := pbest_bad v va vb n la lb h f p q hE w hv h1 h2
  have HR : Hid (∀ W, Below w.heap.size w W → Calls Try.prog 8 #[v, va, vb, .int .i64 h] W fun e w' => e = .returned (.tuple #[.agg #[.int .i64 0, .int .i64 0, .int .i64 0], .int .i64 (beE n f la lb h)]) ∧ Below W.heap.size W w') := fun W hW => rbest_bad v va vb n la lb h f p q hE W (hv.below hW) (h1.below hW) (h2.below hW)
  obtain ⟨a0, c0, rfl, _⟩ := hv
  obtain ⟨a1, c1, rfl, _⟩ := h1
  obtain ⟨a2, c2, rfl, _⟩ := h2
  generalize beE n f la lb h = BE at *
  have he := run_eq_hit 0 0 0
  have hz := tf_zero (P := Try.prog) tf_zero_hit
  clear hE
  go_enter Try.func3, Try.ntmps3
  go_wp2_with fail
  refine Calls.mono HP.out ?_
  rintro e X ⟨rfl, hX⟩
  clear HP
  have hx1 := RowAt.new X 26 #[.int .i64 0, .int .i64 0, .int .i64 0]
  have hbl := hX.alloc hX.size (.cells #[.int .i64 0, .int .i64 0, .int .i64 0] 26)
  clear hX
  go_wp2_with fail
  generalize X.alloc (.cells #[.int .i64 0, .int .i64 0, .int .i64 0] 26) = W1 at *
  generalize X.heap.size = q1 at *
  refine Calls.mono (HR.out _ hbl) ?_
  rintro e Y ⟨rfl, hY⟩
  have hx2 := hx1.below hY hx1.lt
  have hx3 := hx2.alloc (.cells #[.int .i64 0, .int .i64 0, .int .i64 0] 26)
  have hx4 := RowAt.new Y 26 #[.int .i64 0, .int .i64 0, .int .i64 0]
  have HB : Hid (Below w.heap.size w (Y.alloc (.cells #[.int .i64 0, .int .i64 0, .int .i64 0] 26))) := (hbl.trans (hY.mono hbl.size)).alloc (hbl.trans (hY.mono hbl.size)).size _
  clear HR hbl hY hx1 hx2
  go_upto_region 3 with fail
  generalize Y.alloc (.cells #[.int .i64 0, .int .i64 0, .int .i64 0] 26) = V at *
  generalize Y.heap.size = q2 at *
  have a0 := hx3.cell (i := 0) rfl
  have a1 := hx3.cell (i := 1) rfl
  have a2 := hx3.cell (i := 2) rfl
  have b0 := hx4.cell (i := 0) rfl
  have b1 := hx4.cell (i := 1) rfl
  have b2 := hx4.cell (i := 2) rfl
  go_wp2
  go_ret
  exact ⟨rfl, HB.out⟩
end Go.Proofs.Ytpdemelchhkfaaa
