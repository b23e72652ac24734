/-
  Several texts, joined: TgM, TgO.
-/
import Derived.Test.YtpdemelchhkfaaaJn35
import Derived.Test.YtpdemelchhkfaaaJn14
import Derived.Conc.LeavingOf
import Derived.LoneHanded
import Derived.Test.YtpdemelchhkfaaaJn36
/-
  The end of a run beside goroutines that only leave, where some blocks were touched by atomic means.
-/
namespace Go.Proofs.Ytpdemelchhkfaaa.Cs
open Go.Conc
section
variable {P : Program} {Sn : Nat → Prop} {gs : Array Goroutine} {t : Trace} {q : Nat → Nat} {size : Nat}
theorem Qs.past (h : Qs P Sn gs t q 0 size) : ∃ B0, ∀ B, B0 ≤ B → Past (snL Sn) B t := by
  obtain ⟨B0, hB0⟩ := low_some t
  refine ⟨B0, fun B hB => ⟨h.clean, fun i a ha _ => ?_, fun i g hg0 hne hc => ?_, h.df, hB0 B hB⟩⟩
  · obtain ⟨x, hx, hxa⟩ := touch_of ha
    by_cases hs : snL Sn a.loc
    · obtain ⟨h1, h2⟩ := h.sn i x a hx hxa hs
      cases hk : a.kind with
      | plain => exact absurd hk h1
      | said =>
        have := knows_own hx
        rw [h2 hk] at this
        exact .inl this
      | atomic => exact .inr ⟨hs, rfl⟩
    · exact .inl (h.kn i x a hx hxa (.inl hs))
  · obtain ⟨a, ha, _, hk⟩ := hc
    obtain ⟨x, hx, hxa⟩ := touch_of ha
    have hgx : x.g = g := by
      rw [Trace.g?, hx] at hg0
      exact Option.some.inj hg0
    have hkn : Knows t 0 i := by
      by_cases hs : snL Sn a.loc
      · rcases hk with hk | hk
        · obtain ⟨h1, h2⟩ := h.sn i x a hx hxa hs
          cases hk2 : a.kind with
          | plain => exact absurd hk2 h1
          | said => exact absurd (hgx.symm.trans (h2 hk2)) hne
          | atomic => exact absurd hk2 hk
        · exact h.kn i x a hx hxa (.inr hk)
      · exact h.kn i x a hx hxa (.inl hs)
    obtain ⟨j, z, h1, h2, h3⟩ := hkn
    refine ⟨j, by simp [Trace.g?, h1, h2], ?_⟩
    rcases h3 with rfl | h3
    · rw [hx] at h1
      cases h1
      exact absurd (hgx.symm.trans h2) hne
    · exact h3
end
variable [Fns]
/-- A call beside goroutines that only leave comes to its return. -/
theorem beside_stop2 {P : Program} {Sn : Nat → Prop} {Post : Value → World → Prop} (hG : P.globals.size ≤ Fns.G) (hC : FnsCode P) {gs : Array Goroutine} {t : Trace} {q : Nat → Nat} {d : Nat} {g : Goroutine} {w : World} {sl : Option (Nat × Nat)} {c : List Frame} {E : Env} {gl : Goroutine} {wl : World} (hn : ∀ b x, E b = some x → ¬ Sn x.1) (hsn : ∀ b, Sn b → b < w.heap.size) (h0 : gs[0]? = some g) (hin : InCall P Post c E gl wl g w) (hq : Qs P Sn gs t q d w.heap.size) :
    ∃ N gs' w' sl' t' q' E' gl' wl' g', runNT P N (crowd gs w sl) t = (.next (crowd gs' w' sl'), t') ∧ gs'.size = gs.size ∧ gs'[0]? = some g' ∧ InCall P Post c E' gl' wl' g' w' ∧ Stop [trap P] gl' ∧ lastG g' = lastG g ∧ FC E E' w w' ∧ Qs P Sn gs' t' q' d w'.heap.size := by
  have hnn : ∀ {E' : Env} {w' : World}, FC E E' w w' → ∀ b x, E' b = some x → ¬ Sn x.1 := fun {E' w'} hf b x hx hs => by
    obtain ⟨c, s, o⟩ := x
    rcases hf.fresh b c s o hx with h1 | ⟨h1, _⟩
    · exact hn b _ h1 hs
    · exact absurd (hsn c hs) (by omega)
  let Q : Nat → Goroutine → World → Prop := fun d' g' w' => d' = d ∧ ∃ E' gl' wl', InCall P Post c E' gl' wl' g' w' ∧ Stop [trap P] gl' ∧ lastG g' = lastG g ∧ FC E E' w w'
  let I : Option { s : Gh // Acc (After P [trap P]) s } → Nat → Goroutine → World → Prop := fun μ d' g' w' => match μ with
    | some s => d' = d ∧ ∃ E', InCall P Post c E' s.1.1 s.1.2 g' w' ∧ lastG g' = lastG g ∧ FC E E' w w'
    | none => False
  have fcAt : ∀ {E' : Env} {w' : World} (k : Nat), FC E E' w w' → FC E E' w (w'.at k) := fun k h => ⟨h.le, h.os, h.tape, h.output, h.size, h.keep, h.fresh⟩
  have fcAt' : ∀ {E' : Env} {w' : World} (k : Nat), FC E E' w (w'.at k) → FC E E' w w' := fun k h => ⟨h.le, h.os, h.tape, h.output, h.size, h.keep, h.fresh⟩
  have a1 : ∀ μ d' g' w' k, I μ d' g' w' → I μ d' g' (w'.at k) := fun μ d' g' w' k h => by
    cases μ with
    | none => exact h.elim
    | some s =>
      obtain ⟨h0, E', h1, h3, h2⟩ := h
      exact ⟨h0, E', h1.other fun _ _ _ => rfl, h3, fcAt k h2⟩
  have a2 : ∀ d' g' w' k, Q d' g' (w'.at k) → Q d' g' w' := fun d' g' w' k h => by
    obtain ⟨h1, E', gl', wl', k1, k2, k3, k4⟩ := h
    exact ⟨h1, E', gl', wl', k1.other fun _ _ _ => rfl, k2, k3, fcAt' k k4⟩
  have a3 : ∀ μ d' g' w', I μ d' g' w' → g'.status = .running := fun μ d' g' w' h => by
    cases μ with
    | none => exact h.elim
    | some s =>
      obtain ⟨_, E', h1, h3, h2⟩ := h
      exact h1.running
  have a4 : ∀ μ d' g' w', I μ d' g' w' → Q d' g' w' ∨ ∃ g2 w2 es μ', stepG P true g' w' = .go g2 w2 es ∧ OptLt P μ' μ ∧ I μ' (deafBehind d' es) g2 w2 ∧ w'.heap.size ≤ w2.heap.size ∧ ∀ e ∈ es, EvS Sn w2.heap.size e := fun μ d' g' w' h => by
    cases μ with
    | none => exact h.elim
    | some s =>
      obtain ⟨rfl, E1, hin1, hl1, hf1⟩ := h
      by_cases hs : Stop [trap P] s.1.1
      · exact .inl ⟨rfl, E1, _, _, hin1, hs, hl1, hf1⟩
      · obtain ⟨E', gl', wl', g2, w2, es, hst, hin', haft, hev, hfc, hl2⟩ := hin1.step2 hG hC true hs
        have hok := fun e he => evOk_s (Sn := Sn) hin'.wr (hnn (hf1.trans hfc)) (hev e he)
        exact .inr ⟨g2, w2, es, some ⟨(gl', wl'), live_acc hin'.live⟩, hst, .on haft, ⟨deafBehind_still (fun e he => (hok e he).2) _, E', hin', hl2.trans hl1, hf1.trans hfc⟩, hfc.size, fun e he => (hok e he).1⟩
  obtain ⟨N, gs', w', sl', t', q', d', g', h1, h2, h3, ⟨rfl, E', gl', wl', k1, k2, k3, k4⟩, h5⟩ := beside2 (P := P) (optLt_wf P) I Q a1 a2 a3 a4 (μ := some ⟨(gl, wl), live_acc hin.live⟩) (sl := sl) h0 ⟨rfl, E, hin, rfl, FC.refl E w⟩ hq
  exact ⟨N, gs', w', sl', t', q', E', gl', wl', g', h1, h2, h3, k1, k2, k3, k4, h5⟩
end Go.Proofs.Ytpdemelchhkfaaa.Cs
namespace Go.Proofs.Ytpdemelchhkfaaa
open Go.Conc
theorem lone_good {P : Program} {f : FuncId} {args : Array Value} {w : World} {R : Value → World → Prop} (h : Calls P f args w fun e w' => ∃ v, e = .returned v ∧ R v w') (hi : P.inits.idxOf? f = none) :
    ∃ N last o w' t', runNT P (N + 1) (solo (G (Frame.enter P f args .normal) []) w) #[] = (.ended o w', t') ∧ runN P N (solo (G (Frame.enter P f args .normal) []) w) = .next last ∧ step P last = .ended o w' ∧ Conc.Good P R last o w' t' := by
  have h' : Calls P f args w fun | .returned v, w' => R v w' | _, _ => False := h.mono fun e w' ⟨v, e1, e2⟩ => by
    subst e1
    exact e2
  obtain ⟨n, v, w', fr, hn, hend, hp⟩ := h'.done_lone hi
  have hall := allBy_of_lone P n _ _ hn (by simp [lone]) rfl
  have hT : runNT P (n + 1) (lone (Frame.enter P f args .normal) [] w) #[] = (.ended (.done v) w', (runNT P (n + 1) (lone (Frame.enter P f args .normal) [] w) #[]).2) := by
    refine Prod.ext ?_ rfl
    rw [runNT_fst]
    exact hend
  obtain ⟨_, a2, a3⟩ := alone_of_lone (w' := w') hn
  refine ⟨n, _, _, _, _, hT, hn, step_of_runs hn hend, v, rfl, hp, fun said => ?_, a2, ⟨fun g hg => by simp [lone] at hg, rfl⟩, a3⟩
  exact not_race_of_allBy hall
end Go.Proofs.Ytpdemelchhkfaaa

/-
  TeleFinds in company.
-/
namespace Go.Proofs.Ytpdemelchhkfaaa
open Go.Conc Go.RowKit PK Tl Cs
open Go.ConcR (KK WgAt wgBlock)
theorem enter_law (v va vb : Value) (h : Int) : Frame.enter Try.prog 3 #[v, va, vb, .int .i64 h] .normal = (base 3).at ⟨#[v, va, vb, .int .i64 h, undef, undef, undef, undef, undef, undef, undef, undef, undef, undef, undef, undef, undef, undef, undef, undef, undef, undef, undef, undef, undef, undef, undef, undef, undef, undef, undef, undef, undef, undef, undef, undef, undef], []⟩ [.code fB3] := by
  simp [Frame.enter, Try.func3, Try.f3, fB3, base, Frame.at, Array.replicate, List.replicate]
set_option maxRecDepth 100000 in
set_option maxHeartbeats 4000000 in
theorem law_head (v va vb : Value) (h : Nat) (H : Array Obj) (o : Os) (out : Array (Nat × ByteArray)) (w : World) (hI : HI H o out w) :
    ∃ mu, Goes Try.prog true AtRel (DG (fun _ => False) H.size) (fun g' w' => g' = G (mkF 7 #[v, va, vb, .int .i64 (h : Nat), undef, undef, undef, undef, undef, undef, undef, undef, undef, undef, undef, undef, undef, undef, undef, undef, undef, undef, undef, undef, undef, undef, undef, undef, undef, undef, undef, undef, undef, undef, undef, undef, undef, undef, undef, undef, undef, undef, undef, undef, undef, undef, undef, undef, undef, undef, undef, undef, undef, undef, undef, undef, undef, undef, undef, undef, undef, undef, undef, undef, undef, undef, undef, undef, undef, undef, undef, undef] [.code bBody] .run) [mkF 3 #[v, va, vb, .int .i64 (h : Nat), undef, undef, undef, undef, .bool false, undef, undef, undef, undef, undef, v, va, vb, .int .i64 (h : Nat), undef, undef, undef, undef, undef, undef, undef, undef, undef, undef, undef, undef, undef, undef, undef, undef, undef, undef, undef] [.inRegion fO1 (4 :: List.range' 5 6), .code (restAt 2 fB3)] .run] ∧ HI H o out w') mu (G ((base 3).at ⟨#[v, va, vb, .int .i64 (h : Nat), undef, undef, undef, undef, undef, undef, undef, undef, undef, undef, undef, undef, undef, undef, undef, undef, undef, undef, undef, undef, undef, undef, undef, undef, undef, undef, undef, undef, undef, undef, undef, undef, undef], []⟩ [.code fB3]) []) w := by
  refine ⟨40, ?_⟩
  simp only [fB3, fO1, restAt, Try.f3, Option.getD_some]
  repeat (refine gstepG hI rfl (fun w₁ h₁ => ?_); walk_rw; refine ⟨dg_same _, ?_⟩; clear hI; have hI := h₁; clear h₁)
  refine gstepG hI rfl (fun w₁ h₁ => ?_)
  refine goes_oper_k rfl rfl (by decide) (fun K hK => ?_)
  go_simp
  refine hK _ _ ⟨dg_of (by simp) (fun e he => ?_), ?_⟩
  · have hm := mem_listed he
    simp [go_sem, *] at hm
  clear hK K hI
  have hI := h₁
  clear h₁
  repeat (refine gstepG hI rfl (fun w₁ h₁ => ?_); walk_rw; refine ⟨dg_same _, ?_⟩; clear hI; have hI := h₁; clear h₁)
  refine gstepG hI rfl (fun w₁ h₁ => ?_)
  refine goes_oper_k rfl rfl (by decide) (fun K hK => ?_)
  go_simp
  refine hK _ _ ⟨dg_of (by simp) (fun e he => ?_), ?_⟩
  · have hm := mem_listed he
    simp [go_sem, *] at hm
  clear hK K hI
  have hI := h₁
  clear h₁
  refine gstepG hI rfl (fun w₁ h₁ => ?_)
  refine goes_oper_k rfl rfl (by decide) (fun K hK => ?_)
  go_simp
  refine hK _ _ ⟨dg_of (by simp) (fun e he => ?_), ?_⟩
  · have hm := mem_listed he
    simp [go_sem, *] at hm
  clear hK K hI
  have hI := h₁
  clear h₁
  refine gstepG hI rfl (fun w₁ h₁ => ?_)
  refine goes_oper_k rfl rfl (by decide) (fun K hK => ?_)
  go_simp
  refine hK _ _ ⟨dg_of (by simp) (fun e he => ?_), ?_⟩
  · have hm := mem_listed he
    simp [go_sem, *] at hm
  clear hK K hI
  have hI := h₁
  clear h₁
  refine gstepG hI rfl (fun w₁ h₁ => ?_)
  refine goes_oper_k rfl rfl (by decide) (fun K hK => ?_)
  go_simp
  refine hK _ _ ⟨dg_of (by simp) (fun e he => ?_), ?_⟩
  · have hm := mem_listed he
    simp [go_sem, *] at hm
  clear hK K hI
  have hI := h₁
  clear h₁
  refine gstepG hI rfl (fun w₁ h₁ => ?_)
  refine goes_call rfl rfl (by decide) rfl Try.func7 (by kernel_rfl) rfl ?_
  refine ⟨dg_same _, ?_⟩
  exact Goes.stop fun w₂ h₂ => by
    obtain ⟨d, rfl⟩ := h₂
    refine ⟨?_, h₁⟩
    have e1 : ∀ (a : Act), a.eval (.tmp 14) = v → a.eval (.tmp 15) = va → a.eval (.tmp 16) = vb → a.eval (.tmp 17) = .int .i64 (h : Nat) → (#[Operand.tmp 14, .tmp 15, .tmp 16, .tmp 17].map a.eval ++ Array.replicate (Try.f7.ntmps - (#[Operand.tmp 14, .tmp 15, .tmp 16, .tmp 17].map a.eval).size) undef) = #[v, va, vb, .int .i64 (h : Nat), undef, undef, undef, undef, undef, undef, undef, undef, undef, undef, undef, undef, undef, undef, undef, undef, undef, undef, undef, undef, undef, undef, undef, undef, undef, undef, undef, undef, undef, undef, undef, undef, undef, undef, undef, undef, undef, undef, undef, undef, undef, undef, undef, undef, undef, undef, undef, undef, undef, undef, undef, undef, undef, undef, undef, undef, undef, undef, undef, undef, undef, undef, undef, undef, undef, undef, undef, undef] := fun a k1 k2 k3 k4 => by
      simp [k1, k2, k3, k4, Array.replicate, List.replicate]
    rw [e1 _ rfl rfl rfl rfl]
    rfl
theorem law_item : [Item.inRegion fO1 (List.range' 5 6), .code (restAt 2 fB3)].all (itemOk Try.prog) = true := by kernel_rfl
def Kept (W W' : World) : Prop := (∀ b, b < W.heap.size → W'.heap[b]? = W.heap[b]?) ∧ W'.os = W.os ∧ W'.output = W.output
theorem nums_heap {W W' : World} (e : W'.heap = W.heap) {v : Value} {n : Nat} {f : Nat → Int} (h : NumsAt W v n f) : NumsAt W' v n f := by
  obtain ⟨a, cap, h1, h2, h3⟩ := h
  refine ⟨a, cap, h1, h2, fun c hc => ?_⟩
  obtain ⟨b, o, e1, k⟩ := h3 c hc
  exact ⟨b, o, e1, by unfold World.cell? at k ⊢; rw [e]; exact k⟩
theorem pins_heap {W W' : World} (e : W'.heap = W.heap) {v : Value} {n : Nat} {f : Nat → Bool} (h : PinsAt W v n f) : PinsAt W' v n f := by
  obtain ⟨a, cap, h1, h2, h3⟩ := h
  refine ⟨a, cap, h1, h2, fun c hc => ?_⟩
  obtain ⟨b, o, e1, k⟩ := h3 c hc
  exact ⟨b, o, e1, by unfold World.cell? at k ⊢; rw [e]; exact k⟩
theorem rt_heap {W W' : World} (e : W'.heap = W.heap) {v : Value} (h : Rt W v) : Rt W' v := fun a l c e1 hp => by rw [e]; exact h a l c e1 hp
theorem rt_pins {W : World} {v : Value} {n : Nat} {f : Nat → Bool} (h : PinsAt W v n f) (hn : 1 ≤ n) : Rt W v := by
  obtain ⟨a, cap, rfl, h2, h3⟩ := h
  obtain ⟨b, o, rfl, k⟩ := h3 0 hn
  intro a' l c e hp
  cases e
  exact ⟨rfl, cell_someT k⟩
set_option maxRecDepth 100000 in
set_option maxHeartbeats 8000000 in
theorem finds_run (v va vb : Value) (n la lb h : Nat) (f : Nat → Nat) (p q : Nat → Bool) (hn : n ≤ 65536) (hf : ∀ i, i < n → f i < 32) (ha : 1 ≤ la ∧ la ≤ 47) (hb : 1 ≤ lb ∧ lb ≤ 47) (hh : 1 ≤ h ∧ h ≤ 16) (W : World) (hv : NumsAt W v n (fun i => (f i : Int))) (h1 : PinsAt W va la p) (h2 : PinsAt W vb lb q) (rv : Rt W v) :
    ∃ N last o w' t', runNT Try.prog (N + 1) (solo (G (Frame.enter Try.prog 3 #[v, va, vb, .int .i64 (h : Nat)] .normal) []) W) #[] = (.ended o w', t') ∧ runN Try.prog N (solo (G (Frame.enter Try.prog 3 #[v, va, vb, .int .i64 (h : Nat)] .normal) []) W) = .next last ∧ step Try.prog last = .ended o w' ∧ Conc.Good Try.prog (fun u W' => u = .bool true ∧ Kept W W') last o w' t' := by
  have hG : Try.prog.globals.size ≤ Fns.G := Nat.le_refl _
  have ra := rt_pins h1 ha.1
  have rb := rt_pins h2 hb.1
  rw [enter_law]
  have I0 : HI W.heap W.os W.output W := ⟨rfl, rfl, rfl⟩
  obtain ⟨mu, G1⟩ := law_head v va vb h W.heap W.os W.output W I0
  have Q0 : Qs Try.prog (fun _ => False) #[G ((base 3).at ⟨#[v, va, vb, .int .i64 (h : Nat), undef, undef, undef, undef, undef, undef, undef, undef, undef, undef, undef, undef, undef, undef, undef, undef, undef, undef, undef, undef, undef, undef, undef, undef, undef, undef, undef, undef, undef, undef, undef, undef, undef], []⟩ [.code fB3]) []] #[] (fun _ => 0) 0 W.heap.size := qs_one _ _ _ _
  obtain ⟨N1, gs1, w1, sl1, t1, q1, g1, r1, z1, i1, ⟨rfl, I1⟩, Q1⟩ := beside_walk2 (sl := none) (fun w w' es h => h.1) (fun g w h => by rw [h.1]; rfl) rfl G1 Q0
  obtain ⟨N2, gs2, w2, sl2, t2, q2, hs, r2, i2, kp2, os2, ou2, hs1, hs2, Q2⟩ := best_call v va vb n la lb h f p q hn hf ha hb hh w1 w1 (nums_heap I1.1 hv) (pins_heap I1.1 h1) (pins_heap I1.1 h2) (rt_heap I1.1 rv) (rt_heap I1.1 ra) (rt_heap I1.1 rb) (fun _ _ => rfl) (Sn0 := fun _ => False) (fun _ e => e.elim) _ [] i1 Q1 sl1
  -- the ghost of what is left
  obtain ⟨av, cv, rfl, nv, kv⟩ := hv
  obtain ⟨aa, ca, rfl, na, ka⟩ := h1
  obtain ⟨ab, cb, rfl, nb, kb⟩ := h2
  have hn0 : ∀ b q s, (fun _ => none : Env) b ≠ some (q, s, true) := fun b q s e => by cases e
  obtain ⟨E1, wl1, av', c1, s1, b1, e1, r1', k1⟩ := cq_slice (P := Try.prog) (w := W) (Cp.nil W).cq hn0 no_type (f := fun i => .int .i64 (f i : Int)) (fun i E => .int _ _) kv rv
  obtain ⟨E2, wl2, aa', c2, s2, b2, e2, r2', k2⟩ := cq_slice c1 s1 no_type (f := fun i => .bool (p i)) (fun i E => .bool _) ka ra
  obtain ⟨E3, wl3, ab', c3, s3, b3, e3, r3', k3⟩ := cq_slice c2 s2 no_type (f := fun i => .bool (q i)) (fun i E => .bool _) kb rb
  have low : ∀ b q s o, E3 b = some (q, s, o) → o = false ∧ q < W.heap.size := fun b q s o e => by
    refine ⟨?_, ?_⟩
    · cases o with
      | false => rfl
      | true => exact absurd e (s3 b q s)
    · rcases b3 b q s o e with e | e
      · rcases b2 b q s o e with e | e
        · rcases b1 b q s o e with e | e
          · cases e
          · exact e
        · exact e
      · exact e
  have hw1 : w1.heap.size = W.heap.size := by rw [I1.1]
  have keep : ∀ b, b < W.heap.size → w2.heap[b]? = W.heap[b]? := fun b hb => by rw [kp2 b (by omega) (fun e => e), I1.1]
  have hwr : WR Try.prog E3 wl3 w2 := wr_move c3.wr fun b x e => by
    obtain ⟨q, s, o⟩ := x
    exact keep q (low b q s o e).2
  have vres : VR E3 (.tuple #[.agg (hitV f n p la q lb (Tf.bk (plF f n p la q lb) (la * lb))), .int .i64 0]) (.tuple #[.agg (hitV f n p la q lb (Tf.bk (plF f n p la q lb) (la * lb))), .int .i64 0]) := .mkTuple (lr_cons (.mkAgg (lr_cons (.int _ _) (lr_cons (.int _ _) (lr_cons (.int _ _) lr_nil)))) (lr_cons (.int _ _) lr_nil))
  obtain ⟨j, hj⟩ := junks E3 (fun i => (#[.slice av n cv, .slice aa la ca, .slice ab lb cb, .int .i64 (h : Nat), undef, undef, undef, undef, .bool false, undef, undef, undef, undef, undef, .slice av n cv, .slice aa la ca, .slice ab lb cb, .int .i64 (h : Nat), .tuple #[.agg (hitV f n p la q lb (Tf.bk (plF f n p la q lb) (la * lb))), .int .i64 0], undef, undef, undef, undef, undef, undef, undef, undef, undef, undef, undef, undef, undef, undef, undef, undef, undef, undef] : Array Value).getD i undef)
  have lL : LR E3 #[.slice av' n cv, .slice aa' la ca, .slice ab' lb cb, .int .i64 (h : Nat), j 4, j 5, j 6, j 7, j 8, j 9, j 10, j 11, j 12, j 13, j 14, j 15, j 16, j 17, .tuple #[.agg (hitV f n p la q lb (Tf.bk (plF f n p la q lb) (la * lb))), .int .i64 0], j 19, j 20, j 21, j 22, j 23, j 24, j 25, j 26, j 27, j 28, j 29, j 30, j 31, j 32, j 33, j 34, j 35, j 36] #[.slice av n cv, .slice aa la ca, .slice ab lb cb, .int .i64 (h : Nat), undef, undef, undef, undef, .bool false, undef, undef, undef, undef, undef, .slice av n cv, .slice aa la ca, .slice ab lb cb, .int .i64 (h : Nat), .tuple #[.agg (hitV f n p la q lb (Tf.bk (plF f n p la q lb) (la * lb))), .int .i64 0], undef, undef, undef, undef, undef, undef, undef, undef, undef, undef, undef, undef, undef, undef, undef, undef, undef, undef] := (lr_cons ((r1'.mono e2.le).mono e3.le) (lr_cons (r2'.mono e3.le) (lr_cons r3' (lr_cons (.int _ _) (lr_cons (hj 4) (lr_cons (hj 5) (lr_cons (hj 6) (lr_cons (hj 7) (lr_cons (hj 8) (lr_cons (hj 9) (lr_cons (hj 10) (lr_cons (hj 11) (lr_cons (hj 12) (lr_cons (hj 13) (lr_cons (hj 14) (lr_cons (hj 15) (lr_cons (hj 16) (lr_cons (hj 17) (lr_cons vres (lr_cons (hj 19) (lr_cons (hj 20) (lr_cons (hj 21) (lr_cons (hj 22) (lr_cons (hj 23) (lr_cons (hj 24) (lr_cons (hj 25) (lr_cons (hj 26) (lr_cons (hj 27) (lr_cons (hj 28) (lr_cons (hj 29) (lr_cons (hj 30) (lr_cons (hj 31) (lr_cons (hj 32) (lr_cons (hj 33) (lr_cons (hj 34) (lr_cons (hj 35) (lr_cons (hj 36) (lr_nil))))))))))))))))))))))))))))))))))))))
  have hin : InCall Try.prog (fun u _ => u = .bool true) [] E3 _ wl3 (G (mkF 3 #[.slice av n cv, .slice aa la ca, .slice ab lb cb, .int .i64 (h : Nat), undef, undef, undef, undef, .bool false, undef, undef, undef, undef, undef, .slice av n cv, .slice aa la ca, .slice ab lb cb, .int .i64 (h : Nat), .tuple #[.agg (hitV f n p la q lb (Tf.bk (plF f n p la q lb) (la * lb))), .int .i64 0], undef, undef, undef, undef, undef, undef, undef, undef, undef, undef, undef, undef, undef, undef, undef, undef, undef, undef] [.inRegion fO1 (List.range' 5 6), .code (restAt 2 fB3)] .run) []) w2 := InCall.mid ⟨_, Try.func3⟩ lL hwr c3.big law_item (fun τ => reach_region Try.func3 (finds_rest j _ _ _ n la lb h f p q hn hf ha hb hh (wl3.tp τ) ⟨_, _, rfl, nv, fun c hc => by obtain ⟨b, o, e, k⟩ := k1 c hc; exact ⟨b, o, e, (e2.trans e3).cell k⟩⟩ ⟨_, _, rfl, na, fun c hc => by obtain ⟨b, o, e, k⟩ := k2 c hc; exact ⟨b, o, e, e3.cell k⟩⟩ ⟨_, _, rfl, nb, k3⟩))
  obtain ⟨N3, gs3, w3, sl3, t3, q3, E4, gl4, wl4, g3, r3, z3, i3, in3, st3, la3, fc3, Q3⟩ := beside_stop2 (sl := sl2) hG tf_fnsCode (fun b y e hs' => by
    obtain ⟨q', s', o'⟩ := y
    have := (low b q' s' o' e).2
    rcases (show False ∨ q' = hs + 4 ∨ q' = hs + 5 from hs') with e1 | e1 | e1
    · exact e1
    · omega
    · omega) (fun b hb => by
    rcases hb with e1 | e1 | e1
    · exact e1.elim
    · omega
    · omega) i2 hin Q2
  obtain ⟨u, u', wlu, hu, vu, run3, end3⟩ := in3.atEnd st3 (fn0 := 3) (f := Try.f3) (t := 8) la3 Try.func3 rfl (by kernel_rfl)
  obtain rfl : u' = .bool true := by rw [hu] at vu; cases vu; rfl
  have hkept : Kept W w3 := ⟨fun b hb => by
    rw [fc3.keep b (by omega) (fun b' s' e => by have := (low _ _ _ _ e).1; cases this), keep b hb], fc3.os.trans (os2.trans I1.2.1), fc3.output.trans (ou2.trans I1.2.2)⟩
  obtain ⟨B0, hP⟩ := Q3.past
  obtain ⟨N4, last, o, w', t', x1, x2, x3, x4⟩ := beside_ends (P := Try.prog) (Shun := snL fun b => False ∨ b = hs + 4 ∨ b = hs + 5) (B := B0) (D := fun _ _ _ => False) (Post := fun u W' => u = .bool true ∧ Kept W W') (sl := sl3) (n := 0) (fun _ _ _ h => h.elim) i3 Q3.lv (hP B0 (Nat.le_refl _)) (Goes.stop fun w₂ h₂ => by
    obtain ⟨d, rfl⟩ := h₂
    exact ⟨run3, .bool true, #[], end3 _, fun e he => by simp at he, rfl, hkept⟩)
  have hr : runNT Try.prog (N1 + (N2 + N3)) (crowd #[G ((base 3).at ⟨#[.slice av n cv, .slice aa la ca, .slice ab lb cb, .int .i64 (h : Nat), undef, undef, undef, undef, undef, undef, undef, undef, undef, undef, undef, undef, undef, undef, undef, undef, undef, undef, undef, undef, undef, undef, undef, undef, undef, undef, undef, undef, undef, undef, undef, undef, undef], []⟩ [.code fB3]) []] W none) #[] = (.next (crowd gs3 w3 sl3), t3) := by
    rw [runNT_add, r1]
    show runNT Try.prog (N2 + N3) (crowd gs1 w1 sl1) t1 = _
    rw [runNT_add, r2]
    exact r3
  rw [solo_eq_crowd]
  refine ⟨N1 + (N2 + N3) + N4, last, o, w', t', ?_, ?_, x3, x4⟩
  · rw [Nat.add_assoc (N1 + (N2 + N3)) N4 1, runNT_add, hr]
    exact x1
  · rw [← runNT_fst _ _ _ #[], runNT_add, hr]
    show (runNT Try.prog N4 (crowd gs3 w3 sl3) t3).1 = _
    rw [runNT_fst]
    exact x2
end Go.Proofs.Ytpdemelchhkfaaa
