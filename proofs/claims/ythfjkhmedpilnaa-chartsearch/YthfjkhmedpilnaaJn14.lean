/-
  Several texts, joined: CtL, CuA.
-/
import Derived.Test.YthfjkhmedpilnaaJn13
import Derived.Test.YthfjkhmedpilnaaChecked
import Derived.Conc.WalkWords
import Derived.Conc.EventLaws
import Derived.Conc.Own5
import Derived.Conc.CompanyWords
import Derived.KernelRfl
/-
  The pool begins beside goroutines that only leave, and ends so; goroutine 0 walks there; the run's end.
-/
namespace Go.Proofs.Ythfjkhmedpilnaa.Cs
open Go.Conc
open Go.ConcN (sumTo sumTo_congr)
/-- What a step of goroutine 0's by itself keeps. -/
def DW (w w' : World) (es : Array Event) : Prop := w.heap.size ≤ w'.heap.size ∧ ∀ e ∈ es, EvW w'.heap.size e
section
variable {P : Program} {gs : Array Goroutine} {t : Trace} {q : Nat → Nat} {g : Goroutine} {w : World} {sl : Option (Nat × Nat)}
/-- A walk beside them. -/
theorem beside_walk {D : World → World → Array Event → Prop} {Stp : Goroutine → World → Prop} (hD : ∀ w w' es, D w w' es → DW w w' es) (hS : ∀ g w, Stp g w → g.status = .running) {m : Nat} (h0 : gs[0]? = some g) (hG : Goes P true AtRel D Stp m g w) (hq : Qt P gs t q w.heap.size) :
    ∃ N gs' w' sl' t' q' g', runNT P N (crowd gs w sl) t = (.next (crowd gs' w' sl'), t') ∧ gs'.size = gs.size ∧ gs'[0]? = some g' ∧ Stp g' w' ∧ Qt P gs' t' q' w'.heap.size := by
  have a1 : ∀ (μ : Nat) g' w' d, Goes P true AtRel D Stp μ g' w' → Goes P true AtRel D Stp μ g' (w'.at d) := fun μ g' w' d h => Goes.rely atRel_trans h ⟨d, rfl⟩
  have a4 : ∀ (μ : Nat) g' w', Goes P true AtRel D Stp μ g' w' → (∀ d, Stp g' (w'.at d)) ∨ ∃ g2 w2 es μ', stepG P true g' w' = .go g2 w2 es ∧ μ' < μ ∧ Goes P true AtRel D Stp μ' g2 w2 ∧ w'.heap.size ≤ w2.heap.size ∧ ∀ e ∈ es, EvW w2.heap.size e := fun μ g' w' h => by
    rcases h.cases with h1 | ⟨m', rfl, h1⟩
    · exact .inl fun d => h1 _ ⟨d, rfl⟩
    · obtain ⟨g2, w2, es, k1, k2, k3⟩ := h1 w' (atRel_refl w')
      exact .inr ⟨g2, w2, es, m', k1, Nat.lt_succ_self _, k3, hD _ _ _ k2⟩
  obtain ⟨N, gs', w', sl', t', q', g', h1, h2, h3, h4, h5⟩ := beside (P := P) Nat.lt_wfRel.wf (fun μ g' w' => Goes P true AtRel D Stp μ g' w') (fun g' w' => ∀ d, Stp g' (w'.at d)) a1 (fun g' w' d h d' => h d') (fun μ g' w' h => h.running hS w' (atRel_refl w')) a4 (sl := sl) h0 hG hq
  exact ⟨N, gs', w', sl', t', q', g', h1, h2, h3, h4 w'.drawn, h5⟩
/-- The machine of one begins so. -/
theorem qt_one (P : Program) (g : Goroutine) (q : Nat → Nat) (size : Nat) : Qt P #[g] #[] q size :=
  ⟨fun i x h1 h2 => by have := idx_lt h2; simp at this; omega, past_nil.clean, fun op hop => by simp at hop, fun j x a hx => by simp at hx, fun j a ha => by obtain ⟨x, hx, _⟩ := touch_of ha; simp at hx⟩
end
variable [Fns]
section
variable {P : Program} {c : Cst} {Post : Nat → Value → World → Prop} {S : Scr P c Post}
variable {gs : Array Goroutine} {w : World} {t : Trace} {q : Nat → Nat} {g : Goroutine}
theorem Pool.starts (S : Scr P c Post) (h1 : c.S0 = gs.size) (h0 : gs[0]? = some g) (hq : Qt P gs t q w.heap.size) {m : Nat} (hw : Walk P c true (S.GoP 0) m g w) (ok : c.Ok w) (c1 : w.heap[c.C1]? = some (.chan 0 #[] false 0 0 false)) (c2 : w.heap[c.C2]? = some (.chan 0 #[] false 0 0 false))
    (fd : ∀ j a ad, touchAt t j = some a → a.loc = .cell ad → ad.block ≠ c.Fd) :
    Pool S gs w t (.sp 0 m) (fun i => .lv (q i)) (fun _ => none) (fun _ _ => False) (fun _ => none) := by
  have hno : ∀ i : Nat, c.S0 ≤ i → i < gs.size → False := fun i a b => by omega
  refine ⟨by rw [h1]; rfl, ⟨g, h0, S.n1, hw⟩, fun i x a b => hq.lv i x a b, fun i a b => ⟨q i, rfl⟩, c1, c2, (fun e => by cases e), fun _ i a b => (hno i a b).elim, (fun ⟨_, e⟩ => by cases e), (fun ⟨_, e⟩ => by cases e), ?_, fun i k E s a b => (hno i a b).elim, ?_, ?_⟩
  · show sumTo gs.size _ = 0
    have : ∀ n, n ≤ gs.size → sumTo n (fun i => lvF c i (ZW.lv (q i) : ZW P)) = 0 := fun n => by
      induction n with
      | zero => intro _; rfl
      | succ n ih =>
        intro hn
        show sumTo n _ + lvF c n _ = 0
        unfold lvF at ih ⊢
        rw [ih (by omega), if_pos (by omega)]
    exact this _ (Nat.le_refl _)
  · exact ⟨ok, fun _ _ => rfl, (fun k hk => by cases hk), fun i _ a b => (hno i a b).elim, (fun _ _ e => by cases e), fun i _ _ _ a b => (hno i a b).elim, fun i _ a b => (hno i a b).elim, fun _ _ e => e.elim, fun i _ _ a b => (hno i a b).elim, (fun _ _ e => by cases e)⟩
  · refine ⟨⟨hq.clean, fun l g hl => ?_, fun l _ g hg i a ha _ _ => ?_, hq.words⟩, hq.low, fun j a ad ha e1 e2 => absurd e2 (fd j a ad ha e1), fun j x a hx ha => .inl (hq.kn j x a hx ha)⟩
    · cases l <;> simp [ownOf] at hl
    · rcases hg with rfl | ⟨a1, a2⟩
      · obtain ⟨x, hx, hxa⟩ := touch_of ha
        exact hq.kn i x a hx hxa
      · exact (hno _ a1 a2).elim
theorem Joined.qt {mm : Machine} (h : Joined S mm t) : ∃ gs w sl g q, mm = crowd gs w sl ∧ gs.size = c.S0 + c.n ∧ gs[0]? = some g ∧ S.JnP g ∧ g.status = .running ∧ Qt P gs t q w.heap.size ∧ c.Ok w ∧ ∃ RS : Nat → Nat → Prop, (∀ k q, RS k q → c.N1 ≤ q ∧ q < w.heap.size) ∧ ∀ k, k < c.K → ∃ v, w.cell? ⟨c.Fd, k, none⟩ = some v ∧ Res P c Post k v (RS k) w := by
  obtain ⟨gs, w, sl, zs, fnd, RS, blk, m, g, rfl, h, hg, hj, hr⟩ := h
  have hsz : gs.size = c.S0 + c.n := h.sz
  have hall : ∀ i, c.S0 ≤ i → i < gs.size → ∃ q, zs i = .lv q := fun i h1 h2 => by
    have hc : sumTo gs.size (fun i => lvF c i (zs i)) = c.n := h.cnt
    rw [hsz] at hc
    have := lv_each c.n hc (i - c.S0) (by omega)
    rw [show c.S0 + (i - c.S0) = i by omega] at this
    cases hz : zs i with
    | lv q => exact ⟨q, rfl⟩
    | _ => rw [hz] at this; cases this
  have hlv : ∀ i, 1 ≤ i → i < gs.size → ∃ q, zs i = .lv q := fun i h1 h2 => by
    rcases Nat.lt_or_ge i c.S0 with h3 | h3
    · exact h.old i h1 h3
    · exact hall i h3 h2
  let q : Nat → Nat := fun i => match zs i with
    | .lv q => q
    | _ => 0
  refine ⟨gs, w, sl, g, q, rfl, hsz, hg, hj, hr, ⟨fun i x h1 h2 => ?_, h.tr.ti.clean, h.tr.ti.words, fun j x a hx ha => ?_, h.tr.low⟩, h.mem.ok, RS, h.mem.us2, fun k hk => ?_⟩
  · obtain ⟨q', hq'⟩ := hlv i h1 (idx_lt h2)
    have hs := h.wk i x h1 h2
    rw [hq'] at hs
    have e : q i = q' := by show (match zs i with | .lv q => q | _ => 0) = q'; rw [hq']
    rw [e]
    exact hs
  · rcases h.tr.kn j x a hx ha with h1 | ⟨h1, h2, h3⟩
    · exact h1
    · obtain ⟨q, hq⟩ := hall x.g h1 h2
      rw [hq] at h3
      exact absurd trivial h3
  · obtain ⟨i, h1, h2, h3⟩ := h.mem.jb1 k hk
    refine h.mem.jb3 k i h3 fun e => ?_
    obtain ⟨q, hq⟩ := hall i h1 h2
    rw [hq] at e
    exact e.elim
/-- From the first 'go' to behind the last receive, beside goroutines that only leave. -/
theorem pool_runs (hG : P.globals.size ≤ Fns.G) (hC : FnsCode P) (S : Scr P c Post) (h1 : c.S0 = gs.size) (h0 : gs[0]? = some g) (hq : Qt P gs t q w.heap.size) {m : Nat} (hw : Walk P c true (S.GoP 0) m g w) (ok : c.Ok w) (c1 : w.heap[c.C1]? = some (.chan 0 #[] false 0 0 false)) (c2 : w.heap[c.C2]? = some (.chan 0 #[] false 0 0 false))
    (fd : ∀ j a ad, touchAt t j = some a → a.loc = .cell ad → ad.block ≠ c.Fd) (sl : Option (Nat × Nat)) :
    ∃ N gs' w' sl' t' q' g', runNT P N (crowd gs w sl) t = (.next (crowd gs' w' sl'), t') ∧ gs'[0]? = some g' ∧ S.JnP g' ∧ g'.status = .running ∧ Qt P gs' t' q' w'.heap.size ∧ c.Ok w' ∧ ∃ RS : Nat → Nat → Prop, (∀ k q, RS k q → c.N1 ≤ q ∧ q < w'.heap.size) ∧ ∀ k, k < c.K → ∃ v, w'.cell? ⟨c.Fd, k, none⟩ = some v ∧ Res P c Post k v (RS k) w' := by
  obtain ⟨N, m', t', k1, k2⟩ := (Pool.starts S h1 h0 hq hw ok c1 c2 fd).runs hG hC sl
  obtain ⟨gs', w', sl', g', q', rfl, _, k4, k5, k6, k7, k8, k9⟩ := k2.qt
  exact ⟨N, gs', w', sl', t', q', g', k1, k4, k5, k6, k7, k8, k9⟩
end
end Go.Proofs.Ythfjkhmedpilnaa.Cs

/-
  The worker of chart.Every: its walks between the stops.
-/
namespace Go.Proofs.Ythfjkhmedpilnaa.Cs
open Go.Conc
noncomputable def wBody : Code := Try.f49.body.getD .skip
noncomputable def wLoop : Code := match wBody with | .seq (.seq _ (.block _ (.loop c))) _ => c | _ => .skip
noncomputable def wRest : Code := match wBody with | .seq _ r => r | _ => .skip
noncomputable def wTest : Code := match wLoop with | .seq _ r => r | _ => .skip
noncomputable def wOps1 : Array Oper := match wLoop with | .seq (.region _ o _) _ => o | _ => #[]
noncomputable def wOps3 : Array Oper := match wTest with | .seq _ (.block _ (.seq _ (.region _ o _))) => o | _ => #[]
noncomputable def wOps4 : Array Oper := match wRest with | .region _ o _ => o | _ => #[]
def wB : Frame := { (default : Frame) with fn := 49, kind := .deferred }
noncomputable def wBot : Frame := { (default : Frame) with fn := Try.prog.funcs.size, defers := [], mode := .panicking [goexitEntry] }
theorem wLoud : (Try.prog.funcs[wB.fn]?).any (·.norace) = false := by kernel_rfl
theorem dq_idle (c : Cst) (w : World) : DQ c w w #[] := ⟨rfl, rfl, rfl, rfl, fun e he => by simp at he⟩
theorem served_at {b : Frame} {a : Act} {ops : Array Oper} {i : Nat} {rest : List Nat} {k : List Item} {cs : List Frame} {v : Value} {o : Oper} (ho : ops[i]? = some o) : Conc.served (G (b.at a (.inRegion ops (i :: rest) :: k)) cs) v = G (b.at (a.put o.dst v) (.inRegion ops rest :: k)) cs := by
  have hfin : (b.at a (.inRegion ops (i :: rest) :: k)).finish v = b.at (a.put o.dst v) (.inRegion ops rest :: k) := by rw [Frame.finish_at, ho]; rfl
  show G ((b.at a (.inRegion ops (i :: rest) :: k)).finish v) cs = _
  rw [hfin]
theorem run_exec_load {P : Program} {ρ : Operand → Value} {o : Oper} {ty : TypeId} {x : Operand} {p v : Value} {w : World} (ho : o.op = .load ty x) (hx : ρ x = p) (h : (Instr.loadAt ty p).run P w = .ok v w) : (execOp ρ o).run P w = .ok (.value v) w := by
  unfold execOp
  simp only [ho, hx]
  generalize Instr.loadAt ty p = s at h ⊢
  simp [go_sem, h]
theorem events_exec_load {P : Program} {ρ : Operand → Value} {o : Oper} {ty : TypeId} {x : Operand} {p : Value} {w : World} (ho : o.op = .load ty x) (hx : ρ x = p) : (execOp ρ o).events P w #[] = (Instr.loadAt ty p).events P w #[] := by
  unfold execOp
  simp only [ho, hx]
  generalize Instr.loadAt ty p = s
  simp [go_sem]
theorem ev_store_sl (P : Program) (w : World) (es : Array Event) (ad : Addr) (m : Mode) (b : Option Addr) (l cp : Nat) : (store ad (.slice b l cp) m).events P w es = storedEv P w es ad (.slice b l cp) m := events_store P w es ad _ m rfl
/-- The boxes that a worker reads. -/
structure WkP (c : Cst) (bF bM bL bD : Nat) (vm vl : Value) : Prop where
  fx : c.Fix bF ∧ c.Fix bM ∧ c.Fix bL ∧ c.Fix bD
  ldF : ∀ w, c.Ok w → w.cell? ⟨bF, 0, none⟩ = some (.chan (some c.C1))
  ldD : ∀ w, c.Ok w → w.cell? ⟨bD, 0, none⟩ = some (.chan (some c.C2))
  ldL : ∀ w, c.Ok w → w.cell? ⟨bL, 0, none⟩ = some vl
  ldM : ∀ w, c.Ok w → (Instr.loadAt 27 (.pointer (some ⟨bM, 0, none⟩))).run Try.prog w = .ok vm w
  evM : ∀ w, c.Ok w → ∀ e ∈ (Instr.loadAt 27 (.pointer (some ⟨bM, 0, none⟩))).events Try.prog w #[], ∃ a : Addr, e = ⟨.cell a, false, false⟩ ∧ c.Fix a.block
def wRec (c : Cst) (bF bM bL bD : Nat) (g : Goroutine) : Prop := ∃ v5 v7 v8 v9 v10 v11 v12 v13 v14 v15 v16 : Value, g = G (wB.at ⟨#[.pointer (some ⟨bF, 0, none⟩), .pointer (some ⟨bM, 0, none⟩), .pointer (some ⟨bL, 0, none⟩), .pointer (some ⟨c.Fd, 0, none⟩), .pointer (some ⟨bD, 0, none⟩), v5, .chan (some c.C1), v7, v8, v9, v10, v11, v12, v13, v14, v15, v16], []⟩ [.inRegion wOps1 [0, 1], .code wTest, .inLoop wLoop, .inBlock 0, .code wRest]) [wBot]
def wSnd (c : Cst) (bF bM bL bD : Nat) (g : Goroutine) : Prop := ∃ v5 v6 v7 v8 v9 v10 v11 v12 v13 v14 v15 : Value, g = G (wB.at ⟨#[.pointer (some ⟨bF, 0, none⟩), .pointer (some ⟨bM, 0, none⟩), .pointer (some ⟨bL, 0, none⟩), .pointer (some ⟨c.Fd, 0, none⟩), .pointer (some ⟨bD, 0, none⟩), v5, v6, v7, v8, v9, v10, v11, v12, v13, v14, v15, .chan (some c.C2)], []⟩ [.inRegion wOps4 [1]]) [wBot]
noncomputable def wCall (c : Cst) (bF bM bL bD : Nat) (vm vl : Value) (k : Nat) (v5 v7 v8 v9 v14 v15 v16 : Value) : Frame := wB.at ⟨#[.pointer (some ⟨bF, 0, none⟩), .pointer (some ⟨bM, 0, none⟩), .pointer (some ⟨bL, 0, none⟩), .pointer (some ⟨c.Fd, 0, none⟩), .pointer (some ⟨bD, 0, none⟩), v5, .chan (some c.C1), v7, v8, v9, .int .i64 (k : Nat), vm, .int .i64 (k : Nat), vl, v14, v15, v16], []⟩ (.inRegion wOps3 [4, 5, 6] :: [.inBlock 1, .inLoop wLoop, .inBlock 0, .code wRest])
def wCal (c : Cst) (bF bM bL bD : Nat) (vm vl : Value) (k : Nat) (g : Goroutine) : Prop := ∃ v5 v7 v8 v9 v14 v15 v16 : Value, g = G (Frame.enter Try.prog 50 #[vm, .int .i64 (k : Nat), vl] .normal) [wCall c bF bM bL bD vm vl k v5 v7 v8 v9 v14 v15 v16, wBot]
def wSto (c : Cst) (bF bM bL bD : Nat) (k : Nat) (v : Value) (g : Goroutine) : Prop := ∃ v5 v7 v8 v9 v10 v11 v12 v13 v16 : Value, g = G (wB.at ⟨#[.pointer (some ⟨bF, 0, none⟩), .pointer (some ⟨bM, 0, none⟩), .pointer (some ⟨bL, 0, none⟩), .pointer (some ⟨c.Fd, 0, none⟩), .pointer (some ⟨bD, 0, none⟩), v5, .chan (some c.C1), v7, v8, v9, v10, v11, v12, v13, v, .pointer (some ⟨c.Fd, k, none⟩), v16], []⟩ (.inRegion wOps3 [6] :: [.inBlock 1, .inLoop wLoop, .inBlock 0, .code wRest])) [wBot]
section
variable {c : Cst} {bF bM bL bD : Nat} {vm vl : Value} {g : Goroutine} {w : World}
theorem wRec_s (h : wRec c bF bM bL bD g) : isG g ∧ ∀ w, stepG Try.prog false g w = .comm g #[rcase c.C1 (.int .i64 0)] true (.recv true) w #[] := by
  obtain ⟨v5, v7, v8, v9, v10, v11, v12, v13, v14, v15, v16, rfl⟩ := h
  refine ⟨⟨_, _, rfl⟩, fun w => ?_⟩
  simp only [wOps1, wLoop, wBody, Try.f49, Option.getD_some]
  rw [stepG_comm (cases := #[rcase c.C1 (.int .i64 0)]) (blocking := true) (shape := .recv true) (w' := w) rfl rfl (by decide) (by simp [execOp, rcase, go_sem])]
  rw [listed_nil (by simp [go_sem])]
set_option maxRecDepth 100000 in
set_option maxHeartbeats 4000000 in
theorem wRec_end (k : WkP c bF bM bL bD vm vl) (h : wRec c bF bM bL bD g) : ∃ m, Walk Try.prog c false (wSnd c bF bM bL bD) m (Conc.served g (.tuple #[.int .i64 0, .bool false])) w := by
  obtain ⟨v5, v7, v8, v9, v10, v11, v12, v13, v14, v15, v16, rfl⟩ := h
  refine ⟨0 + 30, ?_⟩
  show Goes _ _ _ _ _ _ _ _
  rw [served_at (o := wOps1.getD 0 default) rfl]
  simp only [wOps1, wTest, wRest, wLoop, wBody, Try.f49, Option.getD_some]
  repeat (first
    | (refine Goes.step rfl (fun w₁ h₁ => ?_); walk_rw; refine ⟨dq_idle c w₁, ?_⟩)
    | (refine Goes.step rfl (fun w₁ h₁ => ?_)
       refine goes_oper_k rfl rfl (by decide) (fun K hK => ?_)
       have hF := k.ldF w₁ h₁
       have hD := k.ldD w₁ h₁
       have hL := k.ldL w₁ h₁
       go_simp
       refine hK _ _ ⟨⟨rfl, rfl, rfl, rfl, fun e he => ?_⟩, ?_⟩
       · have hm := mem_listed he
         simp [go_sem, *] at hm
         try (subst hm; first | exact ⟨_, rfl, k.fx.1⟩ | exact ⟨_, rfl, k.fx.2.1⟩ | exact ⟨_, rfl, k.fx.2.2.1⟩ | exact ⟨_, rfl, k.fx.2.2.2⟩)
       clear hK K hF hD hL h₁))
  refine Goes.step rfl (fun w₁ h₁ => ?_)
  rw [stepG_cond (t := false) rfl]
  simp only [goes_go, Bool.false_eq_true, ↓reduceIte]
  refine ⟨dq_idle c w₁, ?_⟩
  refine Goes.step rfl (fun w₁ h₁ => ?_)
  apply goes_exit
  · rfl
  refine ⟨dq_idle c w₁, ?_⟩
  repeat (first
    | (refine Goes.step rfl (fun w₁ h₁ => ?_); walk_rw; refine ⟨dq_idle c w₁, ?_⟩)
    | (refine Goes.step rfl (fun w₁ h₁ => ?_)
       refine goes_oper_k rfl rfl (by decide) (fun K hK => ?_)
       have hF := k.ldF w₁ h₁
       have hD := k.ldD w₁ h₁
       have hL := k.ldL w₁ h₁
       go_simp
       refine hK _ _ ⟨⟨rfl, rfl, rfl, rfl, fun e he => ?_⟩, ?_⟩
       · have hm := mem_listed he
         simp [go_sem, *] at hm
         try (subst hm; first | exact ⟨_, rfl, k.fx.1⟩ | exact ⟨_, rfl, k.fx.2.1⟩ | exact ⟨_, rfl, k.fx.2.2.1⟩ | exact ⟨_, rfl, k.fx.2.2.2⟩)
       clear hK K hF hD hL h₁))
  exact Goes.stop fun w₁ _ => ⟨rfl, _, _, _, _, _, _, _, _, _, _, _, rfl⟩
set_option maxRecDepth 100000 in
set_option maxHeartbeats 4000000 in
theorem wRec_job (k : WkP c bF bM bL bD vm vl) (h : wRec c bF bM bL bD g) (j : Nat) : ∃ m, Walk Try.prog c false (wCal c bF bM bL bD vm vl j) m (Conc.served g (.tuple #[.int .i64 (j : Nat), .bool true])) w := by
  obtain ⟨v5, v7, v8, v9, v10, v11, v12, v13, v14, v15, v16, rfl⟩ := h
  refine ⟨0 + 30, ?_⟩
  show Goes _ _ _ _ _ _ _ _
  rw [served_at (o := wOps1.getD 0 default) rfl]
  simp only [wOps1, wTest, wRest, wLoop, wBody, Try.f49, Option.getD_some]
  repeat (first
    | (refine Goes.step rfl (fun w₁ h₁ => ?_); walk_rw; refine ⟨dq_idle c w₁, ?_⟩)
    | (refine Goes.step rfl (fun w₁ h₁ => ?_)
       refine goes_oper_k rfl rfl (by decide) (fun K hK => ?_)
       have hF := k.ldF w₁ h₁
       have hD := k.ldD w₁ h₁
       have hL := k.ldL w₁ h₁
       go_simp
       refine hK _ _ ⟨⟨rfl, rfl, rfl, rfl, fun e he => ?_⟩, ?_⟩
       · have hm := mem_listed he
         simp [go_sem, *] at hm
         try (subst hm; first | exact ⟨_, rfl, k.fx.1⟩ | exact ⟨_, rfl, k.fx.2.1⟩ | exact ⟨_, rfl, k.fx.2.2.1⟩ | exact ⟨_, rfl, k.fx.2.2.2⟩)
       clear hK K hF hD hL h₁))
  refine Goes.step rfl (fun w₁ h₁ => ?_)
  rw [stepG_cond (t := true) rfl]
  simp only [goes_go, ↓reduceIte]
  refine ⟨dq_idle c w₁, ?_⟩
  repeat (first
    | (refine Goes.step rfl (fun w₁ h₁ => ?_); walk_rw; refine ⟨dq_idle c w₁, ?_⟩)
    | (refine Goes.step rfl (fun w₁ h₁ => ?_)
       refine goes_oper_k rfl rfl (by decide) (fun K hK => ?_)
       have hF := k.ldF w₁ h₁
       have hD := k.ldD w₁ h₁
       have hL := k.ldL w₁ h₁
       go_simp
       refine hK _ _ ⟨⟨rfl, rfl, rfl, rfl, fun e he => ?_⟩, ?_⟩
       · have hm := mem_listed he
         simp [go_sem, *] at hm
         try (subst hm; first | exact ⟨_, rfl, k.fx.1⟩ | exact ⟨_, rfl, k.fx.2.1⟩ | exact ⟨_, rfl, k.fx.2.2.1⟩ | exact ⟨_, rfl, k.fx.2.2.2⟩)
       clear hK K hF hD hL h₁))
  refine Goes.step rfl (fun w₁ h₁ => ?_)
  rw [stepG_value (v := vm) (w' := w₁) rfl rfl (by decide) (run_exec_load rfl rfl (k.ldM w₁ h₁))]
  simp only [goes_go]
  refine ⟨⟨rfl, rfl, rfl, rfl, fun e he => k.evM w₁ h₁ e (by have hm := mem_listed he; rw [events_exec_load rfl rfl] at hm; exact hm)⟩, ?_⟩
  repeat (first
    | (refine Goes.step rfl (fun w₁ h₁ => ?_); walk_rw; refine ⟨dq_idle c w₁, ?_⟩)
    | (refine Goes.step rfl (fun w₁ h₁ => ?_)
       refine goes_oper_k rfl rfl (by decide) (fun K hK => ?_)
       have hF := k.ldF w₁ h₁
       have hD := k.ldD w₁ h₁
       have hL := k.ldL w₁ h₁
       go_simp
       refine hK _ _ ⟨⟨rfl, rfl, rfl, rfl, fun e he => ?_⟩, ?_⟩
       · have hm := mem_listed he
         simp [go_sem, *] at hm
         try (subst hm; first | exact ⟨_, rfl, k.fx.1⟩ | exact ⟨_, rfl, k.fx.2.1⟩ | exact ⟨_, rfl, k.fx.2.2.1⟩ | exact ⟨_, rfl, k.fx.2.2.2⟩)
       clear hK K hF hD hL h₁))
  refine Goes.step rfl (fun w₁ h₁ => ?_)
  rw [stepG_enter (f := 50) (args := #[vm, .int .i64 (j : Nat), vl]) (w' := w₁) rfl rfl (by decide) (by simp [execOp, go_sem])]
  rw [listed_nil (by simp [go_sem, callFunc, Try.func50, Try.f50])]
  simp only [goes_go]
  refine ⟨dq_idle c w₁, ?_⟩
  exact Goes.stop fun w₁ _ => ⟨rfl, .int .i64 (j : Nat), .tuple #[.int .i64 (j : Nat), .bool true], .bool true, .int .i64 (j : Nat), v14, v15, v16, rfl⟩
set_option maxRecDepth 100000 in
set_option maxHeartbeats 4000000 in
theorem wCal_on {j : Nat} (hj : j < 26) (h : wCal c bF bM bL bD vm vl j g) : ∃ cal rest, g = G (Frame.enter Try.prog 50 #[vm, .int .i64 (j : Nat), vl] .normal) (cal :: rest) ∧ ∀ v w, ∃ m, Walk Try.prog c false (wSto c bF bM bL bD j v) m (G (cal.finish v) rest) w := by
  obtain ⟨v5, v7, v8, v9, v14, v15, v16, rfl⟩ := h
  refine ⟨_, _, rfl, fun v w => ⟨0 + 30, ?_⟩⟩
  show Goes _ _ _ _ _ _ _ _
  have hfin : (wCall c bF bM bL bD vm vl j v5 v7 v8 v9 v14 v15 v16).finish v = wB.at ⟨#[.pointer (some ⟨bF, 0, none⟩), .pointer (some ⟨bM, 0, none⟩), .pointer (some ⟨bL, 0, none⟩), .pointer (some ⟨c.Fd, 0, none⟩), .pointer (some ⟨bD, 0, none⟩), v5, .chan (some c.C1), v7, v8, v9, .int .i64 (j : Nat), vm, .int .i64 (j : Nat), vl, v, v15, v16], []⟩ (.inRegion wOps3 [5, 6] :: [.inBlock 1, .inLoop wLoop, .inBlock 0, .code wRest]) := by
    unfold wCall
    rw [Frame.finish_at]
    rfl
  rw [hfin]
  simp only [wOps3, wTest, wRest, wLoop, wBody, Try.f49, Option.getD_some]
  have hj' : (j : Int) < 26 := by omega
  refine Goes.step rfl (fun w₁ h₁ => ?_)
  rw [stepG_value (v := .pointer (some ⟨c.Fd, j, none⟩)) (w' := w₁) rfl rfl (by decide) (by simp [execOp, go_sem, hj'])]
  rw [listed_nil (by simp [go_sem, Instr.indexAt]; omega)]
  simp only [goes_go]
  refine ⟨dq_idle c w₁, ?_⟩
  exact Goes.stop fun w₁ _ => ⟨rfl, _, _, _, _, _, _, _, _, _, rfl⟩
set_option maxRecDepth 100000 in
set_option maxHeartbeats 4000000 in
theorem wSto_s {j : Nat} (hj : j < c.K) {a : Option Addr} {l cp : Nat} (h : wSto c bF bM bL bD j (.slice a l cp) g) : isG g ∧ ∃ g', (∀ w, c.Ok w → stepG Try.prog false g w = .go g' (w.setCell ⟨c.Fd, j, none⟩ (.slice a l cp)) #[⟨.cell ⟨c.Fd, j, none⟩, true, false⟩]) ∧ g'.status = .running ∧ ∀ w, ∃ m, Walk Try.prog c false (wRec c bF bM bL bD) m g' w := by
  obtain ⟨v5, v7, v8, v9, v10, v11, v12, v13, v16, rfl⟩ := h
  refine ⟨⟨_, _, rfl⟩, G (wB.at ⟨#[.pointer (some ⟨bF, 0, none⟩), .pointer (some ⟨bM, 0, none⟩), .pointer (some ⟨bL, 0, none⟩), .pointer (some ⟨c.Fd, 0, none⟩), .pointer (some ⟨bD, 0, none⟩), v5, .chan (some c.C1), v7, v8, v9, v10, v11, v12, v13, .slice a l cp, .pointer (some ⟨c.Fd, j, none⟩), v16], []⟩ (.inRegion wOps3 [] :: [.inBlock 1, .inLoop wLoop, .inBlock 0, .code wRest])) [wBot], fun w ok => ?_, rfl, fun w => ⟨0 + 30, ?_⟩⟩
  · obtain ⟨cs, hcs, hsz⟩ := ok.fd
    have hcell : w.cell? ⟨c.Fd, j, none⟩ = some (cs.getD j undef) := by
      unfold World.cell?
      rw [hcs]
      simp [Array.getD_eq_getD_getElem?, show j < cs.size by omega]
    have hfz : w.frozen? ⟨c.Fd, j, none⟩ = false := by
      unfold World.frozen?
      rw [hcs]
      simp
    simp only [wOps3, wTest, wRest, wLoop, wBody, Try.f49, Option.getD_some]
    rw [stepG_none (w' := w.setCell ⟨c.Fd, j, none⟩ (.slice a l cp)) rfl rfl (by decide) (by simp [execOp, go_sem, hcell, hfz])]
    unfold listed
    rw [show Sem.events Try.prog _ w #[] = #[⟨.cell ⟨c.Fd, j, none⟩, true, false⟩] by simp [execOp, go_sem, ev_store_sl, storedEv, hcell, hfz]]
    rw [seen_eq wLoud (by simp)]
    rfl
  · show Goes _ _ _ _ _ _ _ _
    simp only [wOps3, wTest, wRest, wLoop, wBody, Try.f49, Option.getD_some]
    repeat (refine Goes.step rfl (fun w₁ h₁ => ?_); walk_rw; refine ⟨dq_idle c w₁, ?_⟩)
    exact Goes.stop fun w₁ _ => ⟨rfl, _, _, _, _, _, _, _, _, _, _, _, rfl⟩
theorem wSnd_s (h : wSnd c bF bM bL bD g) : isG g ∧ (∀ w, stepG Try.prog false g w = .comm g #[scase c.C2 (.bool true) (.tuple #[])] true .send w #[]) ∧ ∃ q, QuitsIn Try.prog q (Conc.served g undef) := by
  obtain ⟨v5, v6, v7, v8, v9, v10, v11, v12, v13, v14, v15, rfl⟩ := h
  refine ⟨⟨_, _, rfl⟩, fun w => ?_, 4, ?_⟩
  · simp only [wOps4, wRest, wBody, Try.f49, Option.getD_some]
    rw [stepG_comm (cases := #[scase c.C2 (.bool true) (.tuple #[])]) (blocking := true) (shape := .send) (w' := w) rfl rfl (by decide) (by simp [execOp, scase, go_sem])]
    rw [listed_nil (by simp [go_sem])]
  · rw [served_at (o := wOps4.getD 1 default) rfl]
    show QuitsIn Try.prog 4 (G (wB.at ⟨#[.pointer (some ⟨bF, 0, none⟩), .pointer (some ⟨bM, 0, none⟩), .pointer (some ⟨bL, 0, none⟩), .pointer (some ⟨c.Fd, 0, none⟩), .pointer (some ⟨bD, 0, none⟩), v5, v6, v7, v8, v9, v10, v11, v12, v13, v14, v15, .chan (some c.C2)], []⟩ [.inRegion wOps4 []]) [wBot])
    refine .inr ⟨rfl, _, fun w => stepG_region_end, ?_⟩
    refine .inr ⟨rfl, _, fun w => stepG_end, ?_⟩
    refine .inr ⟨rfl, G wBot [], fun w => ?_, ?_⟩
    · simp [G, stepG, unwind, doReturn, results, Frame.at, wB, wBot, Try.func49, Try.f49, seen, GStep.after, goexitEntry]
    refine .inr ⟨rfl, { G wBot [] with status := .finished }, fun w => ?_, rfl⟩
    simp [G, stepG, unwind, wBot, goexitEntry, Frame.catches]
    rfl
/-- The call that the go statement holds. -/
def wGo (c : Cst) (bF bM bL bD : Nat) : Deferred := { target := .fn (.func 49) #[.pointer (some ⟨bF, 0, none⟩), .pointer (some ⟨bM, 0, none⟩), .pointer (some ⟨bL, 0, none⟩), .pointer (some ⟨c.Fd, 0, none⟩), .pointer (some ⟨bD, 0, none⟩)], args := #[] }
theorem wBorn_step (w : World) : stepG Try.prog false (born Try.prog (wGo c bF bM bL bD)) w =
    .go (G (wB.at ⟨#[.pointer (some ⟨bF, 0, none⟩), .pointer (some ⟨bM, 0, none⟩), .pointer (some ⟨bL, 0, none⟩), .pointer (some ⟨c.Fd, 0, none⟩), .pointer (some ⟨bD, 0, none⟩), undef, undef, undef, undef, undef, undef, undef, undef, undef, undef, undef, undef], []⟩ [.code wBody]) [wBot]) w #[] := by
  simp [born, wGo, stepG, unwind, callDeferred, invoke, callFunc, Try.func49, Try.f49, seen, GStep.after, G, Frame.enter, Frame.at, wB, wBot, wBody]
set_option maxRecDepth 100000 in
set_option maxHeartbeats 4000000 in
theorem wBorn (k : WkP c bF bM bL bD vm vl) : ∃ m, Walk Try.prog c false (wRec c bF bM bL bD) m (born Try.prog (wGo c bF bM bL bD)) w := by
  refine ⟨(0 + 30) + 1, Goes.step rfl fun w₁ _ => ?_⟩
  rw [wBorn_step]
  refine ⟨dq_idle c w₁, ?_⟩
  simp only [wBody, Try.f49, Option.getD_some]
  repeat (first
    | (refine Goes.step rfl (fun w₁ h₁ => ?_); walk_rw; refine ⟨dq_idle c w₁, ?_⟩)
    | (refine Goes.step rfl (fun w₁ h₁ => ?_)
       refine goes_oper_k rfl rfl (by decide) (fun K hK => ?_)
       have hF := k.ldF w₁ h₁
       have hD := k.ldD w₁ h₁
       have hL := k.ldL w₁ h₁
       go_simp
       refine hK _ _ ⟨⟨rfl, rfl, rfl, rfl, fun e he => ?_⟩, ?_⟩
       · have hm := mem_listed he
         simp [go_sem, *] at hm
         try (subst hm; first | exact ⟨_, rfl, k.fx.1⟩ | exact ⟨_, rfl, k.fx.2.1⟩ | exact ⟨_, rfl, k.fx.2.2.1⟩ | exact ⟨_, rfl, k.fx.2.2.2⟩)
       clear hK K hF hD hL h₁))
  exact Goes.stop fun w₁ _ => ⟨rfl, _, _, _, _, _, _, _, _, _, _, _, rfl⟩
end
end Go.Proofs.Ythfjkhmedpilnaa.Cs
