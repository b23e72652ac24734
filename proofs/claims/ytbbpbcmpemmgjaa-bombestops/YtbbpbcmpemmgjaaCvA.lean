/-
  The worker of chart.Every: its walks between the stops.
-/
import Derived.Test.YtbbpbcmpemmgjaaJn14
import Derived.Test.YtbbpbcmpemmgjaaChecked
import Derived.Conc.WalkWords
import Derived.Conc.EventLaws
import Derived.Conc.Own5
import Derived.Conc.CompanyWords
import Derived.KernelRfl
namespace Go.Proofs.Ytbbpbcmpemmgjaa.Hb
open Go.Conc Cs
noncomputable def wBody : Code := Try.f65.body.getD .skip
noncomputable def wLoop : Code := match wBody with | .seq (.seq _ (.block _ (.loop c))) _ => c | _ => .skip
noncomputable def wRest : Code := match wBody with | .seq _ r => r | _ => .skip
noncomputable def wTest : Code := match wLoop with | .seq _ r => r | _ => .skip
noncomputable def wOps1 : Array Oper := match wLoop with | .seq (.region _ o _) _ => o | _ => #[]
noncomputable def wOps3 : Array Oper := match wTest with | .seq _ (.block _ (.seq _ (.region _ o _))) => o | _ => #[]
noncomputable def wOps4 : Array Oper := match wRest with | .region _ o _ => o | _ => #[]
def wB : Frame := { (default : Frame) with fn := 65, kind := .deferred }
noncomputable def wBot : Frame := { (default : Frame) with fn := Try.prog.funcs.size, defers := [], mode := .panicking [goexitEntry] }
theorem wLoud : (Try.prog.funcs[wB.fn]?).any (·.norace) = false := by kernel_rfl
theorem dq_idle (c : Cst) (w : World) : DQ c w w #[] := ⟨rfl, rfl, rfl, rfl, fun e he => by simp at he⟩
theorem served_at {b : Frame} {a : Act} {ops : Array Oper} {i : Nat} {rest : List Nat} {k : List Item} {cs : List Frame} {v : Value} {o : Oper} (ho : ops[i]? = some o) : Conc.served (G (b.at a (.inRegion ops (i :: rest) :: k)) cs) v = G (b.at (a.put o.dst v) (.inRegion ops rest :: k)) cs := by
  have hfin : (b.at a (.inRegion ops (i :: rest) :: k)).finish v = b.at (a.put o.dst v) (.inRegion ops rest :: k) := by rw [Frame.finish_at, ho]; rfl
  show G ((b.at a (.inRegion ops (i :: rest) :: k)).finish v) cs = _
  rw [hfin]
theorem run_exec_load {P : Program} {ρ : Operand → Value} {o : Oper} {ty : TypeId} {x : Operand} {p v : Value} {w : World} (ho : o.op = .load ty x) (hx : ρ x = p) (h : (Instr.loadAt ty p).run P w = .ok v w) : (execOp ρ o).run P w = .ok (.value v) w := by
  unfold execOp
  simp only [ho, hx]
  generalize Instr.loadAt ty p = s at h ⊢
  simp [go_sem, h]
theorem events_exec_load {P : Program} {ρ : Operand → Value} {o : Oper} {ty : TypeId} {x : Operand} {p : Value} {w : World} (ho : o.op = .load ty x) (hx : ρ x = p) : (execOp ρ o).events P w #[] = (Instr.loadAt ty p).events P w #[] := by
  unfold execOp
  simp only [ho, hx]
  generalize Instr.loadAt ty p = s
  simp [go_sem]
theorem ev_store_sl (P : Program) (w : World) (es : Array Event) (ad : Addr) (m : Mode) (b : Option Addr) (l cp : Nat) : (store ad (.slice b l cp) m).events P w es = storedEv P w es ad (.slice b l cp) m := events_store P w es ad _ m rfl
/-- The boxes that a worker reads. -/
structure WkP (c : Cst) (bF bM bL bD : Nat) (vm vl : Value) : Prop where
  fx : c.Fix bF ∧ c.Fix bM ∧ c.Fix bL ∧ c.Fix bD
  ldF : ∀ w, c.Ok w → w.cell? ⟨bF, 0, none⟩ = some (.chan (some c.C1))
  ldD : ∀ w, c.Ok w → w.cell? ⟨bD, 0, none⟩ = some (.chan (some c.C2))
  ldL : ∀ w, c.Ok w → w.cell? ⟨bL, 0, none⟩ = some vl
  ldM : ∀ w, c.Ok w → (Instr.loadAt 27 (.pointer (some ⟨bM, 0, none⟩))).run Try.prog w = .ok vm w
  evM : ∀ w, c.Ok w → ∀ e ∈ (Instr.loadAt 27 (.pointer (some ⟨bM, 0, none⟩))).events Try.prog w #[], ∃ a : Addr, e = ⟨.cell a, false, false⟩ ∧ c.Fix a.block
def wRec (c : Cst) (bF bM bL bD : Nat) (g : Goroutine) : Prop := ∃ v5 v7 v8 v9 v10 v11 v12 v13 v14 v15 v16 : Value, g = G (wB.at ⟨#[.pointer (some ⟨bF, 0, none⟩), .pointer (some ⟨bM, 0, none⟩), .pointer (some ⟨bL, 0, none⟩), .pointer (some ⟨c.Fd, 0, none⟩), .pointer (some ⟨bD, 0, none⟩), v5, .chan (some c.C1), v7, v8, v9, v10, v11, v12, v13, v14, v15, v16], []⟩ [.inRegion wOps1 [0, 1], .code wTest, .inLoop wLoop, .inBlock 0, .code wRest]) [wBot]
def wSnd (c : Cst) (bF bM bL bD : Nat) (g : Goroutine) : Prop := ∃ v5 v6 v7 v8 v9 v10 v11 v12 v13 v14 v15 : Value, g = G (wB.at ⟨#[.pointer (some ⟨bF, 0, none⟩), .pointer (some ⟨bM, 0, none⟩), .pointer (some ⟨bL, 0, none⟩), .pointer (some ⟨c.Fd, 0, none⟩), .pointer (some ⟨bD, 0, none⟩), v5, v6, v7, v8, v9, v10, v11, v12, v13, v14, v15, .chan (some c.C2)], []⟩ [.inRegion wOps4 [1]]) [wBot]
noncomputable def wCall (c : Cst) (bF bM bL bD : Nat) (vm vl : Value) (k : Nat) (v5 v7 v8 v9 v14 v15 v16 : Value) : Frame := wB.at ⟨#[.pointer (some ⟨bF, 0, none⟩), .pointer (some ⟨bM, 0, none⟩), .pointer (some ⟨bL, 0, none⟩), .pointer (some ⟨c.Fd, 0, none⟩), .pointer (some ⟨bD, 0, none⟩), v5, .chan (some c.C1), v7, v8, v9, .int .i64 (k : Nat), vm, .int .i64 (k : Nat), vl, v14, v15, v16], []⟩ (.inRegion wOps3 [4, 5, 6] :: [.inBlock 1, .inLoop wLoop, .inBlock 0, .code wRest])
def wCal (c : Cst) (bF bM bL bD : Nat) (vm vl : Value) (k : Nat) (g : Goroutine) : Prop := ∃ v5 v7 v8 v9 v14 v15 v16 : Value, g = G (Frame.enter Try.prog 66 #[vm, .int .i64 (k : Nat), vl] .normal) [wCall c bF bM bL bD vm vl k v5 v7 v8 v9 v14 v15 v16, wBot]
def wSto (c : Cst) (bF bM bL bD : Nat) (k : Nat) (v : Value) (g : Goroutine) : Prop := ∃ v5 v7 v8 v9 v10 v11 v12 v13 v16 : Value, g = G (wB.at ⟨#[.pointer (some ⟨bF, 0, none⟩), .pointer (some ⟨bM, 0, none⟩), .pointer (some ⟨bL, 0, none⟩), .pointer (some ⟨c.Fd, 0, none⟩), .pointer (some ⟨bD, 0, none⟩), v5, .chan (some c.C1), v7, v8, v9, v10, v11, v12, v13, v, .pointer (some ⟨c.Fd, k, none⟩), v16], []⟩ (.inRegion wOps3 [6] :: [.inBlock 1, .inLoop wLoop, .inBlock 0, .code wRest])) [wBot]
section
variable {c : Cst} {bF bM bL bD : Nat} {vm vl : Value} {g : Goroutine} {w : World}
theorem wRec_s (h : wRec c bF bM bL bD g) : isG g ∧ ∀ w, stepG Try.prog false g w = .comm g #[rcase c.C1 (.int .i64 0)] true (.recv true) w #[] := by
  obtain ⟨v5, v7, v8, v9, v10, v11, v12, v13, v14, v15, v16, rfl⟩ := h
  refine ⟨⟨_, _, rfl⟩, fun w => ?_⟩
  simp only [wOps1, wLoop, wBody, Try.f65, Option.getD_some]
  rw [stepG_comm (cases := #[rcase c.C1 (.int .i64 0)]) (blocking := true) (shape := .recv true) (w' := w) rfl rfl (by decide) (by simp [execOp, rcase, go_sem])]
  rw [listed_nil (by simp [go_sem])]
set_option maxRecDepth 100000 in
set_option maxHeartbeats 4000000 in
theorem wRec_end (k : WkP c bF bM bL bD vm vl) (h : wRec c bF bM bL bD g) : ∃ m, Walk Try.prog c false (wSnd c bF bM bL bD) m (Conc.served g (.tuple #[.int .i64 0, .bool false])) w := by
  obtain ⟨v5, v7, v8, v9, v10, v11, v12, v13, v14, v15, v16, rfl⟩ := h
  refine ⟨0 + 30, ?_⟩
  show Goes _ _ _ _ _ _ _ _
  rw [served_at (o := wOps1.getD 0 default) rfl]
  simp only [wOps1, wTest, wRest, wLoop, wBody, Try.f65, Option.getD_some]
  repeat (first
    | (refine Goes.step rfl (fun w₁ h₁ => ?_); walk_rw; refine ⟨dq_idle c w₁, ?_⟩)
    | (refine Goes.step rfl (fun w₁ h₁ => ?_)
       refine goes_oper_k rfl rfl (by decide) (fun K hK => ?_)
       have hF := k.ldF w₁ h₁
       have hD := k.ldD w₁ h₁
       have hL := k.ldL w₁ h₁
       go_simp
       refine hK _ _ ⟨⟨rfl, rfl, rfl, rfl, fun e he => ?_⟩, ?_⟩
       · have hm := mem_listed he
         simp [go_sem, *] at hm
         try (subst hm; first | exact ⟨_, rfl, k.fx.1⟩ | exact ⟨_, rfl, k.fx.2.1⟩ | exact ⟨_, rfl, k.fx.2.2.1⟩ | exact ⟨_, rfl, k.fx.2.2.2⟩)
       clear hK K hF hD hL h₁))
  refine Goes.step rfl (fun w₁ h₁ => ?_)
  rw [stepG_cond (t := false) rfl]
  simp only [goes_go, Bool.false_eq_true, ↓reduceIte]
  refine ⟨dq_idle c w₁, ?_⟩
  refine Goes.step rfl (fun w₁ h₁ => ?_)
  apply goes_exit
  · rfl
  refine ⟨dq_idle c w₁, ?_⟩
  repeat (first
    | (refine Goes.step rfl (fun w₁ h₁ => ?_); walk_rw; refine ⟨dq_idle c w₁, ?_⟩)
    | (refine Goes.step rfl (fun w₁ h₁ => ?_)
       refine goes_oper_k rfl rfl (by decide) (fun K hK => ?_)
       have hF := k.ldF w₁ h₁
       have hD := k.ldD w₁ h₁
       have hL := k.ldL w₁ h₁
       go_simp
       refine hK _ _ ⟨⟨rfl, rfl, rfl, rfl, fun e he => ?_⟩, ?_⟩
       · have hm := mem_listed he
         simp [go_sem, *] at hm
         try (subst hm; first | exact ⟨_, rfl, k.fx.1⟩ | exact ⟨_, rfl, k.fx.2.1⟩ | exact ⟨_, rfl, k.fx.2.2.1⟩ | exact ⟨_, rfl, k.fx.2.2.2⟩)
       clear hK K hF hD hL h₁))
  exact Goes.stop fun w₁ _ => ⟨rfl, _, _, _, _, _, _, _, _, _, _, _, rfl⟩
set_option maxRecDepth 100000 in
set_option maxHeartbeats 4000000 in
theorem wRec_job (k : WkP c bF bM bL bD vm vl) (h : wRec c bF bM bL bD g) (j : Nat) : ∃ m, Walk Try.prog c false (wCal c bF bM bL bD vm vl j) m (Conc.served g (.tuple #[.int .i64 (j : Nat), .bool true])) w := by
  obtain ⟨v5, v7, v8, v9, v10, v11, v12, v13, v14, v15, v16, rfl⟩ := h
  refine ⟨0 + 30, ?_⟩
  show Goes _ _ _ _ _ _ _ _
  rw [served_at (o := wOps1.getD 0 default) rfl]
  simp only [wOps1, wTest, wRest, wLoop, wBody, Try.f65, Option.getD_some]
  repeat (first
    | (refine Goes.step rfl (fun w₁ h₁ => ?_); walk_rw; refine ⟨dq_idle c w₁, ?_⟩)
    | (refine Goes.step rfl (fun w₁ h₁ => ?_)
       refine goes_oper_k rfl rfl (by decide) (fun K hK => ?_)
       have hF := k.ldF w₁ h₁
       have hD := k.ldD w₁ h₁
       have hL := k.ldL w₁ h₁
       go_simp
       refine hK _ _ ⟨⟨rfl, rfl, rfl, rfl, fun e he => ?_⟩, ?_⟩
       · have hm := mem_listed he
         simp [go_sem, *] at hm
         try (subst hm; first | exact ⟨_, rfl, k.fx.1⟩ | exact ⟨_, rfl, k.fx.2.1⟩ | exact ⟨_, rfl, k.fx.2.2.1⟩ | exact ⟨_, rfl, k.fx.2.2.2⟩)
       clear hK K hF hD hL h₁))
  refine Goes.step rfl (fun w₁ h₁ => ?_)
  rw [stepG_cond (t := true) rfl]
  simp only [goes_go, ↓reduceIte]
  refine ⟨dq_idle c w₁, ?_⟩
  repeat (first
    | (refine Goes.step rfl (fun w₁ h₁ => ?_); walk_rw; refine ⟨dq_idle c w₁, ?_⟩)
    | (refine Goes.step rfl (fun w₁ h₁ => ?_)
       refine goes_oper_k rfl rfl (by decide) (fun K hK => ?_)
       have hF := k.ldF w₁ h₁
       have hD := k.ldD w₁ h₁
       have hL := k.ldL w₁ h₁
       go_simp
       refine hK _ _ ⟨⟨rfl, rfl, rfl, rfl, fun e he => ?_⟩, ?_⟩
       · have hm := mem_listed he
         simp [go_sem, *] at hm
         try (subst hm; first | exact ⟨_, rfl, k.fx.1⟩ | exact ⟨_, rfl, k.fx.2.1⟩ | exact ⟨_, rfl, k.fx.2.2.1⟩ | exact ⟨_, rfl, k.fx.2.2.2⟩)
       clear hK K hF hD hL h₁))
  refine Goes.step rfl (fun w₁ h₁ => ?_)
  rw [stepG_value (v := vm) (w' := w₁) rfl rfl (by decide) (run_exec_load rfl rfl (k.ldM w₁ h₁))]
  simp only [goes_go]
  refine ⟨⟨rfl, rfl, rfl, rfl, fun e he => k.evM w₁ h₁ e (by have hm := mem_listed he; rw [events_exec_load rfl rfl] at hm; exact hm)⟩, ?_⟩
  repeat (first
    | (refine Goes.step rfl (fun w₁ h₁ => ?_); walk_rw; refine ⟨dq_idle c w₁, ?_⟩)
    | (refine Goes.step rfl (fun w₁ h₁ => ?_)
       refine goes_oper_k rfl rfl (by decide) (fun K hK => ?_)
       have hF := k.ldF w₁ h₁
       have hD := k.ldD w₁ h₁
       have hL := k.ldL w₁ h₁
       go_simp
       refine hK _ _ ⟨⟨rfl, rfl, rfl, rfl, fun e he => ?_⟩, ?_⟩
       · have hm := mem_listed he
         simp [go_sem, *] at hm
         try (subst hm; first | exact ⟨_, rfl, k.fx.1⟩ | exact ⟨_, rfl, k.fx.2.1⟩ | exact ⟨_, rfl, k.fx.2.2.1⟩ | exact ⟨_, rfl, k.fx.2.2.2⟩)
       clear hK K hF hD hL h₁))
  refine Goes.step rfl (fun w₁ h₁ => ?_)
  rw [stepG_enter (f := 66) (args := #[vm, .int .i64 (j : Nat), vl]) (w' := w₁) rfl rfl (by decide) (by simp [execOp, go_sem])]
  rw [listed_nil (by simp [go_sem, callFunc, Try.func66, Try.f66])]
  simp only [goes_go]
  refine ⟨dq_idle c w₁, ?_⟩
  exact Goes.stop fun w₁ _ => ⟨rfl, .int .i64 (j : Nat), .tuple #[.int .i64 (j : Nat), .bool true], .bool true, .int .i64 (j : Nat), v14, v15, v16, rfl⟩
set_option maxRecDepth 100000 in
set_option maxHeartbeats 4000000 in
theorem wCal_on {j : Nat} (hj : j < 26) (h : wCal c bF bM bL bD vm vl j g) : ∃ cal rest, g = G (Frame.enter Try.prog 66 #[vm, .int .i64 (j : Nat), vl] .normal) (cal :: rest) ∧ ∀ v w, ∃ m, Walk Try.prog c false (wSto c bF bM bL bD j v) m (G (cal.finish v) rest) w := by
  obtain ⟨v5, v7, v8, v9, v14, v15, v16, rfl⟩ := h
  refine ⟨_, _, rfl, fun v w => ⟨0 + 30, ?_⟩⟩
  show Goes _ _ _ _ _ _ _ _
  have hfin : (wCall c bF bM bL bD vm vl j v5 v7 v8 v9 v14 v15 v16).finish v = wB.at ⟨#[.pointer (some ⟨bF, 0, none⟩), .pointer (some ⟨bM, 0, none⟩), .pointer (some ⟨bL, 0, none⟩), .pointer (some ⟨c.Fd, 0, none⟩), .pointer (some ⟨bD, 0, none⟩), v5, .chan (some c.C1), v7, v8, v9, .int .i64 (j : Nat), vm, .int .i64 (j : Nat), vl, v, v15, v16], []⟩ (.inRegion wOps3 [5, 6] :: [.inBlock 1, .inLoop wLoop, .inBlock 0, .code wRest]) := by
    unfold wCall
    rw [Frame.finish_at]
    rfl
  rw [hfin]
  simp only [wOps3, wTest, wRest, wLoop, wBody, Try.f65, Option.getD_some]
  have hj' : (j : Int) < 26 := by omega
  refine Goes.step rfl (fun w₁ h₁ => ?_)
  rw [stepG_value (v := .pointer (some ⟨c.Fd, j, none⟩)) (w' := w₁) rfl rfl (by decide) (by simp [execOp, go_sem, hj'])]
  rw [listed_nil (by simp [go_sem, Instr.indexAt]; omega)]
  simp only [goes_go]
  refine ⟨dq_idle c w₁, ?_⟩
  exact Goes.stop fun w₁ _ => ⟨rfl, _, _, _, _, _, _, _, _, _, rfl⟩
set_option maxRecDepth 100000 in
set_option maxHeartbeats 4000000 in
theorem wSto_s {j : Nat} (hj : j < c.K) {a : Option Addr} {l cp : Nat} (h : wSto c bF bM bL bD j (.slice a l cp) g) : isG g ∧ ∃ g', (∀ w, c.Ok w → stepG Try.prog false g w = .go g' (w.setCell ⟨c.Fd, j, none⟩ (.slice a l cp)) #[⟨.cell ⟨c.Fd, j, none⟩, true, false⟩]) ∧ g'.status = .running ∧ ∀ w, ∃ m, Walk Try.prog c false (wRec c bF bM bL bD) m g' w := by
  obtain ⟨v5, v7, v8, v9, v10, v11, v12, v13, v16, rfl⟩ := h
  refine ⟨⟨_, _, rfl⟩, G (wB.at ⟨#[.pointer (some ⟨bF, 0, none⟩), .pointer (some ⟨bM, 0, none⟩), .pointer (some ⟨bL, 0, none⟩), .pointer (some ⟨c.Fd, 0, none⟩), .pointer (some ⟨bD, 0, none⟩), v5, .chan (some c.C1), v7, v8, v9, v10, v11, v12, v13, .slice a l cp, .pointer (some ⟨c.Fd, j, none⟩), v16], []⟩ (.inRegion wOps3 [] :: [.inBlock 1, .inLoop wLoop, .inBlock 0, .code wRest])) [wBot], fun w ok => ?_, rfl, fun w => ⟨0 + 30, ?_⟩⟩
  · obtain ⟨cs, hcs, hsz⟩ := ok.fd
    have hcell : w.cell? ⟨c.Fd, j, none⟩ = some (cs.getD j undef) := by
      unfold World.cell?
      rw [hcs]
      simp [Array.getD_eq_getD_getElem?, show j < cs.size by omega]
    have hfz : w.frozen? ⟨c.Fd, j, none⟩ = false := by
      unfold World.frozen?
      rw [hcs]
      simp
    simp only [wOps3, wTest, wRest, wLoop, wBody, Try.f65, Option.getD_some]
    rw [stepG_none (w' := w.setCell ⟨c.Fd, j, none⟩ (.slice a l cp)) rfl rfl (by decide) (by simp [execOp, go_sem, hcell, hfz])]
    unfold listed
    rw [show Sem.events Try.prog _ w #[] = #[⟨.cell ⟨c.Fd, j, none⟩, true, false⟩] by simp [execOp, go_sem, ev_store_sl, storedEv, hcell, hfz]]
    rw [seen_eq wLoud (by simp)]
    rfl
  · show Goes _ _ _ _ _ _ _ _
    simp only [wOps3, wTest, wRest, wLoop, wBody, Try.f65, Option.getD_some]
    repeat (refine Goes.step rfl (fun w₁ h₁ => ?_); walk_rw; refine ⟨dq_idle c w₁, ?_⟩)
    exact Goes.stop fun w₁ _ => ⟨rfl, _, _, _, _, _, _, _, _, _, _, _, rfl⟩
theorem wSnd_s (h : wSnd c bF bM bL bD g) : isG g ∧ (∀ w, stepG Try.prog false g w = .comm g #[scase c.C2 (.bool true) (.tuple #[])] true .send w #[]) ∧ ∃ q, QuitsIn Try.prog q (Conc.served g undef) := by
  obtain ⟨v5, v6, v7, v8, v9, v10, v11, v12, v13, v14, v15, rfl⟩ := h
  refine ⟨⟨_, _, rfl⟩, fun w => ?_, 4, ?_⟩
  · simp only [wOps4, wRest, wBody, Try.f65, Option.getD_some]
    rw [stepG_comm (cases := #[scase c.C2 (.bool true) (.tuple #[])]) (blocking := true) (shape := .send) (w' := w) rfl rfl (by decide) (by simp [execOp, scase, go_sem])]
    rw [listed_nil (by simp [go_sem])]
  · rw [served_at (o := wOps4.getD 1 default) rfl]
    show QuitsIn Try.prog 4 (G (wB.at ⟨#[.pointer (some ⟨bF, 0, none⟩), .pointer (some ⟨bM, 0, none⟩), .pointer (some ⟨bL, 0, none⟩), .pointer (some ⟨c.Fd, 0, none⟩), .pointer (some ⟨bD, 0, none⟩), v5, v6, v7, v8, v9, v10, v11, v12, v13, v14, v15, .chan (some c.C2)], []⟩ [.inRegion wOps4 []]) [wBot])
    refine .inr ⟨rfl, _, fun w => stepG_region_end, ?_⟩
    refine .inr ⟨rfl, _, fun w => stepG_end, ?_⟩
    refine .inr ⟨rfl, G wBot [], fun w => ?_, ?_⟩
    · simp [G, stepG, unwind, doReturn, results, Frame.at, wB, wBot, Try.func65, Try.f65, seen, GStep.after, goexitEntry]
    refine .inr ⟨rfl, { G wBot [] with status := .finished }, fun w => ?_, rfl⟩
    simp [G, stepG, unwind, wBot, goexitEntry, Frame.catches]
    rfl
/-- The call that the go statement holds. -/
def wGo (c : Cst) (bF bM bL bD : Nat) : Deferred := { target := .fn (.func 65) #[.pointer (some ⟨bF, 0, none⟩), .pointer (some ⟨bM, 0, none⟩), .pointer (some ⟨bL, 0, none⟩), .pointer (some ⟨c.Fd, 0, none⟩), .pointer (some ⟨bD, 0, none⟩)], args := #[] }
theorem wBorn_step (w : World) : stepG Try.prog false (born Try.prog (wGo c bF bM bL bD)) w =
    .go (G (wB.at ⟨#[.pointer (some ⟨bF, 0, none⟩), .pointer (some ⟨bM, 0, none⟩), .pointer (some ⟨bL, 0, none⟩), .pointer (some ⟨c.Fd, 0, none⟩), .pointer (some ⟨bD, 0, none⟩), undef, undef, undef, undef, undef, undef, undef, undef, undef, undef, undef, undef], []⟩ [.code wBody]) [wBot]) w #[] := by
  simp [born, wGo, stepG, unwind, callDeferred, invoke, callFunc, Try.func65, Try.f65, seen, GStep.after, G, Frame.enter, Frame.at, wB, wBot, wBody]
set_option maxRecDepth 100000 in
set_option maxHeartbeats 4000000 in
theorem wBorn (k : WkP c bF bM bL bD vm vl) : ∃ m, Walk Try.prog c false (wRec c bF bM bL bD) m (born Try.prog (wGo c bF bM bL bD)) w := by
  refine ⟨(0 + 30) + 1, Goes.step rfl fun w₁ _ => ?_⟩
  rw [wBorn_step]
  refine ⟨dq_idle c w₁, ?_⟩
  simp only [wBody, Try.f65, Option.getD_some]
  repeat (first
    | (refine Goes.step rfl (fun w₁ h₁ => ?_); walk_rw; refine ⟨dq_idle c w₁, ?_⟩)
    | (refine Goes.step rfl (fun w₁ h₁ => ?_)
       refine goes_oper_k rfl rfl (by decide) (fun K hK => ?_)
       have hF := k.ldF w₁ h₁
       have hD := k.ldD w₁ h₁
       have hL := k.ldL w₁ h₁
       go_simp
       refine hK _ _ ⟨⟨rfl, rfl, rfl, rfl, fun e he => ?_⟩, ?_⟩
       · have hm := mem_listed he
         simp [go_sem, *] at hm
         try (subst hm; first | exact ⟨_, rfl, k.fx.1⟩ | exact ⟨_, rfl, k.fx.2.1⟩ | exact ⟨_, rfl, k.fx.2.2.1⟩ | exact ⟨_, rfl, k.fx.2.2.2⟩)
       clear hK K hF hD hL h₁))
  exact Goes.stop fun w₁ _ => ⟨rfl, _, _, _, _, _, _, _, _, _, _, _, rfl⟩
end
end Go.Proofs.Ytbbpbcmpemmgjaa.Hb
