/-
  Several texts, joined: CxH, CxI.
-/
import Derived.Test.YtpdemelchhkfaaaJn32
import Derived.Test.YtpdemelchhkfaaaCxB
import Derived.Conc.Own5
/-
  tele.together$1: the worker: from its loop's head to the counter, and on from there.
-/
namespace Go.Proofs.Ytpdemelchhkfaaa.Cs
open Go.Conc Go.RowKit Go.Conc.Lib Go.ConcR.Gen Go.ConcN.Gen
open Go.ConcR (KK WgAt wgBlock stA smA rd wr mk DC0)
noncomputable def tBody : Code := Try.f46.body.getD .skip
noncomputable def tLoop : Code := match tBody with | .seq _ (.block _ (.loop c)) => c | _ => .skip
def tB : Frame := { (default : Frame) with fn := 46, kind := .deferred }
noncomputable def tBot : Frame := { (default : Frame) with fn := Try.prog.funcs.size, defers := [], mode := .panicking [goexitEntry] }
theorem dq_idle (c : Cst) (w : World) : DQ c w w #[] := ⟨rfl, rfl, rfl, rfl, fun e he => by simp at he⟩
/-- The head of its loop. -/
def tAn (c : Cst) (bN bL : Nat) (g : Goroutine) : Prop := ∃ v4 v5 v6 v7 v8 v9 v10 v11 v12 : Value, g = G (tB.at ⟨#[.pointer (some ⟨c.C2, 0, none⟩), .pointer (some ⟨c.C1, 0, none⟩), .pointer (some ⟨bN, 0, none⟩), .pointer (some ⟨bL, 0, none⟩), v4, v5, v6, v7, v8, v9, v10, v11, v12], [dcall 47 #[.pointer (some ⟨c.C2, 0, none⟩)]]⟩ [.code tLoop, .inLoop tLoop, .inBlock 0]) [tBot]
def xTak (P : Program) (c : Cst) (tW tT : TypeId) (F : Nat → Value) (Nx : Goroutine → Prop) (g : Goroutine) : Prop := isG g ∧ ∀ k : Nat, k ≤ 1099511629000 → ∃ g', (∀ w, Ok2 c tW tT w → TkAt c tT w k → stepG P false g w = .go g' (w.setCell ⟨c.C1, 0, none⟩ (.int .i64 ((k + 1 : Nat) : Int))) #[rd ⟨c.C1, 0, none⟩, wr ⟨c.C1, 0, none⟩]) ∧ On P c tW tT false (fun g => if k < c.K then xCal P c tW tT F Nx k g else xRel P c tW tT g) g'
section
variable {c : Cst} {tT : TypeId} {F : Nat → Value} {bN bL bS bB bC : Nat} {vs : Value} {xb : Option Addr} {nb cb : Nat} {g : Goroutine} {w : World}
theorem tk_cell {k : Nat} (h : TkAt c tT w k) : w.cell? ⟨c.C1, 0, none⟩ = some (.int .i64 (k : Nat)) := by
  unfold TkAt at h
  unfold World.cell?
  rw [h]
  rfl
theorem tk_thaw {k : Nat} (h : TkAt c tT w k) : w.frozen? ⟨c.C1, 0, none⟩ = false := by
  unfold TkAt at h
  unfold World.frozen?
  rw [h]
  simp
set_option maxRecDepth 100000 in
set_option maxHeartbeats 8000000 in
theorem t_round (p : TeP c F bN bL bS bB bC vs xb nb cb) (h : tAn c bN bL g) : ∀ w, Ok2 c wgL.tWg tT w → Walk2 Try.prog c wgL.tWg tT false (xTak Try.prog c wgL.tWg tT F (tAn c bN bL)) 60 g w := by
  intro w hK
  obtain ⟨v4, v5, v6, v7, v8, v9, v10, v11, v12, rfl⟩ := h
  refine goes_weak (dq_of0 c) (fun _ _ x => x) ?_
  simp only [tLoop, tBody, Try.f46, Option.getD_some]
  repeat (first
    | u_c stepG_seq ok_rely hK
    | u_c stepG_region_end ok_rely hK
    | u_reg ok_rely hK
    | u_cond true ok_rely hK
    | u_cond false ok_rely hK
    | u_c stepG_skip ok_rely hK
    | u_c stepG_block ok_rely hK
    | u_c stepG_loop ok_rely hK
    | u_c stepG_inBlock ok_rely hK
    | u_c stepG_inLoop ok_rely hK
    | (rw [at_op]; u_skip ok_rely hK)
    | (rw [at_op]; u_op ok_rely hK))
  u_call Try.func48 (by kernel_rfl) Try.f48 ok_rely hK
  repeat (first
    | u_c stepG_seq ok_rely hK
    | u_c stepG_region_end ok_rely hK
    | u_reg ok_rely hK
    | u_cond true ok_rely hK
    | u_cond false ok_rely hK
    | u_c stepG_skip ok_rely hK
    | u_c stepG_block ok_rely hK
    | u_c stepG_loop ok_rely hK
    | u_c stepG_inBlock ok_rely hK
    | u_c stepG_inLoop ok_rely hK
    | (rw [at_op]; u_skip ok_rely hK)
    | (rw [at_op]; u_op ok_rely hK))
  refine Goes.stop (fun w₁ h₁ => ?_)
  clear h₁ hK
  refine ⟨rfl, ⟨_, _, rfl⟩, fun k hk => ?_⟩
  have eS : IntKind.i64.wrap ((k : Int) + 1) = ((k + 1 : Nat) : Int) := by rw [IntKind.wrap_i64]; omega
  refine ⟨_, fun w _ ht => (stepG_add_atomic rfl rfl (by k_ne) rfl Try.func72 (by kernel_rfl) (by kernel_rfl) (by kernel_rfl) .i64 (by kernel_rfl) rfl rfl (tk_cell ht) (tk_thaw ht)).trans (by rw [eS]; rfl), ?_⟩
  clear eS
  have e2 : IntKind.i64.wrap (k : Int) = (k : Int) := by rw [IntKind.wrap_i64]; omega
  have e3 : IntKind.i64.wrap ((k : Int) + 1 - 1) = (k : Int) := by rw [IntKind.wrap_i64]; omega
  by_cases hlt : k < c.K
  · simp only [if_pos hlt]
    have q1 : decide ((c.K : Int) ≤ (k : Int)) = false := by simp; omega
    have q2 : decide (c.K ≤ k) = false := by simp; omega
    refine ⟨rfl, fun w hK => ⟨0 + 60, ?_⟩⟩
    show Goes _ _ _ _ _ _ _ _
    clear hK
    walk_nrm
    repeat (first
      | (refine Goes.step rfl (fun w₁ h₁ => ?_); walk_rw; refine ⟨dq_idle c w₁, ?_⟩)
      | (rw [at_op]
         refine Goes.step rfl (fun w₁ h₁ => ?_)
         refine goes_oper_k rfl rfl (by decide) (fun K hK => ?_)
         have hN := p.ldN w₁ h₁.ok
         have hL := p.ldL w₁ h₁.ok
         go_simp
         refine hK _ _ ⟨⟨rfl, rfl, rfl, rfl, fun e he => ?_⟩, ?_⟩
         · have hm := mem_listed he
           simp [go_sem, *] at hm
           try (subst hm; first | exact ⟨_, rfl, p.fx.1⟩ | exact ⟨_, rfl, p.fx.2.1⟩)
         clear hK K hN hL h₁))
    try (refine Goes.step rfl (fun w₁ h₁ => ?_); rw [stepG_ret']; simp only [goes_go]; refine ⟨dq_idle c w₁, ?_⟩)
    refine Goes.step rfl (fun w₁ h₁ => ?_)
    refine goes_leave1 rfl rfl Try.func48 rfl ⟨dq_idle c w₁, ?_⟩
    walk_nrm
    clear h₁
    repeat (first
      | (refine Goes.step rfl (fun w₁ h₁ => ?_); walk_rw; refine ⟨dq_idle c w₁, ?_⟩)
      | (rw [at_op]
         refine Goes.step rfl (fun w₁ h₁ => ?_)
         refine goes_oper_k rfl rfl (by decide) (fun K hK => ?_)
         have hN := p.ldN w₁ h₁.ok
         have hL := p.ldL w₁ h₁.ok
         go_simp
         refine hK _ _ ⟨⟨rfl, rfl, rfl, rfl, fun e he => ?_⟩, ?_⟩
         · have hm := mem_listed he
           simp [go_sem, *] at hm
           try (subst hm; first | exact ⟨_, rfl, p.fx.1⟩ | exact ⟨_, rfl, p.fx.2.1⟩)
         clear hK K hN hL h₁))
    refine Goes.step rfl (fun w₁ h₁ => ?_)
    rw [stepG_cond (t := false) rfl]
    simp only [goes_go, Bool.false_eq_true, ↓reduceIte]
    refine ⟨dq_idle c w₁, ?_⟩
    clear h₁
    repeat (first
      | (refine Goes.step rfl (fun w₁ h₁ => ?_); walk_rw; refine ⟨dq_idle c w₁, ?_⟩)
      | (rw [at_op]
         refine Goes.step rfl (fun w₁ h₁ => ?_)
         refine goes_oper_k rfl rfl (by decide) (fun K hK => ?_)
         have hN := p.ldN w₁ h₁.ok
         have hL := p.ldL w₁ h₁.ok
         go_simp
         refine hK _ _ ⟨⟨rfl, rfl, rfl, rfl, fun e he => ?_⟩, ?_⟩
         · have hm := mem_listed he
           simp [go_sem, *] at hm
           try (subst hm; first | exact ⟨_, rfl, p.fx.1⟩ | exact ⟨_, rfl, p.fx.2.1⟩)
         clear hK K hN hL h₁))
    refine Goes.step rfl (fun w₁ h₁ => ?_)
    rw [stepG_enter (f := 21) (args := #[.int .i64 (k : Nat), .pointer (some ⟨bS, 0, none⟩), .pointer (some ⟨bB, 0, none⟩), .pointer (some ⟨bC, 0, none⟩)]) (w' := w₁) rfl rfl (by decide) (by simp [execOp, go_sem])]
    rw [listed_nil (by simp [execOp, go_sem, callFunc, Try.func21, Try.f21])]
    rw [goes_go, enter_at _ Try.func21 rfl]
    refine ⟨dq_idle c w₁, ?_⟩
    refine Goes.mono (b_body (b := base 21) (by k_ne) (by kernel_rfl) p hlt (fun T => ⟨rfl, fun w _ => ⟨0 + 20, ?_⟩⟩) (T := #[.int .i64 (k : Nat), .pointer (some ⟨bS, 0, none⟩), .pointer (some ⟨bB, 0, none⟩), .pointer (some ⟨bC, 0, none⟩), undef, undef, undef, undef, undef, undef, undef, undef, undef, undef, undef, undef, undef, undef]) rfl rfl rfl rfl rfl w₁) (by decide)
    show Goes _ _ _ _ _ _ _ _
    refine Goes.step rfl (fun w₁ h₁ => ?_)
    rw [stepG_region_end]
    simp only [goes_go]
    refine ⟨dq_idle c w₁, ?_⟩
    clear h₁
    refine Goes.step rfl (fun w₁ h₁ => ?_)
    rw [stepG_end]
    simp only [goes_go]
    refine ⟨dq_idle c w₁, ?_⟩
    clear h₁
    refine Goes.step rfl (fun w₁ h₁ => ?_)
    refine goes_leave0 rfl rfl Try.func21 rfl ⟨dq_idle c w₁, ?_⟩
    walk_nrm
    refine Goes.step rfl (fun w₁ h₁ => ?_)
    rw [stepG_region_end]
    simp only [goes_go]
    refine ⟨dq_idle c w₁, ?_⟩
    clear h₁
    refine Goes.step rfl (fun w₁ h₁ => ?_)
    rw [stepG_inBlock]
    simp only [goes_go]
    refine ⟨dq_idle c w₁, ?_⟩
    clear h₁
    refine Goes.step rfl (fun w₁ h₁ => ?_)
    rw [stepG_inLoop]
    simp only [goes_go]
    refine ⟨dq_idle c w₁, ?_⟩
    clear h₁
    exact Goes.stop fun w₁ _ => ⟨rfl, _, _, _, _, _, _, _, _, _, rfl⟩
  · simp only [if_neg hlt]
    have q1 : decide ((c.K : Int) ≤ (k : Int)) = true := by simp; omega
    have q2 : decide (c.K ≤ k) = true := by simp; omega
    refine ⟨rfl, fun w hK => ⟨0 + 120, ?_⟩⟩
    show Goes _ _ _ _ _ _ _ _
    clear hK
    walk_nrm
    repeat (first
      | (refine Goes.step rfl (fun w₁ h₁ => ?_); walk_rw; refine ⟨dq_idle c w₁, ?_⟩)
      | (rw [at_op]
         refine Goes.step rfl (fun w₁ h₁ => ?_)
         refine goes_oper_k rfl rfl (by decide) (fun K hK => ?_)
         have hN := p.ldN w₁ h₁.ok
         have hL := p.ldL w₁ h₁.ok
         go_simp
         refine hK _ _ ⟨⟨rfl, rfl, rfl, rfl, fun e he => ?_⟩, ?_⟩
         · have hm := mem_listed he
           simp [go_sem, *] at hm
           try (subst hm; first | exact ⟨_, rfl, p.fx.1⟩ | exact ⟨_, rfl, p.fx.2.1⟩)
         clear hK K hN hL h₁))
    try (refine Goes.step rfl (fun w₁ h₁ => ?_); rw [stepG_ret']; simp only [goes_go]; refine ⟨dq_idle c w₁, ?_⟩)
    refine Goes.step rfl (fun w₁ h₁ => ?_)
    refine goes_leave1 rfl rfl Try.func48 rfl ⟨dq_idle c w₁, ?_⟩
    walk_nrm
    clear h₁
    repeat (first
      | (refine Goes.step rfl (fun w₁ h₁ => ?_); walk_rw; refine ⟨dq_idle c w₁, ?_⟩)
      | (rw [at_op]
         refine Goes.step rfl (fun w₁ h₁ => ?_)
         refine goes_oper_k rfl rfl (by decide) (fun K hK => ?_)
         have hN := p.ldN w₁ h₁.ok
         have hL := p.ldL w₁ h₁.ok
         go_simp
         refine hK _ _ ⟨⟨rfl, rfl, rfl, rfl, fun e he => ?_⟩, ?_⟩
         · have hm := mem_listed he
           simp [go_sem, *] at hm
           try (subst hm; first | exact ⟨_, rfl, p.fx.1⟩ | exact ⟨_, rfl, p.fx.2.1⟩)
         clear hK K hN hL h₁))
    refine Goes.step rfl (fun w₁ h₁ => ?_)
    rw [stepG_cond (t := true) rfl]
    simp only [goes_go, ↓reduceIte]
    refine ⟨dq_idle c w₁, ?_⟩
    clear h₁
    refine Goes.step rfl (fun w₁ h₁ => ?_)
    rw [stepG_ret']
    simp only [goes_go]
    refine ⟨dq_idle c w₁, ?_⟩
    clear h₁
    refine Goes.step rfl (fun w₁ h₁ => ?_)
    rw [stepG_unwind_enter rfl Try.func47 (by kernel_rfl) rfl]
    rw [goes_go]
    refine ⟨dq_idle c w₁, ?_⟩
    refine Goes.mono (goes_weak (dq_of0 c) (fun _ _ x => x) (done_on (L := wgL) wgLib (qt := 2) rfl ?_ _ h₁)) (by decide)
    refine QuitsD.of_quitsIn (.inr ⟨rfl, G tBot [], fun w => ?_, ?_⟩)
    · simp [G, stepG, unwind, doReturn, results, Frame.at, tB, tBot, Try.func46, Try.f46, seen, GStep.after, goexitEntry]
    refine .inr ⟨rfl, { G tBot [] with status := .finished }, fun w => ?_, rfl⟩
    simp [G, stepG, unwind, tBot, goexitEntry, Frame.catches]
    rfl
end
end Go.Proofs.Ytpdemelchhkfaaa.Cs

/-
  A worker of tele.together is born.
-/
namespace Go.Proofs.Ytpdemelchhkfaaa.Cs
open Go.Conc Go.RowKit Go.Conc.Lib Go.ConcR.Gen Go.ConcN.Gen
open Go.ConcR (KK WgAt wgBlock stA smA rd wr mk DC0)
/-- The call that the go statement holds. -/
def tGo (c : Cst) (bN bL : Nat) : Deferred := { target := .fn (.func 46) #[.pointer (some ⟨c.C2, 0, none⟩), .pointer (some ⟨c.C1, 0, none⟩), .pointer (some ⟨bN, 0, none⟩), .pointer (some ⟨bL, 0, none⟩)], args := #[] }
section
variable {c : Cst} {tT : TypeId} {F : Nat → Value} {bN bL bS bB bC : Nat} {vs : Value} {xb : Option Addr} {nb cb : Nat} {w : World}
theorem tBorn_step (w : World) : stepG Try.prog false (born Try.prog (tGo c bN bL)) w =
    .go (G (tB.at ⟨#[.pointer (some ⟨c.C2, 0, none⟩), .pointer (some ⟨c.C1, 0, none⟩), .pointer (some ⟨bN, 0, none⟩), .pointer (some ⟨bL, 0, none⟩), undef, undef, undef, undef, undef, undef, undef, undef, undef], []⟩ [.code tBody]) [tBot]) w #[] := by
  simp [born, tGo, stepG, unwind, callDeferred, invoke, callFunc, Try.func46, Try.f46, seen, GStep.after, G, Frame.enter, Frame.at, tB, tBot, tBody]
set_option maxRecDepth 100000 in
theorem tBorn : On Try.prog c wgL.tWg tT false (tAn c bN bL) (born Try.prog (tGo c bN bL)) := by
  refine ⟨rfl, fun w hK => ⟨0 + 20, ?_⟩⟩
  refine goes_weak (dq_of0 c) (fun _ _ x => x) ?_
  refine Goes.step rfl fun w₁ h₁ => ?_
  rw [tBorn_step, goes_go]
  refine ⟨⟨rfl, rfl⟩, ?_⟩
  replace hK : Ok2 c wgL.tWg tT w₁ := h₁
  clear h₁
  simp only [tBody, Try.f46, Option.getD_some]
  u_c stepG_seq ok_rely hK
  u_reg ok_rely hK
  u_defer ok_rely hK
  u_c stepG_region_end ok_rely hK
  u_c stepG_block ok_rely hK
  u_c stepG_loop ok_rely hK
  exact Goes.stop fun w₁ _ => ⟨rfl, _, _, _, _, _, _, _, _, _, rfl⟩
theorem tBorn_tak (p : TeP c F bN bL bS bB bC vs xb nb cb) : On Try.prog c wgL.tWg tT false (xTak Try.prog c wgL.tWg tT F (tAn c bN bL)) (born Try.prog (tGo c bN bL)) :=
  on_trans 60 tBorn fun _ h w hw => t_round p h w hw
end
end Go.Proofs.Ytpdemelchhkfaaa.Cs
