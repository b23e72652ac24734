/-
  Several texts, joined: CxH, CxI, CxC.
-/
import Derived.Test.YtpdemelchhkfaaaJn29
import Derived.Test.YtpdemelchhkfaaaCxB
import Derived.Conc.Own5
import Derived.Test.YtpdemelchhkfaaaJn28
/-
  tele.together$1: the worker: from its loop's head to the counter, and on from there.
-/
namespace Go.Proofs.Ytpdemelchhkfaaa.Cs
open Go.Conc Go.RowKit Go.Conc.Lib Go.ConcR.Gen Go.ConcN.Gen
open Go.ConcR (KK WgAt wgBlock stA smA rd wr mk DC0)
noncomputable def tBody : Code := Try.f46.body.getD .skip
noncomputable def tLoop : Code := match tBody with | .seq _ (.block _ (.loop c)) => c | _ => .skip
def tB : Frame := { (default : Frame) with fn := 46, kind := .deferred }
noncomputable def tBot : Frame := { (default : Frame) with fn := Try.prog.funcs.size, defers := [], mode := .panicking [goexitEntry] }
theorem dq_idle (c : Cst) (w : World) : DQ c w w #[] := ⟨rfl, rfl, rfl, rfl, fun e he => by simp at he⟩
/-- The head of its loop. -/
def tAn (c : Cst) (bN bL : Nat) (g : Goroutine) : Prop := ∃ v4 v5 v6 v7 v8 v9 v10 v11 v12 : Value, g = G (tB.at ⟨#[.pointer (some ⟨c.C2, 0, none⟩), .pointer (some ⟨c.C1, 0, none⟩), .pointer (some ⟨bN, 0, none⟩), .pointer (some ⟨bL, 0, none⟩), v4, v5, v6, v7, v8, v9, v10, v11, v12], [dcall 47 #[.pointer (some ⟨c.C2, 0, none⟩)]]⟩ [.code tLoop, .inLoop tLoop, .inBlock 0]) [tBot]
def xTak (P : Program) (c : Cst) (tW tT : TypeId) (F : Nat → Value) (Nx : Goroutine → Prop) (g : Goroutine) : Prop := isG g ∧ ∀ k : Nat, k ≤ 1099511629000 → ∃ g', (∀ w, Ok2 c tW tT w → TkAt c tT w k → stepG P false g w = .go g' (w.setCell ⟨c.C1, 0, none⟩ (.int .i64 ((k + 1 : Nat) : Int))) #[rd ⟨c.C1, 0, none⟩, wr ⟨c.C1, 0, none⟩]) ∧ On P c tW tT false (fun g => if k < c.K then xCal P c tW tT F Nx k g else xRel P c tW tT g) g'
section
variable {c : Cst} {tT : TypeId} {F : Nat → Value} {bN bL bS bB bC : Nat} {vs : Value} {xb : Option Addr} {nb cb : Nat} {g : Goroutine} {w : World}
theorem tk_cell {k : Nat} (h : TkAt c tT w k) : w.cell? ⟨c.C1, 0, none⟩ = some (.int .i64 (k : Nat)) := by
  unfold TkAt at h
  unfold World.cell?
  rw [h]
  rfl
theorem tk_thaw {k : Nat} (h : TkAt c tT w k) : w.frozen? ⟨c.C1, 0, none⟩ = false := by
  unfold TkAt at h
  unfold World.frozen?
  rw [h]
  simp
set_option maxRecDepth 100000 in
set_option maxHeartbeats 8000000 in
theorem t_round (p : TeP c F bN bL bS bB bC vs xb nb cb) (h : tAn c bN bL g) : ∀ w, Ok2 c wgL.tWg tT w → Walk2 Try.prog c wgL.tWg tT false (xTak Try.prog c wgL.tWg tT F (tAn c bN bL)) 60 g w := by
  intro w hK
  obtain ⟨v4, v5, v6, v7, v8, v9, v10, v11, v12, rfl⟩ := h
  refine goes_weak (dq_of0 c) (fun _ _ x => x) ?_
  simp only [tLoop, tBody, Try.f46, Option.getD_some]
  repeat (first
    | u_c stepG_seq ok_rely hK
    | u_c stepG_region_end ok_rely hK
    | u_reg ok_rely hK
    | u_cond true ok_rely hK
    | u_cond false ok_rely hK
    | u_c stepG_skip ok_rely hK
    | u_c stepG_block ok_rely hK
    | u_c stepG_loop ok_rely hK
    | u_c stepG_inBlock ok_rely hK
    | u_c stepG_inLoop ok_rely hK
    | (rw [at_op]; u_skip ok_rely hK)
    | (rw [at_op]; u_op ok_rely hK))
  u_call Try.func48 (by kernel_rfl) Try.f48 ok_rely hK
  repeat (first
    | u_c stepG_seq ok_rely hK
    | u_c stepG_region_end ok_rely hK
    | u_reg ok_rely hK
    | u_cond true ok_rely hK
    | u_cond false ok_rely hK
    | u_c stepG_skip ok_rely hK
    | u_c stepG_block ok_rely hK
    | u_c stepG_loop ok_rely hK
    | u_c stepG_inBlock ok_rely hK
    | u_c stepG_inLoop ok_rely hK
    | (rw [at_op]; u_skip ok_rely hK)
    | (rw [at_op]; u_op ok_rely hK))
  refine Goes.stop (fun w₁ h₁ => ?_)
  clear h₁ hK
  refine ⟨rfl, ⟨_, _, rfl⟩, fun k hk => ?_⟩
  have eS : IntKind.i64.wrap ((k : Int) + 1) = ((k + 1 : Nat) : Int) := by rw [IntKind.wrap_i64]; omega
  refine ⟨_, fun w _ ht => (stepG_add_atomic rfl rfl (by k_ne) rfl Try.func72 (by kernel_rfl) (by kernel_rfl) (by kernel_rfl) .i64 (by kernel_rfl) rfl rfl (tk_cell ht) (tk_thaw ht)).trans (by rw [eS]; rfl), ?_⟩
  clear eS
  have e2 : IntKind.i64.wrap (k : Int) = (k : Int) := by rw [IntKind.wrap_i64]; omega
  have e3 : IntKind.i64.wrap ((k : Int) + 1 - 1) = (k : Int) := by rw [IntKind.wrap_i64]; omega
  by_cases hlt : k < c.K
  · simp only [if_pos hlt]
    have q1 : decide ((c.K : Int) ≤ (k : Int)) = false := by simp; omega
    have q2 : decide (c.K ≤ k) = false := by simp; omega
    refine ⟨rfl, fun w hK => ⟨0 + 60, ?_⟩⟩
    show Goes _ _ _ _ _ _ _ _
    clear hK
    walk_nrm
    repeat (first
      | (refine Goes.step rfl (fun w₁ h₁ => ?_); walk_rw; refine ⟨dq_idle c w₁, ?_⟩)
      | (rw [at_op]
         refine Goes.step rfl (fun w₁ h₁ => ?_)
         refine goes_oper_k rfl rfl (by decide) (fun K hK => ?_)
         have hN := p.ldN w₁ h₁.ok
         have hL := p.ldL w₁ h₁.ok
         go_simp
         refine hK _ _ ⟨⟨rfl, rfl, rfl, rfl, fun e he => ?_⟩, ?_⟩
         · have hm := mem_listed he
           simp [go_sem, *] at hm
           try (subst hm; first | exact ⟨_, rfl, p.fx.1⟩ | exact ⟨_, rfl, p.fx.2.1⟩)
         clear hK K hN hL h₁))
    try (refine Goes.step rfl (fun w₁ h₁ => ?_); rw [stepG_ret']; simp only [goes_go]; refine ⟨dq_idle c w₁, ?_⟩)
    refine Goes.step rfl (fun w₁ h₁ => ?_)
    refine goes_leave1 rfl rfl Try.func48 rfl ⟨dq_idle c w₁, ?_⟩
    walk_nrm
    clear h₁
    repeat (first
      | (refine Goes.step rfl (fun w₁ h₁ => ?_); walk_rw; refine ⟨dq_idle c w₁, ?_⟩)
      | (rw [at_op]
         refine Goes.step rfl (fun w₁ h₁ => ?_)
         refine goes_oper_k rfl rfl (by decide) (fun K hK => ?_)
         have hN := p.ldN w₁ h₁.ok
         have hL := p.ldL w₁ h₁.ok
         go_simp
         refine hK _ _ ⟨⟨rfl, rfl, rfl, rfl, fun e he => ?_⟩, ?_⟩
         · have hm := mem_listed he
           simp [go_sem, *] at hm
           try (subst hm; first | exact ⟨_, rfl, p.fx.1⟩ | exact ⟨_, rfl, p.fx.2.1⟩)
         clear hK K hN hL h₁))
    refine Goes.step rfl (fun w₁ h₁ => ?_)
    rw [stepG_cond (t := false) rfl]
    simp only [goes_go, Bool.false_eq_true, ↓reduceIte]
    refine ⟨dq_idle c w₁, ?_⟩
    clear h₁
    repeat (first
      | (refine Goes.step rfl (fun w₁ h₁ => ?_); walk_rw; refine ⟨dq_idle c w₁, ?_⟩)
      | (rw [at_op]
         refine Goes.step rfl (fun w₁ h₁ => ?_)
         refine goes_oper_k rfl rfl (by decide) (fun K hK => ?_)
         have hN := p.ldN w₁ h₁.ok
         have hL := p.ldL w₁ h₁.ok
         go_simp
         refine hK _ _ ⟨⟨rfl, rfl, rfl, rfl, fun e he => ?_⟩, ?_⟩
         · have hm := mem_listed he
           simp [go_sem, *] at hm
           try (subst hm; first | exact ⟨_, rfl, p.fx.1⟩ | exact ⟨_, rfl, p.fx.2.1⟩)
         clear hK K hN hL h₁))
    refine Goes.step rfl (fun w₁ h₁ => ?_)
    rw [stepG_enter (f := 21) (args := #[.int .i64 (k : Nat), .pointer (some ⟨bS, 0, none⟩), .pointer (some ⟨bB, 0, none⟩), .pointer (some ⟨bC, 0, none⟩)]) (w' := w₁) rfl rfl (by decide) (by simp [execOp, go_sem])]
    rw [listed_nil (by simp [execOp, go_sem, callFunc, Try.func21, Try.f21])]
    rw [goes_go, enter_at _ Try.func21 rfl]
    refine ⟨dq_idle c w₁, ?_⟩
    refine Goes.mono (b_body (b := base 21) (by k_ne) (by kernel_rfl) p hlt (fun T => ⟨rfl, fun w _ => ⟨0 + 20, ?_⟩⟩) (T := #[.int .i64 (k : Nat), .pointer (some ⟨bS, 0, none⟩), .pointer (some ⟨bB, 0, none⟩), .pointer (some ⟨bC, 0, none⟩), undef, undef, undef, undef, undef, undef, undef, undef, undef, undef, undef, undef, undef, undef]) rfl rfl rfl rfl rfl w₁) (by decide)
    show Goes _ _ _ _ _ _ _ _
    refine Goes.step rfl (fun w₁ h₁ => ?_)
    rw [stepG_region_end]
    simp only [goes_go]
    refine ⟨dq_idle c w₁, ?_⟩
    clear h₁
    refine Goes.step rfl (fun w₁ h₁ => ?_)
    rw [stepG_end]
    simp only [goes_go]
    refine ⟨dq_idle c w₁, ?_⟩
    clear h₁
    refine Goes.step rfl (fun w₁ h₁ => ?_)
    refine goes_leave0 rfl rfl Try.func21 rfl ⟨dq_idle c w₁, ?_⟩
    walk_nrm
    refine Goes.step rfl (fun w₁ h₁ => ?_)
    rw [stepG_region_end]
    simp only [goes_go]
    refine ⟨dq_idle c w₁, ?_⟩
    clear h₁
    refine Goes.step rfl (fun w₁ h₁ => ?_)
    rw [stepG_inBlock]
    simp only [goes_go]
    refine ⟨dq_idle c w₁, ?_⟩
    clear h₁
    refine Goes.step rfl (fun w₁ h₁ => ?_)
    rw [stepG_inLoop]
    simp only [goes_go]
    refine ⟨dq_idle c w₁, ?_⟩
    clear h₁
    exact Goes.stop fun w₁ _ => ⟨rfl, _, _, _, _, _, _, _, _, _, rfl⟩
  · simp only [if_neg hlt]
    have q1 : decide ((c.K : Int) ≤ (k : Int)) = true := by simp; omega
    have q2 : decide (c.K ≤ k) = true := by simp; omega
    refine ⟨rfl, fun w hK => ⟨0 + 120, ?_⟩⟩
    show Goes _ _ _ _ _ _ _ _
    clear hK
    walk_nrm
    repeat (first
      | (refine Goes.step rfl (fun w₁ h₁ => ?_); walk_rw; refine ⟨dq_idle c w₁, ?_⟩)
      | (rw [at_op]
         refine Goes.step rfl (fun w₁ h₁ => ?_)
         refine goes_oper_k rfl rfl (by decide) (fun K hK => ?_)
         have hN := p.ldN w₁ h₁.ok
         have hL := p.ldL w₁ h₁.ok
         go_simp
         refine hK _ _ ⟨⟨rfl, rfl, rfl, rfl, fun e he => ?_⟩, ?_⟩
         · have hm := mem_listed he
           simp [go_sem, *] at hm
           try (subst hm; first | exact ⟨_, rfl, p.fx.1⟩ | exact ⟨_, rfl, p.fx.2.1⟩)
         clear hK K hN hL h₁))
    try (refine Goes.step rfl (fun w₁ h₁ => ?_); rw [stepG_ret']; simp only [goes_go]; refine ⟨dq_idle c w₁, ?_⟩)
    refine Goes.step rfl (fun w₁ h₁ => ?_)
    refine goes_leave1 rfl rfl Try.func48 rfl ⟨dq_idle c w₁, ?_⟩
    walk_nrm
    clear h₁
    repeat (first
      | (refine Goes.step rfl (fun w₁ h₁ => ?_); walk_rw; refine ⟨dq_idle c w₁, ?_⟩)
      | (rw [at_op]
         refine Goes.step rfl (fun w₁ h₁ => ?_)
         refine goes_oper_k rfl rfl (by decide) (fun K hK => ?_)
         have hN := p.ldN w₁ h₁.ok
         have hL := p.ldL w₁ h₁.ok
         go_simp
         refine hK _ _ ⟨⟨rfl, rfl, rfl, rfl, fun e he => ?_⟩, ?_⟩
         · have hm := mem_listed he
           simp [go_sem, *] at hm
           try (subst hm; first | exact ⟨_, rfl, p.fx.1⟩ | exact ⟨_, rfl, p.fx.2.1⟩)
         clear hK K hN hL h₁))
    refine Goes.step rfl (fun w₁ h₁ => ?_)
    rw [stepG_cond (t := true) rfl]
    simp only [goes_go, ↓reduceIte]
    refine ⟨dq_idle c w₁, ?_⟩
    clear h₁
    refine Goes.step rfl (fun w₁ h₁ => ?_)
    rw [stepG_ret']
    simp only [goes_go]
    refine ⟨dq_idle c w₁, ?_⟩
    clear h₁
    refine Goes.step rfl (fun w₁ h₁ => ?_)
    rw [stepG_unwind_enter rfl Try.func47 (by kernel_rfl) rfl]
    rw [goes_go]
    refine ⟨dq_idle c w₁, ?_⟩
    refine Goes.mono (goes_weak (dq_of0 c) (fun _ _ x => x) (done_on (L := wgL) wgLib (qt := 2) rfl ?_ _ h₁)) (by decide)
    refine QuitsD.of_quitsIn (.inr ⟨rfl, G tBot [], fun w => ?_, ?_⟩)
    · simp [G, stepG, unwind, doReturn, results, Frame.at, tB, tBot, Try.func46, Try.f46, seen, GStep.after, goexitEntry]
    refine .inr ⟨rfl, { G tBot [] with status := .finished }, fun w => ?_, rfl⟩
    simp [G, stepG, unwind, tBot, goexitEntry, Frame.catches]
    rfl
end
end Go.Proofs.Ytpdemelchhkfaaa.Cs

/-
  A worker of tele.together is born.
-/
namespace Go.Proofs.Ytpdemelchhkfaaa.Cs
open Go.Conc Go.RowKit Go.Conc.Lib Go.ConcR.Gen Go.ConcN.Gen
open Go.ConcR (KK WgAt wgBlock stA smA rd wr mk DC0)
/-- The call that the go statement holds. -/
def tGo (c : Cst) (bN bL : Nat) : Deferred := { target := .fn (.func 46) #[.pointer (some ⟨c.C2, 0, none⟩), .pointer (some ⟨c.C1, 0, none⟩), .pointer (some ⟨bN, 0, none⟩), .pointer (some ⟨bL, 0, none⟩)], args := #[] }
section
variable {c : Cst} {tT : TypeId} {F : Nat → Value} {bN bL bS bB bC : Nat} {vs : Value} {xb : Option Addr} {nb cb : Nat} {w : World}
theorem tBorn_step (w : World) : stepG Try.prog false (born Try.prog (tGo c bN bL)) w =
    .go (G (tB.at ⟨#[.pointer (some ⟨c.C2, 0, none⟩), .pointer (some ⟨c.C1, 0, none⟩), .pointer (some ⟨bN, 0, none⟩), .pointer (some ⟨bL, 0, none⟩), undef, undef, undef, undef, undef, undef, undef, undef, undef], []⟩ [.code tBody]) [tBot]) w #[] := by
  simp [born, tGo, stepG, unwind, callDeferred, invoke, callFunc, Try.func46, Try.f46, seen, GStep.after, G, Frame.enter, Frame.at, tB, tBot, tBody]
set_option maxRecDepth 100000 in
theorem tBorn : On Try.prog c wgL.tWg tT false (tAn c bN bL) (born Try.prog (tGo c bN bL)) := by
  refine ⟨rfl, fun w hK => ⟨0 + 20, ?_⟩⟩
  refine goes_weak (dq_of0 c) (fun _ _ x => x) ?_
  refine Goes.step rfl fun w₁ h₁ => ?_
  rw [tBorn_step, goes_go]
  refine ⟨⟨rfl, rfl⟩, ?_⟩
  replace hK : Ok2 c wgL.tWg tT w₁ := h₁
  clear h₁
  simp only [tBody, Try.f46, Option.getD_some]
  u_c stepG_seq ok_rely hK
  u_reg ok_rely hK
  u_defer ok_rely hK
  u_c stepG_region_end ok_rely hK
  u_c stepG_block ok_rely hK
  u_c stepG_loop ok_rely hK
  exact Goes.stop fun w₁ _ => ⟨rfl, _, _, _, _, _, _, _, _, _, rfl⟩
theorem tBorn_tak (p : TeP c F bN bL bS bB bC vs xb nb cb) : On Try.prog c wgL.tWg tT false (xTak Try.prog c wgL.tWg tT F (tAn c bN bL)) (born Try.prog (tGo c bN bL)) :=
  on_trans 60 tBorn fun _ h w hw => t_round p h w hw
end
end Go.Proofs.Ytpdemelchhkfaaa.Cs

/-
  The other pool: goroutine 0's 'Wait', walked.
-/
namespace Go.Proofs.Ytpdemelchhkfaaa.Cs
open Go.Conc Go.RowKit Go.Conc.Lib Go.ConcR.Gen Go.ConcN.Gen
open Go.ConcR (KK WgAt wgBlock stA smA rd wr mk DC0)
open Go.ConcN (st_flag st_waiters)
variable {L : WgLink} {P : Program} {c : Cst} {tT : TypeId}
theorem on_pos {A B : Goroutine → Prop} {g : Goroutine} (h : On P c L.tWg tT true A g) : On P c L.tWg tT true (fun g => if (0 : Nat) = 0 then A g else B g) g := h
theorem on_neg {v : Nat} (hv : 0 < v) {A B : Goroutine → Prop} {g : Goroutine} (h : On P c L.tWg tT true B g) : On P c L.tWg tT true (fun g => if v = 0 then A g else B g) g := by
  simp only [show ¬ v = 0 by omega, ↓reduceIte]
  exact h
section
variable {b₀ : Frame} {a₀ : Act} {ops₀ : Array Oper} {i₀ : Nat} {rest₀ : List Nat} {k₀ : List Item} {cs : List Frame} {mT : Nat} {Jn : Goroutine → Prop}
/-- The head of Wait's loop. -/
def xAn (L : WgLink) (c : Cst) (fs : List Frame) (g : Goroutine) : Prop := ∃ T : Array Value, g = G ((base L.wait).at ⟨T, []⟩ [.code (L7 L), .inLoop (L7 L), .inBlock 0]) fs ∧ T.size = 84 ∧ T[0]? = some (.pointer (some ⟨c.C2, 0, none⟩))
set_option maxRecDepth 100000 in
set_option maxHeartbeats 8000000 in
theorem wait_round (H : WgLib P L) (hT : ∀ w, Ok2 c L.tWg tT w → Goes P true (fun _ w => Ok2 c L.tWg tT w) DC0 (fun g _ => g.status = .running ∧ Jn g) mT (G (b₀.at (a₀.put ((ops₀[i₀]?).bind (·.dst)) (.tuple #[])) (.inRegion ops₀ rest₀ :: k₀)) cs) w)
    (g : Goroutine) (h : xAn L c (b₀.at a₀ (.inRegion ops₀ (i₀ :: rest₀) :: k₀) :: cs) g) :
    ∀ w, Ok2 c L.tWg tT w → Goes P true (fun _ w => Ok2 c L.tWg tT w) DC0 (fun g _ => g.status = .running ∧ xW1 P c L.tWg tT Jn (xAn L c (b₀.at a₀ (.inRegion ops₀ (i₀ :: rest₀) :: k₀) :: cs)) g) 60 g w := by
  intro w hK
  lib_facts
  obtain ⟨T, rfl, hT84, t0⟩ := h
  obtain ⟨v0, v1, v2, v3, v4, v5, v6, v7, v8, v9, v10, v11, v12, v13, v14, v15, v16, v17, v18, v19, v20, v21, v22, v23, v24, v25, v26, v27, v28, v29, v30, v31, v32, v33, v34, v35, v36, v37, v38, v39, v40, v41, v42, v43, v44, v45, v46, v47, v48, v49, v50, v51, v52, v53, v54, v55, v56, v57, v58, v59, v60, v61, v62, v63, v64, v65, v66, v67, v68, v69, v70, v71, v72, v73, v74, v75, v76, v77, v78, v79, v80, v81, v82, v83, rfl⟩ := array84 T hT84
  simp only [List.getElem?_toArray, List.getElem?_cons_zero, Option.some.injEq] at t0
  subst t0
  clear hT84
  simp only [L7, body_wait, waitFn, Option.getD_some]
  repeat (first
    | u_c stepG_seq ok_rely hK
    | u_c stepG_region_end ok_rely hK
    | u_reg ok_rely hK
    | u_cond true ok_rely hK
    | u_cond false ok_rely hK
    | u_c stepG_skip ok_rely hK
    | u_c stepG_block ok_rely hK
    | u_c stepG_loop ok_rely hK
    | u_c stepG_inBlock ok_rely hK
    | u_c stepG_inLoop ok_rely hK
    | (rw [at_op]; u_skip ok_rely hK)
    | (rw [at_op]; u_op ok_rely hK))
  u_call H.f_uLoad (nm_uLoad L) uLoadFn ok_rely hK
  repeat (first
    | u_c stepG_seq ok_rely hK
    | u_c stepG_region_end ok_rely hK
    | u_reg ok_rely hK
    | u_cond true ok_rely hK
    | u_cond false ok_rely hK
    | u_c stepG_skip ok_rely hK
    | u_c stepG_block ok_rely hK
    | u_c stepG_loop ok_rely hK
    | u_c stepG_inBlock ok_rely hK
    | u_c stepG_inLoop ok_rely hK
    | (rw [at_op]; u_skip ok_rely hK)
    | (rw [at_op]; u_op ok_rely hK))
  refine Goes.stop (fun w₁ h₁ => ?_)
  clear h₁ hK
  refine ⟨rfl, ⟨_, _, rfl⟩, fun v hv => ?_⟩
  rcases Nat.eq_zero_or_pos v with rfl | hvp
  · rw [show ((0 : Nat) : Int) * KK = 0 by simp]
    refine ⟨_, fun w hw => stepG_load_atomic (v := 0) rfl rfl (by k_ne) rfl H.f_loadU64 (x_loadU64_n L) (x_loadU64_b L) (x_loadU64_x L) .u64 (x_loadU64_f L) rfl hw.cellSt, on_pos (on_of 80 rfl fun w hK => ?_)⟩
    walk_nrm
    repeat (first
      | u_c stepG_seq ok_rely hK
      | u_c stepG_region_end ok_rely hK
      | u_reg ok_rely hK
      | u_cond true ok_rely hK
      | u_cond false ok_rely hK
      | u_c stepG_skip ok_rely hK
      | u_c stepG_block ok_rely hK
      | u_c stepG_loop ok_rely hK
      | u_c stepG_inBlock ok_rely hK
      | u_c stepG_inLoop ok_rely hK
      | (rw [at_op]; u_skip ok_rely hK)
      | (rw [at_op]; u_op ok_rely hK))
    u_c stepG_ret' ok_rely hK
    u_leave1 H.f_uLoad ok_rely hK
    repeat (first
      | u_c stepG_seq ok_rely hK
      | u_c stepG_region_end ok_rely hK
      | u_reg ok_rely hK
      | u_cond true ok_rely hK
      | u_cond false ok_rely hK
      | u_c stepG_skip ok_rely hK
      | u_c stepG_block ok_rely hK
      | u_c stepG_loop ok_rely hK
      | u_c stepG_inBlock ok_rely hK
      | u_c stepG_inLoop ok_rely hK
      | (rw [at_op]; u_skip ok_rely hK)
      | (rw [at_op]; u_op ok_rely hK))
    refine Goes.stop (fun w₁ h₁ => ?_)
    clear h₁ hK
    refine ⟨rfl, ?_⟩
    refine ⟨⟨_, _, rfl⟩, _, fun w₁ _ => stepG_mark0 .enable (by simp) rfl rfl (by k_ne) rfl H.f_enable (x_enable_n L) (x_enable_b L) (x_enable_x L) (x_enable_f L), on_of 40 rfl fun w hK => ?_⟩
    walk_nrm
    repeat (first
      | u_c stepG_seq ok_rely hK
      | u_c stepG_region_end ok_rely hK
      | u_reg ok_rely hK
      | u_cond true ok_rely hK
      | u_cond false ok_rely hK
      | u_c stepG_skip ok_rely hK
      | u_c stepG_block ok_rely hK
      | u_c stepG_loop ok_rely hK
      | u_c stepG_inBlock ok_rely hK
      | u_c stepG_inLoop ok_rely hK
      | (rw [at_op]; u_skip ok_rely hK)
      | (rw [at_op]; u_op ok_rely hK))
    u_conv H.underlying_tWgP H.room_tWg (WgLive.cell0 hK.wg).choose_spec ok_rely hK
    refine Goes.stop (fun w₁ h₁ => ?_)
    clear h₁ hK
    refine ⟨rfl, ⟨⟨_, _, rfl⟩, _, fun w₁ _ => stepG_markAt .acquire (by simp) rfl rfl (by k_ne) rfl H.f_acquire (x_acquire_n L) (x_acquire_b L) (x_acquire_x L) (x_acquire_f L) (by simp [Act.eval, stA]), on_of (mT + 60) rfl fun w hK => ?_⟩⟩
    walk_nrm
    repeat (first
      | u_c stepG_seq ok_rely hK
      | u_c stepG_region_end ok_rely hK
      | u_reg ok_rely hK
      | u_cond true ok_rely hK
      | u_cond false ok_rely hK
      | u_c stepG_skip ok_rely hK
      | u_c stepG_block ok_rely hK
      | u_c stepG_loop ok_rely hK
      | u_c stepG_inBlock ok_rely hK
      | u_c stepG_inLoop ok_rely hK
      | (rw [at_op]; u_skip ok_rely hK)
      | (rw [at_op]; u_op ok_rely hK))
    u_c stepG_ret' ok_rely hK
    u_leave0 H.f_wait ok_rely hK
    exact (hT _ hK).mono (Nat.le_add_right _ _)
  · obtain ⟨S, hS⟩ : ∃ S : Int, (v : Int) * KK = S := ⟨_, rfl⟩
    have a1 : S / 4294967296 = (v : Int) := by rw [← hS]; simp only [KK]; omega
    have b1 : bits .and .u64 S 2147483648 = 0 := by rw [← hS]; have := st_flag v 0 (by omega) (by omega); simpa [KK] using this
    have b2 : bits .and .u64 S 2147483647 = 0 := by rw [← hS]; have := st_waiters v 0 (by omega) (by omega); simpa [KK] using this
    have c1 : IntKind.i32.wrap (v : Int) = (v : Int) := by rw [IntKind.wrap_i32]; omega
    have w1 : IntKind.u64.wrap (S + 1) = S + 1 := by rw [IntKind.wrap_u64, ← hS]; simp only [KK]; omega
    have q5 : ((v : Int) == 0) = false := by simp; omega
    have q6 : decide ((v : Int) = 0) = false := decide_eq_false (by omega)
    rw [hS]
    refine ⟨_, fun w hw => stepG_load_atomic (v := S) rfl rfl (by k_ne) rfl H.f_loadU64 (x_loadU64_n L) (x_loadU64_b L) (x_loadU64_x L) .u64 (x_loadU64_f L) rfl hw.cellSt, on_neg hvp (on_of 100 rfl fun w hK => ?_)⟩
    walk_nrm
    repeat (first
      | u_c stepG_seq ok_rely hK
      | u_c stepG_region_end ok_rely hK
      | u_reg ok_rely hK
      | u_cond true ok_rely hK
      | u_cond false ok_rely hK
      | u_c stepG_skip ok_rely hK
      | u_c stepG_block ok_rely hK
      | u_c stepG_loop ok_rely hK
      | u_c stepG_inBlock ok_rely hK
      | u_c stepG_inLoop ok_rely hK
      | (rw [at_op]; u_skip ok_rely hK)
      | (rw [at_op]; u_op ok_rely hK))
    u_c stepG_ret' ok_rely hK
    u_leave1 H.f_uLoad ok_rely hK
    repeat (first
      | u_c stepG_seq ok_rely hK
      | u_c stepG_region_end ok_rely hK
      | u_reg ok_rely hK
      | u_cond true ok_rely hK
      | u_cond false ok_rely hK
      | u_c stepG_skip ok_rely hK
      | u_c stepG_block ok_rely hK
      | u_c stepG_loop ok_rely hK
      | u_c stepG_inBlock ok_rely hK
      | u_c stepG_inLoop ok_rely hK
      | (rw [at_op]; u_skip ok_rely hK)
      | (rw [at_op]; u_op ok_rely hK))
    u_call H.f_uCas (nm_uCas L) uCasFn ok_rely hK
    repeat (first
      | u_c stepG_seq ok_rely hK
      | u_c stepG_region_end ok_rely hK
      | u_reg ok_rely hK
      | u_cond true ok_rely hK
      | u_cond false ok_rely hK
      | u_c stepG_skip ok_rely hK
      | u_c stepG_block ok_rely hK
      | u_c stepG_loop ok_rely hK
      | u_c stepG_inBlock ok_rely hK
      | u_c stepG_inLoop ok_rely hK
      | (rw [at_op]; u_skip ok_rely hK)
      | (rw [at_op]; u_op ok_rely hK))
    refine Goes.stop (fun w₁ h₁ => ?_)
    clear h₁ hK
    refine ⟨rfl, ⟨_, _, rfl⟩, ?_, fun v' hv' hne => ?_⟩
    · rw [hS]
      refine ⟨_, fun w hw => (stepG_cas_hit (v := S) (n := S + 1) rfl rfl (by k_ne) rfl H.f_casU64 (x_casU64_n L) (x_casU64_b L) (x_casU64_x L) .u64 (x_casU64_f L) rfl rfl rfl hw.cellSt (hw.thaw 0)).trans (by rfl), on_of 120 rfl fun w hK => ?_⟩
      walk_nrm
      repeat (first
        | u_c stepG_seq ok_rely hK
        | u_c stepG_region_end ok_rely hK
        | u_reg ok_rely hK
        | u_cond true ok_rely hK
        | u_cond false ok_rely hK
        | u_c stepG_skip ok_rely hK
        | u_c stepG_block ok_rely hK
        | u_c stepG_loop ok_rely hK
        | u_c stepG_inBlock ok_rely hK
        | u_c stepG_inLoop ok_rely hK
        | (rw [at_op]; u_skip ok_rely hK)
        | (rw [at_op]; u_op ok_rely hK))
      u_c stepG_ret' ok_rely hK
      u_leave1 H.f_uCas ok_rely hK
      repeat (first
        | u_c stepG_seq ok_rely hK
        | u_c stepG_region_end ok_rely hK
        | u_reg ok_rely hK
        | u_cond true ok_rely hK
        | u_cond false ok_rely hK
        | u_c stepG_skip ok_rely hK
        | u_c stepG_block ok_rely hK
        | u_c stepG_loop ok_rely hK
        | u_c stepG_inBlock ok_rely hK
        | u_c stepG_inLoop ok_rely hK
        | (rw [at_op]; u_skip ok_rely hK)
        | (rw [at_op]; u_op ok_rely hK))
      u_conv H.underlying_tPU32 H.room_tU32 (WgLive.cell1 hK.wg).choose_spec ok_rely hK
      refine Goes.stop (fun w₁ h₁ => ?_)
      clear h₁ hK
      refine ⟨rfl, ⟨⟨_, _, rfl⟩, _, fun w₁ _ => stepG_markAt .write (by simp) rfl rfl (by k_ne) rfl H.f_raceWrite (x_raceWrite_n L) (x_raceWrite_b L) (x_raceWrite_x L) (x_raceWrite_f L) (by simp [Act.eval, smA]), on_of (80) rfl fun w hK => ?_⟩⟩
      walk_nrm
      repeat (first
        | u_c stepG_seq ok_rely hK
        | u_c stepG_region_end ok_rely hK
        | u_reg ok_rely hK
        | u_cond true ok_rely hK
        | u_cond false ok_rely hK
        | u_c stepG_skip ok_rely hK
        | u_c stepG_block ok_rely hK
        | u_c stepG_loop ok_rely hK
        | u_c stepG_inBlock ok_rely hK
        | u_c stepG_inLoop ok_rely hK
        | (rw [at_op]; u_skip ok_rely hK)
        | (rw [at_op]; u_op ok_rely hK))
      refine Goes.stop (fun w₁ h₁ => ?_)
      clear h₁ hK
      refine ⟨rfl, ⟨_, _, rfl⟩, rfl, fun w st hw => stepG_semacquire_wait rfl rfl rfl H.f_semacquire (x_semacquire_n L) (x_semacquire_b L) (x_semacquire_x L) (x_semacquire_f L) (by simp [Act.eval, smA]) hw.cellSm, _, fun w hw => (stepG_semacquire (n := 1) rfl rfl (by k_ne) rfl H.f_semacquire (x_semacquire_n L) (x_semacquire_b L) (x_semacquire_x L) (x_semacquire_f L) (by simp [Act.eval, smA]) hw.cellSm (by k_ne) (hw.thaw 1)).trans (by rfl), on_of 60 rfl fun w hK => ?_⟩
      walk_nrm
      repeat (first
        | u_c stepG_seq ok_rely hK
        | u_c stepG_region_end ok_rely hK
        | u_reg ok_rely hK
        | u_cond true ok_rely hK
        | u_cond false ok_rely hK
        | u_c stepG_skip ok_rely hK
        | u_c stepG_block ok_rely hK
        | u_c stepG_loop ok_rely hK
        | u_c stepG_inBlock ok_rely hK
        | u_c stepG_inLoop ok_rely hK
        | (rw [at_op]; u_skip ok_rely hK)
        | (rw [at_op]; u_op ok_rely hK))
      u_call H.f_uLoad (nm_uLoad L) uLoadFn ok_rely hK
      repeat (first
        | u_c stepG_seq ok_rely hK
        | u_c stepG_region_end ok_rely hK
        | u_reg ok_rely hK
        | u_cond true ok_rely hK
        | u_cond false ok_rely hK
        | u_c stepG_skip ok_rely hK
        | u_c stepG_block ok_rely hK
        | u_c stepG_loop ok_rely hK
        | u_c stepG_inBlock ok_rely hK
        | u_c stepG_inLoop ok_rely hK
        | (rw [at_op]; u_skip ok_rely hK)
        | (rw [at_op]; u_op ok_rely hK))
      refine Goes.stop (fun w₁ h₁ => ?_)
      clear h₁ hK
      refine ⟨rfl, ⟨_, _, rfl⟩, _, fun w hw => stepG_load_atomic (v := 0) rfl rfl (by k_ne) rfl H.f_loadU64 (x_loadU64_n L) (x_loadU64_b L) (x_loadU64_x L) .u64 (x_loadU64_f L) rfl hw.cellSt, on_of 60 rfl fun w hK => ?_⟩
      walk_nrm
      repeat (first
        | u_c stepG_seq ok_rely hK
        | u_c stepG_region_end ok_rely hK
        | u_reg ok_rely hK
        | u_cond true ok_rely hK
        | u_cond false ok_rely hK
        | u_c stepG_skip ok_rely hK
        | u_c stepG_block ok_rely hK
        | u_c stepG_loop ok_rely hK
        | u_c stepG_inBlock ok_rely hK
        | u_c stepG_inLoop ok_rely hK
        | (rw [at_op]; u_skip ok_rely hK)
        | (rw [at_op]; u_op ok_rely hK))
      u_c stepG_ret' ok_rely hK
      u_leave1 H.f_uLoad ok_rely hK
      repeat (first
        | u_c stepG_seq ok_rely hK
        | u_c stepG_region_end ok_rely hK
        | u_reg ok_rely hK
        | u_cond true ok_rely hK
        | u_cond false ok_rely hK
        | u_c stepG_skip ok_rely hK
        | u_c stepG_block ok_rely hK
        | u_c stepG_loop ok_rely hK
        | u_c stepG_inBlock ok_rely hK
        | u_c stepG_inLoop ok_rely hK
        | (rw [at_op]; u_skip ok_rely hK)
        | (rw [at_op]; u_op ok_rely hK))
      refine Goes.stop (fun w₁ h₁ => ?_)
      clear h₁ hK
      refine ⟨rfl, ⟨⟨_, _, rfl⟩, _, fun w₁ _ => stepG_mark0 .enable (by simp) rfl rfl (by k_ne) rfl H.f_enable (x_enable_n L) (x_enable_b L) (x_enable_x L) (x_enable_f L), on_of 40 rfl fun w hK => ?_⟩⟩
      walk_nrm
      repeat (first
        | u_c stepG_seq ok_rely hK
        | u_c stepG_region_end ok_rely hK
        | u_reg ok_rely hK
        | u_cond true ok_rely hK
        | u_cond false ok_rely hK
        | u_c stepG_skip ok_rely hK
        | u_c stepG_block ok_rely hK
        | u_c stepG_loop ok_rely hK
        | u_c stepG_inBlock ok_rely hK
        | u_c stepG_inLoop ok_rely hK
        | (rw [at_op]; u_skip ok_rely hK)
        | (rw [at_op]; u_op ok_rely hK))
      u_conv H.underlying_tWgP H.room_tWg (WgLive.cell0 hK.wg).choose_spec ok_rely hK
      refine Goes.stop (fun w₁ h₁ => ?_)
      clear h₁ hK
      refine ⟨rfl, ⟨⟨_, _, rfl⟩, _, fun w₁ _ => stepG_markAt .acquire (by simp) rfl rfl (by k_ne) rfl H.f_acquire (x_acquire_n L) (x_acquire_b L) (x_acquire_x L) (x_acquire_f L) (by simp [Act.eval, stA]), on_of (mT + 60) rfl fun w hK => ?_⟩⟩
      walk_nrm
      repeat (first
        | u_c stepG_seq ok_rely hK
        | u_c stepG_region_end ok_rely hK
        | u_reg ok_rely hK
        | u_cond true ok_rely hK
        | u_cond false ok_rely hK
        | u_c stepG_skip ok_rely hK
        | u_c stepG_block ok_rely hK
        | u_c stepG_loop ok_rely hK
        | u_c stepG_inBlock ok_rely hK
        | u_c stepG_inLoop ok_rely hK
        | (rw [at_op]; u_skip ok_rely hK)
        | (rw [at_op]; u_op ok_rely hK))
      u_c stepG_ret' ok_rely hK
      u_leave0 H.f_wait ok_rely hK
      exact (hT _ hK).mono (Nat.le_add_right _ _)
    · refine ⟨_, fun w hw => stepG_cas_miss (v := (v' : Int) * KK) (old := S) (n := S + 1) rfl rfl (by k_ne) rfl H.f_casU64 (x_casU64_n L) (x_casU64_b L) (x_casU64_x L) .u64 (x_casU64_f L) rfl rfl rfl hw.cellSt (hw.thaw 0) (by rw [← hS]; simp only [KK]; omega), on_of 60 rfl fun w hK => ?_⟩
      walk_nrm
      repeat (first
        | u_c stepG_seq ok_rely hK
        | u_c stepG_region_end ok_rely hK
        | u_reg ok_rely hK
        | u_cond true ok_rely hK
        | u_cond false ok_rely hK
        | u_c stepG_skip ok_rely hK
        | u_c stepG_block ok_rely hK
        | u_c stepG_loop ok_rely hK
        | u_c stepG_inBlock ok_rely hK
        | u_c stepG_inLoop ok_rely hK
        | (rw [at_op]; u_skip ok_rely hK)
        | (rw [at_op]; u_op ok_rely hK))
      u_c stepG_ret' ok_rely hK
      u_leave1 H.f_uCas ok_rely hK
      repeat (first
        | u_c stepG_seq ok_rely hK
        | u_c stepG_region_end ok_rely hK
        | u_reg ok_rely hK
        | u_cond true ok_rely hK
        | u_cond false ok_rely hK
        | u_c stepG_skip ok_rely hK
        | u_c stepG_block ok_rely hK
        | u_c stepG_loop ok_rely hK
        | u_c stepG_inBlock ok_rely hK
        | (rw [at_op]; u_skip ok_rely hK)
        | (rw [at_op]; u_op ok_rely hK))
      u_c stepG_inLoop ok_rely hK
      exact Goes.stop fun w₁ _ => ⟨rfl, _, rfl, by simp, by simp⟩
set_option maxRecDepth 100000 in
theorem wait_start (H : WgLib P L) {fs : List Frame} :
    ∀ w, Ok2 c L.tWg tT w → Goes P true (fun _ w => Ok2 c L.tWg tT w) DC0 (fun g _ => g.status = .running ∧ xWtD P c L.tWg tT (xAn L c fs) g) 20 (G ((base L.wait).at ⟨#[.pointer (some ⟨c.C2, 0, none⟩), undef, undef, undef, undef, undef, undef, undef, undef, undef, undef, undef, undef, undef, undef, undef, undef, undef, undef, undef, undef, undef, undef, undef, undef, undef, undef, undef, undef, undef, undef, undef, undef, undef, undef, undef, undef, undef, undef, undef, undef, undef, undef, undef, undef, undef, undef, undef, undef, undef, undef, undef, undef, undef, undef, undef, undef, undef, undef, undef, undef, undef, undef, undef, undef, undef, undef, undef, undef, undef, undef, undef, undef, undef, undef, undef, undef, undef, undef, undef, undef, undef, undef, undef], []⟩ [.code (body_wait L)]) fs) w := by
  intro w hK
  lib_facts
  simp only [body_wait, waitFn, Option.getD_some]
  repeat (first
    | u_c stepG_seq ok_rely hK
    | u_c stepG_region_end ok_rely hK
    | u_reg ok_rely hK
    | u_cond true ok_rely hK
    | u_cond false ok_rely hK
    | u_c stepG_skip ok_rely hK
    | u_c stepG_block ok_rely hK
    | u_c stepG_loop ok_rely hK
    | u_c stepG_inBlock ok_rely hK
    | u_c stepG_inLoop ok_rely hK
    | (rw [at_op]; u_skip ok_rely hK)
    | (rw [at_op]; u_op ok_rely hK))
  refine Goes.stop (fun w₁ h₁ => ?_)
  clear h₁ hK
  refine ⟨rfl, ⟨⟨_, _, rfl⟩, _, fun w₁ _ => stepG_mark0 .disable (by simp) rfl rfl (by k_ne) rfl H.f_disable (x_disable_n L) (x_disable_b L) (x_disable_x L) (x_disable_f L), on_of 20 rfl fun w hK => ?_⟩⟩
  walk_nrm
  u_c stepG_region_end ok_rely hK
  u_c stepG_block ok_rely hK
  u_c stepG_loop ok_rely hK
  exact Goes.stop fun w₁ _ => ⟨rfl, _, rfl, by simp, by simp⟩
end
end Go.Proofs.Ytpdemelchhkfaaa.Cs
