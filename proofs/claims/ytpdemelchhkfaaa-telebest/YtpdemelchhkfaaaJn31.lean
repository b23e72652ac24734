/-
  Several texts, joined: CxJ, CxK, TgD.
-/
import Derived.Test.YtpdemelchhkfaaaJn30
import Derived.Test.YtpdemelchhkfaaaJn21
import Derived.Test.YtpdemelchhkfaaaTgC
import Derived.Conc.AppendWalk
/-
  Goroutine 0 in tele.together: its go statements.
-/
namespace Go.Proofs.Ytpdemelchhkfaaa.Cs
open Go.Conc Go.RowKit Go.Conc.Lib Go.ConcR.Gen Go.ConcN.Gen
open Go.ConcR (KK WgAt wgBlock stA smA rd wr mk DC0)
noncomputable def gBody : Code := match Try.f20.body.getD .skip with | .seq _ (.seq _ (.seq _ (.seq _ c))) => c | _ => .skip
noncomputable def gLoop : Code := match gBody with | .seq (.seq _ (.block _ (.loop c))) _ => c | _ => .skip
noncomputable def gR8 : Code := match gBody with | .seq _ r => r | _ => .skip
noncomputable def gR7 : Code := match gLoop with | .seq _ (.seq _ (.seq _ r)) => r | _ => .skip
noncomputable def gO6 : Array Oper := match gLoop with | .seq _ (.seq _ (.seq (.block _ (.region _ o _)) _)) => o | _ => #[]
def gGo (c : Cst) (bN bL : Nat) (cs : List Frame) (j : Nat) (g : Goroutine) : Prop := ∃ v0 v1 v2 v3 v8 v9 v12 v14 v15 : Value, g = G ((base 20).at ⟨#[v0, v1, v2, v3, .pointer (some ⟨bN, 0, none⟩), .pointer (some ⟨bL, 0, none⟩), .pointer (some ⟨c.C1, 0, none⟩), .pointer (some ⟨c.C2, 0, none⟩), v8, v9, .int .i64 (c.n : Nat), .int .i64 (j : Nat), v12, .func (.func 46) #[] #[.pointer (some ⟨c.C2, 0, none⟩), .pointer (some ⟨c.C1, 0, none⟩), .pointer (some ⟨bN, 0, none⟩), .pointer (some ⟨bL, 0, none⟩)], v14, v15], []⟩ [.inRegion gO6 [1], .inBlock 1, .code gR7, .inLoop gLoop, .inBlock 0, .code gR8]) cs
section
variable {c : Cst} {bN bL : Nat} {cs : List Frame} {g : Goroutine}
set_option maxRecDepth 100000 in
theorem gGo_s {j : Nat} (h : gGo c bN bL cs j g) : isG g ∧ ∃ g', (∀ w, stepG Try.prog true g w = .spawn g' (born Try.prog (tGo c bN bL)) w #[]) ∧ ∃ v0 v1 v2 v3 v8 v9 v12 v14 v15 : Value, g' = G ((base 20).at ⟨#[v0, v1, v2, v3, .pointer (some ⟨bN, 0, none⟩), .pointer (some ⟨bL, 0, none⟩), .pointer (some ⟨c.C1, 0, none⟩), .pointer (some ⟨c.C2, 0, none⟩), v8, v9, .int .i64 (c.n : Nat), .int .i64 (j : Nat), v12, .func (.func 46) #[] #[.pointer (some ⟨c.C2, 0, none⟩), .pointer (some ⟨c.C1, 0, none⟩), .pointer (some ⟨bN, 0, none⟩), .pointer (some ⟨bL, 0, none⟩)], v14, v15], []⟩ [.inRegion gO6 [], .inBlock 1, .code gR7, .inLoop gLoop, .inBlock 0, .code gR8]) cs := by
  obtain ⟨v0, v1, v2, v3, v8, v9, v12, v14, v15, rfl⟩ := h
  refine ⟨⟨_, _, rfl⟩, _, fun w => ?_, v0, v1, v2, v3, v8, v9, v12, v14, v15, rfl⟩
  simp only [gO6, gLoop, gBody, Try.f20, Option.getD_some]
  rw [stepG_spawn (d := tGo c bN bL) (w' := w) (f := .func 46) (c := #[.pointer (some ⟨c.C2, 0, none⟩), .pointer (some ⟨c.C1, 0, none⟩), .pointer (some ⟨bN, 0, none⟩), .pointer (some ⟨bL, 0, none⟩)]) rfl rfl (by k_ne) (by simp [execOp, go_sem, tGo]) rfl]
  rw [listed_nil (by simp [go_sem])]
  rfl
end
end Go.Proofs.Ytpdemelchhkfaaa.Cs

/-
  Goroutine 0 in tele.together: from one go statement to the next one, or into Wait; tele.together is such a pool.
-/
namespace Go.Proofs.Ytpdemelchhkfaaa.Cs
open Go.Conc Go.RowKit Go.Conc.Lib Go.ConcR.Gen Go.ConcN.Gen
open Go.ConcR (KK WgAt wgBlock stA smA rd wr mk DC0)
noncomputable def gO8 : Array Oper := match gR8 with | .region _ o _ => o | .seq (.region _ o _) _ => o | _ => #[]
/-- Behind Wait. -/
def gJn (cs : List Frame) (g : Goroutine) : Prop := ∃ T : Array Value, T.size = 16 ∧ g = G ((base 20).at ⟨T, []⟩ [.inRegion gO8 []]) cs
/-- At the call of Wait. -/
def gWt (c : Cst) (bN bL : Nat) (cs : List Frame) (g : Goroutine) : Prop := ∃ v0 v1 v2 v3 v8 v9 v12 v14 v15 v10 v11 v13 : Value, g = G ((base 20).at ⟨#[v0, v1, v2, v3, .pointer (some ⟨bN, 0, none⟩), .pointer (some ⟨bL, 0, none⟩), .pointer (some ⟨c.C1, 0, none⟩), .pointer (some ⟨c.C2, 0, none⟩), v8, v9, v10, v11, v12, v13, v14, v15], []⟩ [.inRegion gO8 [0]]) cs
section
variable {c : Cst} {tT : TypeId} {F : Nat → Value} {bN bL bS bB bC : Nat} {vs : Value} {xb : Option Addr} {nb cb : Nat} {cs : List Frame} {g : Goroutine}
set_option maxRecDepth 100000 in
set_option maxHeartbeats 8000000 in
theorem gGo_on {j : Nat} (hn : c.n ≤ 1000) (hj : j < c.n) (h : ∃ v0 v1 v2 v3 v8 v9 v12 v14 v15 : Value, g = G ((base 20).at ⟨#[v0, v1, v2, v3, .pointer (some ⟨bN, 0, none⟩), .pointer (some ⟨bL, 0, none⟩), .pointer (some ⟨c.C1, 0, none⟩), .pointer (some ⟨c.C2, 0, none⟩), v8, v9, .int .i64 (c.n : Nat), .int .i64 (j : Nat), v12, .func (.func 46) #[] #[.pointer (some ⟨c.C2, 0, none⟩), .pointer (some ⟨c.C1, 0, none⟩), .pointer (some ⟨bN, 0, none⟩), .pointer (some ⟨bL, 0, none⟩)], v14, v15], []⟩ [.inRegion gO6 [], .inBlock 1, .code gR7, .inLoop gLoop, .inBlock 0, .code gR8]) cs) : On Try.prog c wgL.tWg tT true (fun g => if j + 1 < c.n then gGo c bN bL cs (j + 1) g else gWt c bN bL cs g) g := by
  obtain ⟨v0, v1, v2, v3, v8, v9, v12, v14, v15, rfl⟩ := h
  refine ⟨rfl, fun w _ => ⟨0 + 40, ?_⟩⟩
  show Goes _ _ _ _ _ _ _ _
  simp only [gO6, gR7, gR8, gLoop, gBody, Try.f20, Option.getD_some]
  have hwr : IntKind.i64.wrap ((j : Int) + 1) = ((j + 1 : Nat) : Int) := by rw [IntKind.wrap_i64]; omega
  by_cases hl : j + 1 < c.n
  · simp only [if_pos hl]
    have hl' : decide ((j : Int) + 1 < (c.n : Int)) = true := by simp; omega
    repeat (first
      | (refine Goes.step rfl (fun w₁ h₁ => ?_); walk_rw; refine ⟨dq_idle c w₁, ?_⟩; clear h₁)
      | (rw [at_op]
         refine Goes.step rfl (fun w₁ h₁ => ?_)
         refine goes_oper_k rfl rfl (by decide) (fun K hK => ?_)
         go_simp
         refine hK _ _ ⟨⟨rfl, rfl, rfl, rfl, fun e he => ?_⟩, ?_⟩
         · have hm := mem_listed he
           simp [go_sem, *] at hm
         clear hK K h₁))
    refine Goes.step rfl (fun w₁ h₁ => ?_)
    rw [stepG_cond (t := true) rfl]
    simp only [goes_go, ↓reduceIte]
    refine ⟨dq_idle c w₁, ?_⟩
    clear h₁
    repeat (first
      | (refine Goes.step rfl (fun w₁ h₁ => ?_); walk_rw; refine ⟨dq_idle c w₁, ?_⟩; clear h₁)
      | (rw [at_op]
         refine Goes.step rfl (fun w₁ h₁ => ?_)
         refine goes_oper_k rfl rfl (by decide) (fun K hK => ?_)
         go_simp
         refine hK _ _ ⟨⟨rfl, rfl, rfl, rfl, fun e he => ?_⟩, ?_⟩
         · have hm := mem_listed he
           simp [go_sem, *] at hm
         clear hK K h₁))
    exact Goes.stop fun w₁ _ => ⟨rfl, _, _, _, _, _, _, _, _, _, rfl⟩
  · simp only [if_neg hl]
    have hl' : decide ((j : Int) + 1 < (c.n : Int)) = false := by simp; omega
    repeat (first
      | (refine Goes.step rfl (fun w₁ h₁ => ?_); walk_rw; refine ⟨dq_idle c w₁, ?_⟩; clear h₁)
      | (rw [at_op]
         refine Goes.step rfl (fun w₁ h₁ => ?_)
         refine goes_oper_k rfl rfl (by decide) (fun K hK => ?_)
         go_simp
         refine hK _ _ ⟨⟨rfl, rfl, rfl, rfl, fun e he => ?_⟩, ?_⟩
         · have hm := mem_listed he
           simp [go_sem, *] at hm
         clear hK K h₁))
    refine Goes.step rfl (fun w₁ h₁ => ?_)
    rw [stepG_cond (t := false) rfl]
    simp only [goes_go, Bool.false_eq_true, ↓reduceIte]
    refine ⟨dq_idle c w₁, ?_⟩
    clear h₁
    refine Goes.step rfl (fun w₁ h₁ => ?_)
    apply goes_exit
    · rfl
    refine ⟨dq_idle c w₁, ?_⟩
    clear h₁
    repeat (refine Goes.step rfl (fun w₁ h₁ => ?_); walk_rw; refine ⟨dq_idle c w₁, ?_⟩; clear h₁)
    exact Goes.stop fun w₁ _ => ⟨rfl, _, _, _, _, _, _, _, _, _, _, _, _, rfl⟩
/-- Where together calls Wait. -/
noncomputable def gFr (T : Array Value) : Frame := (base 20).at ⟨T, []⟩ [.inRegion gO8 [0]]
set_option maxRecDepth 100000 in
theorem gWt_on (h : gWt c bN bL cs g) : ∀ w, Ok2 c wgL.tWg tT w → Walk2 Try.prog c wgL.tWg tT true (fun g => ∃ T, T.size = 16 ∧ xWtD Try.prog c wgL.tWg tT (xAn wgL c (gFr T :: cs)) g) 21 g w := by
  intro w hK
  obtain ⟨v0, v1, v2, v3, v8, v9, v12, v14, v15, v10, v11, v13, rfl⟩ := h
  refine goes_weak (dq_of0 c) (fun _ _ x => x) ?_
  refine Goes.step rfl (fun w₁ h₁ => ?_)
  refine goes_call (f := 49) (fn := waitFn wgL) (c := body_wait wgL) rfl rfl (by k_ne) rfl Try.func49 (by kernel_rfl) rfl ⟨⟨rfl, rfl⟩, ?_⟩
  have hw := goes_weak (fun _ _ _ x => x) (fun g _ (x : g.status = .running ∧ xWtD Try.prog c wgL.tWg tT (xAn wgL c (gFr #[v0, v1, v2, v3, .pointer (some ⟨bN, 0, none⟩), .pointer (some ⟨bL, 0, none⟩), .pointer (some ⟨c.C1, 0, none⟩), .pointer (some ⟨c.C2, 0, none⟩), v8, v9, v10, v11, v12, v13, v14, v15] :: cs)) g) => (⟨x.1, _, rfl, x.2⟩ : g.status = .running ∧ ∃ T : Array Value, T.size = 16 ∧ xWtD Try.prog c wgL.tWg tT (xAn wgL c (gFr T :: cs)) g)) (wait_start (c := c) (tT := tT) (P := Try.prog) wgLib (fs := gFr #[v0, v1, v2, v3, .pointer (some ⟨bN, 0, none⟩), .pointer (some ⟨bL, 0, none⟩), .pointer (some ⟨c.C1, 0, none⟩), .pointer (some ⟨c.C2, 0, none⟩), v8, v9, v10, v11, v12, v13, v14, v15] :: cs) w₁ h₁)
  refine Eq.mp ?_ hw
  kernel_rfl
theorem gJn_of {T : Array Value} (hT : T.size = 16) : ∀ w, Ok2 c wgL.tWg tT w → Goes Try.prog true (fun _ w => Ok2 c wgL.tWg tT w) DC0 (fun g _ => g.status = .running ∧ gJn cs g) 0 (G ((base 20).at ((⟨T, []⟩ : Act).put ((gO8[0]?).bind (·.dst)) (.tuple #[])) [.inRegion gO8 []]) cs) w := fun _ _ => Goes.stop fun _ _ => ⟨rfl, _, by
    show (T.setIfInBounds _ _).size = 16
    simpa using hT, rfl⟩
variable [Fns]
/-- tele.together is such a pool. -/
noncomputable def teleScr (p : TeP c F bN bL bS bB bC vs xb nb cb) (cs : List Frame) (n1 : 1 ≤ c.n ∧ c.n ≤ 1000) (s1 : 1 ≤ c.S0) (d1 : c.C1 < c.N1 ∧ c.C2 < c.N1 ∧ c.Fd < c.N1 ∧ c.C1 ≠ c.C2 ∧ c.C1 ≠ c.Fd ∧ c.C2 ≠ c.Fd) (fok : Fns.ok c.fB = true)
    (job : ∀ k, k < c.K → ∀ w, c.Ok w → ∃ (E : Env) (wl : World) (x : Array Value), (∀ b q s o, E b = some (q, s, o) → o = false ∧ c.Fix q) ∧ LR E x (c.ar k) ∧ WR Try.prog E wl w ∧ Fns.G ≤ wl.heap.size ∧ ∀ τ, Calls Try.prog c.fB x (wl.tp τ) fun e _ => ∃ v, e = .returned v ∧ v = F k) : Scr2 Try.prog c wgL.tWg tT F where
  Tak := xTak Try.prog c wgL.tWg tT F (tAn c bN bL)
  Cal := xCal Try.prog c wgL.tWg tT F (tAn c bN bL)
  Sto := xSto Try.prog c wgL.tWg tT F (tAn c bN bL)
  Rel := xRel Try.prog c wgL.tWg tT
  Dis := xDis Try.prog c wgL.tWg tT
  Dec := xDec Try.prog c wgL.tWg tT
  Lod := xLod Try.prog c wgL.tWg tT
  Zer := xZer Try.prog c wgL.tWg tT
  Sem := xSem Try.prog c wgL.tWg
  GoP := gGo c bN bL cs
  WtD := fun g => ∃ T, T.size = 16 ∧ xWtD Try.prog c wgL.tWg tT (xAn wgL c (gFr T :: cs)) g
  W1 := fun g => ∃ T, T.size = 16 ∧ xW1 Try.prog c wgL.tWg tT (gJn cs) (xAn wgL c (gFr T :: cs)) g
  W2 := fun v g => ∃ T, T.size = 16 ∧ xW2 Try.prog c wgL.tWg tT (gJn cs) (xAn wgL c (gFr T :: cs)) v g
  Sai := xSai Try.prog c wgL.tWg tT (gJn cs)
  W3 := xW3 Try.prog c wgL.tWg tT (gJn cs)
  W4 := xW4 Try.prog c wgL.tWg tT (gJn cs)
  Ke := xKe Try.prog c wgL.tWg tT (gJn cs)
  Acq := xAcq Try.prog c wgL.tWg tT (gJn cs)
  JnP := gJn cs
  n1 := n1
  k1 := p.k1
  s1 := s1
  d1 := d1
  one := fun k => by obtain ⟨n, e⟩ := p.FI k; rw [e]; rfl
  tak := fun _ h => h
  cal := fun _ _ h _ => h
  sto := fun _ _ h _ => ⟨h.1, let ⟨g', h1, h2⟩ := h.2; ⟨g', h1, on_trans 60 h2 fun _ h w hw => t_round p h w hw⟩⟩
  rel := fun _ h => h
  dis := fun _ h => h
  dec := fun _ h => h
  lod := fun _ h => h
  zer := fun _ h => h
  sem := fun _ h => h
  gop := fun j g h hj => by
    obtain ⟨h1, g', h2, h3⟩ := gGo_s h
    refine ⟨h1, g', _, h2, tBorn_tak p, on_trans 21 (gGo_on n1.2 hj h3) fun g hg w hw => ?_⟩
    by_cases hl : j + 1 < c.n
    · simp only [if_pos hl] at hg ⊢
      exact Goes.stop fun _ _ => ⟨by obtain ⟨_, _, _, _, _, _, _, _, _, rfl⟩ := hg; rfl, hg⟩
    · simp only [if_neg hl] at hg ⊢
      exact gWt_on hg w hw
  wtd := fun g h => by
    obtain ⟨T, hT, h1, g', h2, h3⟩ := h
    exact ⟨h1, g', h2, on_trans 60 h3 fun g hg w hw => goes_weak (dq_of0 c) (fun g _ x => ⟨x.1, T, hT, x.2⟩) (wait_round wgLib (gJn_of hT) g hg w hw)⟩
  w1 := fun g h => by
    obtain ⟨T, hT, h1, h2⟩ := h
    refine ⟨h1, fun v hv => ?_⟩
    obtain ⟨g', h3, h4⟩ := h2 v hv
    refine ⟨g', h3, on_trans 0 h4 fun g hg w _ => ?_⟩
    by_cases e : v = 0
    · simp only [if_pos e] at hg ⊢
      exact Goes.stop fun _ _ => ⟨by obtain ⟨_, _, rfl⟩ := hg.1; rfl, hg⟩
    · simp only [if_neg e] at hg ⊢
      exact Goes.stop fun _ _ => ⟨by obtain ⟨_, _, rfl⟩ := hg.1; rfl, T, hT, hg⟩
  w2h := fun v g h _ _ => let ⟨_, _, h1, h2, _⟩ := h; ⟨h1, h2⟩
  w2m := fun vs g h v hv hne => by
    obtain ⟨T, hT, _, _, h3⟩ := h
    obtain ⟨g', h4, h5⟩ := h3 v hv hne
    exact ⟨g', h4, on_trans 60 h5 fun g hg w hw => goes_weak (dq_of0 c) (fun g _ x => ⟨x.1, T, hT, x.2⟩) (wait_round wgLib (gJn_of hT) g hg w hw)⟩
  sai := fun _ h => h
  w3 := fun _ h => h
  w4 := fun _ h => h
  ke := fun _ h => h
  acq := fun _ h => h
  fok := fok
  job := job
  vr := fun k E v' h => by
    obtain ⟨n, e⟩ := p.FI k
    rw [e] at h ⊢
    cases h
    rfl
end
end Go.Proofs.Ytpdemelchhkfaaa.Cs

/-
  tele.Best in company: its counts are made, and on to the call of Add in tele.together.
-/
namespace Go.Proofs.Ytpdemelchhkfaaa.Cs
open Go.Conc Go.RowKit PK Tl
/-- What a walk of goroutine 0 holds of the world. -/
def HI (H : Array Obj) (o : Os) (out : Array (Nat × ByteArray)) (W : World) : Prop := W.heap = H ∧ W.os = o ∧ W.output = out
section
variable {H : Array Obj} {o : Os} {out : Array (Nat × ByteArray)} {W : World}
theorem HI.at' (h : HI H o out W) (d : Nat) : HI H o out (W.at d) := h
theorem HI.alloc (h : HI H o out W) (x : Obj) : HI (H.push x) o out (W.alloc x) := ⟨by show W.heap.push x = _; rw [h.1], h.2.1, h.2.2⟩
theorem one_cellT {q : Nat} {x : Value} {T : TypeId} (hq : W.heap[q]? = some (.cells #[x] T (0, 0))) : W.cell? ⟨q, 0, none⟩ = some x := by rw [cell_of_row _ _ _ _ _ _ hq]; rfl
theorem fz_cell {q : Nat} {x : Array Value} {T : TypeId} (hq : W.heap[q]? = some (.cells x T (0, 0))) : W.frozen? ⟨q, 0, none⟩ = false := RowAt.frozen (show RowAt W q T x from hq) 0
theorem hi_set {X : Array Obj} {u v : Value} {T : TypeId} (h : HI (X.push (.cells #[u] T (0, 0))) o out W) {q : Nat} (hq : q = X.size) : HI (X.push (.cells #[v] T (0, 0))) o out (W.setCell ⟨q, 0, none⟩ v) := by
  subst hq
  have hr : RowAt W X.size T #[u] := by
    show W.heap[X.size]? = _
    rw [h.1, Array.getElem?_push, if_pos rfl]
  refine ⟨Array.ext_getElem? fun i => ?_, h.2.1, h.2.2⟩
  by_cases e : i = X.size
  · subst e
    rw [Array.getElem?_push, if_pos rfl]
    exact hr.set 0 v
  · have h2 : (W.setCell ⟨X.size, 0, none⟩ v).heap[i]? = W.heap[i]? := Below.heap_setCell _ _ _ _ e
    rw [h2, h.1, Array.getElem?_push, Array.getElem?_push, if_neg e, if_neg e]
end
/-- What a step of goroutine 0's keeps that does not touch block Fd. -/
def DG (Sn : Nat → Prop) (Fd : Nat) (w w' : World) (es : Array Event) : Prop := DS Sn w w' es ∧ ∀ e ∈ es, ∀ x, (MemAct.ofEvent e).touch? = some x → ∀ ad, x.loc = .cell ad → ad.block ≠ Fd
section
variable {Sn : Nat → Prop} {Fd : Nat}
theorem dg_same (w : World) : DG Sn Fd w w #[] := ⟨⟨Nat.le_refl _, fun e he => by simp at he⟩, fun e he => by simp at he⟩
/-- An event that is right there. -/
def EvG (Sn : Nat → Prop) (Fd size : Nat) (e : Event) : Prop := (EvS Sn size e ∧ e.loc ≠ .mark .disable ∧ e.loc ≠ .mark .enable) ∧ ∀ x, (MemAct.ofEvent e).touch? = some x → ∀ ad, x.loc = .cell ad → ad.block ≠ Fd
theorem dg_of {w w' : World} {es : Array Event} (hs : w.heap.size ≤ w'.heap.size) (h : ∀ e ∈ es, EvG Sn Fd w'.heap.size e) : DG Sn Fd w w' es := ⟨⟨hs, fun e he => (h e he).1⟩, fun e he => (h e he).2⟩
theorem dg_cell {s : Nat} {a : Addr} {wr : Bool} (ha : a.block < s) (hn : ¬ Sn a.block) (hF : a.block ≠ Fd) : EvG Sn Fd s ⟨.cell a, wr, false⟩ := by
  refine ⟨⟨⟨fun e => ?_, fun x hx => ?_⟩, (fun e => by cases e), (fun e => by cases e)⟩, fun x hx ad e => ?_⟩
  · cases wr <;> cases e
  · have e1 : MemAct.ofEvent ⟨.cell a, wr, false⟩ = .access ⟨.cell a, wr, false⟩ := by cases wr <;> rfl
    rw [e1] at hx
    cases hx
    exact ⟨ha, fun k => absurd k hn⟩
  · have e1 : MemAct.ofEvent ⟨.cell a, wr, false⟩ = .access ⟨.cell a, wr, false⟩ := by cases wr <;> rfl
    rw [e1] at hx
    cases hx
    cases e
    exact hF
theorem gstepG {Stp : Goroutine → World → Prop} {H : Array Obj} {o : Os} {out : Array (Nat × ByteArray)} {mu : Nat} {g : Goroutine} {w : World} (hI : HI H o out w) (hs : g.status = .running) (h : ∀ w₁, HI H o out w₁ → (stepG Try.prog true g w₁).goes fun g' w' es => DG Sn Fd w₁ w' es ∧ Goes Try.prog true AtRel (DG Sn Fd) Stp mu g' w') : Goes Try.prog true AtRel (DG Sn Fd) Stp (mu + 1) g w :=
  Goes.step hs fun w₁ h₁ => by
    obtain ⟨d, rfl⟩ := h₁
    exact h _ (hI.at' d)
end
noncomputable def bO9 : Array Oper := match restAt 6 bBody with | .seq (.region _ o _) _ => o | _ => #[]
noncomputable def gO3 : Array Oper := match restAt 3 (Try.f20.body.getD .skip) with | .seq (.region _ o _) _ => o | _ => #[]
set_option maxRecDepth 100000 in
set_option maxHeartbeats 8000000 in
theorem to_add (g : Nat → Value) (ya yb : Option Addr) (ca cb bb b8 bs h la lb R : Nat) (hR0 : la * lb = R) (ha : 1 ≤ la ∧ la ≤ 47) (hb : 1 ≤ lb ∧ lb ≤ 47) (cs : List Frame) (Sn : Nat → Prop) (H : Array Obj) (o : Os) (out : Array (Nat × ByteArray)) (hbb : H[bb]? = some (.cells #[.slice yb lb cb] 24 (0, 0))) (hnb : ¬ Sn bb) (hSn : ¬ Sn (H.size + 1)) (w : World) (hI : HI H o out w) :
    ∃ mu, Goes Try.prog true AtRel (DG Sn H.size) (fun g' w' => g' = G ((base 20).at ⟨#[.int .i64 (h : Nat), .int .i64 (R : Int), .func (.func 21) #[] #[.pointer (some ⟨bs, 0, none⟩), .pointer (some ⟨bb, 0, none⟩), .pointer (some ⟨H.size + 1, 0, none⟩)], undef, .pointer (some ⟨H.size + 2, 0, none⟩), .pointer (some ⟨H.size + 3, 0, none⟩), .pointer (some ⟨H.size + 4, 0, none⟩), .pointer (some ⟨H.size + 5, 0, none⟩), .int .i64 (h : Nat), undef, undef, undef, undef, undef, undef, undef], []⟩ [.inRegion gO3 [1], .code gBody]) (mkF 7 #[g 0, .slice ya la ca, g 2, .int .i64 (h : Nat), g 4, g 5, .pointer (some ⟨bb, 0, none⟩), g 7, .pointer (some ⟨b8, 0, none⟩), g 9, g 10, g 11, g 12, .pointer (some ⟨bs, 0, none⟩), .pointer (some ⟨H.size + 1, 0, none⟩), g 15, g 16, g 17, g 18, g 19, g 20, g 21, g 22, g 23, g 24, g 25, g 26, g 27, g 28, g 29, g 30, g 31, g 32, g 33, g 34, g 35, g 36, g 37, g 38, g 39, g 40, g 41, g 42, g 43, g 44, g 45, .slice ya la ca, .int .i64 (la : Nat), .slice yb lb cb, .int .i64 (lb : Nat), .int .i64 (R : Int), .slice (some ⟨H.size, 0, none⟩) R R, .int .i64 (h : Nat), .slice (some ⟨H.size, 0, none⟩) R R, .int .i64 (R : Int), .func (.func 21) #[] #[.pointer (some ⟨bs, 0, none⟩), .pointer (some ⟨bb, 0, none⟩), .pointer (some ⟨H.size + 1, 0, none⟩)], g 56, g 57, g 58, g 59, g 60, g 61, g 62, g 63, g 64, g 65, g 66, g 67, g 68, g 69, g 70, g 71] [.inRegion bO9 [4], .code (restAt 7 bBody)] .run :: cs) ∧ HI ((((((H.push (.cells (ints R fun _ => 0) 3)).push (.cells #[.slice (some ⟨H.size, 0, none⟩) R R] 22)).push (.cells #[.int .i64 (R : Int)] 3)).push (.cells #[.func (.func 21) #[] #[.pointer (some ⟨bs, 0, none⟩), .pointer (some ⟨bb, 0, none⟩), .pointer (some ⟨H.size + 1, 0, none⟩)]] 57)).push (.cells #[.int .i64 0] 85)).push (.cells #[.int .u64 0, .int .u32 0] 91)) o out w') mu (G (mkF 7 #[g 0, .slice ya la ca, g 2, .int .i64 (h : Nat), g 4, g 5, .pointer (some ⟨bb, 0, none⟩), g 7, .pointer (some ⟨b8, 0, none⟩), g 9, g 10, g 11, g 12, .pointer (some ⟨bs, 0, none⟩), g 14, g 15, g 16, g 17, g 18, g 19, g 20, g 21, g 22, g 23, g 24, g 25, g 26, g 27, g 28, g 29, g 30, g 31, g 32, g 33, g 34, g 35, g 36, g 37, g 38, g 39, g 40, g 41, g 42, g 43, g 44, g 45, g 46, g 47, g 48, g 49, g 50, g 51, g 52, g 53, g 54, g 55, g 56, g 57, g 58, g 59, g 60, g 61, g 62, g 63, g 64, g 65, g 66, g 67, g 68, g 69, g 70, g 71] [.code (restAt 5 bBody)] .run) cs) w := by
  have hlb : bb < H.size := (Array.getElem?_eq_some_iff.1 hbb).1
  have hmul : ((la : Int) * (lb : Int)) = (R : Int) := by rw [← hR0]; push_cast; rfl
  have hR : R ≤ 2209 := by rw [← hR0]; exact Nat.mul_le_mul ha.2 hb.2
  clear hR0
  have hwr : IntKind.i64.wrap (R : Int) = (R : Int) := by rw [IntKind.wrap_i64]; omega
  have hmk := run_make_row' (P := Try.prog) 22 3 (.int .i64 0) 8 Try.underlying22 g_info_int rfl .i64 .i64 R (by omega) (by omega)
  rw [p_made_tab] at hmk
  obtain ⟨ii, hii, hi1, _, hi3⟩ := tf_info_parts g_info_int
  have hem := fun (w : World) (es : Array Event) => events_make (P := Try.prog) w 22 3 ii _ Try.underlying22 hii hi1 .i64 .i64 (R : Int) (R : Int) (by omega) (Int.le_refl _) (by rw [hi3]; omega) (by omega) (by rw [hi3]; omega) es
  clear hii hi1 hi3
  refine ⟨80, ?_⟩
  simp only [restAt, bBody, Try.f7, Option.getD_some, bO9]
  show Goes _ _ _ _ _ _ (G ((base 7).at ⟨#[g 0, .slice ya la ca, g 2, .int .i64 (h : Nat), g 4, g 5, .pointer (some ⟨bb, 0, none⟩), g 7, .pointer (some ⟨b8, 0, none⟩), g 9, g 10, g 11, g 12, .pointer (some ⟨bs, 0, none⟩), g 14, g 15, g 16, g 17, g 18, g 19, g 20, g 21, g 22, g 23, g 24, g 25, g 26, g 27, g 28, g 29, g 30, g 31, g 32, g 33, g 34, g 35, g 36, g 37, g 38, g 39, g 40, g 41, g 42, g 43, g 44, g 45, g 46, g 47, g 48, g 49, g 50, g 51, g 52, g 53, g 54, g 55, g 56, g 57, g 58, g 59, g 60, g 61, g 62, g 63, g 64, g 65, g 66, g 67, g 68, g 69, g 70, g 71], []⟩ _) cs) w
  repeat (refine gstepG hI rfl (fun w₁ h₁ => ?_); walk_rw; refine ⟨dg_same _, ?_⟩; clear hI; have hI := h₁; clear h₁)
  refine gstepG hI rfl (fun w₁ h₁ => ?_)
  refine goes_oper_k rfl rfl (by decide) (fun K hK => ?_)
  go_simp
  refine hK _ _ ⟨dg_of (by simp) (fun e he => ?_), ?_⟩
  · have hm := mem_listed he
    simp [go_sem, *] at hm
  clear hK K hI
  have hI := h₁
  clear h₁
  refine gstepG hI rfl (fun w₁ h₁ => ?_)
  refine goes_oper_k rfl rfl (by decide) (fun K hK => ?_)
  go_simp
  refine hK _ _ ⟨dg_of (by simp) (fun e he => ?_), ?_⟩
  · have hm := mem_listed he
    simp [go_sem, *] at hm
  clear hK K hI
  have hI := h₁
  clear h₁
  refine gstepG hI rfl (fun w₁ h₁ => ?_)
  refine goes_oper_k rfl rfl (by decide) (fun K hK => ?_)
  have hC : w₁.cell? ⟨bb, 0, none⟩ = some (.slice yb lb cb) := one_cellT (by rw [h₁.1]; exact hbb)
  have hbl : bb < w₁.heap.size := by rw [h₁.1]; exact (Array.getElem?_eq_some_iff.1 hbb).1
  go_simp
  refine hK _ _ ⟨dg_of (by simp) (fun e he => ?_), ?_⟩
  · have hm := mem_listed he
    simp [go_sem, hC] at hm
    subst hm
    exact dg_cell hbl hnb (show bb ≠ H.size by omega)
  clear hK K hI
  clear hC hbl
  have hI := h₁
  clear h₁
  refine gstepG hI rfl (fun w₁ h₁ => ?_)
  refine goes_oper_k rfl rfl (by decide) (fun K hK => ?_)
  go_simp
  refine hK _ _ ⟨dg_of (by simp) (fun e he => ?_), ?_⟩
  · have hm := mem_listed he
    simp [go_sem, *] at hm
  clear hK K hI
  have hI := h₁
  clear h₁
  refine gstepG hI rfl (fun w₁ h₁ => ?_)
  refine goes_oper_k rfl rfl (by decide) (fun K hK => ?_)
  go_simp
  refine hK _ _ ⟨dg_of (by simp) (fun e he => ?_), ?_⟩
  · have hm := mem_listed he
    simp [go_sem, *] at hm
  clear hK K hI
  have hI := h₁
  clear h₁
  refine gstepG hI rfl (fun w₁ h₁ => ?_)
  refine goes_oper_k rfl rfl (by decide) (fun K hK => ?_)
  go_simp
  refine hK _ _ ⟨dg_of (by simp) (fun e he => ?_), ?_⟩
  · have hm := mem_listed he
    simp [go_sem, *] at hm
  clear hK K hI
  have hI := h₁.alloc (.cells (ints R fun _ => 0) 3)
  rw [h₁.1]
  clear h₁
  refine gstepG hI rfl (fun w₁ h₁ => ?_)
  refine goes_oper_k rfl rfl (by decide) (fun K hK => ?_)
  go_simp
  refine hK _ _ ⟨dg_of (by simp) (fun e he => ?_), ?_⟩
  · have hm := mem_listed he
    simp [go_sem, *] at hm
  clear hK K hI
  have hI := h₁.alloc (.cells #[.slice none 0 0] 22)
  rw [h₁.1]
  clear h₁
  simp only [Array.size_push]
  refine gstepG hI rfl (fun w₁ h₁ => ?_)
  refine goes_oper_k rfl rfl (by decide) (fun K hK => ?_)
  have hC : w₁.cell? ⟨H.size + 1, 0, none⟩ = some (.slice none 0 0) := one_cellT (by rw [h₁.1, Array.getElem?_push, if_pos (by simp)])
  have hZ : w₁.frozen? ⟨H.size + 1, 0, none⟩ = false := fz_cell (x := #[.slice none 0 0]) (T := 22) (by rw [h₁.1, Array.getElem?_push, if_pos (by simp)])
  have hbl : H.size + 1 < w₁.heap.size := by rw [h₁.1]; simp
  go_simp
  refine hK _ _ ⟨dg_of (by simp) (fun e he => ?_), ?_⟩
  · have hm := mem_listed he
    simp [go_sem, hC, hZ] at hm
    subst hm
    exact dg_cell (by simpa using hbl) hSn (show H.size + 1 ≠ H.size by omega)
  clear hK K hI
  have hI := hi_set (q := H.size + 1) (X := (H.push (.cells (ints R fun _ => 0) 3))) (v := .slice (some ⟨H.size, 0, none⟩) R R) h₁ (by simp)
  clear h₁ hC hZ hbl
  repeat (refine gstepG hI rfl (fun w₁ h₁ => ?_); walk_rw; refine ⟨dg_same _, ?_⟩; clear hI; have hI := h₁; clear h₁)
  refine gstepG hI rfl (fun w₁ h₁ => ?_)
  refine goes_oper_k rfl rfl (by decide) (fun K hK => ?_)
  go_simp
  refine hK _ _ ⟨dg_of (by simp) (fun e he => ?_), ?_⟩
  · have hm := mem_listed he
    simp [go_sem, *] at hm
  clear hK K hI
  have hI := h₁
  clear h₁
  refine gstepG hI rfl (fun w₁ h₁ => ?_)
  refine goes_oper_k rfl rfl (by decide) (fun K hK => ?_)
  have hC : w₁.cell? ⟨H.size + 1, 0, none⟩ = some (.slice (some ⟨H.size, 0, none⟩) R R) := one_cellT (T := 22) (by rw [h₁.1, Array.getElem?_push, if_pos (by simp)])
  have hbl : H.size + 1 < w₁.heap.size := by rw [h₁.1]; simp
  go_simp
  refine hK _ _ ⟨dg_of (by simp) (fun e he => ?_), ?_⟩
  · have hm := mem_listed he
    simp [go_sem, hC] at hm
    subst hm
    exact dg_cell hbl hSn (show H.size + 1 ≠ H.size by omega)
  clear hK K hI
  clear hC hbl
  have hI := h₁
  clear h₁
  refine gstepG hI rfl (fun w₁ h₁ => ?_)
  refine goes_oper_k rfl rfl (by decide) (fun K hK => ?_)
  go_simp
  refine hK _ _ ⟨dg_of (by simp) (fun e he => ?_), ?_⟩
  · have hm := mem_listed he
    simp [go_sem, *] at hm
  clear hK K hI
  have hI := h₁
  clear h₁
  refine gstepG hI rfl (fun w₁ h₁ => ?_)
  refine goes_oper_k rfl rfl (by decide) (fun K hK => ?_)
  go_simp
  refine hK _ _ ⟨dg_of (by simp) (fun e he => ?_), ?_⟩
  · have hm := mem_listed he
    simp [go_sem, *] at hm
  clear hK K hI
  have hI := h₁
  clear h₁
  refine gstepG hI rfl (fun w₁ h₁ => ?_)
  refine goes_call rfl rfl (by decide) rfl Try.func20 (by kernel_rfl) rfl ?_
  refine ⟨dg_same _, ?_⟩
  clear hI
  have hI := h₁
  clear h₁
  have e1 : ∀ (a : Act), a.eval (.tmp 52) = .int .i64 (h : Nat) → a.eval (.tmp 54) = .int .i64 (R : Int) → a.eval (.tmp 55) = .func (.func 21) #[] #[.pointer (some ⟨bs, 0, none⟩), .pointer (some ⟨bb, 0, none⟩), .pointer (some ⟨H.size + 1, 0, none⟩)] → (#[Operand.tmp 52, .tmp 54, .tmp 55].map a.eval ++ Array.replicate (Try.f20.ntmps - (#[Operand.tmp 52, .tmp 54, .tmp 55].map a.eval).size) undef) = #[.int .i64 (h : Nat), .int .i64 (R : Int), .func (.func 21) #[] #[.pointer (some ⟨bs, 0, none⟩), .pointer (some ⟨bb, 0, none⟩), .pointer (some ⟨H.size + 1, 0, none⟩)], undef, undef, undef, undef, undef, undef, undef, undef, undef, undef, undef, undef, undef] := fun a k1 k2 k3 => by
    simp [k1, k2, k3, Array.replicate, List.replicate]
  rw [e1 _ rfl rfl rfl]
  clear e1
  simp only [gBody, gO3, restAt, Try.f20, Option.getD_some]
  repeat (refine gstepG hI rfl (fun w₁ h₁ => ?_); walk_rw; refine ⟨dg_same _, ?_⟩; clear hI; have hI := h₁; clear h₁)
  refine gstepG hI rfl (fun w₁ h₁ => ?_)
  refine goes_oper_k rfl rfl (by decide) (fun K hK => ?_)
  go_simp
  refine hK _ _ ⟨dg_of (by simp) (fun e he => ?_), ?_⟩
  · have hm := mem_listed he
    simp [go_sem, *] at hm
  clear hK K hI
  have hI := h₁.alloc (.cells #[.int .i64 (R : Int)] 3)
  rw [h₁.1]
  clear h₁
  simp only [Array.size_push]
  refine gstepG hI rfl (fun w₁ h₁ => ?_)
  refine goes_oper_k rfl rfl (by decide) (fun K hK => ?_)
  go_simp
  refine hK _ _ ⟨dg_of (by simp) (fun e he => ?_), ?_⟩
  · have hm := mem_listed he
    simp [go_sem, *] at hm
  clear hK K hI
  have hI := h₁.alloc (.cells #[.func (.func 21) #[] #[.pointer (some ⟨bs, 0, none⟩), .pointer (some ⟨bb, 0, none⟩), .pointer (some ⟨H.size + 1, 0, none⟩)]] 57)
  rw [h₁.1]
  clear h₁
  simp only [Array.size_push]
  repeat (refine gstepG hI rfl (fun w₁ h₁ => ?_); walk_rw; refine ⟨dg_same _, ?_⟩; clear hI; have hI := h₁; clear h₁)
  refine gstepG hI rfl (fun w₁ h₁ => ?_)
  refine goes_oper_k rfl rfl (by decide) (fun K hK => ?_)
  go_simp
  refine hK _ _ ⟨dg_of (by simp) (fun e he => ?_), ?_⟩
  · have hm := mem_listed he
    simp [go_sem, *] at hm
  clear hK K hI
  have hI := h₁.alloc (.cells #[.int .i64 0] 85)
  rw [h₁.1]
  clear h₁
  simp only [Array.size_push]
  repeat (refine gstepG hI rfl (fun w₁ h₁ => ?_); walk_rw; refine ⟨dg_same _, ?_⟩; clear hI; have hI := h₁; clear h₁)
  refine gstepG hI rfl (fun w₁ h₁ => ?_)
  refine goes_oper_k rfl rfl (by decide) (fun K hK => ?_)
  go_simp
  refine hK _ _ ⟨dg_of (by simp) (fun e he => ?_), ?_⟩
  · have hm := mem_listed he
    simp [go_sem, *] at hm
  clear hK K hI
  have hI := h₁.alloc (.cells #[.int .u64 0, .int .u32 0] 91)
  rw [h₁.1]
  clear h₁
  simp only [Array.size_push]
  repeat (refine gstepG hI rfl (fun w₁ h₁ => ?_); walk_rw; refine ⟨dg_same _, ?_⟩; clear hI; have hI := h₁; clear h₁)
  refine gstepG hI rfl (fun w₁ h₁ => ?_)
  refine goes_oper_k rfl rfl (by decide) (fun K hK => ?_)
  go_simp
  refine hK _ _ ⟨dg_of (by simp) (fun e he => ?_), ?_⟩
  · have hm := mem_listed he
    simp [go_sem, *] at hm
  clear hK K hI
  have hI := h₁
  clear h₁
  exact Goes.stop fun w₂ h₂ => by
    obtain ⟨d, rfl⟩ := h₂
    exact ⟨rfl, hI⟩
end Go.Proofs.Ytpdemelchhkfaaa.Cs
