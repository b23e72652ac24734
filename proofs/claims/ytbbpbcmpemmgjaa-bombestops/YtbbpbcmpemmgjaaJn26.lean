/-
  Several texts, joined: CvC, FgN, FgO.
-/
import Derived.Test.YtbbpbcmpemmgjaaCvB
import Derived.Test.YtbbpbcmpemmgjaaJn25
/-
  chart.Every is a pool.
-/
namespace Go.Proofs.Ytbbpbcmpemmgjaa.Hb
open Go.Conc Cs
variable [Fns]
/-- The pool of chart.Every, out of the boxes that it reads and of the job's contract. -/
noncomputable def everyScr {Post : Nat → Value → World → Prop} (c : Cst) (bF bM bL bD : Nat) (vm vl : Value) (cs : List Frame) (wk : WkP c bF bM bL bD vm vl) (hn : 1 ≤ c.n ∧ c.n ≤ 1000) (hK : c.K = 26) (hz : c.z1 = .int .i64 0 ∧ c.z2 = .bool false ∧ c.zs1 = .tuple #[] ∧ c.zs2 = .tuple #[])
    (hB : c.fB = 66) (har : c.ar = fun k => #[vm, .int .i64 (k : Nat), vl]) (s1 : 1 ≤ c.S0) (d1 : c.C1 < c.N1 ∧ c.C2 < c.N1 ∧ c.Fd < c.N1 ∧ c.C1 ≠ c.C2 ∧ c.C1 ≠ c.Fd ∧ c.C2 ≠ c.Fd) (fok : Fns.ok c.fB = true)
    (job : ∀ k, k < c.K → ∀ w, c.Ok w → ∃ (E : Env) (wl : World) (x : Array Value), (∀ b q s o, E b = some (q, s, o) → o = false ∧ c.Fix q) ∧ LR E x (c.ar k) ∧ WR Try.prog E wl w ∧ Fns.G ≤ wl.heap.size ∧ ∀ τ, Calls Try.prog c.fB x (wl.tp τ) fun e w' => ∃ v, e = .returned v ∧ Post k v w')
    (okv : ∀ k v wl (E : Env) v', Post k v wl → VR E v v' → ∃ a l cp, v' = .slice a l cp) : Scr Try.prog c Post where
  Rec := wRec c bF bM bL bD
  Snd := wSnd c bF bM bL bD
  Cal := wCal c bF bM bL bD vm vl
  Sto := wSto c bF bM bL bD
  GoP := eGoP c bF bM bL bD c.n cs
  SndP := eSndP c bF bM bL bD c.n cs
  ClP := eClP c bF bM bL bD c.n cs
  RcvP := eRcvP c bF bM bL bD c.n cs
  JnP := eJnP c bF bM bL bD c.n cs
  OkV := fun v => ∃ a l cp, v = .slice a l cp
  n1 := hn.1
  k1 := by omega
  s1 := s1
  d1 := d1
  rec_s := fun g h => by rw [hz.1]; exact wRec_s h
  rec_job := fun g h k _ w _ => wRec_job wk h k
  rec_end := fun g h w _ => by rw [hz.1]; exact wRec_end wk h
  cal := fun k g h hk => by
    obtain ⟨cal, rest, e, hc⟩ := wCal_on (by omega) h
    refine ⟨cal, rest, ?_, fun v _ w _ => hc v w⟩
    rw [hB, har]
    exact e
  sto := fun k v g h hk hv => by
    obtain ⟨a, l, cp, rfl⟩ := hv
    obtain ⟨h1, g', h2, h3, h4⟩ := wSto_s hk h
    exact ⟨h1, g', h2, h3, fun w _ => h4 w⟩
  snd_s := fun g h => by rw [hz.2.2.2]; exact wSnd_s h
  gop := fun j g h hj => by
    obtain ⟨h1, g', h2, h3⟩ := eGo_s h
    exact ⟨h1, g', _, h2, fun w _ => wBorn wk, fun w _ => eGo_on wk hn.2 hj h3⟩
  sndp := fun k g h hk => by
    obtain ⟨h1, h2⟩ := eSnd_s h
    rw [hz.2.2.1]
    refine ⟨h1, h2, fun w _ => ?_⟩
    simp only [hK]
    exact eSnd_on wk (by omega) h
  clp := fun g h => by
    obtain ⟨h1, h2, g', h3, h4, h5⟩ := eCl_s hn.1 wk h
    exact ⟨h1, h2, g', h3, h4, fun w _ => h5 w⟩
  rcvp := fun r g h hr => by
    obtain ⟨h1, h2⟩ := eRcv_s h
    rw [hz.2.1]
    exact ⟨h1, h2, fun w _ => eRcv_on wk hn.2 hr h⟩
  fok := fok
  job := job
  okv := okv
end Go.Proofs.Ytbbpbcmpemmgjaa.Hb

/-
  The walk ahead of the pool: Every to the call of searchWrong.
-/
namespace Go.Proofs.Ytbbpbcmpemmgjaa.Hb
open Go.RowKit PK Vg Go.Conc Cs
noncomputable def eX1 : Code := match eBody with | .seq _ r => r | _ => .skip
noncomputable def eX2 : Code := match eX1 with | .seq _ r => r | _ => .skip
noncomputable def eX3 : Code := match eX1 with | .seq (.seq _ r) _ => r | _ => .skip
noncomputable def eO1 : Array Oper := match eX1 with | .seq (.seq (.region _ o _) _) _ => o | _ => #[]
set_option maxRecDepth 100000 in
set_option maxHeartbeats 4000000 in
theorem every_head (A : Array Value) (hA : A.size = 55) (h : Int) (f : FuncId) (c1 c2 : Array Value) (cs : List Frame) (H : Array Obj) (o : Os) (out : Array (Nat × ByteArray)) (w : World) (hI : HI H o out w) : ∃ mu, Goes Try.prog true AtRel DW (fun g w' => g = G (Frame.enter Try.prog 48 #[.agg A, .int .i64 h] .normal) ((base 32).at ⟨#[.agg A, .int .i64 h, .func (.func f) c1 c2, .pointer (some ⟨H.size, 0, none⟩), undef, .pointer (some ⟨H.size + 1, 0, none⟩), .slice none 0 0, .int .i64 0, undef, undef, undef, undef, undef, undef, undef, undef, .agg A, .int .i64 h, undef, undef, undef, undef, undef, undef, undef, undef, undef, undef, undef, undef, undef, undef, undef, undef, undef, undef, undef, undef, undef, undef, undef, undef, undef, undef, undef, undef, undef, undef, undef, undef, undef, undef, undef], []⟩ [.inRegion eO1 (2 :: List.range' 3 1), .code eX3, .code eX2] :: cs) ∧ HI ((H.push (.cells A 27)).push (.cells #[.func (.func f) c1 c2] 79)) o out w') mu (G ((base 32).at ⟨#[.agg A, .int .i64 h, .func (.func f) c1 c2, undef, undef, undef, undef, undef, undef, undef, undef, undef, undef, undef, undef, undef, undef, undef, undef, undef, undef, undef, undef, undef, undef, undef, undef, undef, undef, undef, undef, undef, undef, undef, undef, undef, undef, undef, undef, undef, undef, undef, undef, undef, undef, undef, undef, undef, undef, undef, undef, undef, undef], []⟩ [.code eBody]) cs) w := by
  have hiA : (Try.prog.info? 27).map (·.size) = some A.size := by rw [hA]; exact v_info_mac
  refine ⟨40, ?_⟩
  simp only [eBody, Try.f32, Option.getD_some]
  repeat (refine gstep hI rfl (fun w₁ h₁ => ?_); walk_rw; refine ⟨dw_same _, ?_⟩; clear hI; have hI := h₁; clear h₁)
  refine gstep hI rfl (fun w₁ h₁ => ?_)
  refine goes_oper_k rfl rfl (by decide) (fun K hK => ?_)
  go_simp
  refine hK _ _ ⟨⟨by simp, fun e he => ?_⟩, ?_⟩
  · have hm := mem_listed he
    simp [go_sem] at hm
  clear hK K hI
  have hI := h₁.alloc (.cells A 27)
  rw [h₁.1]
  clear h₁
  refine gstep hI rfl (fun w₁ h₁ => ?_)
  refine goes_oper_k rfl rfl (by decide) (fun K hK => ?_)
  go_simp
  refine hK _ _ ⟨⟨by simp, fun e he => ?_⟩, ?_⟩
  · have hm := mem_listed he
    simp [go_sem] at hm
  clear hK K hI
  have hI := h₁.alloc (.cells #[.func (.func f) c1 c2] 79)
  rw [h₁.1]
  clear h₁
  simp only [Array.size_push]
  refine gstep hI rfl (fun w₁ h₁ => ?_)
  refine goes_oper_k rfl rfl (by decide) (fun K hK => ?_)
  go_simp
  refine hK _ _ ⟨⟨by simp, fun e he => ?_⟩, ?_⟩
  · have hm := mem_listed he
    simp [go_sem] at hm
  clear hK K hI
  have hI := h₁
  clear h₁
  refine gstep hI rfl (fun w₁ h₁ => ?_)
  refine goes_oper_k rfl rfl (by decide) (fun K hK => ?_)
  go_simp
  refine hK _ _ ⟨⟨by simp, fun e he => ?_⟩, ?_⟩
  · have hm := mem_listed he
    simp [go_sem] at hm
  clear hK K hI
  have hI := h₁
  clear h₁
  repeat (refine gstep hI rfl (fun w₁ h₁ => ?_); walk_rw; refine ⟨dw_same _, ?_⟩; clear hI; have hI := h₁; clear h₁)
  refine gstep hI rfl (fun w₁ h₁ => ?_)
  have hWr := show w₁.heap[H.size]? = some (.cells A 27 (0, 0)) from by rw [h₁.1, Array.getElem?_push, if_neg (by simp), Array.getElem?_push, if_pos rfl]
  rw [stepG_value (v := .agg A) (w' := w₁) rfl rfl (by decide) (run_exec_load rfl rfl (ld_row hWr Try.underlying27 rfl hiA))]
  simp only [goes_go]
  refine ⟨⟨Nat.le_refl _, fun e he => ev_row hWr Try.underlying27 rfl hiA e (by have hm := mem_listed he; rw [events_exec_load rfl rfl] at hm; exact hm)⟩, ?_⟩
  clear hWr hI
  have hI := h₁
  clear h₁
  refine gstep hI rfl (fun w₁ h₁ => ?_)
  refine goes_oper_k rfl rfl (by decide) (fun K hK => ?_)
  go_simp
  refine hK _ _ ⟨⟨by simp, fun e he => ?_⟩, ?_⟩
  · have hm := mem_listed he
    simp [go_sem] at hm
  clear hK K hI
  have hI := h₁
  clear h₁
  refine gstep hI rfl (fun w₁ h₁ => ?_)
  rw [stepG_enter (f := 48) (args := #[.agg A, .int .i64 h]) (w' := w₁) rfl rfl (by decide) (by simp [execOp, go_sem])]
  rw [listed_nil (by simp [go_sem, callFunc, Try.func48, Try.f48])]
  simp only [goes_go]
  refine ⟨dw_same _, ?_⟩
  exact Goes.stop fun w₂ h₂ => by
    obtain ⟨d, rfl⟩ := h₂
    exact ⟨rfl, h₁⟩
end Go.Proofs.Ytbbpbcmpemmgjaa.Hb

/-
  The walk ahead of the pool: Every behind searchWrong, to where it makes its channels.
-/
namespace Go.Proofs.Ytbbpbcmpemmgjaa.Hb
open Go.RowKit PK Vg Go.Conc Cs
noncomputable def eX4 : Code := match eX2 with | .seq _ (.seq _ r) => r | _ => .skip
noncomputable def eO6 : Array Oper := match eX2 with | .seq _ (.seq (.region _ o _) _) => o | _ => #[]
noncomputable def eR7 : Code := match eX4 with | .seq a _ => a | _ => .skip
noncomputable def eO7 : Array Oper := match eX4 with | .seq (.region _ o _) _ => o | _ => #[]
theorem ev_eq (d : Nat) (f : FuncId) (c1 c2 : Array Value) (w : World) (es : Array Event) : Sem.events Try.prog (Op.equalIn (d + 1) 79 (.func (.func f) c1 c2) .nilFunc) w es = es := by
  unfold Op.equalIn
  simp [go_sem, underlying, Try.underlying79]
theorem ev_nil (f : FuncId) (c1 c2 : Array Value) (w : World) : Sem.events Try.prog (binOp .eql 79 (.func (.func f) c1 c2) .nilFunc) w #[] = #[] := by
  obtain ⟨d, hd⟩ : ∃ d, Op.maxDepth = d + 1 := ⟨9999, rfl⟩
  have h1 := ev_eq d f c1 c2 w #[]
  unfold binOp Op.equal
  rw [hd]
  simp [go_sem, h1]
set_option maxRecDepth 100000 in
set_option maxHeartbeats 4000000 in
theorem every_a (A : Array Value) (n : Nat) (f : FuncId) (c1 c2 : Array Value) (bM bL : Nat) (cs : List Frame) (H : Array Obj) (o : Os) (out : Array (Nat × ByteArray)) (w : World) (hI : HI H o out w) (hL : H[bL]? = some (.cells #[.func (.func f) c1 c2] 79 (0, 0))) : ∃ mu, Goes Try.prog true AtRel DW (fun g w' => g = G ((base 32).at ⟨#[.agg A, .int .i64 (n : Nat), .func (.func f) c1 c2, .pointer (some ⟨bM, 0, none⟩), undef, .pointer (some ⟨bL, 0, none⟩), .slice none 0 0, .int .i64 0, .int .i64 0, undef, undef, undef, undef, undef, undef, undef, .agg A, .int .i64 (n : Nat), .int .i64 0, .int .i64 0, .bool false, undef, .func (.func f) c1 c2, .bool false, undef, undef, undef, undef, undef, undef, undef, undef, undef, undef, undef, undef, undef, undef, undef, undef, undef, undef, undef, undef, undef, undef, undef, undef, undef, undef, undef, undef, undef], []⟩ [.inRegion eO6 [0], .code eX4]) cs ∧ HI H o out w') mu (G ((base 32).at ⟨#[.agg A, .int .i64 (n : Nat), .func (.func f) c1 c2, .pointer (some ⟨bM, 0, none⟩), undef, .pointer (some ⟨bL, 0, none⟩), .slice none 0 0, .int .i64 0, undef, undef, undef, undef, undef, undef, undef, undef, .agg A, .int .i64 (n : Nat), .int .i64 0, undef, undef, undef, undef, undef, undef, undef, undef, undef, undef, undef, undef, undef, undef, undef, undef, undef, undef, undef, undef, undef, undef, undef, undef, undef, undef, undef, undef, undef, undef, undef, undef, undef, undef], []⟩ [.inRegion eO1 [3], .code eX3, .code eX2]) cs) w := by
  refine ⟨60, ?_⟩
  simp only [eO1, eX3, eX2, eX1, eBody, Try.f32, Option.getD_some]
  refine gstep hI rfl (fun w₁ h₁ => ?_)
  refine goes_oper_k rfl rfl (by decide) (fun K hK => ?_)
  go_simp
  refine hK _ _ ⟨⟨by simp, fun e he => ?_⟩, ?_⟩
  · have hm := mem_listed he
    simp [go_sem] at hm
  clear hK K hI
  have hI := h₁
  clear h₁
  repeat (refine gstep hI rfl (fun w₁ h₁ => ?_); walk_rw; refine ⟨dw_same _, ?_⟩; clear hI; have hI := h₁; clear h₁)
  refine gstep hI rfl (fun w₁ h₁ => ?_)
  refine goes_oper_k rfl rfl (by decide) (fun K hK => ?_)
  go_simp
  refine hK _ _ ⟨⟨by simp, fun e he => ?_⟩, ?_⟩
  · have hm := mem_listed he
    simp [go_sem] at hm
  clear hK K hI
  have hI := h₁
  clear h₁
  refine gstep hI rfl (fun w₁ h₁ => ?_)
  refine goes_oper_k rfl rfl (by decide) (fun K hK => ?_)
  go_simp
  refine hK _ _ ⟨⟨by simp, fun e he => ?_⟩, ?_⟩
  · have hm := mem_listed he
    simp [go_sem] at hm
  clear hK K hI
  have hI := h₁
  clear h₁
  repeat (refine gstep hI rfl (fun w₁ h₁ => ?_); walk_rw; refine ⟨dw_same _, ?_⟩; clear hI; have hI := h₁; clear h₁)
  refine gstep hI rfl (fun w₁ h₁ => ?_)
  rw [stepG_cond (t := false) rfl]
  simp only [goes_go, Bool.false_eq_true, ↓reduceIte]
  refine ⟨dw_same _, ?_⟩
  clear hI
  have hI := h₁
  clear h₁
  repeat (refine gstep hI rfl (fun w₁ h₁ => ?_); walk_rw; refine ⟨dw_same _, ?_⟩; clear hI; have hI := h₁; clear h₁)
  refine gstep hI rfl (fun w₁ h₁ => ?_)
  refine goes_oper_k rfl rfl (by decide) (fun K hK => ?_)
  have hbL : bL < w₁.heap.size := by rw [h₁.1]; exact (Array.getElem?_eq_some_iff.1 hL).1
  have hC : w₁.cell? ⟨bL, 0, none⟩ = some (.func (.func f) c1 c2) := by
    have h2 : w₁.heap[bL]? = some (.cells #[.func (.func f) c1 c2] 79 (0, 0)) := (by rw [h₁.1]; exact hL)
    rw [cell_of_row _ _ _ _ _ _ h2]
    rfl
  go_simp
  refine hK _ _ ⟨⟨by simp, fun e he => ?_⟩, ?_⟩
  · have hm := mem_listed he
    simp [go_sem, hC] at hm
    subst hm
    exact ev_read ⟨rfl, rfl⟩ hbL
  clear hK K hI hC hbL
  have hI := h₁
  clear h₁
  refine gstep hI rfl (fun w₁ h₁ => ?_)
  refine goes_oper_k rfl rfl (by decide) (fun K hK => ?_)
  go_simp
  refine hK _ _ ⟨⟨by simp, fun e he => ?_⟩, ?_⟩
  · have hm := mem_listed he
    simp [go_sem] at hm
    rw [ev_nil] at hm
    simp at hm
  clear hK K hI
  have hI := h₁
  clear h₁
  repeat (refine gstep hI rfl (fun w₁ h₁ => ?_); walk_rw; refine ⟨dw_same _, ?_⟩; clear hI; have hI := h₁; clear h₁)
  refine gstep hI rfl (fun w₁ h₁ => ?_)
  rw [stepG_cond (t := false) rfl]
  simp only [goes_go, Bool.false_eq_true, ↓reduceIte]
  refine ⟨dw_same _, ?_⟩
  clear hI
  have hI := h₁
  clear h₁
  repeat (refine gstep hI rfl (fun w₁ h₁ => ?_); walk_rw; refine ⟨dw_same _, ?_⟩; clear hI; have hI := h₁; clear h₁)
  exact Goes.stop fun w₂ h₂ => by
    obtain ⟨d, rfl⟩ := h₂
    exact ⟨rfl, hI⟩
/-- What a step of goroutine 0's keeps that does not touch block Fd. -/
def DN (Fd : Nat) (w w' : World) (es : Array Event) : Prop := w.heap.size ≤ w'.heap.size ∧ ∀ e ∈ es, EvW w'.heap.size e ∧ ∀ x, (MemAct.ofEvent e).touch? = some x → ∀ ad, x.loc = .cell ad → ad.block ≠ Fd
theorem dn_same {Fd : Nat} (w : World) : DN Fd w w #[] := ⟨Nat.le_refl _, fun e he => by simp at he⟩
theorem gstepN {Fd : Nat} {Stp : Goroutine → World → Prop} {H : Array Obj} {o : Os} {out : Array (Nat × ByteArray)} {mu : Nat} {g : Goroutine} {w : World} (hI : HI H o out w) (hs : g.status = .running) (h : ∀ w₁, HI H o out w₁ → (stepG Try.prog true g w₁).goes fun g' w' es => DN Fd w₁ w' es ∧ Goes Try.prog true AtRel (DN Fd) Stp mu g' w') : Goes Try.prog true AtRel (DN Fd) Stp (mu + 1) g w :=
  Goes.step hs fun w₁ h₁ => by
    obtain ⟨d, rfl⟩ := h₁
    exact h _ (hI.at' d)
set_option maxRecDepth 100000 in
set_option maxHeartbeats 4000000 in
theorem every_a2 (Fd : Nat) (A : Array Value) (n : Nat) (f : FuncId) (c1 c2 : Array Value) (bM bL : Nat) (cs : List Frame) (H : Array Obj) (o : Os) (out : Array (Nat × ByteArray)) (w : World) (hI : HI H o out w) : ∃ mu, Goes Try.prog true AtRel (DN Fd) (fun g w' => g = G ((base 32).at ⟨#[.agg A, .int .i64 (n : Nat), .func (.func f) c1 c2, .pointer (some ⟨bM, 0, none⟩), undef, .pointer (some ⟨bL, 0, none⟩), .slice none 0 0, .int .i64 0, .int .i64 0, .pointer (some ⟨H.size, 0, none⟩), undef, undef, undef, undef, undef, undef, .agg A, .int .i64 (n : Nat), .int .i64 0, .int .i64 0, .bool false, undef, .func (.func f) c1 c2, .bool false, undef, undef, undef, undef, undef, undef, undef, undef, undef, undef, undef, undef, undef, undef, undef, undef, undef, undef, undef, undef, undef, undef, undef, undef, undef, undef, undef, undef, undef], []⟩ [.code eR7, .code eT1]) cs ∧ HI (H.push (.cells (tab 26 fun _ => .slice none 0 0) 116)) o out w') mu (G ((base 32).at ⟨#[.agg A, .int .i64 (n : Nat), .func (.func f) c1 c2, .pointer (some ⟨bM, 0, none⟩), undef, .pointer (some ⟨bL, 0, none⟩), .slice none 0 0, .int .i64 0, .int .i64 0, undef, undef, undef, undef, undef, undef, undef, .agg A, .int .i64 (n : Nat), .int .i64 0, .int .i64 0, .bool false, undef, .func (.func f) c1 c2, .bool false, undef, undef, undef, undef, undef, undef, undef, undef, undef, undef, undef, undef, undef, undef, undef, undef, undef, undef, undef, undef, undef, undef, undef, undef, undef, undef, undef, undef, undef], []⟩ [.inRegion eO6 [0], .code eX4]) cs) w := by
  have hz26 : (Try.prog.info? 116).map (·.zero) = some (some (.agg (tab 26 fun _ => .slice none 0 0))) := by kernel_rfl
  refine ⟨60, ?_⟩
  simp only [eO6, eX4, eX2, eX1, eBody, Try.f32, Option.getD_some]
  refine gstepN hI rfl (fun w₁ h₁ => ?_)
  refine goes_oper_k rfl rfl (by decide) (fun K hK => ?_)
  go_simp
  refine hK _ _ ⟨⟨by simp, fun e he => ?_⟩, ?_⟩
  · have hm := mem_listed he
    simp [go_sem] at hm
  clear hK K hI
  have hI := h₁.alloc (.cells (tab 26 fun _ => .slice none 0 0) 116)
  rw [h₁.1]
  clear h₁
  repeat (refine gstepN hI rfl (fun w₁ h₁ => ?_); walk_rw; refine ⟨dn_same _, ?_⟩; clear hI; have hI := h₁; clear h₁)
  exact Goes.stop fun w₂ h₂ => by
    obtain ⟨d, rfl⟩ := h₂
    exact ⟨rfl, hI⟩

end Go.Proofs.Ytbbpbcmpemmgjaa.Hb
