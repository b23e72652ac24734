/-
  Several texts, joined: CxF, CxG.
-/
import Derived.Test.YtpdemelchhkfaaaJn28
import Derived.Conc.WalkWords
import Derived.Conc.EventLaws
import Derived.Conc.CompanyWords
import Derived.KernelRfl
/-
  tele.Best$1 in company: its one region, in whatever order.
-/
namespace Go.Proofs.Ytpdemelchhkfaaa.Cs
open Go.Conc
noncomputable def bO : Array Oper := match Try.f21.body.getD .skip with | .region _ o _ => o | _ => #[]
theorem bO_low : LowEdges bO = true := by kernel_rfl
theorem bO_size : bO.size = 14 := by kernel_rfl
/-- The boxes that the hands read. -/
structure TeP (c : Cst) (F : Nat → Value) (bN bL bS bB bC : Nat) (vs : Value) (xb : Option Addr) (nb cb : Nat) : Prop where
  fx : c.Fix bN ∧ c.Fix bL ∧ c.Fix bS ∧ c.Fix bB ∧ c.Fix bC
  ldN : ∀ w, c.Ok w → w.cell? ⟨bN, 0, none⟩ = some (.int .i64 (c.K : Nat))
  ldL : ∀ w, c.Ok w → w.cell? ⟨bL, 0, none⟩ = some (.func (.func 21) #[] #[.pointer (some ⟨bS, 0, none⟩), .pointer (some ⟨bB, 0, none⟩), .pointer (some ⟨bC, 0, none⟩)])
  ldS : ∀ w, c.Ok w → (Instr.loadAt 55 (.pointer (some ⟨bS, 0, none⟩))).run Try.prog w = .ok vs w
  evS : ∀ w, c.Ok w → ∀ e ∈ (Instr.loadAt 55 (.pointer (some ⟨bS, 0, none⟩))).events Try.prog w #[], ∃ a : Addr, e = ⟨.cell a, false, false⟩ ∧ c.Fix a.block
  ldB : ∀ w, c.Ok w → w.cell? ⟨bB, 0, none⟩ = some (.slice xb nb cb)
  ldC : ∀ w, c.Ok w → w.cell? ⟨bC, 0, none⟩ = some (.slice (some ⟨c.Fd, 0, none⟩) c.K c.K)
  nb0 : 0 < nb ∧ nb ≤ 1099511627776
  k1 : c.K ≤ 1099511627776
  fB : c.fB = 22
  ar : ∀ k, c.ar k = #[vs, .int .i64 (k / nb : Nat), .int .i64 (k % nb : Nat)]
  FI : ∀ k, ∃ n : Int, F k = .int .i64 n
/-- What each operation yields. -/
def bV (c : Cst) (F : Nat → Value) (vs : Value) (xb : Option Addr) (nb cb k : Nat) : Nat → Value
  | 0 => .slice (some ⟨c.Fd, 0, none⟩) c.K c.K
  | 1 => .int .i64 (k : Nat)
  | 2 => vs
  | 3 => .int .i64 (k : Nat)
  | 4 => .slice xb nb cb
  | 5 => .int .i64 (nb : Nat)
  | 6 => .int .i64 (k / nb : Nat)
  | 7 => .int .i64 (k : Nat)
  | 8 => .slice xb nb cb
  | 9 => .int .i64 (nb : Nat)
  | 10 => .int .i64 (k % nb : Nat)
  | 11 => F k
  | _ => .pointer (some ⟨c.Fd, k, none⟩)
structure BI (V : Nat → Value) (bS bB bC k : Nat) (l : Array Bool) (T : Array Value) : Prop where
  size : T.size = 18
  ls : l.size = 14
  t0 : T[0]? = some (.int .i64 (k : Nat))
  t1 : T[1]? = some (.pointer (some ⟨bS, 0, none⟩))
  t2 : T[2]? = some (.pointer (some ⟨bB, 0, none⟩))
  t3 : T[3]? = some (.pointer (some ⟨bC, 0, none⟩))
  done : ∀ d, d < 13 → l.getD d false = true → T[d + 5]? = some (V d)
theorem oper_q {P : Program} {c : Cst} {main : Bool} {ops : Array Oper} {i : Nat} {o : Oper} {d : Nat} {v : Value} {T : Array Value} {b : Frame} {rest : List Nat} {kk : List Item} {cs : List Frame} {w : World} (ho : ops[i]? = some o) (hg : Region.wanted o (yielded ops T) = true) (hb : b.kind ≠ .early) (hd : o.dst = some d) (hr : (execOp (Act.eval ⟨T, []⟩) o).run P w = .ok (.value v) w) (he : ∀ e ∈ (execOp (Act.eval ⟨T, []⟩) o).events P w #[], ∃ a : Addr, e = ⟨.cell a, false, false⟩ ∧ c.Fix a.block) :
    ∃ es, stepG P main (G (b.at ⟨T, []⟩ (.inRegion ops (i :: rest) :: kk)) cs) w = .go (G (b.at ⟨T.setIfInBounds d v, []⟩ (.inRegion ops rest :: kk)) cs) w es ∧ DQ c w w es :=
  ⟨_, by rw [stepG_value ho hg hb hr, hd]; rfl, ⟨rfl, rfl, rfl, rfl, fun e h => he e (mem_listed h)⟩⟩
theorem run_exec_load {P : Program} {ρ : Operand → Value} {o : Oper} {ty : TypeId} {x : Operand} {p v : Value} {w : World} (ho : o.op = .load ty x) (hx : ρ x = p) (h : (Instr.loadAt ty p).run P w = .ok v w) : (execOp ρ o).run P w = .ok (.value v) w := by
  unfold execOp
  simp only [ho, hx]
  generalize Instr.loadAt ty p = s at h ⊢
  simp [go_sem, h]
theorem events_exec_load {P : Program} {ρ : Operand → Value} {o : Oper} {ty : TypeId} {x : Operand} {p : Value} {w : World} (ho : o.op = .load ty x) (hx : ρ x = p) : (execOp ρ o).events P w #[] = (Instr.loadAt ty p).events P w #[] := by
  unfold execOp
  simp only [ho, hx]
  generalize Instr.loadAt ty p = s
  simp [go_sem]
section
variable {V : Nat → Value} {bS bB bC k : Nat} {l : Array Bool} {T : Array Value}
theorem BI.put (h : BI V bS bB bC k l T) {i : Nat} (hi : i < 13) : BI V bS bB bC k (l.setIfInBounds i true) (T.setIfInBounds (i + 5) (V i)) := by
  have hs := h.size
  have hl := h.ls
  refine ⟨by simp [hs], by simp [hl], ?_, ?_, ?_, ?_, fun d hd hld => ?_⟩
  · rw [Array.getElem?_setIfInBounds_ne (by omega)]; exact h.t0
  · rw [Array.getElem?_setIfInBounds_ne (by omega)]; exact h.t1
  · rw [Array.getElem?_setIfInBounds_ne (by omega)]; exact h.t2
  · rw [Array.getElem?_setIfInBounds_ne (by omega)]; exact h.t3
  · by_cases e : d = i
    · subst e
      rw [Array.getElem?_setIfInBounds_self_of_lt (by omega)]
    · rw [Array.getElem?_setIfInBounds_ne (by omega)]
      refine h.done d hd ?_
      rw [Array.getD_eq_getD_getElem?, Array.getElem?_setIfInBounds_ne (by omega)] at hld
      rw [Array.getD_eq_getD_getElem?]
      exact hld
theorem ev_tmp {j : Nat} {v : Value} (h : T[j]? = some v) : (⟨T, []⟩ : Act).eval (.tmp j) = v := by
  show T.getD j undef = v
  rw [Array.getD_eq_getD_getElem?, h]
  rfl
/-- An operation that waits for another one comes behind it. -/
theorem ready_on {md : Region.Mode} {i j : Nat} (h : i ∈ Region.ready md bO l) (hj : ((bO[i]?).map (·.after.any fun e => decide (e.on = j) && (match e.ground with | .textOnly _ => false | .gcOnly _ => false | _ => true))).getD false = true) : l.getD j false = true := by
  obtain ⟨_, o, ho, he⟩ := mem_ready.1 h
  rw [ho] at hj
  simp only [Option.map_some, Option.getD_some, Array.any_eq_true'] at hj
  obtain ⟨e, hm, h2⟩ := hj
  rw [Bool.and_eq_true] at h2
  rw [← of_decide_eq_true h2.1]
  refine he e hm ?_
  have h3 := h2.2
  unfold Region.binds
  split at h3 <;> simp_all
end
section
variable {c : Cst} {F : Nat → Value} {bN bL bS bB bC : Nat} {vs : Value} {xb : Option Addr} {nb cb k : Nat} {md : Region.Mode} {l : Array Bool} {T : Array Value} {b : Frame} {rest : List Nat} {kk : List Item} {cs : List Frame} {w : World} (hb : b.kind ≠ .early)
include hb
set_option maxRecDepth 100000 in
theorem b_step0 (p : TeP c F bN bL bS bB bC vs xb nb cb) (_hk : k < c.K) (h : BI (bV c F vs xb nb cb k) bS bB bC k l T) (_hr : 0 ∈ Region.ready md bO l) (h₁ : c.Ok w) :
    ∃ es, stepG Try.prog false (G (b.at ⟨T, []⟩ (.inRegion bO (0 :: rest) :: kk)) cs) w = .go (G (b.at ⟨T.setIfInBounds 5 (bV c F vs xb nb cb k 0), []⟩ (.inRegion bO rest :: kk)) cs) w es ∧ DQ c w w es := by
  have n := h.t3
  have f := p.ldC w h₁
  refine oper_q (o := bO.getD 0 default) rfl rfl hb rfl ?_ (fun e he => ?_)
  · simp [execOp, go_sem, bO, Try.f21, n, f, bV]
  · simp [execOp, go_sem, bO, Try.f21, n, f] at he
    subst he
    exact ⟨_, rfl, p.fx.2.2.2.2⟩
set_option maxRecDepth 100000 in
theorem b_step1 (_p : TeP c F bN bL bS bB bC vs xb nb cb) (_hk : k < c.K) (h : BI (bV c F vs xb nb cb k) bS bB bC k l T) (_hr : 1 ∈ Region.ready md bO l) (_h₁ : c.Ok w) :
    ∃ es, stepG Try.prog false (G (b.at ⟨T, []⟩ (.inRegion bO (1 :: rest) :: kk)) cs) w = .go (G (b.at ⟨T.setIfInBounds 6 (bV c F vs xb nb cb k 1), []⟩ (.inRegion bO rest :: kk)) cs) w es ∧ DQ c w w es := by
  have n := h.t0
  refine oper_q (o := bO.getD 1 default) rfl rfl hb rfl ?_ (fun e he => ?_)
  · simp [execOp, go_sem, bO, Try.f21, n, bV]
  · simp [execOp, go_sem, bO, Try.f21] at he
set_option maxRecDepth 100000 in
theorem b_step2 (p : TeP c F bN bL bS bB bC vs xb nb cb) (_hk : k < c.K) (h : BI (bV c F vs xb nb cb k) bS bB bC k l T) (_hr : 2 ∈ Region.ready md bO l) (h₁ : c.Ok w) :
    ∃ es, stepG Try.prog false (G (b.at ⟨T, []⟩ (.inRegion bO (2 :: rest) :: kk)) cs) w = .go (G (b.at ⟨T.setIfInBounds 7 (bV c F vs xb nb cb k 2), []⟩ (.inRegion bO rest :: kk)) cs) w es ∧ DQ c w w es := by
  have n := ev_tmp h.t1
  refine oper_q (o := bO.getD 2 default) rfl rfl hb rfl (run_exec_load rfl n (p.ldS w h₁)) (fun e he => ?_)
  rw [events_exec_load rfl n] at he
  exact p.evS w h₁ e he
set_option maxRecDepth 100000 in
theorem b_step3 (_p : TeP c F bN bL bS bB bC vs xb nb cb) (_hk : k < c.K) (h : BI (bV c F vs xb nb cb k) bS bB bC k l T) (_hr : 3 ∈ Region.ready md bO l) (_h₁ : c.Ok w) :
    ∃ es, stepG Try.prog false (G (b.at ⟨T, []⟩ (.inRegion bO (3 :: rest) :: kk)) cs) w = .go (G (b.at ⟨T.setIfInBounds 8 (bV c F vs xb nb cb k 3), []⟩ (.inRegion bO rest :: kk)) cs) w es ∧ DQ c w w es := by
  have n := h.t0
  refine oper_q (o := bO.getD 3 default) rfl rfl hb rfl ?_ (fun e he => ?_)
  · simp [execOp, go_sem, bO, Try.f21, n, bV]
  · simp [execOp, go_sem, bO, Try.f21] at he
set_option maxRecDepth 100000 in
theorem b_step4 (p : TeP c F bN bL bS bB bC vs xb nb cb) (_hk : k < c.K) (h : BI (bV c F vs xb nb cb k) bS bB bC k l T) (_hr : 4 ∈ Region.ready md bO l) (h₁ : c.Ok w) :
    ∃ es, stepG Try.prog false (G (b.at ⟨T, []⟩ (.inRegion bO (4 :: rest) :: kk)) cs) w = .go (G (b.at ⟨T.setIfInBounds 9 (bV c F vs xb nb cb k 4), []⟩ (.inRegion bO rest :: kk)) cs) w es ∧ DQ c w w es := by
  have n := h.t2
  have f := p.ldB w h₁
  refine oper_q (o := bO.getD 4 default) rfl rfl hb rfl ?_ (fun e he => ?_)
  · simp [execOp, go_sem, bO, Try.f21, n, f, bV]
  · simp [execOp, go_sem, bO, Try.f21, n, f] at he
    subst he
    exact ⟨_, rfl, p.fx.2.2.2.1⟩
set_option maxRecDepth 100000 in
theorem b_step5 (_p : TeP c F bN bL bS bB bC vs xb nb cb) (_hk : k < c.K) (h : BI (bV c F vs xb nb cb k) bS bB bC k l T) (hr : 5 ∈ Region.ready md bO l) (_h₁ : c.Ok w) :
    ∃ es, stepG Try.prog false (G (b.at ⟨T, []⟩ (.inRegion bO (5 :: rest) :: kk)) cs) w = .go (G (b.at ⟨T.setIfInBounds 10 (bV c F vs xb nb cb k 5), []⟩ (.inRegion bO rest :: kk)) cs) w es ∧ DQ c w w es := by
  have n4 : T[9]? = some (.slice xb nb cb) := h.done 4 (by omega) (ready_on hr (by kernel_rfl))
  refine oper_q (o := bO.getD 5 default) rfl rfl hb rfl ?_ (fun e he => ?_)
  · simp [execOp, go_sem, bO, Try.f21, n4, bV]
  · simp [execOp, go_sem, bO, Try.f21, n4] at he
set_option maxRecDepth 100000 in
theorem b_step6 (p : TeP c F bN bL bS bB bC vs xb nb cb) (_hk : k < c.K) (h : BI (bV c F vs xb nb cb k) bS bB bC k l T) (hr : 6 ∈ Region.ready md bO l) (_h₁ : c.Ok w) :
    ∃ es, stepG Try.prog false (G (b.at ⟨T, []⟩ (.inRegion bO (6 :: rest) :: kk)) cs) w = .go (G (b.at ⟨T.setIfInBounds 11 (bV c F vs xb nb cb k 6), []⟩ (.inRegion bO rest :: kk)) cs) w es ∧ DQ c w w es := by
  have n3 : T[8]? = some (.int .i64 (k : Nat)) := h.done 3 (by omega) (ready_on hr (by kernel_rfl))
  have n5 : T[10]? = some (.int .i64 (nb : Nat)) := h.done 5 (by omega) (ready_on hr (by kernel_rfl))
  have z : nb ≠ 0 := by have := p.nb0; omega
  have y : IntKind.i64.wrap ((k : Int) / (nb : Int)) = (k : Int) / (nb : Int) := by
    have h0 := p.k1
    have h2 : (k : Int) / (nb : Int) = ((k / nb : Nat) : Int) := rfl
    have h3 : k / nb ≤ k := Nat.div_le_self _ _
    rw [h2]
    generalize k / nb = q at h3 ⊢
    rw [IntKind.wrap_i64]
    omega
  refine oper_q (o := bO.getD 6 default) rfl rfl hb rfl ?_ (fun e he => ?_)
  · simp [execOp, go_sem, bO, Try.f21, n3, n5, bV, z, y]
  · simp [execOp, go_sem, bO, Try.f21, n3, n5] at he
set_option maxRecDepth 100000 in
theorem b_step7 (_p : TeP c F bN bL bS bB bC vs xb nb cb) (_hk : k < c.K) (h : BI (bV c F vs xb nb cb k) bS bB bC k l T) (_hr : 7 ∈ Region.ready md bO l) (_h₁ : c.Ok w) :
    ∃ es, stepG Try.prog false (G (b.at ⟨T, []⟩ (.inRegion bO (7 :: rest) :: kk)) cs) w = .go (G (b.at ⟨T.setIfInBounds 12 (bV c F vs xb nb cb k 7), []⟩ (.inRegion bO rest :: kk)) cs) w es ∧ DQ c w w es := by
  have n := h.t0
  refine oper_q (o := bO.getD 7 default) rfl rfl hb rfl ?_ (fun e he => ?_)
  · simp [execOp, go_sem, bO, Try.f21, n, bV]
  · simp [execOp, go_sem, bO, Try.f21] at he
set_option maxRecDepth 100000 in
theorem b_step8 (p : TeP c F bN bL bS bB bC vs xb nb cb) (_hk : k < c.K) (h : BI (bV c F vs xb nb cb k) bS bB bC k l T) (_hr : 8 ∈ Region.ready md bO l) (h₁ : c.Ok w) :
    ∃ es, stepG Try.prog false (G (b.at ⟨T, []⟩ (.inRegion bO (8 :: rest) :: kk)) cs) w = .go (G (b.at ⟨T.setIfInBounds 13 (bV c F vs xb nb cb k 8), []⟩ (.inRegion bO rest :: kk)) cs) w es ∧ DQ c w w es := by
  have n := h.t2
  have f := p.ldB w h₁
  refine oper_q (o := bO.getD 8 default) rfl rfl hb rfl ?_ (fun e he => ?_)
  · simp [execOp, go_sem, bO, Try.f21, n, f, bV]
  · simp [execOp, go_sem, bO, Try.f21, n, f] at he
    subst he
    exact ⟨_, rfl, p.fx.2.2.2.1⟩
set_option maxRecDepth 100000 in
theorem b_step9 (_p : TeP c F bN bL bS bB bC vs xb nb cb) (_hk : k < c.K) (h : BI (bV c F vs xb nb cb k) bS bB bC k l T) (hr : 9 ∈ Region.ready md bO l) (_h₁ : c.Ok w) :
    ∃ es, stepG Try.prog false (G (b.at ⟨T, []⟩ (.inRegion bO (9 :: rest) :: kk)) cs) w = .go (G (b.at ⟨T.setIfInBounds 14 (bV c F vs xb nb cb k 9), []⟩ (.inRegion bO rest :: kk)) cs) w es ∧ DQ c w w es := by
  have n8 : T[13]? = some (.slice xb nb cb) := h.done 8 (by omega) (ready_on hr (by kernel_rfl))
  refine oper_q (o := bO.getD 9 default) rfl rfl hb rfl ?_ (fun e he => ?_)
  · simp [execOp, go_sem, bO, Try.f21, n8, bV]
  · simp [execOp, go_sem, bO, Try.f21, n8] at he
set_option maxRecDepth 100000 in
theorem b_step10 (p : TeP c F bN bL bS bB bC vs xb nb cb) (_hk : k < c.K) (h : BI (bV c F vs xb nb cb k) bS bB bC k l T) (hr : 10 ∈ Region.ready md bO l) (_h₁ : c.Ok w) :
    ∃ es, stepG Try.prog false (G (b.at ⟨T, []⟩ (.inRegion bO (10 :: rest) :: kk)) cs) w = .go (G (b.at ⟨T.setIfInBounds 15 (bV c F vs xb nb cb k 10), []⟩ (.inRegion bO rest :: kk)) cs) w es ∧ DQ c w w es := by
  have n7 : T[12]? = some (.int .i64 (k : Nat)) := h.done 7 (by omega) (ready_on hr (by kernel_rfl))
  have n9 : T[14]? = some (.int .i64 (nb : Nat)) := h.done 9 (by omega) (ready_on hr (by kernel_rfl))
  have z : nb ≠ 0 := by have := p.nb0; omega
  have y : (k : Int).tmod (nb : Int) = (k : Int) % (nb : Int) := rfl
  refine oper_q (o := bO.getD 10 default) rfl rfl hb rfl ?_ (fun e he => ?_)
  · simp [execOp, go_sem, bO, Try.f21, n7, n9, bV, z, y]
  · simp [execOp, go_sem, bO, Try.f21, n7, n9] at he
set_option maxRecDepth 100000 in
theorem b_step12 (_p : TeP c F bN bL bS bB bC vs xb nb cb) (hk : k < c.K) (h : BI (bV c F vs xb nb cb k) bS bB bC k l T) (hr : 12 ∈ Region.ready md bO l) (_h₁ : c.Ok w) :
    ∃ es, stepG Try.prog false (G (b.at ⟨T, []⟩ (.inRegion bO (12 :: rest) :: kk)) cs) w = .go (G (b.at ⟨T.setIfInBounds 17 (bV c F vs xb nb cb k 12), []⟩ (.inRegion bO rest :: kk)) cs) w es ∧ DQ c w w es := by
  have n0 : T[5]? = some (.slice (some ⟨c.Fd, 0, none⟩) c.K c.K) := h.done 0 (by omega) (ready_on hr (by kernel_rfl))
  have n1 : T[6]? = some (.int .i64 (k : Nat)) := h.done 1 (by omega) (ready_on hr (by kernel_rfl))
  refine oper_q (o := bO.getD 12 default) rfl rfl hb rfl ?_ (fun e he => ?_)
  · simp [execOp, go_sem, bO, Try.f21, n0, n1, bV, hk]
  · simp [execOp, go_sem, bO, Try.f21, n0, n1, hk] at he
end
end Go.Proofs.Ytpdemelchhkfaaa.Cs

/-
  tele.Best$1 in company: from its region's draw to the call of fits, and from there to the store.
-/
namespace Go.Proofs.Ytpdemelchhkfaaa.Cs
open Go.Conc
section
variable (P : Program) (c : Cst) (tW tT : TypeId) (F : Nat → Value) (Nx : Goroutine → Prop)
def xSto (k : Nat) (g : Goroutine) : Prop := isG g ∧ ∃ g', (∀ w, Ok2 c tW tT w → stepG P false g w = .go g' (w.setCell ⟨c.Fd, k, none⟩ (F k)) #[⟨.cell ⟨c.Fd, k, none⟩, true, false⟩]) ∧ On P c tW tT false Nx g'
def xCal (k : Nat) (g : Goroutine) : Prop := ∃ cal rest, g = G (Frame.enter P c.fB (c.ar k) .normal) (cal :: rest) ∧ On P c tW tT false (xSto P c tW tT F Nx k) (G (cal.finish (F k)) rest)
end
section
variable {c : Cst} {tW tT : TypeId} {Nx : Goroutine → Prop} {F : Nat → Value} {bN bL bS bB bC : Nat} {vs : Value} {xb : Option Addr} {nb cb k : Nat} {md : Region.Mode} {l : Array Bool} {T : Array Value} {b : Frame} {rest : List Nat} {kk : List Item} {cs : List Frame} {w : World}
theorem b_step (hb : b.kind ≠ .early) (p : TeP c F bN bL bS bB bC vs xb nb cb) (hk : k < c.K) (h : BI (bV c F vs xb nb cb k) bS bB bC k l T) {i : Nat} (hr : i ∈ Region.ready md bO l) (h11 : i ≠ 11) (h13 : i ≠ 13) (h₁ : c.Ok w) :
    ∃ es, stepG Try.prog false (G (b.at ⟨T, []⟩ (.inRegion bO (i :: rest) :: kk)) cs) w = .go (G (b.at ⟨T.setIfInBounds (i + 5) (bV c F vs xb nb cb k i), []⟩ (.inRegion bO rest :: kk)) cs) w es ∧ DQ c w w es := by
  have hi : i < 14 := by
    obtain ⟨_, o, ho, _⟩ := mem_ready.1 hr
    have := (Array.getElem?_eq_some_iff.1 ho).1
    rw [bO_size] at this
    exact this
  obtain rfl | rfl | rfl | rfl | rfl | rfl | rfl | rfl | rfl | rfl | rfl | rfl : i = 0 ∨ i = 1 ∨ i = 2 ∨ i = 3 ∨ i = 4 ∨ i = 5 ∨ i = 6 ∨ i = 7 ∨ i = 8 ∨ i = 9 ∨ i = 10 ∨ i = 12 := by omega
  · exact b_step0 hb p hk h hr h₁
  · exact b_step1 hb p hk h hr h₁
  · exact b_step2 hb p hk h hr h₁
  · exact b_step3 hb p hk h hr h₁
  · exact b_step4 hb p hk h hr h₁
  · exact b_step5 hb p hk h hr h₁
  · exact b_step6 hb p hk h hr h₁
  · exact b_step7 hb p hk h hr h₁
  · exact b_step8 hb p hk h hr h₁
  · exact b_step9 hb p hk h hr h₁
  · exact b_step10 hb p hk h hr h₁
  · exact b_step12 hb p hk h hr h₁
theorem set_false {i j : Nat} (hne : i ≠ j) : (l.setIfInBounds i true).getD j false = l.getD j false := by
  rw [Array.getD_eq_getD_getElem?, Array.getElem?_setIfInBounds_ne hne, ← Array.getD_eq_getD_getElem?]
theorem no_false (hs : l.size = 14) (h : l.toList.count false = 0) {j : Nat} (hj : j < 14) : l.getD j false = true := by
  have hlt : j < l.size := by omega
  cases e : l[j] with
  | true => simp [Array.getD_eq_getD_getElem?, hlt, e]
  | false =>
    have : false ∈ l.toList := by rw [← e]; simp
    exact absurd h (by have := List.count_pos_iff.2 this; omega)
theorem ready_false {i : Nat} (h : i ∈ Region.ready md bO l) : l.getD i false = false := by
  have h1 := (mem_ready.1 h).1
  rw [Array.getD_eq_getD_getElem?] at h1 ⊢
  cases e : l[i]? with
  | none => rfl
  | some x => rw [e] at h1; exact h1
set_option maxRecDepth 100000 in
theorem b_store (hb : b.kind ≠ .early) (p : TeP c F bN bL bS bB bC vs xb nb cb) (hk : k < c.K) (h16 : T[16]? = some (F k)) (h17 : T[17]? = some (.pointer (some ⟨c.Fd, k, none⟩))) (hl : (Try.prog.funcs[b.fn]?).any (·.norace) = false) (ok : c.Ok w) :
    stepG Try.prog false (G (b.at ⟨T, []⟩ (.inRegion bO (13 :: rest) :: kk)) cs) w = .go (G (b.at ⟨T, []⟩ (.inRegion bO rest :: kk)) cs) (w.setCell ⟨c.Fd, k, none⟩ (F k)) #[⟨.cell ⟨c.Fd, k, none⟩, true, false⟩] := by
  obtain ⟨n, hn⟩ := p.FI k
  rw [hn] at h16 ⊢
  obtain ⟨cs', hcs, hsz⟩ := ok.fd
  have hcell : w.cell? ⟨c.Fd, k, none⟩ = some (cs'.getD k undef) := by
    unfold World.cell?
    rw [hcs]
    simp [Array.getD_eq_getD_getElem?, show k < cs'.size by omega]
  have hfz : w.frozen? ⟨c.Fd, k, none⟩ = false := by
    unfold World.frozen?
    rw [hcs]
    simp
  rw [stepG_none (o := bO.getD 13 default) (w' := w.setCell ⟨c.Fd, k, none⟩ (.int .i64 n)) rfl rfl hb (by simp [execOp, go_sem, bO, Try.f21, h16, h17, hcell, hfz])]
  unfold listed
  rw [show Sem.events Try.prog _ w #[] = #[⟨.cell ⟨c.Fd, k, none⟩, true, false⟩] by simp [execOp, go_sem, bO, Try.f21, h16, h17, storedEv, hcell, hfz]]
  rw [seen_eq hl (by simp)]
  rfl
theorem b_post (hb : b.kind ≠ .early) (hl : (Try.prog.funcs[b.fn]?).any (·.norace) = false) (p : TeP c F bN bL bS bB bC vs xb nb cb) (hk : k < c.K) (hN : ∀ T, On Try.prog c tW tT false Nx (G (b.at ⟨T, []⟩ (.inRegion bO [] :: kk)) cs)) {r : List Nat} (ho : Ords md bO l r) :
    ∀ {T : Array Value}, BI (bV c F vs xb nb cb k) bS bB bC k l T → l.getD 11 false = true → l.getD 13 false = false → ∀ w, Goes Try.prog false (fun _ w => Ok2 c tW tT w) (DQ c) (fun g _ => g.status = .running ∧ xSto Try.prog c tW tT F Nx k g) r.length (G (b.at ⟨T, []⟩ (.inRegion bO r :: kk)) cs) w := by
  induction ho with
  | nil h => intro T hI _ h13 w; rw [no_false hI.ls h (by omega)] at h13; cases h13
  | @cons l i r hr hs t ih =>
    intro T hI h11 h13 w
    by_cases e13 : i = 13
    · subst e13
      have all : ∀ j, j < 13 → l.getD j false = true := by
        intro j hj
        obtain rfl | rfl | rfl | rfl | rfl | rfl | rfl | rfl | rfl | rfl | rfl | rfl | rfl : j = 0 ∨ j = 1 ∨ j = 2 ∨ j = 3 ∨ j = 4 ∨ j = 5 ∨ j = 6 ∨ j = 7 ∨ j = 8 ∨ j = 9 ∨ j = 10 ∨ j = 11 ∨ j = 12 := by omega
        all_goals exact ready_on hr (by kernel_rfl)
      have hnil : r = [] := by
        cases t with
        | nil _ => rfl
        | @cons _ j r h hs' t =>
          have h1 := ready_false h
          by_cases hj : j = 13
          · subst hj
            rw [Array.getD_eq_getD_getElem?, Array.getElem?_setIfInBounds_self_of_lt hs] at h1
            cases h1
          · rw [set_false (by omega), all j (by have := hI.ls; simp at hs'; omega)] at h1
            cases h1
      subst hnil
      refine Goes.stop fun w₁ h₁ => ⟨rfl, ⟨_, _, rfl⟩, _, fun w₂ h₂ => b_store hb p hk (hI.done 11 (by omega) (all 11 (by omega))) (hI.done 12 (by omega) (all 12 (by omega))) hl h₂.ok, hN T⟩
    · have e11 : i ≠ 11 := by
        rintro rfl
        rw [ready_false hr] at h11
        cases h11
      have hi : i < 13 := by have := hI.ls; omega
      refine Goes.step rfl fun w₁ h₁ => ?_
      obtain ⟨es, hst, hdq⟩ := b_step (rest := r) (kk := kk) (cs := cs) hb p hk hI hr e11 e13 h₁.ok
      rw [hst, goes_go]
      refine ⟨hdq, ih (hI.put hi) ?_ ?_ w₁⟩
      · rw [set_false e11]; exact h11
      · rw [set_false e13]; exact h13
set_option maxRecDepth 100000 in
theorem b_pre (hb : b.kind ≠ .early) (hl : (Try.prog.funcs[b.fn]?).any (·.norace) = false) (p : TeP c F bN bL bS bB bC vs xb nb cb) (hk : k < c.K) (hN : ∀ T, On Try.prog c tW tT false Nx (G (b.at ⟨T, []⟩ (.inRegion bO [] :: kk)) cs)) {r : List Nat} (ho : Ords md bO l r) :
    ∀ {T : Array Value}, BI (bV c F vs xb nb cb k) bS bB bC k l T → l.getD 11 false = false → l.getD 13 false = false → ∀ w, Goes Try.prog false (fun _ w => Ok2 c tW tT w) (DQ c) (fun g _ => g.status = .running ∧ xCal Try.prog c tW tT F Nx k g) r.length (G (b.at ⟨T, []⟩ (.inRegion bO r :: kk)) cs) w := by
  induction ho with
  | nil h => intro T hI _ h13 w; rw [no_false hI.ls h (by omega)] at h13; cases h13
  | @cons l i r hr hs t ih =>
    intro T hI h11 h13 w
    have e13 : i ≠ 13 := by
      rintro rfl
      rw [ready_on (j := 11) hr (by kernel_rfl)] at h11
      cases h11
    by_cases e11 : i = 11
    · subst e11
      refine Goes.step rfl fun w₁ h₁ => ?_
      have n2 : T[7]? = some vs := hI.done 2 (by omega) (ready_on hr (by kernel_rfl))
      have n6 : T[11]? = some (.int .i64 (k / nb : Nat)) := hI.done 6 (by omega) (ready_on hr (by kernel_rfl))
      have n10 : T[15]? = some (.int .i64 (k % nb : Nat)) := hI.done 10 (by omega) (ready_on hr (by kernel_rfl))
      rw [stepG_enter (o := bO.getD 11 default) (f := 22) (args := #[vs, .int .i64 (k / nb : Nat), .int .i64 (k % nb : Nat)]) (w' := w₁) rfl rfl hb (by simp [execOp, go_sem, bO, Try.f21, n2, n6, n10])]
      rw [listed_nil (by simp [execOp, go_sem, bO, Try.f21, n2, n6, n10, callFunc, Try.func22, Try.f22])]
      rw [goes_go]
      refine ⟨⟨rfl, rfl, rfl, rfl, fun e he => by simp at he⟩, Goes.stop fun w₂ h₂ => ⟨rfl, _, _, by rw [p.fB, p.ar], rfl, fun w₃ h₃ => ⟨r.length, ?_⟩⟩⟩
      rw [Frame.finish_at]
      exact b_post hb hl p hk hN t (hI.put (i := 11) (by omega)) (by rw [Array.getD_eq_getD_getElem?, Array.getElem?_setIfInBounds_self_of_lt hs]; rfl) (by rw [set_false (by omega)]; exact h13) w₃
    · have hi : i < 13 := by have := hI.ls; omega
      refine Goes.step rfl fun w₁ h₁ => ?_
      obtain ⟨es, hst, hdq⟩ := b_step (rest := r) (kk := kk) (cs := cs) hb p hk hI hr e11 e13 h₁.ok
      rw [hst, goes_go]
      refine ⟨hdq, ih (hI.put hi) ?_ ?_ w₁⟩
      · rw [set_false e11]; exact h11
      · rw [set_false e13]; exact h13
/-- From the entry of Best$1's body to the call of fits. -/
theorem b_body (hb : b.kind ≠ .early) (hl : (Try.prog.funcs[b.fn]?).any (·.norace) = false) (p : TeP c F bN bL bS bB bC vs xb nb cb) (hk : k < c.K) (hN : ∀ T, On Try.prog c tW tT false Nx (G (b.at ⟨T, []⟩ (.inRegion bO [] :: kk)) cs))
    {T : Array Value} (hT : T.size = 18) (t0 : T[0]? = some (.int .i64 (k : Nat))) (t1 : T[1]? = some (.pointer (some ⟨bS, 0, none⟩))) (t2 : T[2]? = some (.pointer (some ⟨bB, 0, none⟩))) (t3 : T[3]? = some (.pointer (some ⟨bC, 0, none⟩))) :
    ∀ w, Walk2 Try.prog c tW tT false (xCal Try.prog c tW tT F Nx k) 15 (G (b.at ⟨T, []⟩ (.code (.region 0 bO true) :: kk)) cs) w := by
  intro w
  refine Goes.step rfl fun w₁ h₁ => ?_
  rw [stepG_region_draw, goes_go]
  refine ⟨⟨rfl, rfl, rfl, rfl, fun e he => by simp at he⟩, ?_⟩
  obtain ⟨md, ho⟩ := ords_schedule (mixed := Try.prog.follows .mixedOrders) bO_low (w₁.tape w₁.drawn (.order b.fn 0))
  have hlen : ∀ {l : Array Bool} {r : List Nat}, Ords md bO l r → l.size = 14 → r.length ≤ l.toList.count false := by
    intro l r h
    induction h with
    | nil _ => intro _; simp
    | @cons l i r hr hs t ih =>
      intro hs'
      have h1 := ih (by simp [hs'])
      rw [Array.toList_setIfInBounds] at h1
      have hlt' : i < l.toList.length := by simpa using hs
      rw [List.count_set hlt'] at h1
      have e1 : l.toList[i] = false := by
        have := ready_false hr
        rw [Array.getD_eq_getD_getElem?] at this
        simp [hs] at this
        simpa using this
      have h2 : 0 < l.toList.count false := List.count_pos_iff.2 (by rw [← e1]; exact List.getElem_mem hlt')
      simp only [e1, beq_self_eq_true, ↓reduceIte, show (true == false) = false from rfl, Bool.false_eq_true] at h1
      rw [List.length_cons]
      omega
  have h14 := hlen ho (by simp [bO_size])
  have hc : (Array.replicate bO.size false).toList.count false = 14 := by simp [bO_size]
  rw [hc] at h14
  refine (b_pre hb hl p hk hN ho ⟨hT, by simp [bO_size], t0, t1, t2, t3, fun d hd h => ?_⟩ ?_ ?_ _).mono h14
  · simp [Array.getD_eq_getD_getElem?, bO_size, show d < 14 by omega] at h
  · simp [Array.getD_eq_getD_getElem?, bO_size]
  · simp [Array.getD_eq_getD_getElem?, bO_size]
end
end Go.Proofs.Ytpdemelchhkfaaa.Cs
