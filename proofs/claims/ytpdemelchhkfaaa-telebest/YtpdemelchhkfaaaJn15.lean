/-
  Several texts, joined: CwB, CwC.
-/
import Derived.Test.YtpdemelchhkfaaaCwA
import Derived.Test.YtpdemelchhkfaaaJn8
import Derived.Conc.CrowdSpec
/-
  Another pool: workers take numbers from a counter, do the jobs, store what came out, and tell a group that they are done; goroutine 0 waits for the group. What each of them does; where each of them is.
-/
namespace Go.Proofs.Ytpdemelchhkfaaa.Cs
open Go.Conc
open Go.ConcN (sumTo upd sumTo_upd upd_ne upd_same sumTo_congr)
open Go.ConcR (KK WgAt wgBlock stA smA rd wr mk)
/-- The counter is there (C1), and the group (C2). -/
def TkAt (c : Cst) (tT : TypeId) (w : World) (k : Nat) : Prop := w.heap[c.C1]? = some (.cells #[.int .i64 (k : Nat)] tT (0, 0))
structure Ok2 (c : Cst) (tW tT : TypeId) (w : World) : Prop where
  ok : c.Ok w
  tk : ∃ k, TkAt c tT w k
  wg : ∃ st sm, WgAt tW c.C2 w st sm
def Walk2 (P : Program) (c : Cst) (tW tT : TypeId) (main : Bool) (Stp : Goroutine → Prop) (m : Nat) (g : Goroutine) (w : World) : Prop := Goes P main (fun _ w => Ok2 c tW tT w) (DQ c) (fun g _ => g.status = .running ∧ Stp g) m g w
/-- It walks on from there. -/
def On (P : Program) (c : Cst) (tW tT : TypeId) (main : Bool) (Stp : Goroutine → Prop) (g : Goroutine) : Prop := g.status = .running ∧ ∀ w, Ok2 c tW tT w → ∃ m, Walk2 P c tW tT main Stp m g w
/-- A walk that lists nothing. -/
def Walk3 (P : Program) (c : Cst) (tW tT : TypeId) (Stp : Goroutine → Prop) (m : Nat) (g : Goroutine) (w : World) : Prop := Goes P false (fun _ w => Ok2 c tW tT w) (fun w w' es => DQ c w w' es ∧ es = #[]) (fun g _ => g.status = .running ∧ Stp g) m g w
def On3 (P : Program) (c : Cst) (tW tT : TypeId) (Stp : Goroutine → Prop) (g : Goroutine) : Prop := g.status = .running ∧ ∀ w, Ok2 c tW tT w → ∃ m, Walk3 P c tW tT Stp m g w
variable [Fns]
/-- What the goroutines do, piece by piece. -/
structure Scr2 (P : Program) (c : Cst) (tW tT : TypeId) (F : Nat → Value) where
  Tak : Goroutine → Prop
  Cal : Nat → Goroutine → Prop
  Sto : Nat → Goroutine → Prop
  Rel : Goroutine → Prop
  Dis : Goroutine → Prop
  Dec : Goroutine → Prop
  Lod : Goroutine → Prop
  Zer : Goroutine → Prop
  Sem : Goroutine → Prop
  GoP : Nat → Goroutine → Prop
  WtD : Goroutine → Prop
  W1 : Goroutine → Prop
  W2 : Nat → Goroutine → Prop
  Sai : Goroutine → Prop
  W3 : Goroutine → Prop
  W4 : Goroutine → Prop
  Ke : Goroutine → Prop
  Acq : Goroutine → Prop
  JnP : Goroutine → Prop
  n1 : 1 ≤ c.n ∧ c.n ≤ 1000
  k1 : c.K ≤ 1099511627776
  s1 : 1 ≤ c.S0
  d1 : c.C1 < c.N1 ∧ c.C2 < c.N1 ∧ c.Fd < c.N1 ∧ c.C1 ≠ c.C2 ∧ c.C1 ≠ c.Fd ∧ c.C2 ≠ c.Fd
  one : ∀ k, (F k).oneCell' = true
  tak : ∀ g, Tak g → isG g ∧ ∀ k : Nat, k ≤ 1099511629000 → ∃ g', (∀ w, Ok2 c tW tT w → TkAt c tT w k → stepG P false g w = .go g' (w.setCell ⟨c.C1, 0, none⟩ (.int .i64 ((k + 1 : Nat) : Int))) #[rd ⟨c.C1, 0, none⟩, wr ⟨c.C1, 0, none⟩]) ∧ On P c tW tT false (fun g => if k < c.K then Cal k g else Rel g) g'
  cal : ∀ k g, Cal k g → k < c.K → ∃ cal rest, g = G (Frame.enter P c.fB (c.ar k) .normal) (cal :: rest) ∧ On P c tW tT false (Sto k) (G (cal.finish (F k)) rest)
  sto : ∀ k g, Sto k g → k < c.K → isG g ∧ ∃ g', (∀ w, Ok2 c tW tT w → stepG P false g w = .go g' (w.setCell ⟨c.Fd, k, none⟩ (F k)) #[⟨.cell ⟨c.Fd, k, none⟩, true, false⟩]) ∧ On P c tW tT false Tak g'
  rel : ∀ g, Rel g → isG g ∧ ∃ g', (∀ w, Ok2 c tW tT w → stepG P false g w = .go g' w #[mk (.releaseMerge (stA c.C2))]) ∧ On3 P c tW tT Dis g'
  dis : ∀ g, Dis g → isG g ∧ ∃ g', (∀ w, Ok2 c tW tT w → stepG P false g w = .go g' w #[mk .disable]) ∧ On3 P c tW tT Dec g'
  dec : ∀ g, Dec g → isG g ∧ ∀ v wt : Nat, wt ≤ 1 → v < 2147483647 → ∃ g', (∀ w, WgAt tW c.C2 w (((v : Int) + 1) * KK + wt) 0 → stepG P false g w = .go g' (w.setCell (stA c.C2) (.int .u64 ((v : Int) * KK + wt))) #[rd (stA c.C2), wr (stA c.C2)]) ∧
    ((v = 0 ∧ wt = 1) → On3 P c tW tT Lod g') ∧ (¬ (v = 0 ∧ wt = 1) → ∃ q, QuitsD P q 1 g')
  lod : ∀ g, Lod g → isG g ∧ ∃ g', (∀ w, WgAt tW c.C2 w 1 0 → stepG P false g w = .go g' w #[rd (stA c.C2)]) ∧ On3 P c tW tT Zer g'
  zer : ∀ g, Zer g → isG g ∧ ∃ g', (∀ w, WgAt tW c.C2 w 1 0 → stepG P false g w = .go g' (w.setCell (stA c.C2) (.int .u64 0)) #[wr (stA c.C2)]) ∧ On3 P c tW tT Sem g'
  sem : ∀ g, Sem g → isG g ∧ mayWake P g = true ∧ ∃ g', (∀ w, WgAt tW c.C2 w 0 0 → stepG P false g w = .go g' (w.setCell (smA c.C2) (.int .u32 1)) (semEvents (smA c.C2))) ∧ ∃ q, QuitsD P q 1 g'
  gop : ∀ j g, GoP j g → j < c.n → isG g ∧ ∃ g' ch, (∀ w, stepG P true g w = .spawn g' ch w #[]) ∧ On P c tW tT false Tak ch ∧ On P c tW tT true (fun g => if j + 1 < c.n then GoP (j + 1) g else WtD g) g'
  wtd : ∀ g, WtD g → isG g ∧ ∃ g', (∀ w, Ok2 c tW tT w → stepG P true g w = .go g' w #[mk .disable]) ∧ On P c tW tT true W1 g'
  w1 : ∀ g, W1 g → isG g ∧ ∀ v : Nat, v < 2147483648 → ∃ g', (∀ w, WgAt tW c.C2 w ((v : Int) * KK) 0 → stepG P true g w = .go g' w #[rd (stA c.C2)]) ∧ On P c tW tT true (fun g => if v = 0 then Ke g else W2 v g) g'
  w2h : ∀ v g, W2 v g → 0 < v → v < 2147483648 → isG g ∧ ∃ g', (∀ w, WgAt tW c.C2 w ((v : Int) * KK) 0 → stepG P true g w = .go g' (w.setCell (stA c.C2) (.int .u64 ((v : Int) * KK + 1))) #[rd (stA c.C2), wr (stA c.C2)]) ∧ On P c tW tT true Sai g'
  w2m : ∀ vs g, W2 vs g → ∀ v : Nat, v < 2147483648 → v ≠ vs → ∃ g', (∀ w, WgAt tW c.C2 w ((v : Int) * KK) 0 → stepG P true g w = .go g' w #[rd (stA c.C2)]) ∧ On P c tW tT true W1 g'
  sai : ∀ g, Sai g → isG g ∧ ∃ g', (∀ w, Ok2 c tW tT w → stepG P true g w = .go g' w #[mk (.write (smA c.C2))]) ∧ On P c tW tT true W3 g'
  w3 : ∀ g, W3 g → isG g ∧ g.offers = none ∧ (∀ w st, WgAt tW c.C2 w st 0 → stepG P true g w = .go { g with status := .blocked } w #[]) ∧ ∃ g', (∀ w, WgAt tW c.C2 w 0 1 → stepG P true g w = .go g' (w.setCell (smA c.C2) (.int .u32 0)) (semEvents (smA c.C2))) ∧ On P c tW tT true W4 g'
  w4 : ∀ g, W4 g → isG g ∧ ∃ g', (∀ w, WgAt tW c.C2 w 0 0 → stepG P true g w = .go g' w #[rd (stA c.C2)]) ∧ On P c tW tT true Ke g'
  ke : ∀ g, Ke g → isG g ∧ ∃ g', (∀ w, Ok2 c tW tT w → stepG P true g w = .go g' w #[mk .enable]) ∧ On P c tW tT true Acq g'
  acq : ∀ g, Acq g → isG g ∧ ∃ g', (∀ w, Ok2 c tW tT w → stepG P true g w = .go g' w #[mk (.acquire (stA c.C2))]) ∧ On P c tW tT true JnP g'
  fok : Fns.ok c.fB = true
  job : ∀ k, k < c.K → ∀ w, c.Ok w → ∃ (E : Env) (wl : World) (x : Array Value), (∀ b q s o, E b = some (q, s, o) → o = false ∧ c.Fix q) ∧ LR E x (c.ar k) ∧ WR P E wl w ∧ Fns.G ≤ wl.heap.size ∧ ∀ τ, Calls P c.fB x (wl.tp τ) fun e _ => ∃ v, e = .returned v ∧ v = F k
  vr : ∀ k (E : Env) v', VR E (F k) v' → v' = F k
/-- Where goroutine 0 is. -/
inductive Y0
  | sp (j m : Nat)
  | wd (m : Nat)
  | w1 (m : Nat)
  | w2 (v m : Nat)
  | sa (m : Nat)
  | w3 (m : Nat)
  | w3b
  | w4 (m : Nat)
  | ke (m : Nat)
  | ac (m : Nat)
  | jn (m : Nat)
/-- Where a worker is. -/
inductive YW (P : Program)
  | st (m : Nat)
  | pr (k m : Nat)
  | ca (k : Nat) (E : Env) (s : { s : Gh // Acc (After P [trap P]) s })
  | po (k m : Nat)
  | re (m : Nat)
  | di (m : Nat)
  | de (m : Nat)
  | lo (m : Nat)
  | ze (m : Nat)
  | se (m : Nat)
  | lv (q : Nat)
section
variable {P : Program} {c : Cst} {tW tT : TypeId} {F : Nat → Value} (S : Scr2 P c tW tT F)
def spawned2 (c : Cst) : Y0 → Nat
  | .sp j _ => j
  | _ => c.n
/-- It waits, counted. -/
def reg : Y0 → Nat
  | .sa _ | .w3 _ | .w3b => 1
  | _ => 0
/-- It has seen all be done. -/
def past0 : Y0 → Prop
  | .w4 _ | .ke _ | .ac _ | .jn _ => True
  | _ => False
def deaf0 : Y0 → Nat
  | .sp _ _ | .wd _ | .ac _ | .jn _ => 0
  | _ => 1
def T0 : Y0 → Goroutine → World → Prop
  | .sp j m, g, w => j < c.n ∧ Walk2 P c tW tT true (S.GoP j) m g w
  | .wd m, g, w => Walk2 P c tW tT true S.WtD m g w
  | .w1 m, g, w => Walk2 P c tW tT true S.W1 m g w
  | .w2 v m, g, w => 0 < v ∧ v < 2147483648 ∧ Walk2 P c tW tT true (S.W2 v) m g w
  | .sa m, g, w => Walk2 P c tW tT true S.Sai m g w
  | .w3 m, g, w => Walk2 P c tW tT true S.W3 m g w
  | .w3b, g, _ => ∃ g', S.W3 g' ∧ g = { g' with status := .blocked }
  | .w4 m, g, w => Walk2 P c tW tT true S.W4 m g w
  | .ke m, g, w => Walk2 P c tW tT true S.Ke m g w
  | .ac m, g, w => Walk2 P c tW tT true S.Acq m g w
  | .jn _, _, _ => False
/-- How deaf a worker is. -/
def deafW : YW P → Nat → Prop
  | .de _, d | .lo _, d | .ze _, d | .se _, d => d = 1
  | .lv _, _ => True
  | _, d => d = 0
def TW (d : Nat) : YW P → Goroutine → World → Prop
  | .st m, g, w => Walk2 P c tW tT false S.Tak m g w
  | .pr k m, g, w => k < c.K ∧ Walk2 P c tW tT false (S.Cal k) m g w
  | .ca k E s, g, w => k < c.K ∧ ∃ cal rest, InCall P (fun v _ => v = F k) (cal :: rest) E s.1.1 s.1.2 g w ∧ On P c tW tT false (S.Sto k) (G (cal.finish (F k)) rest)
  | .po k m, g, w => k < c.K ∧ Walk2 P c tW tT false (S.Sto k) m g w
  | .re m, g, w => Walk2 P c tW tT false S.Rel m g w
  | .di m, g, w => Walk3 P c tW tT S.Dis m g w
  | .de m, g, w => Walk3 P c tW tT S.Dec m g w
  | .lo m, g, w => Walk3 P c tW tT S.Lod m g w
  | .ze m, g, w => Walk3 P c tW tT S.Zer m g w
  | .se m, g, w => Walk3 P c tW tT S.Sem m g w
  | .lv q, g, _ => QuitsD P q d g
def yi0 : Y0 → Mi P [trap P]
  | .sp _ m | .wd m | .w1 m | .w2 _ m | .sa m | .w3 m | .w4 m | .ke m | .ac m | .jn m => .inl m
  | .w3b => .inl 0
def yiW : YW P → Mi P [trap P]
  | .st m | .pr _ m | .po _ m | .re m | .di m | .de m | .lo m | .ze m | .se m | .lv m => .inl m
  | .ca _ _ s => .inr s
/-- Moves that are left to it; v: how many workers are not yet done. -/
def q0 (c : Cst) (v : Nat) : Y0 → Nat
  | .sp j _ => 12 * (c.n - j) + 3 * c.n + 20
  | .wd _ => 3 * c.n + 15
  | .w1 _ => 3 * v + 12
  | .w2 u _ => 3 * u + 11
  | .sa _ => 8
  | .w3 _ | .w3b => 7
  | .w4 _ => 6
  | .ke _ => 5
  | .ac _ => 4
  | .jn _ => 3
/-- .. and to a worker, but for the numbers that are left. -/
def qW : YW P → Nat
  | .lv _ => 0
  | .se _ => 1
  | .ze _ => 2
  | .lo _ => 3
  | .de _ => 4
  | .di _ => 5
  | .re _ => 6
  | .st _ => 7
  | .po _ _ => 8
  | .ca _ _ _ => 9
  | .pr _ _ => 10
/-- It has the job. -/
def holds2 : YW P → Nat → Prop
  | .pr k _, j => k = j
  | .ca k _ _, j => k = j
  | .po k _, j => k = j
  | _, _ => False
/-- Blocks that it is working in. -/
def inUse2 : YW P → Nat → Prop
  | .ca _ E _, q => ∃ b s, E b = some (q, s, true)
  | _, _ => False
/-- Not yet counted down. -/
def bef : YW P → Nat
  | .st _ | .pr _ _ | .ca _ _ _ | .po _ _ | .re _ | .di _ | .de _ => 1
  | _ => 0
/-- It has told that it is done. -/
def told : YW P → Prop
  | .di _ | .de _ | .lo _ | .ze _ | .se _ | .lv _ => True
  | _ => False
def isLv2 : YW P → Prop
  | .lv _ => True
  | _ => False
/-- It lets goroutine 0 go. -/
def closing : YW P → Prop
  | .lo _ | .ze _ | .se _ => True
  | _ => False
end
end Go.Proofs.Ytpdemelchhkfaaa.Cs

/-
  The other pool's trace: who knows what; blocks that are touched by atomic means alone.
-/
namespace Go.Proofs.Ytpdemelchhkfaaa.Cs
open Go.Conc
open Go.ConcR (KK WgAt wgBlock stA smA rd wr mk)
/-- As TI; Sn: blocks that are touched by atomic means alone (what is said of them, by goroutine 0). -/
structure TJ (Sn : Nat → Prop) (t : Trace) (own : _root_.Go.Loc → Option Nat) (act : Nat → Prop) : Prop where
  clean : ∀ said, ¬ Race said t
  mine : ∀ l g, own l = some g → Perm t g l
  read : ∀ l, own l = none → ¬ snL Sn l → ∀ g, act g → ∀ i a, touchAt t i = some a → a.loc = l → a.write = true → Knows t g i
  shn : ∀ (i : Nat) (x : MemOp) (a : Touch), t[i]? = some x → x.act.touch? = some a → snL Sn a.loc → a.kind ≠ .plain ∧ (a.kind = .said → x.g = 0)
section
variable {Sn : Nat → Prop} {t u : Trace} {own : _root_.Go.Loc → Option Nat} {act : Nat → Prop}
/-- What goroutine g may list. -/
def OkBy2 (Sn : Nat → Prop) (own : _root_.Go.Loc → Option Nat) (g : Nat) (op : MemOp) : Prop :=
  op.g = g ∧ ∀ b, op.act.touch? = some b → (snL Sn b.loc ∧ b.kind ≠ .plain ∧ (b.kind = .said → g = 0)) ∨ (¬ snL Sn b.loc ∧ (own b.loc = some g ∨ (own b.loc = none ∧ b.write = false)))
theorem TJ.step {g : Nat} (h : TJ Sn t own act) (hg : act g) (ho : ∀ l, snL Sn l → own l = none) (hu : ∀ op ∈ u, OkBy2 Sn own g op) : TJ Sn (t ++ u) own act := by
  refine ⟨fun said => noRace_append (h.clean said) (fun op hop => (hu op hop).1) fun i a ha op hop b hb hc => ?_, fun l g' hl => ?_, fun l hl hn g' hg' i a ha hal haw => ?_, fun i x a hx ha hs => ?_⟩
  · rcases (hu op hop).2 b hb with ⟨h1, h2, h3⟩ | ⟨h0, h1 | ⟨h1, h2⟩⟩
    · obtain ⟨x, hx, hxa⟩ := touch_of ha
      obtain ⟨k1, k2⟩ := h.shn i x a hx hxa (by rw [hc.1]; exact h1)
      rcases hc.2.2.2 with h4 | h4 | ⟨_, h4, h5⟩
      · exact absurd h4 k1
      · exact absurd h4 h2
      · have := knows_own hx
        rw [k2 h4, ← h3 h5] at this
        exact this
    · exact h.mine b.loc g h1 i a ha hc.1
    · rcases hc.2.2.1 with h3 | h3
      · exact h.read b.loc h1 h0 g hg i a ha hc.1 h3
      · rw [h2] at h3; cases h3
  · refine (h.mine l g' hl).app fun op hop b hb e => ?_
    rcases (hu op hop).2 b hb with ⟨h1, _⟩ | ⟨_, h1 | ⟨h1, _⟩⟩
    · rw [e] at h1
      rw [ho l h1] at hl; cases hl
    · rw [e, hl] at h1
      cases h1
      exact (hu op hop).1
    · rw [e, hl] at h1; cases h1
  · obtain ⟨x, hx, hxa⟩ := touch_of ha
    rcases getElem?_append_cases hx with ⟨hi, hx'⟩ | ⟨_, hxu⟩
    · exact (h.read l hl hn g' hg' i a (by rw [touchAt_of hx']; exact hxa) hal haw).app u
    · rcases (hu x hxu).2 a hxa with ⟨h1, _⟩ | ⟨_, h1 | ⟨_, h2⟩⟩
      · rw [hal] at h1; exact absurd h1 hn
      · rw [hal, hl] at h1; cases h1
      · rw [h2] at haw; cases haw
  · rcases getElem?_append_cases hx with ⟨_, hx'⟩ | ⟨_, hxu⟩
    · exact h.shn i x a hx' ha hs
    · rcases (hu x hxu).2 a ha with ⟨_, h2, h3⟩ | ⟨h1, _⟩
      · exact ⟨h2, fun e => by rw [(hu x hxu).1]; exact h3 e⟩
      · exact absurd hs h1
theorem TJ.mute (h : TJ Sn t own act) (hn : ∀ op ∈ u, op.act.touch? = none) : TJ Sn (t ++ u) own act := by
  refine ⟨fun said => mute_clean (h.clean said) hn, fun l g' hl => (h.mine l g' hl).app fun op hop b hb _ => (by rw [hn op hop] at hb; cases hb), fun l hl hs g' hg' i a ha hal haw => ?_, fun i x a hx ha => h.shn i x a (mute_keep hn hx ha) ha⟩
  obtain ⟨x, hx, hxa⟩ := touch_of ha
  exact (h.read l hl hs g' hg' i a (by rw [touchAt_of (mute_keep hn hx hxa)]; exact hxa) hal haw).app u
theorem TJ.turn {own' : _root_.Go.Loc → Option Nat} (h : TJ Sn t own act) (hm : ∀ l g, own' l = some g → own l = some g ∨ (∀ i a, touchAt t i = some a → a.loc ≠ l) ∨ Perm t g l) (hr : ∀ l, own' l = none → own l = none ∨ ∀ i a, touchAt t i = some a → a.loc ≠ l) : TJ Sn t own' act := by
  refine ⟨h.clean, fun l g hl => ?_, fun l hl hs g hg i a ha hal haw => ?_, h.shn⟩
  · rcases hm l g hl with h1 | h1 | h1
    · exact h.mine l g h1
    · exact fun i a ha hal => absurd hal (h1 i a ha)
    · exact h1
  · rcases hr l hl with h1 | h1
    · exact h.read l h1 hs g hg i a ha hal haw
    · exact absurd hal (h1 i a ha)
/-- What was known to one is known to another one who has noticed a later operation of its. -/
theorem Knows.over2 {g g' i p q : Nat} {x y : MemOp} (h : Knows (t.extract 0 p) g i) (hx : t[p]? = some x) (hg : x.g = g) (hy : t[q]? = some y) (hg' : y.g = g') (hn : Notices t p q) (h1 : t.heard p) (h2 : t.heard q) : Knows t g' i := by
  have hp : p < t.size := lt_size_of_getElem? hx
  obtain ⟨j, z, hz, hzg, hb⟩ := h
  have hjp : j < p := by
    have := lt_size_of_getElem? hz
    simp at this
    omega
  have e : t.extract 0 p ++ t.extract p t.size = t := by simp; omega
  have hz' : t[j]? = some z := by
    have := getElem?_append_old (u := t.extract p t.size) (lt_size_of_getElem? hz)
    rw [e] at this
    rw [this]
    exact hz
  have hb' : Before t i j := by
    have := hb.app (t.extract p t.size)
    rw [e] at this
    exact this
  refine ⟨q, y, hy, hg', .inr ?_⟩
  have k1 : HappensBefore t j p := hb_po hjp hz' hx (hzg.trans hg.symm)
  have k2 : HappensBefore t p q := Relation.TransGen.single (.inr ⟨hn, h1, h2⟩)
  exact (hb'.hb k1).trans k2
end
section
variable {P : Program} {c : Cst} {Sn : Nat → Prop}
/-- Where a release of worker i's lies, heard, behind place j. -/
def RelAt (c : Cst) (t : Trace) (i j : Nat) : Prop := ∃ p y, j < p ∧ t[p]? = some y ∧ y.g = i ∧ y.act = .mark (.releaseMerge (stA c.C2)) ∧ t.heard p
structure Tr2 (c : Cst) (Sn : Nat → Prop) (zs : Nat → YW P) (top : Nat) (fnd blk : Nat → Option Nat) (size : Nat) (t : Trace) : Prop where
  ti : TJ Sn t (ownOf c fnd blk) (fun i => i = 0 ∨ (c.S0 ≤ i ∧ i < top))
  low : ∀ j a, touchAt t j = some a → locLow size a.loc
  fdT : ∀ j a ad, touchAt t j = some a → a.loc = .cell ad → ad.block = c.Fd → ∃ i, fnd ad.off = some i
  kn : ∀ (j : Nat) (x : MemOp) (a : Touch), t[j]? = some x → x.act.touch? = some a → Cn Sn t j a → Knows t 0 j ∨ (c.S0 ≤ x.g ∧ x.g < top ∧ (told (zs x.g) → RelAt c t x.g j))
  nor : ∀ (j : Nat) (x : MemOp), t[j]? = some x → isRel x.act ≠ true
variable {zs zs' : Nat → YW P} {top : Nat} {fnd blk : Nat → Option Nat} {size size' : Nat} {t u : Trace}
theorem heard_app {t u : Trace} {p : Nat} (h : t.heard p) : (t ++ u).heard p := by
  obtain ⟨g, h1, h2⟩ := h
  have hp : p < t.size := by
    cases hx : t[p]? with
    | none => simp [Trace.g?, hx] at h1
    | some x => exact lt_size_of_getElem? hx
  refine ⟨g, by simpa [Trace.g?, getElem?_append_old (u := u) hp] using h1, ?_⟩
  rw [deaf_old (Nat.le_of_lt hp)]
  exact h2
theorem RelAt.app {i j : Nat} (h : RelAt c t i j) (u : Trace) : RelAt c (t ++ u) i j := by
  obtain ⟨p, y, h1, h2, h3, h4, h5⟩ := h
  exact ⟨p, y, h1, by rw [getElem?_append_old (lt_size_of_getElem? h2)]; exact h2, h3, h4, heard_app h5⟩
/-- Operations of one who is at work and has not yet told; or of goroutine 0. -/
theorem Tr2.own {i : Nat} (h : Tr2 c Sn zs top fnd blk size t) (hSn : ∀ l, snL Sn l → ownOf c fnd blk l = none) (hi : i = 0 ∨ (c.S0 ≤ i ∧ i < top)) (hu : ∀ op ∈ u, OkBy2 Sn (ownOf c fnd blk) i op) (hs : size ≤ size') (hl : ∀ op ∈ u, ∀ b, op.act.touch? = some b → locLow size' b.loc) (hfd : ∀ op ∈ u, ∀ b ad, op.act.touch? = some b → b.loc = .cell ad → ad.block = c.Fd → ∃ i, fnd ad.off = some i)
    (hr : ∀ op ∈ u, isRel op.act ≠ true) (hz : ∀ j, told (zs' j) → told (zs j)) (hzi : (∀ j x b, t.size ≤ j → (t ++ u)[j]? = some x → x.act.touch? = some b → ¬ Cn Sn (t ++ u) j b) ∨ i = 0 ∨ ¬ told (zs' i)) : Tr2 c Sn zs' top fnd blk size' (t ++ u) := by
  refine ⟨h.ti.step hi hSn hu, fun j a ha => ?_, fun j a ad ha e1 e2 => ?_, fun j x a hx ha hn => ?_, fun j x hx => ?_⟩
  · obtain ⟨x, hx, hxa⟩ := touch_of ha
    rcases getElem?_append_cases hx with ⟨_, hx'⟩ | ⟨_, hxu⟩
    · exact locLow_mono hs (h.low j a (by rw [touchAt_of hx']; exact hxa))
    · exact hl x hxu a hxa
  · obtain ⟨x, hx, hxa⟩ := touch_of ha
    rcases getElem?_append_cases hx with ⟨_, hx'⟩ | ⟨_, hxu⟩
    · exact h.fdT j a ad (by rw [touchAt_of hx']; exact hxa) e1 e2
    · exact hfd x hxu a ad hxa e1 e2
  · rcases getElem?_append_cases hx with ⟨_, hx'⟩ | ⟨hge, hxu⟩
    · rcases h.kn j x a hx' ha (hn.old (lt_size_of_getElem? hx')) with h1 | ⟨h1, h2, h3⟩
      · exact .inl (h1.app u)
      · exact .inr ⟨h1, h2, fun e => (h3 (hz _ e)).app u⟩
    · have hxg := (hu x hxu).1
      rcases hzi with h4 | h4 | h4
      · exact absurd hn (h4 j x a hge hx ha)
      · have := knows_own hx
        rw [hxg, h4] at this
        exact .inl this
      · rcases hi with h5 | ⟨h5, h6⟩
        · have := knows_own hx
          rw [hxg, h5] at this
          exact .inl this
        · rw [hxg]; exact .inr ⟨h5, h6, fun e => absurd e h4⟩
  · rcases getElem?_append_cases hx with ⟨_, hx'⟩ | ⟨_, hxu⟩
    · exact h.nor j x hx'
    · exact hr x hxu
/-- Operations that touch nothing. -/
theorem Tr2.mute (h : Tr2 c Sn zs top fnd blk size t) (hn : ∀ op ∈ u, op.act.touch? = none) (hr : ∀ op ∈ u, isRel op.act ≠ true) (hs : size ≤ size') (hz : ∀ j, told (zs' j) → told (zs j)) : Tr2 c Sn zs' top fnd blk size' (t ++ u) := by
  refine ⟨h.ti.mute hn, fun j a ha => ?_, fun j a ad ha e1 e2 => ?_, fun j x a hx ha hs => ?_, fun j x hx => ?_⟩
  · obtain ⟨x, hx, hxa⟩ := touch_of ha
    exact locLow_mono hs (h.low j a (by rw [touchAt_of (mute_keep hn hx hxa)]; exact hxa))
  · obtain ⟨x, hx, hxa⟩ := touch_of ha
    exact h.fdT j a ad (by rw [touchAt_of (mute_keep hn hx hxa)]; exact hxa) e1 e2
  · rcases h.kn j x a (mute_keep hn hx ha) ha (hs.old (lt_size_of_getElem? (mute_keep hn hx ha))) with h1 | ⟨h1, h2, h3⟩
    · exact .inl (h1.app u)
    · exact .inr ⟨h1, h2, fun e => (h3 (hz _ e)).app u⟩
  · rcases getElem?_append_cases hx with ⟨_, hx'⟩ | ⟨_, hxu⟩
    · exact h.nor j x hx'
    · exact hr x hxu
/-- A worker tells that it is done: its release lies behind all that it has touched. -/
theorem Tr2.rel {i : Nat} {y : MemOp} (h : Tr2 c Sn zs top fnd blk size t) (hy : y.g = i ∧ y.act = .mark (.releaseMerge (stA c.C2))) (hd : Deaf t i = 0) (hz : ∀ j, j ≠ i → told (zs' j) → told (zs j)) : Tr2 c Sn zs' top fnd blk size (t ++ #[y]) := by
  have hn : ∀ op ∈ (#[y] : Trace), op.act.touch? = none := fun op hop => by
    simp at hop
    rw [hop, hy.2]; rfl
  have hp : (t ++ #[y])[t.size]? = some y := by simp
  have hh : (t ++ #[y]).heard t.size := ⟨i, by simp [Trace.g?, hy.1], by rw [deaf_old (Nat.le_refl _)]; exact hd⟩
  refine ⟨h.ti.mute hn, fun j a ha => ?_, fun j a ad ha e1 e2 => ?_, fun j x a hx ha hs => ?_, fun j x hx => ?_⟩
  · obtain ⟨x, hx, hxa⟩ := touch_of ha
    exact h.low j a (by rw [touchAt_of (mute_keep hn hx hxa)]; exact hxa)
  · obtain ⟨x, hx, hxa⟩ := touch_of ha
    exact h.fdT j a ad (by rw [touchAt_of (mute_keep hn hx hxa)]; exact hxa) e1 e2
  · have hx' := mute_keep hn hx ha
    rcases h.kn j x a hx' ha (hs.old (lt_size_of_getElem? hx')) with h1 | ⟨h1, h2, h3⟩
    · exact .inl (h1.app _)
    · refine .inr ⟨h1, h2, fun e => ?_⟩
      by_cases ei : x.g = i
      · exact ⟨t.size, y, lt_size_of_getElem? hx', hp, hy.1.trans ei.symm, hy.2, hh⟩
      · exact (h3 (hz _ ei e)).app _
  · rcases getElem?_append_cases hx with ⟨_, hx'⟩ | ⟨_, hxu⟩
    · exact h.nor j x hx'
    · simp at hxu
      rw [hxu, hy.2]
      exact fun e => by cases e
/-- Goroutine 0 takes note: all have told, so it knows all. -/
theorem Tr2.acq {y : MemOp} (h : Tr2 c Sn zs top fnd blk size t) (hy : y.g = 0 ∧ y.act = .mark (.acquire (stA c.C2))) (hd : Deaf t 0 = 0) (ht : ∀ i, c.S0 ≤ i → i < top → told (zs i)) : Tr2 c Sn zs top fnd blk size (t ++ #[y]) ∧ ∀ (j : Nat) (x : MemOp) (a : Touch), (t ++ #[y])[j]? = some x → x.act.touch? = some a → Cn Sn (t ++ #[y]) j a → Knows (t ++ #[y]) 0 j := by
  have hn : ∀ op ∈ (#[y] : Trace), op.act.touch? = none := fun op hop => by
    simp at hop
    rw [hop, hy.2]; rfl
  refine ⟨h.mute hn (fun op hop => by simp at hop; rw [hop, hy.2]; exact fun e => by cases e) (Nat.le_refl _) fun _ e => e, fun j x a hx ha hs => ?_⟩
  have hx' := mute_keep hn hx ha
  rcases h.kn j x a hx' ha (hs.old (lt_size_of_getElem? hx')) with h1 | ⟨h1, h2, h3⟩
  · exact h1.app _
  · obtain ⟨p, z, k1, k2, k3, k4, k5⟩ := h3 (ht _ h1 h2)
    have hq : (t ++ #[y])[t.size]? = some y := by simp
    have hpl := lt_size_of_getElem? k2
    have k2' : (t ++ #[y])[p]? = some z := by rw [getElem?_append_old hpl]; exact k2
    refine Knows.over2 (g := x.g) (p := p) (q := t.size) ?_ k2' k3 hq hy.1 (.marked (a := stA c.C2) hpl (.inr (by rw [act?_of k2', k4])) (by rw [act?_of hq, hy.2]) fun k ka kb e => ?_) (heard_app k5) ⟨0, by simp [Trace.g?, hy.1], by rw [deaf_old (Nat.le_refl _)]; exact hd⟩
    · have e1 : ((t ++ #[y]).extract 0 p)[j]? = some x := by
        rw [Array.getElem?_extract]
        simp only [Nat.zero_add]
        rw [if_pos (by simp; omega)]
        exact hx
      exact knows_own e1
    · have hkl : k < t.size := kb
      cases hk : t[k]? with
      | none => exact absurd (Array.getElem?_eq_none_iff.1 hk) (by omega)
      | some z' =>
        have hk' : (t ++ #[y])[k]? = some z' := by rw [getElem?_append_old hkl]; exact hk
        rw [act?_of hk'] at e
        exact h.nor k z' hk (by rw [Option.some.inj e]; rfl)
end
end Go.Proofs.Ytpdemelchhkfaaa.Cs
