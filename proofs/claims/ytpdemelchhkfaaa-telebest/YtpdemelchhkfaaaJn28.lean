/-
  Several texts, joined: CxA, CxE, CxD.
-/
import Derived.Test.YtpdemelchhkfaaaJn15
import Derived.Conc.WgGenN3
import Derived.Conc.WgWords
import Derived.Conc.Pipeline2
import Derived.Conc.CompanyDraw
import Derived.Test.YtpdemelchhkfaaaChecked
/-
  The other pool: the stops of a worker that is done, and of goroutine 0 that waits, said piece by piece.
-/
namespace Go.Proofs.Ytpdemelchhkfaaa.Cs
open Go.Conc
open Go.ConcR (KK WgAt wgBlock stA smA rd wr mk DC0)
theorem goes_weak {P : Program} {main : Bool} {R : World → World → Prop} {D D' : World → World → Array Event → Prop} {A B : Goroutine → World → Prop} (hD : ∀ w w' es, D w w' es → D' w w' es) (hA : ∀ g w, A g w → B g w) : ∀ {m : Nat} {g : Goroutine} {w : World}, Goes P main R D A m g w → Goes P main R D' B m g w
  | 0, _, _, h => fun w₁ h₁ => hA _ _ (h w₁ h₁)
  | m + 1, g, w, h => by
    rcases h with h | ⟨hs, h⟩
    · exact .inl fun w₁ h₁ => hA _ _ (h w₁ h₁)
    · refine .inr ⟨hs, fun w₁ h₁ => ?_⟩
      have := h w₁ h₁
      revert this
      cases stepG P main g w₁ <;> simp only [GStep.goes, imp_self]
      exact fun x => ⟨hD _ _ _ x.1, goes_weak hD hA x.2⟩
theorem goes_trans {P : Program} {main : Bool} {S : World → Prop} {D : World → World → Array Event → Prop} {A B : Goroutine → World → Prop} {n : Nat} (hn : ∀ g w, A g w → S w → Goes P main (fun _ w => S w) D B n g w) : ∀ {m : Nat} {g : Goroutine} {w : World}, Goes P main (fun _ w => S w) D A m g w → Goes P main (fun _ w => S w) D B (m + n) g w := by
  have stp : ∀ {g : Goroutine} {w : World}, (∀ w₁, S w₁ → A g w₁) → Goes P main (fun _ w => S w) D B n g w := by
    intro g w h
    by_cases he : ∃ w₁, S w₁
    · obtain ⟨w₁, h₁⟩ := he
      exact (hn g w₁ (h w₁ h₁) h₁).anyWorld w
    · exact Goes.stop fun w₁ h₁ => absurd ⟨w₁, h₁⟩ he
  intro m
  induction m with
  | zero => intro g w h; exact (stp h).mono (by omega)
  | succ m ih =>
    intro g w h
    rcases h with h | ⟨hs, h⟩
    · exact (stp h).mono (by omega)
    · rw [show m + 1 + n = (m + n) + 1 by omega]
      refine Goes.step hs fun w₁ h₁ => ?_
      have := h w₁ h₁
      revert this
      cases stepG P main g w₁ <;> simp only [GStep.goes, imp_self]
      exact fun x => ⟨x.1, ih x.2⟩
theorem at_op {P : Program} {main : Bool} {R : World → World → Prop} {D : World → World → Array Event → Prop} {A : Goroutine → World → Prop} {n : Nat} {b : Frame} {a : Act} {ops : Array Oper} {i : Nat} {rest : List Nat} {k : List Item} {cs : List Frame} {w : World} : Goes P main R D A n (G (b.at a (.inRegion ops (i :: rest) :: k)) cs) w = Goes P main R D A n (G (b.at a (.inRegion ops (i :: rest) :: k)) cs) w := rfl
theorem at_opq {P : Program} {n d : Nat} {b : Frame} {a : Act} {ops : Array Oper} {i : Nat} {rest : List Nat} {k : List Item} {cs : List Frame} : QuitsD P n d (G (b.at a (.inRegion ops (i :: rest) :: k)) cs) = QuitsD P n d (G (b.at a (.inRegion ops (i :: rest) :: k)) cs) := rfl
theorem quitsD_le {P : Program} : ∀ {n m d : Nat} {g : Goroutine}, QuitsD P n d g → n ≤ m → QuitsD P m d g
  | 0, 0, _, _, h, _ => h
  | 0, _ + 1, _, _, h, _ => .inl h
  | n + 1, 0, _, _, _, h => by omega
  | n + 1, m + 1, _, _, h, hl => h.elim .inl fun ⟨hs, g', es, hm, hst, hq⟩ => .inr ⟨hs, g', es, hm, hst, quitsD_le hq (by omega)⟩
section
variable (P : Program) (c : Cst) (tW tT : TypeId)
theorem ok_rely {c : Cst} {tW tT : TypeId} {w w₁ : World} (_ : Ok2 c tW tT w) (r : Ok2 c tW tT w₁) : Ok2 c tW tT w₁ := r
theorem dq_of0 (w w' : World) (es : Array Event) (h : DC0 w w' es) : DQ c w w' es := by
  obtain ⟨rfl, rfl⟩ := h
  exact ⟨rfl, rfl, rfl, rfl, fun e he => by simp at he⟩
variable {P c tW tT} in
theorem on_of {main : Bool} {Stp : Goroutine → Prop} {g : Goroutine} (m : Nat) (hs : g.status = .running) (h : ∀ w, Ok2 c tW tT w → Goes P main (fun _ w => Ok2 c tW tT w) DC0 (fun g _ => g.status = .running ∧ Stp g) m g w) : On P c tW tT main Stp g := ⟨hs, fun w hw => ⟨m, goes_weak (dq_of0 c) (fun _ _ x => x) (h w hw)⟩⟩
variable {P c tW tT} in
theorem on3_of {Stp : Goroutine → Prop} {g : Goroutine} (m : Nat) (hs : g.status = .running) (h : ∀ w, Ok2 c tW tT w → Goes P false (fun _ w => Ok2 c tW tT w) DC0 (fun g _ => g.status = .running ∧ Stp g) m g w) : On3 P c tW tT Stp g := ⟨hs, fun w hw => ⟨m, goes_weak (fun w w' es x => ⟨dq_of0 c w w' es x, x.2⟩) (fun _ _ x => x) (h w hw)⟩⟩
variable {P c tW tT} in
theorem on_trans {main : Bool} {A B : Goroutine → Prop} {g : Goroutine} (n : Nat) (h : On P c tW tT main A g) (hn : ∀ g, A g → ∀ w, Ok2 c tW tT w → Walk2 P c tW tT main B n g w) : On P c tW tT main B g :=
  ⟨h.1, fun w hw => let ⟨m, hm⟩ := h.2 w hw; ⟨m + n, goes_trans (fun g w x hw => hn g x.2 w hw) hm⟩⟩
def xSem (g : Goroutine) : Prop := isG g ∧ mayWake P g = true ∧ ∃ g', (∀ w, WgAt tW c.C2 w 0 0 → stepG P false g w = .go g' (w.setCell (smA c.C2) (.int .u32 1)) (semEvents (smA c.C2))) ∧ ∃ q, QuitsD P q 1 g'
def xZer (g : Goroutine) : Prop := isG g ∧ ∃ g', (∀ w, WgAt tW c.C2 w 1 0 → stepG P false g w = .go g' (w.setCell (stA c.C2) (.int .u64 0)) #[wr (stA c.C2)]) ∧ On3 P c tW tT (xSem P c tW) g'
def xLod (g : Goroutine) : Prop := isG g ∧ ∃ g', (∀ w, WgAt tW c.C2 w 1 0 → stepG P false g w = .go g' w #[rd (stA c.C2)]) ∧ On3 P c tW tT (xZer P c tW tT) g'
def xDec (g : Goroutine) : Prop := isG g ∧ ∀ v wt : Nat, wt ≤ 1 → v < 2147483647 → ∃ g', (∀ w, WgAt tW c.C2 w (((v : Int) + 1) * KK + wt) 0 → stepG P false g w = .go g' (w.setCell (stA c.C2) (.int .u64 ((v : Int) * KK + wt))) #[rd (stA c.C2), wr (stA c.C2)]) ∧
    ((v = 0 ∧ wt = 1) → On3 P c tW tT (xLod P c tW tT) g') ∧ (¬ (v = 0 ∧ wt = 1) → ∃ q, QuitsD P q 1 g')
def xDis (g : Goroutine) : Prop := isG g ∧ ∃ g', (∀ w, Ok2 c tW tT w → stepG P false g w = .go g' w #[mk .disable]) ∧ On3 P c tW tT (xDec P c tW tT) g'
def xRel (g : Goroutine) : Prop := isG g ∧ ∃ g', (∀ w, Ok2 c tW tT w → stepG P false g w = .go g' w #[mk (.releaseMerge (stA c.C2))]) ∧ On3 P c tW tT (xDis P c tW tT) g'
variable (Jn : Goroutine → Prop)
def xAcq (g : Goroutine) : Prop := isG g ∧ ∃ g', (∀ w, Ok2 c tW tT w → stepG P true g w = .go g' w #[mk (.acquire (stA c.C2))]) ∧ On P c tW tT true Jn g'
def xKe (g : Goroutine) : Prop := isG g ∧ ∃ g', (∀ w, Ok2 c tW tT w → stepG P true g w = .go g' w #[mk .enable]) ∧ On P c tW tT true (xAcq P c tW tT Jn) g'
def xW4 (g : Goroutine) : Prop := isG g ∧ ∃ g', (∀ w, WgAt tW c.C2 w 0 0 → stepG P true g w = .go g' w #[rd (stA c.C2)]) ∧ On P c tW tT true (xKe P c tW tT Jn) g'
def xW3 (g : Goroutine) : Prop := isG g ∧ g.offers = none ∧ (∀ w st, WgAt tW c.C2 w st 0 → stepG P true g w = .go { g with status := .blocked } w #[]) ∧ ∃ g', (∀ w, WgAt tW c.C2 w 0 1 → stepG P true g w = .go g' (w.setCell (smA c.C2) (.int .u32 0)) (semEvents (smA c.C2))) ∧ On P c tW tT true (xW4 P c tW tT Jn) g'
def xSai (g : Goroutine) : Prop := isG g ∧ ∃ g', (∀ w, Ok2 c tW tT w → stepG P true g w = .go g' w #[mk (.write (smA c.C2))]) ∧ On P c tW tT true (xW3 P c tW tT Jn) g'
variable (An : Goroutine → Prop)
/-- At the compare and swap; An: the loop's head. -/
def xW2 (vs : Nat) (g : Goroutine) : Prop := isG g ∧ (∃ g', (∀ w, WgAt tW c.C2 w ((vs : Int) * KK) 0 → stepG P true g w = .go g' (w.setCell (stA c.C2) (.int .u64 ((vs : Int) * KK + 1))) #[rd (stA c.C2), wr (stA c.C2)]) ∧ On P c tW tT true (xSai P c tW tT Jn) g') ∧
  ∀ v : Nat, v < 2147483648 → v ≠ vs → ∃ g', (∀ w, WgAt tW c.C2 w ((v : Int) * KK) 0 → stepG P true g w = .go g' w #[rd (stA c.C2)]) ∧ On P c tW tT true An g'
def xW1 (g : Goroutine) : Prop := isG g ∧ ∀ v : Nat, v < 2147483648 → ∃ g', (∀ w, WgAt tW c.C2 w ((v : Int) * KK) 0 → stepG P true g w = .go g' w #[rd (stA c.C2)]) ∧ On P c tW tT true (fun g => if v = 0 then xKe P c tW tT Jn g else xW2 P c tW tT Jn An v g) g'
def xWtD (g : Goroutine) : Prop := isG g ∧ ∃ g', (∀ w, Ok2 c tW tT w → stepG P true g w = .go g' w #[mk .disable]) ∧ On P c tW tT true An g'
end
end Go.Proofs.Ytpdemelchhkfaaa.Cs

/-
  A region that draws its order: the orders that come up, as lists in which each operation is ready when its turn comes.
-/
namespace Go.Proofs.Ytpdemelchhkfaaa.Cs
open Go.Conc
/-- From here on the operations come in this order. -/
inductive Ords (md : Region.Mode) (ops : Array Oper) : Array Bool → List Nat → Prop
  | nil {l : Array Bool} (h : l.toList.count false = 0) : Ords md ops l []
  | cons {l : Array Bool} {i : Nat} {r : List Nat} (h : i ∈ Region.ready md ops l) (hs : i < l.size) (t : Ords md ops (l.setIfInBounds i true) r) : Ords md ops l (i :: r)
/-- Edges lead to earlier operations alone. -/
def LowEdges (ops : Array Oper) : Bool := (List.range ops.size).all fun i => ((ops[i]?).map (·.after.all fun e => decide (e.on < i))).getD true
theorem low_edges {ops : Array Oper} (h : LowEdges ops = true) {i : Nat} {o : Oper} (ho : ops[i]? = some o) : ∀ e ∈ o.after, e.on < i := by
  intro e he
  unfold LowEdges at h
  rw [List.all_eq_true] at h
  have h1 := h i (by rw [List.mem_range]; exact (Array.getElem?_eq_some_iff.1 ho).1)
  rw [ho] at h1
  simp only [Option.map_some, Option.getD_some, Array.all_eq_true'] at h1
  exact of_decide_eq_true (h1 e he)
theorem least_false : ∀ (l : List Bool), l.count false ≠ 0 → ∃ i : Nat, l[i]? = some false ∧ ∀ j, j < i → l[j]? = some true
  | [], h => absurd rfl h
  | false :: l, _ => ⟨0, rfl, fun j hj => absurd hj (by omega)⟩
  | true :: l, h => by
    obtain ⟨i, hi, hj⟩ := least_false l (by simpa using h)
    refine ⟨i + 1, by simpa using hi, fun j h' => ?_⟩
    cases j with
    | zero => rfl
    | succ j => simpa using hj j (by omega)
theorem some_ready {md : Region.Mode} {ops : Array Oper} (hl : LowEdges ops = true) {l : Array Bool} (hs : l.size = ops.size) (h : l.toList.count false ≠ 0) : Region.ready md ops l ≠ [] := by
  obtain ⟨i, hi, hj⟩ := least_false l.toList h
  have hi' : l[i]? = some false := by rw [← hi]; simp
  have hlt : i < ops.size := by rw [← hs]; exact (Array.getElem?_eq_some_iff.1 hi').1
  have : i ∈ Region.ready md ops l := mem_ready.2 ⟨by simp [Array.getD_eq_getD_getElem?, hi'], ops[i], by simp [hlt], fun e he _ => by
    have hb := low_edges hl (show ops[i]? = some ops[i] by simp [hlt]) e he
    have h1 := hj e.on hb
    have h2 : l[e.on]? = some true := by rw [← h1]; simp
    simp [Array.getD_eq_getD_getElem?, h2]⟩
  intro hn
  rw [hn] at this
  simp at this
theorem ords_go {md : Region.Mode} {ops : Array Oper} (hl : LowEdges ops = true) : ∀ (fuel t : Nat) (l : Array Bool), l.size = ops.size → l.toList.count false = fuel → Ords md ops l (Region.linearise.go md ops fuel t l []) := by
  intro fuel
  induction fuel with
  | zero => intro t l _ h; exact .nil h
  | succ fuel ih =>
    intro t l hs h
    have hne := some_ready (md := md) hl hs (by omega)
    simp only [Region.linearise.go]
    change Ords md ops l (match (Region.ready md ops l)[t % (Region.ready md ops l).length]? with
      | some i => Region.linearise.go md ops fuel (t / (Region.ready md ops l).length) (l.setIfInBounds i true) [i]
      | none => [].reverse)
    have hlen : 0 < (Region.ready md ops l).length := List.length_pos_iff.2 hne
    cases hi : (Region.ready md ops l)[t % (Region.ready md ops l).length]? with
    | none =>
      have := List.getElem?_eq_none_iff.1 hi
      have := Nat.mod_lt t hlen
      omega
    | some i =>
      simp only []
      rw [linearise_go_acc, List.reverse_singleton, List.singleton_append]
      have hm := List.mem_of_getElem? hi
      obtain ⟨h1, o, ho, _⟩ := mem_ready.1 hm
      have hlt : i < l.size := by rw [hs]; exact (Array.getElem?_eq_some_iff.1 ho).1
      have hf : l.toList[i]? = some false := by
        have : l[i]? = some l[i] := by simp [hlt]
        rw [Array.getD_eq_getD_getElem?, this] at h1
        have h2 : l[i] = false := by simpa using h1
        rw [h2] at this
        rw [← this]
        simp
      refine .cons hm hlt (ih _ _ (by simp [hs]) ?_)
      rw [Array.toList_setIfInBounds]
      have hlt' : i < l.toList.length := by simpa using hlt
      rw [List.count_set hlt']
      have e1 : l.toList[i] = false := (List.getElem?_eq_some_iff.1 hf).2
      simp only [e1, beq_self_eq_true, ↓reduceIte]
      simp
      simp at h
      omega
theorem ords_schedule {mixed : Bool} {ops : Array Oper} (hl : LowEdges ops = true) (t : Nat) : ∃ md, Ords md ops (Array.replicate ops.size false) (Region.schedule mixed ops t) := by
  have h0 : (Array.replicate ops.size false).toList.count false = ops.size := by simp
  unfold Region.schedule Region.linearise
  split
  · exact ⟨_, ords_go hl _ _ _ (by simp) h0⟩
  · exact ⟨_, ords_go hl _ _ _ (by simp) h0⟩
end Go.Proofs.Ytpdemelchhkfaaa.Cs

/-
  The program holds sync.WaitGroup's functions.
-/
namespace Go.Proofs.Ytpdemelchhkfaaa.Cs
open Go.Conc
abbrev wgL : Go.Conc.Lib.WgLink := { add := 45, done := 47, wait := 49, relMerge := 59, disable := 60, enable := 61, inBubble := 62, associate := 63, fatal := 64, uOr := 65, uAdd := 66, raceRead := 67, uLoad := 68, uStore := 69, disassociate := 70, semrelease := 71, acquire := 73, isAssociated := 74, uCas := 75, raceWrite := 76, semacquire := 77, orU64 := 81, addU64 := 82, loadU64 := 83, storeU64 := 84, casU64 := 85, tWgP := 108, tUP := 110, tAssoc := 111, tWg := 91, tAU := 88, tU64 := 39, tUint := 32, tU32 := 89, tPU32 := 115, tPAU := 130, tPU64 := 132, tNoCopy := 86, tANoCopy := 82, tAlign64 := 83 }
theorem wgLib : Go.Conc.Lib.WgLib Try.prog wgL :=
  ⟨Try.func45, Try.func47, Try.func49, Try.func59, Try.func60, Try.func61, Try.func62, Try.func63, Try.func64, Try.func65, Try.func66, Try.func67, Try.func68, Try.func69, Try.func70, Try.func71, Try.func73, Try.func74, Try.func75, Try.func76, Try.func77, Try.func81, Try.func82, Try.func83, Try.func84, Try.func85, Try.underlying108, Try.runUnderlying108, Try.sizeOf108, Try.isAgg108, Try.zeroValue108, Try.underlying110, Try.runUnderlying110, Try.sizeOf110, Try.isAgg110, Try.zeroValue110, Try.underlying111, Try.runUnderlying111, Try.sizeOf111, Try.isAgg111, Try.zeroValue111, Try.underlying91, Try.runUnderlying91, Try.sizeOf91, Try.isAgg91, Try.zeroValue91, Try.underlying88, Try.runUnderlying88, Try.sizeOf88, Try.isAgg88, Try.zeroValue88, Try.underlying39, Try.runUnderlying39, Try.sizeOf39, Try.isAgg39, Try.zeroValue39, Try.underlying32, Try.runUnderlying32, Try.sizeOf32, Try.isAgg32, Try.zeroValue32, Try.underlying89, Try.runUnderlying89, Try.sizeOf89, Try.isAgg89, Try.zeroValue89, Try.underlying115, Try.runUnderlying115, Try.sizeOf115, Try.isAgg115, Try.zeroValue115, Try.underlying130, Try.runUnderlying130, Try.sizeOf130, Try.isAgg130, Try.zeroValue130, Try.underlying132, Try.runUnderlying132, Try.sizeOf132, Try.isAgg132, Try.zeroValue132, Try.underlying0, Try.runUnderlying0, Try.sizeOf0, Try.isAgg0, Try.zeroValue0, Try.underlying3, Try.runUnderlying3, Try.sizeOf3, Try.isAgg3, Try.zeroValue3, Try.underlying4, Try.runUnderlying4, Try.sizeOf4, Try.isAgg4, Try.zeroValue4, Try.underlying9, Try.runUnderlying9, Try.sizeOf9, Try.isAgg9, Try.zeroValue9, Try.underlying20, Try.runUnderlying20, Try.sizeOf20, Try.isAgg20, Try.zeroValue20, Try.underlying21, Try.runUnderlying21, Try.sizeOf21, Try.isAgg21, Try.zeroValue21, by kernel_rfl, by kernel_rfl⟩
end Go.Proofs.Ytpdemelchhkfaaa.Cs
