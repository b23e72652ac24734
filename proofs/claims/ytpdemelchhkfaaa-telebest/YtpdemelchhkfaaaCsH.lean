/-
  append, alike.
-/
import Derived.Test.YtpdemelchhkfaaaJn3
namespace Go.Proofs.Ytpdemelchhkfaaa.Cs
variable [Fns]
section
variable {P : Program} {E : Env}
omit [Fns] in
theorem tm_holdsCells (a : Addr) (n : Nat) : Tm P (Builtin.holdsCells a n) := tm_bind (tm_shape _) fun x => by
  cases x <;> exact tm_pure _
omit [Fns] in
theorem tm_mayShare (size l n : Nat) (b : Option Addr) (x : Value) : Tm P (Builtin.mayShare size l n b x) := by
  have rest : ∀ t : Bool, Tm P (if !t then return true else match x with
      | .slice (some b') _ _ => do pure (!(← Builtin.holdsCells b' (n * size)) || b.any (·.block == b'.block))
      | _ => pure false) := fun t => by
    refine tm_ite (tm_pure _) ?_
    cases x with
    | slice a _ _ => cases a with
      | none => exact tm_pure _
      | some a => exact tm_bind (tm_holdsCells _ _) fun _ => tm_pure _
    | _ => exact tm_pure _
  unfold Builtin.mayShare
  cases b with
  | none => exact tm_bind (tm_pure _) rest
  | some a => exact tm_bind (tm_holdsCells _ _) fun _ => tm_bind (tm_frozen _) fun _ => tm_bind (tm_pure _) rest
/-- What append does once it is known how many come. -/
def appRest (elem : TypeId) (size : Nat) (base : Option Addr) (sLen sCap : Nat) (s x : Value) (zeros : Bool) (n : Nat) : Sem Value := do
  let appended : Sem (Array Value) :=
    if !zeros then Builtin.firstCells size n x
    else if n * size = 0 then pure #[]
    else do pure (Builtin.zeroCells (← zeroValue elem).cells n)
  let need := sLen + n
  if need ≤ sCap then
    let new ← appended
    if let some a := base then storeCells (a.add (sLen * size)) new.toList
    pure (.slice base need sCap)
  else
    if (need : Int) > IntKind.i64.max ∧ (zeros ∨ (← typeInfo elem).bytes = 0) then runtimePanic (.error "growslice: len out of range")
    if Builtin.nextslicecap need sCap * (← typeInfo elem).bytes > 2 ^ 48 then (if zeros then runtimePanic (.error "growslice: len out of range") else do
      if !(← Builtin.mayShare size sLen n base x) then mark .noRoom
      unsupported (.resourceLimit "append: a slice or a string whose bytes no memory bears"))
    let newCap ← choose (.appendCap need sCap elem)
    askRoom (newCap * (← typeInfo elem).bytes)
    let old ← Builtin.firstCells size sLen s
    let new ← appended
    let rest := Builtin.zeroCells (← zeroValue elem).cells (newCap - need)
    pure (.slice (some (← newRow elem (old ++ new ++ rest))) need newCap)
/-- Bases that are alike. -/
def BR (E : Env) (a b : Option Addr) : Prop := (a = none ∧ b = none) ∨ ∃ p q, a = some p ∧ b = some q ∧ AR E p q
theorem BR.mono {E E' : Env} (hl : E.le E') {a b : Option Addr} (h : BR E a b) : BR E' a b := by
  rcases h with h | ⟨p, q, h1, h2, h3⟩
  · exact .inl h
  · exact .inr ⟨p, q, h1, h2, h3.mono hl⟩
theorem BR.vr {a b : Option Addr} (h : BR E a b) (l c : Nat) : VR E (.slice a l c) (.slice b l c) := by
  rcases h with ⟨rfl, rfl⟩ | ⟨p, q, rfl, rfl, h3⟩
  · exact .sliceNil l c
  · exact .slice l c h3
theorem sr_appended (elem : TypeId) (hZ : zeroOk P elem = true) (size n : Nat) (zeros : Bool) {x y : Value} (h : VR E x y) (hn : zeros = false → NoRow x n) : SR P (fun E' a b => LR E' a b) E
    (if !zeros then Builtin.firstCells size n x else if n * size = 0 then pure #[] else do pure (Builtin.zeroCells (← zeroValue elem).cells n))
    (if !zeros then Builtin.firstCells size n y else if n * size = 0 then pure #[] else do pure (Builtin.zeroCells (← zeroValue elem).cells n)) := by
  split
  · rename_i hz
    exact sr_firstCells size n h (hn (by simpa using hz))
  · split
    · exact .ret (LR.nil _)
    · refine SR.bind (sr_zeroValue elem hZ) ?_
      intro E1 u v _ hz
      have := zeroCells_lr (lr_same hz) n
      rw [← hz.2]
      exact .ret this
/-- Nothing comes: nothing is there. -/
theorem sr_appended0 (elem : TypeId) (size : Nat) (zeros : Bool) {x y : Value} (h : VR E x y) : SR P (fun _ a b => a = #[] ∧ b = #[]) E
    (if !zeros then Builtin.firstCells size 0 x else if 0 * size = 0 then pure #[] else do pure (Builtin.zeroCells (← zeroValue elem).cells 0))
    (if !zeros then Builtin.firstCells size 0 y else if 0 * size = 0 then pure #[] else do pure (Builtin.zeroCells (← zeroValue elem).cells 0)) := by
  split
  · unfold Builtin.firstCells
    cases h with
    | sliceNil l c => exact .ret ⟨rfl, rfl⟩
    | slice l c h => dsimp only; rw [Nat.zero_mul]; exact .ret ⟨rfl, rfl⟩
    | sliceNo a b => dsimp only; rw [Nat.zero_mul]; exact .ret ⟨rfl, rfl⟩
    | string s => exact .ret ⟨by simp, by simp⟩
    | _ => exact .die (dies_stuck _)
  · rw [if_pos (Nat.zero_mul _)]
    exact .ret ⟨rfl, rfl⟩
/-- Bases that are alike, or of an empty slice that has no room. -/
def BS (E : Env) (a b : Option Addr) (l c : Nat) : Prop := BR E a b ∨ (l = 0 ∧ c = 0 ∧ ∃ p q, a = some p ∧ b = some q)
theorem BS.mono {E E' : Env} (hl : E.le E') {a b : Option Addr} {l c : Nat} (h : BS E a b l c) : BS E' a b l c := h.imp (BR.mono hl) id
theorem sr_appRest (elem : TypeId) (hZ : zeroOk P elem = true) (size : Nat) {a b : Option Addr} (sLen sCap : Nat) {s s' x y : Value} (zeros : Bool) (n : Nat) (hb : BS E a b sLen sCap) (hs : VR E s s') (hx : VR E x y) (hs0 : NoRow s sLen) (hx0 : zeros = false → NoRow x n) :
    SR P (fun E' a b => VR E' a b) E (appRest elem size a sLen sCap s x zeros n) (appRest elem size b sLen sCap s' y zeros n) := by
  unfold appRest
  dsimp only
  split
  · rename_i hneed
    rcases hb with hb | ⟨rfl, rfl, p, q, rfl, rfl⟩
    case inr =>
      obtain rfl : n = 0 := by omega
      refine SR.bind (sr_appended0 elem size zeros hx) ?_
      rintro E1 u v hl ⟨rfl, rfl⟩
      dsimp only
      refine SR.bind (R1 := fun _ _ _ => True) (.ret trivial) ?_
      intro E2 _ _ hl2 _
      exact .ret (.sliceNo p q)
    refine SR.bind (sr_appended elem hZ size n zeros hx hx0) ?_
    intro E1 u v hl huv
    rcases hb with ⟨rfl, rfl⟩ | ⟨p, q, rfl, rfl, hpq⟩
    · exact .ret (.sliceNil _ _)
    · dsimp only
      refine SR.bind (sr_storeRow ((hpq.mono hl).add _) huv) ?_
      intro E2 _ _ hl2 _
      exact .ret (.slice _ _ (hpq.mono (Env.le_trans hl hl2)))
  · have tail : ∀ E1 : Env, E.le E1 → SR P (fun E' a b => VR E' a b) E1 (do
        if Builtin.nextslicecap (sLen + n) sCap * (← typeInfo elem).bytes > 2 ^ 48 then (if zeros then runtimePanic (.error "growslice: len out of range") else do
          if !(← Builtin.mayShare size sLen n a x) then mark .noRoom
          unsupported (.resourceLimit "append: a slice or a string whose bytes no memory bears"))
        let newCap ← choose (.appendCap (sLen + n) sCap elem)
        askRoom (newCap * (← typeInfo elem).bytes)
        let old ← Builtin.firstCells size sLen s
        let new ← (if !zeros then Builtin.firstCells size n x else if n * size = 0 then pure #[] else do pure (Builtin.zeroCells (← zeroValue elem).cells n))
        let rest := Builtin.zeroCells (← zeroValue elem).cells (newCap - (sLen + n))
        pure (.slice (some (← newRow elem (old ++ new ++ rest))) (sLen + n) newCap)) (do
        if Builtin.nextslicecap (sLen + n) sCap * (← typeInfo elem).bytes > 2 ^ 48 then (if zeros then runtimePanic (.error "growslice: len out of range") else do
          if !(← Builtin.mayShare size sLen n b y) then mark .noRoom
          unsupported (.resourceLimit "append: a slice or a string whose bytes no memory bears"))
        let newCap ← choose (.appendCap (sLen + n) sCap elem)
        askRoom (newCap * (← typeInfo elem).bytes)
        let old ← Builtin.firstCells size sLen s'
        let new ← (if !zeros then Builtin.firstCells size n y else if n * size = 0 then pure #[] else do pure (Builtin.zeroCells (← zeroValue elem).cells n))
        let rest := Builtin.zeroCells (← zeroValue elem).cells (newCap - (sLen + n))
        pure (.slice (some (← newRow elem (old ++ new ++ rest))) (sLen + n) newCap)) := fun E1 hl => by
      refine SR.bind (sr_typeInfo elem) ?_
      rintro E2 ti _ hl2 ⟨rfl, _⟩
      dsimp only
      by_cases hcap : Builtin.nextslicecap (sLen + n) sCap * ti.bytes > 2 ^ 48
      · rw [if_pos hcap]
        exact .die (dies_bind (dies_ite (dies_rt _) (dies_then (tm_mayShare _ _ _ _ _) fun _ => dies_ite (dies_then tm_noRoom fun _ => dies_unsup _) (dies_unsup _))))
      · rw [if_neg hcap, if_neg hcap]
        refine SR.bind (R1 := fun _ a b => a = b) (.choose _ fun n => .pure rfl) ?_
        rintro E3 cp _ hl3 rfl
        refine SR.bind (sr_typeInfo elem) ?_
        rintro E4 ti' _ hl4 ⟨rfl, _⟩
        refine SR.bind (sr_askRoom _) ?_
        intro E5 _ _ hl5 _
        have hL := Env.le_trans hl (Env.le_trans hl2 (Env.le_trans hl3 (Env.le_trans hl4 hl5)))
        refine SR.bind (sr_firstCells size sLen (hs.mono hL) hs0) ?_
        intro E6 o o' hl6 ho
        refine SR.bind (sr_appended elem hZ size n zeros (hx.mono (Env.le_trans hL hl6)) hx0) ?_
        intro E7 w w' hl7 hw
        refine SR.bind (sr_zeroValue elem hZ) ?_
        intro E8 z z' hl8 hz
        have hzz := zeroCells_lr (lr_same hz) (cp - (sLen + n))
        rw [← hz.2]
        refine SR.bind (sr_newRow elem (((ho.mono (Env.le_trans hl7 hl8)).app (hw.mono hl8)).app hzz)) ?_
        intro E9 p q _ hpq
        exact .ret (.slice _ _ hpq)
    refine SR.bind (sr_typeInfo elem) ?_
    rintro E1 ti _ hl ⟨rfl, _⟩
    by_cases hc : (((sLen + n : Nat) : Int) > IntKind.i64.max ∧ (zeros = true ∨ ti.bytes = 0))
    · rw [if_pos hc]
      exact .die (dies_bind (dies_rt _))
    · rw [if_neg hc, if_neg hc]
      exact tail E1 hl
omit [Fns] in
theorem append_eq (tys : Array TypeId) (ty : TypeId) (args : Array Value) : Builtin.append_ tys ty args = (do
    let (some sType, some s, some x) := (tys[0]?, args[0]?, args[1]?) | stuck "append: two arguments expected"
    let .slice elem ← underlying sType | stuck "append: slice type expected"
    let .slice base sLen sCap := s | stuck "append: slice expected"
    let size ← sizeOf elem
    let zeros ← match tys[1]? with
      | some xType => do pure ((← underlying xType) matches .int _)
      | none => pure false
    let n ← if zeros then do
        let l := IntKind.i64.wrap (← asInt x)
        if l < 0 then runtimePanic (.error "makeslice: len out of range")
        if l * (← typeInfo elem).bytes > 2 ^ 48 then
          let made ← choose (.extern "append.ofMake.carriedOut" 2)
          runtimePanic (.error (if made == 1 then "makeslice: len out of range" else "growslice: len out of range"))
        pure l.toNat
      else Builtin.lenOf x
    appRest elem size base sLen sCap s x zeros n) := rfl
/-- The elements that are appended have a zero that names no place. -/
def appOk (P : Program) (tys : Array TypeId) : Bool := match tys[0]? with
  | some t => elemOk P t
  | none => true
theorem sr_append (tys : Array TypeId) (hA : appOk P tys = true) (ty : TypeId) {x y : Array Value} (h : LR E x y) : SR P (fun E' a b => VR E' a b) E (Builtin.append_ tys ty x) (Builtin.append_ tys ty y) := by
  rw [append_eq, append_eq]
  cases ht : tys[0]? with
  | none => exact .die (dies_stuck _)
  | some t =>
    cases hx : x[0]? with
    | none => exact .die (dies_stuck _)
    | some s =>
      obtain ⟨s', hs', hss⟩ := h.get hx
      cases hx1 : x[1]? with
      | none => exact .die (dies_stuck _)
      | some e =>
        obtain ⟨e', he', hee⟩ := h.get hx1
        rw [hs', he']
        dsimp only
        refine SR.bind (sr_underlying t) ?_
        rintro E1 d _ hl ⟨rfl, hd⟩
        cases d with
        | slice elem =>
          dsimp only
          have hZ : zeroOk P elem = true := by
            unfold appOk at hA
            rw [ht] at hA
            exact elemOk_slice hA hd
          have main : ∀ (a b : Option Addr) (l c : Nat), s = .slice a l c → s' = .slice b l c → BS E1 a b l c → SR P (fun E' a b => VR E' a b) E1 (do
              let size ← sizeOf elem
              let zeros ← match tys[1]? with
                | some xType => do pure ((← underlying xType) matches .int _)
                | none => pure false
              let n ← if zeros then do
                  let l := IntKind.i64.wrap (← asInt e)
                  if l < 0 then runtimePanic (.error "makeslice: len out of range")
                  if l * (← typeInfo elem).bytes > 2 ^ 48 then
                    let made ← choose (.extern "append.ofMake.carriedOut" 2)
                    runtimePanic (.error (if made == 1 then "makeslice: len out of range" else "growslice: len out of range"))
                  pure l.toNat
                else Builtin.lenOf e
              appRest elem size a l c s e zeros n) (do
              let size ← sizeOf elem
              let zeros ← match tys[1]? with
                | some xType => do pure ((← underlying xType) matches .int _)
                | none => pure false
              let n ← if zeros then do
                  let l := IntKind.i64.wrap (← asInt e')
                  if l < 0 then runtimePanic (.error "makeslice: len out of range")
                  if l * (← typeInfo elem).bytes > 2 ^ 48 then
                    let made ← choose (.extern "append.ofMake.carriedOut" 2)
                    runtimePanic (.error (if made == 1 then "makeslice: len out of range" else "growslice: len out of range"))
                  pure l.toNat
                else Builtin.lenOf e'
              appRest elem size b l c s' e' zeros n) := by
            intro a b l c hsa hsb hab
            refine SR.bind (sr_sizeOf elem) ?_
            rintro E2 n _ hl2 ⟨rfl, _⟩
            have len : ∀ (E3 : Env) (zeros : Bool), E2.le E3 → SR P (fun E' a b => VR E' a b) E3 (do
                let n' ← if zeros then do
                    let l := IntKind.i64.wrap (← asInt e)
                    if l < 0 then runtimePanic (.error "makeslice: len out of range")
                    if l * (← typeInfo elem).bytes > 2 ^ 48 then
                      let made ← choose (.extern "append.ofMake.carriedOut" 2)
                      runtimePanic (.error (if made == 1 then "makeslice: len out of range" else "growslice: len out of range"))
                    pure l.toNat
                  else Builtin.lenOf e
                appRest elem n a l c s e zeros n') (do
                let n' ← if zeros then do
                    let l := IntKind.i64.wrap (← asInt e')
                    if l < 0 then runtimePanic (.error "makeslice: len out of range")
                    if l * (← typeInfo elem).bytes > 2 ^ 48 then
                      let made ← choose (.extern "append.ofMake.carriedOut" 2)
                      runtimePanic (.error (if made == 1 then "makeslice: len out of range" else "growslice: len out of range"))
                    pure l.toNat
                  else Builtin.lenOf e'
                appRest elem n b l c s' e' zeros n') := by
              intro E3 zeros hl3
              have hL := Env.le_trans hl (Env.le_trans hl2 hl3)
              have fin : ∀ (E4 : Env) (k : Nat), E3.le E4 → (zeros = false → NoRow e k) → SR P (fun E' a b => VR E' a b) E4 (appRest elem n a l c s e zeros k) (appRest elem n b l c s' e' zeros k) := fun E4 k hl4 hk => sr_appRest elem hZ n l c zeros k (hab.mono (Env.le_trans hl2 (Env.le_trans hl3 hl4))) (hss.mono (Env.le_trans hL hl4)) (hee.mono (Env.le_trans hL hl4)) (fun p e => by rw [hsa] at e; injection e) hk
              cases zeros
              · refine SR.bind (sr_lenOf (hee.mono hL)) ?_
                rintro E4 k _ hl4 ⟨rfl, hk⟩
                exact fin E4 k hl4 fun _ => hk
              · rw [if_pos rfl, if_pos rfl]
                refine SR.bind (sr_asInt (hee.mono hL)) ?_
                rintro E4 k _ hl4 rfl
                dsimp only
                by_cases hneg : IntKind.i64.wrap k < 0
                · rw [if_pos hneg]
                  exact .die (dies_bind (dies_rt _))
                · rw [if_neg hneg, if_neg hneg]
                  refine SR.bind (sr_typeInfo elem) ?_
                  rintro E5 ti _ hl5 ⟨rfl, _⟩
                  by_cases hbig : IntKind.i64.wrap k * ti.bytes > 2 ^ 48
                  · rw [if_pos hbig]
                    exact .die (dies_then (tm_choose _) fun _ => dies_bind (dies_rt _))
                  · rw [if_neg hbig, if_neg hbig]
                    exact fin E5 _ (Env.le_trans hl4 hl5) (fun e => by cases e)
            cases tys[1]? with
            | none => exact len E2 false (Env.le_refl _)
            | some xt =>
              refine SR.bind (sr_underlying xt) ?_
              rintro E3 d' _ hl3 ⟨rfl, _⟩
              exact len E3 _ hl3
          cases hss.mono hl with
          | sliceNil l c => exact main none none l c rfl rfl (.inl (.inl ⟨rfl, rfl⟩))
          | slice l c ha => exact main _ _ l c rfl rfl (.inl (.inr ⟨_, _, rfl, rfl, ha⟩))
          | sliceNo p q => exact main _ _ 0 0 rfl rfl (.inr ⟨rfl, rfl, p, q, rfl, rfl⟩)
          | _ => exact .die (dies_stuck _)
        | _ => exact .die (dies_stuck _)
end
end Go.Proofs.Ytpdemelchhkfaaa.Cs
