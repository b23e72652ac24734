/-
  Several texts, joined: CsH, CsI, CsJ.
-/
import Derived.Test.YtbbpbcmpemmgjaaJn3
/-
  append, alike.
-/
namespace Go.Proofs.Ytbbpbcmpemmgjaa.Cs
variable [Fns]
section
variable {P : Program} {E : Env}
omit [Fns] in
theorem tm_holdsCells (a : Addr) (n : Nat) : Tm P (Builtin.holdsCells a n) := tm_bind (tm_shape _) fun x => by
  cases x <;> exact tm_pure _
omit [Fns] in
theorem tm_mayShare (size l n : Nat) (b : Option Addr) (x : Value) : Tm P (Builtin.mayShare size l n b x) := by
  have rest : ∀ t : Bool, Tm P (if !t then return true else match x with
      | .slice (some b') _ _ => do pure (!(← Builtin.holdsCells b' (n * size)) || b.any (·.block == b'.block))
      | _ => pure false) := fun t => by
    refine tm_ite (tm_pure _) ?_
    cases x with
    | slice a _ _ => cases a with
      | none => exact tm_pure _
      | some a => exact tm_bind (tm_holdsCells _ _) fun _ => tm_pure _
    | _ => exact tm_pure _
  unfold Builtin.mayShare
  cases b with
  | none => exact tm_bind (tm_pure _) rest
  | some a => exact tm_bind (tm_holdsCells _ _) fun _ => tm_bind (tm_frozen _) fun _ => tm_bind (tm_pure _) rest
/-- What append does once it is known how many come. -/
def appRest (elem : TypeId) (size : Nat) (base : Option Addr) (sLen sCap : Nat) (s x : Value) (zeros : Bool) (n : Nat) : Sem Value := do
  let appended : Sem (Array Value) :=
    if !zeros then Builtin.firstCells size n x
    else if n * size = 0 then pure #[]
    else do pure (Builtin.zeroCells (← zeroValue elem).cells n)
  let need := sLen + n
  if need ≤ sCap then
    let new ← appended
    if let some a := base then storeCells (a.add (sLen * size)) new.toList
    pure (.slice base need sCap)
  else
    if (need : Int) > IntKind.i64.max ∧ (zeros ∨ (← typeInfo elem).bytes = 0) then runtimePanic (.error "growslice: len out of range")
    if Builtin.nextslicecap need sCap * (← typeInfo elem).bytes > 2 ^ 48 then (if zeros then runtimePanic (.error "growslice: len out of range") else do
      if !(← Builtin.mayShare size sLen n base x) then mark .noRoom
      unsupported (.resourceLimit "append: a slice or a string whose bytes no memory bears"))
    let newCap ← choose (.appendCap need sCap elem)
    askRoom (newCap * (← typeInfo elem).bytes)
    let old ← Builtin.firstCells size sLen s
    let new ← appended
    let rest := Builtin.zeroCells (← zeroValue elem).cells (newCap - need)
    pure (.slice (some (← newRow elem (old ++ new ++ rest))) need newCap)
/-- Bases that are alike. -/
def BR (E : Env) (a b : Option Addr) : Prop := (a = none ∧ b = none) ∨ ∃ p q, a = some p ∧ b = some q ∧ AR E p q
theorem BR.mono {E E' : Env} (hl : E.le E') {a b : Option Addr} (h : BR E a b) : BR E' a b := by
  rcases h with h | ⟨p, q, h1, h2, h3⟩
  · exact .inl h
  · exact .inr ⟨p, q, h1, h2, h3.mono hl⟩
theorem BR.vr {a b : Option Addr} (h : BR E a b) (l c : Nat) : VR E (.slice a l c) (.slice b l c) := by
  rcases h with ⟨rfl, rfl⟩ | ⟨p, q, rfl, rfl, h3⟩
  · exact .sliceNil l c
  · exact .slice l c h3
theorem sr_appended (elem : TypeId) (hZ : zeroOk P elem = true) (size n : Nat) (zeros : Bool) {x y : Value} (h : VR E x y) (hn : zeros = false → NoRow x n) : SR P (fun E' a b => LR E' a b) E
    (if !zeros then Builtin.firstCells size n x else if n * size = 0 then pure #[] else do pure (Builtin.zeroCells (← zeroValue elem).cells n))
    (if !zeros then Builtin.firstCells size n y else if n * size = 0 then pure #[] else do pure (Builtin.zeroCells (← zeroValue elem).cells n)) := by
  split
  · rename_i hz
    exact sr_firstCells size n h (hn (by simpa using hz))
  · split
    · exact .ret (LR.nil _)
    · refine SR.bind (sr_zeroValue elem hZ) ?_
      intro E1 u v _ hz
      have := zeroCells_lr (lr_same hz) n
      rw [← hz.2]
      exact .ret this
/-- Nothing comes: nothing is there. -/
theorem sr_appended0 (elem : TypeId) (size : Nat) (zeros : Bool) {x y : Value} (h : VR E x y) : SR P (fun _ a b => a = #[] ∧ b = #[]) E
    (if !zeros then Builtin.firstCells size 0 x else if 0 * size = 0 then pure #[] else do pure (Builtin.zeroCells (← zeroValue elem).cells 0))
    (if !zeros then Builtin.firstCells size 0 y else if 0 * size = 0 then pure #[] else do pure (Builtin.zeroCells (← zeroValue elem).cells 0)) := by
  split
  · unfold Builtin.firstCells
    cases h with
    | sliceNil l c => exact .ret ⟨rfl, rfl⟩
    | slice l c h => dsimp only; rw [Nat.zero_mul]; exact .ret ⟨rfl, rfl⟩
    | sliceNo a b => dsimp only; rw [Nat.zero_mul]; exact .ret ⟨rfl, rfl⟩
    | string s => exact .ret ⟨by simp, by simp⟩
    | _ => exact .die (dies_stuck _)
  · rw [if_pos (Nat.zero_mul _)]
    exact .ret ⟨rfl, rfl⟩
/-- Bases that are alike, or of an empty slice that has no room. -/
def BS (E : Env) (a b : Option Addr) (l c : Nat) : Prop := BR E a b ∨ (l = 0 ∧ c = 0 ∧ ∃ p q, a = some p ∧ b = some q)
theorem BS.mono {E E' : Env} (hl : E.le E') {a b : Option Addr} {l c : Nat} (h : BS E a b l c) : BS E' a b l c := h.imp (BR.mono hl) id
theorem sr_appRest (elem : TypeId) (hZ : zeroOk P elem = true) (size : Nat) {a b : Option Addr} (sLen sCap : Nat) {s s' x y : Value} (zeros : Bool) (n : Nat) (hb : BS E a b sLen sCap) (hs : VR E s s') (hx : VR E x y) (hs0 : NoRow s sLen) (hx0 : zeros = false → NoRow x n) :
    SR P (fun E' a b => VR E' a b) E (appRest elem size a sLen sCap s x zeros n) (appRest elem size b sLen sCap s' y zeros n) := by
  unfold appRest
  dsimp only
  split
  · rename_i hneed
    rcases hb with hb | ⟨rfl, rfl, p, q, rfl, rfl⟩
    case inr =>
      obtain rfl : n = 0 := by omega
      refine SR.bind (sr_appended0 elem size zeros hx) ?_
      rintro E1 u v hl ⟨rfl, rfl⟩
      dsimp only
      refine SR.bind (R1 := fun _ _ _ => True) (.ret trivial) ?_
      intro E2 _ _ hl2 _
      exact .ret (.sliceNo p q)
    refine SR.bind (sr_appended elem hZ size n zeros hx hx0) ?_
    intro E1 u v hl huv
    rcases hb with ⟨rfl, rfl⟩ | ⟨p, q, rfl, rfl, hpq⟩
    · exact .ret (.sliceNil _ _)
    · dsimp only
      refine SR.bind (sr_storeRow ((hpq.mono hl).add _) huv) ?_
      intro E2 _ _ hl2 _
      exact .ret (.slice _ _ (hpq.mono (Env.le_trans hl hl2)))
  · have tail : ∀ E1 : Env, E.le E1 → SR P (fun E' a b => VR E' a b) E1 (do
        if Builtin.nextslicecap (sLen + n) sCap * (← typeInfo elem).bytes > 2 ^ 48 then (if zeros then runtimePanic (.error "growslice: len out of range") else do
          if !(← Builtin.mayShare size sLen n a x) then mark .noRoom
          unsupported (.resourceLimit "append: a slice or a string whose bytes no memory bears"))
        let newCap ← choose (.appendCap (sLen + n) sCap elem)
        askRoom (newCap * (← typeInfo elem).bytes)
        let old ← Builtin.firstCells size sLen s
        let new ← (if !zeros then Builtin.firstCells size n x else if n * size = 0 then pure #[] else do pure (Builtin.zeroCells (← zeroValue elem).cells n))
        let rest := Builtin.zeroCells (← zeroValue elem).cells (newCap - (sLen + n))
        pure (.slice (some (← newRow elem (old ++ new ++ rest))) (sLen + n) newCap)) (do
        if Builtin.nextslicecap (sLen + n) sCap * (← typeInfo elem).bytes > 2 ^ 48 then (if zeros then runtimePanic (.error "growslice: len out of range") else do
          if !(← Builtin.mayShare size sLen n b y) then mark .noRoom
          unsupported (.resourceLimit "append: a slice or a string whose bytes no memory bears"))
        let newCap ← choose (.appendCap (sLen + n) sCap elem)
        askRoom (newCap * (← typeInfo elem).bytes)
        let old ← Builtin.firstCells size sLen s'
        let new ← (if !zeros then Builtin.firstCells size n y else if n * size = 0 then pure #[] else do pure (Builtin.zeroCells (← zeroValue elem).cells n))
        let rest := Builtin.zeroCells (← zeroValue elem).cells (newCap - (sLen + n))
        pure (.slice (some (← newRow elem (old ++ new ++ rest))) (sLen + n) newCap)) := fun E1 hl => by
      refine SR.bind (sr_typeInfo elem) ?_
      rintro E2 ti _ hl2 ⟨rfl, _⟩
      dsimp only
      by_cases hcap : Builtin.nextslicecap (sLen + n) sCap * ti.bytes > 2 ^ 48
      · rw [if_pos hcap]
        exact .die (dies_bind (dies_ite (dies_rt _) (dies_then (tm_mayShare _ _ _ _ _) fun _ => dies_ite (dies_then tm_noRoom fun _ => dies_unsup _) (dies_unsup _))))
      · rw [if_neg hcap, if_neg hcap]
        refine SR.bind (R1 := fun _ a b => a = b) (.choose _ fun n => .pure rfl) ?_
        rintro E3 cp _ hl3 rfl
        refine SR.bind (sr_typeInfo elem) ?_
        rintro E4 ti' _ hl4 ⟨rfl, _⟩
        refine SR.bind (sr_askRoom _) ?_
        intro E5 _ _ hl5 _
        have hL := Env.le_trans hl (Env.le_trans hl2 (Env.le_trans hl3 (Env.le_trans hl4 hl5)))
        refine SR.bind (sr_firstCells size sLen (hs.mono hL) hs0) ?_
        intro E6 o o' hl6 ho
        refine SR.bind (sr_appended elem hZ size n zeros (hx.mono (Env.le_trans hL hl6)) hx0) ?_
        intro E7 w w' hl7 hw
        refine SR.bind (sr_zeroValue elem hZ) ?_
        intro E8 z z' hl8 hz
        have hzz := zeroCells_lr (lr_same hz) (cp - (sLen + n))
        rw [← hz.2]
        refine SR.bind (sr_newRow elem (((ho.mono (Env.le_trans hl7 hl8)).app (hw.mono hl8)).app hzz)) ?_
        intro E9 p q _ hpq
        exact .ret (.slice _ _ hpq)
    refine SR.bind (sr_typeInfo elem) ?_
    rintro E1 ti _ hl ⟨rfl, _⟩
    by_cases hc : (((sLen + n : Nat) : Int) > IntKind.i64.max ∧ (zeros = true ∨ ti.bytes = 0))
    · rw [if_pos hc]
      exact .die (dies_bind (dies_rt _))
    · rw [if_neg hc, if_neg hc]
      exact tail E1 hl
omit [Fns] in
theorem append_eq (tys : Array TypeId) (ty : TypeId) (args : Array Value) : Builtin.append_ tys ty args = (do
    let (some sType, some s, some x) := (tys[0]?, args[0]?, args[1]?) | stuck "append: two arguments expected"
    let .slice elem ← underlying sType | stuck "append: slice type expected"
    let .slice base sLen sCap := s | stuck "append: slice expected"
    let size ← sizeOf elem
    let zeros ← match tys[1]? with
      | some xType => do pure ((← underlying xType) matches .int _)
      | none => pure false
    let n ← if zeros then do
        let l := IntKind.i64.wrap (← asInt x)
        if l < 0 then runtimePanic (.error "makeslice: len out of range")
        if l * (← typeInfo elem).bytes > 2 ^ 48 then
          let made ← choose (.extern "append.ofMake.carriedOut" 2)
          runtimePanic (.error (if made == 1 then "makeslice: len out of range" else "growslice: len out of range"))
        pure l.toNat
      else Builtin.lenOf x
    appRest elem size base sLen sCap s x zeros n) := rfl
/-- The elements that are appended have a zero that names no place. -/
def appOk (P : Program) (tys : Array TypeId) : Bool := match tys[0]? with
  | some t => elemOk P t
  | none => true
theorem sr_append (tys : Array TypeId) (hA : appOk P tys = true) (ty : TypeId) {x y : Array Value} (h : LR E x y) : SR P (fun E' a b => VR E' a b) E (Builtin.append_ tys ty x) (Builtin.append_ tys ty y) := by
  rw [append_eq, append_eq]
  cases ht : tys[0]? with
  | none => exact .die (dies_stuck _)
  | some t =>
    cases hx : x[0]? with
    | none => exact .die (dies_stuck _)
    | some s =>
      obtain ⟨s', hs', hss⟩ := h.get hx
      cases hx1 : x[1]? with
      | none => exact .die (dies_stuck _)
      | some e =>
        obtain ⟨e', he', hee⟩ := h.get hx1
        rw [hs', he']
        dsimp only
        refine SR.bind (sr_underlying t) ?_
        rintro E1 d _ hl ⟨rfl, hd⟩
        cases d with
        | slice elem =>
          dsimp only
          have hZ : zeroOk P elem = true := by
            unfold appOk at hA
            rw [ht] at hA
            exact elemOk_slice hA hd
          have main : ∀ (a b : Option Addr) (l c : Nat), s = .slice a l c → s' = .slice b l c → BS E1 a b l c → SR P (fun E' a b => VR E' a b) E1 (do
              let size ← sizeOf elem
              let zeros ← match tys[1]? with
                | some xType => do pure ((← underlying xType) matches .int _)
                | none => pure false
              let n ← if zeros then do
                  let l := IntKind.i64.wrap (← asInt e)
                  if l < 0 then runtimePanic (.error "makeslice: len out of range")
                  if l * (← typeInfo elem).bytes > 2 ^ 48 then
                    let made ← choose (.extern "append.ofMake.carriedOut" 2)
                    runtimePanic (.error (if made == 1 then "makeslice: len out of range" else "growslice: len out of range"))
                  pure l.toNat
                else Builtin.lenOf e
              appRest elem size a l c s e zeros n) (do
              let size ← sizeOf elem
              let zeros ← match tys[1]? with
                | some xType => do pure ((← underlying xType) matches .int _)
                | none => pure false
              let n ← if zeros then do
                  let l := IntKind.i64.wrap (← asInt e')
                  if l < 0 then runtimePanic (.error "makeslice: len out of range")
                  if l * (← typeInfo elem).bytes > 2 ^ 48 then
                    let made ← choose (.extern "append.ofMake.carriedOut" 2)
                    runtimePanic (.error (if made == 1 then "makeslice: len out of range" else "growslice: len out of range"))
                  pure l.toNat
                else Builtin.lenOf e'
              appRest elem size b l c s' e' zeros n) := by
            intro a b l c hsa hsb hab
            refine SR.bind (sr_sizeOf elem) ?_
            rintro E2 n _ hl2 ⟨rfl, _⟩
            have len : ∀ (E3 : Env) (zeros : Bool), E2.le E3 → SR P (fun E' a b => VR E' a b) E3 (do
                let n' ← if zeros then do
                    let l := IntKind.i64.wrap (← asInt e)
                    if l < 0 then runtimePanic (.error "makeslice: len out of range")
                    if l * (← typeInfo elem).bytes > 2 ^ 48 then
                      let made ← choose (.extern "append.ofMake.carriedOut" 2)
                      runtimePanic (.error (if made == 1 then "makeslice: len out of range" else "growslice: len out of range"))
                    pure l.toNat
                  else Builtin.lenOf e
                appRest elem n a l c s e zeros n') (do
                let n' ← if zeros then do
                    let l := IntKind.i64.wrap (← asInt e')
                    if l < 0 then runtimePanic (.error "makeslice: len out of range")
                    if l * (← typeInfo elem).bytes > 2 ^ 48 then
                      let made ← choose (.extern "append.ofMake.carriedOut" 2)
                      runtimePanic (.error (if made == 1 then "makeslice: len out of range" else "growslice: len out of range"))
                    pure l.toNat
                  else Builtin.lenOf e'
                appRest elem n b l c s' e' zeros n') := by
              intro E3 zeros hl3
              have hL := Env.le_trans hl (Env.le_trans hl2 hl3)
              have fin : ∀ (E4 : Env) (k : Nat), E3.le E4 → (zeros = false → NoRow e k) → SR P (fun E' a b => VR E' a b) E4 (appRest elem n a l c s e zeros k) (appRest elem n b l c s' e' zeros k) := fun E4 k hl4 hk => sr_appRest elem hZ n l c zeros k (hab.mono (Env.le_trans hl2 (Env.le_trans hl3 hl4))) (hss.mono (Env.le_trans hL hl4)) (hee.mono (Env.le_trans hL hl4)) (fun p e => by rw [hsa] at e; injection e) hk
              cases zeros
              · refine SR.bind (sr_lenOf (hee.mono hL)) ?_
                rintro E4 k _ hl4 ⟨rfl, hk⟩
                exact fin E4 k hl4 fun _ => hk
              · rw [if_pos rfl, if_pos rfl]
                refine SR.bind (sr_asInt (hee.mono hL)) ?_
                rintro E4 k _ hl4 rfl
                dsimp only
                by_cases hneg : IntKind.i64.wrap k < 0
                · rw [if_pos hneg]
                  exact .die (dies_bind (dies_rt _))
                · rw [if_neg hneg, if_neg hneg]
                  refine SR.bind (sr_typeInfo elem) ?_
                  rintro E5 ti _ hl5 ⟨rfl, _⟩
                  by_cases hbig : IntKind.i64.wrap k * ti.bytes > 2 ^ 48
                  · rw [if_pos hbig]
                    exact .die (dies_then (tm_choose _) fun _ => dies_bind (dies_rt _))
                  · rw [if_neg hbig, if_neg hbig]
                    exact fin E5 _ (Env.le_trans hl4 hl5) (fun e => by cases e)
            cases tys[1]? with
            | none => exact len E2 false (Env.le_refl _)
            | some xt =>
              refine SR.bind (sr_underlying xt) ?_
              rintro E3 d' _ hl3 ⟨rfl, _⟩
              exact len E3 _ hl3
          cases hss.mono hl with
          | sliceNil l c => exact main none none l c rfl rfl (.inl (.inl ⟨rfl, rfl⟩))
          | slice l c ha => exact main _ _ l c rfl rfl (.inl (.inr ⟨_, _, rfl, rfl, ha⟩))
          | sliceNo p q => exact main _ _ 0 0 rfl rfl (.inr ⟨rfl, rfl, p, q, rfl, rfl⟩)
          | _ => exact .die (dies_stuck _)
        | _ => exact .die (dies_stuck _)
end
end Go.Proofs.Ytbbpbcmpemmgjaa.Cs

/-
  Operations of the model that are alike (fifth part): reckoning, comparing, conversions.
-/
namespace Go.Proofs.Ytbbpbcmpemmgjaa.Cs
variable [Fns]
section
variable {P : Program} {E : Env}
omit [Fns] in
theorem dies_prog {α : Type} {f : Program → Sem α} (h : Dies P (f P)) : Dies P (program >>= f) := fun w => h w
omit [Fns] in
theorem dies_typeInfo {T : TypeId} (h : P.info? T = none) : Dies P (typeInfo T) := by
  unfold typeInfo
  refine dies_prog ?_
  rw [h]
  exact dies_stuck _
theorem sr_numberAt {bl b s : Nat} {o : Bool} (h : E bl = some (b, s, o)) : SR P (fun E' x y => (x = none ∧ y = none) ∨ ∃ p q l, x = some (p, l) ∧ y = some (q, l) ∧ AR E' p q) E (numberAt bl) (numberAt b) := by
  unfold numberAt
  refine SR.bind (R1 := fun E' x y => x.isSome = y.isSome ∧ (x.isSome = false → o = true) ∧ E' bl = some (b, s, o)) (.shape h fun x y hxy => .pure ⟨?_, ?_, h⟩) ?_
  · rcases hxy with ⟨_, rfl⟩ | ⟨_, T, n, T', n', rfl, rfl, _⟩ <;> rfl
  · rcases hxy with ⟨e, _⟩ | ⟨_, T, n, T', n', rfl, rfl, _⟩
    · exact fun _ => e
    · exact fun e => by cases e
  · rintro E1 x y _ ⟨h1, h2, h3⟩
    cases hx : x.isSome
    · rw [hx] at h1 h2
      obtain rfl := h2 rfl
      simp only [← h1, Bool.false_eq_true, if_false]
      refine SR.bind (R1 := fun E' x y => OR E' x y) (.getObj h3 fun x y h => .pure h) ?_
      intro E2 x y _ hxy
      cases hxy with
      | number l hn => exact .ret (.inr ⟨_, _, _, rfl, rfl, hn⟩)
      | _ => exact .ret (.inl ⟨rfl, rfl⟩)
    · rw [hx] at h1
      simp only [← h1, if_true]
      exact .ret (.inl ⟨rfl, rfl⟩)
theorem sr_viewAt {bl b s : Nat} {o : Bool} (h : E bl = some (b, s, o)) : SR P (fun _ x y => x = none ∧ y = none) E (viewAt bl) (viewAt b) := by
  unfold viewAt
  refine SR.bind (R1 := fun E' x y => x.isSome = y.isSome ∧ (x.isSome = false → o = true) ∧ E' bl = some (b, s, o)) (.shape h fun x y hxy => .pure ⟨?_, ?_, h⟩) ?_
  · rcases hxy with ⟨_, rfl⟩ | ⟨_, T, n, T', n', rfl, rfl, _⟩ <;> rfl
  · rcases hxy with ⟨e, _⟩ | ⟨_, T, n, T', n', rfl, rfl, _⟩
    · exact fun _ => e
    · exact fun e => by cases e
  · rintro E1 x y _ ⟨h1, h2, h3⟩
    cases hx : x.isSome
    · rw [hx] at h1 h2
      obtain rfl := h2 rfl
      simp only [← h1, Bool.false_eq_true, if_false]
      refine SR.bind (R1 := fun E' x y => OR E' x y) (.getObj h3 fun x y h => .pure h) ?_
      intro E2 x y _ hxy
      cases hxy <;> exact .ret ⟨rfl, rfl⟩
    · rw [hx] at h1
      simp only [← h1, if_true]
      exact .ret ⟨rfl, rfl⟩
theorem sr_behind {a b : Addr} (h : AR E a b) : SR P (fun E' x y => AR E' x.1 y.1 ∧ x.2 = y.2) E (behindNumber a) (behindNumber b) := by
  unfold behindNumber
  have h' := h
  obtain ⟨s, o, e1, _⟩ := h
  refine SR.bind (sr_numberAt e1) ?_
  intro E1 x y hl hxy
  rcases hxy with ⟨rfl, rfl⟩ | ⟨p, q, l, rfl, rfl, hpq⟩
  · exact .ret ⟨h'.mono hl, rfl⟩
  · exact .ret ⟨hpq, rfl⟩
/-- Of an own place all is told alike. -/
theorem sr_byteOf {a b : Addr} (e1 : E a.block = some (b.block, 0, true)) (e2 : b.off = a.off) (e3 : b.spot = a.spot) : SR P (fun _ x y => x = y) E (byteOf a) (byteOf b) := by
  unfold byteOf
  rw [e3, e2]
  cases a.spot with
  | some s => exact .ret rfl
  | none =>
    dsimp only
    refine SR.bind sr_program ?_
    rintro E1 p p' hl ⟨rfl, rfl⟩
    unfold noView
    refine SR.bind (R1 := fun E' _ _ => E' a.block = some (b.block, 0, true)) ?_ ?_
    · refine SR.bind (R1 := fun E' x y => (x = none ∧ y = none) ∧ E' a.block = some (b.block, 0, true)) ((sr_viewAt (hl _ _ e1)).mono fun E' x y hle h => ⟨h, hle _ _ (hl _ _ e1)⟩) ?_
      rintro E2 x y _ ⟨⟨rfl, rfl⟩, h⟩
      exact .ret h
    · intro E2 _ _ hl2 h3
      refine SR.bind (R1 := fun _ x y => x = y) (.shape h3 fun x y hxy => .pure ?_) ?_
      · rcases hxy with ⟨_, e⟩ | ⟨e, _⟩
        · exact e
        · cases e
      · rintro E3 x _ _ rfl
        cases x with
        | none => exact .die (dies_stuck _)
        | some q =>
          obtain ⟨e, n⟩ := q
          dsimp only
          split
          · exact .ret rfl
          · split
            · exact .ret rfl
            · exact .die (dies_stuck _)
theorem sr_addrMod (k : IntKind) {a b : Addr} (n : Int) (h : AR E a b) : SR P (fun E' x y => VR E' x y) E (Op.addrMod k a n) (Op.addrMod k b n) := by
  unfold Op.addrMod
  obtain ⟨s, o, e1, e2, e3, e4, e5⟩ := h
  cases o
  · refine SR.bind (R1 := fun _ (x y : Option (TypeId × Nat)) => ∃ T n, x = some (T, n) ∧ P.info? T = none) (.shape e1 fun x y hxy => .pure ?_) ?_
    · rcases hxy with ⟨e, _⟩ | ⟨_, T, n, T', n', h1, _, h2⟩
      · cases e
      · exact ⟨T, n, h1, h2⟩
    · rintro E1 x y _ ⟨T, m, rfl, hT⟩
      exact .die (dies_bind (dies_typeInfo hT))
  · obtain rfl := e5 rfl
    refine SR.bind (R1 := fun E' x y => x = y ∧ E' a.block = some (b.block, 0, true)) (.shape e1 fun x y hxy => .pure ⟨?_, e1⟩) ?_
    · rcases hxy with ⟨_, e⟩ | ⟨e, _⟩
      · exact e
      · cases e
    · rintro E1 x _ _ ⟨rfl, h3⟩
      cases x with
      | none => exact .die (dies_unsup _)
      | some q =>
        obtain ⟨e, m⟩ := q
        dsimp only
        refine SR.bind (sr_typeInfo e) ?_
        rintro E2 ti _ hl2 ⟨rfl, _⟩
        split
        · exact .die (dies_bind (dies_unsup _))
        · refine SR.bind (sr_byteOf (hl2 _ _ h3) (by rw [e2]; rfl) e3) ?_
          rintro E3 z _ _ rfl
          exact .ret (.int _ _)
omit [Fns] in
theorem cellsOf_none {T : TypeId} (h : P.info? T = none) : P.cellsOf T = 0 := by
  unfold Program.cellsOf
  rw [h]
  rfl
theorem sr_unsafeAdd (t : TypeId) {a b : Addr} {u v : Value} (h : AR E a b) (hu : VR E u v) : SR P (fun E' x y => ∃ a' b', x = .pointer (some a') ∧ y = .pointer (some b') ∧ AR E' a' b') E (Builtin.unsafeAdd_ #[] t #[.pointer (some a), u]) (Builtin.unsafeAdd_ #[] t #[.pointer (some b), v]) := by
  unfold Builtin.unsafeAdd_
  dsimp only
  refine SR.bind (sr_asInt hu) ?_
  rintro E1 n _ hl rfl
  have h' := h.mono hl
  obtain ⟨s, o, e1, e2, e3, e4, e5⟩ := h'
  by_cases hn : n = 0
  · rw [if_pos hn, if_pos hn]
    refine SR.bind (sr_viewAt e1) ?_
    rintro E2 x y hl2 ⟨rfl, rfl⟩
    exact .pure ⟨_, _, rfl, rfl, h.mono (Env.le_trans hl hl2)⟩
  · rw [if_neg hn, if_neg hn]
    by_cases hn2 : n < 0
    · rw [if_pos hn2]
      exact .die (dies_bind (dies_unsup _))
    · rw [if_neg hn2, if_neg hn2]
      cases o
      · refine SR.bind (R1 := fun _ (x y : Option (TypeId × Nat)) => ∃ T n, x = some (T, n) ∧ P.info? T = none) (.shape e1 fun x y hxy => .pure ?_) ?_
        · rcases hxy with ⟨e, _⟩ | ⟨_, T, n, T', n', h1, _, h2⟩
          · cases e
          · exact ⟨T, n, h1, h2⟩
        · rintro E2 x y _ ⟨T, m, rfl, hT⟩
          refine .die (dies_prog ?_)
          have hc : cellAtBytes P P.depth T (m / P.cellsOf T) a.off n = none := by
            unfold cellAtBytes
            rw [cellsOf_none hT]
            rfl
          rw [hc]
          exact dies_unsup _
      · obtain rfl := e5 rfl
        refine SR.bind (R1 := fun E' x y => x = y ∧ E' a.block = some (b.block, 0, true)) (.shape e1 fun x y hxy => .pure ⟨?_, e1⟩) ?_
        · rcases hxy with ⟨_, e⟩ | ⟨e, _⟩
          · exact e
          · cases e
        · rintro E2 x _ _ ⟨rfl, h3⟩
          cases x with
          | none => exact .die (dies_unsup _)
          | some q =>
            obtain ⟨e, m⟩ := q
            dsimp only
            refine SR.bind sr_program ?_
            rintro E3 p p' hl3 ⟨rfl, rfl⟩
            have ho : b.off = a.off := by rw [e2]; rfl
            rw [ho]
            split
            · exact .pure ⟨_, _, rfl, rfl, 0, true, hl3 _ _ h3, rfl, e3, e4, fun _ => rfl⟩
            · exact .die (dies_unsup _)
end
end Go.Proofs.Ytbbpbcmpemmgjaa.Cs

/-
  Operations of the model that are alike (sixth part): binary operations, conversions.
-/
namespace Go.Proofs.Ytbbpbcmpemmgjaa.Cs
variable [Fns]
section
variable {P : Program} {E : Env}
/-- Types whose values may be reckoned with and compared. -/
def cmpOk (P : Program) (t : TypeId) : Bool := match P.underlying t with
  | some (.int _) => match P.info? t with
    | some i => match i.desc with
      | .named s _ => s != "sync.copyChecker"
      | _ => true
    | none => true
  | some .string | some (.slice _) | some (.func _ _ _) | some .bool => true
  | _ => false
theorem sr_movedNumber (t : TypeId) (ht : cmpOk P t = true) {x y u v : Value} (hx : VR E x y) (hu : VR E u v) (hp : ∃ o, x = .pointer o) : SR P (fun E' a b => VR E' a b) E (movedNumber t x u) (movedNumber t y v) := by
  unfold movedNumber
  refine SR.bind (sr_underlying t) ?_
  rintro E1 d _ hl ⟨rfl, hd⟩
  obtain ⟨o, rfl⟩ := hp
  dsimp only
  split
  · unfold cmpOk at ht
    rw [hd] at ht
    cases ht
  · simp only [Bool.false_eq_true, if_false]
    cases hx.mono hl with
    | ptrNil =>
      refine .die ?_
      unfold Builtin.unsafeAdd_
      dsimp only
      exact dies_then (tm_asInt _) fun n => dies_ite (dies_unsup _) (dies_ite (dies_bind (dies_unsup _)) (dies_unsup _))
    | any v h =>
      refine .die ?_
      unfold Builtin.unsafeAdd_
      dsimp only
      exact dies_then (tm_asInt _) fun n => dies_ite (dies_unsup _) (dies_ite (dies_bind (dies_unsup _)) (dies_unsup _))
    | ptr h =>
      dsimp only
      refine SR.bind (sr_behind h) ?_
      rintro E2 ⟨a, la⟩ ⟨b, lb⟩ hl2 ⟨hab, rfl⟩
      dsimp only at hab ⊢
      refine SR.bind (sr_unsafeAdd t hab (hu.mono (Env.le_trans hl hl2))) ?_
      rintro E3 _ _ _ ⟨c, d, rfl, rfl, h3⟩
      dsimp only
      unfold asNumber newObj
      refine SR.bind (R1 := fun E' bl b => E' bl = some (b, 0, true) ∧ Fns.G ≤ bl) (.new (.number _ h3) fun E' bl b _ he hg => .pure ⟨he, hg⟩) ?_
      rintro E4 _ _ _ ⟨he, hg⟩
      exact .ret (.ptr ⟨0, true, he, rfl, rfl, hg, fun _ => rfl⟩)
theorem dies_two (hG : P.globals.size ≤ Fns.G) {a b : Addr} (h : Fns.G ≤ a.block) : Dies P (Op.twoPlaces a b) := by
  unfold Op.twoPlaces
  refine dies_prog ?_
  have hc : (a.block != b.block || decide (a.block ≥ P.globals.size)) = true := by
    have : a.block ≥ P.globals.size := by omega
    simp [this]
  rw [if_pos hc]
  exact dies_bind (dies_unsup _)
theorem ar_low {a b : Addr} (h : AR E a b) : Fns.G ≤ a.block := by
  obtain ⟨s, o, e1, e2, e3, e4, e5⟩ := h
  exact e4
omit [Fns] in
theorem dies_info {α : Type} {t : TypeId} {f : TypeInfo → Sem α} (h : ∀ i, P.info? t = some i → Dies P (f i)) : Dies P (typeInfo t >>= f) := by
  cases hi : P.info? t with
  | none => exact dies_bind (dies_typeInfo hi)
  | some i =>
    intro w
    obtain ⟨x, w', h1, h2⟩ := h i hi w
    refine ⟨x, w', ?_, h2⟩
    rw [← h1]
    refine run_bind_ok ?_
    unfold typeInfo program
    change Sem.run P (Sem.bind (.program .pure) _) w = _
    simp [Sem.bind, Sem.run, hi, pure]
theorem sr_equalIn (hG : P.globals.size ≤ Fns.G) (d : Nat) (t : TypeId) (ht : cmpOk P t = true) {x y u v : Value} (hx : VR E x y) (hu : VR E u v) : SR P (fun _ a b => a = b) E (Op.equalIn (d + 1) t x u) (Op.equalIn (d + 1) t y v) := by
  rw [Op.equalIn, Op.equalIn]
  refine SR.bind (sr_underlying t) ?_
  rintro E1 ds _ hl ⟨rfl, hd⟩
  unfold cmpOk at ht
  rw [hd] at ht
  cases ds with
  | int k =>
    dsimp only at ht
    cases hx.mono hl with
    | int k1 n1 =>
      cases hu.mono hl with
      | int k2 n2 =>
        dsimp only
        split
        · exact .ret rfl
        · exact .die (dies_stuck _)
      | ptr h =>
        cases n1 with
        | ofNat m =>
          cases m with
          | zero => exact .ret rfl
          | succ m => exact .die (dies_unsup _)
        | negSucc m => exact .die (dies_unsup _)
      | ptrNil => exact .die (dies_unsup _)
      | any v h => exact .die (dies_unsup _)
      | _ => exact .die (dies_stuck _)
    | ptr h =>
      cases hu.mono hl with
      | int k2 n2 =>
        cases n2 with
        | ofNat m =>
          cases m with
          | zero => exact .ret rfl
          | succ m => exact .die (dies_unsup _)
        | negSucc m => exact .die (dies_unsup _)
      | ptr h2 =>
        dsimp only
        refine SR.bind (sr_behind h) ?_
        rintro E2 ⟨a, la⟩ ⟨b, lb⟩ hl2 ⟨hab, _⟩
        refine SR.bind (sr_behind (h2.mono hl2)) ?_
        rintro E3 ⟨a2, la2⟩ ⟨b2, lb2⟩ hl3 ⟨hab2, _⟩
        dsimp only at hab hab2 ⊢
        have hlow := ar_low hab
        refine .die (dies_prog ?_)
        have hc : (a.block == a2.block && decide (a.block < P.globals.size)) = false := by
          have : ¬ a.block < P.globals.size := by omega
          simp [this]
        simp only [hc, Bool.false_eq_true, if_false]
        refine dies_info fun i hi => ?_
        rw [hi] at ht
        dsimp only at ht
        split
        · rename_i hdd
          rw [hdd] at ht
          simp at ht
        · exact dies_unsup _
      | _ => exact .die (dies_unsup _)
    | ptrNil => cases hu.mono hl <;> exact .die (dies_unsup _)
    | _ => cases hu.mono hl <;> first | exact .die (dies_stuck _) | exact .die (dies_unsup _)
  | string => cases hx.mono hl <;> cases hu.mono hl <;> first | exact .ret rfl | exact .die (dies_stuck _)
  | slice e => cases hx.mono hl <;> cases hu.mono hl <;> first | exact .ret rfl | exact .die (dies_stuck _)
  | func a b c => cases hx.mono hl <;> cases hu.mono hl <;> first | exact .ret rfl | exact .die (dies_stuck _)
  | bool => cases hx.mono hl <;> cases hu.mono hl <;> first | exact .ret rfl | exact .die (dies_stuck _)
  | _ => cases ht
omit [Fns] in
theorem dies_under {α : Type} {t : TypeId} {f : TypeDesc → Sem α} (h : ∀ d, P.underlying t = some d → Dies P (f d)) : Dies P (underlying t >>= f) := by
  cases hi : P.underlying t with
  | none =>
    refine dies_bind fun w => ?_
    unfold underlying program
    change ∃ h w', Sem.run P (Sem.bind (.program .pure) _) w = _ ∧ _
    simp only [Sem.bind, Sem.run, hi]
    exact dies_stuck _ w
  | some d =>
    intro w
    obtain ⟨x, w', h1, h2⟩ := h d hi w
    refine ⟨x, w', ?_, h2⟩
    rw [← h1]
    refine run_bind_ok ?_
    unfold underlying program
    change Sem.run P (Sem.bind (.program .pure) _) w = _
    simp [Sem.bind, Sem.run, hi, pure]
omit [Fns] in
theorem dies_chlN (d : Nat) (t : TypeId) (ht : cmpOk P t = true) (u : Value) : Dies P (Op.equalIn (d + 1) t (.pointer none) u) := by
  rw [Op.equalIn]
  refine dies_under fun d hd => ?_
  unfold cmpOk at ht
  rw [hd] at ht
  cases d with
  | int k => cases u <;> first | exact dies_stuck _ | exact dies_unsup _
  | string => cases u <;> first | exact dies_stuck _ | exact dies_unsup _
  | slice e => cases u <;> first | exact dies_stuck _ | exact dies_unsup _
  | func a b c => cases u <;> first | exact dies_stuck _ | exact dies_unsup _
  | bool => cases u <;> first | exact dies_stuck _ | exact dies_unsup _
  | _ => cases ht
theorem dies_chrN (d : Nat) (t : TypeId) (ht : cmpOk P t = true) {u v : Value} (hu : VR E u v) : Dies P (Op.equalIn (d + 1) t u (.pointer none)) := by
  rw [Op.equalIn]
  refine dies_under fun d hd => ?_
  unfold cmpOk at ht
  rw [hd] at ht
  cases d with
  | int k => cases hu <;> first | exact dies_stuck _ | exact dies_unsup _
  | string => cases hu <;> first | exact dies_stuck _ | exact dies_unsup _
  | slice e => cases hu <;> first | exact dies_stuck _ | exact dies_unsup _
  | func a b c => cases hu <;> first | exact dies_stuck _ | exact dies_unsup _
  | bool => cases hu <;> first | exact dies_stuck _ | exact dies_unsup _
  | _ => cases ht
omit [Fns] in
theorem dies_chl (t : TypeId) (ht : cmpOk P t = true) (u : Value) : Dies P (Op.equal t (.pointer none) u) := dies_chlN 9999 t ht u
theorem dies_chr (t : TypeId) (ht : cmpOk P t = true) {u v : Value} (hu : VR E u v) : Dies P (Op.equal t u (.pointer none)) := dies_chrN 9999 t ht hu
omit [Fns] in
theorem dies_mvN (t : TypeId) (ht : cmpOk P t = true) (u : Value) : Dies P (movedNumber t (.pointer none) u) := by
  unfold movedNumber
  refine dies_under fun d hd => ?_
  dsimp only
  split
  · unfold cmpOk at ht
    rw [hd] at ht
    cases ht
  · simp only [Bool.false_eq_true, if_false]
    unfold Builtin.unsafeAdd_
    dsimp only
    exact dies_then (tm_asInt _) fun n => dies_ite (dies_unsup _) (dies_ite (dies_bind (dies_unsup _)) (dies_unsup _))
omit [Fns] in
theorem dies_addN (t : TypeId) (ht : cmpOk P t = true) (u : Value) : Dies P (do if (← underlying t) matches .unsafePointer then movedPointer t (.pointer none) u else movedNumber t (.pointer none) u) := by
  refine dies_under fun d hd => ?_
  have main := dies_mvN t ht u
  unfold cmpOk at ht
  rw [hd] at ht
  cases d <;> first | exact main | cases ht
end
end Go.Proofs.Ytbbpbcmpemmgjaa.Cs
