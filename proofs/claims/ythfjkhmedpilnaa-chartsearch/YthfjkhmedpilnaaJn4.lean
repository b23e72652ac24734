/-
  Several texts, joined: CsI, CsJ, CsK, CsL.
-/
import Derived.Test.YthfjkhmedpilnaaCsH
/-
  Operations of the model that are alike (fifth part): reckoning, comparing, conversions.
-/
namespace Go.Proofs.Ythfjkhmedpilnaa.Cs
variable [Fns]
section
variable {P : Program} {E : Env}
omit [Fns] in
theorem dies_prog {α : Type} {f : Program → Sem α} (h : Dies P (f P)) : Dies P (program >>= f) := fun w => h w
omit [Fns] in
theorem dies_typeInfo {T : TypeId} (h : P.info? T = none) : Dies P (typeInfo T) := by
  unfold typeInfo
  refine dies_prog ?_
  rw [h]
  exact dies_stuck _
theorem sr_numberAt {bl b s : Nat} {o : Bool} (h : E bl = some (b, s, o)) : SR P (fun E' x y => (x = none ∧ y = none) ∨ ∃ p q l, x = some (p, l) ∧ y = some (q, l) ∧ AR E' p q) E (numberAt bl) (numberAt b) := by
  unfold numberAt
  refine SR.bind (R1 := fun E' x y => x.isSome = y.isSome ∧ (x.isSome = false → o = true) ∧ E' bl = some (b, s, o)) (.shape h fun x y hxy => .pure ⟨?_, ?_, h⟩) ?_
  · rcases hxy with ⟨_, rfl⟩ | ⟨_, T, n, T', n', rfl, rfl, _⟩ <;> rfl
  · rcases hxy with ⟨e, _⟩ | ⟨_, T, n, T', n', rfl, rfl, _⟩
    · exact fun _ => e
    · exact fun e => by cases e
  · rintro E1 x y _ ⟨h1, h2, h3⟩
    cases hx : x.isSome
    · rw [hx] at h1 h2
      obtain rfl := h2 rfl
      simp only [← h1, Bool.false_eq_true, if_false]
      refine SR.bind (R1 := fun E' x y => OR E' x y) (.getObj h3 fun x y h => .pure h) ?_
      intro E2 x y _ hxy
      cases hxy with
      | number l hn => exact .ret (.inr ⟨_, _, _, rfl, rfl, hn⟩)
      | _ => exact .ret (.inl ⟨rfl, rfl⟩)
    · rw [hx] at h1
      simp only [← h1, if_true]
      exact .ret (.inl ⟨rfl, rfl⟩)
theorem sr_viewAt {bl b s : Nat} {o : Bool} (h : E bl = some (b, s, o)) : SR P (fun _ x y => x = none ∧ y = none) E (viewAt bl) (viewAt b) := by
  unfold viewAt
  refine SR.bind (R1 := fun E' x y => x.isSome = y.isSome ∧ (x.isSome = false → o = true) ∧ E' bl = some (b, s, o)) (.shape h fun x y hxy => .pure ⟨?_, ?_, h⟩) ?_
  · rcases hxy with ⟨_, rfl⟩ | ⟨_, T, n, T', n', rfl, rfl, _⟩ <;> rfl
  · rcases hxy with ⟨e, _⟩ | ⟨_, T, n, T', n', rfl, rfl, _⟩
    · exact fun _ => e
    · exact fun e => by cases e
  · rintro E1 x y _ ⟨h1, h2, h3⟩
    cases hx : x.isSome
    · rw [hx] at h1 h2
      obtain rfl := h2 rfl
      simp only [← h1, Bool.false_eq_true, if_false]
      refine SR.bind (R1 := fun E' x y => OR E' x y) (.getObj h3 fun x y h => .pure h) ?_
      intro E2 x y _ hxy
      cases hxy <;> exact .ret ⟨rfl, rfl⟩
    · rw [hx] at h1
      simp only [← h1, if_true]
      exact .ret ⟨rfl, rfl⟩
theorem sr_behind {a b : Addr} (h : AR E a b) : SR P (fun E' x y => AR E' x.1 y.1 ∧ x.2 = y.2) E (behindNumber a) (behindNumber b) := by
  unfold behindNumber
  have h' := h
  obtain ⟨s, o, e1, _⟩ := h
  refine SR.bind (sr_numberAt e1) ?_
  intro E1 x y hl hxy
  rcases hxy with ⟨rfl, rfl⟩ | ⟨p, q, l, rfl, rfl, hpq⟩
  · exact .ret ⟨h'.mono hl, rfl⟩
  · exact .ret ⟨hpq, rfl⟩
/-- Of an own place all is told alike. -/
theorem sr_byteOf {a b : Addr} (e1 : E a.block = some (b.block, 0, true)) (e2 : b.off = a.off) (e3 : b.spot = a.spot) : SR P (fun _ x y => x = y) E (byteOf a) (byteOf b) := by
  unfold byteOf
  rw [e3, e2]
  cases a.spot with
  | some s => exact .ret rfl
  | none =>
    dsimp only
    refine SR.bind sr_program ?_
    rintro E1 p p' hl ⟨rfl, rfl⟩
    unfold noView
    refine SR.bind (R1 := fun E' _ _ => E' a.block = some (b.block, 0, true)) ?_ ?_
    · refine SR.bind (R1 := fun E' x y => (x = none ∧ y = none) ∧ E' a.block = some (b.block, 0, true)) ((sr_viewAt (hl _ _ e1)).mono fun E' x y hle h => ⟨h, hle _ _ (hl _ _ e1)⟩) ?_
      rintro E2 x y _ ⟨⟨rfl, rfl⟩, h⟩
      exact .ret h
    · intro E2 _ _ hl2 h3
      refine SR.bind (R1 := fun _ x y => x = y) (.shape h3 fun x y hxy => .pure ?_) ?_
      · rcases hxy with ⟨_, e⟩ | ⟨e, _⟩
        · exact e
        · cases e
      · rintro E3 x _ _ rfl
        cases x with
        | none => exact .die (dies_stuck _)
        | some q =>
          obtain ⟨e, n⟩ := q
          dsimp only
          split
          · exact .ret rfl
          · split
            · exact .ret rfl
            · exact .die (dies_stuck _)
theorem sr_addrMod (k : IntKind) {a b : Addr} (n : Int) (h : AR E a b) : SR P (fun E' x y => VR E' x y) E (Op.addrMod k a n) (Op.addrMod k b n) := by
  unfold Op.addrMod
  obtain ⟨s, o, e1, e2, e3, e4, e5⟩ := h
  cases o
  · refine SR.bind (R1 := fun _ (x y : Option (TypeId × Nat)) => ∃ T n, x = some (T, n) ∧ P.info? T = none) (.shape e1 fun x y hxy => .pure ?_) ?_
    · rcases hxy with ⟨e, _⟩ | ⟨_, T, n, T', n', h1, _, h2⟩
      · cases e
      · exact ⟨T, n, h1, h2⟩
    · rintro E1 x y _ ⟨T, m, rfl, hT⟩
      exact .die (dies_bind (dies_typeInfo hT))
  · obtain rfl := e5 rfl
    refine SR.bind (R1 := fun E' x y => x = y ∧ E' a.block = some (b.block, 0, true)) (.shape e1 fun x y hxy => .pure ⟨?_, e1⟩) ?_
    · rcases hxy with ⟨_, e⟩ | ⟨e, _⟩
      · exact e
      · cases e
    · rintro E1 x _ _ ⟨rfl, h3⟩
      cases x with
      | none => exact .die (dies_unsup _)
      | some q =>
        obtain ⟨e, m⟩ := q
        dsimp only
        refine SR.bind (sr_typeInfo e) ?_
        rintro E2 ti _ hl2 ⟨rfl, _⟩
        split
        · exact .die (dies_bind (dies_unsup _))
        · refine SR.bind (sr_byteOf (hl2 _ _ h3) (by rw [e2]; rfl) e3) ?_
          rintro E3 z _ _ rfl
          exact .ret (.int _ _)
omit [Fns] in
theorem cellsOf_none {T : TypeId} (h : P.info? T = none) : P.cellsOf T = 0 := by
  unfold Program.cellsOf
  rw [h]
  rfl
theorem sr_unsafeAdd (t : TypeId) {a b : Addr} {u v : Value} (h : AR E a b) (hu : VR E u v) : SR P (fun E' x y => ∃ a' b', x = .pointer (some a') ∧ y = .pointer (some b') ∧ AR E' a' b') E (Builtin.unsafeAdd_ #[] t #[.pointer (some a), u]) (Builtin.unsafeAdd_ #[] t #[.pointer (some b), v]) := by
  unfold Builtin.unsafeAdd_
  dsimp only
  refine SR.bind (sr_asInt hu) ?_
  rintro E1 n _ hl rfl
  have h' := h.mono hl
  obtain ⟨s, o, e1, e2, e3, e4, e5⟩ := h'
  by_cases hn : n = 0
  · rw [if_pos hn, if_pos hn]
    refine SR.bind (sr_viewAt e1) ?_
    rintro E2 x y hl2 ⟨rfl, rfl⟩
    exact .pure ⟨_, _, rfl, rfl, h.mono (Env.le_trans hl hl2)⟩
  · rw [if_neg hn, if_neg hn]
    by_cases hn2 : n < 0
    · rw [if_pos hn2]
      exact .die (dies_bind (dies_unsup _))
    · rw [if_neg hn2, if_neg hn2]
      cases o
      · refine SR.bind (R1 := fun _ (x y : Option (TypeId × Nat)) => ∃ T n, x = some (T, n) ∧ P.info? T = none) (.shape e1 fun x y hxy => .pure ?_) ?_
        · rcases hxy with ⟨e, _⟩ | ⟨_, T, n, T', n', h1, _, h2⟩
          · cases e
          · exact ⟨T, n, h1, h2⟩
        · rintro E2 x y _ ⟨T, m, rfl, hT⟩
          refine .die (dies_prog ?_)
          have hc : cellAtBytes P P.depth T (m / P.cellsOf T) a.off n = none := by
            unfold cellAtBytes
            rw [cellsOf_none hT]
            rfl
          rw [hc]
          exact dies_unsup _
      · obtain rfl := e5 rfl
        refine SR.bind (R1 := fun E' x y => x = y ∧ E' a.block = some (b.block, 0, true)) (.shape e1 fun x y hxy => .pure ⟨?_, e1⟩) ?_
        · rcases hxy with ⟨_, e⟩ | ⟨e, _⟩
          · exact e
          · cases e
        · rintro E2 x _ _ ⟨rfl, h3⟩
          cases x with
          | none => exact .die (dies_unsup _)
          | some q =>
            obtain ⟨e, m⟩ := q
            dsimp only
            refine SR.bind sr_program ?_
            rintro E3 p p' hl3 ⟨rfl, rfl⟩
            have ho : b.off = a.off := by rw [e2]; rfl
            rw [ho]
            split
            · exact .pure ⟨_, _, rfl, rfl, 0, true, hl3 _ _ h3, rfl, e3, e4, fun _ => rfl⟩
            · exact .die (dies_unsup _)
end
end Go.Proofs.Ythfjkhmedpilnaa.Cs

/-
  Operations of the model that are alike (sixth part): binary operations, conversions.
-/
namespace Go.Proofs.Ythfjkhmedpilnaa.Cs
variable [Fns]
section
variable {P : Program} {E : Env}
/-- Types whose values may be reckoned with and compared. -/
def cmpOk (P : Program) (t : TypeId) : Bool := match P.underlying t with
  | some (.int _) => match P.info? t with
    | some i => match i.desc with
      | .named s _ => s != "sync.copyChecker"
      | _ => true
    | none => true
  | some .string | some (.slice _) | some (.func _ _ _) | some .bool => true
  | _ => false
theorem sr_movedNumber (t : TypeId) (ht : cmpOk P t = true) {x y u v : Value} (hx : VR E x y) (hu : VR E u v) (hp : ∃ o, x = .pointer o) : SR P (fun E' a b => VR E' a b) E (movedNumber t x u) (movedNumber t y v) := by
  unfold movedNumber
  refine SR.bind (sr_underlying t) ?_
  rintro E1 d _ hl ⟨rfl, hd⟩
  obtain ⟨o, rfl⟩ := hp
  dsimp only
  split
  · unfold cmpOk at ht
    rw [hd] at ht
    cases ht
  · simp only [Bool.false_eq_true, if_false]
    cases hx.mono hl with
    | ptrNil =>
      refine .die ?_
      unfold Builtin.unsafeAdd_
      dsimp only
      exact dies_then (tm_asInt _) fun n => dies_ite (dies_unsup _) (dies_ite (dies_bind (dies_unsup _)) (dies_unsup _))
    | any v h =>
      refine .die ?_
      unfold Builtin.unsafeAdd_
      dsimp only
      exact dies_then (tm_asInt _) fun n => dies_ite (dies_unsup _) (dies_ite (dies_bind (dies_unsup _)) (dies_unsup _))
    | ptr h =>
      dsimp only
      refine SR.bind (sr_behind h) ?_
      rintro E2 ⟨a, la⟩ ⟨b, lb⟩ hl2 ⟨hab, rfl⟩
      dsimp only at hab ⊢
      refine SR.bind (sr_unsafeAdd t hab (hu.mono (Env.le_trans hl hl2))) ?_
      rintro E3 _ _ _ ⟨c, d, rfl, rfl, h3⟩
      dsimp only
      unfold asNumber newObj
      refine SR.bind (R1 := fun E' bl b => E' bl = some (b, 0, true) ∧ Fns.G ≤ bl) (.new (.number _ h3) fun E' bl b _ he hg => .pure ⟨he, hg⟩) ?_
      rintro E4 _ _ _ ⟨he, hg⟩
      exact .ret (.ptr ⟨0, true, he, rfl, rfl, hg, fun _ => rfl⟩)
theorem dies_two (hG : P.globals.size ≤ Fns.G) {a b : Addr} (h : Fns.G ≤ a.block) : Dies P (Op.twoPlaces a b) := by
  unfold Op.twoPlaces
  refine dies_prog ?_
  have hc : (a.block != b.block || decide (a.block ≥ P.globals.size)) = true := by
    have : a.block ≥ P.globals.size := by omega
    simp [this]
  rw [if_pos hc]
  exact dies_bind (dies_unsup _)
theorem ar_low {a b : Addr} (h : AR E a b) : Fns.G ≤ a.block := by
  obtain ⟨s, o, e1, e2, e3, e4, e5⟩ := h
  exact e4
omit [Fns] in
theorem dies_info {α : Type} {t : TypeId} {f : TypeInfo → Sem α} (h : ∀ i, P.info? t = some i → Dies P (f i)) : Dies P (typeInfo t >>= f) := by
  cases hi : P.info? t with
  | none => exact dies_bind (dies_typeInfo hi)
  | some i =>
    intro w
    obtain ⟨x, w', h1, h2⟩ := h i hi w
    refine ⟨x, w', ?_, h2⟩
    rw [← h1]
    refine run_bind_ok ?_
    unfold typeInfo program
    change Sem.run P (Sem.bind (.program .pure) _) w = _
    simp [Sem.bind, Sem.run, hi, pure]
theorem sr_equalIn (hG : P.globals.size ≤ Fns.G) (d : Nat) (t : TypeId) (ht : cmpOk P t = true) {x y u v : Value} (hx : VR E x y) (hu : VR E u v) : SR P (fun _ a b => a = b) E (Op.equalIn (d + 1) t x u) (Op.equalIn (d + 1) t y v) := by
  rw [Op.equalIn, Op.equalIn]
  refine SR.bind (sr_underlying t) ?_
  rintro E1 ds _ hl ⟨rfl, hd⟩
  unfold cmpOk at ht
  rw [hd] at ht
  cases ds with
  | int k =>
    dsimp only at ht
    cases hx.mono hl with
    | int k1 n1 =>
      cases hu.mono hl with
      | int k2 n2 =>
        dsimp only
        split
        · exact .ret rfl
        · exact .die (dies_stuck _)
      | ptr h =>
        cases n1 with
        | ofNat m =>
          cases m with
          | zero => exact .ret rfl
          | succ m => exact .die (dies_unsup _)
        | negSucc m => exact .die (dies_unsup _)
      | ptrNil => exact .die (dies_unsup _)
      | any v h => exact .die (dies_unsup _)
      | _ => exact .die (dies_stuck _)
    | ptr h =>
      cases hu.mono hl with
      | int k2 n2 =>
        cases n2 with
        | ofNat m =>
          cases m with
          | zero => exact .ret rfl
          | succ m => exact .die (dies_unsup _)
        | negSucc m => exact .die (dies_unsup _)
      | ptr h2 =>
        dsimp only
        refine SR.bind (sr_behind h) ?_
        rintro E2 ⟨a, la⟩ ⟨b, lb⟩ hl2 ⟨hab, _⟩
        refine SR.bind (sr_behind (h2.mono hl2)) ?_
        rintro E3 ⟨a2, la2⟩ ⟨b2, lb2⟩ hl3 ⟨hab2, _⟩
        dsimp only at hab hab2 ⊢
        have hlow := ar_low hab
        refine .die (dies_prog ?_)
        have hc : (a.block == a2.block && decide (a.block < P.globals.size)) = false := by
          have : ¬ a.block < P.globals.size := by omega
          simp [this]
        simp only [hc, Bool.false_eq_true, if_false]
        refine dies_info fun i hi => ?_
        rw [hi] at ht
        dsimp only at ht
        split
        · rename_i hdd
          rw [hdd] at ht
          simp at ht
        · exact dies_unsup _
      | _ => exact .die (dies_unsup _)
    | ptrNil => cases hu.mono hl <;> exact .die (dies_unsup _)
    | _ => cases hu.mono hl <;> first | exact .die (dies_stuck _) | exact .die (dies_unsup _)
  | string => cases hx.mono hl <;> cases hu.mono hl <;> first | exact .ret rfl | exact .die (dies_stuck _)
  | slice e => cases hx.mono hl <;> cases hu.mono hl <;> first | exact .ret rfl | exact .die (dies_stuck _)
  | func a b c => cases hx.mono hl <;> cases hu.mono hl <;> first | exact .ret rfl | exact .die (dies_stuck _)
  | bool => cases hx.mono hl <;> cases hu.mono hl <;> first | exact .ret rfl | exact .die (dies_stuck _)
  | _ => cases ht
omit [Fns] in
theorem dies_under {α : Type} {t : TypeId} {f : TypeDesc → Sem α} (h : ∀ d, P.underlying t = some d → Dies P (f d)) : Dies P (underlying t >>= f) := by
  cases hi : P.underlying t with
  | none =>
    refine dies_bind fun w => ?_
    unfold underlying program
    change ∃ h w', Sem.run P (Sem.bind (.program .pure) _) w = _ ∧ _
    simp only [Sem.bind, Sem.run, hi]
    exact dies_stuck _ w
  | some d =>
    intro w
    obtain ⟨x, w', h1, h2⟩ := h d hi w
    refine ⟨x, w', ?_, h2⟩
    rw [← h1]
    refine run_bind_ok ?_
    unfold underlying program
    change Sem.run P (Sem.bind (.program .pure) _) w = _
    simp [Sem.bind, Sem.run, hi, pure]
omit [Fns] in
theorem dies_chlN (d : Nat) (t : TypeId) (ht : cmpOk P t = true) (u : Value) : Dies P (Op.equalIn (d + 1) t (.pointer none) u) := by
  rw [Op.equalIn]
  refine dies_under fun d hd => ?_
  unfold cmpOk at ht
  rw [hd] at ht
  cases d with
  | int k => cases u <;> first | exact dies_stuck _ | exact dies_unsup _
  | string => cases u <;> first | exact dies_stuck _ | exact dies_unsup _
  | slice e => cases u <;> first | exact dies_stuck _ | exact dies_unsup _
  | func a b c => cases u <;> first | exact dies_stuck _ | exact dies_unsup _
  | bool => cases u <;> first | exact dies_stuck _ | exact dies_unsup _
  | _ => cases ht
theorem dies_chrN (d : Nat) (t : TypeId) (ht : cmpOk P t = true) {u v : Value} (hu : VR E u v) : Dies P (Op.equalIn (d + 1) t u (.pointer none)) := by
  rw [Op.equalIn]
  refine dies_under fun d hd => ?_
  unfold cmpOk at ht
  rw [hd] at ht
  cases d with
  | int k => cases hu <;> first | exact dies_stuck _ | exact dies_unsup _
  | string => cases hu <;> first | exact dies_stuck _ | exact dies_unsup _
  | slice e => cases hu <;> first | exact dies_stuck _ | exact dies_unsup _
  | func a b c => cases hu <;> first | exact dies_stuck _ | exact dies_unsup _
  | bool => cases hu <;> first | exact dies_stuck _ | exact dies_unsup _
  | _ => cases ht
omit [Fns] in
theorem dies_chl (t : TypeId) (ht : cmpOk P t = true) (u : Value) : Dies P (Op.equal t (.pointer none) u) := dies_chlN 9999 t ht u
theorem dies_chr (t : TypeId) (ht : cmpOk P t = true) {u v : Value} (hu : VR E u v) : Dies P (Op.equal t u (.pointer none)) := dies_chrN 9999 t ht hu
omit [Fns] in
theorem dies_mvN (t : TypeId) (ht : cmpOk P t = true) (u : Value) : Dies P (movedNumber t (.pointer none) u) := by
  unfold movedNumber
  refine dies_under fun d hd => ?_
  dsimp only
  split
  · unfold cmpOk at ht
    rw [hd] at ht
    cases ht
  · simp only [Bool.false_eq_true, if_false]
    unfold Builtin.unsafeAdd_
    dsimp only
    exact dies_then (tm_asInt _) fun n => dies_ite (dies_unsup _) (dies_ite (dies_bind (dies_unsup _)) (dies_unsup _))
omit [Fns] in
theorem dies_addN (t : TypeId) (ht : cmpOk P t = true) (u : Value) : Dies P (do if (← underlying t) matches .unsafePointer then movedPointer t (.pointer none) u else movedNumber t (.pointer none) u) := by
  refine dies_under fun d hd => ?_
  have main := dies_mvN t ht u
  unfold cmpOk at ht
  rw [hd] at ht
  cases d <;> first | exact main | cases ht
end
end Go.Proofs.Ythfjkhmedpilnaa.Cs

/-
  Operations of the model that are alike (seventh part): binary operations.
-/
namespace Go.Proofs.Ythfjkhmedpilnaa.Cs
variable [Fns]
section
variable {P : Program} {E : Env}
theorem sr_intOp (op : BinOp) (t : TypeId) (k k' : IntKind) (a b : Int) : SR P (fun E' x y => VR E' x y) E (binOp op t (.int k a) (.int k' b)) (binOp op t (.int k a) (.int k' b)) := by
  by_cases hk : k = k'
  · subst hk
    cases op <;> simp only [binOp, ne_eq, not_true_eq_false, if_false, Op.intArith, Op.intDiv, Op.intBits, Op.intCmp, Op.shift] <;>
      first
      | exact .ret (.int _ _)
      | exact .ret (.bool _)
      | (split
         · exact .die (dies_rt _)
         · exact .ret (.int _ _))
  · cases op <;> simp only [binOp, ne_eq, hk, not_false_eq_true, if_true, Op.shift] <;>
      first
      | exact .die (dies_stuck _)
      | (split
         · exact .die (dies_rt _)
         · exact .ret (.int _ _))
theorem sr_strOp (op : BinOp) (t : TypeId) (a b : ByteArray) : SR P (fun E' x y => VR E' x y) E (binOp op t (.string a) (.string b)) (binOp op t (.string a) (.string b)) := by
  cases op <;> simp only [binOp, Op.stringOp] <;>
    first
    | exact .ret (.bool _)
    | exact .die (dies_stuck _)
    | (split
       · exact .die (dies_unsup _)
       · exact .ret (.string _))
theorem sr_eqB (hG : P.globals.size ≤ Fns.G) (t : TypeId) (ht : cmpOk P t = true) {x y u v : Value} (hx : VR E x y) (hu : VR E u v) : SR P (fun E' a b => VR E' a b) E (do pure (.bool (← Op.equal t x u)) : Sem Value) (do pure (.bool (← Op.equal t y v)) : Sem Value) := by
  refine SR.bind (sr_equalIn hG 9999 t ht hx hu) ?_
  rintro E1 b _ _ rfl
  exact .ret (.bool _)
theorem sr_neB (hG : P.globals.size ≤ Fns.G) (t : TypeId) (ht : cmpOk P t = true) {x y u v : Value} (hx : VR E x y) (hu : VR E u v) : SR P (fun E' a b => VR E' a b) E (do pure (.bool (!(← Op.equal t x u))) : Sem Value) (do pure (.bool (!(← Op.equal t y v))) : Sem Value) := by
  refine SR.bind (sr_equalIn hG 9999 t ht hx hu) ?_
  rintro E1 b _ _ rfl
  exact .ret (.bool _)
theorem sr_addPtr (t : TypeId) (ht : cmpOk P t = true) {x y u v : Value} (hx : VR E x y) (hu : VR E u v) (hp : ∃ o, x = .pointer o) : SR P (fun E' a b => VR E' a b) E (do if (← underlying t) matches .unsafePointer then movedPointer t x u else movedNumber t x u) (do if (← underlying t) matches .unsafePointer then movedPointer t y v else movedNumber t y v) := by
  refine SR.bind (sr_underlying t) ?_
  rintro E1 d _ hl ⟨rfl, hd⟩
  have main := sr_movedNumber (E := E1) t ht (hx.mono hl) (hu.mono hl) hp
  unfold cmpOk at ht
  rw [hd] at ht
  cases d <;> first | exact main | cases ht
theorem sr_two (hG : P.globals.size ≤ Fns.G) {a b a2 b2 : Addr} (h : AR E a b) (h2 : AR E a2 b2) {f g : Addr → Addr → Sem Value} (hf : ∀ x y, Dies P (Op.twoPlaces x y) → Dies P (f x y)) : SR P (fun E' a b => VR E' a b) E (do f (← behindNumber a).1 (← behindNumber a2).1) (do g (← behindNumber b).1 (← behindNumber b2).1) := by
  refine SR.bind (sr_behind h) ?_
  rintro E2 ⟨x, lx⟩ ⟨y, ly⟩ hl2 ⟨hab, _⟩
  refine SR.bind (sr_behind (h2.mono hl2)) ?_
  rintro E3 ⟨x2, lx2⟩ ⟨y2, ly2⟩ hl3 ⟨hab2, _⟩
  exact .die (hf _ _ (dies_two hG (ar_low hab)))
theorem sr_mod (k : IntKind) (n : Int) {a b : Addr} (h : AR E a b) : SR P (fun E' x y => VR E' x y) E (do Op.addrMod k (← behindNumber a).1 n) (do Op.addrMod k (← behindNumber b).1 n) := by
  refine SR.bind (sr_behind h) ?_
  rintro E2 ⟨x, lx⟩ ⟨y, ly⟩ hl2 ⟨hab, _⟩
  exact sr_addrMod k n hab
set_option maxHeartbeats 2000000 in
theorem sr_binOp (hG : P.globals.size ≤ Fns.G) (op : BinOp) (t : TypeId) (ht : cmpOk P t = true) {x y u v : Value} (hx : VR E x y) (hu : VR E u v) : SR P (fun E' a b => VR E' a b) E (binOp op t x u) (binOp op t y v) := by
  have heq := sr_eqB hG t ht hx hu
  have hne := sr_neB hG t ht hx hu
  have hmv : (∃ o, x = .pointer o) → SR P (fun E' a b => VR E' a b) E (do if (← underlying t) matches .unsafePointer then movedPointer t x u else movedNumber t x u) (do if (← underlying t) matches .unsafePointer then movedPointer t y v else movedNumber t y v) := fun h => sr_addPtr t ht hx hu h
  have hmv2 : (∃ o, u = .pointer o) → SR P (fun E' a b => VR E' a b) E (movedNumber t u x) (movedNumber t v y) := fun h => sr_movedNumber t ht hu hx h
  have hx' := hx
  cases hx <;> cases hu <;> first
    | exact sr_intOp op t _ _ _ _
    | exact sr_strOp op t _ _
    | (cases op <;> first
        | exact .die (dies_stuck _)
        | exact .die (dies_unsup _)
        | exact .die (dies_bind (dies_chl t ht _))
        | exact .die (dies_bind (dies_chr t ht hx'))
        | exact .die (dies_addN t ht _)
        | exact .die (dies_mvN t ht _)
        | exact heq
        | exact hne
        | exact hmv ⟨_, rfl⟩
        | exact hmv2 ⟨_, rfl⟩
        | exact sr_movedNumber t ht (.ptr (by assumption)) (.int _ _) ⟨_, rfl⟩
        | exact sr_movedNumber t ht .ptrNil (.int _ _) ⟨_, rfl⟩
        | exact sr_mod _ _ (by assumption)
        | exact sr_two hG (by assumption) (by assumption) (fun x y h => dies_bind h))
end
end Go.Proofs.Ythfjkhmedpilnaa.Cs

/-
  One operation, alike: all that the goroutines of a search are made of.
-/
namespace Go.Proofs.Ythfjkhmedpilnaa.Cs
variable [Fns]
/-- What an operation comes to. -/
inductive NR (E : Env) : Next → Next → Prop
  | value {u v : Value} (h : VR E u v) : NR E (.value u) (.value v)
  | skip : NR E .skip .skip
  | enter (f : FuncId) (hf : Fns.ok f = true) {x y : Array Value} (h : LR E x y) : NR E (.enter f x) (.enter f y)
/-- Functions that may be called have a body. -/
def FnsHave (P : Program) : Prop := ∀ f, Fns.ok f = true → ∃ fn, P.funcs[f]? = some fn ∧ (fn.name == "runtime.NumGoroutine") = false ∧ fn.body.isNone = false
def operandOk : Operand → Bool
  | .tmp _ => true
  | .const v => plainV v
  | .global _ => false
  | .func f => Fns.ok f
def calleeOk (P : Program) (c : Call) : Bool := match c.callee with
  | .value f => operandOk f
  | .builtin .len => lenOk P c.argTypes
  | .builtin .append => appOk P c.argTypes
  | _ => false
def convOk (P : Program) (src dst : TypeId) : Bool := match P.underlying src, P.underlying dst with
  | some (.int _), some (.int _) => true
  | some .string, some (.slice e) => match P.underlying e with
    | some (.int .u8) => true
    | _ => false
  | some (.slice e), some .string => match P.underlying e with
    | some (.int .u8) => true
    | _ => false
  | _, _ => false
def notPtr (P : Program) (t : TypeId) : Bool := match P.underlying t with
  | some (.pointer _) => false
  | _ => true
def opOk (P : Program) : Op → Bool
  | .move x | .assign x | .unOp _ _ x | .nilCheck x | .load _ x | .box _ x | .extract x _ | .range _ x => operandOk x
  | .next x s => s && operandOk x
  | .pick c a b => operandOk c && operandOk a && operandOk b
  | .alloc t => zeroOk P t
  | .build t ps => zeroOk P t && ps.all fun p => operandOk p.2
  | .buildSlice t _ ps => elemOk P t && ps.all fun p => operandOk p.2
  | .store _ a x => operandOk a && operandOk x
  | .binOp _ t x y _ => cmpOk P t && operandOk x && operandOk y
  | .convert s d x => convOk P s d && operandOk x
  | .makeFunc (.func f) a b => Fns.ok f && a.all operandOk && b.all operandOk
  | .makeSlice t l c => elemOk P t && operandOk l && operandOk c
  | .slice t x lo hi mx => notPtr P t && operandOk x && lo.all operandOk && hi.all operandOk && mx.all operandOk
  | .fieldAddr s x f => fieldOk P s f && operandOk x
  | .indexAddr _ x i | .index _ x i => operandOk x && operandOk i
  | .call c => calleeOk P c && c.args.all operandOk
  | _ => false
/-- What operands tell. -/
def ER (E : Env) (r r' : Operand → Value) : Prop := ∀ x, operandOk x = true → VR E (r x) (r' x)
section
variable {P : Program} {E : Env}
omit [Fns] in
theorem eqg_l (op : BinOp) (t : TypeId) (a b : Operand) {w u : Value} (h : oneV w = true) : eqGuard op t a b w u = Pure.pure () := by
  unfold eqGuard
  cases op <;> first | rfl | (cases w <;> first | rfl | cases h)
omit [Fns] in
theorem eqg_r (op : BinOp) (t : TypeId) (a b : Operand) {w u : Value} (h : oneV w = true) : eqGuard op t a b u w = Pure.pure () := by
  unfold eqGuard
  cases op <;> first | rfl | (cases w <;> first | (cases u <;> rfl) | cases h)
theorem sr_eqGuard (op : BinOp) (t : TypeId) (ht : cmpOk P t = true) (a b : Operand) {x y u v : Value} (hx : VR E x y) (hu : VR E u v) : SR P (fun _ _ _ => True) E (eqGuard op t a b x u) (eqGuard op t a b y v) := by
  have guard : ∀ (d : Nat) (x y : Value) (E : Env), (∀ c, x ≠ .agg c) → SR P (fun _ a b => a = false ∧ b = false) E (Op.eqGuardIn (d + 1) t x y) (Op.eqGuardIn (d + 1) t x y) := fun d x y E hx => by
    rw [Op.eqGuardIn]
    refine SR.bind (sr_underlying t) ?_
    rintro E1 ds _ hl ⟨rfl, hd⟩
    unfold cmpOk at ht
    rw [hd] at ht
    cases ds <;> first | exact .ret ⟨rfl, rfl⟩ | cases ht
  have gt : ∀ n, P.eqGuardType (n + 1) t = false := fun n => by
    rw [Program.eqGuardType]
    unfold cmpOk at ht
    cases hd : P.underlying t with
    | none => rfl
    | some ds =>
      rw [hd] at ht
      cases ds <;> first | rfl | cases ht
  cases hx with
  | any w h =>
    rw [eqg_l op t a b (w := .pointer none) rfl, eqg_l op t a b h]
    exact .ret trivial
  | _ =>
    cases hu with
    | any w h =>
      rw [eqg_r op t a b (w := .pointer none) rfl, eqg_r op t a b h]
      exact .ret trivial
    | _ =>
      unfold eqGuard
      cases op
      all_goals (first
        | exact .ret trivial
        | (first
            | exact .ret trivial
            | (simp only [Bool.not_true, Bool.false_eq_true, if_false]
               refine SR.bind sr_program ?_
               rintro E1 p p' hl ⟨rfl, rfl⟩
               refine SR.bind sr_program ?_
               rintro E2 q q' hl2 ⟨h1, h2⟩
               rw [h1, h2]
               have hg := gt (2 * (p'.types.size + Made.depth) + 1)
               have hg' : p'.eqGuardType p'.depth t = false := hg
               simp only [hg', Bool.not_false, if_true]
               exact .ret trivial)
            | (simp only [Bool.not_true, Bool.false_eq_true, if_false]
               refine SR.ite (.ret trivial) (SR.bind (guard 9999 _ _ E (fun c e => by cases e)) ?_)
               rintro E1 _ _ _ ⟨rfl, rfl⟩
               exact .ret trivial)))
theorem sr_convert (src dst : TypeId) (h : convOk P src dst = true) {x y : Value} (hx : VR E x y) : SR P (fun E' a b => VR E' a b) E (convert src dst x) (convert src dst y) := by
  unfold convert
  refine SR.bind (sr_underlying src) ?_
  rintro E1 d _ hl ⟨rfl, hd⟩
  refine SR.bind (sr_underlying dst) ?_
  rintro E2 d' _ hl2 ⟨rfl, hd'⟩
  have hv := hx.mono (Env.le_trans hl hl2)
  unfold convOk at h
  rw [hd, hd'] at h
  cases d with
  | int k =>
    cases d' with
    | int k' => cases hv <;> first | exact .ret (.int _ _) | exact .die (dies_unsup _)
    | _ => cases h
  | string =>
    cases d' with
    | slice e =>
      dsimp only at h
      cases he : P.underlying e with
      | none => rw [he] at h; cases h
      | some ed =>
        rw [he] at h
        cases hv with
        | string s =>
          dsimp only
          refine SR.bind (sr_underlying e) ?_
          rintro E3 d3 _ hl3 ⟨rfl, hd3⟩
          rw [he] at hd3
          cases hd3
          cases ed with
          | int k => cases k <;> first | exact sr_stringToBytes e s | cases h
          | _ => cases h
        | _ => exact .die (dies_unsup _)
    | _ => cases h
  | slice e =>
    cases d' with
    | string =>
      dsimp only at h
      cases he : P.underlying e with
      | none => rw [he] at h; cases h
      | some ed =>
        rw [he] at h
        have main : ∀ {u v : Value}, VR E2 u v → SR P (fun E' a b => VR E' a b) E2 (do
            match ← underlying e with
            | .int .u8 => Conv.bytesToString u
            | .int .i32 => Conv.runesToString u
            | _ => stuck "Convert: a slice of what to string?") (do
            match ← underlying e with
            | .int .u8 => Conv.bytesToString v
            | .int .i32 => Conv.runesToString v
            | _ => stuck "Convert: a slice of what to string?") := fun {u v} huv => by
          refine SR.bind (sr_underlying e) ?_
          rintro E3 d3 _ hl3 ⟨rfl, hd3⟩
          rw [he] at hd3
          cases hd3
          cases ed with
          | int k => cases k <;> first | exact sr_bytesToString (huv.mono hl3) | cases h
          | _ => cases h
        have hv2 := hv
        cases hv with
        | any v hr =>
          refine .die (dies_under fun d3 hd3 => ?_)
          rw [he] at hd3
          cases hd3
          cases ed with
          | int k => cases k <;> first | exact dies_stuck _ | cases h
          | _ => cases h
        | _ => first | exact .ret (.string _) | exact main hv2
    | _ => cases h
  | _ => cases h
theorem sr_callFunc (hF : FnsHave P) (f : FuncId) (hf : Fns.ok f = true) {x y : Array Value} (h : LR E x y) : SR P (fun E' a b => NR E' a b) E (callFunc f x) (callFunc f y) := by
  unfold callFunc
  refine SR.bind sr_program ?_
  rintro E1 p p' hl ⟨h1, h2⟩
  rw [h1, h2]
  obtain ⟨fn, e1, e2, e3⟩ := hF f hf
  simp only [e1, e2, e3, Bool.false_eq_true, if_false]
  exact .ret (.enter f hf (h.mono hl))
end
end Go.Proofs.Ythfjkhmedpilnaa.Cs
