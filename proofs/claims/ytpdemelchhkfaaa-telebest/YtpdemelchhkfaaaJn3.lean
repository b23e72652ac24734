/-
  Several texts, joined: CsF, CsG.
-/
import Derived.Test.YtpdemelchhkfaaaJn2
/-
  Operations of the model that are alike (second part): what is built and made; strings gone through; conversions; len and append.
-/
namespace Go.Proofs.Ytpdemelchhkfaaa.Cs
variable [Fns]
theorem fold_lr {E : Env} (off : Nat) : ∀ (l l' : List Value) (j : Nat) {x y : Array Value}, l.length = l'.length → (∀ (i : Nat) u v, l[i]? = some u → l'[i]? = some v → VR E u v) → LR E x y →
    LR E ((l.zipIdx j).foldl (fun cs (p : Value × Nat) => cs.setIfInBounds (off + p.2) p.1) x) ((l'.zipIdx j).foldl (fun cs (p : Value × Nat) => cs.setIfInBounds (off + p.2) p.1) y)
  | [], [], _, _, _, _, _, h => h
  | [], _ :: _, _, _, _, h, _, _ => by cases h
  | _ :: _, [], _, _, _, h, _, _ => by cases h
  | u :: l, v :: l', j, x, y, hl, hv, h => by
    simp only [List.zipIdx_cons, List.foldl_cons]
    exact fold_lr off l l' (j + 1) (by simpa using hl) (fun i a b ha hb => hv (i + 1) a b (by simpa using ha) (by simpa using hb)) (h.set _ (hv 0 u v rfl rfl))
theorem foldA_lr {E : Env} (off : Nat) {a b x y : Array Value} (hab : LR E a b) (h : LR E x y) : LR E (a.zipIdx.foldl (fun cs (p : Value × Nat) => cs.setIfInBounds (off + p.2) p.1) x) (b.zipIdx.foldl (fun cs (p : Value × Nat) => cs.setIfInBounds (off + p.2) p.1) y) := by
  rw [← Array.foldl_toList, ← Array.foldl_toList, Array.toList_zipIdx, Array.toList_zipIdx]
  exact fold_lr off a.toList b.toList 0 (by simp [hab.size]) (fun i u v hu hv => hab.at_ i u v (by simpa using hu) (by simpa using hv)) h
/-- Parts that are alike. -/
inductive PR (E : Env) : List (Nat × Value) → List (Nat × Value) → Prop
  | nil : PR E [] []
  | cons (i : Nat) {u v : Value} {l l' : List (Nat × Value)} (h : VR E u v) (t : PR E l l') : PR E ((i, u) :: l) ((i, v) :: l')
theorem PR.mono {E E' : Env} (hl : E.le E') {l l' : List (Nat × Value)} (h : PR E l l') : PR E' l l' := by
  induction h with
  | nil => exact .nil
  | cons i h _ ih => exact .cons i (h.mono hl) ih
theorem fill_lr {E : Env} (place : Nat → Option (Nat × Nat)) {l l' : List (Nat × Value)} (hp : PR E l l') : ∀ {x y : Array Value}, LR E x y → (Instr.fill place x l = none ∧ Instr.fill place y l' = none) ∨ ∃ a b, Instr.fill place x l = some a ∧ Instr.fill place y l' = some b ∧ LR E a b := by
  induction hp with
  | nil => intro x y h; exact .inr ⟨x, y, rfl, rfl, h⟩
  | @cons i u v l l' hv t ih =>
    intro x y h
    unfold Instr.fill
    cases hpl : place i with
    | none => exact .inl ⟨rfl, rfl⟩
    | some q =>
      obtain ⟨off, size⟩ := q
      dsimp only
      have hc := hv.cells
      rw [← hc.size, ← h.size]
      by_cases c : (u.cells.size ≠ size || decide (off + u.cells.size > x.size)) = true
      · rw [if_pos c, if_pos c]; exact .inl ⟨rfl, rfl⟩
      · rw [if_neg c, if_neg c]
        exact ih (foldA_lr off hc h)
section
variable {P : Program} {E : Env}
theorem sr_mapM {α β : Type} {f : α → Sem β} (h : ∀ a (E : Env), SR P (fun _ x y => x = y) E (f a) (f a)) : ∀ (l : List α) (E : Env), SR P (fun _ x y => x = y) E (l.mapM f) (l.mapM f)
  | [], _ => .ret rfl
  | a :: l, E => by
    rw [List.mapM_cons]
    refine SR.bind (h a E) ?_
    rintro E1 x _ _ rfl
    refine SR.bind (sr_mapM h l E1) ?_
    rintro E2 y _ _ rfl
    exact .ret rfl
theorem sr_mapMA {α β : Type} {f : α → Sem β} (h : ∀ a (E : Env), SR P (fun _ x y => x = y) E (f a) (f a)) (l : Array α) : SR P (fun _ x y => x = y) E (l.mapM f) (l.mapM f) := by
  rw [Array.mapM_eq_mapM_toList]
  refine SR.bind (sr_mapM h l.toList E) ?_
  rintro E1 x _ _ rfl
  exact .ret rfl
theorem sr_build (t : TypeId) (hZ : zeroOk P t = true) {p q : Array (Nat × Value)} (h : PR E p.toList q.toList) : SR P (fun E' a b => VR E' a b) E (Instr.build t p) (Instr.build t q) := by
  unfold Instr.build
  refine SR.bind (sr_zeroValue t hZ) ?_
  rintro E1 u v hl ⟨hz, _⟩
  refine SR.bind (sr_underlying t) ?_
  rintro E2 d _ hl2 ⟨rfl, hd⟩
  have hzc := (hz.mono hl2).cells
  have hpr := h.mono (Env.le_trans hl hl2)
  cases d with
  | struct fs =>
    dsimp only
    refine SR.bind (sr_mapMA (fun f E => ?_) fs) ?_
    · refine SR.bind (sr_sizeOf f.type) ?_
      rintro E3 n _ _ ⟨rfl, _⟩
      exact .ret rfl
    · rintro E3 places _ hl3 rfl
      rcases fill_lr (fun i => places[i]?) (hpr.mono hl3) (hzc.mono hl3) with ⟨e1, e2⟩ | ⟨a, b, e1, e2, e3⟩
      · rw [e1, e2]; exact .die (dies_stuck _)
      · rw [e1, e2]; exact .ret (.mkAgg e3)
  | array n elem =>
    dsimp only
    refine SR.bind (sr_sizeOf elem) ?_
    rintro E3 n _ hl3 ⟨rfl, _⟩
    rcases fill_lr (fun i => some (i * n, n)) (hpr.mono hl3) (hzc.mono hl3) with ⟨e1, e2⟩ | ⟨a, b, e1, e2, e3⟩
    · rw [e1, e2]; exact .die (dies_stuck _)
    · rw [e1, e2]; exact .ret (.mkAgg e3)
  | _ => exact .die (dies_stuck _)
theorem vr_bang {x : Array Value} (h : LR E x x) (i : Nat) : VR E x[i]! x[i]! := by
  by_cases hi : i < x.size
  · rw [getElem!_pos x i hi]
    exact h.at_ i _ _ (Array.getElem?_eq_getElem hi) (Array.getElem?_eq_getElem hi)
  · rw [getElem!_neg x i hi]
    exact .bool _
theorem lr_same {u v : Value} (h : VR E u v ∧ u = v) : LR E u.cells u.cells := by
  have := h.1.cells
  rw [← h.2] at this
  exact this
theorem sr_zeros (c : Prop) [Decidable c] (elem : TypeId) (hZ : zeroOk P elem = true) : SR P (fun E' a b => a = b ∧ LR E' a a) E (if c then pure #[] else do pure (← zeroValue elem).cells) (if c then pure #[] else do pure (← zeroValue elem).cells) := by
  split
  · exact .ret ⟨rfl, LR.nil _⟩
  · refine SR.bind (sr_zeroValue elem hZ) ?_
    intro E1 u v _ h
    exact .ret ⟨by rw [h.2], lr_same h⟩
theorem sr_buildSlice (t : TypeId) (hZ : elemOk P t = true) (len : Nat) {p q : Array (Nat × Value)} (h : PR E p.toList q.toList) : SR P (fun E' a b => VR E' a b) E (Instr.buildSlice t len p) (Instr.buildSlice t len q) := by
  unfold Instr.buildSlice
  refine SR.bind (sr_underlying t) ?_
  rintro E1 d _ hl ⟨rfl, hd⟩
  cases d with
  | slice elem =>
    dsimp only
    refine SR.bind (sr_sizeOf elem) ?_
    rintro E2 n _ hl2 ⟨rfl, _⟩
    split
    · exact .die (dies_bind (dies_unsup _))
    · have rest : ∀ (E3 : Env) (z z' : Array Value), E2.le E3 → z = z' ∧ LR E3 z z → SR P (fun E' a b => VR E' a b) E3 (do
          let some cells := Instr.fill (fun i => some (i * n, n)) ((Array.range (len * n)).map (z[· % z.size]!)) p.toList
            | stuck "buildSlice: a part of the wrong size"
          pure (.slice (some (← newRow elem cells)) len len)) (do
          let some cells := Instr.fill (fun i => some (i * n, n)) ((Array.range (len * n)).map (z'[· % z'.size]!)) q.toList
            | stuck "buildSlice: a part of the wrong size"
          pure (.slice (some (← newRow elem cells)) len len)) := by
        rintro E3 z _ hl3 ⟨rfl, hz⟩
        rcases fill_lr (fun i => some (i * n, n)) (h.mono (Env.le_trans hl (Env.le_trans hl2 hl3))) (LR.map (Array.range (len * n)) (fun i => vr_bang hz (i % z.size))) with ⟨e1, e2⟩ | ⟨a, b, e1, e2, e3⟩
        · rw [e1, e2]; exact .die (dies_stuck _)
        · rw [e1, e2]
          refine SR.bind (sr_newRow elem e3) ?_
          intro E4 x y _ hxy
          exact .ret (.slice _ _ hxy)
      split
      · exact rest E2 #[] #[] (Env.le_refl _) ⟨rfl, LR.nil _⟩
      · refine SR.bind (sr_zeroValue elem (elemOk_slice hZ hd)) ?_
        intro E3 u v hl3 hz
        exact rest E3 _ _ hl3 ⟨by rw [hz.2], lr_same hz⟩
  | _ => exact .die (dies_stuck _)
theorem sr_makeFunc (f : FuncId) (hf : Fns.ok f = true) {x y x' y' : Array Value} (h : LR E x x') (h' : LR E y y') : SR P (fun E' a b => VR E' a b) E (Instr.makeFunc (.func f) x y) (Instr.makeFunc (.func f) x' y') :=
  .ret (.func f hf h.size h.at_ h'.size h'.at_)
theorem sr_askRoom (n : Nat) : SR P (fun _ _ _ => True) E (askRoom n) (askRoom n) := by
  unfold askRoom
  split
  · exact .noRoom (.pure trivial)
  · exact .ret trivial
theorem sr_range (t : TypeId) {u v : Value} (h : VR E u v) : SR P (fun E' a b => VR E' a b) E (Instr.range t u) (Instr.range t v) := by
  unfold Instr.range
  refine SR.bind (sr_underlying t) ?_
  rintro E1 d _ hl ⟨rfl, hd⟩
  cases d with
  | string =>
    cases h with
    | string s =>
      refine SR.bind (R1 := fun E' a b => OR E' a b) (.ret (.iter s 0)) ?_
      intro E2 a b hl2 ho
      refine SR.bind (R1 := fun E' bl b => E' bl = some (b, 0, true) ∧ Fns.G ≤ bl) (.new ho fun E' bl b _ he hg => .pure ⟨he, hg⟩) ?_
      rintro E3 a b _ ⟨he, hg⟩
      exact .ret (.ptr ⟨0, true, he, rfl, rfl, hg, fun _ => rfl⟩)
    | _ => exact .die (dies_bind (dies_stuck _))
  | map a b =>
    cases h with
    | _ => exact .die (dies_bind (dies_stuck _))
  | _ => exact .die (dies_bind (dies_stuck _))
theorem sr_next (ty : TypeId) {u v : Value} (h : VR E u v) : SR P (fun E' a b => VR E' a b) E (Instr.next u true ty) (Instr.next v true ty) := by
  unfold Instr.next
  cases h with
  | @ptr a b h =>
    obtain ⟨ab, ao, asp⟩ := a
    obtain ⟨bb, bo, bs⟩ := b
    obtain ⟨s, o, e1, e2, e3, e4, e5⟩ := h
    dsimp only at e1 e2 e3 e4
    cases ao with
    | succ n => exact .die (dies_stuck _)
    | zero =>
      dsimp only
      cases o
      · exact .getShared e1
      · obtain rfl := e5 rfl
        obtain rfl : bo = 0 := e2
        refine SR.bind (R1 := fun E' x y => OR E' x y ∧ E' ab = some (bb, 0, true)) (.getObj e1 fun x y h => .pure ⟨h, e1⟩) ?_
        rintro E1 x y _ ⟨hxy, he⟩
        cases hxy with
        | iter str pos =>
          dsimp only
          split
          · refine SR.bind (R1 := fun _ _ _ => True) (.setObj he (.iter _ _) (.pure trivial)) ?_
            intro E2 _ _ _ _
            exact .ret (.mkTuple (((LR.one (.bool true)).push (.int _ _)).push (.int _ _)))
          · exact .ret (.mkTuple (LR.one (.bool false)))
        | _ => exact .die (dies_stuck _)
  | _ => exact .die (dies_stuck _)
end
end Go.Proofs.Ytpdemelchhkfaaa.Cs

/-
  Operations of the model that are alike (third part): make, conversions, len and append.
-/
namespace Go.Proofs.Ytpdemelchhkfaaa.Cs
variable [Fns]
section
variable {P : Program} {E : Env}
theorem sr_makeSlice (t : TypeId) (hZ : elemOk P t = true) {u v x y : Value} (h : VR E u v) (hx : VR E x y) : SR P (fun E' a b => VR E' a b) E (Instr.makeSlice t u x) (Instr.makeSlice t v y) := by
  unfold Instr.makeSlice
  refine SR.bind (sr_underlying t) ?_
  rintro E1 d _ hl ⟨rfl, hd⟩
  cases d with
  | slice elem =>
    dsimp only
    refine SR.bind (sr_asInt (h.mono hl)) ?_
    rintro E2 len _ hl2 rfl
    refine SR.bind (sr_asInt (hx.mono (Env.le_trans hl hl2))) ?_
    rintro E3 cap _ hl3 rfl
    refine SR.bind (sr_typeInfo elem) ?_
    rintro E4 ti _ hl4 ⟨rfl, _⟩
    split
    · split
      · exact .die (dies_bind (dies_rt _))
      · split
        · exact .die (dies_bind (dies_rt _))
        · exact .die (dies_then (tm_choose _) fun _ => dies_bind (dies_rt _))
    · refine SR.bind (sr_askRoom _) ?_
      intro E5 _ _ hl5 _
      refine SR.bind (sr_sizeOf elem) ?_
      rintro E6 n _ hl6 ⟨rfl, _⟩
      have rest : ∀ (E7 : Env) (z z' : Array Value) (m l c : Nat), z = z' ∧ LR E7 z z → SR P (fun E' a b => VR E' a b) E7 (do
          let a ← newRow elem ((Array.range m).map (z[· % z.size]!))
          pure (.slice (some a) l c)) (do
          let a ← newRow elem ((Array.range m).map (z'[· % z'.size]!))
          pure (.slice (some a) l c)) := by
        rintro E7 z _ m l c ⟨rfl, hz⟩
        refine SR.bind (sr_newRow elem (LR.map (Array.range m) (fun i => vr_bang hz (i % z.size)))) ?_
        intro E8 a b _ hab
        exact .ret (.slice _ _ hab)
      split
      · exact rest E6 #[] #[] _ _ _ ⟨rfl, LR.nil _⟩
      · refine SR.bind (sr_zeroValue elem (elemOk_slice hZ hd)) ?_
        intro E7 u v hl7 hz
        exact rest E7 _ _ _ _ _ ⟨by rw [hz.2], lr_same hz⟩
  | _ => exact .die (dies_stuck _)
theorem sr_unary (op : UnOp) {u v : Value} (h : VR E u v) : SR P (fun E' a b => VR E' a b) E (Op.unary op u) (Op.unary op v) := by
  unfold Op.unary
  cases op <;> cases h <;> first
    | exact .ret (.bool _)
    | exact .ret (.int _ _)
    | exact .die (dies_unsup _)
    | exact .die (dies_stuck _)
def lenOk (P : Program) (tys : Array TypeId) : Bool := match tys[0]? with
  | some t => match P.underlying t with
    | some (.map _ _) | some (.chan _ _) => false
    | _ => true
  | none => true
theorem sr_len (tys : Array TypeId) (ty : TypeId) {x y : Array Value} (h : LR E x y) (hok : lenOk P tys = true) : SR P (fun E' a b => VR E' a b) E (Builtin.len_ tys ty x) (Builtin.len_ tys ty y) := by
  unfold Builtin.len_
  cases ht : tys[0]? with
  | none => exact .die (dies_stuck _)
  | some t =>
    cases hx : x[0]? with
    | none => exact .die (dies_stuck _)
    | some u =>
      obtain ⟨v, hv, huv⟩ := h.get hx
      rw [hv]
      dsimp only
      refine SR.bind (sr_underlying t) ?_
      rintro E1 d _ hl ⟨rfl, hd⟩
      cases d with
      | string => cases huv <;> first | exact .ret (.int _ _) | exact .die (dies_stuck _)
      | array n e => exact .ret (.int _ _)
      | pointer arr =>
        dsimp only
        refine SR.bind (sr_underlying arr) ?_
        rintro E2 d' _ hl2 ⟨rfl, _⟩
        cases d' <;> first | exact .ret (.int _ _) | exact .die (dies_stuck _)
      | slice e => cases huv <;> first | exact .ret (.int _ _) | exact .die (dies_stuck _)
      | map a b => unfold lenOk at hok; rw [ht] at hok; dsimp only at hok; rw [hd] at hok; cases hok
      | chan a b => unfold lenOk at hok; rw [ht] at hok; dsimp only at hok; rw [hd] at hok; cases hok
      | _ => exact .die (dies_stuck _)
/-- An empty slice that has no room: its address is looked at by nobody. -/
def NoRow (u : Value) (n : Nat) : Prop := ∀ a, u = .slice (some a) 0 0 → n = 0
theorem sr_lenOf {u v : Value} (h : VR E u v) : SR P (fun _ a b => a = b ∧ NoRow u a) E (Builtin.lenOf u) (Builtin.lenOf v) := by
  cases h with
  | slice l c h => exact .ret ⟨rfl, fun a e => by injection e⟩
  | sliceNo a b => exact .ret ⟨rfl, fun _ _ => rfl⟩
  | sliceNil l c => exact .ret ⟨rfl, fun a e => by cases e⟩
  | _ => first | exact .ret ⟨rfl, fun a e => by cases e⟩ | exact .die (dies_stuck _)
theorem sr_firstCells (size n : Nat) {u v : Value} (h : VR E u v) (hn : NoRow u n) : SR P (fun E' a b => LR E' a b) E (Builtin.firstCells size n u) (Builtin.firstCells size n v) := by
  cases h with
  | sliceNil l c => exact .ret (LR.nil _)
  | slice l c h => exact sr_loadCells _ h
  | sliceNo a b =>
    obtain rfl := hn a rfl
    unfold Builtin.firstCells
    dsimp only
    rw [Nat.zero_mul]
    exact .ret (LR.nil _)
  | string s => exact .ret (LR.map _ fun b => .int _ _)
  | _ => exact .die (dies_stuck _)
theorem zeroCells_lr {z : Array Value} (h : LR E z z) (n : Nat) : LR E (Builtin.zeroCells z n) (Builtin.zeroCells z n) := LR.map _ fun i => vr_bang h (i % z.size)
theorem sr_forIn {σ : Type} {f : Value → σ → Sem (ForInStep σ)} (hf : ∀ (E : Env) u v b, VR E u v → SR P (fun _ x y => x = y) E (f u b) (f v b)) : ∀ (l l' : List Value) (E : Env) (b : σ), l.length = l'.length → (∀ (i : Nat) u v, l[i]? = some u → l'[i]? = some v → VR E u v) → SR P (fun _ x y => x = y) E (forIn l b f) (forIn l' b f)
  | [], [], _, _, _, _ => .ret rfl
  | [], _ :: _, _, _, h, _ => by cases h
  | _ :: _, [], _, _, h, _ => by cases h
  | u :: l, v :: l', E, b, h, hv => by
    rw [List.forIn_cons, List.forIn_cons]
    refine SR.bind (hf E u v b (hv 0 u v rfl rfl)) ?_
    rintro E1 st _ hl rfl
    cases st with
    | done b => exact .ret rfl
    | yield b => exact sr_forIn hf l l' E1 b (by simpa using h) (fun i x y hx hy => (hv (i + 1) x y (by simpa using hx) (by simpa using hy)).mono hl)
theorem sr_bytesToString {u v : Value} (h : VR E u v) : SR P (fun E' a b => VR E' a b) E (Conv.bytesToString u) (Conv.bytesToString v) := by
  unfold Conv.bytesToString
  cases h with
  | sliceNil l c => exact .ret (.string _)
  | sliceNo a b => exact .ret (.string _)
  | slice l c ha =>
    dsimp only
    refine SR.bind (sr_loadCells l ha) ?_
    intro E1 x y hl hxy
    rw [← Array.forIn_toList, ← Array.forIn_toList]
    refine SR.bind (sr_forIn (fun E2 u v b huv => ?_) x.toList y.toList E1 _ (by simp [hxy.size]) (fun i u v hu hv => hxy.at_ i u v (by simpa using hu) (by simpa using hv))) ?_
    · cases huv with
      | int k n => cases k <;> first | exact .ret rfl | exact .die (dies_bind (dies_stuck _)) | exact .die (dies_stuck _)
      | _ => first | exact .die (dies_bind (dies_stuck _)) | exact .die (dies_stuck _)
    · rintro E2 s _ _ rfl
      exact .ret (.string _)
  | _ => exact .die (dies_stuck _)
theorem sr_stringToBytes (elem : TypeId) (s : ByteArray) : SR P (fun E' a b => VR E' a b) E (Conv.stringToBytes elem s) (Conv.stringToBytes elem s) := by
  unfold Conv.stringToBytes
  refine SR.bind (R1 := fun _ a b => a = b) (.choose _ fun n => .pure rfl) ?_
  rintro E1 c _ hl rfl
  dsimp only
  have hrow : LR E1 ((s.data.map fun b => Value.int .u8 b.toNat) ++ Array.replicate (c - s.size) (.int .u8 0)) ((s.data.map fun b => Value.int .u8 b.toNat) ++ Array.replicate (c - s.size) (.int .u8 0)) :=
    (LR.map _ fun b => .int _ _).app ⟨rfl, fun i u v hu hv => by
      rw [hu] at hv
      cases hv
      rw [Array.getElem?_replicate] at hu
      split at hu
      · cases hu; exact .int _ _
      · cases hu⟩
  refine SR.bind (R1 := fun E' (a b : Addr) => a.off = b.off ∧ a.spot = b.spot ∧ E' a.block = some (b.block, 0, true) ∧ Fns.G ≤ a.block) ?_ ?_
  · unfold newRow newObj
    refine SR.bind (R1 := fun E' bl b => E' bl = some (b, 0, true) ∧ Fns.G ≤ bl) (.new (.cells _ _ hrow) fun E' bl b _ he hg => .pure ⟨he, hg⟩) ?_
    rintro E' a b _ ⟨he, hg⟩
    exact .ret ⟨rfl, rfl, he, hg⟩
  · rintro E2 a b hl2 ⟨h1, h2, h3, h4⟩
    refine SR.bind (R1 := fun _ _ _ => True) ?_ ?_
    · unfold markStringish
      refine SR.bind (R1 := fun E' x y => x = y ∧ E' a.block = some (b.block, 0, true)) (.shape h3 fun x y hxy => .pure ⟨?_, h3⟩) ?_
      · rcases hxy with ⟨_, e⟩ | ⟨e, _⟩
        · exact e
        · cases e
      · rintro E3 x _ hl3 ⟨rfl, h5⟩
        cases x with
        | none => exact .ret trivial
        | some q => exact .freeze h5 rfl (.pure trivial)
    · intro E3 _ _ hl3 _
      exact .ret (.slice _ _ ⟨0, true, hl3 _ _ h3, by rw [h1]; rfl, h2.symm, h4, fun _ => rfl⟩)
end
end Go.Proofs.Ytpdemelchhkfaaa.Cs
