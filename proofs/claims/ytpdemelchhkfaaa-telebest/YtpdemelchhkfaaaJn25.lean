/-
  Several texts, joined: OLate, TpT, TpW, TeD.
-/
import Derived.Test.YtpdemelchhkfaaaJn22
import Derived.OrdersHeld
import Derived.Deep.Upon
import Derived.Deep.RegionHeld
import Derived.Deep.WholeRow
import Derived.Maps.AppendAt
import Derived.Test.YtpdemelchhkfaaaJn24
/-
  A region whose orders are held, and whose last stores write what its loads read: S is asked behind all operations but the late ones, which wait for all that is taken.
-/
namespace Go.Proofs.Ytpdemelchhkfaaa
open Go.RowKit PK

section
variable {P : Program} {md : Region.Mode} {ops : Array Oper} {Q : Exit → Act → World → Prop} {S T : World → Prop} {late : Nat → Bool}
/-- No late one has come up. -/
def cleanL (ops : Array Oper) (late : Nat → Bool) (listed : Array Bool) : Bool := (List.range ops.size).all fun j => !late j || !(listed.getD j true)
/-- Whatever order is picked from here on; S holds behind every operation till the late ones come up, T behind all. -/
def wpAnyL (P : Program) (md : Region.Mode) (ops : Array Oper) (Q : Exit → Act → World → Prop) (S T : World → Prop) (late : Nat → Bool) : Nat → Array Bool → Act → World → Prop
  | 0, listed, a, w => Region.ready md ops listed = [] ∧ Q .normal a w
  | fuel + 1, listed, a, w =>
    (Region.ready md ops listed = [] → Q .normal a w) ∧
    ∀ i ∈ Region.ready md ops listed, wpOp P ops Q i (fun a' w' => (cleanL ops late (listed.setIfInBounds i true) = true → S w') ∧ T w' ∧ wpAnyL P md ops Q S T late fuel (listed.setIfInBounds i true) a' w') a w
theorem wpAny_of_late : ∀ (fuel : Nat) (listed : Array Bool) (a : Act) (w : World), wpAnyL P md ops Q S T late fuel listed a w → wpAny P md ops Q fuel listed a w
  | 0, _, _, _, h => h
  | fuel + 1, _, _, _, h => ⟨h.1, fun i hi => wpOp_mono (fun a' w' h' => wpAny_of_late fuel _ a' w' h'.2.2) (h.2 i hi)⟩
/-- All late operations wait for i. -/
def lateWaits (md : Region.Mode) (ops : Array Oper) (late : Nat → Bool) (i : Nat) : Bool :=
  (List.range ops.size).all fun j => !late j || (match ops[j]? with | some o => o.after.any fun e => Region.binds md e && e.on == i | none => true)
theorem lateWaits_spec {i : Nat} (h : lateWaits md ops late i = true) {j : Nat} {oj : Oper} (hj : ops[j]? = some oj) (hl : late j = true) : ∃ e ∈ oj.after, Region.binds md e = true ∧ e.on = i := by
  unfold lateWaits at h
  rw [List.all_eq_true] at h
  have hlt : j < ops.size := (Array.getElem?_eq_some_iff.1 hj).1
  have h1 := h j (by simpa using hlt)
  rw [hl, hj] at h1
  simp only [Bool.not_true, Bool.false_or] at h1
  rw [Array.any_eq_true'] at h1
  obtain ⟨e, he, h2⟩ := h1
  simp at h2
  exact ⟨e, he, h2.1, h2.2⟩
theorem clean_of {listed : Array Bool} {i : Nat} (h : cleanL ops late (listed.setIfInBounds i true) = true) : cleanL ops late listed = true := by
  unfold cleanL at *
  rw [List.all_eq_true] at *
  intro j hj
  have h1 := h j hj
  by_cases e : i = j
  · subst e
    simp only [Array.getD_eq_getD_getElem?, Array.getElem?_setIfInBounds_self] at h1
    cases hl : late i with
    | false => rfl
    | true =>
      rw [hl] at h1
      split at h1 <;> simp at h1
  · rw [getD_set_ne true e] at h1
    exact h1
theorem clean_set {listed : Array Bool} {i : Nat} (hl : late i = false) (h : cleanL ops late listed = true) : cleanL ops late (listed.setIfInBounds i true) = true := by
  unfold cleanL at *
  rw [List.all_eq_true] at *
  intro j hj
  by_cases e : i = j
  · subst e; rw [hl]; rfl
  · rw [getD_set_ne true e]
    exact h j hj
/-- An operation that yields its value wherever U holds is taken first: U is S, and all late ones wait for it, or U is T. -/
theorem wpAnyL_first {U : World → Prop} {i : Nat} {oi : Oper} {v : Value} (hi : ops[i]? = some oi) (hsel : ∀ (j : Nat) (o : Oper) cs b, ops[j]? = some o → o.op ≠ .select cs b)
    (hQ : ∀ c a w, Q (.panic c) (a.put oi.dst v) w → Q (.panic c) a w) (hli : late i = false) (hU : (U = S ∧ lateWaits md ops late i = true) ∨ U = T) :
    ∀ (fuel : Nat) (listed : Array Bool) (a : Act) (w : World),
      (∀ j oj, ops[j]? = some oj → j ≠ i → listed.getD j true = false → (∀ e ∈ oj.after, Region.binds md e = true → e.on ≠ i) → oi.apart ops oj = true) →
      i ∈ Region.ready md ops listed → YieldsIf P ops U oi v a → (cleanL ops late listed = true → S w) → T w → U w → (cleanL ops late listed = true ∨ U = T) →
      wpAnyL P md ops Q S T late fuel (listed.setIfInBounds i true) (a.put oi.dst v) w → wpAnyL P md ops Q S T late (fuel + 1) listed a w := by
  intro fuel
  induction fuel with
  | zero =>
    intro listed a w _ hr hy hS hT hUw _ H
    refine ⟨fun h => (by rw [h] at hr; cases hr), fun j hj => ?_⟩
    by_cases hji : j = i
    · subst hji; exact hy.wpOp hi hUw ⟨fun h => hS (clean_of h), hT, H⟩
    · have := ready_mono hj hji
      rw [H.1] at this
      cases this
  | succ fuel ih =>
    intro listed a w hfree hr hy hS hT hUw hcl H
    refine ⟨fun h => (by rw [h] at hr; cases hr), fun j hj => ?_⟩
    by_cases hji : j = i
    · subst hji; exact hy.wpOp hi hUw ⟨fun h => hS (clean_of h), hT, H⟩
    · have h1 := H.2 j (ready_mono hj hji)
      obtain ⟨hjun, oj, hoj, hall⟩ := mem_ready.1 hj
      have hnot : ∀ e ∈ oj.after, Region.binds md e = true → e.on ≠ i := fun e he hb heq => by
        have h1 := hall e he hb
        have h0 := (mem_ready.1 hr).1
        rw [heq] at h1
        rcases Nat.lt_or_ge i listed.size with h' | h'
        · simp [h'] at h0 h1; rw [h0] at h1; cases h1
        · simp [Array.getElem?_eq_none h'] at h1
      have h2 := wpOp_putIf hoj (hfree j oj hoj hji hjun hnot) (fun cs b => hsel i oi cs b hi) (fun cs b => hsel j oj cs b hoj) hQ hy h1
      have hfree' : ∀ k ok, ops[k]? = some ok → k ≠ i → (listed.setIfInBounds j true).getD k true = false →
          (∀ e ∈ ok.after, Region.binds md e = true → e.on ≠ i) → oi.apart ops ok = true := fun k ok hk hki hun hno => by
        refine hfree k ok hk hki ?_ hno
        by_cases hjk : j = k
        · subst hjk; exact hjun
        · rw [getD_set_ne true hjk] at hun; exact hun
      refine wpOp_mono (fun a' w' h3 => ?_) h2
      obtain ⟨h4, h5, h6, h7⟩ := h3
      have h5' : cleanL ops late (listed.setIfInBounds j true) = true → S w' := fun h => h5 (by rw [Array.setIfInBounds_comm _ _ (Ne.symm hji)]; exact clean_set hli h)
      have hcl2 : cleanL ops late (listed.setIfInBounds j true) = true ∨ U = T := by
        rcases hU with ⟨hUS, hw⟩ | hUT
        · rcases hcl with hc | hUT
          · refine .inl (clean_set ?_ hc)
            cases hl : late j with
            | false => rfl
            | true =>
              obtain ⟨e, he, h8, h9⟩ := lateWaits_spec hw hoj hl
              exact absurd h9 (hnot e he h8)
          · exact .inr hUT
        · exact .inr hUT
      have hU2 : U w' := by
        rcases hU with ⟨hUS, hw⟩ | hUT
        · rcases hcl2 with hc | hUT
          · rw [hUS]; exact h5' hc
          · rw [hUT]; exact h6
        · rw [hUT]; exact h6
      refine ⟨h5', h6, ih (listed.setIfInBounds j true) a' w' hfree' (ready_mono hr (Ne.symm hji)) h4 h5' h6 hU2 hcl2 ?_⟩
      rw [Array.setIfInBounds_comm _ _ hji]
      exact h7
/-- Take number i first: all late ones wait for it. -/
theorem ltake (i d : Nat) (v : Value) {oi : Oper} {fuel : Nat} {listed : Array Bool} {tm : Array Value} {df : List Deferred} {w : World} (hi : ops[i]? = some oi) (hd : oi.dst = some d)
    (hs : Region.noSelect ops = true) (hf : Region.free md ops listed i = true) (hr : (Region.ready md ops listed).contains i = true) (hli : late i = false) (hlw : lateWaits md ops late i = true) (hcl : cleanL ops late listed = true)
    (hQ : ∀ c a a' w, Q (.panic c) a' w → Q (.panic c) a w) (hw : Region.wanted oi (yielded ops tm) = true) (hrun : ∀ W, S W → (execOp (Act.eval ⟨tm, df⟩) oi).run P W = .ok (.value v) W) (hS : S w) (hT : T w)
    (h : wpAnyL P md ops Q S T late fuel (listed.setIfInBounds i true) ⟨tm.setIfInBounds d v, df⟩ w) : wpAnyL P md ops Q S T late (fuel + 1) listed ⟨tm, df⟩ w := by
  refine wpAnyL_first (U := S) (oi := oi) (v := v) hi (Region.noSelect_spec hs) (fun c a w => hQ c a _ w) hli (.inl ⟨rfl, hlw⟩) fuel listed _ w (Region.free_spec hi hf) (by simpa using hr) (Or.inl ⟨hw, fun W hW => hrun W hW⟩) (fun _ => hS) hT hS (.inl hcl) ?_
  rw [hd]
  exact h
/-- Take number i first: it yields its value also behind the late ones. -/
theorem ttake (i d : Nat) (v : Value) {oi : Oper} {fuel : Nat} {listed : Array Bool} {tm : Array Value} {df : List Deferred} {w : World} (hi : ops[i]? = some oi) (hd : oi.dst = some d)
    (hs : Region.noSelect ops = true) (hf : Region.free md ops listed i = true) (hr : (Region.ready md ops listed).contains i = true) (hli : late i = false)
    (hQ : ∀ c a a' w, Q (.panic c) a' w → Q (.panic c) a w) (hw : Region.wanted oi (yielded ops tm) = true) (hrun : ∀ W, T W → (execOp (Act.eval ⟨tm, df⟩) oi).run P W = .ok (.value v) W) (hS : cleanL ops late listed = true → S w) (hT : T w)
    (h : wpAnyL P md ops Q S T late fuel (listed.setIfInBounds i true) ⟨tm.setIfInBounds d v, df⟩ w) : wpAnyL P md ops Q S T late (fuel + 1) listed ⟨tm, df⟩ w := by
  refine wpAnyL_first (U := T) (oi := oi) (v := v) hi (Region.noSelect_spec hs) (fun c a w => hQ c a _ w) hli (.inr rfl) fuel listed _ w (Region.free_spec hi hf) (by simpa using hr) (Or.inl ⟨hw, fun W hW => hrun W hW⟩) hS hT hT (.inr rfl) ?_
  rw [hd]
  exact h
theorem wp_region_late_drew {id : Nat} {a : Act} {w : World} (late : Nat → Bool) (hm : P.follows .mixedOrders = true) (h : wpAnyL P .any ops Q S T late ops.size (Array.replicate ops.size false) a w.drew) : (Code.region id ops true).wp P Q a w :=
  wp_region_any hm (wpAny_of_late _ _ _ _ h)
theorem late_done {listed : Array Bool} {a : Act} {w : World} (hr : Region.ready md ops listed = []) (h : Q .normal a w) :
    ∀ fuel, wpAnyL P md ops Q S T late fuel listed a w
  | 0 => ⟨hr, h⟩
  | _ + 1 => ⟨fun _ => h, by rw [hr]; simp⟩
/-- Operation i comes up next. -/
def StepL (P : Program) (md : Region.Mode) (ops : Array Oper) (Q : Exit → Act → World → Prop) (S T : World → Prop) (late : Nat → Bool) (fuel : Nat) (listed : Array Bool) (a : Act) (w : World) (i : Nat) : Prop :=
  wpOp P ops Q i (fun a' w' => (cleanL ops late (listed.setIfInBounds i true) = true → S w') ∧ T w' ∧ wpAnyL P md ops Q S T late fuel (listed.setIfInBounds i true) a' w') a w
theorem late_one {fuel : Nat} {listed : Array Bool} {a : Act} {w : World} (i : Nat) (hr : Region.ready md ops listed = [i]) (h : StepL P md ops Q S T late fuel listed a w i) : wpAnyL P md ops Q S T late (fuel + 1) listed a w :=
  ⟨fun h0 => (by rw [hr] at h0; cases h0), fun k hk => by rw [hr] at hk; cases List.mem_singleton.1 hk; exact h⟩
theorem late_two {fuel : Nat} {listed : Array Bool} {a : Act} {w : World} (i j : Nat) (hr : Region.ready md ops listed = [i, j]) (h1 : StepL P md ops Q S T late fuel listed a w i) (h2 : StepL P md ops Q S T late fuel listed a w j) : wpAnyL P md ops Q S T late (fuel + 1) listed a w :=
  ⟨fun h0 => (by rw [hr] at h0; cases h0), fun k hk => by
    rw [hr] at hk
    rcases List.mem_cons.1 hk with rfl | hk
    · exact h1
    · cases List.mem_singleton.1 hk; exact h2⟩
/-- A slice of one number is built. -/
theorem late_build {fuel : Nat} {listed : Array Bool} {tm : Array Value} {df : List Deferred} {w : World} (i d : Nat) (o : Oper) (ho : ops[i]? = some o) (hw : Region.wanted o (yielded ops tm) = true)
    (hd : o.dst = some d) (t e : TypeId) (x : Operand) (hop : o.op = .buildSlice t 1 #[(0, x)]) (v : Value) (hx : Act.eval ⟨tm, df⟩ x = v) (hb : (Instr.buildSlice t 1 #[(0, v)]).run P w = .ok (.slice (some ⟨w.heap.size, 0, none⟩) 1 1) (w.alloc (.cells #[v] e)))
    (hS : S (w.alloc (.cells #[v] e))) (hT : T (w.alloc (.cells #[v] e))) (h : wpAnyL P md ops Q S T late fuel (listed.setIfInBounds i true) ⟨tm.setIfInBounds d (.slice (some ⟨w.heap.size, 0, none⟩) 1 1), df⟩ (w.alloc (.cells #[v] e))) : StepL P md ops Q S T late fuel listed ⟨tm, df⟩ w i := by
  refine wpOp_step ho (fun K hK => ?_)
  rw [if_pos hw]
  unfold Oper.wp execOp
  have hm : (#[(0, x)] : Array (Nat × Operand)).map (fun (i, x) => (i, Act.eval ⟨tm, df⟩ x)) = #[(0, v)] := by simp [hx]
  simp only [hop, Sem.run_bind, hm, hb, Result.andThen_ok]
  have hp : Act.put ⟨tm, df⟩ o.dst (.slice (some ⟨w.heap.size, 0, none⟩) 1 1) = ⟨tm.setIfInBounds d (.slice (some ⟨w.heap.size, 0, none⟩) 1 1), df⟩ := by rw [hd]; rfl
  rw [← hp] at h
  exact hK _ _ ⟨fun _ => hS, hT, h⟩
/-- One more, appended to a row of the call's own. -/
theorem late_append {fuel : Nat} {listed : Array Bool} {tm : Array Value} {df : List Deferred} {w : World} (i d : Nat) (o : Oper) (ho : ops[i]? = some o) (hw : Region.wanted o (yielded ops tm) = true)
    (hd : o.dst = some d) (s x : Operand) (t : TypeId) (hop : o.op = .call { callee := .builtin .append, args := #[s, x], argTypes := #[t, t] })
    (base : Nat) (e : TypeId) (ti : TypeInfo) (z : Value) (size bytes : Nat) (ht : P.underlying t = some (.slice e)) (hi : P.info? e = some ti) (hz : ti.zero = some z)
    (hsize : ti.size = size) (hby : ti.bytes = bytes) (hzs : z.cells.size = size) (hsz : 0 < size)
    (v : Value) (n : Nat) (xs : List Value) (hs : Act.eval ⟨tm, df⟩ s = v) (hown : w.ownsRow base e size v n xs)
    (ad : Addr) (m c : Nat) (news : List Value) (hx : Act.eval ⟨tm, df⟩ x = .slice (some ad) m c) (hl : news.length = m * size) (hnews : ∀ j u, news[j]? = some u → w.cell? (ad.add j) = some u) (h1 : ∀ u ∈ news, u.oneCell' = true)
    (h63 : n + m ≤ maxLen) (hbytes : (n + m) * bytes ≤ 140737488355328) (hbase : base ≤ w.heap.size)
    (h : ∀ v' w', w'.ownsRow base e size v' (n + m) (xs ++ news) → w.grownBy w' v.ownBlock → (v'.ownBlock = v.ownBlock ∨ v'.ownBlock = some w.heap.size) → S w' ∧ T w' ∧ wpAnyL P md ops Q S T late fuel (listed.setIfInBounds i true) ⟨tm.setIfInBounds d v', df⟩ w') : StepL P md ops Q S T late fuel listed ⟨tm, df⟩ w i := by
  refine wpOp_step ho (fun K hK => ?_)
  rw [if_pos hw]
  obtain ⟨v', w', hr, h2, h3, h4, h5⟩ := run_append_own_at (P := P) w base t o.type e ti z size bytes ht hi hz hsize hby hzs hsz v n xs hown ad m c news hl hnews h1 h63 hbytes hbase
  unfold Oper.wp execOp
  simp only [hop, resolve, invoke, builtin, Sem.run_bind, Sem.run_pure, Result.andThen_ok, List.map_toArray, List.map_cons, List.map_nil, hs, hx, hr]
  have h6 := h v' w' h2 h3 h5
  have hp : Act.put ⟨tm, df⟩ o.dst v' = ⟨tm.setIfInBounds d v', df⟩ := by rw [hd]; rfl
  rw [← hp] at h6
  exact hK _ _ ⟨fun _ => h6.1, h6.2.1, h6.2.2⟩
/-- A slice is stored, late. -/
theorem late_store {fuel : Nat} {listed : Array Bool} {tm : Array Value} {df : List Deferred} {w : World} (i : Nat) (o : Oper) (ho : ops[i]? = some o) (hw : Region.wanted o (yielded ops tm) = true)
    (hd : o.dst = none) (t : TypeId) (x y : Operand) (hop : o.op = .store t x y) (hti : (P.info? t).map (·.size) = some 1) (p : Addr) (hx : Act.eval ⟨tm, df⟩ x = .pointer (some p)) (ad : Option Addr) (n c : Nat) (hy : Act.eval ⟨tm, df⟩ y = .slice ad n c)
    (u : Value) (hc : w.cell? p = some u) (hf : w.frozen? p = false) (hl : cleanL ops late (listed.setIfInBounds i true) = false) (hT : T (w.setCell p (.slice ad n c)))
    (h : wpAnyL P md ops Q S T late fuel (listed.setIfInBounds i true) ⟨tm, df⟩ (w.setCell p (.slice ad n c))) : StepL P md ops Q S T late fuel listed ⟨tm, df⟩ w i := by
  refine wpOp_step ho (fun K hK => ?_)
  rw [if_pos hw]
  unfold Oper.wp execOp
  have hsz : (sizeOf t).run P w = .ok 1 w := by
    cases hq : P.info? t with
    | none => simp [hq] at hti
    | some i =>
      have hs : i.size = 1 := by simpa [hq] using hti
      simp [sizeOf, typeInfo, hq, hs]
  simp only [hop, hx, hy]
  simp [go_sem, hc, hf, hsz]
  have hp : Act.put ⟨tm, df⟩ o.dst undef = ⟨tm, df⟩ := by rw [hd]; rfl
  rw [← hp] at h
  exact hK _ _ ⟨fun e => (by rw [hl] at e; cases e), hT, h⟩
end
end Go.Proofs.Ytpdemelchhkfaaa

/-
  Contract of tele's turn (chapter 13).
-/
namespace Go.Proofs.Ytpdemelchhkfaaa
open Go.RowKit PK Tl

theorem late_storeI {P : Program} {md : Region.Mode} {ops : Array Oper} {Q : Exit → Act → World → Prop} {S T : World → Prop} {late : Nat → Bool} {fuel : Nat} {listed : Array Bool} {tm : Array Value} {df : List Deferred} {w : World} (i : Nat) (o : Oper) (ho : ops[i]? = some o) (hw : Region.wanted o (yielded ops tm) = true)
    (hd : o.dst = none) (t : TypeId) (x y : Operand) (hop : o.op = .store t x y) (hti : (P.info? t).map (·.size) = some 1) (p : Addr) (hx : Act.eval ⟨tm, df⟩ x = .pointer (some p)) (k : IntKind) (z : Int) (hy : Act.eval ⟨tm, df⟩ y = .int k z)
    (u : Value) (hc : w.cell? p = some u) (hf : w.frozen? p = false) (hl : cleanL ops late (listed.setIfInBounds i true) = false) (hT : T (w.setCell p (.int k z)))
    (h : wpAnyL P md ops Q S T late fuel (listed.setIfInBounds i true) ⟨tm, df⟩ (w.setCell p (.int k z))) : StepL P md ops Q S T late fuel listed ⟨tm, df⟩ w i := by
  refine wpOp_step ho (fun K hK => ?_)
  rw [if_pos hw]
  unfold Oper.wp execOp
  have hsz : (sizeOf t).run P w = .ok 1 w := by
    cases hq : P.info? t with
    | none => simp [hq] at hti
    | some i =>
      have hs : i.size = 1 := by simpa [hq] using hti
      simp [sizeOf, typeInfo, hq, hs]
  simp only [hop, hx, hy]
  simp [go_sem, hc, hf, hsz]
  have hp : Act.put ⟨tm, df⟩ o.dst undef = ⟨tm, df⟩ := by rw [hd]; rfl
  rw [← hp] at h
  exact hK _ _ ⟨fun e => (by rw [hl] at e; cases e), hT, h⟩
section
variable {P : Program} {md : Region.Mode} {ops : Array Oper} {Q : Exit → Act → World → Prop} {S T : World → Prop} {late : Nat → Bool}
/-- An array is stored into the middle of a row, late. -/
theorem late_store_mid {fuel : Nat} {listed : Array Bool} {tm : Array Value} {df : List Deferred} {w : World} (i : Nat) (o : Oper) (ho : ops[i]? = some o) (hw : Region.wanted o (yielded ops tm) = true)
    (hd : o.dst = none) (t : TypeId) (x y : Operand) (hop : o.op = .store t x y) (b k : Nat) (cells : Array Value) (hx : Act.eval ⟨tm, df⟩ x = .pointer (some ⟨b, k, none⟩)) (hy : Act.eval ⟨tm, df⟩ y = .agg cells)
    (ht : w.there b k cells.size) (hi : (P.info? t).map (·.size) = some cells.size) (h1 : cells.all (·.oneCell') = true) (hl : cleanL ops late (listed.setIfInBounds i true) = false) (hT : T (w.setCells b k cells.toList))
    (h : wpAnyL P md ops Q S T late fuel (listed.setIfInBounds i true) ⟨tm, df⟩ (w.setCells b k cells.toList)) : StepL P md ops Q S T late fuel listed ⟨tm, df⟩ w i := by
  refine wpOp_step ho (fun K hK => ?_)
  rw [if_pos hw]
  unfold Oper.wp execOp
  simp only [hop, hx, hy]
  have hr := run_storeAt_mid (P := P) w b k t cells ht hi h1
  simp only [Sem.run_bind, hr, Result.andThen_ok, Sem.run_pure]
  have hp : Act.put ⟨tm, df⟩ o.dst undef = ⟨tm, df⟩ := by rw [hd]; rfl
  rw [← hp] at h
  exact hK _ _ ⟨fun e => (by rw [hl] at e; cases e), hT, h⟩
end
theorem g_size_int : (Try.prog.info? 3).map (·.size) = some 1 := by kernel_rfl
end Go.Proofs.Ytpdemelchhkfaaa

/-
  Contract of tele's Wrong (chapter 13).
-/
namespace Go.Proofs.Ytpdemelchhkfaaa
open Go.RowKit PK Tl

end Go.Proofs.Ytpdemelchhkfaaa

/-
  Contracts of the document's Delta and of tele's (chapter 13).
-/
namespace Go.Proofs.Ytpdemelchhkfaaa
open Go.RowKit PK Tl

theorem p_made_tab (z : Value) (n : Nat) : madeCells #[z] n = tab n fun _ => z := by
  unfold madeCells tab
  apply Array.ext
  · simp
  · intro i h1 h2
    simp [Nat.mod_one]
/-- The first m changes, as numbers. -/
def dlL (f : Nat → Int) (m : Nat) : List Nat := (List.range m).map fun i => (f i).toNat ^^^ (f (i + 1)).toNat
theorem dlL_len (f : Nat → Int) (m : Nat) : (dlL f m).length = m := by simp [dlL]
theorem dlL_succ (f : Nat → Int) (m : Nat) : dlL f (m + 1) = dlL f m ++ [(f m).toNat ^^^ (f (m + 1)).toNat] := by
  unfold dlL
  rw [List.range_succ, List.map_append]
  rfl
theorem dlL_get (f : Nat → Int) {n i : Nat} (h : i < n) : (((dlL f n).getD i 0 : Nat) : Int) = dlN f i := by
  unfold dlL dlN
  simp only [List.getD_eq_getElem?_getD, List.getElem?_map, List.getElem?_range h, Option.map_some, Option.getD_some]
set_option maxRecDepth 100000 in
set_option maxHeartbeats 2000000 in
theorem pdl_bad (v : Value) (n : Nat) (f : Nat → Int) (hE : faE n f ≠ 0) (w : World) (hv : NumsAt w v n f) : Calls Try.prog 16 #[v] w fun e w' => e = .returned (.tuple #[.slice none 0 0, .int .i64 (faE n f)]) ∧ Below w.heap.size w w' := by
  have HC := (show Hid _ from ptx_any v n f w hv)
  have hz2 : (faE n f != 0) = true := by simpa using hE
  obtain ⟨a, cap, rfl, _⟩ := hv
  obtain ⟨E, hEE⟩ : ∃ E, E = faE n f := ⟨_, rfl⟩
  have HEE := (show Hid (E = faE n f) from hEE)
  rw [← hEE] at HC hz2
  clear hE hEE
  go_enter Try.func16, Try.ntmps16
  go_wp2_with fail
  refine Calls.mono HC.out ?_
  rintro e Y ⟨rfl, rfl⟩
  clear HC
  go_wp2
  go_ret2
  exact ⟨by rw [← HEE.out]; rfl, Below.refl _ _⟩
/-- The first m are told. -/
def dlF (f : Nat → Int) (m : Nat) : Nat → Int := fun k => if k < m then dlN f k else 0
theorem dlF_start (f : Nat → Int) (n : Nat) : (ints n fun _ => 0) = ints n (dlF f 0) := ints_ext fun i _ => by unfold dlF; rw [if_neg (by omega)]
theorem dlF_next (f : Nat → Int) (n m : Nat) : ints n (upd (dlF f m) m (dlN f m)) = ints n (dlF f (m + 1)) := ints_ext fun i hi => by
  unfold upd
  by_cases e : i = m
  · rw [if_pos e]
    unfold dlF
    rw [if_pos (by omega), e]
  · rw [if_neg e]
    unfold dlF
    by_cases e2 : i < m
    · rw [if_pos e2, if_pos (by omega)]
    · rw [if_neg e2, if_neg (by omega)]
theorem dlF_all (f : Nat → Int) (n : Nat) : ints n (dlF f n) = ints n (dlN f) := ints_ext fun i hi => by
  unfold dlF
  rw [if_pos hi]
set_option maxRecDepth 100000 in
set_option maxHeartbeats 4000000 in
theorem pdl_ok (v : Value) (n : Nat) (f : Nat → Int) (hE : faE n f = 0) (w : World) (hv : NumsAt w v n f) : Calls Try.prog 16 #[v] w fun e w' => ∃ g, e = .returned (.tuple #[.slice (some ⟨g, 0, none⟩) (n - 1) (n - 1), .int .i64 0]) ∧ RowAt w' g 3 (ints (n - 1) (dlN f)) ∧ Below w.heap.size w w' := by
  have HC := (show Hid (Calls Try.prog 42 #[v] w fun e w' => e = .returned (.int .i64 0) ∧ w = w') from by have := ptx_any v n f w hv; rw [hE] at this; exact this)
  obtain ⟨hn, hf⟩ := faE_zero hE
  obtain ⟨a, cap, rfl, _, hca⟩ := hv
  have HA := (show Hid (∀ c, c < n → ∃ b o, a = some ⟨b, o, none⟩ ∧ w.cell? ⟨b, o + c, none⟩ = some (.int .i64 (f c))) from hca)
  have HF := (show Hid _ from hf)
  obtain ⟨m, hm⟩ : ∃ m, m = n - 1 := ⟨_, rfl⟩
  have HM := (show Hid (m = n - 1) from hm)
  have hmx : (if (n : Int) - 1 < 0 then 0 else (n : Int) - 1) = (m : Int) := by split <;> omega
  have hm65 : m ≤ 65536 := by omega
  have hmk := run_make_row' (P := Try.prog) 22 3 (.int .i64 0) 8 Try.underlying22 g_info_int rfl .i64 .i64 m (by omega) (by omega)
  rw [p_made_tab] at hmk
  have h2 : RowAt (w.alloc (.cells (tab m fun _ => .int .i64 0) 3)) w.heap.size 3 (ints m fun _ => 0) := RowAt.new w _ _
  rw [dlF_start f] at h2
  have hb2 := (Below.refl w.heap.size w).alloc (Nat.le_refl _) (.cells (tab m fun _ => .int .i64 0) 3)
  clear hca hf hE hm
  go_enter Try.func16, Try.ntmps16
  go_wp2_with fail
  refine Calls.mono HC.out ?_
  rintro e Y ⟨rfl, rfl⟩
  clear HC
  go_upto_region 5 with fail
  generalize w.alloc (.cells (tab m fun _ => .int .i64 0) 3) = W2 at *
  clear hmk hmx
  go_wp2_with fail
  go_loopw [19] (fun x W => ∃ i : Nat, i ≤ m ∧ x = .int .i64 (i : Nat) ∧ RowAt W w.heap.size 3 (ints m (dlF f i)) ∧ Below w.heap.size w W) (fun x _ => ((m : Int) - intOf x).toNat)
  case atStart => exact ⟨0, by omega, rfl, h2, hb2⟩
  case round =>
    clear h2 hb2
    obtain ⟨i, hi, rfl, hro, hbe⟩ := hrel
    by_cases hlt : i < m
    case neg =>
      obtain rfl : i = m := by omega
      have hnn : ¬ ((i : Nat) : Int) < ((i : Nat) : Int) := by omega
      rw [dlF_all] at hro
      have HRO := (show Hid (RowAt wr w.heap.size 3 (ints (n - 1) (dlN f))) from by rw [Hid, ← HM.out]; exact hro)
      have HBE := (show Hid _ from hbe)
      clear hro hbe hlt
      go_wp2
      go_ret2
      exact ⟨w.heap.size, by rw [← HM.out]; rfl, HRO.out, HBE.out⟩
    have HLT : Hid (i < m) := hlt
    have hlt2 : (i : Int) < (m : Int) := by omega
    have hin : i + 1 < n := by have := HM.out; omega
    have hlt3 : (i : Int) < (n : Int) := by omega
    have hlt4 : (i : Int) + 1 < (n : Int) := by omega
    obtain ⟨b1, o1, e1, c1⟩ := HA.out i (by omega)
    obtain ⟨b2, o2, e2, c2⟩ := HA.out (i + 1) (by omega)
    subst e1
    cases e2
    have d1 := (hbe.cell (p := ⟨b1, o1 + i, none⟩) (cell_block c1)).trans c1
    have d2 := (hbe.cell (p := ⟨b1, o1 + (i + 1), none⟩) (cell_block c2)).trans c2
    have hf1 := HF.out i (by omega)
    have hf2 := HF.out (i + 1) (by omega)
    have HST := (show Hid _ from dlF_next f m i)
    have hde : dlN f i = (((f i).toNat ^^^ (f (i + 1)).toNat : Nat) : Int) := rfl
    obtain ⟨x, hx⟩ : ∃ x : Nat, x = (f i).toNat := ⟨_, rfl⟩
    obtain ⟨y, hy⟩ : ∃ y : Nat, y = (f (i + 1)).toNat := ⟨_, rfl⟩
    rw [show f i = ((x : Nat) : Int) by omega] at d1
    rw [show f (i + 1) = ((y : Nat) : Int) by omega] at d2
    rw [hde, ← hx, ← hy] at HST
    have hbx := bits_xor (a := x) (b := y) (by omega) (by omega)
    generalize x ^^^ y = z at *
    have hcell := hro.cell (ints_get (dlF f i) hlt)
    have hfz := hro.frozen i
    have HN : Hid (∀ V, RowAt V w.heap.size 3 (ints m (dlF f i)) → Below w.heap.size w V → RowAt (V.setCell ⟨w.heap.size, i, none⟩ (.int .i64 (z : Nat))) w.heap.size 3 (ints m (dlF f (i + 1))) ∧ Below w.heap.size w (V.setCell ⟨w.heap.size, i, none⟩ (.int .i64 (z : Nat)))) := fun V hro hbe => by
      refine ⟨?_, hbe.setCell (p := ⟨w.heap.size, i, none⟩) (Nat.le_refl _) _⟩
      have h1 := hro.set i (.int .i64 (z : Nat))
      rw [ints_set, HST.out] at h1
      exact h1
    have HRO := (show Hid (RowAt wr w.heap.size 3 (ints m (dlF f i))) from hro)
    have HBE := (show Hid (Below w.heap.size w wr) from hbe)
    generalize dlF f i i = oc at *
    clear hlt c1 c2 hx hy hf1 hf2 hde HST hro hbe HA HF
    go_wp2_with fail
    go_region
    all_goals (try go_wp2)
    all_goals go_roundw
    case rel => exact ⟨i + 1, HLT.out, by go_num, (HN.out _ HRO.out.drew HBE.out.drew).1, (HN.out _ HRO.out.drew HBE.out.drew).2⟩
    case measure => have := HLT.out; simp [intOf]; omega
end Go.Proofs.Ytpdemelchhkfaaa
