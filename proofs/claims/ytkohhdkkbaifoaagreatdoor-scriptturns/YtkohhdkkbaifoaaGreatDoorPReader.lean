/-
  The reader of package perm: its cells, and contracts of takeLetter and take.
-/
import Derived.Test.YtkohhdkkbaifoaaGreatDoorJn21
import Derived.BigRegion
namespace Go.Proofs.YtkohhdkkbaifoaaGreatDoor
open Go.RowKit PK

/-- How far a text has been read. -/
structure Rd where
  p : Nat → Nat
  st : Nat → Bool
  op : Bool
  long : Nat
  first : Nat
  last : Nat
def rcell (s : Rd) (i : Nat) : Value :=
  if i < 26 then .int .i64 (s.p i : Nat) else if i < 52 then .bool (s.st (i - 26)) else if i = 52 then .bool s.op else if i = 53 then .int .i64 (s.long : Nat) else if i = 54 then .int .i64 (s.first : Nat) else .int .i64 (s.last : Nat)
def rcells (s : Rd) : Array Value := tab 56 (rcell s)
theorem rcells_p (s : Rd) (i v : Nat) (hi : i < 26) : (rcells s).setIfInBounds i (.int .i64 (v : Nat)) = rcells { s with p := upd s.p i v } := by
  unfold rcells
  rw [tab_set]
  refine tab_ext fun j _ => ?_
  by_cases e : j = i
  · subst e; simp [rcell, hi]
  · simp [upd, e, rcell]
theorem rcells_st (s : Rd) (i : Nat) (v : Bool) (hi : i < 26) : (rcells s).setIfInBounds (26 + i) (.bool v) = rcells { s with st := upd s.st i v } := by
  unfold rcells
  rw [tab_set]
  refine tab_ext fun j _ => ?_
  by_cases e : j = 26 + i
  · subst e
    have h1 : ¬ (26 + i < 26) := by omega
    have h2 : 26 + i < 52 := by omega
    simp [rcell, h1, h2]
  · by_cases h1 : j < 26
    · simp [upd, e, rcell, h1]
    · have h3 : ¬ (j - 26 = i) := by omega
      simp [upd, e, rcell, h1, h3]
theorem rcells_op (s : Rd) (v : Bool) : (rcells s).setIfInBounds 52 (.bool v) = rcells { s with op := v } := by
  unfold rcells
  rw [tab_set]
  refine tab_ext fun j _ => ?_
  by_cases e : j = 52
  · subst e; simp [rcell]
  · simp [upd, e, rcell]
theorem rcells_long (s : Rd) (v : Nat) : (rcells s).setIfInBounds 53 (.int .i64 (v : Nat)) = rcells { s with long := v } := by
  unfold rcells
  rw [tab_set]
  refine tab_ext fun j _ => ?_
  by_cases e : j = 53
  · subst e; simp [rcell]
  · simp [upd, e, rcell]
theorem rcells_first (s : Rd) (v : Nat) : (rcells s).setIfInBounds 54 (.int .i64 (v : Nat)) = rcells { s with first := v } := by
  unfold rcells
  rw [tab_set]
  refine tab_ext fun j _ => ?_
  by_cases e : j = 54
  · subst e; simp [rcell]
  · simp [upd, e, rcell]
theorem rcells_last (s : Rd) (v : Nat) : (rcells s).setIfInBounds 55 (.int .i64 (v : Nat)) = rcells { s with last := v } := by
  unfold rcells
  rw [tab_set]
  refine tab_ext fun j hj => ?_
  by_cases e : j = 55
  · subst e; simp [rcell]
  · by_cases h1 : j = 54
    · subst h1; simp [upd, rcell]
    · by_cases h2 : j = 53
      · subst h2; simp [upd, rcell]
      · by_cases h3 : j = 52
        · subst h3; simp [upd, rcell]
        · have h4 : j < 52 := by omega
          by_cases h5 : j < 26 <;> simp [upd, e, rcell, h4, h5]
theorem rcells_one (s : Rd) : (rcells s).all (·.oneCell') = true := by
  rw [Array.all_eq_true_iff_forall_mem]
  intro v hv
  simp [rcells, tab] at hv
  obtain ⟨i, _, rfl⟩ := hv
  unfold rcell
  repeat (first | rfl | split)
/-- All that a reader's block tells. -/
theorem rd_cells {w : World} {b : Nat} {T : TypeId} {s : Rd} (h : RowAt w b T (rcells s)) :
    (∀ i, i < 26 → w.cell? ⟨b, i, none⟩ = some (.int .i64 (s.p i : Nat))) ∧ (∀ i, i < 26 → w.cell? ⟨b, 26 + i, none⟩ = some (.bool (s.st i))) ∧ w.cell? ⟨b, 52, none⟩ = some (.bool s.op) ∧
    w.cell? ⟨b, 53, none⟩ = some (.int .i64 (s.long : Nat)) ∧ w.cell? ⟨b, 54, none⟩ = some (.int .i64 (s.first : Nat)) ∧ w.cell? ⟨b, 55, none⟩ = some (.int .i64 (s.last : Nat)) ∧ ∀ i, w.frozen? ⟨b, i, none⟩ = false := by
  refine ⟨fun i hi => ?_, fun i hi => ?_, ?_, ?_, ?_, ?_, h.frozen⟩
  · have := h.cell (tab_get (n := 56) (rcell s) (i := i) (by omega)); simpa [rcell, hi] using this
  · have := h.cell (tab_get (n := 56) (rcell s) (i := 26 + i) (by omega))
    have h1 : ¬ (26 + i < 26) := by omega
    have h2 : 26 + i < 52 := by omega
    simpa [rcell, h1, h2] using this
  · exact h.cell (tab_get (n := 56) (rcell s) (i := 52) (by omega))
  · exact h.cell (tab_get (n := 56) (rcell s) (i := 53) (by omega))
  · exact h.cell (tab_get (n := 56) (rcell s) (i := 54) (by omega))
  · exact h.cell (tab_get (n := 56) (rcell s) (i := 55) (by omega))
/-- Nothing but block b has turned. -/
structure Only (b : Nat) (w w' : World) : Prop where
  os : w'.os = w.os
  tape : w'.tape = w.tape
  output : w'.output = w.output
  size : w'.heap.size = w.heap.size
  block : ∀ k, k ≠ b → w'.heap[k]? = w.heap[k]?
theorem Only.refl (b : Nat) (w : World) : Only b w w := ⟨rfl, rfl, rfl, rfl, fun _ _ => rfl⟩
theorem Only.set {b : Nat} {a w : World} (h : Only b a w) (i : Nat) (v : Value) : Only b a (w.setCell ⟨b, i, none⟩ v) := ⟨h.os, h.tape, h.output, by simpa using h.size, fun k hk => (heap_setCell_other w _ k v hk).trans (h.block k hk)⟩
theorem Only.drewN {b : Nat} {a w : World} (h : Only b a w) (n : Nat) : Only b a (w.drewN n) := ⟨h.os, h.tape, h.output, h.size, h.block⟩
theorem Only.drew {b : Nat} {a w : World} (h : Only b a w) : Only b a w.drew := ⟨h.os, h.tape, h.output, h.size, h.block⟩

/-- A letter within brackets. -/
def Rd.letter (s : Rd) (i : Nat) : Rd :=
  let f := if s.long = 0 then i else s.first
  let q := if s.long = 0 then s.p else upd s.p s.last i
  { s with st := upd s.st i true, first := f, p := upd q i f, last := i, long := s.long + 1 }

set_option maxHeartbeats 1000000 in
theorem takeLetter_fit (s : Rd) (b i : Nat) (hi : i < 26) (hs : s.st i = true) (w : World) (h : RowAt w b 261 (rcells s)) :
    Calls Tryz.prog 264 #[.pointer (some ⟨b, 0, none⟩), .int .i64 (i : Nat)] w fun e w' => e = .returned (.int .i64 8) ∧ w = w' := by
  obtain ⟨_, h2, _, _, _, _, _⟩ := rd_cells h
  have hc := h2 i hi
  rw [hs] at hc
  clear h h2
  go_enter Tryz.func264, Tryz.ntmps264
  go_wp2
  go_ret
  exact ⟨rfl, rfl⟩

set_option maxHeartbeats 2000000 in
theorem takeLetter_first (s : Rd) (b i : Nat) (hi : i < 26) (hs : s.st i = false) (hl : s.long = 0) (w : World) (h : RowAt w b 261 (rcells s)) :
    Calls Tryz.prog 264 #[.pointer (some ⟨b, 0, none⟩), .int .i64 (i : Nat)] w fun e w' => e = .returned (.int .i64 0) ∧ RowAt w' b 261 (rcells (s.letter i)) ∧ Only b w w' := by
  have HR : Hid (RowAt w b 261 (rcells s)) := h
  obtain ⟨h1, h2, h3, h4, h5, h6, h7⟩ := rd_cells h
  have hc1 := h1 i hi
  have hc2 := h2 i hi
  rw [hs] at hc2
  rw [hl] at h4
  clear h h1 h2
  have e1 : ¬ (26 + i = 53) := by omega
  go_enter Tryz.func264, Tryz.ntmps264
  go_wp2
  obtain ⟨W, hW⟩ : ∃ W, W = (w.setCell ⟨b, 26 + i, none⟩ (.bool true)).setCell ⟨b, 54, none⟩ (.int .i64 (i : Nat)) := ⟨_, rfl⟩
  rw [← hW]
  have HR1 : Hid (RowAt W b 261 (rcells { s with st := upd s.st i true, first := i })) := by
    rw [Hid, hW, ← rcells_first { s with st := upd s.st i true } i, ← rcells_st s i true hi]
    exact (HR.out.set _ _).set _ _
  have HO1 : Hid (Only b w W) := by rw [Hid, hW]; exact ((Only.refl b w).set _ _).set _ _
  clear hW h3 h4 h5 h6 h7 hc1 hc2
  obtain ⟨h1, h2, h3, h4, h5, h6, h7⟩ := rd_cells HR1.out
  have hc1 := h1 i hi
  simp only at hc1 h4 h5 h6
  clear h1 h2
  rw [hl] at h4
  go_region
  go_wp2
  go_ret
  refine ⟨rfl, ?_, (((HO1.out.set _ _).set _ _).set _ _).drew⟩
  have a1 := HR1.out.set i (.int .i64 (i : Nat))
  rw [rcells_p _ i i hi] at a1
  have a2 := a1.set 55 (.int .i64 (i : Nat))
  rw [rcells_last] at a2
  have a3 := a2.set 53 (.int .i64 ((1 : Nat) : Int))
  rw [rcells_long] at a3
  have e2 : s.letter i = { s with st := upd s.st i true, first := i, p := upd s.p i i, last := i, long := 1 } := by simp [Rd.letter, hl]
  rw [e2]
  exact a3

set_option maxHeartbeats 2000000 in
theorem takeLetter_next (s : Rd) (b i : Nat) (hi : i < 26) (hs : s.st i = false) (hl : 0 < s.long) (hl2 : s.long < 9223372036854775807) (hla : s.last < 26) (w : World) (h : RowAt w b 261 (rcells s)) :
    Calls Tryz.prog 264 #[.pointer (some ⟨b, 0, none⟩), .int .i64 (i : Nat)] w fun e w' => e = .returned (.int .i64 0) ∧ RowAt w' b 261 (rcells (s.letter i)) ∧ Only b w w' := by
  have HR : Hid (RowAt w b 261 (rcells s)) := h
  obtain ⟨h1, h2, h3, h4, h5, h6, h7⟩ := rd_cells h
  have hc1 := h1 i hi
  have hc2 := h2 i hi
  rw [hs] at hc2
  clear h h1 h2
  have hz : ((s.long : Int) == 0) = false := by simp; omega
  go_enter Tryz.func264, Tryz.ntmps264
  go_wp2
  obtain ⟨W, hW⟩ : ∃ W, W = w.setCell ⟨b, 26 + i, none⟩ (.bool true) := ⟨_, rfl⟩
  rw [← hW]
  have HR1 : Hid (RowAt W b 261 (rcells { s with st := upd s.st i true })) := by
    rw [Hid, hW, ← rcells_st s i true hi]
    exact HR.out.set _ _
  have HO1 : Hid (Only b w W) := by rw [Hid, hW]; exact (Only.refl b w).set _ _
  clear hW h3 h4 h5 h6 h7 hc1 hc2
  obtain ⟨h1, h2, h3, h4, h5, h6, h7⟩ := rd_cells HR1.out
  have hc1 := h1 i hi
  have hcl := h1 s.last hla
  simp only at hc1 h4 h5 h6 hcl
  clear h1 h2
  go_region
  go_wp2
  obtain ⟨W2, hW2⟩ : ∃ W2, W2 = (W.setCell ⟨b, s.last, none⟩ (.int .i64 (i : Nat))).drew := ⟨_, rfl⟩
  rw [← hW2]
  have HR2 : Hid (RowAt W2 b 261 (rcells { s with st := upd s.st i true, p := upd s.p s.last i })) := by
    rw [Hid, hW2]
    have := HR1.out.set s.last (.int .i64 (i : Nat))
    rw [rcells_p _ s.last i hla] at this
    exact this.drew
  have HO2 : Hid (Only b w W2) := by rw [Hid, hW2]; exact (HO1.out.set _ _).drew
  clear hW2 h3 h4 h5 h6 h7 hc1 hcl
  obtain ⟨h1, h2, h3, h4, h5, h6, h7⟩ := rd_cells HR2.out
  have hc1 := h1 i hi
  simp only at hc1 h4 h5 h6
  clear h1 h2
  go_region
  go_wp2
  go_ret
  refine ⟨rfl, ?_, (((HO2.out.set _ _).set _ _).set _ _).drew⟩
  have a1 := HR2.out.set i (.int .i64 (s.first : Nat))
  rw [rcells_p _ i s.first hi] at a1
  have a2 := a1.set 55 (.int .i64 (i : Nat))
  rw [rcells_last] at a2
  have a3 := a2.set 53 (.int .i64 ((s.long + 1 : Nat) : Int))
  rw [rcells_long] at a3
  have e2 : s.letter i = { s with st := upd s.st i true, p := upd (upd s.p s.last i) i s.first, last := i, long := s.long + 1 } := by
    have : ¬ (s.long = 0) := by omega
    simp [Rd.letter, this]
  rw [e2]
  exact a3

def Rd.errL (s : Rd) (i : Nat) : Int := if s.st i = true then 8 else 0
def Rd.nextL (s : Rd) (i : Nat) : Rd := if s.st i = true then s else s.letter i
theorem takeLetter_any (s : Rd) (b i : Nat) (hi : i < 26) (hl2 : s.long < 9223372036854775807) (hla : s.long = 0 ∨ s.last < 26) (w : World) (h : RowAt w b 261 (rcells s)) :
    Calls Tryz.prog 264 #[.pointer (some ⟨b, 0, none⟩), .int .i64 (i : Nat)] w fun e w' => e = .returned (.int .i64 (s.errL i)) ∧ RowAt w' b 261 (rcells (s.nextL i)) ∧ Only b w w' := by
  by_cases hs : s.st i = true
  · rw [Rd.errL, Rd.nextL, if_pos hs, if_pos hs]
    refine (takeLetter_fit s b i hi hs w h).mono ?_
    rintro e w' ⟨rfl, rfl⟩
    exact ⟨rfl, h, Only.refl _ _⟩
  · rw [Rd.errL, Rd.nextL, if_neg hs, if_neg hs]
    have hs' : s.st i = false := by simpa using hs
    by_cases hl : s.long = 0
    · exact takeLetter_first s b i hi hs' hl w h
    · exact takeLetter_next s b i hi hs' (by omega) hl2 (by omega) w h
def Rd.err (s : Rd) (c : Nat) : Int :=
  if s.op = false ∧ c = 40 then 0 else if s.op = true ∧ 0 < s.long ∧ c = 41 then 0 else if s.op = true ∧ 65 ≤ c ∧ c ≤ 90 then s.errL (c - 65) else 2
def Rd.next (s : Rd) (c : Nat) : Rd :=
  if s.op = false ∧ c = 40 then { s with op := true, long := 0 } else if s.op = true ∧ 0 < s.long ∧ c = 41 then { s with op := false } else if s.op = true ∧ 65 ≤ c ∧ c ≤ 90 then s.nextL (c - 65) else s

set_option maxHeartbeats 2000000 in
theorem take_any (s : Rd) (b c : Nat) (hc : c < 256) (hl2 : s.long < 9223372036854775807) (hla : s.long = 0 ∨ s.last < 26) (w : World) (h : RowAt w b 261 (rcells s)) :
    Calls Tryz.prog 252 #[.pointer (some ⟨b, 0, none⟩), .int .u8 (c : Nat)] w fun e w' => e = .returned (.int .i64 (s.err c)) ∧ RowAt w' b 261 (rcells (s.next c)) ∧ Only b w w' := by
  have HR : Hid (RowAt w b 261 (rcells s)) := h
  obtain ⟨h1, h2, h3, h4, h5, h6, h7⟩ := rd_cells h
  clear h h1 h2 h5 h6
  have HL := fun (hi : c - 65 < 26) => takeLetter_any s b (c - 65) hi hl2 hla w HR.out
  cases ho : s.op
  · rw [ho] at h3
    have HO : Hid (s.op = false) := ho
    clear ho HL
    by_cases e40 : c = 40
    · have E : Hid (s.err c = 0) := by simp [Hid, Rd.err, HO.out, e40]
      have N : Hid (s.next c = { s with op := true, long := 0 }) := by simp [Hid, Rd.next, HO.out, e40]
      have t40 : (((c : Nat) : Int) == 40) = true := by simp; omega
      clear e40
      go_enter Tryz.func252, Tryz.ntmps252
      go_wp2
      go_ret
      refine ⟨ret_int E.out.symm, ?_, ((Only.refl b w).set _ _).set _ _⟩
      rw [N.out]
      have a1 := HR.out.set 52 (.bool true)
      rw [rcells_op] at a1
      have a2 := a1.set 53 (.int .i64 ((0 : Nat) : Int))
      rw [rcells_long] at a2
      exact a2
    · have E : Hid (s.err c = 2) := by simp [Hid, Rd.err, HO.out, e40]
      have N : Hid (s.next c = s) := by simp [Hid, Rd.next, HO.out, e40]
      have t40 : (((c : Nat) : Int) == 40) = false := by simp; omega
      clear e40
      go_enter Tryz.func252, Tryz.ntmps252
      go_wp2
      go_ret
      exact ⟨ret_int E.out.symm, by rw [N.out]; exact HR.out, Only.refl _ _⟩
  · rw [ho] at h3
    have HO : Hid (s.op = true) := ho
    clear ho
    by_cases e41 : 0 < s.long ∧ c = 41
    · have E : Hid (s.err c = 0) := by simp [Hid, Rd.err, HO.out, e41.1, e41.2]
      have N : Hid (s.next c = { s with op := false }) := by simp [Hid, Rd.next, HO.out, e41.1, e41.2]
      have t41 : (((c : Nat) : Int) == 41) = true := by simp; omega
      have l0 : 0 < s.long := e41.1
      clear e41 HL
      go_enter Tryz.func252, Tryz.ntmps252
      go_wp2
      go_ret
      refine ⟨ret_int E.out.symm, ?_, (Only.refl b w).set _ _⟩
      rw [N.out]
      have a1 := HR.out.set 52 (.bool false)
      rw [rcells_op] at a1
      exact a1
    · by_cases el : 65 ≤ c ∧ c ≤ 90
      · have E : Hid (s.err c = s.errL (c - 65)) := by simp [Hid, Rd.err, HO.out, el.1, el.2]; omega
        have N : Hid (s.next c = s.nextL (c - 65)) := by
          simp only [Hid, Rd.next, HO.out]
          rw [if_neg (by simp), if_neg (by omega), if_pos ⟨trivial, el⟩]
        have HL' : Hid (Calls Tryz.prog 264 #[.pointer (some ⟨b, 0, none⟩), .int .i64 ((c - 65 : Nat) : Int)] w fun e w' => e = .returned (.int .i64 (s.errL (c - 65))) ∧ RowAt w' b 261 (rcells (s.nextL (c - 65))) ∧ Only b w w') := HL (by omega)
        have t41 : (((c : Nat) : Int) == 41) = false := by simp; omega
        have c1 : (65 : Int) ≤ (c : Nat) := by omega
        have c2 : ((c : Nat) : Int) ≤ 90 := by omega
        have HE : Hid (((c - 65 : Nat) : Int) = (c : Int) - 65) := by rw [Hid]; omega
        clear HL e41 el
        go_enter Tryz.func252, Tryz.ntmps252
        by_cases l0 : 0 < s.long
        all_goals
          go_wp2_with fail
          rw [← HE.out]
          refine HL'.out.mono ?_
          rintro e w1 ⟨rfl, a, o⟩
          go_wp2
          go_ret
          exact ⟨ret_int E.out.symm, by rw [N.out]; exact a, o⟩
      · have E : Hid (s.err c = 2) := by
          simp only [Hid, Rd.err, HO.out]
          rw [if_neg (by simp), if_neg (by omega), if_neg (by simp only [true_and]; exact el)]
        have N : Hid (s.next c = s) := by
          simp only [Hid, Rd.next, HO.out]
          rw [if_neg (by simp), if_neg (by omega), if_neg (by simp only [true_and]; exact el)]
        clear HL
        have e41' : ¬ 0 < s.long ∨ (((c : Nat) : Int) == 41) = false := by
          by_cases l0 : 0 < s.long
          · right; simp; omega
          · exact .inl l0
        have el' : ¬ ((65 : Int) ≤ (c : Nat)) ∨ (((65 : Int) ≤ (c : Nat)) ∧ ¬ (((c : Nat) : Int) ≤ 90)) := by omega
        clear e41 el
        go_enter Tryz.func252, Tryz.ntmps252
        by_cases l0 : 0 < s.long
        · have t41 : (((c : Nat) : Int) == 41) = false := e41'.resolve_left (fun h => h l0)
          clear e41'
          rcases el' with c1 | ⟨c1, c2⟩
          all_goals
            go_wp2
            go_ret
            exact ⟨ret_int E.out.symm, by rw [N.out]; exact HR.out, Only.refl _ _⟩
        · clear e41'
          rcases el' with c1 | ⟨c1, c2⟩
          all_goals
            go_wp2
            go_ret
            exact ⟨ret_int E.out.symm, by rw [N.out]; exact HR.out, Only.refl _ _⟩
end Go.Proofs.YtkohhdkkbaifoaaGreatDoor
