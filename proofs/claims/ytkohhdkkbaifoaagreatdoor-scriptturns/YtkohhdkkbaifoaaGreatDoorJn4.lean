/-
  Several texts, joined: OKit, PWrong, PBuild.
-/
import Derived.Test.YtkohhdkkbaifoaaGreatDoorJn1
import Derived.Test.YtkohhdkkbaifoaaGreatDoorJn2
import Derived.Test.YtkohhdkkbaifoaaGreatDoorJn3
import Derived.Deep.MidRow
import Derived.Test.YtkohhdkkbaifoaaGreatDoorChecked
/-
  A machine as an argument: its cells, and what lies behind its slices.
-/
namespace Go.Proofs.YtkohhdkkbaifoaaGreatDoor
open Go.RowKit PK

/-- The cells of a wheel. -/
def whl (f : Nat → Int) (R : Value) : Array Value := (ints 26 f).push R
theorem whl_size (f : Nat → Int) (R : Value) : (whl f R).size = 27 := by simp [whl, ints_size]
theorem whl_get (f : Nat → Int) (R : Value) {i : Nat} (h : i < 26) : (whl f R)[i]? = some (.int .i64 (f i)) := by
  unfold whl
  rw [Array.getElem?_push, ints_size, if_neg (by omega), ints_get f h]
theorem whl_last (f : Nat → Int) (R : Value) : (whl f R)[26]? = some R := by
  unfold whl
  rw [Array.getElem?_push, ints_size, if_pos rfl]
theorem whl_ext {f g : Nat → Int} (h : ∀ i, i < 26 → f i = g i) (R : Value) : whl f R = whl g R := by unfold whl; rw [ints_ext h]
/-- The cells of a machine. -/
def mac (a b c : Value) (rf pl : Nat → Int) : Array Value := #[a, b, c] ++ ints 26 rf ++ ints 26 pl
theorem mac_size (a b c : Value) (rf pl : Nat → Int) : (mac a b c rf pl).size = 55 := by simp [mac, ints_size]
theorem mac_0 (a b c : Value) (rf pl : Nat → Int) : (mac a b c rf pl)[0]? = some a := by simp [mac, ints_size]
theorem mac_1 (a b c : Value) (rf pl : Nat → Int) : (mac a b c rf pl)[1]? = some b := by simp [mac, ints_size]
theorem mac_2 (a b c : Value) (rf pl : Nat → Int) : (mac a b c rf pl)[2]? = some c := by simp [mac, ints_size]
theorem mac_rf (a b c : Value) (rf pl : Nat → Int) {i : Nat} (h : i < 26) : (mac a b c rf pl)[3 + i]? = some (.int .i64 (rf i)) := by
  unfold mac
  rw [Array.getElem?_append, if_pos (by simp [ints_size]; omega), Array.getElem?_append, if_neg (by simp)]
  simp [ints_get rf h]
theorem mac_pl (a b c : Value) (rf pl : Nat → Int) {i : Nat} (h : i < 26) : (mac a b c rf pl)[29 + i]? = some (.int .i64 (pl i)) := by
  unfold mac
  rw [Array.getElem?_append, if_neg (by simp [ints_size])]
  simp [ints_size, ints_get pl h]
theorem mac_ext {rf pl rf2 pl2 : Nat → Int} (h1 : ∀ i, i < 26 → rf i = rf2 i) (h2 : ∀ i, i < 26 → pl i = pl2 i) (a b c : Value) : mac a b c rf pl = mac a b c rf2 pl2 := by unfold mac; rw [ints_ext h1, ints_ext h2]
/-- Wheels, as they lie behind a slice. -/
def WheelsAt (W : World) (v : Value) (n : Nat) (wi : Nat → Nat → Int) (nl : Nat → Nat) (no : Nat → Nat → Int) : Prop :=
  ∃ (a : Option Addr) (cap : Nat) (R : Nat → Value), v = .slice a n cap ∧ n ≤ maxLen ∧ (∀ r, r < n → ∃ b o, a = some ⟨b, o, none⟩ ∧ W.rangeAt b (o + r * 27) (whl (wi r) (R r)).toList) ∧ ∀ r, r < n → NumsAt W (R r) (nl r) (no r)
/-- A machine as it is given: anything. -/
structure Gm where
  n : Nat
  wi : Nat → Nat → Int
  nl : Nat → Nat
  no : Nat → Nat → Int
  rl : Nat
  ri : Nat → Int
  sl : Nat
  st : Nat → Int
  rf : Nat → Int
  pl : Nat → Int
def MacAt (W : World) (v : Value) (g : Gm) : Prop := ∃ a b c, v = .agg (mac a b c g.rf g.pl) ∧ WheelsAt W a g.n g.wi g.nl g.no ∧ NumsAt W b g.rl g.ri ∧ NumsAt W c g.sl g.st
theorem rangeAt_below {w w' : World} {b o : Nat} {l : List Value} (h : w.rangeAt b o l) (hb : Below w.heap.size w w') : w'.rangeAt b o l := fun j v hv => by
  have := h j v hv
  exact (hb.cell (p := ⟨b, o + j, none⟩) (cell_block this)).trans this
theorem WheelsAt.below {w w' : World} {v : Value} {n : Nat} {wi : Nat → Nat → Int} {nl : Nat → Nat} {no : Nat → Nat → Int} (h : WheelsAt w v n wi nl no) (hb : Below w.heap.size w w') : WheelsAt w' v n wi nl no := by
  obtain ⟨a, cap, R, h1, h2, h3, h4⟩ := h
  refine ⟨a, cap, R, h1, h2, fun r hr => ?_, fun r hr => (h4 r hr).below hb⟩
  obtain ⟨b, o, e, hc⟩ := h3 r hr
  exact ⟨b, o, e, rangeAt_below hc hb⟩
theorem WheelsAt.alloc {w : World} {v : Value} {n : Nat} {wi : Nat → Nat → Int} {nl : Nat → Nat} {no : Nat → Nat → Int} (h : WheelsAt w v n wi nl no) (o : Obj) : WheelsAt (w.alloc o) v n wi nl no := h.below ((Below.refl _ _).alloc (Nat.le_refl _) _)
theorem MacAt.below {w w' : World} {v : Value} {g : Gm} (h : MacAt w v g) (hb : Below w.heap.size w w') : MacAt w' v g := by
  obtain ⟨a, b, c, e, h1, h2, h3⟩ := h
  exact ⟨a, b, c, e, h1.below hb, h2.below hb, h3.below hb⟩
theorem MacAt.alloc {w : World} {v : Value} {g : Gm} (h : MacAt w v g) (o : Obj) : MacAt (w.alloc o) v g := h.below ((Below.refl _ _).alloc (Nat.le_refl _) _)
/-- All letters' numbers? -/
def ins (n : Nat) (f : Nat → Int) : Bool := (List.range n).all fun i => decide (0 ≤ f i ∧ f i ≤ 25)
theorem ins_iff (n : Nat) (f : Nat → Int) : ins n f = true ↔ ∀ i, i < n → 0 ≤ f i ∧ f i ≤ 25 := by
  unfold ins
  rw [List.all_eq_true]
  constructor
  · intro h i hi; simpa using h i (by simpa using hi)
  · intro h i hi; simpa using h i (by simpa using hi)
def whE (g : Gm) : Nat → Int
  | 0 => 0
  | k + 1 => if whE g k ≠ 0 then whE g k else if Pm.wrong (g.wi k) ≠ 0 then Pm.wrong (g.wi k) else if ins (g.nl k) (g.no k) = true then 0 else 3
/-- Its own undoing, up to letter k; 'strict': and no letter goes to itself. -/
def undo (strict : Bool) (f : Nat → Int) : Bool := (List.range 26).all fun i => decide (f (f i).toNat = (i : Int)) && !(strict && decide (f i = (i : Int)))
theorem undo_iff (strict : Bool) (f : Nat → Int) : undo strict f = true ↔ ∀ i, i < 26 → f (f i).toNat = (i : Int) ∧ (strict = true → f i ≠ (i : Int)) := by
  unfold undo
  rw [List.all_eq_true]
  constructor
  · intro h i hi
    have := h i (by simpa using hi)
    simp at this
    refine ⟨this.1, fun hs => ?_⟩
    rcases this.2 with h1 | h1
    · rw [hs] at h1; cases h1
    · exact h1
  · intro h i hi
    have := h i (by simpa using hi)
    simp [this.1]
    cases strict
    · exact .inl rfl
    · exact .inr (this.2 rfl)
/-- What is wrong with a machine. -/
def gE (g : Gm) : Int :=
  if g.n < 1 ∨ 4 < g.n then 5 else if whE g g.n ≠ 0 then whE g g.n
  else if g.rl ≠ g.n then 8 else if ins g.rl g.ri = false then 3
  else if g.sl ≠ g.n then 8 else if ins g.sl g.st = false then 3
  else if Pm.wrong g.rf ≠ 0 then Pm.wrong g.rf else if undo true g.rf = false then 1
  else if Pm.wrong g.pl ≠ 0 then Pm.wrong g.pl else if undo false g.pl = false then 1 else 0
/-- A right machine as it is given. -/
def gOf (M : Om.Ma) : Gm := ⟨M.n, fun r => Pm.up (M.wi r), fun r => (M.no r).length, fun r k => ((M.no r).getD k 0 : Nat), M.n, fun i => (M.ri i : Nat), M.n, fun i => (M.st i : Nat), Pm.up M.rf, Pm.up M.pl⟩
theorem nums_ext {w : World} {v : Value} {n : Nat} {f f2 : Nat → Int} (h : NumsAt w v n f) (e : ∀ i, i < n → f i = f2 i) : NumsAt w v n f2 := by
  obtain ⟨a, cap, h1, h2, h3⟩ := h
  refine ⟨a, cap, h1, h2, fun c hc => ?_⟩
  rw [← e c hc]
  exact h3 c hc
theorem whE_zero (g : Gm) : ∀ n, whE g n = 0 → ∀ r, r < n → Pm.wrong (g.wi r) = 0 ∧ ins (g.nl r) (g.no r) = true
  | 0, _, r, hr => by omega
  | n + 1, h, r, hr => by
    have h0 : whE g n = 0 := by
      by_cases e : whE g n = 0
      · exact e
      · unfold whE at h; rw [if_pos e] at h; exact absurd h e
    unfold whE at h
    rw [if_neg (fun e => e h0)] at h
    have h1 : Pm.wrong (g.wi n) = 0 := by
      by_cases e : Pm.wrong (g.wi n) = 0
      · exact e
      · rw [if_pos e] at h; exact absurd h e
    rw [if_neg (fun e => e h1)] at h
    have h2 : ins (g.nl n) (g.no n) = true := by
      by_cases e : ins (g.nl n) (g.no n) = true
      · exact e
      · rw [if_neg e] at h; cases h
    by_cases e : r = n
    · rw [e]; exact ⟨h1, h2⟩
    · exact whE_zero g n h0 r (by omega)
theorem gE_zero {g : Gm} (h : gE g = 0) : (1 ≤ g.n ∧ g.n ≤ 4) ∧ whE g g.n = 0 ∧ (g.rl = g.n ∧ ins g.rl g.ri = true) ∧ (g.sl = g.n ∧ ins g.sl g.st = true) ∧ (Pm.wrong g.rf = 0 ∧ undo true g.rf = true) ∧ Pm.wrong g.pl = 0 ∧ undo false g.pl = true := by
  unfold gE at h
  by_cases h1 : g.n < 1 ∨ 4 < g.n
  · rw [if_pos h1] at h; cases h
  rw [if_neg h1] at h
  by_cases h2 : whE g g.n ≠ 0
  · rw [if_pos h2] at h; exact absurd h h2
  rw [if_neg h2] at h
  by_cases h3 : g.rl ≠ g.n
  · rw [if_pos h3] at h; cases h
  rw [if_neg h3] at h
  by_cases h4 : ins g.rl g.ri = false
  · rw [if_pos h4] at h; cases h
  rw [if_neg h4] at h
  by_cases h5 : g.sl ≠ g.n
  · rw [if_pos h5] at h; cases h
  rw [if_neg h5] at h
  by_cases h6 : ins g.sl g.st = false
  · rw [if_pos h6] at h; cases h
  rw [if_neg h6] at h
  by_cases h7 : Pm.wrong g.rf ≠ 0
  · rw [if_pos h7] at h; exact absurd h h7
  rw [if_neg h7] at h
  by_cases h8 : undo true g.rf = false
  · rw [if_pos h8] at h; cases h
  rw [if_neg h8] at h
  by_cases h9 : Pm.wrong g.pl ≠ 0
  · rw [if_pos h9] at h; exact absurd h h9
  rw [if_neg h9] at h
  by_cases h10 : undo false g.pl = false
  · rw [if_pos h10] at h; cases h
  exact ⟨⟨by omega, by omega⟩, Decidable.not_not.1 h2, ⟨Decidable.not_not.1 h3, by simpa using h4⟩, ⟨Decidable.not_not.1 h5, by simpa using h6⟩, ⟨Decidable.not_not.1 h7, by simpa using h8⟩, Decidable.not_not.1 h9, by simpa using h10⟩
end Go.Proofs.YtkohhdkkbaifoaaGreatDoor

/-
  Contract of perm.Wrong.
-/
namespace Go.Proofs.YtkohhdkkbaifoaaGreatDoor
open Go.RowKit PK

theorem info_perm : (Tryz.prog.info? 27).map (·.size) = some 26 := by kernel_rfl
theorem info_int : (Tryz.prog.info? 3).map (·.size) = some 1 := by kernel_rfl

/-- One letter more has been met. -/
theorem met_step (f : Nat → Int) (k n : Nat) (h : f k = (n : Int)) : bools 26 (upd (Pm.seen f k) n true) = bools 26 (Pm.seen f (k + 1)) := bools_ext fun i _ => by
  rw [Pm.seen_succ, h]
  by_cases e : i = n
  · subst e; simp
  · rw [upd_other _ _ e]
    have : (n : Int) ≠ (i : Int) := by omega
    simp [this]

set_option maxHeartbeats 1000000 in
theorem wrong_any (f : Nat → Int) (w : World) : Calls Tryz.prog 114 #[.agg (ints 26 f)] w fun e w' => e = .returned (.int .i64 (Pm.wrong f)) ∧ Below w.heap.size w w' := by
  go_enter Tryz.func114, Tryz.ntmps114
  go_wp2_with (refine wpList_load_row rfl 27 _ rfl w.heap.size rfl 27 (ints 26 f) (0, 0) _ ((RowAt.new w _ _).alloc _) Tryz.underlying27 rfl (by rw [ints_size]; exact info_perm) ?_)
  rw [none26]
  go_loopw [7] (fun i W => ∃ k : Nat, k ≤ 26 ∧ i = .int .i64 k ∧ Hid (Pm.wrongN f k = 0) ∧ RowAt W (w.heap.size + 1) 181 (bools 26 (Pm.seen f k)) ∧ Below w.heap.size w W) (fun i _ => (26 - intOf i).toNat)
  case atStart =>
    refine ⟨0, by omega, rfl, rfl, ?_, ((Below.refl _ _).alloc (Nat.le_refl _) _).alloc (by simp) _⟩
    have := RowAt.new (w.alloc (Obj.cells (ints 26 f) 27)) 181 (bools 26 fun x => false)
    rw [World.size_alloc] at this
    exact this
  case round =>
    obtain ⟨k, hk, rfl, HN, hrow, hb⟩ := hrel
    by_cases hlt : k < 26
    · have hg := run_index_ints 27 3 26 Tryz.underlying27 Tryz.underlying3 info_int f k hlt
      by_cases hr : f k < 0 ∨ 26 ≤ f k
      · have H : Hid (Pm.wrong f = 3) := by rw [Hid, Pm.wrong_stop f k HN.out (by rw [Pm.bad_range f k hr]; decide) hlt, Pm.bad_range f k hr]
        rcases hr with hr | hr
        · go_wp2
          go_ret
          exact ⟨ret_int H.out.symm, hb⟩
        · have hr0 : ¬ f k < 0 := by omega
          go_wp2
          go_ret
          exact ⟨ret_int H.out.symm, hb⟩
      · obtain ⟨n, hn⟩ : ∃ n : Nat, f k = n := ⟨(f k).toNat, by omega⟩
        have hn26 : n < 26 := by omega
        have HM : Hid (f k = n) := hn
        rw [hn] at hg
        clear hr hn
        have hc := hrow.cell (bools_get (Pm.seen f k) hn26)
        have hf := hrow.frozen n
        cases hs : Pm.seen f k n
        · rw [hs] at hc
          have HS : Hid (Pm.seen f k n = false) := hs
          clear hs
          go_wp2
          go_roundw
          case rel =>
            refine ⟨k + 1, by omega, by go_num, ?_, ?_, ?_⟩
            · rw [Hid, Pm.wrongN_succ f k HN.out, Pm.bad_ok f k n HM.out hn26 HS.out]
            · rw [← met_step f k n HM.out, ← bools_set]
              exact hrow.set n _
            · exact hb.setCell (by simp) _
          case measure => simp [intOf]; omega
        · rw [hs] at hc
          have HS : Hid (Pm.wrong f = 8) := by
            have h8 := Pm.bad_fit f k n HM.out hn26 hs
            rw [Hid, Pm.wrong_stop f k HN.out (by rw [h8]; decide) hlt, h8]
          clear hs
          go_wp2
          go_ret
          exact ⟨ret_int HS.out.symm, hb⟩
    · have HK : Hid (k = 26) := by rw [Hid]; omega
      go_wp2
      go_ret
      exact ⟨ret_int (Pm.wrong_end f k HN.out HK.out).symm, hb⟩
end Go.Proofs.YtkohhdkkbaifoaaGreatDoor

/-
  Laws of no program: a slice that is built of arrays (what a call with '...' is given).
-/
namespace Go.Proofs.YtkohhdkkbaifoaaGreatDoor.PK
open Go.RowKit

def lay (n : Nat) (g : Nat → Value) (o : Nat) (f : Nat → Int) : Nat → Value := fun i => if o ≤ i ∧ i < o + n then .int .i64 (f (i - o)) else g i
theorem foldl_lay (N : Nat) (off : Nat) : ∀ (l : List Value) (s : Nat) (g : Nat → Value), (l.zipIdx s).foldl (fun cs x => cs.setIfInBounds (off + x.2) x.1) (tab N g) = tab N fun i => if off + s ≤ i ∧ i < off + s + l.length then l.getD (i - (off + s)) (.bool false) else g i
  | [], s, g => by
    simp only [List.zipIdx_nil, List.foldl_nil, List.length_nil]
    exact tab_ext fun i _ => by rw [if_neg (by omega)]
  | v :: l, s, g => by
    simp only [List.zipIdx_cons, List.foldl_cons]
    rw [tab_set, foldl_lay N off l (s + 1)]
    refine tab_ext fun i _ => ?_
    by_cases h1 : i = off + s
    · subst h1
      rw [if_neg (by omega), if_pos (by simp)]
      simp
    · by_cases h2 : off + s ≤ i ∧ i < off + s + (v :: l).length
      · have h3 : off + (s + 1) ≤ i ∧ i < off + (s + 1) + l.length := by simp at h2; omega
        rw [if_pos h3, if_pos h2]
        obtain ⟨j, hj⟩ : ∃ j, i - (off + s) = j + 1 := ⟨i - (off + s) - 1, by omega⟩
        have hj' : i - (off + (s + 1)) = j := by omega
        rw [hj, hj']
        simp
      · rw [if_neg (by simp at h2; omega), if_neg h2]
        simp [upd, h1]
theorem ints_toList (n : Nat) (f : Nat → Int) : (ints n f).toList = (List.range n).map fun i => .int .i64 (f i) := by simp [ints, tab]
theorem fill_step (n N : Nat) (g : Nat → Value) (k : Nat) (f : Nat → Int) (rest : List (Nat × Value)) (h : k * n + n ≤ N) :
    Instr.fill (fun i => some (i * n, n)) (tab N g) ((k, .agg (ints n f)) :: rest) = Instr.fill (fun i => some (i * n, n)) (tab N (lay n g (k * n) f)) rest := by
  rw [Instr.fill]
  have h0 : (Value.agg (ints n f)).cells = ints n f := rfl
  simp only [h0, ints_size, tab_size]
  rw [if_neg (by simp <;> omega)]
  congr 1
  rw [← Array.foldl_toList, Array.toList_zipIdx]
  have := foldl_lay N (k * n) (ints n f).toList 0 g
  rw [this]
  refine tab_ext fun i _ => ?_
  rw [ints_toList]
  simp only [List.length_map, List.length_range, Nat.add_zero, lay]
  by_cases e : k * n ≤ i ∧ i < k * n + n
  · rw [if_pos e, if_pos e]
    have : i - k * n < n := by omega
    simp [List.getD, this]
  · rw [if_neg e, if_neg e]
theorem range_tab (N : Nat) (h : Nat → Value) : (Array.range N).map h = tab N h := by
  apply Array.ext_getElem?
  intro i
  by_cases h1 : i < N
  · simp [tab, h1]
  · simp [tab, h1]

section
variable {P : Program}
theorem run_build1 (w : World) (t e : TypeId) (n : Nat) (hn : n * 2 ≤ 2 ^ 24) (hu : P.underlying t = some (.slice e)) (hz : (P.info? e).map (fun i => (i.zero, i.size)) = some (some (.agg (ints n fun _ => 0)), n)) (h0 : 0 < n) (f : Nat → Int) :
    (Instr.buildSlice t 1 #[(0, .agg (ints n f))]).run P w = .ok (.slice (some ⟨w.heap.size, 0, none⟩) 1 1) (w.alloc (.cells (ints n f) e)) := by
  obtain ⟨hz1, hz2⟩ := zero_of_info hz
  cases hq : P.info? e with
  | none => simp [hq] at hz
  | some i =>
    have hs : i.size = n := by simpa [hq] using hz2
    have hsz : ∀ W, (sizeOf e).run P W = .ok n W := fun W => by simp [sizeOf, typeInfo, hq, hs]
    have hlay : tab n (lay n (fun x => (ints n fun _ => 0)[x % n]!) (0 * n) f) = ints n f := tab_ext fun i hi => by
      unfold lay
      rw [if_pos (by omega)]
      simp
    have hfill := fill_step n n (fun x => (ints n fun _ => 0)[x % n]!) 0 f [] (by omega)
    rw [hlay] at hfill
    have hfill' := hfill.trans (rfl : _ = some (ints n f))
    have h3 : ¬ (n > 2 ^ 24) := by omega
    have h4 : ¬ (n = 0) := by omega
    have hc : (Value.agg (ints n fun _ => 0)).cells = ints n fun _ => 0 := rfl
    simp only [Instr.buildSlice, Sem.run_bind, run_underlying hu, Result.andThen_ok, hsz, Nat.one_mul, h3, h4, if_false, hz1, Sem.run_pure, hc, ints_size, range_tab, hfill']
    simp [newRow]
theorem run_build2 (w : World) (t e : TypeId) (n : Nat) (hn : n * 2 ≤ 2 ^ 24) (hu : P.underlying t = some (.slice e)) (hz : (P.info? e).map (fun i => (i.zero, i.size)) = some (some (.agg (ints n fun _ => 0)), n)) (h0 : 0 < n) (f g : Nat → Int) :
    (Instr.buildSlice t 2 #[(0, .agg (ints n f)), (1, .agg (ints n g))]).run P w = .ok (.slice (some ⟨w.heap.size, 0, none⟩) 2 2) (w.alloc (.cells (ints (2 * n) fun i => if i < n then f i else g (i - n)) e)) := by
  obtain ⟨hz1, hz2⟩ := zero_of_info hz
  cases hq : P.info? e with
  | none => simp [hq] at hz
  | some i =>
    have hs : i.size = n := by simpa [hq] using hz2
    have hsz : ∀ W, (sizeOf e).run P W = .ok n W := fun W => by simp [sizeOf, typeInfo, hq, hs]
    have hlay : tab (2 * n) (lay n (lay n (fun x => (ints n fun _ => 0)[x % n]!) (0 * n) f) (1 * n) g) = ints (2 * n) fun i => if i < n then f i else g (i - n) := tab_ext fun i hi => by
      unfold lay
      by_cases e : i < n
      · rw [if_neg (by omega), if_pos (by omega)]; simp [e]
      · rw [if_pos (by omega)]; simp [e]
    have hfill := fill_step n (2 * n) (fun x => (ints n fun _ => 0)[x % n]!) 0 f [(1, .agg (ints n g))] (by omega)
    rw [fill_step n (2 * n) _ 1 g [] (by omega), hlay] at hfill
    have hfill' := hfill.trans (rfl : _ = some (ints (2 * n) fun i => if i < n then f i else g (i - n)))
    have h3 : ¬ (2 * n > 2 ^ 24) := by omega
    have h4 : ¬ (2 * n = 0) := by omega
    have hc : (Value.agg (ints n fun _ => 0)).cells = ints n fun _ => 0 := rfl
    simp only [Instr.buildSlice, Sem.run_bind, run_underlying hu, Result.andThen_ok, hsz, h3, h4, if_false, hz1, Sem.run_pure, hc, ints_size, range_tab, hfill']
    simp [newRow]
theorem wpList_build0 {ops : Array Oper} {rest : List Oper} {op : Oper} {a : Act} {w : World} {Q : Exit → Act → World → Prop} (hgd : op.guard = none) (t : TypeId) (ho : op.op = .build t #[])
    (cells : Array Value) (hb : P.built t [] = some cells) (h : wpList P ops Q rest (a.put op.dst (.agg cells)) w) : wpList P ops Q (op :: rest) a w :=
  wpList_plain hgd fun _ hK => by
    unfold Oper.wp execOp
    have hm : (#[] : Array (Nat × Operand)).map (fun (i, x) => (i, a.eval x)) = #[] := by simp
    simp only [ho, Sem.run_bind, hm, run_build w t #[] cells hb, Result.andThen_ok]
    exact hK _ _ h
theorem wpList_build1 {ops : Array Oper} {rest : List Oper} {op : Oper} {a : Act} {w : World} {Q : Exit → Act → World → Prop} (hgd : op.guard = none) (t e : TypeId) (x : Operand) (ho : op.op = .buildSlice t 1 #[(0, x)])
    (n : Nat) (f : Nat → Int) (hx : a.eval x = .agg (ints n f)) (hn : n * 2 ≤ 2 ^ 24) (hu : P.underlying t = some (.slice e)) (hz : (P.info? e).map (fun i => (i.zero, i.size)) = some (some (.agg (ints n fun _ => 0)), n)) (h0 : 0 < n)
    (h : wpList P ops Q rest (a.put op.dst (.slice (some ⟨w.heap.size, 0, none⟩) 1 1)) (w.alloc (.cells (ints n f) e))) : wpList P ops Q (op :: rest) a w :=
  wpList_plain hgd fun _ hK => by
    unfold Oper.wp execOp
    have hm : (#[(0, x)] : Array (Nat × Operand)).map (fun (i, x) => (i, a.eval x)) = #[(0, .agg (ints n f))] := by simp [hx]
    simp only [ho, Sem.run_bind, hm, run_build1 w t e n hn hu hz h0 f, Result.andThen_ok]
    exact hK _ _ h
theorem wpList_build2 {ops : Array Oper} {rest : List Oper} {op : Oper} {a : Act} {w : World} {Q : Exit → Act → World → Prop} (hgd : op.guard = none) (t e : TypeId) (x y : Operand) (ho : op.op = .buildSlice t 2 #[(0, x), (1, y)])
    (n : Nat) (f g : Nat → Int) (hx : a.eval x = .agg (ints n f)) (hy : a.eval y = .agg (ints n g)) (hn : n * 2 ≤ 2 ^ 24) (hu : P.underlying t = some (.slice e)) (hz : (P.info? e).map (fun i => (i.zero, i.size)) = some (some (.agg (ints n fun _ => 0)), n)) (h0 : 0 < n)
    (h : wpList P ops Q rest (a.put op.dst (.slice (some ⟨w.heap.size, 0, none⟩) 2 2)) (w.alloc (.cells (ints (2 * n) fun i => if i < n then f i else g (i - n)) e))) : wpList P ops Q (op :: rest) a w :=
  wpList_plain hgd fun _ hK => by
    unfold Oper.wp execOp
    have hm : (#[(0, x), (1, y)] : Array (Nat × Operand)).map (fun (i, x) => (i, a.eval x)) = #[(0, .agg (ints n f)), (1, .agg (ints n g))] := by simp [hx, hy]
    simp only [ho, Sem.run_bind, hm, run_build2 w t e n hn hu hz h0 f g, Result.andThen_ok]
    exact hK _ _ h
end
theorem results_cell_tmp2 {P : Program} {fn : Func} {p q : Tmp} {ty : TypeId} (h : fn.results = #[.cell p ty, .tmp q]) (tmps : Array Value) (w : World) (g : Nat) (t : TypeId) (cs : Array Value) (fr : Nat × Nat) (d : TypeDesc) (v : Value)
    (hp : tmps.getD p undef = .pointer (some ⟨g, 0, none⟩)) (hv : tmps.getD q undef = v) (hg : w.heap[g]? = some (.cells cs t fr))
    (hu : P.underlying ty = some d) (hd : (match d with | .struct _ | .array _ _ => true | _ => false) = true) (hi : (P.info? ty).map (·.size) = some cs.size) :
    (results fn tmps).run P w = .ok (.tuple #[.agg cs, v]) w := by
  have hp' : tmps[p]?.getD undef = .pointer (some ⟨g, 0, none⟩) := by simpa using hp
  have hv' : tmps[q]?.getD undef = v := by simpa using hv
  simp [results, h, hp', hv', asAddr, run_loadVar_row w g t ty cs fr d hg hu hd hi]
/-- The two arrays, read out of such a block. -/
theorem range_one {w : World} {b : Nat} {T : TypeId} {f : Nat → Int} (h : RowAt w b T (ints 26 f)) : ∀ k, k < 1 → w.rangeAt b (k * 26) (ints 26 f).toList := fun k hk => by
  have : k = 0 := by omega
  subst this
  exact h.range
theorem range_two {w : World} {b : Nat} {T : TypeId} {f g : Nat → Int} (h : RowAt w b T (ints (2 * 26) fun i => if i < 26 then f i else g (i - 26))) : ∀ k, k < 2 → w.rangeAt b (k * 26) (ints 26 (if k = 0 then f else g)).toList := fun k hk j v hv => by
  have hj : j < 26 := by
    have := (List.getElem?_eq_some_iff.1 hv).1
    simpa [ints_size] using this
  have hv' : (ints 26 (if k = 0 then f else g))[j]? = some v := by simpa using hv
  rw [ints_get _ hj] at hv'
  have hc := h.cell (ints_get (n := 2 * 26) (fun i => if i < 26 then f i else g (i - 26)) (i := k * 26 + j) (by omega))
  rw [hc, ← hv']
  rcases (by omega : k = 0 ∨ k = 1) with rfl | rfl
  · simp [hj]
  · simp
    intro h5
    omega
/-- Behind a call that leaves what was there: two boxed arrays, the result's place, the slice that was built. -/
theorem after2 {w W1 : World} {T : TypeId} {f g z c : Nat → Int} {n : Nat} (hb : Below ((((w.alloc (.cells (ints 26 f) T)).alloc (.cells (ints 26 g) T)).alloc (.cells (ints 26 z) T)).alloc (.cells (ints n c) T)).heap.size ((((w.alloc (.cells (ints 26 f) T)).alloc (.cells (ints 26 g) T)).alloc (.cells (ints 26 z) T)).alloc (.cells (ints n c) T)) W1) :
    RowAt W1 w.heap.size T (ints 26 f) ∧ RowAt W1 (w.heap.size + 1) T (ints 26 g) ∧ RowAt W1 (w.heap.size + 1 + 1) T (ints 26 z) ∧ Below w.heap.size w W1 ∧ w.heap.size + 4 ≤ W1.heap.size := by
  have hs := hb.size
  simp at hs
  refine ⟨RowAt.below (((RowAt.new w _ _).alloc _).alloc _ |>.alloc _) hb (by simp <;> omega), RowAt.below ?_ hb (by simp <;> omega), RowAt.below ?_ hb (by simp), ?_, hs⟩
  · have := RowAt.new (w.alloc (.cells (ints 26 f) T)) T (ints 26 g)
    rw [World.size_alloc] at this
    exact (this.alloc _).alloc _
  · have := RowAt.new ((w.alloc (.cells (ints 26 f) T)).alloc (.cells (ints 26 g) T)) T (ints 26 z)
    rw [World.size_alloc, World.size_alloc] at this
    exact this.alloc _
  · exact ((((((Below.refl _ _).alloc (Nat.le_refl _) _).alloc (by simp) _).alloc (by simp <;> omega) _).alloc (by simp <;> omega) _).trans (hb.mono (by simp <;> omega)))
theorem after1 {w W1 : World} {T : TypeId} {f z c : Nat → Int} {n : Nat} (hb : Below (((w.alloc (.cells (ints 26 f) T)).alloc (.cells (ints 26 z) T)).alloc (.cells (ints n c) T)).heap.size (((w.alloc (.cells (ints 26 f) T)).alloc (.cells (ints 26 z) T)).alloc (.cells (ints n c) T)) W1) :
    RowAt W1 w.heap.size T (ints 26 f) ∧ RowAt W1 (w.heap.size + 1) T (ints 26 z) ∧ Below w.heap.size w W1 ∧ w.heap.size + 3 ≤ W1.heap.size := by
  have hs := hb.size
  simp at hs
  refine ⟨RowAt.below (((RowAt.new w _ _).alloc _).alloc _) hb (by simp <;> omega), RowAt.below ?_ hb (by simp), ?_, hs⟩
  · have := RowAt.new (w.alloc (.cells (ints 26 f) T)) T (ints 26 z)
    rw [World.size_alloc] at this
    exact this.alloc _
  · exact (((((Below.refl _ _).alloc (Nat.le_refl _) _).alloc (by simp) _).alloc (by simp <;> omega) _).trans (hb.mono (by simp <;> omega)))
/-- One boxed array alone (no result's place), and the slice that was built. -/
theorem after0 {w W1 : World} {T : TypeId} {f c : Nat → Int} {n : Nat} (hb : Below ((w.alloc (.cells (ints 26 f) T)).alloc (.cells (ints n c) T)).heap.size ((w.alloc (.cells (ints 26 f) T)).alloc (.cells (ints n c) T)) W1) :
    RowAt W1 w.heap.size T (ints 26 f) ∧ Below w.heap.size w W1 ∧ w.heap.size + 2 ≤ W1.heap.size := by
  have hs := hb.size
  simp at hs
  refine ⟨RowAt.below ((RowAt.new w _ _).alloc _) hb (by simp <;> omega), ?_, hs⟩
  exact ((((Below.refl _ _).alloc (Nat.le_refl _) _).alloc (by simp) _).trans (hb.mono (by simp <;> omega)))
theorem RowAt.newAt {w : World} {b : Nat} {T : TypeId} {c : Array Value} (h : b = w.heap.size) : RowAt (w.alloc (.cells c T)) b T c := by subst h; exact RowAt.new _ _ _
end Go.Proofs.YtkohhdkkbaifoaaGreatDoor.PK
