/-
  Several texts, joined: HKit, ScA.
-/
import Derived.Test.YtkohhdkkbaifoaaGreatDoorJn1
import Derived.Defers
import Derived.Recover
/-
  Laws of no program: slices of numbers and of such slices, read in a world; what is wrong with a matrix.
-/
namespace Go.Proofs.YtkohhdkkbaifoaaGreatDoor.PK
open Go.RowKit

/-- v is a slice of n numbers: in w number c is f c. -/
def NumsAt (w : World) (v : Value) (n : Nat) (f : Nat → Int) : Prop :=
  ∃ (a : Option Addr) (cap : Nat), v = .slice a n cap ∧ n ≤ maxLen ∧ ∀ c, c < n → ∃ b o, a = some ⟨b, o, none⟩ ∧ w.cell? ⟨b, o + c, none⟩ = some (.int .i64 (f c))
/-- v is a slice of n slices of numbers: in w row r has L r of them, number c of it is Z r c. -/
def MatAt (w : World) (v : Value) (n : Nat) (L : Nat → Nat) (Z : Nat → Nat → Int) : Prop :=
  ∃ (a : Option Addr) (cap : Nat) (R : Nat → Value), v = .slice a n cap ∧ n ≤ maxLen ∧ (∀ r, r < n → ∃ b o, a = some ⟨b, o, none⟩ ∧ w.cell? ⟨b, o + r, none⟩ = some (R r)) ∧ ∀ r, r < n → NumsAt w (R r) (L r) (Z r)
theorem cell_block {w : World} {a : Addr} {v : Value} (h : w.cell? a = some v) : a.block < w.heap.size := World.block_lt_of_cell? _ _ h
theorem NumsAt.below {w w' : World} {v : Value} {n : Nat} {f : Nat → Int} (h : NumsAt w v n f) (hb : Below w.heap.size w w') : NumsAt w' v n f := by
  obtain ⟨a, cap, h1, h2, h3⟩ := h
  refine ⟨a, cap, h1, h2, fun c hc => ?_⟩
  obtain ⟨b, o, e, hcell⟩ := h3 c hc
  exact ⟨b, o, e, (hb.cell (p := ⟨b, o + c, none⟩) (cell_block hcell)).trans hcell⟩
theorem MatAt.below {w w' : World} {v : Value} {n : Nat} {L : Nat → Nat} {Z : Nat → Nat → Int} (h : MatAt w v n L Z) (hb : Below w.heap.size w w') : MatAt w' v n L Z := by
  obtain ⟨a, cap, R, h1, h2, h3, h4⟩ := h
  refine ⟨a, cap, R, h1, h2, fun r hr => ?_, fun r hr => (h4 r hr).below hb⟩
  obtain ⟨b, o, e, hcell⟩ := h3 r hr
  exact ⟨b, o, e, (hb.cell (p := ⟨b, o + r, none⟩) (cell_block hcell)).trans hcell⟩
theorem NumsAt.alloc {w : World} {v : Value} {n : Nat} {f : Nat → Int} (h : NumsAt w v n f) (o : Obj) : NumsAt (w.alloc o) v n f := h.below ((Below.refl _ _).alloc (Nat.le_refl _) _)
theorem MatAt.alloc {w : World} {v : Value} {n : Nat} {L : Nat → Nat} {Z : Nat → Nat → Int} (h : MatAt w v n L Z) (o : Obj) : MatAt (w.alloc o) v n L Z := h.below ((Below.refl _ _).alloc (Nat.le_refl _) _)
theorem NumsAt.drew {w : World} {v : Value} {n : Nat} {f : Nat → Int} (h : NumsAt w v n f) : NumsAt w.drew v n f := h
theorem MatAt.drew {w : World} {v : Value} {n : Nat} {L : Nat → Nat} {Z : Nat → Nat → Int} (h : MatAt w v n L Z) : MatAt w.drew v n L Z := h
theorem NumsAt.congr {w : World} {v : Value} {n : Nat} {f g : Nat → Int} (h : NumsAt w v n f) (e : ∀ c, c < n → f c = g c) : NumsAt w v n g := by
  obtain ⟨a, cap, h1, h2, h3⟩ := h
  refine ⟨a, cap, h1, h2, fun c hc => ?_⟩
  rw [← e c hc]
  exact h3 c hc
theorem MatAt.congr {w : World} {v : Value} {n : Nat} {L L' : Nat → Nat} {Z Z' : Nat → Nat → Int} (h : MatAt w v n L Z) (eL : ∀ r, r < n → L r = L' r) (eZ : ∀ r, r < n → ∀ c, c < L r → Z r c = Z' r c) : MatAt w v n L' Z' := by
  obtain ⟨a, cap, R, h1, h2, h3, h4⟩ := h
  refine ⟨a, cap, R, h1, h2, h3, fun r hr => ?_⟩
  rw [← eL r hr]
  exact (h4 r hr).congr (eZ r hr)
/-- A slice that is not empty has an address. -/
theorem NumsAt.form {w : World} {v : Value} {n : Nat} {f : Nat → Int} (h : NumsAt w v n f) (hn : 0 < n) : ∃ b o cap, v = .slice (some ⟨b, o, none⟩) n cap ∧ n ≤ maxLen ∧ ∀ c, c < n → w.cell? ⟨b, o + c, none⟩ = some (.int .i64 (f c)) := by
  obtain ⟨a, cap, h1, h2, h3⟩ := h
  obtain ⟨b, o, e, _⟩ := h3 0 hn
  subst e
  refine ⟨b, o, cap, h1, h2, fun c hc => ?_⟩
  obtain ⟨b', o', e', hcell⟩ := h3 c hc
  cases e'
  exact hcell
theorem MatAt.form {w : World} {v : Value} {n : Nat} {L : Nat → Nat} {Z : Nat → Nat → Int} (h : MatAt w v n L Z) (hn : 0 < n) : ∃ (b o cap : Nat) (R : Nat → Value), v = .slice (some ⟨b, o, none⟩) n cap ∧ n ≤ maxLen ∧ (∀ r, r < n → w.cell? ⟨b, o + r, none⟩ = some (R r)) ∧ ∀ r, r < n → NumsAt w (R r) (L r) (Z r) := by
  obtain ⟨a, cap, R, h1, h2, h3, h4⟩ := h
  obtain ⟨b, o, e, _⟩ := h3 0 hn
  subst e
  refine ⟨b, o, cap, R, h1, h2, fun r hr => ?_, h4⟩
  obtain ⟨b', o', e', hcell⟩ := h3 r hr
  cases e'
  exact hcell
theorem NumsAt.len {w : World} {v : Value} {n : Nat} {f : Nat → Int} (h : NumsAt w v n f) : ∃ a cap, v = .slice a n cap ∧ n ≤ maxLen := by
  obtain ⟨a, cap, h1, h2, _⟩ := h
  exact ⟨a, cap, h1, h2⟩
theorem MatAt.len {w : World} {v : Value} {n : Nat} {L : Nat → Nat} {Z : Nat → Nat → Int} (h : MatAt w v n L Z) : ∃ a cap, v = .slice a n cap ∧ n ≤ maxLen := by
  obtain ⟨a, cap, R, h1, h2, _⟩ := h
  exact ⟨a, cap, h1, h2⟩
theorem NumsAt.of_row {w : World} {g n cap : Nat} {T : TypeId} {f : Nat → Int} (h : RowAt w g T (ints n f)) (hn : n ≤ maxLen) : NumsAt w (.slice (some ⟨g, 0, none⟩) n cap) n f :=
  ⟨some ⟨g, 0, none⟩, cap, rfl, hn, fun c hc => ⟨g, 0, rfl, by have := h.cell (ints_get f hc); simpa using this⟩⟩
theorem MatAt.nil (w : World) (L : Nat → Nat) (Z : Nat → Nat → Int) : MatAt w (.slice none 0 0) 0 L Z := ⟨none, 0, fun _ => .bool false, rfl, by decide, fun r hr => by omega, fun r hr => by omega⟩

/-- The first of n that is not 0. -/
def firstE (g : Nat → Int) : Nat → Int
  | 0 => 0
  | k + 1 => if firstE g k ≠ 0 then firstE g k else g k
theorem firstE_zero (g : Nat → Int) : ∀ n, firstE g n = 0 ↔ ∀ k, k < n → g k = 0
  | 0 => ⟨fun _ k hk => by omega, fun _ => rfl⟩
  | n + 1 => by
    show (if firstE g n ≠ 0 then firstE g n else g n) = 0 ↔ _
    have ih := firstE_zero g n
    by_cases h : firstE g n = 0
    · rw [if_neg (by simp [h])]
      refine ⟨fun hn k hk => ?_, fun hk => hk n (by omega)⟩
      by_cases e : k = n
      · rw [e]; exact hn
      · exact ih.1 h k (by omega)
    · rw [if_pos h]
      exact ⟨fun hc => absurd hc h, fun hk => absurd (ih.2 fun k hk' => hk k (by omega)) h⟩
theorem firstE_step (g : Nat → Int) (k : Nat) (h : firstE g k = 0) : firstE g (k + 1) = g k := by
  show (if firstE g k ≠ 0 then firstE g k else g k) = g k
  rw [if_neg (by simp [h])]
theorem firstE_keep (g : Nat → Int) (k : Nat) (h : firstE g k ≠ 0) : ∀ n, k ≤ n → firstE g n = firstE g k := fun n hn => by
  induction hn with
  | refl => rfl
  | step _ ih =>
    show (if firstE g _ ≠ 0 then firstE g _ else g _) = _
    rw [if_pos (by rw [ih]; exact h), ih]
/-- A number of a matrix: 0 if it may stand there, else ErrRange. -/
def numErr (x : Int) : Int := if x < 0 ∨ 26 ≤ x then 3 else 0
/-- What is wrong with a row of l numbers among n rows. -/
def rowErr (l n : Nat) (f : Nat → Int) : Int := if l ≠ n then 8 else firstE (fun c => numErr (f c)) l
/-- What is wrong with n rows. -/
def matErr (n : Nat) (L : Nat → Nat) (Z : Nat → Nat → Int) : Int := if n < 1 ∨ 4 < n then 5 else firstE (fun r => rowErr (L r) n (Z r)) n
theorem numErr_zero (x : Int) : numErr x = 0 ↔ 0 ≤ x ∧ x < 26 := by
  unfold numErr
  by_cases h : x < 0 ∨ 26 ≤ x
  · rw [if_pos h]; constructor
    · intro h; cases h
    · omega
  · rw [if_neg h]; constructor
    · intro _; omega
    · intro _; rfl
theorem rowErr_zero (l n : Nat) (f : Nat → Int) : rowErr l n f = 0 ↔ l = n ∧ ∀ c, c < n → 0 ≤ f c ∧ f c < 26 := by
  unfold rowErr
  by_cases h : l = n
  · subst h
    rw [if_neg (by simp), firstE_zero]
    exact ⟨fun h => ⟨rfl, fun c hc => (numErr_zero _).1 (h c hc)⟩, fun h c hc => (numErr_zero _).2 (h.2 c hc)⟩
  · rw [if_pos h]
    exact ⟨fun h => (by cases h), fun hh => absurd hh.1 h⟩
/-- A matrix: n rows of n numbers from 0 to 25. -/
structure GoodM (n : Nat) (Z : Nat → Nat → Int) : Prop where
  pos : 1 ≤ n
  le : n ≤ 4
  num : ∀ r, r < n → ∀ c, c < n → 0 ≤ Z r c ∧ Z r c < 26
theorem matErr_zero (n : Nat) (L : Nat → Nat) (Z : Nat → Nat → Int) : matErr n L Z = 0 ↔ GoodM n Z ∧ ∀ r, r < n → L r = n := by
  unfold matErr
  by_cases h : n < 1 ∨ 4 < n
  · rw [if_pos h]
    refine ⟨fun h => (by cases h), fun hh => ?_⟩
    have h1 := hh.1.pos
    have h2 := hh.1.le
    omega
  · rw [if_neg h, firstE_zero]
    constructor
    · intro hh
      refine ⟨⟨by omega, by omega, fun r hr c hc => ?_⟩, fun r hr => ?_⟩
      · exact ((rowErr_zero _ _ _).1 (hh r hr)).2 c hc
      · exact ((rowErr_zero _ _ _).1 (hh r hr)).1
    · rintro ⟨hg, hL⟩ r hr
      exact (rowErr_zero _ _ _).2 ⟨hL r hr, hg.num r hr⟩
theorem rowErr_cases (l n : Nat) (f : Nat → Int) : rowErr l n f = 0 ∨ (rowErr l n f != 0) = true := by
  by_cases h : rowErr l n f = 0
  · exact .inl h
  · exact .inr (by simpa using h)
end Go.Proofs.YtkohhdkkbaifoaaGreatDoor.PK

/-
  Faults that are thrown, and the edge at which they are caught (chapter 17): throw, pass, atEdge.
-/
namespace Go.Proofs.YtkohhdkkbaifoaaGreatDoor
open Go.RowKit PK

/-- A fault that is thrown. -/
def flt (E A : Int) : PanicEntry := { v := .iface 35 (.agg #[.int .i64 E, .int .i64 A]), recovered := false }
def fltV (E A : Int) : Value := .agg #[.int .i64 E, .int .i64 A]

set_option maxRecDepth 100000 in
theorem throw_any (E A : Int) (w : World) : Calls Tryz.prog 48 #[.int .i64 E, .int .i64 A] w fun e w' => e = .panicked [flt E A] ∧ w' = w := by
  go_enter Tryz.func48, Tryz.ntmps48
  go_wp2
  exact ⟨rfl, rfl, rfl⟩
set_option maxRecDepth 100000 in
theorem pass_ok (A : Int) (w : World) : Calls Tryz.prog 37 #[.int .i64 0, .int .i64 A] w fun e w' => e = .returned (.tuple #[]) ∧ w' = w := by
  go_enter Tryz.func37, Tryz.ntmps37
  go_wp2
  go_end0
  exact ⟨rfl, rfl⟩
set_option maxRecDepth 100000 in
theorem pass_bad (E A : Int) (h : (E != 0) = true) (w : World) : Calls Tryz.prog 37 #[.int .i64 E, .int .i64 A] w fun e w' => e = .panicked [flt E A] ∧ w' = w := by
  have HT : Hid _ := throw_any E A w
  go_enter Tryz.func37, Tryz.ntmps37
  go_wp2_with fail
  refine Calls.mono HT.out ?_
  rintro e w' ⟨rfl, rfl⟩
  exact ⟨rfl, rfl, rfl⟩
theorem mkf (fn : Fn) (first cap : Array Value) (w : World) : (Instr.makeFunc fn first cap).run Tryz.prog w = .ok (.func fn first cap) w := rfl
/-- The box of the fault. -/
def fbox (w : World) : World := w.alloc (.cells #[.int .i64 0, .int .i64 0] 35)
theorem as_fault (v : Value) (w : World) : (Instr.typeAssert (.iface 35 v) 20 35 false).run Tryz.prog w = .ok v w := by kernel_rfl
theorem f_info : (Tryz.prog.info? 35).map (·.size) = some 2 := by kernel_rfl
theorem results_tmp_cell {P : Program} {fn : Func} {p q : Tmp} {ty : TypeId} (h : fn.results = #[.tmp p, .cell q ty]) (tmps : Array Value) (w : World) (g : Nat) (t : TypeId) (cs : Array Value) (fr : Nat × Nat) (d : TypeDesc) (v : Value)
    (hv : tmps.getD p undef = v) (hp : tmps.getD q undef = .pointer (some ⟨g, 0, none⟩)) (hg : w.heap[g]? = some (.cells cs t fr)) (hu : P.underlying ty = some d) (hd : (match d with | .struct _ | .array _ _ => true | _ => false) = true) (hi : (P.info? ty).map (·.size) = some cs.size) :
    (results fn tmps).run P w = .ok (.tuple #[v, .agg cs]) w := by
  have hp' : tmps[q]?.getD undef = .pointer (some ⟨g, 0, none⟩) := by simpa using hp
  have hv' : tmps[p]?.getD undef = v := by simpa using hv
  simp [results, h, hp', hv', asAddr, run_loadVar_row w g t ty cs fr d hg hu hd hi]
set_option maxRecDepth 100000 in
theorem catchS_idle (p : Addr) (w : World) : CallsD Tryz.prog 72 #[.pointer (some p)] .returning w fun e u' w' => e = .returned (.tuple #[]) ∧ u' = .returning ∧ w' = w := by
  refine callsD_of_wpS Tryz.func72 rfl fun c₀ cs hu => ?_
  apply wpS_seq
  apply wpS_region
  simp [wpOpsS, go_sem, recoverD, hu, Tryz.ntmps72, Exit.thenS]
  refine wpS_of_wp ?_
  simp only [Array.replicate_succ, Array.replicate_zero, List.push_toArray, List.append_toArray, List.nil_append, List.cons_append, List.setIfInBounds_toArray, List.set_cons_zero, List.set_cons_succ]
  go_wp2
  cases c₀
  simp_all [bodyPostS, results, Tryz.results72]
set_option maxRecDepth 100000 in
theorem catchS_bad (b : Nat) (E A : Int) (w : World) (hb : RowAt w b 35 #[.int .i64 0, .int .i64 0]) : CallsD Tryz.prog 72 #[.pointer (some ⟨b, 0, none⟩)] (.panicking [flt E A]) w fun e u' w' =>
      e = .returned (.tuple #[]) ∧ u' = .panicking [{ flt E A with recovered := true }] ∧ w' = (w.setCell ⟨b, 0, none⟩ (.int .i64 E)).setCell ⟨b, 1, none⟩ (.int .i64 A) := by
  have c0 := hb.cell (i := 0) rfl
  have c1 := hb.cell (i := 1) rfl
  have f0 := hb.frozen 0
  have f1 := hb.frozen 1
  have hta := as_fault
  unfold flt
  refine callsD_of_wpS Tryz.func72 rfl fun c₀ cs hu => ?_
  apply wpS_seq
  apply wpS_region
  simp [wpOpsS, go_sem, recoverD, hu, Tryz.ntmps72, Exit.thenS]
  refine wpS_of_wp ?_
  simp only [Array.replicate_succ, Array.replicate_zero, List.push_toArray, List.append_toArray, List.nil_append, List.cons_append, List.setIfInBounds_toArray, List.set_cons_zero, List.set_cons_succ]
  go_wp2
  cases c₀
  simp_all [bodyPostS, results, Tryz.results72]
set_option maxRecDepth 100000 in
set_option maxHeartbeats 1000000 in
/-- The edge, where nothing is thrown. -/
theorem edgeS_ok (m : Nat) (caps : Array Value) (he : ∀ args w, (callFunc m args).run Tryz.prog w = .ok (.enter m args) w) (w : World) (B : Nat) (hB : B ≤ w.heap.size) (K : Value → World → Prop)
    (H : Calls Tryz.prog m caps (fbox w) fun e w' => ∃ v, e = .returned v ∧ v.oneCell' = true ∧ K v w' ∧ RowAt w' w.heap.size 35 #[.int .i64 0, .int .i64 0] ∧ Below B (fbox w) w') :
    Calls Tryz.prog 34 #[.func (.func m) #[] caps] w fun e w' => ∃ v, e = .returned (.tuple #[v, fltV 0 0]) ∧ (∃ w1, K v w1 ∧ w' = (w1.setCell ⟨w.heap.size, 0, none⟩ (.int .i64 0)).setCell ⟨w.heap.size, 1, none⟩ (.int .i64 0)) ∧ Below B w w' := by
  have hmf := mkf
  have HH : Hid _ := H
  have HBN : Hid (B ≤ w.heap.size) := hB
  clear H
  go_enter_defers Tryz.func34, Tryz.ntmps34
  go_wp2_with fail
  refine Calls.mono HH.out ?_
  rintro e w1 ⟨v, rfl, h1, hk, hr, hb⟩
  have c0 := hr.cell (i := 0) rfl
  have c1 := hr.cell (i := 1) rfl
  have f0 := hr.frozen 0
  have f1 := hr.frozen 1
  have HK : Hid (K v w1) := hk
  have HR2 : Hid (RowAt ((w1.setCell ⟨w.heap.size, 0, none⟩ (.int .i64 0)).setCell ⟨w.heap.size, 1, none⟩ (.int .i64 0)) w.heap.size 35 #[.int .i64 0, .int .i64 0]) := (hr.set 0 _).set 1 _
  have HBW : Hid (Below B w w1) := ((Below.refl _ w).alloc hB _).trans hb
  clear hk hb hr
  go_wp2
  refine leaves_cons (f := 72) (args := #[.pointer (some ⟨w.heap.size, 0, none⟩)]) (by simp) (by simp [go_sem]) ?_
  refine (catchS_idle ⟨w.heap.size, 0, none⟩ _).mono ?_
  rintro e u' w'' ⟨rfl, rfl, rfl⟩
  refine ⟨_, results_tmp_cell rfl _ _ w.heap.size 35 #[.int .i64 0, .int .i64 0] (0, 0) _ v rfl rfl HR2.out Tryz.underlying35 rfl f_info, v, rfl, ⟨w1, HK.out, rfl⟩, ?_⟩
  exact (HBW.out.setCell (p := ⟨w.heap.size, 0, none⟩) HBN.out _).setCell (p := ⟨w.heap.size, 1, none⟩) HBN.out _
set_option maxRecDepth 100000 in
set_option maxHeartbeats 1000000 in
/-- The edge, where a fault is thrown. -/
theorem edgeS_bad (m : Nat) (caps : Array Value) (he : ∀ args w, (callFunc m args).run Tryz.prog w = .ok (.enter m args) w) (w : World) (B : Nat) (hB : B ≤ w.heap.size) (E A : Int) (K : World → Prop)
    (H : Calls Tryz.prog m caps (fbox w) fun e w' => e = .panicked [flt E A] ∧ K w' ∧ RowAt w' w.heap.size 35 #[.int .i64 0, .int .i64 0] ∧ Below B (fbox w) w') :
    Calls Tryz.prog 34 #[.func (.func m) #[] caps] w fun e w' => e = .returned (.tuple #[.string ⟨#[]⟩, fltV E A]) ∧ (∃ w1, K w1 ∧ w' = (w1.setCell ⟨w.heap.size, 0, none⟩ (.int .i64 E)).setCell ⟨w.heap.size, 1, none⟩ (.int .i64 A)) ∧ Below B w w' := by
  have hmf := mkf
  have HH : Hid _ := H
  have HBN : Hid (B ≤ w.heap.size) := hB
  clear H
  go_enter_defers Tryz.func34, Tryz.ntmps34
  go_wp2_with fail
  refine Calls.mono HH.out ?_
  rintro e w1 ⟨rfl, hk, hr, hb⟩
  have HBW : Below B w w1 := ((Below.refl _ w).alloc hB _).trans hb
  refine leaves_cons (f := 72) (args := #[.pointer (some ⟨w.heap.size, 0, none⟩)]) (by simp) (by simp [go_sem]) ?_
  refine (catchS_bad w.heap.size E A _ hr).mono ?_
  rintro e u' w'' ⟨rfl, rfl, rfl⟩
  refine ⟨_, results_tmp_cell rfl _ _ w.heap.size 35 #[.int .i64 E, .int .i64 A] (0, 0) _ (.string ⟨#[]⟩) rfl rfl ((hr.set 0 _).set 1 _) Tryz.underlying35 rfl f_info, rfl, ⟨w1, hk, rfl⟩, ?_⟩
  exact (HBW.setCell (p := ⟨w.heap.size, 0, none⟩) HBN.out _).setCell (p := ⟨w.heap.size, 1, none⟩) HBN.out _
set_option maxRecDepth 100000 in
theorem catchL_idle (p : Addr) (w : World) : CallsD Tryz.prog 106 #[.pointer (some p)] .returning w fun e u' w' => e = .returned (.tuple #[]) ∧ u' = .returning ∧ w' = w := by
  refine callsD_of_wpS Tryz.func106 rfl fun c₀ cs hu => ?_
  apply wpS_seq
  apply wpS_region
  simp [wpOpsS, go_sem, recoverD, hu, Tryz.ntmps106, Exit.thenS]
  refine wpS_of_wp ?_
  simp only [Array.replicate_succ, Array.replicate_zero, List.push_toArray, List.append_toArray, List.nil_append, List.cons_append, List.setIfInBounds_toArray, List.set_cons_zero, List.set_cons_succ]
  go_wp2
  cases c₀
  simp_all [bodyPostS, results, Tryz.results106]
set_option maxRecDepth 100000 in
theorem catchL_bad (b : Nat) (E A : Int) (w : World) (hb : RowAt w b 35 #[.int .i64 0, .int .i64 0]) : CallsD Tryz.prog 106 #[.pointer (some ⟨b, 0, none⟩)] (.panicking [flt E A]) w fun e u' w' =>
      e = .returned (.tuple #[]) ∧ u' = .panicking [{ flt E A with recovered := true }] ∧ w' = (w.setCell ⟨b, 0, none⟩ (.int .i64 E)).setCell ⟨b, 1, none⟩ (.int .i64 A) := by
  have c0 := hb.cell (i := 0) rfl
  have c1 := hb.cell (i := 1) rfl
  have f0 := hb.frozen 0
  have f1 := hb.frozen 1
  have hta := as_fault
  unfold flt
  refine callsD_of_wpS Tryz.func106 rfl fun c₀ cs hu => ?_
  apply wpS_seq
  apply wpS_region
  simp [wpOpsS, go_sem, recoverD, hu, Tryz.ntmps106, Exit.thenS]
  refine wpS_of_wp ?_
  simp only [Array.replicate_succ, Array.replicate_zero, List.push_toArray, List.append_toArray, List.nil_append, List.cons_append, List.setIfInBounds_toArray, List.set_cons_zero, List.set_cons_succ]
  go_wp2
  cases c₀
  simp_all [bodyPostS, results, Tryz.results106]
set_option maxRecDepth 100000 in
set_option maxHeartbeats 1000000 in
/-- The edge, where nothing is thrown. -/
theorem edgeL_ok (m : Nat) (caps : Array Value) (he : ∀ args w, (callFunc m args).run Tryz.prog w = .ok (.enter m args) w) (w : World) (B : Nat) (hB : B ≤ w.heap.size) (K : Value → World → Prop)
    (H : Calls Tryz.prog m caps (fbox w) fun e w' => ∃ v, e = .returned v ∧ v.oneCell' = true ∧ K v w' ∧ RowAt w' w.heap.size 35 #[.int .i64 0, .int .i64 0] ∧ Below B (fbox w) w') :
    Calls Tryz.prog 54 #[.func (.func m) #[] caps] w fun e w' => ∃ v, e = .returned (.tuple #[v, fltV 0 0]) ∧ (∃ w1, K v w1 ∧ w' = (w1.setCell ⟨w.heap.size, 0, none⟩ (.int .i64 0)).setCell ⟨w.heap.size, 1, none⟩ (.int .i64 0)) ∧ Below B w w' := by
  have hmf := mkf
  have HH : Hid _ := H
  have HBN : Hid (B ≤ w.heap.size) := hB
  clear H
  go_enter_defers Tryz.func54, Tryz.ntmps54
  go_wp2_with fail
  refine Calls.mono HH.out ?_
  rintro e w1 ⟨v, rfl, h1, hk, hr, hb⟩
  have c0 := hr.cell (i := 0) rfl
  have c1 := hr.cell (i := 1) rfl
  have f0 := hr.frozen 0
  have f1 := hr.frozen 1
  have HK : Hid (K v w1) := hk
  have HR2 : Hid (RowAt ((w1.setCell ⟨w.heap.size, 0, none⟩ (.int .i64 0)).setCell ⟨w.heap.size, 1, none⟩ (.int .i64 0)) w.heap.size 35 #[.int .i64 0, .int .i64 0]) := (hr.set 0 _).set 1 _
  have HBW : Hid (Below B w w1) := ((Below.refl _ w).alloc hB _).trans hb
  clear hk hb hr
  go_wp2
  refine leaves_cons (f := 106) (args := #[.pointer (some ⟨w.heap.size, 0, none⟩)]) (by simp) (by simp [go_sem]) ?_
  refine (catchL_idle ⟨w.heap.size, 0, none⟩ _).mono ?_
  rintro e u' w'' ⟨rfl, rfl, rfl⟩
  refine ⟨_, results_tmp_cell rfl _ _ w.heap.size 35 #[.int .i64 0, .int .i64 0] (0, 0) _ v rfl rfl HR2.out Tryz.underlying35 rfl f_info, v, rfl, ⟨w1, HK.out, rfl⟩, ?_⟩
  exact (HBW.out.setCell (p := ⟨w.heap.size, 0, none⟩) HBN.out _).setCell (p := ⟨w.heap.size, 1, none⟩) HBN.out _
set_option maxRecDepth 100000 in
set_option maxHeartbeats 1000000 in
/-- The edge, where a fault is thrown. -/
theorem edgeL_bad (m : Nat) (caps : Array Value) (he : ∀ args w, (callFunc m args).run Tryz.prog w = .ok (.enter m args) w) (w : World) (B : Nat) (hB : B ≤ w.heap.size) (E A : Int) (K : World → Prop)
    (H : Calls Tryz.prog m caps (fbox w) fun e w' => e = .panicked [flt E A] ∧ K w' ∧ RowAt w' w.heap.size 35 #[.int .i64 0, .int .i64 0] ∧ Below B (fbox w) w') :
    Calls Tryz.prog 54 #[.func (.func m) #[] caps] w fun e w' => e = .returned (.tuple #[.slice none 0 0, fltV E A]) ∧ (∃ w1, K w1 ∧ w' = (w1.setCell ⟨w.heap.size, 0, none⟩ (.int .i64 E)).setCell ⟨w.heap.size, 1, none⟩ (.int .i64 A)) ∧ Below B w w' := by
  have hmf := mkf
  have HH : Hid _ := H
  have HBN : Hid (B ≤ w.heap.size) := hB
  clear H
  go_enter_defers Tryz.func54, Tryz.ntmps54
  go_wp2_with fail
  refine Calls.mono HH.out ?_
  rintro e w1 ⟨rfl, hk, hr, hb⟩
  have HBW : Below B w w1 := ((Below.refl _ w).alloc hB _).trans hb
  refine leaves_cons (f := 106) (args := #[.pointer (some ⟨w.heap.size, 0, none⟩)]) (by simp) (by simp [go_sem]) ?_
  refine (catchL_bad w.heap.size E A _ hr).mono ?_
  rintro e u' w'' ⟨rfl, rfl, rfl⟩
  refine ⟨_, results_tmp_cell rfl _ _ w.heap.size 35 #[.int .i64 E, .int .i64 A] (0, 0) _ (.slice none 0 0) rfl rfl ((hr.set 0 _).set 1 _) Tryz.underlying35 rfl f_info, rfl, ⟨w1, hk, rfl⟩, ?_⟩
  exact (HBW.setCell (p := ⟨w.heap.size, 0, none⟩) HBN.out _).setCell (p := ⟨w.heap.size, 1, none⟩) HBN.out _
end Go.Proofs.YtkohhdkkbaifoaaGreatDoor
