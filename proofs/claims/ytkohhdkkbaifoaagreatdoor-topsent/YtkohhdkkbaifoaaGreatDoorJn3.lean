/-
  Several texts, joined: ScA, VMath, ZMath, ZSheet, ZKit.
-/
import Derived.Test.YtkohhdkkbaifoaaGreatDoorJn1
import Derived.Test.YtkohhdkkbaifoaaGreatDoorJn2
import Derived.Defers
import Derived.Recover
import Derived.Deep.OwnRows
import Derived.Lib.SmallJoins
import Derived.Deep.QuietTactic
import Derived.BigQuiet
import Derived.Laws.EntriesVeiled
import Derived.RegionTactic
import Derived.Deep.RegionHeld3
import Derived.OrdersHeld
import Derived.Deep.DeepCutAuto
/-
  Faults that are thrown, and the edge at which they are caught (chapter 17): throw, pass, atEdge.
-/
namespace Go.Proofs.YtkohhdkkbaifoaaGreatDoor
open Go.RowKit PK

/-- A fault that is thrown. -/
def flt (E A : Int) : PanicEntry := { v := .iface 35 (.agg #[.int .i64 E, .int .i64 A]), recovered := false }
def fltV (E A : Int) : Value := .agg #[.int .i64 E, .int .i64 A]

set_option maxRecDepth 100000 in
theorem throw_any (E A : Int) (w : World) : Calls Tryz.prog 48 #[.int .i64 E, .int .i64 A] w fun e w' => e = .panicked [flt E A] ∧ w' = w := by
  go_enter Tryz.func48, Tryz.ntmps48
  go_wp2
  exact ⟨rfl, rfl, rfl⟩
set_option maxRecDepth 100000 in
theorem pass_ok (A : Int) (w : World) : Calls Tryz.prog 37 #[.int .i64 0, .int .i64 A] w fun e w' => e = .returned (.tuple #[]) ∧ w' = w := by
  go_enter Tryz.func37, Tryz.ntmps37
  go_wp2
  go_end0
  exact ⟨rfl, rfl⟩
set_option maxRecDepth 100000 in
theorem pass_bad (E A : Int) (h : (E != 0) = true) (w : World) : Calls Tryz.prog 37 #[.int .i64 E, .int .i64 A] w fun e w' => e = .panicked [flt E A] ∧ w' = w := by
  have HT : Hid _ := throw_any E A w
  go_enter Tryz.func37, Tryz.ntmps37
  go_wp2_with fail
  refine Calls.mono HT.out ?_
  rintro e w' ⟨rfl, rfl⟩
  exact ⟨rfl, rfl, rfl⟩
theorem mkf (fn : Fn) (first cap : Array Value) (w : World) : (Instr.makeFunc fn first cap).run Tryz.prog w = .ok (.func fn first cap) w := rfl
/-- The box of the fault. -/
def fbox (w : World) : World := w.alloc (.cells #[.int .i64 0, .int .i64 0] 35)
theorem as_fault (v : Value) (w : World) : (Instr.typeAssert (.iface 35 v) 20 35 false).run Tryz.prog w = .ok v w := by kernel_rfl
theorem f_info : (Tryz.prog.info? 35).map (·.size) = some 2 := by kernel_rfl
theorem results_tmp_cell {P : Program} {fn : Func} {p q : Tmp} {ty : TypeId} (h : fn.results = #[.tmp p, .cell q ty]) (tmps : Array Value) (w : World) (g : Nat) (t : TypeId) (cs : Array Value) (fr : Nat × Nat) (d : TypeDesc) (v : Value)
    (hv : tmps.getD p undef = v) (hp : tmps.getD q undef = .pointer (some ⟨g, 0, none⟩)) (hg : w.heap[g]? = some (.cells cs t fr)) (hu : P.underlying ty = some d) (hd : (match d with | .struct _ | .array _ _ => true | _ => false) = true) (hi : (P.info? ty).map (·.size) = some cs.size) :
    (results fn tmps).run P w = .ok (.tuple #[v, .agg cs]) w := by
  have hp' : tmps[q]?.getD undef = .pointer (some ⟨g, 0, none⟩) := by simpa using hp
  have hv' : tmps[p]?.getD undef = v := by simpa using hv
  simp [results, h, hp', hv', asAddr, run_loadVar_row w g t ty cs fr d hg hu hd hi]
set_option maxRecDepth 100000 in
theorem catchS_idle (p : Addr) (w : World) : CallsD Tryz.prog 72 #[.pointer (some p)] .returning w fun e u' w' => e = .returned (.tuple #[]) ∧ u' = .returning ∧ w' = w := by
  refine callsD_of_wpS Tryz.func72 rfl fun c₀ cs hu => ?_
  apply wpS_seq
  apply wpS_region
  simp [wpOpsS, go_sem, recoverD, hu, Tryz.ntmps72, Exit.thenS]
  refine wpS_of_wp ?_
  simp only [Array.replicate_succ, Array.replicate_zero, List.push_toArray, List.append_toArray, List.nil_append, List.cons_append, List.setIfInBounds_toArray, List.set_cons_zero, List.set_cons_succ]
  go_wp2
  cases c₀
  simp_all [bodyPostS, results, Tryz.results72]
set_option maxRecDepth 100000 in
theorem catchS_bad (b : Nat) (E A : Int) (w : World) (hb : RowAt w b 35 #[.int .i64 0, .int .i64 0]) : CallsD Tryz.prog 72 #[.pointer (some ⟨b, 0, none⟩)] (.panicking [flt E A]) w fun e u' w' =>
      e = .returned (.tuple #[]) ∧ u' = .panicking [{ flt E A with recovered := true }] ∧ w' = (w.setCell ⟨b, 0, none⟩ (.int .i64 E)).setCell ⟨b, 1, none⟩ (.int .i64 A) := by
  have c0 := hb.cell (i := 0) rfl
  have c1 := hb.cell (i := 1) rfl
  have f0 := hb.frozen 0
  have f1 := hb.frozen 1
  have hta := as_fault
  unfold flt
  refine callsD_of_wpS Tryz.func72 rfl fun c₀ cs hu => ?_
  apply wpS_seq
  apply wpS_region
  simp [wpOpsS, go_sem, recoverD, hu, Tryz.ntmps72, Exit.thenS]
  refine wpS_of_wp ?_
  simp only [Array.replicate_succ, Array.replicate_zero, List.push_toArray, List.append_toArray, List.nil_append, List.cons_append, List.setIfInBounds_toArray, List.set_cons_zero, List.set_cons_succ]
  go_wp2
  cases c₀
  simp_all [bodyPostS, results, Tryz.results72]
set_option maxRecDepth 100000 in
set_option maxHeartbeats 1000000 in
/-- The edge, where nothing is thrown. -/
theorem edgeS_ok (m : Nat) (caps : Array Value) (he : ∀ args w, (callFunc m args).run Tryz.prog w = .ok (.enter m args) w) (w : World) (B : Nat) (hB : B ≤ w.heap.size) (K : Value → World → Prop)
    (H : Calls Tryz.prog m caps (fbox w) fun e w' => ∃ v, e = .returned v ∧ v.oneCell' = true ∧ K v w' ∧ RowAt w' w.heap.size 35 #[.int .i64 0, .int .i64 0] ∧ Below B (fbox w) w') :
    Calls Tryz.prog 34 #[.func (.func m) #[] caps] w fun e w' => ∃ v, e = .returned (.tuple #[v, fltV 0 0]) ∧ (∃ w1, K v w1 ∧ w' = (w1.setCell ⟨w.heap.size, 0, none⟩ (.int .i64 0)).setCell ⟨w.heap.size, 1, none⟩ (.int .i64 0)) ∧ Below B w w' := by
  have hmf := mkf
  have HH : Hid _ := H
  have HBN : Hid (B ≤ w.heap.size) := hB
  clear H
  go_enter_defers Tryz.func34, Tryz.ntmps34
  go_wp2_with fail
  refine Calls.mono HH.out ?_
  rintro e w1 ⟨v, rfl, h1, hk, hr, hb⟩
  have c0 := hr.cell (i := 0) rfl
  have c1 := hr.cell (i := 1) rfl
  have f0 := hr.frozen 0
  have f1 := hr.frozen 1
  have HK : Hid (K v w1) := hk
  have HR2 : Hid (RowAt ((w1.setCell ⟨w.heap.size, 0, none⟩ (.int .i64 0)).setCell ⟨w.heap.size, 1, none⟩ (.int .i64 0)) w.heap.size 35 #[.int .i64 0, .int .i64 0]) := (hr.set 0 _).set 1 _
  have HBW : Hid (Below B w w1) := ((Below.refl _ w).alloc hB _).trans hb
  clear hk hb hr
  go_wp2
  refine leaves_cons (f := 72) (args := #[.pointer (some ⟨w.heap.size, 0, none⟩)]) (by simp) (by simp [go_sem]) ?_
  refine (catchS_idle ⟨w.heap.size, 0, none⟩ _).mono ?_
  rintro e u' w'' ⟨rfl, rfl, rfl⟩
  refine ⟨_, results_tmp_cell rfl _ _ w.heap.size 35 #[.int .i64 0, .int .i64 0] (0, 0) _ v rfl rfl HR2.out Tryz.underlying35 rfl f_info, v, rfl, ⟨w1, HK.out, rfl⟩, ?_⟩
  exact (HBW.out.setCell (p := ⟨w.heap.size, 0, none⟩) HBN.out _).setCell (p := ⟨w.heap.size, 1, none⟩) HBN.out _
set_option maxRecDepth 100000 in
set_option maxHeartbeats 1000000 in
/-- The edge, where a fault is thrown. -/
theorem edgeS_bad (m : Nat) (caps : Array Value) (he : ∀ args w, (callFunc m args).run Tryz.prog w = .ok (.enter m args) w) (w : World) (B : Nat) (hB : B ≤ w.heap.size) (E A : Int) (K : World → Prop)
    (H : Calls Tryz.prog m caps (fbox w) fun e w' => e = .panicked [flt E A] ∧ K w' ∧ RowAt w' w.heap.size 35 #[.int .i64 0, .int .i64 0] ∧ Below B (fbox w) w') :
    Calls Tryz.prog 34 #[.func (.func m) #[] caps] w fun e w' => e = .returned (.tuple #[.string ⟨#[]⟩, fltV E A]) ∧ (∃ w1, K w1 ∧ w' = (w1.setCell ⟨w.heap.size, 0, none⟩ (.int .i64 E)).setCell ⟨w.heap.size, 1, none⟩ (.int .i64 A)) ∧ Below B w w' := by
  have hmf := mkf
  have HH : Hid _ := H
  have HBN : Hid (B ≤ w.heap.size) := hB
  clear H
  go_enter_defers Tryz.func34, Tryz.ntmps34
  go_wp2_with fail
  refine Calls.mono HH.out ?_
  rintro e w1 ⟨rfl, hk, hr, hb⟩
  have HBW : Below B w w1 := ((Below.refl _ w).alloc hB _).trans hb
  refine leaves_cons (f := 72) (args := #[.pointer (some ⟨w.heap.size, 0, none⟩)]) (by simp) (by simp [go_sem]) ?_
  refine (catchS_bad w.heap.size E A _ hr).mono ?_
  rintro e u' w'' ⟨rfl, rfl, rfl⟩
  refine ⟨_, results_tmp_cell rfl _ _ w.heap.size 35 #[.int .i64 E, .int .i64 A] (0, 0) _ (.string ⟨#[]⟩) rfl rfl ((hr.set 0 _).set 1 _) Tryz.underlying35 rfl f_info, rfl, ⟨w1, hk, rfl⟩, ?_⟩
  exact (HBW.setCell (p := ⟨w.heap.size, 0, none⟩) HBN.out _).setCell (p := ⟨w.heap.size, 1, none⟩) HBN.out _
set_option maxRecDepth 100000 in
theorem catchL_idle (p : Addr) (w : World) : CallsD Tryz.prog 106 #[.pointer (some p)] .returning w fun e u' w' => e = .returned (.tuple #[]) ∧ u' = .returning ∧ w' = w := by
  refine callsD_of_wpS Tryz.func106 rfl fun c₀ cs hu => ?_
  apply wpS_seq
  apply wpS_region
  simp [wpOpsS, go_sem, recoverD, hu, Tryz.ntmps106, Exit.thenS]
  refine wpS_of_wp ?_
  simp only [Array.replicate_succ, Array.replicate_zero, List.push_toArray, List.append_toArray, List.nil_append, List.cons_append, List.setIfInBounds_toArray, List.set_cons_zero, List.set_cons_succ]
  go_wp2
  cases c₀
  simp_all [bodyPostS, results, Tryz.results106]
set_option maxRecDepth 100000 in
theorem catchL_bad (b : Nat) (E A : Int) (w : World) (hb : RowAt w b 35 #[.int .i64 0, .int .i64 0]) : CallsD Tryz.prog 106 #[.pointer (some ⟨b, 0, none⟩)] (.panicking [flt E A]) w fun e u' w' =>
      e = .returned (.tuple #[]) ∧ u' = .panicking [{ flt E A with recovered := true }] ∧ w' = (w.setCell ⟨b, 0, none⟩ (.int .i64 E)).setCell ⟨b, 1, none⟩ (.int .i64 A) := by
  have c0 := hb.cell (i := 0) rfl
  have c1 := hb.cell (i := 1) rfl
  have f0 := hb.frozen 0
  have f1 := hb.frozen 1
  have hta := as_fault
  unfold flt
  refine callsD_of_wpS Tryz.func106 rfl fun c₀ cs hu => ?_
  apply wpS_seq
  apply wpS_region
  simp [wpOpsS, go_sem, recoverD, hu, Tryz.ntmps106, Exit.thenS]
  refine wpS_of_wp ?_
  simp only [Array.replicate_succ, Array.replicate_zero, List.push_toArray, List.append_toArray, List.nil_append, List.cons_append, List.setIfInBounds_toArray, List.set_cons_zero, List.set_cons_succ]
  go_wp2
  cases c₀
  simp_all [bodyPostS, results, Tryz.results106]
set_option maxRecDepth 100000 in
set_option maxHeartbeats 1000000 in
/-- The edge, where nothing is thrown. -/
theorem edgeL_ok (m : Nat) (caps : Array Value) (he : ∀ args w, (callFunc m args).run Tryz.prog w = .ok (.enter m args) w) (w : World) (B : Nat) (hB : B ≤ w.heap.size) (K : Value → World → Prop)
    (H : Calls Tryz.prog m caps (fbox w) fun e w' => ∃ v, e = .returned v ∧ v.oneCell' = true ∧ K v w' ∧ RowAt w' w.heap.size 35 #[.int .i64 0, .int .i64 0] ∧ Below B (fbox w) w') :
    Calls Tryz.prog 54 #[.func (.func m) #[] caps] w fun e w' => ∃ v, e = .returned (.tuple #[v, fltV 0 0]) ∧ (∃ w1, K v w1 ∧ w' = (w1.setCell ⟨w.heap.size, 0, none⟩ (.int .i64 0)).setCell ⟨w.heap.size, 1, none⟩ (.int .i64 0)) ∧ Below B w w' := by
  have hmf := mkf
  have HH : Hid _ := H
  have HBN : Hid (B ≤ w.heap.size) := hB
  clear H
  go_enter_defers Tryz.func54, Tryz.ntmps54
  go_wp2_with fail
  refine Calls.mono HH.out ?_
  rintro e w1 ⟨v, rfl, h1, hk, hr, hb⟩
  have c0 := hr.cell (i := 0) rfl
  have c1 := hr.cell (i := 1) rfl
  have f0 := hr.frozen 0
  have f1 := hr.frozen 1
  have HK : Hid (K v w1) := hk
  have HR2 : Hid (RowAt ((w1.setCell ⟨w.heap.size, 0, none⟩ (.int .i64 0)).setCell ⟨w.heap.size, 1, none⟩ (.int .i64 0)) w.heap.size 35 #[.int .i64 0, .int .i64 0]) := (hr.set 0 _).set 1 _
  have HBW : Hid (Below B w w1) := ((Below.refl _ w).alloc hB _).trans hb
  clear hk hb hr
  go_wp2
  refine leaves_cons (f := 106) (args := #[.pointer (some ⟨w.heap.size, 0, none⟩)]) (by simp) (by simp [go_sem]) ?_
  refine (catchL_idle ⟨w.heap.size, 0, none⟩ _).mono ?_
  rintro e u' w'' ⟨rfl, rfl, rfl⟩
  refine ⟨_, results_tmp_cell rfl _ _ w.heap.size 35 #[.int .i64 0, .int .i64 0] (0, 0) _ v rfl rfl HR2.out Tryz.underlying35 rfl f_info, v, rfl, ⟨w1, HK.out, rfl⟩, ?_⟩
  exact (HBW.out.setCell (p := ⟨w.heap.size, 0, none⟩) HBN.out _).setCell (p := ⟨w.heap.size, 1, none⟩) HBN.out _
set_option maxRecDepth 100000 in
set_option maxHeartbeats 1000000 in
/-- The edge, where a fault is thrown. -/
theorem edgeL_bad (m : Nat) (caps : Array Value) (he : ∀ args w, (callFunc m args).run Tryz.prog w = .ok (.enter m args) w) (w : World) (B : Nat) (hB : B ≤ w.heap.size) (E A : Int) (K : World → Prop)
    (H : Calls Tryz.prog m caps (fbox w) fun e w' => e = .panicked [flt E A] ∧ K w' ∧ RowAt w' w.heap.size 35 #[.int .i64 0, .int .i64 0] ∧ Below B (fbox w) w') :
    Calls Tryz.prog 54 #[.func (.func m) #[] caps] w fun e w' => e = .returned (.tuple #[.slice none 0 0, fltV E A]) ∧ (∃ w1, K w1 ∧ w' = (w1.setCell ⟨w.heap.size, 0, none⟩ (.int .i64 E)).setCell ⟨w.heap.size, 1, none⟩ (.int .i64 A)) ∧ Below B w w' := by
  have hmf := mkf
  have HH : Hid _ := H
  have HBN : Hid (B ≤ w.heap.size) := hB
  clear H
  go_enter_defers Tryz.func54, Tryz.ntmps54
  go_wp2_with fail
  refine Calls.mono HH.out ?_
  rintro e w1 ⟨rfl, hk, hr, hb⟩
  have HBW : Below B w w1 := ((Below.refl _ w).alloc hB _).trans hb
  refine leaves_cons (f := 106) (args := #[.pointer (some ⟨w.heap.size, 0, none⟩)]) (by simp) (by simp [go_sem]) ?_
  refine (catchL_bad w.heap.size E A _ hr).mono ?_
  rintro e u' w'' ⟨rfl, rfl, rfl⟩
  refine ⟨_, results_tmp_cell rfl _ _ w.heap.size 35 #[.int .i64 E, .int .i64 A] (0, 0) _ (.slice none 0 0) rfl rfl ((hr.set 0 _).set 1 _) Tryz.underlying35 rfl f_info, rfl, ⟨w1, hk, rfl⟩, ?_⟩
  exact (HBW.setCell (p := ⟨w.heap.size, 0, none⟩) HBN.out _).setCell (p := ⟨w.heap.size, 1, none⟩) HBN.out _
end Go.Proofs.YtkohhdkkbaifoaaGreatDoor

/-
  Keys added to letters: the mathematics.
-/
namespace Go.Proofs.YtkohhdkkbaifoaaGreatDoor.Vg

def there (kind a b : Nat) : Nat := if kind = 2 then (b + 26 - a) % 26 else if kind = 3 then (a + 26 - b) % 26 else (a + b) % 26
def back (kind c b : Nat) : Nat := if kind = 2 then (b + 26 - c) % 26 else if kind = 3 then (c + b) % 26 else (c + 26 - b) % 26
theorem there_lt (kind a b : Nat) : there kind a b < 26 := by unfold there; split <;> (try split) <;> omega
theorem back_lt (kind a b : Nat) : back kind a b < 26 := by unfold back; split <;> (try split) <;> omega
theorem back_there (kind : Nat) {a b : Nat} (ha : a < 26) (hb : b < 26) : back kind (there kind a b) b = a := by unfold back there; split <;> (try split) <;> omega
theorem there_back (kind : Nat) {c b : Nat} (hc : c < 26) (hb : b < 26) : there kind (back kind c b) b = c := by unfold back there; split <;> (try split) <;> omega
def num (c : UInt8) : Nat := c.toNat - 65
def ltr (n : Nat) : UInt8 := UInt8.ofNat (65 + n)
theorem num_ltr {n : Nat} (h : n < 26) : num (ltr n) = n := by unfold num ltr; rw [UInt8.toNat_ofNat']; omega
theorem ltr_num {c : UInt8} (h : 65 ≤ c.toNat ∧ c.toNat ≤ 90) : ltr (num c) = c := by
  unfold num ltr
  apply UInt8.toNat_inj.1
  rw [UInt8.toNat_ofNat']; omega
theorem num_lt {c : UInt8} (h : 65 ≤ c.toNat ∧ c.toNat ≤ 90) : num c < 26 := by unfold num; omega
theorem ltr_toNat {n : Nat} (h : n < 26) : (ltr n).toNat = 65 + n := by unfold ltr; rw [UInt8.toNat_ofNat']; omega
theorem ltr_ok {n : Nat} (h : n < 26) : 65 ≤ (ltr n).toNat ∧ (ltr n).toNat ≤ 90 := by rw [ltr_toNat h]; omega

/-- Letters alone. -/
def Ls (l : List UInt8) : Prop := ∀ c ∈ l, 65 ≤ c.toNat ∧ c.toNat ≤ 90
theorem Ls.at {l : List UInt8} (h : Ls l) {i : Nat} (hi : i < l.length) : 65 ≤ (l.getD i 0).toNat ∧ (l.getD i 0).toNat ≤ 90 := by
  rw [List.getD_eq_getElem?_getD, List.getElem?_eq_getElem hi]
  exact h _ (List.getElem_mem hi)
theorem getD_some {l : List UInt8} {i : Nat} (hi : i < l.length) : l.getD i 0 = l[i] := by rw [List.getD_eq_getElem?_getD, List.getElem?_eq_getElem hi]; rfl
theorem ext_getD {a b : List UInt8} (hl : a.length = b.length) (h : ∀ i, i < a.length → a.getD i 0 = b.getD i 0) : a = b :=
  List.ext_getElem hl fun i h1 h2 => by rw [← getD_some h1, ← getD_some h2]; exact h i h1
theorem getD_map {f : Nat → UInt8} {n i : Nat} (hi : i < n) : ((List.range n).map f).getD i 0 = f i := by
  rw [getD_some (by simpa using hi)]; simp

/-- The key's letter for the place i; p: what is known of the text. -/
def kat (kind : Nat) (k p : List UInt8) (i : Nat) : Nat := if kind = 4 ∧ k.length ≤ i then num (p.getD (i - k.length) 0) else num (k.getD (i % k.length) 0)
theorem kat_lt {kind : Nat} {k p : List UInt8} {i : Nat} (hk : Ls k) (hp : Ls p) (h0 : 0 < k.length) (hi : k.length ≤ i → i - k.length < p.length) : kat kind k p i < 26 := by
  unfold kat
  split
  · next h => exact num_lt (hp.at (hi h.2))
  · exact num_lt (hk.at (Nat.mod_lt _ h0))
def wrL (kind : Nat) (k t : List UInt8) (m : Nat) : List UInt8 := (List.range m).map fun i => ltr (there kind (num (t.getD i 0)) (kat kind k t i))
def writeL (kind : Nat) (k t : List UInt8) : List UInt8 := wrL kind k t t.length
theorem wrL_length (kind : Nat) (k t : List UInt8) (m : Nat) : (wrL kind k t m).length = m := by simp [wrL]
theorem writeL_length (kind : Nat) (k t : List UInt8) : (writeL kind k t).length = t.length := wrL_length _ _ _ _
theorem wrL_succ (kind : Nat) (k t : List UInt8) (m : Nat) : wrL kind k t (m + 1) = wrL kind k t m ++ [ltr (there kind (num (t.getD m 0)) (kat kind k t m))] := by unfold wrL; rw [List.range_succ, List.map_append]; rfl
theorem writeL_at (kind : Nat) (k t : List UInt8) {i : Nat} (hi : i < t.length) : (writeL kind k t).getD i 0 = ltr (there kind (num (t.getD i 0)) (kat kind k t i)) := getD_map hi
theorem writeL_ls (kind : Nat) (k t : List UInt8) : Ls (writeL kind k t) := by
  intro c hc
  obtain ⟨i, _, rfl⟩ := List.mem_map.1 hc
  exact ltr_ok (there_lt _ _ _)
def rdTo (kind : Nat) (k t : List UInt8) : Nat → List UInt8
  | 0 => []
  | i + 1 => rdTo kind k t i ++ [ltr (back kind (num (t.getD i 0)) (kat kind k (rdTo kind k t i) i))]
def readL (kind : Nat) (k t : List UInt8) : List UInt8 := rdTo kind k t t.length
theorem rdTo_length (kind : Nat) (k t : List UInt8) : ∀ m, (rdTo kind k t m).length = m
  | 0 => rfl
  | m + 1 => by simp [rdTo, rdTo_length kind k t m]
theorem rdTo_ls (kind : Nat) (k t : List UInt8) : ∀ m, Ls (rdTo kind k t m)
  | 0 => fun c hc => by simp [rdTo] at hc
  | m + 1 => fun c hc => by
    rcases List.mem_append.1 (show c ∈ rdTo kind k t m ++ _ from hc) with h | h
    · exact rdTo_ls kind k t m c h
    · simp only [List.mem_singleton] at h
      rw [h]; exact ltr_ok (back_lt _ _ _)
theorem readL_length (kind : Nat) (k t : List UInt8) : (readL kind k t).length = t.length := rdTo_length _ _ _ _
theorem readL_ls (kind : Nat) (k t : List UInt8) : Ls (readL kind k t) := rdTo_ls _ _ _ _
theorem kat_congr {kind : Nat} {k p q : List UInt8} {i : Nat} (h : k.length ≤ i → p.getD (i - k.length) 0 = q.getD (i - k.length) 0) : kat kind k p i = kat kind k q i := by
  unfold kat
  split
  · next e => rw [h e.2]
  · rfl
theorem rd_wr {kind : Nat} {k t : List UInt8} (hk : Ls k) (ht : Ls t) (h0 : 0 < k.length) : ∀ m, m ≤ t.length → rdTo kind k (writeL kind k t) m = t.take m
  | 0, _ => by simp [rdTo]
  | m + 1, hm => by
    show rdTo kind k (writeL kind k t) m ++ _ = _
    rw [rd_wr hk ht h0 m (by omega), writeL_at kind k t (by omega), num_ltr (there_lt _ _ _)]
    have ek : kat kind k (t.take m) m = kat kind k t m := kat_congr fun e => by simp only [List.getD_eq_getElem?_getD]; rw [List.getElem?_take_of_lt (by omega)]
    rw [ek]
    rw [back_there kind (num_lt (ht.at (by omega))) (kat_lt hk ht h0 (fun _ => by omega)), ltr_num (ht.at (by omega))]
    rw [getD_some (by omega), List.take_succ_eq_append_getElem (by omega)]
theorem read_write {kind : Nat} {k t : List UInt8} (hk : Ls k) (ht : Ls t) (h0 : 0 < k.length) : readL kind k (writeL kind k t) = t := by
  unfold readL
  rw [writeL_length, rd_wr hk ht h0 _ (Nat.le_refl _), List.take_length]
/-- KASISKI, letter by letter. -/
theorem again {kind : Nat} {k t : List UInt8} (h4 : kind ≠ 4) {i j : Nat} (hi : i < t.length) (hj : j < t.length) (hm : i % k.length = j % k.length) (e : t.getD i 0 = t.getD j 0) : (writeL kind k t).getD i 0 = (writeL kind k t).getD j 0 := by
  rw [writeL_at _ _ _ hi, writeL_at _ _ _ hj, e]
  have : kat kind k t i = kat kind k t j := by unfold kat; rw [if_neg (fun e => h4 e.1), if_neg (fun e => h4 e.1), hm]
  rw [this]

/-- The first place from j on, among n, at which q stands. -/
def nx {α : Type} [DecidableEq α] (p : Nat → α) (q : α) : Nat → Nat → Option Nat
  | _, 0 => none
  | j, n + 1 => if p j = q then some j else nx p q (j + 1) n
theorem ba_loop (b : ByteArray) : ∀ (n i : Nat) (r : List UInt8), b.size - i = n → ByteArray.toList.loop b i r = r.reverse ++ b.data.toList.drop i
  | 0, i, r, h => by
    unfold ByteArray.toList.loop
    have h1 : b.data.size = b.size := rfl
    rw [if_neg (by omega), List.drop_eq_nil_of_le (by simp; omega)]
    simp
  | n + 1, i, r, h => by
    unfold ByteArray.toList.loop
    have h1 : b.data.size = b.size := rfl
    have h2 : i < b.data.toList.length := by simp; omega
    rw [if_pos (by omega), ba_loop b n (i + 1) _ (by omega), List.drop_eq_getElem_cons h2]
    have h3 : b.get! i = b.data.toList[i] := by
      show b.data[i]! = _
      rw [getElem!_pos b.data i (by simpa using h2)]
      simp
    simp [h3]
theorem ba_toList (b : ByteArray) : b.toList = b.data.toList := by
  unfold ByteArray.toList
  rw [ba_loop b _ 0 [] rfl]
  simp
/-- Strings that differ, as '==' has them. -/
theorem ba_ne {a b : ByteArray} (h : ¬ a = b) : (a.toList == b.toList) = false := by
  rw [ba_toList, ba_toList]
  exact beq_false_of_ne fun e => h (by cases a; cases b; simp at e; rw [e])
theorem ba_eq {a b : ByteArray} (h : a = b) : (a.toList == b.toList) = true := by rw [h]; simp
end Go.Proofs.YtkohhdkkbaifoaaGreatDoor.Vg

/-
  Squares of letters: the mathematics.
-/
namespace Go.Proofs.YtkohhdkkbaifoaaGreatDoor.Zq
open Vg

/-- J is written as I. -/
def jI (c : UInt8) : UInt8 := if c = 74 then 73 else c
def alpha : List UInt8 := [65, 66, 67, 68, 69, 70, 71, 72, 73, 75, 76, 77, 78, 79, 80, 81, 82, 83, 84, 85, 86, 87, 88, 89, 90]
/-- A letter is laid behind the others, if it isn't there. -/
def addN (out : List UInt8) (c : UInt8) : List UInt8 := if c ∈ out then out else out ++ [c]
def layN (out l : List UInt8) : List UInt8 := l.foldl addN out
def laid (key : List UInt8) : List UInt8 := layN [] ((key ++ alpha).map jI)
theorem nodup_le : ∀ (a b : List UInt8), a.Nodup → (∀ x ∈ a, x ∈ b) → a.length ≤ b.length
  | [], _, _, _ => by simp
  | x :: a, b, hn, hs => by
    have hx := hs x (by simp)
    have hn' := List.nodup_cons.1 hn
    have := nodup_le a (b.erase x) hn'.2 (fun y hy => (List.mem_erase_of_ne (fun (e : y = x) => hn'.1 (by rw [← e]; exact hy))).2 (hs y (by simp [hy])))
    rw [List.length_erase_of_mem hx] at this
    have : 0 < b.length := List.length_pos_of_mem hx
    simp only [List.length_cons]
    omega
/-- Where a letter stands. -/
def at' (s : List UInt8) (c : UInt8) : Nat := s.idxOf c
/-- What two places become, and where they come from. -/
def pairP (i j : Nat) : Nat × Nat :=
  if i / 5 = j / 5 then (5 * (i / 5) + (i % 5 + 1) % 5, 5 * (j / 5) + (j % 5 + 1) % 5)
  else if i % 5 = j % 5 then (5 * ((i / 5 + 1) % 5) + i % 5, 5 * ((j / 5 + 1) % 5) + j % 5)
  else (5 * (i / 5) + j % 5, 5 * (j / 5) + i % 5)
/-- What two letters become in a square, and where they come from. -/
def enc (s : List UInt8) (a b : UInt8) : UInt8 × UInt8 := (s.getD (pairP (at' s a) (at' s b)).1 0, s.getD (pairP (at' s a) (at' s b)).2 0)
/-- Two by two. -/
def twos (f : UInt8 → UInt8 → UInt8 × UInt8) : List UInt8 → List UInt8
  | a :: b :: r => (f a b).1 :: (f a b).2 :: twos f r
  | _ => []
/-- Pairs that are pairs: an even number of letters, no J, no two alike in one. -/
inductive Good : List UInt8 → Prop
  | nil : Good []
  | two {a b : UInt8} {r : List UInt8} (ha : a ∈ alpha) (hb : b ∈ alpha) (hab : a ≠ b) (hr : Good r) : Good (a :: b :: r)
theorem Good.even {l : List UInt8} (h : Good l) : l.length % 2 = 0 := by
  induction h with
  | nil => rfl
  | two _ _ _ _ ih => simp; omega
/-- The other way round. -/
def turn : List UInt8 → List UInt8 := twos fun a b => (b, a)
/-- What is wrong with pairs that are to be read: the first J, or the second one of a pair that is as its first one. -/
def wrong (t : List UInt8) (i : Nat) : Bool := decide (t.getD i 0 = 74 ∨ (i % 2 = 1 ∧ t.getD i 0 = t.getD (i - 1) 0))
end Go.Proofs.YtkohhdkkbaifoaaGreatDoor.Zq

/-
  Squares of letters as 77 cells: the letters by their places, and the places by their letters.
-/
namespace Go.Proofs.YtkohhdkkbaifoaaGreatDoor.Zq
open Vg PK

/-- What is laid behind m letters. -/
def lay (l : List UInt8) (m : Nat) : List UInt8 := layN [] ((l.take m).map jI)
/-- Where the letter k stands: 0 where it stands nowhere. -/
def pl (L : List UInt8) (k : Nat) : Nat := if ltr k ∈ L then at' L (ltr k) else 0
end Go.Proofs.YtkohhdkkbaifoaaGreatDoor.Zq

/-
  Laws of no program: bytes in rows, and what is made of them.
-/
namespace Go.Proofs.YtkohhdkkbaifoaaGreatDoor
open Go.RowKit PK Vg Zq

theorem ls_of {l : List UInt8} (h : Pl.Lets l) : Ls l := fun c hc => by
  have := h c hc
  simp [Pl.isL] at this
  omega
section
variable {P : Program} {ops : Array Oper} {Q : Exit → Act → World → Prop} {md : Region.Mode} {S : World → Prop}
/-- An operation that yields its value in every world that meets S is taken first. -/
theorem vtake (i d : Nat) (v : Value) {oi : Oper} {fuel : Nat} {listed : Array Bool} {tm : Array Value} {df : List Deferred} {w : World} (hi : ops[i]? = some oi) (hd : oi.dst = some d)
    (hs : Region.noSelect ops = true) (hf : Region.free md ops listed i = true) (hr : (Region.ready md ops listed).contains i = true)
    (hQ : ∀ c a a' w, Q (.panic c) a' w → Q (.panic c) a w) (hw : Region.wanted oi (yielded ops tm) = true) (hrun : ∀ W, S W → (execOp (Act.eval ⟨tm, df⟩) oi).run P W = .ok (.value v) W) (hS : S w)
    (h : wpAnyH P md ops Q S fuel (listed.setIfInBounds i true) ⟨tm.setIfInBounds d v, df⟩ w) : wpAnyH P md ops Q S (fuel + 1) listed ⟨tm, df⟩ w := by
  refine wpAnyH_take (i := i) (oi := oi) (v := v) hi hs hf hr (fun c a w => hQ c a _ w) (Or.inl ⟨hw, fun W hW => hrun W hW⟩) hS ?_
  rw [hd]
  exact h
end
theorem v_info_byte : (Tryz.prog.info? 5).map (fun i => (i.zero, i.size, i.bytes)) = some (some (.int .u8 0), 1, 1) := by kernel_rfl
theorem x_info_parts {P : Program} {e : TypeId} {z : Value} {s b : Nat} (h : (P.info? e).map (fun i => (i.zero, i.size, i.bytes)) = some (some z, s, b)) : ∃ i, P.info? e = some i ∧ i.zero = some z ∧ i.size = s ∧ i.bytes = b := by
  obtain ⟨i, hi, hzz⟩ := Option.map_eq_some_iff.1 h
  simp only [Prod.mk.injEq] at hzz
  exact ⟨i, hi, hzz.1, hzz.2.1, hzz.2.2⟩
theorem v_cells_byte (acc : List UInt8) (b : UInt8) : Lib.byteCells acc ++ [.int .u8 (b.toNat : Int)] = Lib.byteCells (acc ++ [b]) := by simp [Lib.byteCells]
theorem getD_size {s : ByteArray} {i : Nat} (hi : i < s.size) : i < s.data.toList.length := by have := Pl.size_len s; omega
end Go.Proofs.YtkohhdkkbaifoaaGreatDoor
