/-
  Contract of tableau.tableFor.
-/
import Derived.Test.YteomoeaoboaclaeVKitZ
import Derived.RegionTactic
namespace Go.Proofs.Yteomoeaoboaclae
open Go.RowKit PK Vg

/-- What is wrong with a kind, a key and a text. -/
def lkE (k : Int) (key t : List UInt8) : Int := if k < 1 ∨ 4 < k then 1 else if ckE key ≠ 0 then ckE key else if key.length < 1 ∨ 256 < key.length then 5 else ckE t
def lkAt (k : Int) (key t : List UInt8) : Int := if k < 1 ∨ 4 < k then 0 else if ckE key ≠ 0 then ckAt key else if key.length < 1 ∨ 256 < key.length then 0 else ckAt t
theorem v_info_tbl : (Try.prog.info? 63).map (·.size) = some 4 := by kernel_rfl
theorem tbl_one (k : Nat) : (tbl k).all (·.oneCell') = true := by simp [tbl, Value.oneCell']
theorem tbl0_one : tbl0.all (·.oneCell') = true := by simp [tbl0, Value.oneCell']
/-- The result's two variables, laid first: what their cells hold in every later world. -/
structure SixAt (W : World) (b : Nat) : Prop where
  t0 : W.cell? ⟨b, 0, none⟩ = some .nilFunc
  t1 : W.cell? ⟨b, 1, none⟩ = some .nilFunc
  t2 : W.cell? ⟨b, 2, none⟩ = some .nilFunc
  t3 : W.cell? ⟨b, 3, none⟩ = some (.bool false)
  e0 : W.cell? ⟨b + 1, 0, none⟩ = some (.int .i64 0)
  e1 : W.cell? ⟨b + 1, 1, none⟩ = some (.int .i64 0)
  f0 : W.frozen? ⟨b, 0, none⟩ = false
  f1 : W.frozen? ⟨b, 1, none⟩ = false
  f2 : W.frozen? ⟨b, 2, none⟩ = false
  f3 : W.frozen? ⟨b, 3, none⟩ = false
  g0 : W.frozen? ⟨b + 1, 0, none⟩ = false
  g1 : W.frozen? ⟨b + 1, 1, none⟩ = false
theorem six_of {w W : World} (h : Below (w.heap.size + 2) ((w.alloc (.cells #[.nilFunc, .nilFunc, .nilFunc, .bool false] 63)).alloc (.cells #[.int .i64 0, .int .i64 0] 25)) W) : SixAt W w.heap.size := by
  refine ⟨?_, ?_, ?_, ?_, ?_, ?_, ?_, ?_, ?_, ?_, ?_, ?_⟩
  · rw [h.cell (p := ⟨w.heap.size, 0, none⟩) (by simp)]; simp
  · rw [h.cell (p := ⟨w.heap.size, 1, none⟩) (by simp)]; simp
  · rw [h.cell (p := ⟨w.heap.size, 2, none⟩) (by simp)]; simp
  · rw [h.cell (p := ⟨w.heap.size, 3, none⟩) (by simp)]; simp
  · rw [h.cell (p := ⟨w.heap.size + 1, 0, none⟩) (by simp)]; simp
  · rw [h.cell (p := ⟨w.heap.size + 1, 1, none⟩) (by simp)]; simp
  · rw [h.frozen (p := ⟨w.heap.size, 0, none⟩) (by simp)]; simp
  · rw [h.frozen (p := ⟨w.heap.size, 1, none⟩) (by simp)]; simp
  · rw [h.frozen (p := ⟨w.heap.size, 2, none⟩) (by simp)]; simp
  · rw [h.frozen (p := ⟨w.heap.size, 3, none⟩) (by simp)]; simp
  · rw [h.frozen (p := ⟨w.heap.size + 1, 0, none⟩) (by simp)]; simp
  · rw [h.frozen (p := ⟨w.heap.size + 1, 1, none⟩) (by simp)]; simp
theorem six_rows {w W : World} (h : Below (w.heap.size + 2) ((w.alloc (.cells #[.nilFunc, .nilFunc, .nilFunc, .bool false] 63)).alloc (.cells #[.int .i64 0, .int .i64 0] 25)) W) : RowAt W w.heap.size 63 #[.nilFunc, .nilFunc, .nilFunc, .bool false] ∧ RowAt W (w.heap.size + 1) 25 #[.int .i64 0, .int .i64 0] := by
  refine ⟨((RowAt.new w _ _).alloc _).below h (by omega), ?_⟩
  have := RowAt.new (w.alloc (.cells #[.nilFunc, .nilFunc, .nilFunc, .bool false] 63)) 25 #[.int .i64 0, .int .i64 0]
  rw [World.size_alloc] at this
  exact this.below h (by omega)
/-- Both are written. -/
theorem six_done {W : World} {b : Nat} {T U : TypeId} {a0 a1 a2 a3 c0 c1 : Value} (r : RowAt W b T #[a0, a1, a2, a3]) (q : RowAt W (b + 1) U #[c0, c1]) (x0 x1 x2 x3 y0 y1 : Value) :
    RowAt ((((((W.setCell ⟨b, 0, none⟩ x0).setCell ⟨b, 1, none⟩ x1).setCell ⟨b, 2, none⟩ x2).setCell ⟨b, 3, none⟩ x3).setCell ⟨b + 1, 0, none⟩ y0).setCell ⟨b + 1, 1, none⟩ y1) b T #[x0, x1, x2, x3] ∧
    RowAt ((((((W.setCell ⟨b, 0, none⟩ x0).setCell ⟨b, 1, none⟩ x1).setCell ⟨b, 2, none⟩ x2).setCell ⟨b, 3, none⟩ x3).setCell ⟨b + 1, 0, none⟩ y0).setCell ⟨b + 1, 1, none⟩ y1) (b + 1) U #[y0, y1] := by
  have h1 := (((r.set 0 x0).set 1 x1).set 2 x2).set 3 x3
  have h2 := (((q.setOther ⟨b, 0, none⟩ x0 (by simp)).setOther ⟨b, 1, none⟩ x1 (by simp)).setOther ⟨b, 2, none⟩ x2 (by simp)).setOther ⟨b, 3, none⟩ x3 (by simp)
  exact ⟨(h1.setOther ⟨b + 1, 0, none⟩ y0 (by simp)).setOther ⟨b + 1, 1, none⟩ y1 (by simp), (h2.set 0 y0).set 1 y1⟩
theorem six_below {w W : World} {b : Nat} (h : Below w.heap.size w W) (hb : w.heap.size ≤ b) (x0 x1 x2 x3 y0 y1 : Value) :
    Below w.heap.size w ((((((W.setCell ⟨b, 0, none⟩ x0).setCell ⟨b, 1, none⟩ x1).setCell ⟨b, 2, none⟩ x2).setCell ⟨b, 3, none⟩ x3).setCell ⟨b + 1, 0, none⟩ y0).setCell ⟨b + 1, 1, none⟩ y1) :=
  (((((h.setCell (p := ⟨b, 0, none⟩) hb x0).setCell (p := ⟨b, 1, none⟩) hb x1).setCell (p := ⟨b, 2, none⟩) hb x2).setCell (p := ⟨b, 3, none⟩) hb x3).setCell (p := ⟨b + 1, 0, none⟩) (by show _ ≤ b + 1; omega) y0).setCell (p := ⟨b + 1, 1, none⟩) (by show _ ≤ b + 1; omega) y1
theorem six_first (w : World) (X Y : Obj) : Below w.heap.size w ((w.alloc X).alloc Y) := ((Below.refl _ w).alloc (Nat.le_refl _) _).alloc (by simp) _
theorem six_size {w W : World} {X Y : Obj} (h : Below (w.heap.size + 2) ((w.alloc X).alloc Y) W) : w.heap.size + 2 ≤ W.heap.size := by have := h.size; simp at this; omega
set_option maxRecDepth 100000 in
set_option maxHeartbeats 1000000 in
theorem tfor_kind (k : Int) (h : k < 1 ∨ 4 < k) (key t : ByteArray) (w : World) : Calls Try.prog 35 #[.int .i64 k, .string key, .string t] w fun e w' => e = .returned (.tuple #[.agg tbl0, .agg #[.int .i64 1, .int .i64 0]]) ∧ Below w.heap.size w w' := by
  have HT := (show Hid (∀ W, Calls Try.prog 42 #[.int .i64 k] W fun e w' => e = .returned (.tuple #[.agg #[.nilFunc, .nilFunc, .nilFunc, .bool false], .bool false]) ∧ Below W.heap.size W w') from fun W => tableOf_bad k h W)
  go_enter Try.func35, Try.ntmps35
  go_wp2_with fail
  refine (HT.out _).mono ?_
  rintro e W1 ⟨rfl, hb1⟩
  simp only [World.size_alloc] at hb1
  have hb2 := hb1.alloc (by have := six_size hb1; omega) (.cells #[.nilFunc, .nilFunc, .nilFunc, .bool false] 63)
  have hb := (six_first w _ _).trans (hb2.mono (by omega))
  obtain ⟨t0, t1, t2, t3, e0, e1, f0, f1, f2, f3, g0, g1⟩ := six_of hb2
  have RR := (show Hid (_ ∧ _) from six_rows hb2)
  clear hb1 hb2
  go_wp2
  have hq := six_done RR.out.1 RR.out.2 .nilFunc .nilFunc .nilFunc (.bool false) (.int .i64 1) (.int .i64 0)
  refine bodyPost_ret (v := .tuple #[.agg tbl0, .agg #[.int .i64 1, .int .i64 0]]) (results_cells2 Try.results35 _ _ _ _ _ _ _ _ _ _ _ _ rfl rfl hq.1 hq.2 Try.underlying63 rfl v_info_tbl Try.underlying25 rfl v_info_fault) rfl ⟨rfl, ?_⟩
  exact six_below hb (Nat.le_refl _) _ _ _ _ _ _
set_option maxRecDepth 100000 in
set_option maxHeartbeats 1000000 in
theorem tfor_many (k : Nat) (h : 1 ≤ k ∧ k ≤ 4) (key t : ByteArray) (hk : ckE key.data.toList = 0) (hk2 : ckAt key.data.toList = 0) (hn : key.size < 1 ∨ 256 < key.size) (w : World) : Calls Try.prog 35 #[.int .i64 k, .string key, .string t] w fun e w' => e = .returned (.tuple #[.agg tbl0, .agg #[.int .i64 5, .int .i64 0]]) ∧ Below w.heap.size w w' := by
  have HT := (show Hid (∀ W, Calls Try.prog 42 #[.int .i64 k] W fun e w' => e = .returned (.tuple #[.agg #[.func (.func (fn0 k)) #[] #[], .func (.func (fn1 k)) #[] #[], .func (.func (fn2 k)) #[] #[], .bool (decide (k = 4))], .bool true]) ∧ Below W.heap.size W w') from fun W => tableOf_ok k h W)
  have HC := (show Hid (∀ W, Calls Try.prog 21 #[.string key] W fun e w' => e = .returned (.agg #[.int .i64 0, .int .i64 0]) ∧ Below W.heap.size W w') from fun W => by have := check_all key W; rw [hk, hk2] at this; exact this)
  generalize fn0 k = F0 at *
  generalize fn1 k = F1 at *
  generalize fn2 k = F2 at *
  generalize decide (k = 4) = B at *
  clear h hk hk2
  go_enter Try.func35, Try.ntmps35
  go_wp2_with fail
  refine (HT.out _).mono ?_
  rintro e W1 ⟨rfl, hb1⟩
  simp only [World.size_alloc] at hb1
  have hb2 := hb1.alloc (by have := six_size hb1; omega) (.cells #[.func (.func F0) #[] #[], .func (.func F1) #[] #[], .func (.func F2) #[] #[], .bool B] 63)
  have hz1 := six_size hb1
  have rt := RowAt.new W1 63 #[.func (.func F0) #[] #[], .func (.func F1) #[] #[], .func (.func F2) #[] #[], .bool B]
  clear hb1
  go_wp2_with fail
  refine (HC.out _).mono ?_
  rintro e W2 ⟨rfl, hb3⟩
  have hb4 := hb2.trans (hb3.mono (by have := six_size hb2; omega))
  have rt2 := rt.below hb3 rt.lt
  clear hb3 hb2 rt
  have hb5 := hb4.alloc (by have := six_size hb4; omega) (.cells #[.int .i64 0, .int .i64 0] 25)
  clear hb4
  have hb := (six_first w _ _).trans (hb5.mono (by omega))
  obtain ⟨t0, t1, t2, t3, e0, e1, f0, f1, f2, f3, g0, g1⟩ := six_of hb5
  have RR := (show Hid (_ ∧ _) from six_rows hb5)
  clear hb5 HC HT rt2 hz1
  rcases hn with hn | hn
  · go_wp2
    have hq := six_done RR.out.1 RR.out.2 .nilFunc .nilFunc .nilFunc (.bool false) (.int .i64 5) (.int .i64 0)
    refine bodyPost_ret (v := .tuple #[.agg tbl0, .agg #[.int .i64 5, .int .i64 0]]) (results_cells2 Try.results35 _ _ _ _ _ _ _ _ _ _ _ _ rfl rfl hq.1 hq.2 Try.underlying63 rfl v_info_tbl Try.underlying25 rfl v_info_fault) rfl ⟨rfl, ?_⟩
    exact six_below hb (Nat.le_refl _) _ _ _ _ _ _
  · have hn1 : ¬ key.size < 1 := by omega
    go_wp2
    have hq := six_done RR.out.1 RR.out.2 .nilFunc .nilFunc .nilFunc (.bool false) (.int .i64 5) (.int .i64 0)
    refine bodyPost_ret (v := .tuple #[.agg tbl0, .agg #[.int .i64 5, .int .i64 0]]) (results_cells2 Try.results35 _ _ _ _ _ _ _ _ _ _ _ _ rfl rfl hq.1 hq.2 Try.underlying63 rfl v_info_tbl Try.underlying25 rfl v_info_fault) rfl ⟨rfl, ?_⟩
    exact six_below hb (Nat.le_refl _) _ _ _ _ _ _
set_option maxRecDepth 100000 in
set_option maxHeartbeats 1000000 in
theorem tfor_ok (k : Nat) (h : 1 ≤ k ∧ k ≤ 4) (key t : ByteArray) (hk : ckE key.data.toList = 0) (hk2 : ckAt key.data.toList = 0) (hn : 1 ≤ key.size ∧ key.size ≤ 256) (ht : ckE t.data.toList = 0) (ht2 : ckAt t.data.toList = 0) (w : World) : Calls Try.prog 35 #[.int .i64 k, .string key, .string t] w fun e w' => e = .returned (.tuple #[.agg (tbl k), .agg #[.int .i64 0, .int .i64 0]]) ∧ Below w.heap.size w w' := by
  show Calls Try.prog 35 #[.int .i64 k, .string key, .string t] w fun e w' => e = .returned (.tuple #[.agg #[.func (.func (fn0 k)) #[] #[], .func (.func (fn1 k)) #[] #[], .func (.func (fn2 k)) #[] #[], .bool (decide (k = 4))], .agg #[.int .i64 0, .int .i64 0]]) ∧ Below w.heap.size w w'
  have HT := (show Hid (∀ W, Calls Try.prog 42 #[.int .i64 k] W fun e w' => e = .returned (.tuple #[.agg #[.func (.func (fn0 k)) #[] #[], .func (.func (fn1 k)) #[] #[], .func (.func (fn2 k)) #[] #[], .bool (decide (k = 4))], .bool true]) ∧ Below W.heap.size W w') from fun W => tableOf_ok k h W)
  have HC := (show Hid (∀ W, Calls Try.prog 21 #[.string key] W fun e w' => e = .returned (.agg #[.int .i64 0, .int .i64 0]) ∧ Below W.heap.size W w') from fun W => by have := check_all key W; rw [hk, hk2] at this; exact this)
  have HD := (show Hid (∀ W, Calls Try.prog 21 #[.string t] W fun e w' => e = .returned (.agg #[.int .i64 0, .int .i64 0]) ∧ Below W.heap.size W w') from fun W => by have := check_all t W; rw [ht, ht2] at this; exact this)
  generalize fn0 k = F0 at *
  generalize fn1 k = F1 at *
  generalize fn2 k = F2 at *
  generalize decide (k = 4) = B at *
  clear h hk hk2
  go_enter Try.func35, Try.ntmps35
  go_wp2_with fail
  refine (HT.out _).mono ?_
  rintro e W1 ⟨rfl, hb1⟩
  simp only [World.size_alloc] at hb1
  have hb2 := hb1.alloc (by have := six_size hb1; omega) (.cells #[.func (.func F0) #[] #[], .func (.func F1) #[] #[], .func (.func F2) #[] #[], .bool B] 63)
  have hz1 := six_size hb1
  have rt := RowAt.new W1 63 #[.func (.func F0) #[] #[], .func (.func F1) #[] #[], .func (.func F2) #[] #[], .bool B]
  clear hb1
  go_wp2_with fail
  refine (HC.out _).mono ?_
  rintro e W2 ⟨rfl, hb3⟩
  have hb4 := hb2.trans (hb3.mono (by have := six_size hb2; omega))
  have rt2 := rt.below hb3 rt.lt
  clear hb3 hb2 rt
  have hb5 := hb4.alloc (by have := six_size hb4; omega) (.cells #[.int .i64 0, .int .i64 0] 25)
  clear hb4
  have rt3 := rt2.alloc (.cells #[.int .i64 0, .int .i64 0] 25)
  clear rt2
  go_wp2_with fail
  refine (HD.out _).mono ?_
  rintro e W3 ⟨rfl, hb6⟩
  have rt4 := (rt3.below hb6 rt3.lt).alloc (.cells #[.int .i64 0, .int .i64 0] 25)
  have hb7 := hb5.trans (hb6.mono (by have := six_size hb5; omega))
  clear hb6 hb5 rt3
  have hb8 := hb7.alloc (by have := six_size hb7; omega) (.cells #[.int .i64 0, .int .i64 0] 25)
  have hb := (six_first w _ _).trans (hb8.mono (by omega))
  obtain ⟨t0, t1, t2, t3, e0, e1, f0, f1, f2, f3, g0, g1⟩ := six_of hb8
  have RR := (show Hid (_ ∧ _) from six_rows hb8)
  have u0 := rt4.cell (i := 0) rfl
  have u1 := rt4.cell (i := 1) rfl
  have u2 := rt4.cell (i := 2) rfl
  have u3 := rt4.cell (i := 3) rfl
  have n0 : ¬ W1.heap.size = w.heap.size := by omega
  have n1 : ¬ w.heap.size = W1.heap.size := by omega
  have n2 : ¬ W1.heap.size = w.heap.size + 1 := by omega
  have n3 : ¬ w.heap.size + 1 = W1.heap.size := by omega
  clear hb7 hb8 HC HT HD rt4 hz1
  go_wp2
  have hq := six_done RR.out.1 RR.out.2 (.func (.func F0) #[] #[]) (.func (.func F1) #[] #[]) (.func (.func F2) #[] #[]) (.bool B) (.int .i64 0) (.int .i64 0)
  refine bodyPost_ret (v := .tuple #[.agg #[.func (.func F0) #[] #[], .func (.func F1) #[] #[], .func (.func F2) #[] #[], .bool B], .agg #[.int .i64 0, .int .i64 0]]) (results_cells2 Try.results35 _ _ _ _ _ _ _ _ _ _ _ _ rfl rfl hq.1 hq.2 Try.underlying63 rfl v_info_tbl Try.underlying25 rfl v_info_fault) rfl ⟨rfl, ?_⟩
  exact six_below hb (Nat.le_refl _) _ _ _ _ _ _
end Go.Proofs.Yteomoeaoboaclae
