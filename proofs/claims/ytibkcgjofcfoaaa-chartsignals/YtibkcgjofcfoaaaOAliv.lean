/-
  alive (chapter 8), for any Known, Mirror and Write that say what the document's say.
-/
import Derived.Test.YtibkcgjofcfoaaaJn10
namespace Go.Proofs.Ytibkcgjofcfoaaa
open Go.RowKit PK Vg

theorem nums_newP {W : World} {v : Value} {n : Nat} {f : Nat → Int} (h : NumsAt W v n f) (o : Obj) (c : Array Value) : NumsAt ((W.alloc o).setRow W.heap.size c) v n f := nums_new h o c
/-- The three wheels' variables. -/
structure K3 (w W : World) (q1 q2 q3 q4 : Nat) (R1 R2 R3 : Value) : Prop where
  a : RowAt W q1 40 (whl (spl kw1) R1)
  b : RowAt W q2 40 (whl (spl kw2) R2)
  c : RowAt W q3 40 (whl (spl kw3) R3)
  m : RowAt W q4 25 (ints 26 (spl miB))
  n1 : NumsAt W R1 1 fun _ => 16
  n2 : NumsAt W R2 1 fun _ => 4
  n3 : NumsAt W R3 1 fun _ => 21
  below : Below w.heap.size w W
section
variable {w W W' : World} {q1 q2 q3 q4 : Nat} {R1 R2 R3 : Value}
theorem K3.step (h : K3 w W q1 q2 q3 q4 R1 R2 R3) (hb : Below W.heap.size W W') : K3 w W' q1 q2 q3 q4 R1 R2 R3 := ⟨h.a.below hb h.a.lt, h.b.below hb h.b.lt, h.c.below hb h.c.lt, h.m.below hb h.m.lt, h.n1.below hb, h.n2.below hb, h.n3.below hb, h.below.trans (hb.mono h.below.size)⟩
theorem K3.alloc (h : K3 w W q1 q2 q3 q4 R1 R2 R3) (o : Obj) : K3 w (W.alloc o) q1 q2 q3 q4 R1 R2 R3 := h.step ((Below.refl _ _).alloc (Nat.le_refl _) o)
theorem K3.drew (h : K3 w W q1 q2 q3 q4 R1 R2 R3) : K3 w W.drew q1 q2 q3 q4 R1 R2 R3 := ⟨h.a, h.b, h.c, h.m, h.n1, h.n2, h.n3, h.below.drew⟩
end
theorem nums_const {W : World} {v : Value} {x : Nat} (h : NumsAt W v [x].length fun i => (([x].getD i 0 : Nat) : Int)) : NumsAt W v 1 fun _ => (x : Int) := nums_ext h fun i hi => by
  have : i = 0 := by simpa using hi
  subst this
  rfl
theorem with_pr {P : Program} {md : Region.Mode} {ops : Array Oper} {Q : Exit → Act → World → Prop} {S : World → Prop} {fuel : Nat} {listed : Array Bool} {tm : Array Value} {df : List Deferred} {W : World}
    (h : ∀ PR : Nat → Array Bool → Array Value → World → Prop, (∀ fuel listed tm W, wpAnyH P md ops Q S fuel listed ⟨tm, df⟩ W ↔ PR fuel listed tm W) → PR fuel listed tm W) : wpAnyH P md ops Q S fuel listed ⟨tm, df⟩ W := h (fun fuel listed tm W => wpAnyH P md ops Q S fuel listed ⟨tm, df⟩ W) (fun _ _ _ _ => Iff.rfl)
theorem fill_cells (n N : Nat) (g : Nat → Value) (k : Nat) (c : Array Value) (hc : c.size = n) (rest : List (Nat × Value)) (h : k * n + n ≤ N) :
    Instr.fill (fun i => some (i * n, n)) (tab N g) ((k, .agg c) :: rest) = Instr.fill (fun i => some (i * n, n)) (tab N fun i => if k * n ≤ i ∧ i < k * n + n then c.toList.getD (i - k * n) (.bool false) else g i) rest := by
  rw [Instr.fill]
  have h0 : (Value.agg c).cells = c := rfl
  simp only [h0, hc, tab_size]
  rw [if_neg (by simp <;> omega)]
  congr 1
  rw [← Array.foldl_toList, Array.toList_zipIdx]
  have := foldl_lay N (k * n) c.toList 0 g
  rw [this]
  refine tab_ext fun i _ => ?_
  rw [Array.length_toList, hc, Nat.add_zero]
section
variable {P : Program}
theorem run_build3c (w : World) (t e : TypeId) (n : Nat) (hn : n * 3 ≤ 2 ^ 24) (h0 : 0 < n) (z c1 c2 c3 : Array Value) (hu : P.underlying t = some (.slice e)) (hzs : z.size = n) (h1 : c1.size = n) (h2 : c2.size = n) (h3 : c3.size = n) (hz : (P.info? e).map (fun i => (i.zero, i.size)) = some (some (.agg z), n)) :
    (Instr.buildSlice t 3 #[(0, .agg c1), (1, .agg c2), (2, .agg c3)]).run P w = .ok (.slice (some ⟨w.heap.size, 0, none⟩) 3 3) (w.alloc (.cells (c1 ++ c2 ++ c3) e)) := by
  obtain ⟨hz1, hz2⟩ := zero_of_info hz
  cases hq : P.info? e with
  | none => simp [hq] at hz
  | some i =>
    have hs : i.size = n := by simpa [hq] using hz2
    have hsz : ∀ W, (sizeOf e).run P W = .ok n W := fun W => by simp [sizeOf, typeInfo, hq, hs]
    have hfill : Instr.fill (fun i => some (i * n, n)) (tab (3 * n) fun x => z[x % n]!) [(0, .agg c1), (1, .agg c2), (2, .agg c3)] = some (c1 ++ c2 ++ c3) := by
      rw [fill_cells n (3 * n) _ 0 c1 h1 _ (by omega), fill_cells n (3 * n) _ 1 c2 h2 _ (by omega), fill_cells n (3 * n) _ 2 c3 h3 _ (by omega)]
      show some _ = some _
      congr 1
      apply Array.ext_getElem?
      intro i
      by_cases hi : i < 3 * n
      · rw [tab_get _ hi]
        by_cases e1 : i < n
        · rw [if_neg (by omega), if_neg (by omega), if_pos (by omega), Array.getElem?_append, if_pos (by simp; omega), Array.getElem?_append, if_pos (by omega)]
          simp [List.getD_eq_getElem?_getD, h1, e1]
        · by_cases e2 : i < 2 * n
          · rw [if_neg (by omega), if_pos (by omega), Array.getElem?_append, if_pos (by simp; omega), Array.getElem?_append, if_neg (by omega), h1]
            have e3 : i - n < c2.size := by omega
            simp [List.getD_eq_getElem?_getD, e3]
          · rw [if_pos (by omega), Array.getElem?_append, if_neg (by simp; omega)]
            have e3 : i - 2 * n < c3.size := by omega
            have e4 : (c1 ++ c2).size = 2 * n := by simp; omega
            rw [e4]
            simp [List.getD_eq_getElem?_getD, e3]
      · rw [Array.getElem?_eq_none (by rw [tab_size]; omega), Array.getElem?_eq_none (by simp; omega)]
    have h5 : ¬ (3 * n > 2 ^ 24) := by omega
    have h4 : ¬ (3 * n = 0) := by omega
    have hzc : (Value.agg z).cells = z := rfl
    simp only [Instr.buildSlice, Sem.run_bind, run_underlying hu, Result.andThen_ok, hsz, h5, h4, if_false, hz1, Sem.run_pure, hzc, hzs, range_tab, hfill]
    simp [newRow]
theorem wp_build3c {op : Oper} {a : Act} {w : World} {K : Act → World → Prop} {Q : Exit → Act → World → Prop} (t e : TypeId) (x y v : Operand) (ho : op.op = .buildSlice t 3 #[(0, x), (1, y), (2, v)])
    (n : Nat) (hn : n * 3 ≤ 2 ^ 24) (h0 : 0 < n) (z c1 c2 c3 : Array Value) (hx : a.eval x = .agg c1) (hy : a.eval y = .agg c2) (hv : a.eval v = .agg c3) (hu : P.underlying t = some (.slice e)) (hzs : z.size = n) (h1 : c1.size = n) (h2 : c2.size = n) (h3 : c3.size = n) (hz : (P.info? e).map (fun i => (i.zero, i.size)) = some (some (.agg z), n))
    (h : K (a.put op.dst (.slice (some ⟨w.heap.size, 0, none⟩) 3 3)) (w.alloc (.cells (c1 ++ c2 ++ c3) e))) : op.wp P a w K Q := by
  unfold Oper.wp execOp
  have hm : (#[(0, x), (1, y), (2, v)] : Array (Nat × Operand)).map (fun (i, x) => (i, a.eval x)) = #[(0, .agg c1), (1, .agg c2), (2, .agg c3)] := by simp [hx, hy, hv]
  simp only [ho, Sem.run_bind, hm, run_build3c w t e n hn h0 z c1 c2 c3 hu hzs h1 h2 h3 hz, Result.andThen_ok]
  exact h
end
theorem o_zs_whl : (Try.prog.info? 40).map (fun i => (i.zero, i.size)) = some (some (.agg (whl (fun _ => 0) (.slice none 0 0))), 27) := by kernel_rfl
theorem built_mac (a b c : Option Addr) (n1 n2 n3 c1 c2 c3 : Nat) (f g : Nat → Int) : Try.prog.built 27 [(0, .slice a n1 c1), (1, .slice b n2 c2), (2, .slice c n3 c3), (3, .agg (ints 26 f)), (4, .agg (ints 26 g))] = some (mac (.slice a n1 c1) (.slice b n2 c2) (.slice c n3 c3) f g) := by kernel_rfl
theorem below_same {W : World} {b : Nat} {T : TypeId} {c : Array Value} (h : RowAt W b T c) : Below W.heap.size W (W.setRow b c) := by
  have h0 := Below.setRow (Below.refl 0 W) b (Nat.zero_le _) c
  refine ⟨h0.os, h0.tape, h0.output, h0.size, fun k _ => ?_⟩
  by_cases e : k = b
  · subst e
    exact (RowAt.row h c).trans h.symm
  · exact setRow_other W b k c e
theorem mac_al {w W : World} {q1 q2 q3 q4 b3 b4 b5 : Nat} {R1 R2 R3 : Value} (h : K3 w W q1 q2 q3 q4 R1 R2 R3) (f3 : RowAt W b3 40 (whl (spl kw1) R1 ++ whl (spl kw2) R2 ++ whl (spl kw3) R3)) (f4 : RowAt W b4 3 #[.int .i64 0, .int .i64 0, .int .i64 0]) (f5 : RowAt W b5 3 #[.int .i64 0, .int .i64 0, .int .i64 0]) :
    MacAt W (.agg (mac (.slice (some ⟨b3, 0, none⟩) 3 3) (.slice (some ⟨b4, 0, none⟩) 3 3) (.slice (some ⟨b5, 0, none⟩) 3 3) (spl miB) (Pm.up fun i => i))) gAl := by
  have z3 : ∀ b, RowAt W b 3 #[.int .i64 0, .int .i64 0, .int .i64 0] → NumsAt W (.slice (some ⟨b, 0, none⟩) 3 3) 3 fun _ => 0 := fun b f => ⟨_, 3, rfl, by decide, fun c hc => ⟨b, 0, rfl, by
    rw [Nat.zero_add]
    rcases (by omega : c = 0 ∨ c = 1 ∨ c = 2) with rfl | rfl | rfl
    · exact f.cell rfl
    · exact f.cell rfl
    · exact f.cell rfl⟩⟩
  refine ⟨_, _, _, rfl, ?_, z3 b4 f4, z3 b5 f5⟩
  refine ⟨_, 3, fun r => if r = 0 then R1 else if r = 1 then R2 else R3, rfl, by decide, fun r hr => ⟨b3, 0, rfl, ?_⟩, fun r hr => ?_⟩
  · have hr3 : r < 3 := hr
    refine row_mid f3 _ _ fun j v hv => ?_
    have hj : j < 27 := by
      have := (Array.getElem?_eq_some_iff.1 hv).1
      rw [whl_size] at this
      exact this
    rcases (by omega : r = 0 ∨ r = 1 ∨ r = 2) with rfl | rfl | rfl
    · rw [Array.getElem?_append, if_pos (by simp [whl_size]; omega), Array.getElem?_append, if_pos (by rw [whl_size]; omega), show 0 + 0 * 27 + j = j by omega]
      exact hv
    · rw [Array.getElem?_append, if_pos (by simp [whl_size]; omega), Array.getElem?_append, if_neg (by rw [whl_size]; omega), whl_size, show 0 + 1 * 27 + j - 27 = j by omega]
      exact hv
    · rw [Array.getElem?_append, if_neg (by simp [whl_size]), show 0 + 2 * 27 + j - (whl (spl kw1) R1 ++ whl (spl kw2) R2).size = j by simp [whl_size]]
      exact hv
  · have hr3 : r < 3 := hr
    rcases (by omega : r = 0 ∨ r = 1 ∨ r = 2) with rfl | rfl | rfl
    · exact h.n1
    · exact h.n2
    · exact h.n3
set_option maxRecDepth 100000 in
set_option maxHeartbeats 20000000 in
theorem alive8_run (w : World)
    (K1 : Hid (∀ W, Calls Try.prog 22 #[.string ⟨#[73]⟩] W fun e w' => ∃ R, e = .returned (.tuple #[.agg (whl (spl kw1) R), .int .i64 0]) ∧ NumsAt w' R [16].length (fun i => (([16].getD i 0 : Nat) : Int)) ∧ Below W.heap.size W w'))
    (K2 : Hid (∀ W, Calls Try.prog 22 #[.string ⟨#[73, 73]⟩] W fun e w' => ∃ R, e = .returned (.tuple #[.agg (whl (spl kw2) R), .int .i64 0]) ∧ NumsAt w' R [4].length (fun i => (([4].getD i 0 : Nat) : Int)) ∧ Below W.heap.size W w'))
    (K3' : Hid (∀ W, Calls Try.prog 22 #[.string ⟨#[73, 73, 73]⟩] W fun e w' => ∃ R, e = .returned (.tuple #[.agg (whl (spl kw3) R), .int .i64 0]) ∧ NumsAt w' R [21].length (fun i => (([21].getD i 0 : Nat) : Int)) ∧ Below W.heap.size W w'))
    (KM : Hid (∀ W, Calls Try.prog 23 #[.string ⟨#[66]⟩] W fun e w' => e = .returned (.tuple #[.agg (ints 26 (spl miB)), .int .i64 0]) ∧ Below W.heap.size W w'))
    (HWR : Hid (∀ W vm, MacAt W vm gAl → Calls Try.prog 8 #[vm, .string ⟨#[65, 65, 65, 65, 65]⟩] W fun e w' => e = .returned (.tuple #[.string ⟨#[66, 68, 90, 71, 79]⟩, .agg #[.int .i64 0, .int .i64 0]]) ∧ Below W.heap.size W w')) : Calls Try.prog 7 #[] w fun e w' => e = .returned (.bool true) ∧ Below w.heap.size w w' := by
  have hz27 := o_zero v_zero_whl
  have hz26 := o_zero v_zero_perm
  have hbe0 := Below.refl w.heap.size w
  go_enter Try.func7, Try.ntmps7
  go_wp2_with fail
  refine (K1.out _).mono ?_
  rintro e X1 ⟨R1, rfl, hnm, hb⟩
  replace hnm := nums_const hnm
  have HO1 : Hid (R1.oneCell' = true) := by obtain ⟨a', c', e', _⟩ := hnm; rw [Hid, e']; rfl
  have hbe1 := hbe0.trans (hb.mono hbe0.size)
  clear hb K1
  go_upto_region 2 with (first | refine wpList_store_row rfl 40 _ _ rfl X1.heap.size (whl (spl kw1) R1) rfl rfl 40 _ (RowAt.new X1 _ _) (by rw [whl_size]; exact v_info_whl) (by simp only [whl_size]) (whl_one HO1.out) ?_)
  have hr1 := (RowAt.new X1 40 (whl (fun _ => 0) (.slice none 0 0))).row (whl (spl kw1) R1)
  have hn1 := nums_new hnm (.cells (whl (fun _ => 0) (.slice none 0 0)) 40) (whl (spl kw1) R1)
  replace hbe1 : Below w.heap.size w ((X1.alloc (.cells (whl (fun _ => 0) (.slice none 0 0)) 40)).setRow X1.heap.size (whl (spl kw1) R1)) := Below.setRow (hbe1.alloc hbe1.size _) _ hbe1.size _
  generalize (X1.alloc (.cells (whl (fun _ => 0) (.slice none 0 0)) 40)).setRow X1.heap.size (whl (spl kw1) R1) = Y1 at *
  obtain ⟨q1, hq⟩ : ∃ q1, q1 = X1.heap.size := ⟨_, rfl⟩
  rw [← hq] at hr1 ⊢
  clear hq hnm HO1
  go_wp2_with fail
  refine (K2.out _).mono ?_
  rintro e X2 ⟨R2, rfl, hnm, hb⟩
  replace hnm := nums_const hnm
  have HO2 : Hid (R2.oneCell' = true) := by obtain ⟨a', c', e', _⟩ := hnm; rw [Hid, e']; rfl
  have hbe2 := hbe1.trans (hb.mono hbe1.size)
  have hr1x := hr1.below hb hr1.lt
  have hl1x := hr1x.lt
  have hn1x := hn1.below hb
  clear hr1 hn1
  clear hb K2
  go_upto_region 3 with (first | refine wpList_store_row rfl 40 _ _ rfl X2.heap.size (whl (spl kw2) R2) rfl rfl 40 _ (RowAt.new X2 _ _) (by rw [whl_size]; exact v_info_whl) (by simp only [whl_size]) (whl_one HO2.out) ?_)
  have hr2 := (RowAt.new X2 40 (whl (fun _ => 0) (.slice none 0 0))).row (whl (spl kw2) R2)
  have hn2 := nums_new hnm (.cells (whl (fun _ => 0) (.slice none 0 0)) 40) (whl (spl kw2) R2)
  replace hbe2 : Below w.heap.size w ((X2.alloc (.cells (whl (fun _ => 0) (.slice none 0 0)) 40)).setRow X2.heap.size (whl (spl kw2) R2)) := Below.setRow (hbe2.alloc hbe2.size _) _ hbe2.size _
  have hr1 := (hr1x.alloc (.cells (whl (fun _ => 0) (.slice none 0 0)) 40)).rowOther X2.heap.size (whl (spl kw2) R2) (by omega)
  have hn1 := nums_new hn1x (.cells (whl (fun _ => 0) (.slice none 0 0)) 40) (whl (spl kw2) R2)
  clear hr1x hn1x hl1x
  generalize (X2.alloc (.cells (whl (fun _ => 0) (.slice none 0 0)) 40)).setRow X2.heap.size (whl (spl kw2) R2) = Y2 at *
  obtain ⟨q2, hq⟩ : ∃ q2, q2 = X2.heap.size := ⟨_, rfl⟩
  rw [← hq] at hr2 ⊢
  clear hq hnm HO2
  go_wp2_with fail
  refine (K3'.out _).mono ?_
  rintro e X3 ⟨R3, rfl, hnm, hb⟩
  replace hnm := nums_const hnm
  have HO3 : Hid (R3.oneCell' = true) := by obtain ⟨a', c', e', _⟩ := hnm; rw [Hid, e']; rfl
  have hbe3 := hbe2.trans (hb.mono hbe2.size)
  have hr1x := hr1.below hb hr1.lt
  have hl1x := hr1x.lt
  have hn1x := hn1.below hb
  clear hr1 hn1
  have hr2x := hr2.below hb hr2.lt
  have hl2x := hr2x.lt
  have hn2x := hn2.below hb
  clear hr2 hn2
  clear hb K3'
  go_upto_region 4 with (first | refine wpList_store_row rfl 40 _ _ rfl X3.heap.size (whl (spl kw3) R3) rfl rfl 40 _ (RowAt.new X3 _ _) (by rw [whl_size]; exact v_info_whl) (by simp only [whl_size]) (whl_one HO3.out) ?_)
  have hr3 := (RowAt.new X3 40 (whl (fun _ => 0) (.slice none 0 0))).row (whl (spl kw3) R3)
  have hn3 := nums_new hnm (.cells (whl (fun _ => 0) (.slice none 0 0)) 40) (whl (spl kw3) R3)
  replace hbe3 : Below w.heap.size w ((X3.alloc (.cells (whl (fun _ => 0) (.slice none 0 0)) 40)).setRow X3.heap.size (whl (spl kw3) R3)) := Below.setRow (hbe3.alloc hbe3.size _) _ hbe3.size _
  have hr1 := (hr1x.alloc (.cells (whl (fun _ => 0) (.slice none 0 0)) 40)).rowOther X3.heap.size (whl (spl kw3) R3) (by omega)
  have hn1 := nums_new hn1x (.cells (whl (fun _ => 0) (.slice none 0 0)) 40) (whl (spl kw3) R3)
  clear hr1x hn1x hl1x
  have hr2 := (hr2x.alloc (.cells (whl (fun _ => 0) (.slice none 0 0)) 40)).rowOther X3.heap.size (whl (spl kw3) R3) (by omega)
  have hn2 := nums_new hn2x (.cells (whl (fun _ => 0) (.slice none 0 0)) 40) (whl (spl kw3) R3)
  clear hr2x hn2x hl2x
  generalize (X3.alloc (.cells (whl (fun _ => 0) (.slice none 0 0)) 40)).setRow X3.heap.size (whl (spl kw3) R3) = Y3 at *
  obtain ⟨q3, hq⟩ : ∃ q3, q3 = X3.heap.size := ⟨_, rfl⟩
  rw [← hq] at hr3 ⊢
  clear hq hnm HO3
  go_wp2_with fail
  refine (KM.out _).mono ?_
  rintro e X4 ⟨rfl, hb⟩
  have hbe4 := hbe3.trans (hb.mono hbe3.size)
  have hr1x := hr1.below hb hr1.lt
  have hr2x := hr2.below hb hr2.lt
  have hr3x := hr3.below hb hr3.lt
  have hn1x := hn1.below hb
  have hn2x := hn2.below hb
  have hn3x := hn3.below hb
  have hl1x := hr1x.lt
  have hl2x := hr2x.lt
  have hl3x := hr3x.lt
  clear hb KM hr1 hr2 hr3 hn1 hn2 hn3 hbe0 hbe1 hbe2 hbe3
  go_upto_region 5 with (first | refine wpList_store_row rfl 25 _ _ rfl X4.heap.size (ints 26 (spl miB)) rfl rfl 25 _ (RowAt.new X4 _ _) (by rw [ints_size]; exact info_perm) (by simp only [ints_size]) (ints_one _ _) ?_)
  have hk : K3 w ((X4.alloc (.cells (ints 26 fun _ => 0) 25)).setRow X4.heap.size (ints 26 (spl miB))) q1 q2 q3 X4.heap.size R1 R2 R3 := ⟨(hr1x.alloc _).rowOther _ _ (by omega), (hr2x.alloc _).rowOther _ _ (by omega), (hr3x.alloc _).rowOther _ _ (by omega), (RowAt.new X4 25 _).row _, nums_new hn1x _ _, nums_new hn2x _ _, nums_new hn3x _ _, Below.setRow (hbe4.alloc hbe4.size _) _ hbe4.size _⟩
  generalize (X4.alloc (.cells (ints 26 fun _ => 0) 25)).setRow X4.heap.size (ints 26 (spl miB)) = V at *
  obtain ⟨q4, hq⟩ : ∃ q4, q4 = X4.heap.size := ⟨_, rfl⟩
  rw [← hq] at hk ⊢
  clear hq hr1x hr2x hr3x hn1x hn2x hn3x hl1x hl2x hl3x hbe4
  go_upto_region 7 with fail
  refine wp_region_noPanic ?_
  refine wp_region_held_drew (S := fun W => K3 w W q1 q2 q3 q4 R1 R2 R3) (by kernel_rfl) hk.drew (fun hS => ?_)
  refine vtake 0 42 (.agg (whl (spl kw1) R1)) rfl rfl (by kernel_rfl) (by kernel_rfl) (by kernel_rfl) (fun _ _ _ _ h => h) (by rfl) (fun W hW => by have u := run_loadVar_row (P := Try.prog) W q1 40 40 (whl (spl kw1) R1) (0, 0) _ hW.a Try.underlying40 rfl (by rw [whl_size]; exact v_info_whl); clear hS hW; simp [execOp, Act.eval, Instr.loadAt, Instr.sureAddr, u]) hS ?_
  simp only [List.setIfInBounds_toArray, List.set_cons_succ, List.set_cons_zero]
  refine vtake 1 43 (.agg (whl (spl kw2) R2)) rfl rfl (by kernel_rfl) (by kernel_rfl) (by kernel_rfl) (fun _ _ _ _ h => h) (by rfl) (fun W hW => by have u := run_loadVar_row (P := Try.prog) W q2 40 40 (whl (spl kw2) R2) (0, 0) _ hW.b Try.underlying40 rfl (by rw [whl_size]; exact v_info_whl); clear hS hW; simp [execOp, Act.eval, Instr.loadAt, Instr.sureAddr, u]) hS ?_
  simp only [List.setIfInBounds_toArray, List.set_cons_succ, List.set_cons_zero]
  refine vtake 2 44 (.agg (whl (spl kw3) R3)) rfl rfl (by kernel_rfl) (by kernel_rfl) (by kernel_rfl) (fun _ _ _ _ h => h) (by rfl) (fun W hW => by have u := run_loadVar_row (P := Try.prog) W q3 40 40 (whl (spl kw3) R3) (0, 0) _ hW.c Try.underlying40 rfl (by rw [whl_size]; exact v_info_whl); clear hS hW; simp [execOp, Act.eval, Instr.loadAt, Instr.sureAddr, u]) hS ?_
  simp only [List.setIfInBounds_toArray, List.set_cons_succ, List.set_cons_zero]
  refine vtake 6 48 (.agg (ints 26 (spl miB))) rfl rfl (by kernel_rfl) (by kernel_rfl) (by kernel_rfl) (fun _ _ _ _ h => h) (by rfl) (fun W hW => by have u := run_loadVar_row (P := Try.prog) W q4 25 25 (ints 26 (spl miB)) (0, 0) _ hW.m Try.underlying25 rfl (by rw [ints_size]; exact info_perm); clear hS hW; simp [execOp, Act.eval, Instr.loadAt, Instr.sureAddr, u]) hS ?_
  simp only [List.setIfInBounds_toArray, List.set_cons_succ, List.set_cons_zero]
  have HS := (show Hid (∀ W, Calls Try.prog 20 #[] W fun e w' => e = .returned (.agg (ints 26 (Pm.up fun i => i))) ∧ Below W.heap.size W w') from same_any)
  have hbd : ((⟨#[66, 68, 90, 71, 79]⟩ : ByteArray).toList == [66, 68, 90, 71, 79]) = true := by rw [ba_toList]; rfl
  refine with_pr (fun PR hPR => ?_)
  have g3_4_5_7_8_9_13 : ∀ (W : World) (b3 : Nat) (b4 : Nat) (b5 : Nat) (b13 : Nat), K3 w W q1 q2 q3 q4 R1 R2 R3 → RowAt W b3 40 (whl (spl kw1) R1 ++ whl (spl kw2) R2 ++ whl (spl kw3) R3) → RowAt W b4 3 #[.int .i64 0, .int .i64 0, .int .i64 0] → RowAt W b5 3 #[.int .i64 0, .int .i64 0, .int .i64 0] → RowAt W b13 31 #[.int .i64 0, .int .i64 0] → PR 5 #[true, true, true, true, true, true, true, true, true, true, false, false, false, true, false, false] (#[.bool false, .pointer (some ⟨q1, 0, none⟩), .int .i64 0, .pointer (some ⟨q2, 0, none⟩), .int .i64 0, .pointer (some ⟨q3, 0, none⟩), .int .i64 0, .pointer (some ⟨q4, 0, none⟩), .int .i64 0, undef, .pointer (some ⟨b13, 0, none⟩), .tuple #[.agg (whl (spl kw1) R1), .int .i64 0], .tuple #[.agg (whl (spl kw1) R1), .int .i64 0], .agg (whl (spl kw1) R1), .int .i64 0, .tuple #[.agg (whl (spl kw2) R2), .int .i64 0], .tuple #[.agg (whl (spl kw2) R2), .int .i64 0], .agg (whl (spl kw2) R2), .int .i64 0, .tuple #[.agg (whl (spl kw3) R3), .int .i64 0], .tuple #[.agg (whl (spl kw3) R3), .int .i64 0], .agg (whl (spl kw3) R3), .int .i64 0, .tuple #[.agg (ints 26 (spl miB)), .int .i64 0], .tuple #[.agg (ints 26 (spl miB)), .int .i64 0], .agg (ints 26 (spl miB)), .int .i64 0, .int .i64 0, .bool false, .bool false, .int .i64 0, .bool false, .bool false, .bool false, .int .i64 0, .bool false, .bool false, .bool false, .int .i64 0, .bool false, .bool false, undef, .agg (whl (spl kw1) R1), .agg (whl (spl kw2) R2), .agg (whl (spl kw3) R3), .slice (some ⟨b3, 0, none⟩) 3 3, .slice (some ⟨b4, 0, none⟩) 3 3, .slice (some ⟨b5, 0, none⟩) 3 3, .agg (ints 26 (spl miB)), .agg (ints 26 (Pm.up fun i => i)), .agg (mac (.slice (some ⟨b3, 0, none⟩) 3 3) (.slice (some ⟨b4, 0, none⟩) 3 3) (.slice (some ⟨b5, 0, none⟩) 3 3) (spl miB) (Pm.up fun i => i)), .tuple #[.string ⟨#[66, 68, 90, 71, 79]⟩, .agg #[.int .i64 0, .int .i64 0]], undef, undef, undef, undef, undef, undef, undef, undef, undef]) W := by
    intro W b3 b4 b5 b13 hS f3 f4 f5 f13
    refine (hPR _ _ _ _).1 ?_
    refine vtake 10 41 (.tuple #[.string ⟨#[66, 68, 90, 71, 79]⟩, .agg #[.int .i64 0, .int .i64 0]]) rfl rfl (by kernel_rfl) (by kernel_rfl) (by kernel_rfl) (fun _ _ _ _ h => h) (by rfl) (fun W hW => by clear hS hW; go_simp) hS ?_
    simp only [List.setIfInBounds_toArray, List.set_cons_succ, List.set_cons_zero]
    refine vtake 11 52 (.string ⟨#[66, 68, 90, 71, 79]⟩) rfl rfl (by kernel_rfl) (by kernel_rfl) (by kernel_rfl) (fun _ _ _ _ h => h) (by rfl) (fun W hW => by clear hS hW; go_simp) hS ?_
    simp only [List.setIfInBounds_toArray, List.set_cons_succ, List.set_cons_zero]
    refine vtake 12 53 (.agg #[.int .i64 0, .int .i64 0]) rfl rfl (by kernel_rfl) (by kernel_rfl) (by kernel_rfl) (fun _ _ _ _ h => h) (by rfl) (fun W hW => by clear hS hW; go_simp) hS ?_
    simp only [List.setIfInBounds_toArray, List.set_cons_succ, List.set_cons_zero]
    obtain ⟨W', hW'⟩ : ∃ W', W' = W := ⟨_, rfl⟩
    rw [← hW'] at hS f13 ⊢
    clear hW'
    refine vtake 14 9 (.string ⟨#[66, 68, 90, 71, 79]⟩) rfl rfl (by kernel_rfl) (by kernel_rfl) (by kernel_rfl) (fun _ _ _ _ h => h) (by rfl) (fun W hW => by clear hS hW; go_simp) hS ?_
    simp only [List.setIfInBounds_toArray, List.set_cons_succ, List.set_cons_zero]
    refine wpAnyH_ready (rs := [15]) (by kernel_rfl) (by simp) ?_
    refine AllReadyH.cons (o := _) rfl (fun K hK => ?_) AllReadyH.nil
    rw [if_pos (by rfl)]
    refine wp_store_row 31 _ _ rfl b13 #[.int .i64 0, .int .i64 0] rfl rfl 31 _ f13 v_info_fault rfl (two_one _ _) ?_
    have f13r := f13.row #[.int .i64 0, .int .i64 0]
    refine hK.out _ _ (hS.step (below_same f13)) (fun hS1 => ?_)
    refine wpAnyH_done (by kernel_rfl) ?_ _
    refine NoPanic.normal ?_
    have c0 := f13r.cell (i := 0) rfl
    have hbe := hS1.below
    clear hK K hS hS1
    go_wp2
    go_ret
    exact ⟨rfl, hbe⟩
  have g3_4_5_7_8_9 : ∀ (W : World) (b3 : Nat) (b4 : Nat) (b5 : Nat), K3 w W q1 q2 q3 q4 R1 R2 R3 → RowAt W b3 40 (whl (spl kw1) R1 ++ whl (spl kw2) R2 ++ whl (spl kw3) R3) → RowAt W b4 3 #[.int .i64 0, .int .i64 0, .int .i64 0] → RowAt W b5 3 #[.int .i64 0, .int .i64 0, .int .i64 0] → PR 6 #[true, true, true, true, true, true, true, true, true, true, false, false, false, false, false, false] (#[.bool false, .pointer (some ⟨q1, 0, none⟩), .int .i64 0, .pointer (some ⟨q2, 0, none⟩), .int .i64 0, .pointer (some ⟨q3, 0, none⟩), .int .i64 0, .pointer (some ⟨q4, 0, none⟩), .int .i64 0, undef, undef, .tuple #[.agg (whl (spl kw1) R1), .int .i64 0], .tuple #[.agg (whl (spl kw1) R1), .int .i64 0], .agg (whl (spl kw1) R1), .int .i64 0, .tuple #[.agg (whl (spl kw2) R2), .int .i64 0], .tuple #[.agg (whl (spl kw2) R2), .int .i64 0], .agg (whl (spl kw2) R2), .int .i64 0, .tuple #[.agg (whl (spl kw3) R3), .int .i64 0], .tuple #[.agg (whl (spl kw3) R3), .int .i64 0], .agg (whl (spl kw3) R3), .int .i64 0, .tuple #[.agg (ints 26 (spl miB)), .int .i64 0], .tuple #[.agg (ints 26 (spl miB)), .int .i64 0], .agg (ints 26 (spl miB)), .int .i64 0, .int .i64 0, .bool false, .bool false, .int .i64 0, .bool false, .bool false, .bool false, .int .i64 0, .bool false, .bool false, .bool false, .int .i64 0, .bool false, .bool false, undef, .agg (whl (spl kw1) R1), .agg (whl (spl kw2) R2), .agg (whl (spl kw3) R3), .slice (some ⟨b3, 0, none⟩) 3 3, .slice (some ⟨b4, 0, none⟩) 3 3, .slice (some ⟨b5, 0, none⟩) 3 3, .agg (ints 26 (spl miB)), .agg (ints 26 (Pm.up fun i => i)), .agg (mac (.slice (some ⟨b3, 0, none⟩) 3 3) (.slice (some ⟨b4, 0, none⟩) 3 3) (.slice (some ⟨b5, 0, none⟩) 3 3) (spl miB) (Pm.up fun i => i)), .tuple #[.string ⟨#[66, 68, 90, 71, 79]⟩, .agg #[.int .i64 0, .int .i64 0]], undef, undef, undef, undef, undef, undef, undef, undef, undef]) W := by
    intro W b3 b4 b5 hS f3 f4 f5
    refine (hPR _ _ _ _).1 ?_
    refine vtake 10 41 (.tuple #[.string ⟨#[66, 68, 90, 71, 79]⟩, .agg #[.int .i64 0, .int .i64 0]]) rfl rfl (by kernel_rfl) (by kernel_rfl) (by kernel_rfl) (fun _ _ _ _ h => h) (by rfl) (fun W hW => by clear hS hW; go_simp) hS ?_
    simp only [List.setIfInBounds_toArray, List.set_cons_succ, List.set_cons_zero]
    refine vtake 11 52 (.string ⟨#[66, 68, 90, 71, 79]⟩) rfl rfl (by kernel_rfl) (by kernel_rfl) (by kernel_rfl) (fun _ _ _ _ h => h) (by rfl) (fun W hW => by clear hS hW; go_simp) hS ?_
    simp only [List.setIfInBounds_toArray, List.set_cons_succ, List.set_cons_zero]
    refine vtake 12 53 (.agg #[.int .i64 0, .int .i64 0]) rfl rfl (by kernel_rfl) (by kernel_rfl) (by kernel_rfl) (fun _ _ _ _ h => h) (by rfl) (fun W hW => by clear hS hW; go_simp) hS ?_
    simp only [List.setIfInBounds_toArray, List.set_cons_succ, List.set_cons_zero]
    refine wpAnyH_ready (rs := [13]) (by kernel_rfl) (by simp) ?_
    refine AllReadyH.cons (o := _) rfl (fun K hK => ?_) AllReadyH.nil
    rw [if_pos (by rfl)]
    go_simp
    have f13 := RowAt.new W 31 #[.int .i64 0, .int .i64 0]
    refine hK.out _ _ (hS.alloc _) (fun hS1 => ?_)
    clear hK hS K
    have hS := hS1
    clear hS1
    generalize W.alloc (.cells #[.int .i64 0, .int .i64 0] 31) = W' at *
    generalize W.heap.size = b13 at *
    refine vtake 14 9 (.string ⟨#[66, 68, 90, 71, 79]⟩) rfl rfl (by kernel_rfl) (by kernel_rfl) (by kernel_rfl) (fun _ _ _ _ h => h) (by rfl) (fun W hW => by clear hS hW; go_simp) hS ?_
    simp only [List.setIfInBounds_toArray, List.set_cons_succ, List.set_cons_zero]
    refine wpAnyH_ready (rs := [15]) (by kernel_rfl) (by simp) ?_
    refine AllReadyH.cons (o := _) rfl (fun K hK => ?_) AllReadyH.nil
    rw [if_pos (by rfl)]
    refine wp_store_row 31 _ _ rfl b13 #[.int .i64 0, .int .i64 0] rfl rfl 31 _ f13 v_info_fault rfl (two_one _ _) ?_
    have f13r := f13.row #[.int .i64 0, .int .i64 0]
    refine hK.out _ _ (hS.step (below_same f13)) (fun hS1 => ?_)
    refine wpAnyH_done (by kernel_rfl) ?_ _
    refine NoPanic.normal ?_
    have c0 := f13r.cell (i := 0) rfl
    have hbe := hS1.below
    clear hK K hS hS1
    go_wp2
    go_ret
    exact ⟨rfl, hbe⟩
  have g3_4_5_7_8_13 : ∀ (W : World) (b3 : Nat) (b4 : Nat) (b5 : Nat) (b13 : Nat), K3 w W q1 q2 q3 q4 R1 R2 R3 → RowAt W b3 40 (whl (spl kw1) R1 ++ whl (spl kw2) R2 ++ whl (spl kw3) R3) → RowAt W b4 3 #[.int .i64 0, .int .i64 0, .int .i64 0] → RowAt W b5 3 #[.int .i64 0, .int .i64 0, .int .i64 0] → RowAt W b13 31 #[.int .i64 0, .int .i64 0] → PR 6 #[true, true, true, true, true, true, true, true, true, false, false, false, false, true, false, false] (#[.bool false, .pointer (some ⟨q1, 0, none⟩), .int .i64 0, .pointer (some ⟨q2, 0, none⟩), .int .i64 0, .pointer (some ⟨q3, 0, none⟩), .int .i64 0, .pointer (some ⟨q4, 0, none⟩), .int .i64 0, undef, .pointer (some ⟨b13, 0, none⟩), .tuple #[.agg (whl (spl kw1) R1), .int .i64 0], .tuple #[.agg (whl (spl kw1) R1), .int .i64 0], .agg (whl (spl kw1) R1), .int .i64 0, .tuple #[.agg (whl (spl kw2) R2), .int .i64 0], .tuple #[.agg (whl (spl kw2) R2), .int .i64 0], .agg (whl (spl kw2) R2), .int .i64 0, .tuple #[.agg (whl (spl kw3) R3), .int .i64 0], .tuple #[.agg (whl (spl kw3) R3), .int .i64 0], .agg (whl (spl kw3) R3), .int .i64 0, .tuple #[.agg (ints 26 (spl miB)), .int .i64 0], .tuple #[.agg (ints 26 (spl miB)), .int .i64 0], .agg (ints 26 (spl miB)), .int .i64 0, .int .i64 0, .bool false, .bool false, .int .i64 0, .bool false, .bool false, .bool false, .int .i64 0, .bool false, .bool false, .bool false, .int .i64 0, .bool false, .bool false, undef, .agg (whl (spl kw1) R1), .agg (whl (spl kw2) R2), .agg (whl (spl kw3) R3), .slice (some ⟨b3, 0, none⟩) 3 3, .slice (some ⟨b4, 0, none⟩) 3 3, .slice (some ⟨b5, 0, none⟩) 3 3, .agg (ints 26 (spl miB)), .agg (ints 26 (Pm.up fun i => i)), .agg (mac (.slice (some ⟨b3, 0, none⟩) 3 3) (.slice (some ⟨b4, 0, none⟩) 3 3) (.slice (some ⟨b5, 0, none⟩) 3 3) (spl miB) (Pm.up fun i => i)), undef, undef, undef, undef, undef, undef, undef, undef, undef, undef]) W := by
    intro W b3 b4 b5 b13 hS f3 f4 f5 f13
    refine (hPR _ _ _ _).1 ?_
    refine wpAnyH_ready (rs := [9]) (by kernel_rfl) (by simp) ?_
    refine AllReadyH.cons (o := _) rfl (fun K hK => ?_) AllReadyH.nil
    · rw [if_pos (by rfl)]
      go_simp
      refine Calls.mono (HWR.out _ _ (mac_al hS f3 f4 f5)) ?_
      rintro e Y ⟨rfl, hb8⟩
      refine hK.out _ _ (hS.step hb8) (fun hS1 => ?_)
      simp only [List.setIfInBounds_toArray, List.set_cons_succ, List.set_cons_zero]
      refine (hPR _ _ _ _).2 (g3_4_5_7_8_9_13 _ b3 b4 b5 b13 hS1 (f3.below hb8 f3.lt) (f4.below hb8 f4.lt) (f5.below hb8 f5.lt) (f13.below hb8 f13.lt))
  have g3_4_5_7_8 : ∀ (W : World) (b3 : Nat) (b4 : Nat) (b5 : Nat), K3 w W q1 q2 q3 q4 R1 R2 R3 → RowAt W b3 40 (whl (spl kw1) R1 ++ whl (spl kw2) R2 ++ whl (spl kw3) R3) → RowAt W b4 3 #[.int .i64 0, .int .i64 0, .int .i64 0] → RowAt W b5 3 #[.int .i64 0, .int .i64 0, .int .i64 0] → PR 7 #[true, true, true, true, true, true, true, true, true, false, false, false, false, false, false, false] (#[.bool false, .pointer (some ⟨q1, 0, none⟩), .int .i64 0, .pointer (some ⟨q2, 0, none⟩), .int .i64 0, .pointer (some ⟨q3, 0, none⟩), .int .i64 0, .pointer (some ⟨q4, 0, none⟩), .int .i64 0, undef, undef, .tuple #[.agg (whl (spl kw1) R1), .int .i64 0], .tuple #[.agg (whl (spl kw1) R1), .int .i64 0], .agg (whl (spl kw1) R1), .int .i64 0, .tuple #[.agg (whl (spl kw2) R2), .int .i64 0], .tuple #[.agg (whl (spl kw2) R2), .int .i64 0], .agg (whl (spl kw2) R2), .int .i64 0, .tuple #[.agg (whl (spl kw3) R3), .int .i64 0], .tuple #[.agg (whl (spl kw3) R3), .int .i64 0], .agg (whl (spl kw3) R3), .int .i64 0, .tuple #[.agg (ints 26 (spl miB)), .int .i64 0], .tuple #[.agg (ints 26 (spl miB)), .int .i64 0], .agg (ints 26 (spl miB)), .int .i64 0, .int .i64 0, .bool false, .bool false, .int .i64 0, .bool false, .bool false, .bool false, .int .i64 0, .bool false, .bool false, .bool false, .int .i64 0, .bool false, .bool false, undef, .agg (whl (spl kw1) R1), .agg (whl (spl kw2) R2), .agg (whl (spl kw3) R3), .slice (some ⟨b3, 0, none⟩) 3 3, .slice (some ⟨b4, 0, none⟩) 3 3, .slice (some ⟨b5, 0, none⟩) 3 3, .agg (ints 26 (spl miB)), .agg (ints 26 (Pm.up fun i => i)), .agg (mac (.slice (some ⟨b3, 0, none⟩) 3 3) (.slice (some ⟨b4, 0, none⟩) 3 3) (.slice (some ⟨b5, 0, none⟩) 3 3) (spl miB) (Pm.up fun i => i)), undef, undef, undef, undef, undef, undef, undef, undef, undef, undef]) W := by
    intro W b3 b4 b5 hS f3 f4 f5
    refine (hPR _ _ _ _).1 ?_
    refine wpAnyH_ready (rs := [9, 13]) (by kernel_rfl) (by simp) ?_
    refine AllReadyH.cons (o := _) rfl (fun K hK => ?_) (AllReadyH.cons (o := _) rfl (fun K hK => ?_) AllReadyH.nil)
    · rw [if_pos (by rfl)]
      go_simp
      refine Calls.mono (HWR.out _ _ (mac_al hS f3 f4 f5)) ?_
      rintro e Y ⟨rfl, hb8⟩
      refine hK.out _ _ (hS.step hb8) (fun hS1 => ?_)
      simp only [List.setIfInBounds_toArray, List.set_cons_succ, List.set_cons_zero]
      refine (hPR _ _ _ _).2 (g3_4_5_7_8_9 _ b3 b4 b5 hS1 (f3.below hb8 f3.lt) (f4.below hb8 f4.lt) (f5.below hb8 f5.lt))
    · rw [if_pos (by rfl)]
      go_simp
      refine hK.out _ _ (hS.alloc _) (fun hS1 => ?_)
      simp only [List.setIfInBounds_toArray, List.set_cons_succ, List.set_cons_zero]
      refine (hPR _ _ _ _).2 (g3_4_5_7_8_13 _ b3 b4 b5 W.heap.size hS1 (f3.alloc _) (f4.alloc _) (f5.alloc _) (RowAt.new _ _ _))
  have g3_4_5_7_13 : ∀ (W : World) (b3 : Nat) (b4 : Nat) (b5 : Nat) (b13 : Nat), K3 w W q1 q2 q3 q4 R1 R2 R3 → RowAt W b3 40 (whl (spl kw1) R1 ++ whl (spl kw2) R2 ++ whl (spl kw3) R3) → RowAt W b4 3 #[.int .i64 0, .int .i64 0, .int .i64 0] → RowAt W b5 3 #[.int .i64 0, .int .i64 0, .int .i64 0] → RowAt W b13 31 #[.int .i64 0, .int .i64 0] → PR 7 #[true, true, true, true, true, true, true, true, false, false, false, false, false, true, false, false] (#[.bool false, .pointer (some ⟨q1, 0, none⟩), .int .i64 0, .pointer (some ⟨q2, 0, none⟩), .int .i64 0, .pointer (some ⟨q3, 0, none⟩), .int .i64 0, .pointer (some ⟨q4, 0, none⟩), .int .i64 0, undef, .pointer (some ⟨b13, 0, none⟩), .tuple #[.agg (whl (spl kw1) R1), .int .i64 0], .tuple #[.agg (whl (spl kw1) R1), .int .i64 0], .agg (whl (spl kw1) R1), .int .i64 0, .tuple #[.agg (whl (spl kw2) R2), .int .i64 0], .tuple #[.agg (whl (spl kw2) R2), .int .i64 0], .agg (whl (spl kw2) R2), .int .i64 0, .tuple #[.agg (whl (spl kw3) R3), .int .i64 0], .tuple #[.agg (whl (spl kw3) R3), .int .i64 0], .agg (whl (spl kw3) R3), .int .i64 0, .tuple #[.agg (ints 26 (spl miB)), .int .i64 0], .tuple #[.agg (ints 26 (spl miB)), .int .i64 0], .agg (ints 26 (spl miB)), .int .i64 0, .int .i64 0, .bool false, .bool false, .int .i64 0, .bool false, .bool false, .bool false, .int .i64 0, .bool false, .bool false, .bool false, .int .i64 0, .bool false, .bool false, undef, .agg (whl (spl kw1) R1), .agg (whl (spl kw2) R2), .agg (whl (spl kw3) R3), .slice (some ⟨b3, 0, none⟩) 3 3, .slice (some ⟨b4, 0, none⟩) 3 3, .slice (some ⟨b5, 0, none⟩) 3 3, .agg (ints 26 (spl miB)), .agg (ints 26 (Pm.up fun i => i)), undef, undef, undef, undef, undef, undef, undef, undef, undef, undef, undef]) W := by
    intro W b3 b4 b5 b13 hS f3 f4 f5 f13
    refine (hPR _ _ _ _).1 ?_
    refine vtake 8 50 (.agg (mac (.slice (some ⟨b3, 0, none⟩) 3 3) (.slice (some ⟨b4, 0, none⟩) 3 3) (.slice (some ⟨b5, 0, none⟩) 3 3) (spl miB) (Pm.up fun i => i))) rfl rfl (by kernel_rfl) (by kernel_rfl) (by kernel_rfl) (fun _ _ _ _ h => h) (by rfl) (fun W hW => by have u := run_build (P := Try.prog) W 27 #[(0, .slice (some ⟨b3, 0, none⟩) 3 3), (1, .slice (some ⟨b4, 0, none⟩) 3 3), (2, .slice (some ⟨b5, 0, none⟩) 3 3), (3, .agg (ints 26 (spl miB))), (4, .agg (ints 26 (Pm.up fun i => i)))] _ (built_mac _ _ _ _ _ _ _ _ _ _ _); clear hS hW; simp [execOp, Act.eval, u]) hS ?_
    simp only [List.setIfInBounds_toArray, List.set_cons_succ, List.set_cons_zero]
    exact (hPR _ _ _ _).2 (g3_4_5_7_8_13 _ b3 b4 b5 b13 hS f3 f4 f5 f13)
  have g3_4_5_7 : ∀ (W : World) (b3 : Nat) (b4 : Nat) (b5 : Nat), K3 w W q1 q2 q3 q4 R1 R2 R3 → RowAt W b3 40 (whl (spl kw1) R1 ++ whl (spl kw2) R2 ++ whl (spl kw3) R3) → RowAt W b4 3 #[.int .i64 0, .int .i64 0, .int .i64 0] → RowAt W b5 3 #[.int .i64 0, .int .i64 0, .int .i64 0] → PR 8 #[true, true, true, true, true, true, true, true, false, false, false, false, false, false, false, false] (#[.bool false, .pointer (some ⟨q1, 0, none⟩), .int .i64 0, .pointer (some ⟨q2, 0, none⟩), .int .i64 0, .pointer (some ⟨q3, 0, none⟩), .int .i64 0, .pointer (some ⟨q4, 0, none⟩), .int .i64 0, undef, undef, .tuple #[.agg (whl (spl kw1) R1), .int .i64 0], .tuple #[.agg (whl (spl kw1) R1), .int .i64 0], .agg (whl (spl kw1) R1), .int .i64 0, .tuple #[.agg (whl (spl kw2) R2), .int .i64 0], .tuple #[.agg (whl (spl kw2) R2), .int .i64 0], .agg (whl (spl kw2) R2), .int .i64 0, .tuple #[.agg (whl (spl kw3) R3), .int .i64 0], .tuple #[.agg (whl (spl kw3) R3), .int .i64 0], .agg (whl (spl kw3) R3), .int .i64 0, .tuple #[.agg (ints 26 (spl miB)), .int .i64 0], .tuple #[.agg (ints 26 (spl miB)), .int .i64 0], .agg (ints 26 (spl miB)), .int .i64 0, .int .i64 0, .bool false, .bool false, .int .i64 0, .bool false, .bool false, .bool false, .int .i64 0, .bool false, .bool false, .bool false, .int .i64 0, .bool false, .bool false, undef, .agg (whl (spl kw1) R1), .agg (whl (spl kw2) R2), .agg (whl (spl kw3) R3), .slice (some ⟨b3, 0, none⟩) 3 3, .slice (some ⟨b4, 0, none⟩) 3 3, .slice (some ⟨b5, 0, none⟩) 3 3, .agg (ints 26 (spl miB)), .agg (ints 26 (Pm.up fun i => i)), undef, undef, undef, undef, undef, undef, undef, undef, undef, undef, undef]) W := by
    intro W b3 b4 b5 hS f3 f4 f5
    refine (hPR _ _ _ _).1 ?_
    refine vtake 8 50 (.agg (mac (.slice (some ⟨b3, 0, none⟩) 3 3) (.slice (some ⟨b4, 0, none⟩) 3 3) (.slice (some ⟨b5, 0, none⟩) 3 3) (spl miB) (Pm.up fun i => i))) rfl rfl (by kernel_rfl) (by kernel_rfl) (by kernel_rfl) (fun _ _ _ _ h => h) (by rfl) (fun W hW => by have u := run_build (P := Try.prog) W 27 #[(0, .slice (some ⟨b3, 0, none⟩) 3 3), (1, .slice (some ⟨b4, 0, none⟩) 3 3), (2, .slice (some ⟨b5, 0, none⟩) 3 3), (3, .agg (ints 26 (spl miB))), (4, .agg (ints 26 (Pm.up fun i => i)))] _ (built_mac _ _ _ _ _ _ _ _ _ _ _); clear hS hW; simp [execOp, Act.eval, u]) hS ?_
    simp only [List.setIfInBounds_toArray, List.set_cons_succ, List.set_cons_zero]
    exact (hPR _ _ _ _).2 (g3_4_5_7_8 _ b3 b4 b5 hS f3 f4 f5)
  have g3_4_5_13 : ∀ (W : World) (b3 : Nat) (b4 : Nat) (b5 : Nat) (b13 : Nat), K3 w W q1 q2 q3 q4 R1 R2 R3 → RowAt W b3 40 (whl (spl kw1) R1 ++ whl (spl kw2) R2 ++ whl (spl kw3) R3) → RowAt W b4 3 #[.int .i64 0, .int .i64 0, .int .i64 0] → RowAt W b5 3 #[.int .i64 0, .int .i64 0, .int .i64 0] → RowAt W b13 31 #[.int .i64 0, .int .i64 0] → PR 8 #[true, true, true, true, true, true, true, false, false, false, false, false, false, true, false, false] (#[.bool false, .pointer (some ⟨q1, 0, none⟩), .int .i64 0, .pointer (some ⟨q2, 0, none⟩), .int .i64 0, .pointer (some ⟨q3, 0, none⟩), .int .i64 0, .pointer (some ⟨q4, 0, none⟩), .int .i64 0, undef, .pointer (some ⟨b13, 0, none⟩), .tuple #[.agg (whl (spl kw1) R1), .int .i64 0], .tuple #[.agg (whl (spl kw1) R1), .int .i64 0], .agg (whl (spl kw1) R1), .int .i64 0, .tuple #[.agg (whl (spl kw2) R2), .int .i64 0], .tuple #[.agg (whl (spl kw2) R2), .int .i64 0], .agg (whl (spl kw2) R2), .int .i64 0, .tuple #[.agg (whl (spl kw3) R3), .int .i64 0], .tuple #[.agg (whl (spl kw3) R3), .int .i64 0], .agg (whl (spl kw3) R3), .int .i64 0, .tuple #[.agg (ints 26 (spl miB)), .int .i64 0], .tuple #[.agg (ints 26 (spl miB)), .int .i64 0], .agg (ints 26 (spl miB)), .int .i64 0, .int .i64 0, .bool false, .bool false, .int .i64 0, .bool false, .bool false, .bool false, .int .i64 0, .bool false, .bool false, .bool false, .int .i64 0, .bool false, .bool false, undef, .agg (whl (spl kw1) R1), .agg (whl (spl kw2) R2), .agg (whl (spl kw3) R3), .slice (some ⟨b3, 0, none⟩) 3 3, .slice (some ⟨b4, 0, none⟩) 3 3, .slice (some ⟨b5, 0, none⟩) 3 3, .agg (ints 26 (spl miB)), undef, undef, undef, undef, undef, undef, undef, undef, undef, undef, undef, undef]) W := by
    intro W b3 b4 b5 b13 hS f3 f4 f5 f13
    refine (hPR _ _ _ _).1 ?_
    refine wpAnyH_ready (rs := [7]) (by kernel_rfl) (by simp) ?_
    refine AllReadyH.cons (o := _) rfl (fun K hK => ?_) AllReadyH.nil
    · rw [if_pos (by rfl)]
      go_simp
      refine Calls.mono (HS.out _) ?_
      rintro e Y ⟨rfl, hb8⟩
      refine hK.out _ _ (hS.step hb8) (fun hS1 => ?_)
      simp only [List.setIfInBounds_toArray, List.set_cons_succ, List.set_cons_zero]
      refine (hPR _ _ _ _).2 (g3_4_5_7_13 _ b3 b4 b5 b13 hS1 (f3.below hb8 f3.lt) (f4.below hb8 f4.lt) (f5.below hb8 f5.lt) (f13.below hb8 f13.lt))
  have g3_4_7_13 : ∀ (W : World) (b3 : Nat) (b4 : Nat) (b13 : Nat), K3 w W q1 q2 q3 q4 R1 R2 R3 → RowAt W b3 40 (whl (spl kw1) R1 ++ whl (spl kw2) R2 ++ whl (spl kw3) R3) → RowAt W b4 3 #[.int .i64 0, .int .i64 0, .int .i64 0] → RowAt W b13 31 #[.int .i64 0, .int .i64 0] → PR 8 #[true, true, true, true, true, false, true, true, false, false, false, false, false, true, false, false] (#[.bool false, .pointer (some ⟨q1, 0, none⟩), .int .i64 0, .pointer (some ⟨q2, 0, none⟩), .int .i64 0, .pointer (some ⟨q3, 0, none⟩), .int .i64 0, .pointer (some ⟨q4, 0, none⟩), .int .i64 0, undef, .pointer (some ⟨b13, 0, none⟩), .tuple #[.agg (whl (spl kw1) R1), .int .i64 0], .tuple #[.agg (whl (spl kw1) R1), .int .i64 0], .agg (whl (spl kw1) R1), .int .i64 0, .tuple #[.agg (whl (spl kw2) R2), .int .i64 0], .tuple #[.agg (whl (spl kw2) R2), .int .i64 0], .agg (whl (spl kw2) R2), .int .i64 0, .tuple #[.agg (whl (spl kw3) R3), .int .i64 0], .tuple #[.agg (whl (spl kw3) R3), .int .i64 0], .agg (whl (spl kw3) R3), .int .i64 0, .tuple #[.agg (ints 26 (spl miB)), .int .i64 0], .tuple #[.agg (ints 26 (spl miB)), .int .i64 0], .agg (ints 26 (spl miB)), .int .i64 0, .int .i64 0, .bool false, .bool false, .int .i64 0, .bool false, .bool false, .bool false, .int .i64 0, .bool false, .bool false, .bool false, .int .i64 0, .bool false, .bool false, undef, .agg (whl (spl kw1) R1), .agg (whl (spl kw2) R2), .agg (whl (spl kw3) R3), .slice (some ⟨b3, 0, none⟩) 3 3, .slice (some ⟨b4, 0, none⟩) 3 3, undef, .agg (ints 26 (spl miB)), .agg (ints 26 (Pm.up fun i => i)), undef, undef, undef, undef, undef, undef, undef, undef, undef, undef, undef]) W := by
    intro W b3 b4 b13 hS f3 f4 f13
    refine (hPR _ _ _ _).1 ?_
    refine wpAnyH_ready (rs := [5]) (by kernel_rfl) (by simp) ?_
    refine AllReadyH.cons (o := _) rfl (fun K hK => ?_) AllReadyH.nil
    · rw [if_pos (by rfl)]
      go_simp
      refine hK.out _ _ (hS.alloc _) (fun hS1 => ?_)
      simp only [List.setIfInBounds_toArray, List.set_cons_succ, List.set_cons_zero]
      refine (hPR _ _ _ _).2 (g3_4_5_7_13 _ b3 b4 W.heap.size b13 hS1 (f3.alloc _) (f4.alloc _) (RowAt.new _ _ _) (f13.alloc _))
  have g3_5_7_13 : ∀ (W : World) (b3 : Nat) (b5 : Nat) (b13 : Nat), K3 w W q1 q2 q3 q4 R1 R2 R3 → RowAt W b3 40 (whl (spl kw1) R1 ++ whl (spl kw2) R2 ++ whl (spl kw3) R3) → RowAt W b5 3 #[.int .i64 0, .int .i64 0, .int .i64 0] → RowAt W b13 31 #[.int .i64 0, .int .i64 0] → PR 8 #[true, true, true, true, false, true, true, true, false, false, false, false, false, true, false, false] (#[.bool false, .pointer (some ⟨q1, 0, none⟩), .int .i64 0, .pointer (some ⟨q2, 0, none⟩), .int .i64 0, .pointer (some ⟨q3, 0, none⟩), .int .i64 0, .pointer (some ⟨q4, 0, none⟩), .int .i64 0, undef, .pointer (some ⟨b13, 0, none⟩), .tuple #[.agg (whl (spl kw1) R1), .int .i64 0], .tuple #[.agg (whl (spl kw1) R1), .int .i64 0], .agg (whl (spl kw1) R1), .int .i64 0, .tuple #[.agg (whl (spl kw2) R2), .int .i64 0], .tuple #[.agg (whl (spl kw2) R2), .int .i64 0], .agg (whl (spl kw2) R2), .int .i64 0, .tuple #[.agg (whl (spl kw3) R3), .int .i64 0], .tuple #[.agg (whl (spl kw3) R3), .int .i64 0], .agg (whl (spl kw3) R3), .int .i64 0, .tuple #[.agg (ints 26 (spl miB)), .int .i64 0], .tuple #[.agg (ints 26 (spl miB)), .int .i64 0], .agg (ints 26 (spl miB)), .int .i64 0, .int .i64 0, .bool false, .bool false, .int .i64 0, .bool false, .bool false, .bool false, .int .i64 0, .bool false, .bool false, .bool false, .int .i64 0, .bool false, .bool false, undef, .agg (whl (spl kw1) R1), .agg (whl (spl kw2) R2), .agg (whl (spl kw3) R3), .slice (some ⟨b3, 0, none⟩) 3 3, undef, .slice (some ⟨b5, 0, none⟩) 3 3, .agg (ints 26 (spl miB)), .agg (ints 26 (Pm.up fun i => i)), undef, undef, undef, undef, undef, undef, undef, undef, undef, undef, undef]) W := by
    intro W b3 b5 b13 hS f3 f5 f13
    refine (hPR _ _ _ _).1 ?_
    refine wpAnyH_ready (rs := [4]) (by kernel_rfl) (by simp) ?_
    refine AllReadyH.cons (o := _) rfl (fun K hK => ?_) AllReadyH.nil
    · rw [if_pos (by rfl)]
      go_simp
      refine hK.out _ _ (hS.alloc _) (fun hS1 => ?_)
      simp only [List.setIfInBounds_toArray, List.set_cons_succ, List.set_cons_zero]
      refine (hPR _ _ _ _).2 (g3_4_5_7_13 _ b3 W.heap.size b5 b13 hS1 (f3.alloc _) (RowAt.new _ _ _) (f5.alloc _) (f13.alloc _))
  have g4_5_7_13 : ∀ (W : World) (b4 : Nat) (b5 : Nat) (b13 : Nat), K3 w W q1 q2 q3 q4 R1 R2 R3 → RowAt W b4 3 #[.int .i64 0, .int .i64 0, .int .i64 0] → RowAt W b5 3 #[.int .i64 0, .int .i64 0, .int .i64 0] → RowAt W b13 31 #[.int .i64 0, .int .i64 0] → PR 8 #[true, true, true, false, true, true, true, true, false, false, false, false, false, true, false, false] (#[.bool false, .pointer (some ⟨q1, 0, none⟩), .int .i64 0, .pointer (some ⟨q2, 0, none⟩), .int .i64 0, .pointer (some ⟨q3, 0, none⟩), .int .i64 0, .pointer (some ⟨q4, 0, none⟩), .int .i64 0, undef, .pointer (some ⟨b13, 0, none⟩), .tuple #[.agg (whl (spl kw1) R1), .int .i64 0], .tuple #[.agg (whl (spl kw1) R1), .int .i64 0], .agg (whl (spl kw1) R1), .int .i64 0, .tuple #[.agg (whl (spl kw2) R2), .int .i64 0], .tuple #[.agg (whl (spl kw2) R2), .int .i64 0], .agg (whl (spl kw2) R2), .int .i64 0, .tuple #[.agg (whl (spl kw3) R3), .int .i64 0], .tuple #[.agg (whl (spl kw3) R3), .int .i64 0], .agg (whl (spl kw3) R3), .int .i64 0, .tuple #[.agg (ints 26 (spl miB)), .int .i64 0], .tuple #[.agg (ints 26 (spl miB)), .int .i64 0], .agg (ints 26 (spl miB)), .int .i64 0, .int .i64 0, .bool false, .bool false, .int .i64 0, .bool false, .bool false, .bool false, .int .i64 0, .bool false, .bool false, .bool false, .int .i64 0, .bool false, .bool false, undef, .agg (whl (spl kw1) R1), .agg (whl (spl kw2) R2), .agg (whl (spl kw3) R3), undef, .slice (some ⟨b4, 0, none⟩) 3 3, .slice (some ⟨b5, 0, none⟩) 3 3, .agg (ints 26 (spl miB)), .agg (ints 26 (Pm.up fun i => i)), undef, undef, undef, undef, undef, undef, undef, undef, undef, undef, undef]) W := by
    intro W b4 b5 b13 hS f4 f5 f13
    refine (hPR _ _ _ _).1 ?_
    refine wpAnyH_ready (rs := [3]) (by kernel_rfl) (by simp) ?_
    refine AllReadyH.cons (o := _) rfl (fun K hK => ?_) AllReadyH.nil
    · rw [if_pos (by rfl)]
      refine wp_build3c 22 40 _ _ _ rfl 27 (by decide) (by decide) (whl (fun _ => 0) (.slice none 0 0)) (whl (spl kw1) R1) (whl (spl kw2) R2) (whl (spl kw3) R3) rfl rfl rfl Try.underlying22 (whl_size _ _) (whl_size _ _) (whl_size _ _) (whl_size _ _) o_zs_whl ?_
      refine hK.out _ _ (hS.alloc _) (fun hS1 => ?_)
      simp only [List.getElem_toArray, List.getElem_cons_succ, List.getElem_cons_zero, Act.put, List.setIfInBounds_toArray, List.set_cons_succ, List.set_cons_zero]
      refine (hPR _ _ _ _).2 (g3_4_5_7_13 _ W.heap.size b4 b5 b13 hS1 (RowAt.new _ _ _) (f4.alloc _) (f5.alloc _) (f13.alloc _))
  have g3_4_5 : ∀ (W : World) (b3 : Nat) (b4 : Nat) (b5 : Nat), K3 w W q1 q2 q3 q4 R1 R2 R3 → RowAt W b3 40 (whl (spl kw1) R1 ++ whl (spl kw2) R2 ++ whl (spl kw3) R3) → RowAt W b4 3 #[.int .i64 0, .int .i64 0, .int .i64 0] → RowAt W b5 3 #[.int .i64 0, .int .i64 0, .int .i64 0] → PR 9 #[true, true, true, true, true, true, true, false, false, false, false, false, false, false, false, false] (#[.bool false, .pointer (some ⟨q1, 0, none⟩), .int .i64 0, .pointer (some ⟨q2, 0, none⟩), .int .i64 0, .pointer (some ⟨q3, 0, none⟩), .int .i64 0, .pointer (some ⟨q4, 0, none⟩), .int .i64 0, undef, undef, .tuple #[.agg (whl (spl kw1) R1), .int .i64 0], .tuple #[.agg (whl (spl kw1) R1), .int .i64 0], .agg (whl (spl kw1) R1), .int .i64 0, .tuple #[.agg (whl (spl kw2) R2), .int .i64 0], .tuple #[.agg (whl (spl kw2) R2), .int .i64 0], .agg (whl (spl kw2) R2), .int .i64 0, .tuple #[.agg (whl (spl kw3) R3), .int .i64 0], .tuple #[.agg (whl (spl kw3) R3), .int .i64 0], .agg (whl (spl kw3) R3), .int .i64 0, .tuple #[.agg (ints 26 (spl miB)), .int .i64 0], .tuple #[.agg (ints 26 (spl miB)), .int .i64 0], .agg (ints 26 (spl miB)), .int .i64 0, .int .i64 0, .bool false, .bool false, .int .i64 0, .bool false, .bool false, .bool false, .int .i64 0, .bool false, .bool false, .bool false, .int .i64 0, .bool false, .bool false, undef, .agg (whl (spl kw1) R1), .agg (whl (spl kw2) R2), .agg (whl (spl kw3) R3), .slice (some ⟨b3, 0, none⟩) 3 3, .slice (some ⟨b4, 0, none⟩) 3 3, .slice (some ⟨b5, 0, none⟩) 3 3, .agg (ints 26 (spl miB)), undef, undef, undef, undef, undef, undef, undef, undef, undef, undef, undef, undef]) W := by
    intro W b3 b4 b5 hS f3 f4 f5
    refine (hPR _ _ _ _).1 ?_
    refine wpAnyH_ready (rs := [7, 13]) (by kernel_rfl) (by simp) ?_
    refine AllReadyH.cons (o := _) rfl (fun K hK => ?_) (AllReadyH.cons (o := _) rfl (fun K hK => ?_) AllReadyH.nil)
    · rw [if_pos (by rfl)]
      go_simp
      refine Calls.mono (HS.out _) ?_
      rintro e Y ⟨rfl, hb8⟩
      refine hK.out _ _ (hS.step hb8) (fun hS1 => ?_)
      simp only [List.setIfInBounds_toArray, List.set_cons_succ, List.set_cons_zero]
      refine (hPR _ _ _ _).2 (g3_4_5_7 _ b3 b4 b5 hS1 (f3.below hb8 f3.lt) (f4.below hb8 f4.lt) (f5.below hb8 f5.lt))
    · rw [if_pos (by rfl)]
      go_simp
      refine hK.out _ _ (hS.alloc _) (fun hS1 => ?_)
      simp only [List.setIfInBounds_toArray, List.set_cons_succ, List.set_cons_zero]
      refine (hPR _ _ _ _).2 (g3_4_5_13 _ b3 b4 b5 W.heap.size hS1 (f3.alloc _) (f4.alloc _) (f5.alloc _) (RowAt.new _ _ _))
  have g3_4_7 : ∀ (W : World) (b3 : Nat) (b4 : Nat), K3 w W q1 q2 q3 q4 R1 R2 R3 → RowAt W b3 40 (whl (spl kw1) R1 ++ whl (spl kw2) R2 ++ whl (spl kw3) R3) → RowAt W b4 3 #[.int .i64 0, .int .i64 0, .int .i64 0] → PR 9 #[true, true, true, true, true, false, true, true, false, false, false, false, false, false, false, false] (#[.bool false, .pointer (some ⟨q1, 0, none⟩), .int .i64 0, .pointer (some ⟨q2, 0, none⟩), .int .i64 0, .pointer (some ⟨q3, 0, none⟩), .int .i64 0, .pointer (some ⟨q4, 0, none⟩), .int .i64 0, undef, undef, .tuple #[.agg (whl (spl kw1) R1), .int .i64 0], .tuple #[.agg (whl (spl kw1) R1), .int .i64 0], .agg (whl (spl kw1) R1), .int .i64 0, .tuple #[.agg (whl (spl kw2) R2), .int .i64 0], .tuple #[.agg (whl (spl kw2) R2), .int .i64 0], .agg (whl (spl kw2) R2), .int .i64 0, .tuple #[.agg (whl (spl kw3) R3), .int .i64 0], .tuple #[.agg (whl (spl kw3) R3), .int .i64 0], .agg (whl (spl kw3) R3), .int .i64 0, .tuple #[.agg (ints 26 (spl miB)), .int .i64 0], .tuple #[.agg (ints 26 (spl miB)), .int .i64 0], .agg (ints 26 (spl miB)), .int .i64 0, .int .i64 0, .bool false, .bool false, .int .i64 0, .bool false, .bool false, .bool false, .int .i64 0, .bool false, .bool false, .bool false, .int .i64 0, .bool false, .bool false, undef, .agg (whl (spl kw1) R1), .agg (whl (spl kw2) R2), .agg (whl (spl kw3) R3), .slice (some ⟨b3, 0, none⟩) 3 3, .slice (some ⟨b4, 0, none⟩) 3 3, undef, .agg (ints 26 (spl miB)), .agg (ints 26 (Pm.up fun i => i)), undef, undef, undef, undef, undef, undef, undef, undef, undef, undef, undef]) W := by
    intro W b3 b4 hS f3 f4
    refine (hPR _ _ _ _).1 ?_
    refine wpAnyH_ready (rs := [5, 13]) (by kernel_rfl) (by simp) ?_
    refine AllReadyH.cons (o := _) rfl (fun K hK => ?_) (AllReadyH.cons (o := _) rfl (fun K hK => ?_) AllReadyH.nil)
    · rw [if_pos (by rfl)]
      go_simp
      refine hK.out _ _ (hS.alloc _) (fun hS1 => ?_)
      simp only [List.setIfInBounds_toArray, List.set_cons_succ, List.set_cons_zero]
      refine (hPR _ _ _ _).2 (g3_4_5_7 _ b3 b4 W.heap.size hS1 (f3.alloc _) (f4.alloc _) (RowAt.new _ _ _))
    · rw [if_pos (by rfl)]
      go_simp
      refine hK.out _ _ (hS.alloc _) (fun hS1 => ?_)
      simp only [List.setIfInBounds_toArray, List.set_cons_succ, List.set_cons_zero]
      refine (hPR _ _ _ _).2 (g3_4_7_13 _ b3 b4 W.heap.size hS1 (f3.alloc _) (f4.alloc _) (RowAt.new _ _ _))
  have g3_4_13 : ∀ (W : World) (b3 : Nat) (b4 : Nat) (b13 : Nat), K3 w W q1 q2 q3 q4 R1 R2 R3 → RowAt W b3 40 (whl (spl kw1) R1 ++ whl (spl kw2) R2 ++ whl (spl kw3) R3) → RowAt W b4 3 #[.int .i64 0, .int .i64 0, .int .i64 0] → RowAt W b13 31 #[.int .i64 0, .int .i64 0] → PR 9 #[true, true, true, true, true, false, true, false, false, false, false, false, false, true, false, false] (#[.bool false, .pointer (some ⟨q1, 0, none⟩), .int .i64 0, .pointer (some ⟨q2, 0, none⟩), .int .i64 0, .pointer (some ⟨q3, 0, none⟩), .int .i64 0, .pointer (some ⟨q4, 0, none⟩), .int .i64 0, undef, .pointer (some ⟨b13, 0, none⟩), .tuple #[.agg (whl (spl kw1) R1), .int .i64 0], .tuple #[.agg (whl (spl kw1) R1), .int .i64 0], .agg (whl (spl kw1) R1), .int .i64 0, .tuple #[.agg (whl (spl kw2) R2), .int .i64 0], .tuple #[.agg (whl (spl kw2) R2), .int .i64 0], .agg (whl (spl kw2) R2), .int .i64 0, .tuple #[.agg (whl (spl kw3) R3), .int .i64 0], .tuple #[.agg (whl (spl kw3) R3), .int .i64 0], .agg (whl (spl kw3) R3), .int .i64 0, .tuple #[.agg (ints 26 (spl miB)), .int .i64 0], .tuple #[.agg (ints 26 (spl miB)), .int .i64 0], .agg (ints 26 (spl miB)), .int .i64 0, .int .i64 0, .bool false, .bool false, .int .i64 0, .bool false, .bool false, .bool false, .int .i64 0, .bool false, .bool false, .bool false, .int .i64 0, .bool false, .bool false, undef, .agg (whl (spl kw1) R1), .agg (whl (spl kw2) R2), .agg (whl (spl kw3) R3), .slice (some ⟨b3, 0, none⟩) 3 3, .slice (some ⟨b4, 0, none⟩) 3 3, undef, .agg (ints 26 (spl miB)), undef, undef, undef, undef, undef, undef, undef, undef, undef, undef, undef, undef]) W := by
    intro W b3 b4 b13 hS f3 f4 f13
    refine (hPR _ _ _ _).1 ?_
    refine wpAnyH_ready (rs := [5, 7]) (by kernel_rfl) (by simp) ?_
    refine AllReadyH.cons (o := _) rfl (fun K hK => ?_) (AllReadyH.cons (o := _) rfl (fun K hK => ?_) AllReadyH.nil)
    · rw [if_pos (by rfl)]
      go_simp
      refine hK.out _ _ (hS.alloc _) (fun hS1 => ?_)
      simp only [List.setIfInBounds_toArray, List.set_cons_succ, List.set_cons_zero]
      refine (hPR _ _ _ _).2 (g3_4_5_13 _ b3 b4 W.heap.size b13 hS1 (f3.alloc _) (f4.alloc _) (RowAt.new _ _ _) (f13.alloc _))
    · rw [if_pos (by rfl)]
      go_simp
      refine Calls.mono (HS.out _) ?_
      rintro e Y ⟨rfl, hb8⟩
      refine hK.out _ _ (hS.step hb8) (fun hS1 => ?_)
      simp only [List.setIfInBounds_toArray, List.set_cons_succ, List.set_cons_zero]
      refine (hPR _ _ _ _).2 (g3_4_7_13 _ b3 b4 b13 hS1 (f3.below hb8 f3.lt) (f4.below hb8 f4.lt) (f13.below hb8 f13.lt))
  have g3_5_7 : ∀ (W : World) (b3 : Nat) (b5 : Nat), K3 w W q1 q2 q3 q4 R1 R2 R3 → RowAt W b3 40 (whl (spl kw1) R1 ++ whl (spl kw2) R2 ++ whl (spl kw3) R3) → RowAt W b5 3 #[.int .i64 0, .int .i64 0, .int .i64 0] → PR 9 #[true, true, true, true, false, true, true, true, false, false, false, false, false, false, false, false] (#[.bool false, .pointer (some ⟨q1, 0, none⟩), .int .i64 0, .pointer (some ⟨q2, 0, none⟩), .int .i64 0, .pointer (some ⟨q3, 0, none⟩), .int .i64 0, .pointer (some ⟨q4, 0, none⟩), .int .i64 0, undef, undef, .tuple #[.agg (whl (spl kw1) R1), .int .i64 0], .tuple #[.agg (whl (spl kw1) R1), .int .i64 0], .agg (whl (spl kw1) R1), .int .i64 0, .tuple #[.agg (whl (spl kw2) R2), .int .i64 0], .tuple #[.agg (whl (spl kw2) R2), .int .i64 0], .agg (whl (spl kw2) R2), .int .i64 0, .tuple #[.agg (whl (spl kw3) R3), .int .i64 0], .tuple #[.agg (whl (spl kw3) R3), .int .i64 0], .agg (whl (spl kw3) R3), .int .i64 0, .tuple #[.agg (ints 26 (spl miB)), .int .i64 0], .tuple #[.agg (ints 26 (spl miB)), .int .i64 0], .agg (ints 26 (spl miB)), .int .i64 0, .int .i64 0, .bool false, .bool false, .int .i64 0, .bool false, .bool false, .bool false, .int .i64 0, .bool false, .bool false, .bool false, .int .i64 0, .bool false, .bool false, undef, .agg (whl (spl kw1) R1), .agg (whl (spl kw2) R2), .agg (whl (spl kw3) R3), .slice (some ⟨b3, 0, none⟩) 3 3, undef, .slice (some ⟨b5, 0, none⟩) 3 3, .agg (ints 26 (spl miB)), .agg (ints 26 (Pm.up fun i => i)), undef, undef, undef, undef, undef, undef, undef, undef, undef, undef, undef]) W := by
    intro W b3 b5 hS f3 f5
    refine (hPR _ _ _ _).1 ?_
    refine wpAnyH_ready (rs := [4, 13]) (by kernel_rfl) (by simp) ?_
    refine AllReadyH.cons (o := _) rfl (fun K hK => ?_) (AllReadyH.cons (o := _) rfl (fun K hK => ?_) AllReadyH.nil)
    · rw [if_pos (by rfl)]
      go_simp
      refine hK.out _ _ (hS.alloc _) (fun hS1 => ?_)
      simp only [List.setIfInBounds_toArray, List.set_cons_succ, List.set_cons_zero]
      refine (hPR _ _ _ _).2 (g3_4_5_7 _ b3 W.heap.size b5 hS1 (f3.alloc _) (RowAt.new _ _ _) (f5.alloc _))
    · rw [if_pos (by rfl)]
      go_simp
      refine hK.out _ _ (hS.alloc _) (fun hS1 => ?_)
      simp only [List.setIfInBounds_toArray, List.set_cons_succ, List.set_cons_zero]
      refine (hPR _ _ _ _).2 (g3_5_7_13 _ b3 b5 W.heap.size hS1 (f3.alloc _) (f5.alloc _) (RowAt.new _ _ _))
  have g3_5_13 : ∀ (W : World) (b3 : Nat) (b5 : Nat) (b13 : Nat), K3 w W q1 q2 q3 q4 R1 R2 R3 → RowAt W b3 40 (whl (spl kw1) R1 ++ whl (spl kw2) R2 ++ whl (spl kw3) R3) → RowAt W b5 3 #[.int .i64 0, .int .i64 0, .int .i64 0] → RowAt W b13 31 #[.int .i64 0, .int .i64 0] → PR 9 #[true, true, true, true, false, true, true, false, false, false, false, false, false, true, false, false] (#[.bool false, .pointer (some ⟨q1, 0, none⟩), .int .i64 0, .pointer (some ⟨q2, 0, none⟩), .int .i64 0, .pointer (some ⟨q3, 0, none⟩), .int .i64 0, .pointer (some ⟨q4, 0, none⟩), .int .i64 0, undef, .pointer (some ⟨b13, 0, none⟩), .tuple #[.agg (whl (spl kw1) R1), .int .i64 0], .tuple #[.agg (whl (spl kw1) R1), .int .i64 0], .agg (whl (spl kw1) R1), .int .i64 0, .tuple #[.agg (whl (spl kw2) R2), .int .i64 0], .tuple #[.agg (whl (spl kw2) R2), .int .i64 0], .agg (whl (spl kw2) R2), .int .i64 0, .tuple #[.agg (whl (spl kw3) R3), .int .i64 0], .tuple #[.agg (whl (spl kw3) R3), .int .i64 0], .agg (whl (spl kw3) R3), .int .i64 0, .tuple #[.agg (ints 26 (spl miB)), .int .i64 0], .tuple #[.agg (ints 26 (spl miB)), .int .i64 0], .agg (ints 26 (spl miB)), .int .i64 0, .int .i64 0, .bool false, .bool false, .int .i64 0, .bool false, .bool false, .bool false, .int .i64 0, .bool false, .bool false, .bool false, .int .i64 0, .bool false, .bool false, undef, .agg (whl (spl kw1) R1), .agg (whl (spl kw2) R2), .agg (whl (spl kw3) R3), .slice (some ⟨b3, 0, none⟩) 3 3, undef, .slice (some ⟨b5, 0, none⟩) 3 3, .agg (ints 26 (spl miB)), undef, undef, undef, undef, undef, undef, undef, undef, undef, undef, undef, undef]) W := by
    intro W b3 b5 b13 hS f3 f5 f13
    refine (hPR _ _ _ _).1 ?_
    refine wpAnyH_ready (rs := [4, 7]) (by kernel_rfl) (by simp) ?_
    refine AllReadyH.cons (o := _) rfl (fun K hK => ?_) (AllReadyH.cons (o := _) rfl (fun K hK => ?_) AllReadyH.nil)
    · rw [if_pos (by rfl)]
      go_simp
      refine hK.out _ _ (hS.alloc _) (fun hS1 => ?_)
      simp only [List.setIfInBounds_toArray, List.set_cons_succ, List.set_cons_zero]
      refine (hPR _ _ _ _).2 (g3_4_5_13 _ b3 W.heap.size b5 b13 hS1 (f3.alloc _) (RowAt.new _ _ _) (f5.alloc _) (f13.alloc _))
    · rw [if_pos (by rfl)]
      go_simp
      refine Calls.mono (HS.out _) ?_
      rintro e Y ⟨rfl, hb8⟩
      refine hK.out _ _ (hS.step hb8) (fun hS1 => ?_)
      simp only [List.setIfInBounds_toArray, List.set_cons_succ, List.set_cons_zero]
      refine (hPR _ _ _ _).2 (g3_5_7_13 _ b3 b5 b13 hS1 (f3.below hb8 f3.lt) (f5.below hb8 f5.lt) (f13.below hb8 f13.lt))
  have g3_7_13 : ∀ (W : World) (b3 : Nat) (b13 : Nat), K3 w W q1 q2 q3 q4 R1 R2 R3 → RowAt W b3 40 (whl (spl kw1) R1 ++ whl (spl kw2) R2 ++ whl (spl kw3) R3) → RowAt W b13 31 #[.int .i64 0, .int .i64 0] → PR 9 #[true, true, true, true, false, false, true, true, false, false, false, false, false, true, false, false] (#[.bool false, .pointer (some ⟨q1, 0, none⟩), .int .i64 0, .pointer (some ⟨q2, 0, none⟩), .int .i64 0, .pointer (some ⟨q3, 0, none⟩), .int .i64 0, .pointer (some ⟨q4, 0, none⟩), .int .i64 0, undef, .pointer (some ⟨b13, 0, none⟩), .tuple #[.agg (whl (spl kw1) R1), .int .i64 0], .tuple #[.agg (whl (spl kw1) R1), .int .i64 0], .agg (whl (spl kw1) R1), .int .i64 0, .tuple #[.agg (whl (spl kw2) R2), .int .i64 0], .tuple #[.agg (whl (spl kw2) R2), .int .i64 0], .agg (whl (spl kw2) R2), .int .i64 0, .tuple #[.agg (whl (spl kw3) R3), .int .i64 0], .tuple #[.agg (whl (spl kw3) R3), .int .i64 0], .agg (whl (spl kw3) R3), .int .i64 0, .tuple #[.agg (ints 26 (spl miB)), .int .i64 0], .tuple #[.agg (ints 26 (spl miB)), .int .i64 0], .agg (ints 26 (spl miB)), .int .i64 0, .int .i64 0, .bool false, .bool false, .int .i64 0, .bool false, .bool false, .bool false, .int .i64 0, .bool false, .bool false, .bool false, .int .i64 0, .bool false, .bool false, undef, .agg (whl (spl kw1) R1), .agg (whl (spl kw2) R2), .agg (whl (spl kw3) R3), .slice (some ⟨b3, 0, none⟩) 3 3, undef, undef, .agg (ints 26 (spl miB)), .agg (ints 26 (Pm.up fun i => i)), undef, undef, undef, undef, undef, undef, undef, undef, undef, undef, undef]) W := by
    intro W b3 b13 hS f3 f13
    refine (hPR _ _ _ _).1 ?_
    refine wpAnyH_ready (rs := [4, 5]) (by kernel_rfl) (by simp) ?_
    refine AllReadyH.cons (o := _) rfl (fun K hK => ?_) (AllReadyH.cons (o := _) rfl (fun K hK => ?_) AllReadyH.nil)
    · rw [if_pos (by rfl)]
      go_simp
      refine hK.out _ _ (hS.alloc _) (fun hS1 => ?_)
      simp only [List.setIfInBounds_toArray, List.set_cons_succ, List.set_cons_zero]
      refine (hPR _ _ _ _).2 (g3_4_7_13 _ b3 W.heap.size b13 hS1 (f3.alloc _) (RowAt.new _ _ _) (f13.alloc _))
    · rw [if_pos (by rfl)]
      go_simp
      refine hK.out _ _ (hS.alloc _) (fun hS1 => ?_)
      simp only [List.setIfInBounds_toArray, List.set_cons_succ, List.set_cons_zero]
      refine (hPR _ _ _ _).2 (g3_5_7_13 _ b3 W.heap.size b13 hS1 (f3.alloc _) (RowAt.new _ _ _) (f13.alloc _))
  have g4_5_7 : ∀ (W : World) (b4 : Nat) (b5 : Nat), K3 w W q1 q2 q3 q4 R1 R2 R3 → RowAt W b4 3 #[.int .i64 0, .int .i64 0, .int .i64 0] → RowAt W b5 3 #[.int .i64 0, .int .i64 0, .int .i64 0] → PR 9 #[true, true, true, false, true, true, true, true, false, false, false, false, false, false, false, false] (#[.bool false, .pointer (some ⟨q1, 0, none⟩), .int .i64 0, .pointer (some ⟨q2, 0, none⟩), .int .i64 0, .pointer (some ⟨q3, 0, none⟩), .int .i64 0, .pointer (some ⟨q4, 0, none⟩), .int .i64 0, undef, undef, .tuple #[.agg (whl (spl kw1) R1), .int .i64 0], .tuple #[.agg (whl (spl kw1) R1), .int .i64 0], .agg (whl (spl kw1) R1), .int .i64 0, .tuple #[.agg (whl (spl kw2) R2), .int .i64 0], .tuple #[.agg (whl (spl kw2) R2), .int .i64 0], .agg (whl (spl kw2) R2), .int .i64 0, .tuple #[.agg (whl (spl kw3) R3), .int .i64 0], .tuple #[.agg (whl (spl kw3) R3), .int .i64 0], .agg (whl (spl kw3) R3), .int .i64 0, .tuple #[.agg (ints 26 (spl miB)), .int .i64 0], .tuple #[.agg (ints 26 (spl miB)), .int .i64 0], .agg (ints 26 (spl miB)), .int .i64 0, .int .i64 0, .bool false, .bool false, .int .i64 0, .bool false, .bool false, .bool false, .int .i64 0, .bool false, .bool false, .bool false, .int .i64 0, .bool false, .bool false, undef, .agg (whl (spl kw1) R1), .agg (whl (spl kw2) R2), .agg (whl (spl kw3) R3), undef, .slice (some ⟨b4, 0, none⟩) 3 3, .slice (some ⟨b5, 0, none⟩) 3 3, .agg (ints 26 (spl miB)), .agg (ints 26 (Pm.up fun i => i)), undef, undef, undef, undef, undef, undef, undef, undef, undef, undef, undef]) W := by
    intro W b4 b5 hS f4 f5
    refine (hPR _ _ _ _).1 ?_
    refine wpAnyH_ready (rs := [3, 13]) (by kernel_rfl) (by simp) ?_
    refine AllReadyH.cons (o := _) rfl (fun K hK => ?_) (AllReadyH.cons (o := _) rfl (fun K hK => ?_) AllReadyH.nil)
    · rw [if_pos (by rfl)]
      refine wp_build3c 22 40 _ _ _ rfl 27 (by decide) (by decide) (whl (fun _ => 0) (.slice none 0 0)) (whl (spl kw1) R1) (whl (spl kw2) R2) (whl (spl kw3) R3) rfl rfl rfl Try.underlying22 (whl_size _ _) (whl_size _ _) (whl_size _ _) (whl_size _ _) o_zs_whl ?_
      refine hK.out _ _ (hS.alloc _) (fun hS1 => ?_)
      simp only [List.getElem_toArray, List.getElem_cons_succ, List.getElem_cons_zero, Act.put, List.setIfInBounds_toArray, List.set_cons_succ, List.set_cons_zero]
      refine (hPR _ _ _ _).2 (g3_4_5_7 _ W.heap.size b4 b5 hS1 (RowAt.new _ _ _) (f4.alloc _) (f5.alloc _))
    · rw [if_pos (by rfl)]
      go_simp
      refine hK.out _ _ (hS.alloc _) (fun hS1 => ?_)
      simp only [List.setIfInBounds_toArray, List.set_cons_succ, List.set_cons_zero]
      refine (hPR _ _ _ _).2 (g4_5_7_13 _ b4 b5 W.heap.size hS1 (f4.alloc _) (f5.alloc _) (RowAt.new _ _ _))
  have g4_5_13 : ∀ (W : World) (b4 : Nat) (b5 : Nat) (b13 : Nat), K3 w W q1 q2 q3 q4 R1 R2 R3 → RowAt W b4 3 #[.int .i64 0, .int .i64 0, .int .i64 0] → RowAt W b5 3 #[.int .i64 0, .int .i64 0, .int .i64 0] → RowAt W b13 31 #[.int .i64 0, .int .i64 0] → PR 9 #[true, true, true, false, true, true, true, false, false, false, false, false, false, true, false, false] (#[.bool false, .pointer (some ⟨q1, 0, none⟩), .int .i64 0, .pointer (some ⟨q2, 0, none⟩), .int .i64 0, .pointer (some ⟨q3, 0, none⟩), .int .i64 0, .pointer (some ⟨q4, 0, none⟩), .int .i64 0, undef, .pointer (some ⟨b13, 0, none⟩), .tuple #[.agg (whl (spl kw1) R1), .int .i64 0], .tuple #[.agg (whl (spl kw1) R1), .int .i64 0], .agg (whl (spl kw1) R1), .int .i64 0, .tuple #[.agg (whl (spl kw2) R2), .int .i64 0], .tuple #[.agg (whl (spl kw2) R2), .int .i64 0], .agg (whl (spl kw2) R2), .int .i64 0, .tuple #[.agg (whl (spl kw3) R3), .int .i64 0], .tuple #[.agg (whl (spl kw3) R3), .int .i64 0], .agg (whl (spl kw3) R3), .int .i64 0, .tuple #[.agg (ints 26 (spl miB)), .int .i64 0], .tuple #[.agg (ints 26 (spl miB)), .int .i64 0], .agg (ints 26 (spl miB)), .int .i64 0, .int .i64 0, .bool false, .bool false, .int .i64 0, .bool false, .bool false, .bool false, .int .i64 0, .bool false, .bool false, .bool false, .int .i64 0, .bool false, .bool false, undef, .agg (whl (spl kw1) R1), .agg (whl (spl kw2) R2), .agg (whl (spl kw3) R3), undef, .slice (some ⟨b4, 0, none⟩) 3 3, .slice (some ⟨b5, 0, none⟩) 3 3, .agg (ints 26 (spl miB)), undef, undef, undef, undef, undef, undef, undef, undef, undef, undef, undef, undef]) W := by
    intro W b4 b5 b13 hS f4 f5 f13
    refine (hPR _ _ _ _).1 ?_
    refine wpAnyH_ready (rs := [3, 7]) (by kernel_rfl) (by simp) ?_
    refine AllReadyH.cons (o := _) rfl (fun K hK => ?_) (AllReadyH.cons (o := _) rfl (fun K hK => ?_) AllReadyH.nil)
    · rw [if_pos (by rfl)]
      refine wp_build3c 22 40 _ _ _ rfl 27 (by decide) (by decide) (whl (fun _ => 0) (.slice none 0 0)) (whl (spl kw1) R1) (whl (spl kw2) R2) (whl (spl kw3) R3) rfl rfl rfl Try.underlying22 (whl_size _ _) (whl_size _ _) (whl_size _ _) (whl_size _ _) o_zs_whl ?_
      refine hK.out _ _ (hS.alloc _) (fun hS1 => ?_)
      simp only [List.getElem_toArray, List.getElem_cons_succ, List.getElem_cons_zero, Act.put, List.setIfInBounds_toArray, List.set_cons_succ, List.set_cons_zero]
      refine (hPR _ _ _ _).2 (g3_4_5_13 _ W.heap.size b4 b5 b13 hS1 (RowAt.new _ _ _) (f4.alloc _) (f5.alloc _) (f13.alloc _))
    · rw [if_pos (by rfl)]
      go_simp
      refine Calls.mono (HS.out _) ?_
      rintro e Y ⟨rfl, hb8⟩
      refine hK.out _ _ (hS.step hb8) (fun hS1 => ?_)
      simp only [List.setIfInBounds_toArray, List.set_cons_succ, List.set_cons_zero]
      refine (hPR _ _ _ _).2 (g4_5_7_13 _ b4 b5 b13 hS1 (f4.below hb8 f4.lt) (f5.below hb8 f5.lt) (f13.below hb8 f13.lt))
  have g4_7_13 : ∀ (W : World) (b4 : Nat) (b13 : Nat), K3 w W q1 q2 q3 q4 R1 R2 R3 → RowAt W b4 3 #[.int .i64 0, .int .i64 0, .int .i64 0] → RowAt W b13 31 #[.int .i64 0, .int .i64 0] → PR 9 #[true, true, true, false, true, false, true, true, false, false, false, false, false, true, false, false] (#[.bool false, .pointer (some ⟨q1, 0, none⟩), .int .i64 0, .pointer (some ⟨q2, 0, none⟩), .int .i64 0, .pointer (some ⟨q3, 0, none⟩), .int .i64 0, .pointer (some ⟨q4, 0, none⟩), .int .i64 0, undef, .pointer (some ⟨b13, 0, none⟩), .tuple #[.agg (whl (spl kw1) R1), .int .i64 0], .tuple #[.agg (whl (spl kw1) R1), .int .i64 0], .agg (whl (spl kw1) R1), .int .i64 0, .tuple #[.agg (whl (spl kw2) R2), .int .i64 0], .tuple #[.agg (whl (spl kw2) R2), .int .i64 0], .agg (whl (spl kw2) R2), .int .i64 0, .tuple #[.agg (whl (spl kw3) R3), .int .i64 0], .tuple #[.agg (whl (spl kw3) R3), .int .i64 0], .agg (whl (spl kw3) R3), .int .i64 0, .tuple #[.agg (ints 26 (spl miB)), .int .i64 0], .tuple #[.agg (ints 26 (spl miB)), .int .i64 0], .agg (ints 26 (spl miB)), .int .i64 0, .int .i64 0, .bool false, .bool false, .int .i64 0, .bool false, .bool false, .bool false, .int .i64 0, .bool false, .bool false, .bool false, .int .i64 0, .bool false, .bool false, undef, .agg (whl (spl kw1) R1), .agg (whl (spl kw2) R2), .agg (whl (spl kw3) R3), undef, .slice (some ⟨b4, 0, none⟩) 3 3, undef, .agg (ints 26 (spl miB)), .agg (ints 26 (Pm.up fun i => i)), undef, undef, undef, undef, undef, undef, undef, undef, undef, undef, undef]) W := by
    intro W b4 b13 hS f4 f13
    refine (hPR _ _ _ _).1 ?_
    refine wpAnyH_ready (rs := [3, 5]) (by kernel_rfl) (by simp) ?_
    refine AllReadyH.cons (o := _) rfl (fun K hK => ?_) (AllReadyH.cons (o := _) rfl (fun K hK => ?_) AllReadyH.nil)
    · rw [if_pos (by rfl)]
      refine wp_build3c 22 40 _ _ _ rfl 27 (by decide) (by decide) (whl (fun _ => 0) (.slice none 0 0)) (whl (spl kw1) R1) (whl (spl kw2) R2) (whl (spl kw3) R3) rfl rfl rfl Try.underlying22 (whl_size _ _) (whl_size _ _) (whl_size _ _) (whl_size _ _) o_zs_whl ?_
      refine hK.out _ _ (hS.alloc _) (fun hS1 => ?_)
      simp only [List.getElem_toArray, List.getElem_cons_succ, List.getElem_cons_zero, Act.put, List.setIfInBounds_toArray, List.set_cons_succ, List.set_cons_zero]
      refine (hPR _ _ _ _).2 (g3_4_7_13 _ W.heap.size b4 b13 hS1 (RowAt.new _ _ _) (f4.alloc _) (f13.alloc _))
    · rw [if_pos (by rfl)]
      go_simp
      refine hK.out _ _ (hS.alloc _) (fun hS1 => ?_)
      simp only [List.setIfInBounds_toArray, List.set_cons_succ, List.set_cons_zero]
      refine (hPR _ _ _ _).2 (g4_5_7_13 _ b4 W.heap.size b13 hS1 (f4.alloc _) (RowAt.new _ _ _) (f13.alloc _))
  have g5_7_13 : ∀ (W : World) (b5 : Nat) (b13 : Nat), K3 w W q1 q2 q3 q4 R1 R2 R3 → RowAt W b5 3 #[.int .i64 0, .int .i64 0, .int .i64 0] → RowAt W b13 31 #[.int .i64 0, .int .i64 0] → PR 9 #[true, true, true, false, false, true, true, true, false, false, false, false, false, true, false, false] (#[.bool false, .pointer (some ⟨q1, 0, none⟩), .int .i64 0, .pointer (some ⟨q2, 0, none⟩), .int .i64 0, .pointer (some ⟨q3, 0, none⟩), .int .i64 0, .pointer (some ⟨q4, 0, none⟩), .int .i64 0, undef, .pointer (some ⟨b13, 0, none⟩), .tuple #[.agg (whl (spl kw1) R1), .int .i64 0], .tuple #[.agg (whl (spl kw1) R1), .int .i64 0], .agg (whl (spl kw1) R1), .int .i64 0, .tuple #[.agg (whl (spl kw2) R2), .int .i64 0], .tuple #[.agg (whl (spl kw2) R2), .int .i64 0], .agg (whl (spl kw2) R2), .int .i64 0, .tuple #[.agg (whl (spl kw3) R3), .int .i64 0], .tuple #[.agg (whl (spl kw3) R3), .int .i64 0], .agg (whl (spl kw3) R3), .int .i64 0, .tuple #[.agg (ints 26 (spl miB)), .int .i64 0], .tuple #[.agg (ints 26 (spl miB)), .int .i64 0], .agg (ints 26 (spl miB)), .int .i64 0, .int .i64 0, .bool false, .bool false, .int .i64 0, .bool false, .bool false, .bool false, .int .i64 0, .bool false, .bool false, .bool false, .int .i64 0, .bool false, .bool false, undef, .agg (whl (spl kw1) R1), .agg (whl (spl kw2) R2), .agg (whl (spl kw3) R3), undef, undef, .slice (some ⟨b5, 0, none⟩) 3 3, .agg (ints 26 (spl miB)), .agg (ints 26 (Pm.up fun i => i)), undef, undef, undef, undef, undef, undef, undef, undef, undef, undef, undef]) W := by
    intro W b5 b13 hS f5 f13
    refine (hPR _ _ _ _).1 ?_
    refine wpAnyH_ready (rs := [3, 4]) (by kernel_rfl) (by simp) ?_
    refine AllReadyH.cons (o := _) rfl (fun K hK => ?_) (AllReadyH.cons (o := _) rfl (fun K hK => ?_) AllReadyH.nil)
    · rw [if_pos (by rfl)]
      refine wp_build3c 22 40 _ _ _ rfl 27 (by decide) (by decide) (whl (fun _ => 0) (.slice none 0 0)) (whl (spl kw1) R1) (whl (spl kw2) R2) (whl (spl kw3) R3) rfl rfl rfl Try.underlying22 (whl_size _ _) (whl_size _ _) (whl_size _ _) (whl_size _ _) o_zs_whl ?_
      refine hK.out _ _ (hS.alloc _) (fun hS1 => ?_)
      simp only [List.getElem_toArray, List.getElem_cons_succ, List.getElem_cons_zero, Act.put, List.setIfInBounds_toArray, List.set_cons_succ, List.set_cons_zero]
      refine (hPR _ _ _ _).2 (g3_5_7_13 _ W.heap.size b5 b13 hS1 (RowAt.new _ _ _) (f5.alloc _) (f13.alloc _))
    · rw [if_pos (by rfl)]
      go_simp
      refine hK.out _ _ (hS.alloc _) (fun hS1 => ?_)
      simp only [List.setIfInBounds_toArray, List.set_cons_succ, List.set_cons_zero]
      refine (hPR _ _ _ _).2 (g4_5_7_13 _ W.heap.size b5 b13 hS1 (RowAt.new _ _ _) (f5.alloc _) (f13.alloc _))
  have g3_4 : ∀ (W : World) (b3 : Nat) (b4 : Nat), K3 w W q1 q2 q3 q4 R1 R2 R3 → RowAt W b3 40 (whl (spl kw1) R1 ++ whl (spl kw2) R2 ++ whl (spl kw3) R3) → RowAt W b4 3 #[.int .i64 0, .int .i64 0, .int .i64 0] → PR 10 #[true, true, true, true, true, false, true, false, false, false, false, false, false, false, false, false] (#[.bool false, .pointer (some ⟨q1, 0, none⟩), .int .i64 0, .pointer (some ⟨q2, 0, none⟩), .int .i64 0, .pointer (some ⟨q3, 0, none⟩), .int .i64 0, .pointer (some ⟨q4, 0, none⟩), .int .i64 0, undef, undef, .tuple #[.agg (whl (spl kw1) R1), .int .i64 0], .tuple #[.agg (whl (spl kw1) R1), .int .i64 0], .agg (whl (spl kw1) R1), .int .i64 0, .tuple #[.agg (whl (spl kw2) R2), .int .i64 0], .tuple #[.agg (whl (spl kw2) R2), .int .i64 0], .agg (whl (spl kw2) R2), .int .i64 0, .tuple #[.agg (whl (spl kw3) R3), .int .i64 0], .tuple #[.agg (whl (spl kw3) R3), .int .i64 0], .agg (whl (spl kw3) R3), .int .i64 0, .tuple #[.agg (ints 26 (spl miB)), .int .i64 0], .tuple #[.agg (ints 26 (spl miB)), .int .i64 0], .agg (ints 26 (spl miB)), .int .i64 0, .int .i64 0, .bool false, .bool false, .int .i64 0, .bool false, .bool false, .bool false, .int .i64 0, .bool false, .bool false, .bool false, .int .i64 0, .bool false, .bool false, undef, .agg (whl (spl kw1) R1), .agg (whl (spl kw2) R2), .agg (whl (spl kw3) R3), .slice (some ⟨b3, 0, none⟩) 3 3, .slice (some ⟨b4, 0, none⟩) 3 3, undef, .agg (ints 26 (spl miB)), undef, undef, undef, undef, undef, undef, undef, undef, undef, undef, undef, undef]) W := by
    intro W b3 b4 hS f3 f4
    refine (hPR _ _ _ _).1 ?_
    refine wpAnyH_ready (rs := [5, 7, 13]) (by kernel_rfl) (by simp) ?_
    refine AllReadyH.cons (o := _) rfl (fun K hK => ?_) (AllReadyH.cons (o := _) rfl (fun K hK => ?_) (AllReadyH.cons (o := _) rfl (fun K hK => ?_) AllReadyH.nil))
    · rw [if_pos (by rfl)]
      go_simp
      refine hK.out _ _ (hS.alloc _) (fun hS1 => ?_)
      simp only [List.setIfInBounds_toArray, List.set_cons_succ, List.set_cons_zero]
      refine (hPR _ _ _ _).2 (g3_4_5 _ b3 b4 W.heap.size hS1 (f3.alloc _) (f4.alloc _) (RowAt.new _ _ _))
    · rw [if_pos (by rfl)]
      go_simp
      refine Calls.mono (HS.out _) ?_
      rintro e Y ⟨rfl, hb8⟩
      refine hK.out _ _ (hS.step hb8) (fun hS1 => ?_)
      simp only [List.setIfInBounds_toArray, List.set_cons_succ, List.set_cons_zero]
      refine (hPR _ _ _ _).2 (g3_4_7 _ b3 b4 hS1 (f3.below hb8 f3.lt) (f4.below hb8 f4.lt))
    · rw [if_pos (by rfl)]
      go_simp
      refine hK.out _ _ (hS.alloc _) (fun hS1 => ?_)
      simp only [List.setIfInBounds_toArray, List.set_cons_succ, List.set_cons_zero]
      refine (hPR _ _ _ _).2 (g3_4_13 _ b3 b4 W.heap.size hS1 (f3.alloc _) (f4.alloc _) (RowAt.new _ _ _))
  have g3_5 : ∀ (W : World) (b3 : Nat) (b5 : Nat), K3 w W q1 q2 q3 q4 R1 R2 R3 → RowAt W b3 40 (whl (spl kw1) R1 ++ whl (spl kw2) R2 ++ whl (spl kw3) R3) → RowAt W b5 3 #[.int .i64 0, .int .i64 0, .int .i64 0] → PR 10 #[true, true, true, true, false, true, true, false, false, false, false, false, false, false, false, false] (#[.bool false, .pointer (some ⟨q1, 0, none⟩), .int .i64 0, .pointer (some ⟨q2, 0, none⟩), .int .i64 0, .pointer (some ⟨q3, 0, none⟩), .int .i64 0, .pointer (some ⟨q4, 0, none⟩), .int .i64 0, undef, undef, .tuple #[.agg (whl (spl kw1) R1), .int .i64 0], .tuple #[.agg (whl (spl kw1) R1), .int .i64 0], .agg (whl (spl kw1) R1), .int .i64 0, .tuple #[.agg (whl (spl kw2) R2), .int .i64 0], .tuple #[.agg (whl (spl kw2) R2), .int .i64 0], .agg (whl (spl kw2) R2), .int .i64 0, .tuple #[.agg (whl (spl kw3) R3), .int .i64 0], .tuple #[.agg (whl (spl kw3) R3), .int .i64 0], .agg (whl (spl kw3) R3), .int .i64 0, .tuple #[.agg (ints 26 (spl miB)), .int .i64 0], .tuple #[.agg (ints 26 (spl miB)), .int .i64 0], .agg (ints 26 (spl miB)), .int .i64 0, .int .i64 0, .bool false, .bool false, .int .i64 0, .bool false, .bool false, .bool false, .int .i64 0, .bool false, .bool false, .bool false, .int .i64 0, .bool false, .bool false, undef, .agg (whl (spl kw1) R1), .agg (whl (spl kw2) R2), .agg (whl (spl kw3) R3), .slice (some ⟨b3, 0, none⟩) 3 3, undef, .slice (some ⟨b5, 0, none⟩) 3 3, .agg (ints 26 (spl miB)), undef, undef, undef, undef, undef, undef, undef, undef, undef, undef, undef, undef]) W := by
    intro W b3 b5 hS f3 f5
    refine (hPR _ _ _ _).1 ?_
    refine wpAnyH_ready (rs := [4, 7, 13]) (by kernel_rfl) (by simp) ?_
    refine AllReadyH.cons (o := _) rfl (fun K hK => ?_) (AllReadyH.cons (o := _) rfl (fun K hK => ?_) (AllReadyH.cons (o := _) rfl (fun K hK => ?_) AllReadyH.nil))
    · rw [if_pos (by rfl)]
      go_simp
      refine hK.out _ _ (hS.alloc _) (fun hS1 => ?_)
      simp only [List.setIfInBounds_toArray, List.set_cons_succ, List.set_cons_zero]
      refine (hPR _ _ _ _).2 (g3_4_5 _ b3 W.heap.size b5 hS1 (f3.alloc _) (RowAt.new _ _ _) (f5.alloc _))
    · rw [if_pos (by rfl)]
      go_simp
      refine Calls.mono (HS.out _) ?_
      rintro e Y ⟨rfl, hb8⟩
      refine hK.out _ _ (hS.step hb8) (fun hS1 => ?_)
      simp only [List.setIfInBounds_toArray, List.set_cons_succ, List.set_cons_zero]
      refine (hPR _ _ _ _).2 (g3_5_7 _ b3 b5 hS1 (f3.below hb8 f3.lt) (f5.below hb8 f5.lt))
    · rw [if_pos (by rfl)]
      go_simp
      refine hK.out _ _ (hS.alloc _) (fun hS1 => ?_)
      simp only [List.setIfInBounds_toArray, List.set_cons_succ, List.set_cons_zero]
      refine (hPR _ _ _ _).2 (g3_5_13 _ b3 b5 W.heap.size hS1 (f3.alloc _) (f5.alloc _) (RowAt.new _ _ _))
  have g3_7 : ∀ (W : World) (b3 : Nat), K3 w W q1 q2 q3 q4 R1 R2 R3 → RowAt W b3 40 (whl (spl kw1) R1 ++ whl (spl kw2) R2 ++ whl (spl kw3) R3) → PR 10 #[true, true, true, true, false, false, true, true, false, false, false, false, false, false, false, false] (#[.bool false, .pointer (some ⟨q1, 0, none⟩), .int .i64 0, .pointer (some ⟨q2, 0, none⟩), .int .i64 0, .pointer (some ⟨q3, 0, none⟩), .int .i64 0, .pointer (some ⟨q4, 0, none⟩), .int .i64 0, undef, undef, .tuple #[.agg (whl (spl kw1) R1), .int .i64 0], .tuple #[.agg (whl (spl kw1) R1), .int .i64 0], .agg (whl (spl kw1) R1), .int .i64 0, .tuple #[.agg (whl (spl kw2) R2), .int .i64 0], .tuple #[.agg (whl (spl kw2) R2), .int .i64 0], .agg (whl (spl kw2) R2), .int .i64 0, .tuple #[.agg (whl (spl kw3) R3), .int .i64 0], .tuple #[.agg (whl (spl kw3) R3), .int .i64 0], .agg (whl (spl kw3) R3), .int .i64 0, .tuple #[.agg (ints 26 (spl miB)), .int .i64 0], .tuple #[.agg (ints 26 (spl miB)), .int .i64 0], .agg (ints 26 (spl miB)), .int .i64 0, .int .i64 0, .bool false, .bool false, .int .i64 0, .bool false, .bool false, .bool false, .int .i64 0, .bool false, .bool false, .bool false, .int .i64 0, .bool false, .bool false, undef, .agg (whl (spl kw1) R1), .agg (whl (spl kw2) R2), .agg (whl (spl kw3) R3), .slice (some ⟨b3, 0, none⟩) 3 3, undef, undef, .agg (ints 26 (spl miB)), .agg (ints 26 (Pm.up fun i => i)), undef, undef, undef, undef, undef, undef, undef, undef, undef, undef, undef]) W := by
    intro W b3 hS f3
    refine (hPR _ _ _ _).1 ?_
    refine wpAnyH_ready (rs := [4, 5, 13]) (by kernel_rfl) (by simp) ?_
    refine AllReadyH.cons (o := _) rfl (fun K hK => ?_) (AllReadyH.cons (o := _) rfl (fun K hK => ?_) (AllReadyH.cons (o := _) rfl (fun K hK => ?_) AllReadyH.nil))
    · rw [if_pos (by rfl)]
      go_simp
      refine hK.out _ _ (hS.alloc _) (fun hS1 => ?_)
      simp only [List.setIfInBounds_toArray, List.set_cons_succ, List.set_cons_zero]
      refine (hPR _ _ _ _).2 (g3_4_7 _ b3 W.heap.size hS1 (f3.alloc _) (RowAt.new _ _ _))
    · rw [if_pos (by rfl)]
      go_simp
      refine hK.out _ _ (hS.alloc _) (fun hS1 => ?_)
      simp only [List.setIfInBounds_toArray, List.set_cons_succ, List.set_cons_zero]
      refine (hPR _ _ _ _).2 (g3_5_7 _ b3 W.heap.size hS1 (f3.alloc _) (RowAt.new _ _ _))
    · rw [if_pos (by rfl)]
      go_simp
      refine hK.out _ _ (hS.alloc _) (fun hS1 => ?_)
      simp only [List.setIfInBounds_toArray, List.set_cons_succ, List.set_cons_zero]
      refine (hPR _ _ _ _).2 (g3_7_13 _ b3 W.heap.size hS1 (f3.alloc _) (RowAt.new _ _ _))
  have g3_13 : ∀ (W : World) (b3 : Nat) (b13 : Nat), K3 w W q1 q2 q3 q4 R1 R2 R3 → RowAt W b3 40 (whl (spl kw1) R1 ++ whl (spl kw2) R2 ++ whl (spl kw3) R3) → RowAt W b13 31 #[.int .i64 0, .int .i64 0] → PR 10 #[true, true, true, true, false, false, true, false, false, false, false, false, false, true, false, false] (#[.bool false, .pointer (some ⟨q1, 0, none⟩), .int .i64 0, .pointer (some ⟨q2, 0, none⟩), .int .i64 0, .pointer (some ⟨q3, 0, none⟩), .int .i64 0, .pointer (some ⟨q4, 0, none⟩), .int .i64 0, undef, .pointer (some ⟨b13, 0, none⟩), .tuple #[.agg (whl (spl kw1) R1), .int .i64 0], .tuple #[.agg (whl (spl kw1) R1), .int .i64 0], .agg (whl (spl kw1) R1), .int .i64 0, .tuple #[.agg (whl (spl kw2) R2), .int .i64 0], .tuple #[.agg (whl (spl kw2) R2), .int .i64 0], .agg (whl (spl kw2) R2), .int .i64 0, .tuple #[.agg (whl (spl kw3) R3), .int .i64 0], .tuple #[.agg (whl (spl kw3) R3), .int .i64 0], .agg (whl (spl kw3) R3), .int .i64 0, .tuple #[.agg (ints 26 (spl miB)), .int .i64 0], .tuple #[.agg (ints 26 (spl miB)), .int .i64 0], .agg (ints 26 (spl miB)), .int .i64 0, .int .i64 0, .bool false, .bool false, .int .i64 0, .bool false, .bool false, .bool false, .int .i64 0, .bool false, .bool false, .bool false, .int .i64 0, .bool false, .bool false, undef, .agg (whl (spl kw1) R1), .agg (whl (spl kw2) R2), .agg (whl (spl kw3) R3), .slice (some ⟨b3, 0, none⟩) 3 3, undef, undef, .agg (ints 26 (spl miB)), undef, undef, undef, undef, undef, undef, undef, undef, undef, undef, undef, undef]) W := by
    intro W b3 b13 hS f3 f13
    refine (hPR _ _ _ _).1 ?_
    refine wpAnyH_ready (rs := [4, 5, 7]) (by kernel_rfl) (by simp) ?_
    refine AllReadyH.cons (o := _) rfl (fun K hK => ?_) (AllReadyH.cons (o := _) rfl (fun K hK => ?_) (AllReadyH.cons (o := _) rfl (fun K hK => ?_) AllReadyH.nil))
    · rw [if_pos (by rfl)]
      go_simp
      refine hK.out _ _ (hS.alloc _) (fun hS1 => ?_)
      simp only [List.setIfInBounds_toArray, List.set_cons_succ, List.set_cons_zero]
      refine (hPR _ _ _ _).2 (g3_4_13 _ b3 W.heap.size b13 hS1 (f3.alloc _) (RowAt.new _ _ _) (f13.alloc _))
    · rw [if_pos (by rfl)]
      go_simp
      refine hK.out _ _ (hS.alloc _) (fun hS1 => ?_)
      simp only [List.setIfInBounds_toArray, List.set_cons_succ, List.set_cons_zero]
      refine (hPR _ _ _ _).2 (g3_5_13 _ b3 W.heap.size b13 hS1 (f3.alloc _) (RowAt.new _ _ _) (f13.alloc _))
    · rw [if_pos (by rfl)]
      go_simp
      refine Calls.mono (HS.out _) ?_
      rintro e Y ⟨rfl, hb8⟩
      refine hK.out _ _ (hS.step hb8) (fun hS1 => ?_)
      simp only [List.setIfInBounds_toArray, List.set_cons_succ, List.set_cons_zero]
      refine (hPR _ _ _ _).2 (g3_7_13 _ b3 b13 hS1 (f3.below hb8 f3.lt) (f13.below hb8 f13.lt))
  have g4_5 : ∀ (W : World) (b4 : Nat) (b5 : Nat), K3 w W q1 q2 q3 q4 R1 R2 R3 → RowAt W b4 3 #[.int .i64 0, .int .i64 0, .int .i64 0] → RowAt W b5 3 #[.int .i64 0, .int .i64 0, .int .i64 0] → PR 10 #[true, true, true, false, true, true, true, false, false, false, false, false, false, false, false, false] (#[.bool false, .pointer (some ⟨q1, 0, none⟩), .int .i64 0, .pointer (some ⟨q2, 0, none⟩), .int .i64 0, .pointer (some ⟨q3, 0, none⟩), .int .i64 0, .pointer (some ⟨q4, 0, none⟩), .int .i64 0, undef, undef, .tuple #[.agg (whl (spl kw1) R1), .int .i64 0], .tuple #[.agg (whl (spl kw1) R1), .int .i64 0], .agg (whl (spl kw1) R1), .int .i64 0, .tuple #[.agg (whl (spl kw2) R2), .int .i64 0], .tuple #[.agg (whl (spl kw2) R2), .int .i64 0], .agg (whl (spl kw2) R2), .int .i64 0, .tuple #[.agg (whl (spl kw3) R3), .int .i64 0], .tuple #[.agg (whl (spl kw3) R3), .int .i64 0], .agg (whl (spl kw3) R3), .int .i64 0, .tuple #[.agg (ints 26 (spl miB)), .int .i64 0], .tuple #[.agg (ints 26 (spl miB)), .int .i64 0], .agg (ints 26 (spl miB)), .int .i64 0, .int .i64 0, .bool false, .bool false, .int .i64 0, .bool false, .bool false, .bool false, .int .i64 0, .bool false, .bool false, .bool false, .int .i64 0, .bool false, .bool false, undef, .agg (whl (spl kw1) R1), .agg (whl (spl kw2) R2), .agg (whl (spl kw3) R3), undef, .slice (some ⟨b4, 0, none⟩) 3 3, .slice (some ⟨b5, 0, none⟩) 3 3, .agg (ints 26 (spl miB)), undef, undef, undef, undef, undef, undef, undef, undef, undef, undef, undef, undef]) W := by
    intro W b4 b5 hS f4 f5
    refine (hPR _ _ _ _).1 ?_
    refine wpAnyH_ready (rs := [3, 7, 13]) (by kernel_rfl) (by simp) ?_
    refine AllReadyH.cons (o := _) rfl (fun K hK => ?_) (AllReadyH.cons (o := _) rfl (fun K hK => ?_) (AllReadyH.cons (o := _) rfl (fun K hK => ?_) AllReadyH.nil))
    · rw [if_pos (by rfl)]
      refine wp_build3c 22 40 _ _ _ rfl 27 (by decide) (by decide) (whl (fun _ => 0) (.slice none 0 0)) (whl (spl kw1) R1) (whl (spl kw2) R2) (whl (spl kw3) R3) rfl rfl rfl Try.underlying22 (whl_size _ _) (whl_size _ _) (whl_size _ _) (whl_size _ _) o_zs_whl ?_
      refine hK.out _ _ (hS.alloc _) (fun hS1 => ?_)
      simp only [List.getElem_toArray, List.getElem_cons_succ, List.getElem_cons_zero, Act.put, List.setIfInBounds_toArray, List.set_cons_succ, List.set_cons_zero]
      refine (hPR _ _ _ _).2 (g3_4_5 _ W.heap.size b4 b5 hS1 (RowAt.new _ _ _) (f4.alloc _) (f5.alloc _))
    · rw [if_pos (by rfl)]
      go_simp
      refine Calls.mono (HS.out _) ?_
      rintro e Y ⟨rfl, hb8⟩
      refine hK.out _ _ (hS.step hb8) (fun hS1 => ?_)
      simp only [List.setIfInBounds_toArray, List.set_cons_succ, List.set_cons_zero]
      refine (hPR _ _ _ _).2 (g4_5_7 _ b4 b5 hS1 (f4.below hb8 f4.lt) (f5.below hb8 f5.lt))
    · rw [if_pos (by rfl)]
      go_simp
      refine hK.out _ _ (hS.alloc _) (fun hS1 => ?_)
      simp only [List.setIfInBounds_toArray, List.set_cons_succ, List.set_cons_zero]
      refine (hPR _ _ _ _).2 (g4_5_13 _ b4 b5 W.heap.size hS1 (f4.alloc _) (f5.alloc _) (RowAt.new _ _ _))
  have g4_7 : ∀ (W : World) (b4 : Nat), K3 w W q1 q2 q3 q4 R1 R2 R3 → RowAt W b4 3 #[.int .i64 0, .int .i64 0, .int .i64 0] → PR 10 #[true, true, true, false, true, false, true, true, false, false, false, false, false, false, false, false] (#[.bool false, .pointer (some ⟨q1, 0, none⟩), .int .i64 0, .pointer (some ⟨q2, 0, none⟩), .int .i64 0, .pointer (some ⟨q3, 0, none⟩), .int .i64 0, .pointer (some ⟨q4, 0, none⟩), .int .i64 0, undef, undef, .tuple #[.agg (whl (spl kw1) R1), .int .i64 0], .tuple #[.agg (whl (spl kw1) R1), .int .i64 0], .agg (whl (spl kw1) R1), .int .i64 0, .tuple #[.agg (whl (spl kw2) R2), .int .i64 0], .tuple #[.agg (whl (spl kw2) R2), .int .i64 0], .agg (whl (spl kw2) R2), .int .i64 0, .tuple #[.agg (whl (spl kw3) R3), .int .i64 0], .tuple #[.agg (whl (spl kw3) R3), .int .i64 0], .agg (whl (spl kw3) R3), .int .i64 0, .tuple #[.agg (ints 26 (spl miB)), .int .i64 0], .tuple #[.agg (ints 26 (spl miB)), .int .i64 0], .agg (ints 26 (spl miB)), .int .i64 0, .int .i64 0, .bool false, .bool false, .int .i64 0, .bool false, .bool false, .bool false, .int .i64 0, .bool false, .bool false, .bool false, .int .i64 0, .bool false, .bool false, undef, .agg (whl (spl kw1) R1), .agg (whl (spl kw2) R2), .agg (whl (spl kw3) R3), undef, .slice (some ⟨b4, 0, none⟩) 3 3, undef, .agg (ints 26 (spl miB)), .agg (ints 26 (Pm.up fun i => i)), undef, undef, undef, undef, undef, undef, undef, undef, undef, undef, undef]) W := by
    intro W b4 hS f4
    refine (hPR _ _ _ _).1 ?_
    refine wpAnyH_ready (rs := [3, 5, 13]) (by kernel_rfl) (by simp) ?_
    refine AllReadyH.cons (o := _) rfl (fun K hK => ?_) (AllReadyH.cons (o := _) rfl (fun K hK => ?_) (AllReadyH.cons (o := _) rfl (fun K hK => ?_) AllReadyH.nil))
    · rw [if_pos (by rfl)]
      refine wp_build3c 22 40 _ _ _ rfl 27 (by decide) (by decide) (whl (fun _ => 0) (.slice none 0 0)) (whl (spl kw1) R1) (whl (spl kw2) R2) (whl (spl kw3) R3) rfl rfl rfl Try.underlying22 (whl_size _ _) (whl_size _ _) (whl_size _ _) (whl_size _ _) o_zs_whl ?_
      refine hK.out _ _ (hS.alloc _) (fun hS1 => ?_)
      simp only [List.getElem_toArray, List.getElem_cons_succ, List.getElem_cons_zero, Act.put, List.setIfInBounds_toArray, List.set_cons_succ, List.set_cons_zero]
      refine (hPR _ _ _ _).2 (g3_4_7 _ W.heap.size b4 hS1 (RowAt.new _ _ _) (f4.alloc _))
    · rw [if_pos (by rfl)]
      go_simp
      refine hK.out _ _ (hS.alloc _) (fun hS1 => ?_)
      simp only [List.setIfInBounds_toArray, List.set_cons_succ, List.set_cons_zero]
      refine (hPR _ _ _ _).2 (g4_5_7 _ b4 W.heap.size hS1 (f4.alloc _) (RowAt.new _ _ _))
    · rw [if_pos (by rfl)]
      go_simp
      refine hK.out _ _ (hS.alloc _) (fun hS1 => ?_)
      simp only [List.setIfInBounds_toArray, List.set_cons_succ, List.set_cons_zero]
      refine (hPR _ _ _ _).2 (g4_7_13 _ b4 W.heap.size hS1 (f4.alloc _) (RowAt.new _ _ _))
  have g4_13 : ∀ (W : World) (b4 : Nat) (b13 : Nat), K3 w W q1 q2 q3 q4 R1 R2 R3 → RowAt W b4 3 #[.int .i64 0, .int .i64 0, .int .i64 0] → RowAt W b13 31 #[.int .i64 0, .int .i64 0] → PR 10 #[true, true, true, false, true, false, true, false, false, false, false, false, false, true, false, false] (#[.bool false, .pointer (some ⟨q1, 0, none⟩), .int .i64 0, .pointer (some ⟨q2, 0, none⟩), .int .i64 0, .pointer (some ⟨q3, 0, none⟩), .int .i64 0, .pointer (some ⟨q4, 0, none⟩), .int .i64 0, undef, .pointer (some ⟨b13, 0, none⟩), .tuple #[.agg (whl (spl kw1) R1), .int .i64 0], .tuple #[.agg (whl (spl kw1) R1), .int .i64 0], .agg (whl (spl kw1) R1), .int .i64 0, .tuple #[.agg (whl (spl kw2) R2), .int .i64 0], .tuple #[.agg (whl (spl kw2) R2), .int .i64 0], .agg (whl (spl kw2) R2), .int .i64 0, .tuple #[.agg (whl (spl kw3) R3), .int .i64 0], .tuple #[.agg (whl (spl kw3) R3), .int .i64 0], .agg (whl (spl kw3) R3), .int .i64 0, .tuple #[.agg (ints 26 (spl miB)), .int .i64 0], .tuple #[.agg (ints 26 (spl miB)), .int .i64 0], .agg (ints 26 (spl miB)), .int .i64 0, .int .i64 0, .bool false, .bool false, .int .i64 0, .bool false, .bool false, .bool false, .int .i64 0, .bool false, .bool false, .bool false, .int .i64 0, .bool false, .bool false, undef, .agg (whl (spl kw1) R1), .agg (whl (spl kw2) R2), .agg (whl (spl kw3) R3), undef, .slice (some ⟨b4, 0, none⟩) 3 3, undef, .agg (ints 26 (spl miB)), undef, undef, undef, undef, undef, undef, undef, undef, undef, undef, undef, undef]) W := by
    intro W b4 b13 hS f4 f13
    refine (hPR _ _ _ _).1 ?_
    refine wpAnyH_ready (rs := [3, 5, 7]) (by kernel_rfl) (by simp) ?_
    refine AllReadyH.cons (o := _) rfl (fun K hK => ?_) (AllReadyH.cons (o := _) rfl (fun K hK => ?_) (AllReadyH.cons (o := _) rfl (fun K hK => ?_) AllReadyH.nil))
    · rw [if_pos (by rfl)]
      refine wp_build3c 22 40 _ _ _ rfl 27 (by decide) (by decide) (whl (fun _ => 0) (.slice none 0 0)) (whl (spl kw1) R1) (whl (spl kw2) R2) (whl (spl kw3) R3) rfl rfl rfl Try.underlying22 (whl_size _ _) (whl_size _ _) (whl_size _ _) (whl_size _ _) o_zs_whl ?_
      refine hK.out _ _ (hS.alloc _) (fun hS1 => ?_)
      simp only [List.getElem_toArray, List.getElem_cons_succ, List.getElem_cons_zero, Act.put, List.setIfInBounds_toArray, List.set_cons_succ, List.set_cons_zero]
      refine (hPR _ _ _ _).2 (g3_4_13 _ W.heap.size b4 b13 hS1 (RowAt.new _ _ _) (f4.alloc _) (f13.alloc _))
    · rw [if_pos (by rfl)]
      go_simp
      refine hK.out _ _ (hS.alloc _) (fun hS1 => ?_)
      simp only [List.setIfInBounds_toArray, List.set_cons_succ, List.set_cons_zero]
      refine (hPR _ _ _ _).2 (g4_5_13 _ b4 W.heap.size b13 hS1 (f4.alloc _) (RowAt.new _ _ _) (f13.alloc _))
    · rw [if_pos (by rfl)]
      go_simp
      refine Calls.mono (HS.out _) ?_
      rintro e Y ⟨rfl, hb8⟩
      refine hK.out _ _ (hS.step hb8) (fun hS1 => ?_)
      simp only [List.setIfInBounds_toArray, List.set_cons_succ, List.set_cons_zero]
      refine (hPR _ _ _ _).2 (g4_7_13 _ b4 b13 hS1 (f4.below hb8 f4.lt) (f13.below hb8 f13.lt))
  have g5_7 : ∀ (W : World) (b5 : Nat), K3 w W q1 q2 q3 q4 R1 R2 R3 → RowAt W b5 3 #[.int .i64 0, .int .i64 0, .int .i64 0] → PR 10 #[true, true, true, false, false, true, true, true, false, false, false, false, false, false, false, false] (#[.bool false, .pointer (some ⟨q1, 0, none⟩), .int .i64 0, .pointer (some ⟨q2, 0, none⟩), .int .i64 0, .pointer (some ⟨q3, 0, none⟩), .int .i64 0, .pointer (some ⟨q4, 0, none⟩), .int .i64 0, undef, undef, .tuple #[.agg (whl (spl kw1) R1), .int .i64 0], .tuple #[.agg (whl (spl kw1) R1), .int .i64 0], .agg (whl (spl kw1) R1), .int .i64 0, .tuple #[.agg (whl (spl kw2) R2), .int .i64 0], .tuple #[.agg (whl (spl kw2) R2), .int .i64 0], .agg (whl (spl kw2) R2), .int .i64 0, .tuple #[.agg (whl (spl kw3) R3), .int .i64 0], .tuple #[.agg (whl (spl kw3) R3), .int .i64 0], .agg (whl (spl kw3) R3), .int .i64 0, .tuple #[.agg (ints 26 (spl miB)), .int .i64 0], .tuple #[.agg (ints 26 (spl miB)), .int .i64 0], .agg (ints 26 (spl miB)), .int .i64 0, .int .i64 0, .bool false, .bool false, .int .i64 0, .bool false, .bool false, .bool false, .int .i64 0, .bool false, .bool false, .bool false, .int .i64 0, .bool false, .bool false, undef, .agg (whl (spl kw1) R1), .agg (whl (spl kw2) R2), .agg (whl (spl kw3) R3), undef, undef, .slice (some ⟨b5, 0, none⟩) 3 3, .agg (ints 26 (spl miB)), .agg (ints 26 (Pm.up fun i => i)), undef, undef, undef, undef, undef, undef, undef, undef, undef, undef, undef]) W := by
    intro W b5 hS f5
    refine (hPR _ _ _ _).1 ?_
    refine wpAnyH_ready (rs := [3, 4, 13]) (by kernel_rfl) (by simp) ?_
    refine AllReadyH.cons (o := _) rfl (fun K hK => ?_) (AllReadyH.cons (o := _) rfl (fun K hK => ?_) (AllReadyH.cons (o := _) rfl (fun K hK => ?_) AllReadyH.nil))
    · rw [if_pos (by rfl)]
      refine wp_build3c 22 40 _ _ _ rfl 27 (by decide) (by decide) (whl (fun _ => 0) (.slice none 0 0)) (whl (spl kw1) R1) (whl (spl kw2) R2) (whl (spl kw3) R3) rfl rfl rfl Try.underlying22 (whl_size _ _) (whl_size _ _) (whl_size _ _) (whl_size _ _) o_zs_whl ?_
      refine hK.out _ _ (hS.alloc _) (fun hS1 => ?_)
      simp only [List.getElem_toArray, List.getElem_cons_succ, List.getElem_cons_zero, Act.put, List.setIfInBounds_toArray, List.set_cons_succ, List.set_cons_zero]
      refine (hPR _ _ _ _).2 (g3_5_7 _ W.heap.size b5 hS1 (RowAt.new _ _ _) (f5.alloc _))
    · rw [if_pos (by rfl)]
      go_simp
      refine hK.out _ _ (hS.alloc _) (fun hS1 => ?_)
      simp only [List.setIfInBounds_toArray, List.set_cons_succ, List.set_cons_zero]
      refine (hPR _ _ _ _).2 (g4_5_7 _ W.heap.size b5 hS1 (RowAt.new _ _ _) (f5.alloc _))
    · rw [if_pos (by rfl)]
      go_simp
      refine hK.out _ _ (hS.alloc _) (fun hS1 => ?_)
      simp only [List.setIfInBounds_toArray, List.set_cons_succ, List.set_cons_zero]
      refine (hPR _ _ _ _).2 (g5_7_13 _ b5 W.heap.size hS1 (f5.alloc _) (RowAt.new _ _ _))
  have g5_13 : ∀ (W : World) (b5 : Nat) (b13 : Nat), K3 w W q1 q2 q3 q4 R1 R2 R3 → RowAt W b5 3 #[.int .i64 0, .int .i64 0, .int .i64 0] → RowAt W b13 31 #[.int .i64 0, .int .i64 0] → PR 10 #[true, true, true, false, false, true, true, false, false, false, false, false, false, true, false, false] (#[.bool false, .pointer (some ⟨q1, 0, none⟩), .int .i64 0, .pointer (some ⟨q2, 0, none⟩), .int .i64 0, .pointer (some ⟨q3, 0, none⟩), .int .i64 0, .pointer (some ⟨q4, 0, none⟩), .int .i64 0, undef, .pointer (some ⟨b13, 0, none⟩), .tuple #[.agg (whl (spl kw1) R1), .int .i64 0], .tuple #[.agg (whl (spl kw1) R1), .int .i64 0], .agg (whl (spl kw1) R1), .int .i64 0, .tuple #[.agg (whl (spl kw2) R2), .int .i64 0], .tuple #[.agg (whl (spl kw2) R2), .int .i64 0], .agg (whl (spl kw2) R2), .int .i64 0, .tuple #[.agg (whl (spl kw3) R3), .int .i64 0], .tuple #[.agg (whl (spl kw3) R3), .int .i64 0], .agg (whl (spl kw3) R3), .int .i64 0, .tuple #[.agg (ints 26 (spl miB)), .int .i64 0], .tuple #[.agg (ints 26 (spl miB)), .int .i64 0], .agg (ints 26 (spl miB)), .int .i64 0, .int .i64 0, .bool false, .bool false, .int .i64 0, .bool false, .bool false, .bool false, .int .i64 0, .bool false, .bool false, .bool false, .int .i64 0, .bool false, .bool false, undef, .agg (whl (spl kw1) R1), .agg (whl (spl kw2) R2), .agg (whl (spl kw3) R3), undef, undef, .slice (some ⟨b5, 0, none⟩) 3 3, .agg (ints 26 (spl miB)), undef, undef, undef, undef, undef, undef, undef, undef, undef, undef, undef, undef]) W := by
    intro W b5 b13 hS f5 f13
    refine (hPR _ _ _ _).1 ?_
    refine wpAnyH_ready (rs := [3, 4, 7]) (by kernel_rfl) (by simp) ?_
    refine AllReadyH.cons (o := _) rfl (fun K hK => ?_) (AllReadyH.cons (o := _) rfl (fun K hK => ?_) (AllReadyH.cons (o := _) rfl (fun K hK => ?_) AllReadyH.nil))
    · rw [if_pos (by rfl)]
      refine wp_build3c 22 40 _ _ _ rfl 27 (by decide) (by decide) (whl (fun _ => 0) (.slice none 0 0)) (whl (spl kw1) R1) (whl (spl kw2) R2) (whl (spl kw3) R3) rfl rfl rfl Try.underlying22 (whl_size _ _) (whl_size _ _) (whl_size _ _) (whl_size _ _) o_zs_whl ?_
      refine hK.out _ _ (hS.alloc _) (fun hS1 => ?_)
      simp only [List.getElem_toArray, List.getElem_cons_succ, List.getElem_cons_zero, Act.put, List.setIfInBounds_toArray, List.set_cons_succ, List.set_cons_zero]
      refine (hPR _ _ _ _).2 (g3_5_13 _ W.heap.size b5 b13 hS1 (RowAt.new _ _ _) (f5.alloc _) (f13.alloc _))
    · rw [if_pos (by rfl)]
      go_simp
      refine hK.out _ _ (hS.alloc _) (fun hS1 => ?_)
      simp only [List.setIfInBounds_toArray, List.set_cons_succ, List.set_cons_zero]
      refine (hPR _ _ _ _).2 (g4_5_13 _ W.heap.size b5 b13 hS1 (RowAt.new _ _ _) (f5.alloc _) (f13.alloc _))
    · rw [if_pos (by rfl)]
      go_simp
      refine Calls.mono (HS.out _) ?_
      rintro e Y ⟨rfl, hb8⟩
      refine hK.out _ _ (hS.step hb8) (fun hS1 => ?_)
      simp only [List.setIfInBounds_toArray, List.set_cons_succ, List.set_cons_zero]
      refine (hPR _ _ _ _).2 (g5_7_13 _ b5 b13 hS1 (f5.below hb8 f5.lt) (f13.below hb8 f13.lt))
  have g7_13 : ∀ (W : World) (b13 : Nat), K3 w W q1 q2 q3 q4 R1 R2 R3 → RowAt W b13 31 #[.int .i64 0, .int .i64 0] → PR 10 #[true, true, true, false, false, false, true, true, false, false, false, false, false, true, false, false] (#[.bool false, .pointer (some ⟨q1, 0, none⟩), .int .i64 0, .pointer (some ⟨q2, 0, none⟩), .int .i64 0, .pointer (some ⟨q3, 0, none⟩), .int .i64 0, .pointer (some ⟨q4, 0, none⟩), .int .i64 0, undef, .pointer (some ⟨b13, 0, none⟩), .tuple #[.agg (whl (spl kw1) R1), .int .i64 0], .tuple #[.agg (whl (spl kw1) R1), .int .i64 0], .agg (whl (spl kw1) R1), .int .i64 0, .tuple #[.agg (whl (spl kw2) R2), .int .i64 0], .tuple #[.agg (whl (spl kw2) R2), .int .i64 0], .agg (whl (spl kw2) R2), .int .i64 0, .tuple #[.agg (whl (spl kw3) R3), .int .i64 0], .tuple #[.agg (whl (spl kw3) R3), .int .i64 0], .agg (whl (spl kw3) R3), .int .i64 0, .tuple #[.agg (ints 26 (spl miB)), .int .i64 0], .tuple #[.agg (ints 26 (spl miB)), .int .i64 0], .agg (ints 26 (spl miB)), .int .i64 0, .int .i64 0, .bool false, .bool false, .int .i64 0, .bool false, .bool false, .bool false, .int .i64 0, .bool false, .bool false, .bool false, .int .i64 0, .bool false, .bool false, undef, .agg (whl (spl kw1) R1), .agg (whl (spl kw2) R2), .agg (whl (spl kw3) R3), undef, undef, undef, .agg (ints 26 (spl miB)), .agg (ints 26 (Pm.up fun i => i)), undef, undef, undef, undef, undef, undef, undef, undef, undef, undef, undef]) W := by
    intro W b13 hS f13
    refine (hPR _ _ _ _).1 ?_
    refine wpAnyH_ready (rs := [3, 4, 5]) (by kernel_rfl) (by simp) ?_
    refine AllReadyH.cons (o := _) rfl (fun K hK => ?_) (AllReadyH.cons (o := _) rfl (fun K hK => ?_) (AllReadyH.cons (o := _) rfl (fun K hK => ?_) AllReadyH.nil))
    · rw [if_pos (by rfl)]
      refine wp_build3c 22 40 _ _ _ rfl 27 (by decide) (by decide) (whl (fun _ => 0) (.slice none 0 0)) (whl (spl kw1) R1) (whl (spl kw2) R2) (whl (spl kw3) R3) rfl rfl rfl Try.underlying22 (whl_size _ _) (whl_size _ _) (whl_size _ _) (whl_size _ _) o_zs_whl ?_
      refine hK.out _ _ (hS.alloc _) (fun hS1 => ?_)
      simp only [List.getElem_toArray, List.getElem_cons_succ, List.getElem_cons_zero, Act.put, List.setIfInBounds_toArray, List.set_cons_succ, List.set_cons_zero]
      refine (hPR _ _ _ _).2 (g3_7_13 _ W.heap.size b13 hS1 (RowAt.new _ _ _) (f13.alloc _))
    · rw [if_pos (by rfl)]
      go_simp
      refine hK.out _ _ (hS.alloc _) (fun hS1 => ?_)
      simp only [List.setIfInBounds_toArray, List.set_cons_succ, List.set_cons_zero]
      refine (hPR _ _ _ _).2 (g4_7_13 _ W.heap.size b13 hS1 (RowAt.new _ _ _) (f13.alloc _))
    · rw [if_pos (by rfl)]
      go_simp
      refine hK.out _ _ (hS.alloc _) (fun hS1 => ?_)
      simp only [List.setIfInBounds_toArray, List.set_cons_succ, List.set_cons_zero]
      refine (hPR _ _ _ _).2 (g5_7_13 _ W.heap.size b13 hS1 (RowAt.new _ _ _) (f13.alloc _))
  have g3 : ∀ (W : World) (b3 : Nat), K3 w W q1 q2 q3 q4 R1 R2 R3 → RowAt W b3 40 (whl (spl kw1) R1 ++ whl (spl kw2) R2 ++ whl (spl kw3) R3) → PR 11 #[true, true, true, true, false, false, true, false, false, false, false, false, false, false, false, false] (#[.bool false, .pointer (some ⟨q1, 0, none⟩), .int .i64 0, .pointer (some ⟨q2, 0, none⟩), .int .i64 0, .pointer (some ⟨q3, 0, none⟩), .int .i64 0, .pointer (some ⟨q4, 0, none⟩), .int .i64 0, undef, undef, .tuple #[.agg (whl (spl kw1) R1), .int .i64 0], .tuple #[.agg (whl (spl kw1) R1), .int .i64 0], .agg (whl (spl kw1) R1), .int .i64 0, .tuple #[.agg (whl (spl kw2) R2), .int .i64 0], .tuple #[.agg (whl (spl kw2) R2), .int .i64 0], .agg (whl (spl kw2) R2), .int .i64 0, .tuple #[.agg (whl (spl kw3) R3), .int .i64 0], .tuple #[.agg (whl (spl kw3) R3), .int .i64 0], .agg (whl (spl kw3) R3), .int .i64 0, .tuple #[.agg (ints 26 (spl miB)), .int .i64 0], .tuple #[.agg (ints 26 (spl miB)), .int .i64 0], .agg (ints 26 (spl miB)), .int .i64 0, .int .i64 0, .bool false, .bool false, .int .i64 0, .bool false, .bool false, .bool false, .int .i64 0, .bool false, .bool false, .bool false, .int .i64 0, .bool false, .bool false, undef, .agg (whl (spl kw1) R1), .agg (whl (spl kw2) R2), .agg (whl (spl kw3) R3), .slice (some ⟨b3, 0, none⟩) 3 3, undef, undef, .agg (ints 26 (spl miB)), undef, undef, undef, undef, undef, undef, undef, undef, undef, undef, undef, undef]) W := by
    intro W b3 hS f3
    refine (hPR _ _ _ _).1 ?_
    refine wpAnyH_ready (rs := [4, 5, 7, 13]) (by kernel_rfl) (by simp) ?_
    refine AllReadyH.cons (o := _) rfl (fun K hK => ?_) (AllReadyH.cons (o := _) rfl (fun K hK => ?_) (AllReadyH.cons (o := _) rfl (fun K hK => ?_) (AllReadyH.cons (o := _) rfl (fun K hK => ?_) AllReadyH.nil)))
    · rw [if_pos (by rfl)]
      go_simp
      refine hK.out _ _ (hS.alloc _) (fun hS1 => ?_)
      simp only [List.setIfInBounds_toArray, List.set_cons_succ, List.set_cons_zero]
      refine (hPR _ _ _ _).2 (g3_4 _ b3 W.heap.size hS1 (f3.alloc _) (RowAt.new _ _ _))
    · rw [if_pos (by rfl)]
      go_simp
      refine hK.out _ _ (hS.alloc _) (fun hS1 => ?_)
      simp only [List.setIfInBounds_toArray, List.set_cons_succ, List.set_cons_zero]
      refine (hPR _ _ _ _).2 (g3_5 _ b3 W.heap.size hS1 (f3.alloc _) (RowAt.new _ _ _))
    · rw [if_pos (by rfl)]
      go_simp
      refine Calls.mono (HS.out _) ?_
      rintro e Y ⟨rfl, hb8⟩
      refine hK.out _ _ (hS.step hb8) (fun hS1 => ?_)
      simp only [List.setIfInBounds_toArray, List.set_cons_succ, List.set_cons_zero]
      refine (hPR _ _ _ _).2 (g3_7 _ b3 hS1 (f3.below hb8 f3.lt))
    · rw [if_pos (by rfl)]
      go_simp
      refine hK.out _ _ (hS.alloc _) (fun hS1 => ?_)
      simp only [List.setIfInBounds_toArray, List.set_cons_succ, List.set_cons_zero]
      refine (hPR _ _ _ _).2 (g3_13 _ b3 W.heap.size hS1 (f3.alloc _) (RowAt.new _ _ _))
  have g4 : ∀ (W : World) (b4 : Nat), K3 w W q1 q2 q3 q4 R1 R2 R3 → RowAt W b4 3 #[.int .i64 0, .int .i64 0, .int .i64 0] → PR 11 #[true, true, true, false, true, false, true, false, false, false, false, false, false, false, false, false] (#[.bool false, .pointer (some ⟨q1, 0, none⟩), .int .i64 0, .pointer (some ⟨q2, 0, none⟩), .int .i64 0, .pointer (some ⟨q3, 0, none⟩), .int .i64 0, .pointer (some ⟨q4, 0, none⟩), .int .i64 0, undef, undef, .tuple #[.agg (whl (spl kw1) R1), .int .i64 0], .tuple #[.agg (whl (spl kw1) R1), .int .i64 0], .agg (whl (spl kw1) R1), .int .i64 0, .tuple #[.agg (whl (spl kw2) R2), .int .i64 0], .tuple #[.agg (whl (spl kw2) R2), .int .i64 0], .agg (whl (spl kw2) R2), .int .i64 0, .tuple #[.agg (whl (spl kw3) R3), .int .i64 0], .tuple #[.agg (whl (spl kw3) R3), .int .i64 0], .agg (whl (spl kw3) R3), .int .i64 0, .tuple #[.agg (ints 26 (spl miB)), .int .i64 0], .tuple #[.agg (ints 26 (spl miB)), .int .i64 0], .agg (ints 26 (spl miB)), .int .i64 0, .int .i64 0, .bool false, .bool false, .int .i64 0, .bool false, .bool false, .bool false, .int .i64 0, .bool false, .bool false, .bool false, .int .i64 0, .bool false, .bool false, undef, .agg (whl (spl kw1) R1), .agg (whl (spl kw2) R2), .agg (whl (spl kw3) R3), undef, .slice (some ⟨b4, 0, none⟩) 3 3, undef, .agg (ints 26 (spl miB)), undef, undef, undef, undef, undef, undef, undef, undef, undef, undef, undef, undef]) W := by
    intro W b4 hS f4
    refine (hPR _ _ _ _).1 ?_
    refine wpAnyH_ready (rs := [3, 5, 7, 13]) (by kernel_rfl) (by simp) ?_
    refine AllReadyH.cons (o := _) rfl (fun K hK => ?_) (AllReadyH.cons (o := _) rfl (fun K hK => ?_) (AllReadyH.cons (o := _) rfl (fun K hK => ?_) (AllReadyH.cons (o := _) rfl (fun K hK => ?_) AllReadyH.nil)))
    · rw [if_pos (by rfl)]
      refine wp_build3c 22 40 _ _ _ rfl 27 (by decide) (by decide) (whl (fun _ => 0) (.slice none 0 0)) (whl (spl kw1) R1) (whl (spl kw2) R2) (whl (spl kw3) R3) rfl rfl rfl Try.underlying22 (whl_size _ _) (whl_size _ _) (whl_size _ _) (whl_size _ _) o_zs_whl ?_
      refine hK.out _ _ (hS.alloc _) (fun hS1 => ?_)
      simp only [List.getElem_toArray, List.getElem_cons_succ, List.getElem_cons_zero, Act.put, List.setIfInBounds_toArray, List.set_cons_succ, List.set_cons_zero]
      refine (hPR _ _ _ _).2 (g3_4 _ W.heap.size b4 hS1 (RowAt.new _ _ _) (f4.alloc _))
    · rw [if_pos (by rfl)]
      go_simp
      refine hK.out _ _ (hS.alloc _) (fun hS1 => ?_)
      simp only [List.setIfInBounds_toArray, List.set_cons_succ, List.set_cons_zero]
      refine (hPR _ _ _ _).2 (g4_5 _ b4 W.heap.size hS1 (f4.alloc _) (RowAt.new _ _ _))
    · rw [if_pos (by rfl)]
      go_simp
      refine Calls.mono (HS.out _) ?_
      rintro e Y ⟨rfl, hb8⟩
      refine hK.out _ _ (hS.step hb8) (fun hS1 => ?_)
      simp only [List.setIfInBounds_toArray, List.set_cons_succ, List.set_cons_zero]
      refine (hPR _ _ _ _).2 (g4_7 _ b4 hS1 (f4.below hb8 f4.lt))
    · rw [if_pos (by rfl)]
      go_simp
      refine hK.out _ _ (hS.alloc _) (fun hS1 => ?_)
      simp only [List.setIfInBounds_toArray, List.set_cons_succ, List.set_cons_zero]
      refine (hPR _ _ _ _).2 (g4_13 _ b4 W.heap.size hS1 (f4.alloc _) (RowAt.new _ _ _))
  have g5 : ∀ (W : World) (b5 : Nat), K3 w W q1 q2 q3 q4 R1 R2 R3 → RowAt W b5 3 #[.int .i64 0, .int .i64 0, .int .i64 0] → PR 11 #[true, true, true, false, false, true, true, false, false, false, false, false, false, false, false, false] (#[.bool false, .pointer (some ⟨q1, 0, none⟩), .int .i64 0, .pointer (some ⟨q2, 0, none⟩), .int .i64 0, .pointer (some ⟨q3, 0, none⟩), .int .i64 0, .pointer (some ⟨q4, 0, none⟩), .int .i64 0, undef, undef, .tuple #[.agg (whl (spl kw1) R1), .int .i64 0], .tuple #[.agg (whl (spl kw1) R1), .int .i64 0], .agg (whl (spl kw1) R1), .int .i64 0, .tuple #[.agg (whl (spl kw2) R2), .int .i64 0], .tuple #[.agg (whl (spl kw2) R2), .int .i64 0], .agg (whl (spl kw2) R2), .int .i64 0, .tuple #[.agg (whl (spl kw3) R3), .int .i64 0], .tuple #[.agg (whl (spl kw3) R3), .int .i64 0], .agg (whl (spl kw3) R3), .int .i64 0, .tuple #[.agg (ints 26 (spl miB)), .int .i64 0], .tuple #[.agg (ints 26 (spl miB)), .int .i64 0], .agg (ints 26 (spl miB)), .int .i64 0, .int .i64 0, .bool false, .bool false, .int .i64 0, .bool false, .bool false, .bool false, .int .i64 0, .bool false, .bool false, .bool false, .int .i64 0, .bool false, .bool false, undef, .agg (whl (spl kw1) R1), .agg (whl (spl kw2) R2), .agg (whl (spl kw3) R3), undef, undef, .slice (some ⟨b5, 0, none⟩) 3 3, .agg (ints 26 (spl miB)), undef, undef, undef, undef, undef, undef, undef, undef, undef, undef, undef, undef]) W := by
    intro W b5 hS f5
    refine (hPR _ _ _ _).1 ?_
    refine wpAnyH_ready (rs := [3, 4, 7, 13]) (by kernel_rfl) (by simp) ?_
    refine AllReadyH.cons (o := _) rfl (fun K hK => ?_) (AllReadyH.cons (o := _) rfl (fun K hK => ?_) (AllReadyH.cons (o := _) rfl (fun K hK => ?_) (AllReadyH.cons (o := _) rfl (fun K hK => ?_) AllReadyH.nil)))
    · rw [if_pos (by rfl)]
      refine wp_build3c 22 40 _ _ _ rfl 27 (by decide) (by decide) (whl (fun _ => 0) (.slice none 0 0)) (whl (spl kw1) R1) (whl (spl kw2) R2) (whl (spl kw3) R3) rfl rfl rfl Try.underlying22 (whl_size _ _) (whl_size _ _) (whl_size _ _) (whl_size _ _) o_zs_whl ?_
      refine hK.out _ _ (hS.alloc _) (fun hS1 => ?_)
      simp only [List.getElem_toArray, List.getElem_cons_succ, List.getElem_cons_zero, Act.put, List.setIfInBounds_toArray, List.set_cons_succ, List.set_cons_zero]
      refine (hPR _ _ _ _).2 (g3_5 _ W.heap.size b5 hS1 (RowAt.new _ _ _) (f5.alloc _))
    · rw [if_pos (by rfl)]
      go_simp
      refine hK.out _ _ (hS.alloc _) (fun hS1 => ?_)
      simp only [List.setIfInBounds_toArray, List.set_cons_succ, List.set_cons_zero]
      refine (hPR _ _ _ _).2 (g4_5 _ W.heap.size b5 hS1 (RowAt.new _ _ _) (f5.alloc _))
    · rw [if_pos (by rfl)]
      go_simp
      refine Calls.mono (HS.out _) ?_
      rintro e Y ⟨rfl, hb8⟩
      refine hK.out _ _ (hS.step hb8) (fun hS1 => ?_)
      simp only [List.setIfInBounds_toArray, List.set_cons_succ, List.set_cons_zero]
      refine (hPR _ _ _ _).2 (g5_7 _ b5 hS1 (f5.below hb8 f5.lt))
    · rw [if_pos (by rfl)]
      go_simp
      refine hK.out _ _ (hS.alloc _) (fun hS1 => ?_)
      simp only [List.setIfInBounds_toArray, List.set_cons_succ, List.set_cons_zero]
      refine (hPR _ _ _ _).2 (g5_13 _ b5 W.heap.size hS1 (f5.alloc _) (RowAt.new _ _ _))
  have g7 : ∀ (W : World) , K3 w W q1 q2 q3 q4 R1 R2 R3 → PR 11 #[true, true, true, false, false, false, true, true, false, false, false, false, false, false, false, false] (#[.bool false, .pointer (some ⟨q1, 0, none⟩), .int .i64 0, .pointer (some ⟨q2, 0, none⟩), .int .i64 0, .pointer (some ⟨q3, 0, none⟩), .int .i64 0, .pointer (some ⟨q4, 0, none⟩), .int .i64 0, undef, undef, .tuple #[.agg (whl (spl kw1) R1), .int .i64 0], .tuple #[.agg (whl (spl kw1) R1), .int .i64 0], .agg (whl (spl kw1) R1), .int .i64 0, .tuple #[.agg (whl (spl kw2) R2), .int .i64 0], .tuple #[.agg (whl (spl kw2) R2), .int .i64 0], .agg (whl (spl kw2) R2), .int .i64 0, .tuple #[.agg (whl (spl kw3) R3), .int .i64 0], .tuple #[.agg (whl (spl kw3) R3), .int .i64 0], .agg (whl (spl kw3) R3), .int .i64 0, .tuple #[.agg (ints 26 (spl miB)), .int .i64 0], .tuple #[.agg (ints 26 (spl miB)), .int .i64 0], .agg (ints 26 (spl miB)), .int .i64 0, .int .i64 0, .bool false, .bool false, .int .i64 0, .bool false, .bool false, .bool false, .int .i64 0, .bool false, .bool false, .bool false, .int .i64 0, .bool false, .bool false, undef, .agg (whl (spl kw1) R1), .agg (whl (spl kw2) R2), .agg (whl (spl kw3) R3), undef, undef, undef, .agg (ints 26 (spl miB)), .agg (ints 26 (Pm.up fun i => i)), undef, undef, undef, undef, undef, undef, undef, undef, undef, undef, undef]) W := by
    intro W  hS 
    refine (hPR _ _ _ _).1 ?_
    refine wpAnyH_ready (rs := [3, 4, 5, 13]) (by kernel_rfl) (by simp) ?_
    refine AllReadyH.cons (o := _) rfl (fun K hK => ?_) (AllReadyH.cons (o := _) rfl (fun K hK => ?_) (AllReadyH.cons (o := _) rfl (fun K hK => ?_) (AllReadyH.cons (o := _) rfl (fun K hK => ?_) AllReadyH.nil)))
    · rw [if_pos (by rfl)]
      refine wp_build3c 22 40 _ _ _ rfl 27 (by decide) (by decide) (whl (fun _ => 0) (.slice none 0 0)) (whl (spl kw1) R1) (whl (spl kw2) R2) (whl (spl kw3) R3) rfl rfl rfl Try.underlying22 (whl_size _ _) (whl_size _ _) (whl_size _ _) (whl_size _ _) o_zs_whl ?_
      refine hK.out _ _ (hS.alloc _) (fun hS1 => ?_)
      simp only [List.getElem_toArray, List.getElem_cons_succ, List.getElem_cons_zero, Act.put, List.setIfInBounds_toArray, List.set_cons_succ, List.set_cons_zero]
      refine (hPR _ _ _ _).2 (g3_7 _ W.heap.size hS1 (RowAt.new _ _ _))
    · rw [if_pos (by rfl)]
      go_simp
      refine hK.out _ _ (hS.alloc _) (fun hS1 => ?_)
      simp only [List.setIfInBounds_toArray, List.set_cons_succ, List.set_cons_zero]
      refine (hPR _ _ _ _).2 (g4_7 _ W.heap.size hS1 (RowAt.new _ _ _))
    · rw [if_pos (by rfl)]
      go_simp
      refine hK.out _ _ (hS.alloc _) (fun hS1 => ?_)
      simp only [List.setIfInBounds_toArray, List.set_cons_succ, List.set_cons_zero]
      refine (hPR _ _ _ _).2 (g5_7 _ W.heap.size hS1 (RowAt.new _ _ _))
    · rw [if_pos (by rfl)]
      go_simp
      refine hK.out _ _ (hS.alloc _) (fun hS1 => ?_)
      simp only [List.setIfInBounds_toArray, List.set_cons_succ, List.set_cons_zero]
      refine (hPR _ _ _ _).2 (g7_13 _ W.heap.size hS1 (RowAt.new _ _ _))
  have g13 : ∀ (W : World) (b13 : Nat), K3 w W q1 q2 q3 q4 R1 R2 R3 → RowAt W b13 31 #[.int .i64 0, .int .i64 0] → PR 11 #[true, true, true, false, false, false, true, false, false, false, false, false, false, true, false, false] (#[.bool false, .pointer (some ⟨q1, 0, none⟩), .int .i64 0, .pointer (some ⟨q2, 0, none⟩), .int .i64 0, .pointer (some ⟨q3, 0, none⟩), .int .i64 0, .pointer (some ⟨q4, 0, none⟩), .int .i64 0, undef, .pointer (some ⟨b13, 0, none⟩), .tuple #[.agg (whl (spl kw1) R1), .int .i64 0], .tuple #[.agg (whl (spl kw1) R1), .int .i64 0], .agg (whl (spl kw1) R1), .int .i64 0, .tuple #[.agg (whl (spl kw2) R2), .int .i64 0], .tuple #[.agg (whl (spl kw2) R2), .int .i64 0], .agg (whl (spl kw2) R2), .int .i64 0, .tuple #[.agg (whl (spl kw3) R3), .int .i64 0], .tuple #[.agg (whl (spl kw3) R3), .int .i64 0], .agg (whl (spl kw3) R3), .int .i64 0, .tuple #[.agg (ints 26 (spl miB)), .int .i64 0], .tuple #[.agg (ints 26 (spl miB)), .int .i64 0], .agg (ints 26 (spl miB)), .int .i64 0, .int .i64 0, .bool false, .bool false, .int .i64 0, .bool false, .bool false, .bool false, .int .i64 0, .bool false, .bool false, .bool false, .int .i64 0, .bool false, .bool false, undef, .agg (whl (spl kw1) R1), .agg (whl (spl kw2) R2), .agg (whl (spl kw3) R3), undef, undef, undef, .agg (ints 26 (spl miB)), undef, undef, undef, undef, undef, undef, undef, undef, undef, undef, undef, undef]) W := by
    intro W b13 hS f13
    refine (hPR _ _ _ _).1 ?_
    refine wpAnyH_ready (rs := [3, 4, 5, 7]) (by kernel_rfl) (by simp) ?_
    refine AllReadyH.cons (o := _) rfl (fun K hK => ?_) (AllReadyH.cons (o := _) rfl (fun K hK => ?_) (AllReadyH.cons (o := _) rfl (fun K hK => ?_) (AllReadyH.cons (o := _) rfl (fun K hK => ?_) AllReadyH.nil)))
    · rw [if_pos (by rfl)]
      refine wp_build3c 22 40 _ _ _ rfl 27 (by decide) (by decide) (whl (fun _ => 0) (.slice none 0 0)) (whl (spl kw1) R1) (whl (spl kw2) R2) (whl (spl kw3) R3) rfl rfl rfl Try.underlying22 (whl_size _ _) (whl_size _ _) (whl_size _ _) (whl_size _ _) o_zs_whl ?_
      refine hK.out _ _ (hS.alloc _) (fun hS1 => ?_)
      simp only [List.getElem_toArray, List.getElem_cons_succ, List.getElem_cons_zero, Act.put, List.setIfInBounds_toArray, List.set_cons_succ, List.set_cons_zero]
      refine (hPR _ _ _ _).2 (g3_13 _ W.heap.size b13 hS1 (RowAt.new _ _ _) (f13.alloc _))
    · rw [if_pos (by rfl)]
      go_simp
      refine hK.out _ _ (hS.alloc _) (fun hS1 => ?_)
      simp only [List.setIfInBounds_toArray, List.set_cons_succ, List.set_cons_zero]
      refine (hPR _ _ _ _).2 (g4_13 _ W.heap.size b13 hS1 (RowAt.new _ _ _) (f13.alloc _))
    · rw [if_pos (by rfl)]
      go_simp
      refine hK.out _ _ (hS.alloc _) (fun hS1 => ?_)
      simp only [List.setIfInBounds_toArray, List.set_cons_succ, List.set_cons_zero]
      refine (hPR _ _ _ _).2 (g5_13 _ W.heap.size b13 hS1 (RowAt.new _ _ _) (f13.alloc _))
    · rw [if_pos (by rfl)]
      go_simp
      refine Calls.mono (HS.out _) ?_
      rintro e Y ⟨rfl, hb8⟩
      refine hK.out _ _ (hS.step hb8) (fun hS1 => ?_)
      simp only [List.setIfInBounds_toArray, List.set_cons_succ, List.set_cons_zero]
      refine (hPR _ _ _ _).2 (g7_13 _ b13 hS1 (f13.below hb8 f13.lt))
  have g : ∀ (W : World) , K3 w W q1 q2 q3 q4 R1 R2 R3 → PR 12 #[true, true, true, false, false, false, true, false, false, false, false, false, false, false, false, false] (#[.bool false, .pointer (some ⟨q1, 0, none⟩), .int .i64 0, .pointer (some ⟨q2, 0, none⟩), .int .i64 0, .pointer (some ⟨q3, 0, none⟩), .int .i64 0, .pointer (some ⟨q4, 0, none⟩), .int .i64 0, undef, undef, .tuple #[.agg (whl (spl kw1) R1), .int .i64 0], .tuple #[.agg (whl (spl kw1) R1), .int .i64 0], .agg (whl (spl kw1) R1), .int .i64 0, .tuple #[.agg (whl (spl kw2) R2), .int .i64 0], .tuple #[.agg (whl (spl kw2) R2), .int .i64 0], .agg (whl (spl kw2) R2), .int .i64 0, .tuple #[.agg (whl (spl kw3) R3), .int .i64 0], .tuple #[.agg (whl (spl kw3) R3), .int .i64 0], .agg (whl (spl kw3) R3), .int .i64 0, .tuple #[.agg (ints 26 (spl miB)), .int .i64 0], .tuple #[.agg (ints 26 (spl miB)), .int .i64 0], .agg (ints 26 (spl miB)), .int .i64 0, .int .i64 0, .bool false, .bool false, .int .i64 0, .bool false, .bool false, .bool false, .int .i64 0, .bool false, .bool false, .bool false, .int .i64 0, .bool false, .bool false, undef, .agg (whl (spl kw1) R1), .agg (whl (spl kw2) R2), .agg (whl (spl kw3) R3), undef, undef, undef, .agg (ints 26 (spl miB)), undef, undef, undef, undef, undef, undef, undef, undef, undef, undef, undef, undef]) W := by
    intro W  hS 
    refine (hPR _ _ _ _).1 ?_
    refine wpAnyH_ready (rs := [3, 4, 5, 7, 13]) (by kernel_rfl) (by simp) ?_
    refine AllReadyH.cons (o := _) rfl (fun K hK => ?_) (AllReadyH.cons (o := _) rfl (fun K hK => ?_) (AllReadyH.cons (o := _) rfl (fun K hK => ?_) (AllReadyH.cons (o := _) rfl (fun K hK => ?_) (AllReadyH.cons (o := _) rfl (fun K hK => ?_) AllReadyH.nil))))
    · rw [if_pos (by rfl)]
      refine wp_build3c 22 40 _ _ _ rfl 27 (by decide) (by decide) (whl (fun _ => 0) (.slice none 0 0)) (whl (spl kw1) R1) (whl (spl kw2) R2) (whl (spl kw3) R3) rfl rfl rfl Try.underlying22 (whl_size _ _) (whl_size _ _) (whl_size _ _) (whl_size _ _) o_zs_whl ?_
      refine hK.out _ _ (hS.alloc _) (fun hS1 => ?_)
      simp only [List.getElem_toArray, List.getElem_cons_succ, List.getElem_cons_zero, Act.put, List.setIfInBounds_toArray, List.set_cons_succ, List.set_cons_zero]
      refine (hPR _ _ _ _).2 (g3 _ W.heap.size hS1 (RowAt.new _ _ _))
    · rw [if_pos (by rfl)]
      go_simp
      refine hK.out _ _ (hS.alloc _) (fun hS1 => ?_)
      simp only [List.setIfInBounds_toArray, List.set_cons_succ, List.set_cons_zero]
      refine (hPR _ _ _ _).2 (g4 _ W.heap.size hS1 (RowAt.new _ _ _))
    · rw [if_pos (by rfl)]
      go_simp
      refine hK.out _ _ (hS.alloc _) (fun hS1 => ?_)
      simp only [List.setIfInBounds_toArray, List.set_cons_succ, List.set_cons_zero]
      refine (hPR _ _ _ _).2 (g5 _ W.heap.size hS1 (RowAt.new _ _ _))
    · rw [if_pos (by rfl)]
      go_simp
      refine Calls.mono (HS.out _) ?_
      rintro e Y ⟨rfl, hb8⟩
      refine hK.out _ _ (hS.step hb8) (fun hS1 => ?_)
      simp only [List.setIfInBounds_toArray, List.set_cons_succ, List.set_cons_zero]
      refine (hPR _ _ _ _).2 (g7 _  hS1 )
    · rw [if_pos (by rfl)]
      go_simp
      refine hK.out _ _ (hS.alloc _) (fun hS1 => ?_)
      simp only [List.setIfInBounds_toArray, List.set_cons_succ, List.set_cons_zero]
      refine (hPR _ _ _ _).2 (g13 _ W.heap.size hS1 (RowAt.new _ _ _))
  exact g _ hS
theorem alive8_of (TW : ∀ (vm : Value) (g : Gm) (t : ByteArray) (w : World), MacAt w vm g → Calls Try.prog 8 #[vm, .string t] w fun e w' => e = .returned (.tuple #[.string ⟨(rwS g t.data.toList).toArray⟩, .agg #[.int .i64 (rwE g t.data.toList), .int .i64 (rwAt g t.data.toList)]]) ∧ Below w.heap.size w w')
    (TK : ∀ (name : ByteArray) (W : World), Calls Try.prog 22 #[.string name] W fun e w' => ∃ R, e = .returned (.tuple #[.agg (whl (knW name.data.toList) R), .int .i64 (knE name.data.toList)]) ∧ NumsAt w' R (knN name.data.toList).length (fun i => ((knN name.data.toList).getD i 0 : Nat)) ∧ Below W.heap.size W w')
    (TM : ∀ (name : ByteArray) (W : World), Calls Try.prog 23 #[.string name] W fun e w' => e = .returned (.tuple #[.agg (ints 26 (miP name.data.toList)), .int .i64 (miE name.data.toList)]) ∧ Below W.heap.size W w') (w : World) : Calls Try.prog 7 #[] w fun e w' => e = .returned (.bool true) ∧ Below w.heap.size w w' := by
  have hl : Ls ([65, 65, 65, 65, 65] : List UInt8) := ls_dec (by decide)
  have hc := ck_of_ls hl (by decide)
  have e0 : rwE gAl [65, 65, 65, 65, 65] = 0 := by unfold rwE; rw [if_neg (fun h => h al_gE)]; exact hc.1
  have a0 : rwAt gAl [65, 65, 65, 65, 65] = 0 := by unfold rwAt; rw [if_neg (fun h => h al_gE)]; exact hc.2
  refine alive8_run w (fun W => TK ⟨#[73]⟩ W) (fun W => TK ⟨#[73, 73]⟩ W) (fun W => TK ⟨#[73, 73, 73]⟩ W) (fun W => ?_) (fun W vm hm => ?_)
  · have := TM ⟨#[66]⟩ W
    exact this
  · have := TW vm gAl ⟨#[65, 65, 65, 65, 65]⟩ W hm
    rw [show (⟨#[65, 65, 65, 65, 65]⟩ : ByteArray).data.toList = [65, 65, 65, 65, 65] from rfl, e0, a0, rwS_ok e0, al_wr] at this
    exact this
end Go.Proofs.Ytibkcgjofcfoaaa
