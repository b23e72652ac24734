/-
  Several texts, joined: ThC, YOpen, TeO, LTfH.
-/
import Derived.Test.YtpdemelchhkfaaaThB
import Derived.Test.YtpdemelchhkfaaaJn22
import Derived.Test.YtpdemelchhkfaaaChecked
import Derived.Deep.Matrix
import Derived.ProofKit
import Derived.OpenShut
import Derived.ShutString
import Derived.ChangeOld
import Derived.Carry
import Derived.ChangeSlices
import Derived.Test.YtpdemelchhkfaaaJn24
import Derived.Test.YtpdemelchhkfaaaRows
import Derived.Test.YtpdemelchhkfaaaJn37
/-
  The law TeleBest where the first call of Best finds something wrong.
-/
namespace Go.Proofs.Ytpdemelchhkfaaa
open Go.RowKit PK Tl
set_option maxRecDepth 100000 in
set_option maxHeartbeats 4000000 in
/-- The law where something is wrong. -/
theorem tbest_bad (v va vb : Value) (n la lb : Nat) (h o x y : Int) (f : Nat → Int) (p q : Nat → Bool) (hE : beE n f la lb h ≠ 0) (w : World) (hv : NumsAt w v n f) (h1 : PinsAt w va la p) (h2 : PinsAt w vb lb q) :
    Calls Try.prog 4 #[v, va, vb, .int .i64 h, .int .i64 o, .int .i64 x, .int .i64 y] w fun e w' => e = .returned (.bool true) ∧ Below w.heap.size w w' := by
  have HP : Hid (∀ W, Below w.heap.size w W → Calls Try.prog 7 #[v, va, vb, .int .i64 h] W fun e w' => e = .returned (.tuple #[.agg #[.int .i64 0, .int .i64 0, .int .i64 0], .int .i64 (beE n f la lb h)]) ∧ Below W.heap.size W w') := fun W hW => pbest_bad v va vb n la lb h f p q hE W (hv.below hW) (h1.below hW) (h2.below hW)
  have HA : Hid (∀ W, Calls Try.prog 9 #[] W fun e w' => e = .returned (.bool true) ∧ Below W.heap.size W w') := fun W => alive13 W
  obtain ⟨a0, c0, rfl, _⟩ := hv
  obtain ⟨a1, c1, rfl, _⟩ := h1
  obtain ⟨a2, c2, rfl, _⟩ := h2
  generalize beE n f la lb h = BE at *
  have hb0 : (BE == 0) = false := beq_false_of_ne hE
  have hz := tf_zero (P := Try.prog) tf_zero_hit
  have r1 := RowAt.new w 22 #[.slice a0 n c0]
  have r2 := RowAt.new (w.alloc (.cells #[.slice a0 n c0] 22)) 24 #[.slice a1 la c1]
  have r3 := RowAt.new ((w.alloc (.cells #[.slice a0 n c0] 22)).alloc (.cells #[.slice a1 la c1] 24)) 24 #[.slice a2 lb c2]
  have hb1 := (Below.refl w.heap.size w).alloc (Nat.le_refl _) (.cells #[.slice a0 n c0] 22)
  have hb2 := hb1.alloc hb1.size (.cells #[.slice a1 la c1] 24)
  have hb3 := hb2.alloc hb2.size (.cells #[.slice a2 lb c2] 24)
  have r13 := (r1.alloc (.cells #[.slice a1 la c1] 24)).alloc (.cells #[.slice a2 lb c2] 24)
  have r23 := r2.alloc (.cells #[.slice a2 lb c2] 24)
  rw [show (w.alloc (.cells #[.slice a0 n c0] 22)).heap.size = w.heap.size + 1 by simp] at r23
  rw [show ((w.alloc (.cells #[.slice a0 n c0] 22)).alloc (.cells #[.slice a1 la c1] 24)).heap.size = w.heap.size + 1 + 1 by simp] at r3
  clear hE hb1 hb2 r1 r2
  go_enter Try.func4, Try.ntmps4
  go_upto_region 1 with fail
  generalize ((w.alloc (.cells #[.slice a0 n c0] 22)).alloc (.cells #[.slice a1 la c1] 24)).alloc (.cells #[.slice a2 lb c2] 24) = W1 at *
  go_wp2_with fail
  refine Calls.mono (HA.out _) ?_
  rintro e W2 ⟨rfl, hA⟩
  have q1 := r13.below hA r13.lt
  have q2 := r23.below hA r23.lt
  have q3 := r3.below hA r3.lt
  have hb4 := hb3.trans (hA.mono hb3.size)
  have d1 := q1.cell (i := 0) rfl
  have d2 := q2.cell (i := 0) rfl
  have d3 := q3.cell (i := 0) rfl
  clear r13 r23 r3 hb3 hA HA q1 q2 q3
  go_wp2_with fail
  refine Calls.mono (HP.out W2 hb4) ?_
  rintro e W3 ⟨rfl, hP⟩
  have HB := (show Hid (Below w.heap.size w (W3.alloc (.cells #[.int .i64 0, .int .i64 0, .int .i64 0] 26))) from (hb4.trans (hP.mono hb4.size)).alloc (hb4.trans (hP.mono hb4.size)).size _)
  clear HP hb4 hP d1 d2 d3
  go_wp2
  go_ret
  exact ⟨rfl, HB.out⟩
end Go.Proofs.Ytpdemelchhkfaaa

/-
  A slice of numbers as an argument.
-/
namespace Go.Proofs.Ytpdemelchhkfaaa
open Go.RowKit PK Go.ChangeShapes Go.WideShapes Go.ChangeAt

theorem y_own : ownKnob Try.prog.godebug = none := by kernel_rfl
theorem y_laidOut : laidOutB Try.prog = true := by kernel_rfl
theorem y_cells_int : Try.prog.cellsOf 3 = 1 := by kernel_rfl
set_option maxRecDepth 100000 in
theorem open_nums {H : Type} {enc : TypeId × Value → H} {W : World} {base : Nat} {v : Value} {d : DataW H} {p : List MemPlace} (hval : Value.okWide Try.prog W .any base 22 v) (h : DataW.Trod enc Try.prog W 0 (fun _ => true) true 22 v d p) :
    ∃ n f, NumsAt W v n f := by
  obtain ⟨a0, len, cap, rfl⟩ := okWide_slice Try.underlying22 hval
  obtain ⟨fuel, hf⟩ := h
  rcases open_ints Try.underlying22 Try.underlying3 y_cells_int hf with ⟨hcs0, hx⟩ | ⟨a, len', cap', zs, hcs0, _, hl, hm, hzl, hx, hcell, _⟩
  · simp [Value.cells] at hcs0
    obtain ⟨rfl, rfl, rfl⟩ := hcs0
    exact ⟨0, fun _ => 0, none, 0, rfl, by decide, fun c hc => by omega⟩
  · simp [Value.cells] at hcs0
    obtain ⟨rfl, rfl, rfl⟩ := hcs0
    simp at hzl
    refine ⟨len, fun c => zs.getD c 0, some a, cap, rfl, by omega, fun c hc => ?_⟩
    have h0 := hcell c (by omega)
    have hsp := World.cell?_spot (hcell 0 (by omega))
    obtain ⟨bm, om, spot⟩ := a
    have hspot : spot = none := by simpa [Addr.add] using hsp
    subst hspot
    exact ⟨bm, om, rfl, by rw [← add_plain]; exact h0⟩
set_option maxRecDepth 100000 in
theorem open_nums2 {H : Type} {enc : TypeId × Value → H} {W : World} {base : Nat} {v : Value} {d : DataW H} {p : List MemPlace} (hval : Value.okWide Try.prog W .any base 22 v) (h : DataW.Trod enc Try.prog W 0 (fun _ => true) true 22 v d p) :
    ∃ n f, NumsAt W v n f ∧ (n = 0 ∨ ∃ el sp, d = .slice el sp ∧ n ≤ el.length + sp.length) := by
  obtain ⟨a0, len, cap, rfl⟩ := okWide_slice Try.underlying22 hval
  obtain ⟨fuel, hf⟩ := h
  rcases open_ints Try.underlying22 Try.underlying3 y_cells_int hf with ⟨hcs0, hx⟩ | ⟨a, len', cap', zs, hcs0, _, hl, hm, hzl, hx, hcell, _⟩
  · simp [Value.cells] at hcs0
    obtain ⟨rfl, rfl, rfl⟩ := hcs0
    exact ⟨0, fun _ => 0, ⟨none, 0, rfl, by decide, fun c hc => by omega⟩, .inl rfl⟩
  · simp [Value.cells] at hcs0
    obtain ⟨rfl, rfl, rfl⟩ := hcs0
    simp at hzl
    refine ⟨len, fun c => zs.getD c 0, ⟨some a, cap, rfl, by omega, fun c hc => ?_⟩, .inr ⟨_, _, (Prod.ext_iff.1 hx).1, ?_⟩⟩
    · have h0 := hcell c (by omega)
      have hsp := World.cell?_spot (hcell 0 (by omega))
      obtain ⟨bm, om, spot⟩ := a
      have hspot : spot = none := by simpa [Addr.add] using hsp
      subst hspot
      exact ⟨bm, om, rfl, by rw [← add_plain]; exact h0⟩
    · simp [lits]
      omega
set_option maxRecDepth 100000 in
theorem open_nums3 {H : Type} {enc : TypeId × Value → H} {W : World} {base : Nat} {v : Value} {d : DataW H} {p : List MemPlace} (hval : Value.okWide Try.prog W .any base 22 v) (h : DataW.Trod enc Try.prog W 0 (fun _ => true) true 22 v d p) :
    ∃ n f, NumsAt W v n f ∧ (n = 0 ∨ ∃ el sp, d = .slice el sp ∧ n ≤ el.length + sp.length) ∧ ∀ m c, v = .slice none m c → c = 0 := by
  obtain ⟨n, f, h1, h2⟩ := open_nums2 hval h
  refine ⟨n, f, h1, h2, fun m c e => ?_⟩
  subst e
  obtain ⟨fuel, hf⟩ := h
  rcases open_ints Try.underlying22 Try.underlying3 y_cells_int hf with ⟨hcs0, hx⟩ | ⟨a, len', cap', zs, hcs0, _⟩
  · simp [Value.cells] at hcs0
    exact hcs0.2
  · simp [Value.cells] at hcs0
theorem y_bytes_int : Try.prog.bytesOf 3 = 8 := by kernel_rfl
end Go.Proofs.Ytpdemelchhkfaaa

/-
  A machine of chapter 13 as an argument: opened.
-/
namespace Go.Proofs.Ytpdemelchhkfaaa
open Go.RowKit PK Tl Go.ChangeShapes Go.WideShapes Go.ChangeAt

theorem d_cells_int : Try.prog.cellsOf 3 = 1 := by kernel_rfl
theorem d_cells_bool : Try.prog.cellsOf 4 = 1 := by kernel_rfl
theorem d_cells_pins : Try.prog.cellsOf 24 = 1 := by kernel_rfl
section
variable {H : Type} {enc : TypeId × Value → H} {W : World}
set_option maxRecDepth 100000 in
theorem trod_pins {fuel : Nat} {l : List Value} {x : DataW H × List MemPlace} (h : DataW.trod enc Try.prog W 0 (fun _ => true) true fuel 24 l = some x) : ∃ v n p, l = [v] ∧ PinsAt W v n p := by
  rcases DataW.trod_slice Try.underlying24 h with ⟨e, _⟩ | ⟨a, len, cap, elems, rest, m, _, rfl, _, hb, hl, hm, hlen, hel, _⟩
  · exact ⟨_, 0, fun _ => false, e, none, 0, rfl, by decide, fun c hc => by omega⟩
  · rw [d_cells_bool] at hel
    have key : ∀ r, ∃ q : Bool, r < len → W.cells? 0 (a.add (r * 1)) 1 = some [.bool q] := fun r => by
      by_cases hr : r < len
      · have h1 := hel r hr
        rw [List.getElem?_eq_getElem (by omega)] at h1
        obtain ⟨cs, h2, h3⟩ := Option.bind_eq_some_iff.1 h1
        obtain ⟨b, e, _⟩ := DataW.trod_bool Try.underlying4 h3
        exact ⟨b, fun _ => by rw [h2, e]⟩
      · exact ⟨false, fun h => absurd h hr⟩
    obtain ⟨q, hq⟩ := Classical.axiomOfChoice key
    refine ⟨_, len, q, rfl, some a, cap, rfl, by omega, fun r hr => ?_⟩
    have h1 := (World.cells?_some (hq r hr)).2.2 0 (by omega)
    have h00 := (World.cells?_some (hq 0 (by omega))).2.2 0 (by omega)
    rw [Nat.zero_mul] at h00
    have hsp := World.cell?_spot h00
    obtain ⟨bm, om, spot⟩ := a
    have hspot : spot = none := by simpa [Addr.add] using hsp
    subst hspot
    refine ⟨bm, om, rfl, ?_⟩
    rw [Addr.add_mid, Addr.add_mid, Nat.mul_one] at h1
    exact h1
theorem piece {l : List Value} {o n : Nat} {c : Array Value} (h : (l.drop o).take n = c.toList) {j : Nat} (hj : j < n) : l[o + j]? = c[j]? := by
  have : ((l.drop o).take n)[j]? = c[j]? := by rw [h, Array.getElem?_toList]
  rw [← this, List.getElem?_take_of_lt hj, List.getElem?_drop]
/-- Eleven out of five, five and one. -/
def el {α : Type} (a b : Nat → α) (c : α) (k : Nat) : α := if k < 5 then a k else if k < 10 then b (k - 5) else c
end
end Go.Proofs.Ytpdemelchhkfaaa

/-
  TeleFinds: for every input (any text, any two wheels, any number of hands) and on whatever order of its goroutines' steps the statement's function returns true, without a data race, all goroutines only leaving; its arguments read as before. No condition.
-/
namespace Go.Proofs.Ytpdemelchhkfaaa
open Go.RowKit PK Tl Go.Conc Cs
open Go.ChangeShapes Go.WideShapes Go.ChangeAt
theorem rt_addT {W : World} {a : Addr} {v : Value} (h : W.cell? (a.add 0) = some v) : a.spot = none ∧ ∃ y T fr, W.heap[a.block]? = some (.cells y T fr) := by
  have e : a.add 0 = a := by unfold Addr.add; rw [if_pos rfl]
  rw [e] at h
  have hsp := World.cell?_spot h
  exact ⟨hsp, cell_someT h⟩
set_option maxRecDepth 100000 in
theorem open_nums_r {H : Type} {enc : TypeId × Value → H} {W : World} {base : Nat} {v : Value} {d : DataW H} {p : List MemPlace} (hval : Value.okWide Try.prog W .any base 22 v) (h : DataW.Trod enc Try.prog W 0 (fun _ => true) true 22 v d p) :
    ∃ n f, NumsAt W v n f ∧ Rt W v := by
  obtain ⟨a0, len, cap, rfl⟩ := okWide_slice Try.underlying22 hval
  obtain ⟨fuel, hf⟩ := h
  rcases open_ints Try.underlying22 Try.underlying3 y_cells_int hf with ⟨hcs0, hx⟩ | ⟨a, len', cap', zs, hcs0, _, hl, hm, hzl, hx, hcell, _⟩
  · simp [Value.cells] at hcs0
    obtain ⟨rfl, rfl, rfl⟩ := hcs0
    exact ⟨0, fun _ => 0, ⟨none, 0, rfl, by decide, fun c hc => by omega⟩, fun _ _ _ e => by cases e⟩
  · simp [Value.cells] at hcs0
    obtain ⟨rfl, rfl, rfl⟩ := hcs0
    simp at hzl
    refine ⟨len, fun c => zs.getD c 0, ⟨some a, cap, rfl, by omega, fun c hc => ?_⟩, fun a' l' c' e hp => by cases e; exact rt_addT (hcell 0 (by omega))⟩
    have h0 := hcell c (by omega)
    have hsp := World.cell?_spot (hcell 0 (by omega))
    obtain ⟨bm, om, spot⟩ := a
    have hspot : spot = none := by simpa [Addr.add] using hsp
    subst hspot
    exact ⟨bm, om, rfl, by rw [← add_plain]; exact h0⟩
set_option maxRecDepth 100000 in
theorem open_pins {H : Type} {enc : TypeId × Value → H} {W : World} {base : Nat} {v : Value} {d : DataW H} {p : List MemPlace} (hval : Value.okWide Try.prog W .any base 24 v) (h : DataW.Trod enc Try.prog W 0 (fun _ => true) true 24 v d p) :
    ∃ n f, PinsAt W v n f := by
  obtain ⟨a0, len, cap, rfl⟩ := okWide_slice Try.underlying24 hval
  obtain ⟨fuel, hf⟩ := h
  obtain ⟨v, n, p, hl, hp⟩ := trod_pins hf
  simp [Value.cells] at hl
  subst hl
  exact ⟨n, p, hp⟩
theorem kept_below {W W' : World} (h : Kept W W') : Below W.heap.size W { W' with tape := W.tape } := by
  refine ⟨h.2.1, rfl, h.2.2, ?_, h.1⟩
  show W.heap.size ≤ W'.heap.size
  by_cases h0 : W.heap.size = 0
  · omega
  · have h1 := h.1 (W.heap.size - 1) (by omega)
    have h2 : (W'.heap[W.heap.size - 1]?).isSome = true := by rw [h1]; simp; omega
    have h3 : W.heap.size - 1 < W'.heap.size := by simpa using h2
    omega
theorem kept_frame {W W' : World} (h : Kept W W') (may : MemPlace → Prop) : W.keptBut W' may := by
  refine ⟨h.2.1, h.2.2, fun i hi => ?_⟩
  rw [h.1 i hi]
  split <;> simp_all
theorem below_kept {W W' : World} (h : Below W.heap.size W W') : Kept W W' := ⟨h.block, h.os, h.output⟩
theorem faE_nat {n : Nat} {f : Nat → Int} (h : faE n f = 0) : n ≤ 65536 ∧ ∀ i, i < n → 0 ≤ f i ∧ f i < 32 := by
  obtain ⟨h1, h2⟩ := faE_zero h
  exact ⟨h1, fun i hi => by have := h2 i hi; omega⟩
set_option maxHeartbeats 1000000 in
set_option maxRecDepth 100000 in
theorem lifted_finds (os : Os) (started : os.Started) (H : Type) (enc : TypeId × Value → H) :
    ReturnsInLeavingWide {} Try.checked os 3 .any (Rows.teleFindsSpec.pre6 enc Try.prog Try.f3 Rows.teleFindsRow.domain false) (Rows.teleFindsSpec.post enc Try.prog Try.f3 false true false false) := by
  refine returnsInLeavingWide_of_change_sized (C := Try.checked) y_own started Try.func3
    (ChangeSpec.witness6 (enc := enc) (C := Try.checked) false ⟨#[], #[.slice none 0 0, .slice none 0 0, .slice none 0 0, .int .i64 0], []⟩ 8 (by kernel_rfl) (by kernel_rfl) (by kernel_rfl) (by kernel_rfl)) ?_
  intro W base args ds gs before hval0 hW hcnd hsz0 _
  have hval : ∀ (j : Nat) t v, Try.f3.params[j]? = some t → args[j]? = some v → Value.okWide Try.prog W .any base t v := hval0
  have hW' := hW
  obtain ⟨p, q, hA0, hV, rfl, hfz, hnd⟩ := hW
  have hA : DataW.TrodAll enc Try.prog W 0 (fun _ => true) true Try.f3.params.toList args.toList ds p := hA0
  rw [Try.params3] at hA hval
  obtain ⟨v0, vs0, d0, ds0, p0, q0, hargs, rfl, rfl, h0, r0⟩ := trodAll_cons hA
  obtain ⟨v1, vs1, d1, ds1, p1, q1, rfl, rfl, rfl, h1, r1⟩ := trodAll_cons r0
  obtain ⟨v2, vs2, d2, ds2, p2, q2, rfl, rfl, rfl, h2, r2⟩ := trodAll_cons r1
  obtain ⟨v3, vs3, d3, ds3, p3, q3, rfl, rfl, rfl, h3, r3⟩ := trodAll_cons r2
  obtain ⟨rfl, rfl, rfl⟩ := trodAll_nil r3
  obtain rfl : args = #[v0, v1, v2, v3] := by cases args; simp_all
  obtain ⟨rfl, rfl⟩ := trodVars_none hV
  obtain ⟨n, f, m0, rt0⟩ := open_nums_r (hval 0 22 v0 rfl rfl) h0
  obtain ⟨la, fp, m1⟩ := open_pins (hval 1 24 v1 rfl rfl) h1
  obtain ⟨lb, fq, m2⟩ := open_pins (hval 2 24 v2 rfl rfl) h2
  obtain ⟨a3, rfl, rfl, rfl, w3⟩ := open_int Try.underlying3 (hval 3 3 v3 rfl rfl) h3
  clear hA0 hval0 hsz0
  have post : ∀ W', Kept W W' → Rows.teleFindsSpec.post enc Try.checked.prog Try.f3 false true false false W #[v0, v1, v2, .int .i64 a3] (.bool true) W' := fun W' hk => by
    have bel := kept_below hk
    have t0 := DataW.Trod.of_heap (w' := W') (by rfl) (Below.trod y_laidOut (by kernel_rfl) (of_decide_eq_true (by kernel_rfl)) h0 bel (fun x hx => hW'.lt x (by simp [hx])))
    have t1 := DataW.Trod.of_heap (w' := W') (by rfl) (Below.trod y_laidOut (by kernel_rfl) (of_decide_eq_true (by kernel_rfl)) h1 bel (fun x hx => hW'.lt x (by simp [hx])))
    have t2 := DataW.Trod.of_heap (w' := W') (by rfl) (Below.trod y_laidOut (by kernel_rfl) (of_decide_eq_true (by kernel_rfl)) h2 bel (fun x hx => hW'.lt x (by simp [hx])))
    exact ⟨_, _, _, [], _, [], hW', trodAll_mk1 (shut_bool Try.underlying4 _), (trodAll_cons_mk t0 (trodAll_cons_mk t1 (trodAll_cons_mk t2 (trodAll_cons_mk (shut_int Try.underlying3 w3) trodAll_mk0)))), rfl, kept_frame hk _, fun h => by cases h⟩
  by_cases hE : beE n f la lb a3 = 0
  · have hfa : faE n f = 0 := by
      refine Classical.byContradiction fun hc => ?_
      unfold beE at hE
      rw [if_pos hc] at hE
      exact hc hE
    have hsr : srE la lb a3 = 0 := by
      unfold beE at hE
      rwa [if_neg (by rw [hfa]; simp)] at hE
    obtain ⟨ha, hb, g1, g2⟩ := srE_zero hsr
    obtain ⟨hn, hf⟩ := faE_nat hfa
    obtain ⟨k, rfl⟩ : ∃ k : Nat, a3 = (k : Int) := ⟨a3.toNat, by omega⟩
    have m0' : NumsAt W v0 n (fun i => (((f i).toNat : Nat) : Int)) := by
      obtain ⟨a, cap, e1, e2, e3⟩ := m0
      refine ⟨a, cap, e1, e2, fun c hc => ?_⟩
      obtain ⟨b, o, e4, e5⟩ := e3 c hc
      exact ⟨b, o, e4, by show W.cell? _ = some (.int .i64 (((f c).toNat : Nat) : Int)); rw [Int.toNat_of_nonneg (hf c hc).1]; exact e5⟩
    obtain ⟨M, last, o, w', t', e1, e2, e3, e4⟩ := finds_run v0 v1 v2 n la lb k (fun i => (f i).toNat) fp fq hn (fun i hi => by have := hf i hi; omega) ha hb ⟨by omega, by omega⟩ W m0' m1 m2 rt0
    exact ⟨M, last, o, w', t', e1, e2, e3, e4.mono fun v hv => by obtain ⟨rfl, hk⟩ := hv; exact post _ hk⟩
  · exact lone_good ((finds_bad v0 v1 v2 n la lb a3 f fp fq hE W m0 m1 m2).mono fun e w' ⟨h5, h6⟩ => ⟨_, h5, post w' (below_kept h6)⟩) (by kernel_rfl)

theorem teleFinds_holds : Rows.TeleFindsSaid :=
  OpenClaim.holds_of_wide_leaving 3 Try.f3 rfl rfl rfl rfl rfl rfl rfl ⟨rfl, rfl, rfl, rfl, rfl⟩ rfl rfl rfl rfl rfl (by kernel_rfl) Try.func3 (by kernel_rfl)
    (of_decide_eq_true (by kernel_rfl)) (by unfold Func.isWrapper; first | (rw [if_pos (by decide +kernel)]; kernel_rfl) | (rw [if_neg (by decide +kernel)]; exact ⟨rfl, rfl⟩))
    (fun os started H enc _ => lifted_finds os started H enc)
#print axioms teleFinds_holds
end Go.Proofs.Ytpdemelchhkfaaa
