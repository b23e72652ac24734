/-
  Several texts, joined: OOpen, YOpen, OOpS.
-/
import Derived.Test.YthfjkhmedpilnaaJn20
import Derived.Test.YthfjkhmedpilnaaChecked
import Derived.Deep.Matrix
import Derived.ProofKit
import Derived.OpenShut
import Derived.ShutString
import Derived.ChangeOld
import Derived.Carry
import Derived.ChangeSlices
import Derived.Test.YthfjkhmedpilnaaJn16
import Derived.Test.YthfjkhmedpilnaaRows
import Derived.SizedLaws
/-
  A machine as an argument: opened.
-/
namespace Go.Proofs.Ythfjkhmedpilnaa
open Go.RowKit PK Go.ChangeShapes Go.WideShapes Go.ChangeAt

theorem o_cells_int : Try.prog.cellsOf 3 = 1 := by kernel_rfl
theorem o_cells_perm : Try.prog.cellsOf 25 = 26 := by kernel_rfl
theorem o_cells_ints : Try.prog.cellsOf 23 = 1 := by kernel_rfl
theorem o_cells_wheel : Try.prog.cellsOf 62 = 27 := by kernel_rfl
theorem o_cells_wheels : Try.prog.cellsOf 22 = 1 := by kernel_rfl
theorem o_cells_mac : Try.prog.cellsOf 27 = 55 := by kernel_rfl
section
variable {H : Type} {enc : TypeId × Value → H} {W : World}
set_option maxRecDepth 100000 in
theorem trod_nums {fuel : Nat} {l : List Value} {x : DataW H × List MemPlace} (h : DataW.trod enc Try.prog W 0 (fun _ => true) true fuel 23 l = some x) : ∃ v n f, l = [v] ∧ NumsAt W v n f := by
  rcases open_ints Try.underlying23 Try.underlying3 o_cells_int h with ⟨hcs0, _⟩ | ⟨a, len, cap, zs, hcs0, _, hl, hm, hzl, _, hcell, _⟩
  · exact ⟨_, 0, fun _ => 0, hcs0, none, 0, rfl, by decide, fun c hc => by omega⟩
  · simp at hzl
    refine ⟨_, len, fun c => zs.getD c 0, hcs0, some a, cap, rfl, by omega, fun c hc => ?_⟩
    have h0 := hcell c (by omega)
    have hsp := World.cell?_spot (hcell 0 (by omega))
    obtain ⟨bm, om, spot⟩ := a
    have hspot : spot = none := by simpa [Addr.add] using hsp
    subst hspot
    exact ⟨bm, om, rfl, by rw [← add_plain]; exact h0⟩
set_option maxRecDepth 100000 in
theorem trod_perm {fuel : Nat} {l : List Value} {x : DataW H × List MemPlace} (h : DataW.trod enc Try.prog W 0 (fun _ => true) true fuel 25 l = some x) : ∃ f, l = (ints 26 f).toList := by
  obtain ⟨xs, m, _, _, hl, hxl, hi⟩ := DataW.trod_array Try.underlying25 h
  rw [o_cells_perm] at hl
  rw [o_cells_int] at hi
  have key : ∀ i, i < 26 → ∃ n : Int, l[i]? = some (.int .i64 n) := fun i h26 => by
    have h1 := hi i h26
    have h2 : xs[i]? = some (xs[i]'(by omega)) := List.getElem?_eq_getElem _
    rw [h2] at h1
    obtain ⟨n, e, _, _⟩ := DataW.trod_int Try.underlying3 h1
    refine ⟨n, ?_⟩
    have h3 : i < l.length := by omega
    have h4 : ((l.drop (i * 1)).take 1) = [l[i]'h3] := by
      rw [Nat.mul_one, List.drop_eq_getElem_cons h3]
      rfl
    rw [h4] at e
    simp at e
    rw [List.getElem?_eq_getElem h3, e]
  refine ⟨fun i => match l[i]? with | some (.int _ n) => n | _ => 0, ?_⟩
  apply List.ext_getElem?
  intro i
  have ex : ∀ f, (ints 26 f).toList[i]? = (ints 26 f)[i]? := fun f => Array.getElem?_toList
  rw [ex]
  by_cases h26 : i < 26
  · obtain ⟨n, hn⟩ := key i h26
    rw [ints_get _ h26, hn]
  · have e1 : l[i]? = none := List.getElem?_eq_none (by omega)
    rw [e1, Array.getElem?_eq_none (by rw [ints_size]; omega)]
set_option maxRecDepth 100000 in
theorem trod_wheel {fuel : Nat} {l : List Value} {x : DataW H × List MemPlace} (h : DataW.trod enc Try.prog W 0 (fun _ => true) true fuel 62 l = some x) : ∃ f v n k, l = (whl f v).toList ∧ NumsAt W v n k := by
  obtain ⟨xs, m, _, _, hl, hxl, hi⟩ := DataW.trod_struct Try.underlying62 h
  rw [o_cells_wheel] at hl
  have hxl2 : xs.length = 2 := hxl
  have h0 := hi 0 _ rfl
  have h1 := hi 1 _ rfl
  rw [List.getElem?_eq_getElem (by omega)] at h0 h1
  obtain ⟨f, hf⟩ := trod_perm h0
  obtain ⟨v, n, k, hv, hk⟩ := trod_nums h1
  refine ⟨f, v, n, k, ?_, hk⟩
  have e1 : (l.drop 0).take 26 = (ints 26 f).toList := hf
  have e2 : (l.drop 26).take 1 = [v] := hv
  have e3 : l = (l.take 26) ++ ((l.drop 26).take 1) := by
    rw [List.take_of_length_le (l := l.drop 26) (by simp; omega), List.take_append_drop]
  rw [e3, e2, show l.take 26 = (ints 26 f).toList from e1]
  simp [whl]
set_option maxRecDepth 100000 in
theorem trod_wheels {fuel : Nat} {l : List Value} {x : DataW H × List MemPlace} (h : DataW.trod enc Try.prog W 0 (fun _ => true) true fuel 22 l = some x) : ∃ v n wi nl no, l = [v] ∧ WheelsAt W v n wi nl no := by
  rcases DataW.trod_slice Try.underlying22 h with ⟨e, _⟩ | ⟨a, len, cap, elems, rest, m, _, rfl, _, hb, hl, hm, hlen, hel, _⟩
  · exact ⟨_, 0, fun _ _ => 0, fun _ => 0, fun _ _ => 0, e, none, 0, fun _ => .slice none 0 0, rfl, by decide, fun r hr => by omega, fun r hr => by omega⟩
  · rw [o_cells_wheel] at hel
    have key : ∀ r, ∃ q : (Nat → Int) × Value × Nat × (Nat → Int), r < len → W.cells? 0 (a.add (r * 27)) 27 = some (whl q.1 q.2.1).toList ∧ NumsAt W q.2.1 q.2.2.1 q.2.2.2 := fun r => by
      by_cases hr : r < len
      · have h1 := hel r hr
        rw [List.getElem?_eq_getElem (by omega)] at h1
        obtain ⟨cs, h2, h3⟩ := Option.bind_eq_some_iff.1 h1
        obtain ⟨f, v, n, k, e, hk⟩ := trod_wheel h3
        exact ⟨(f, v, n, k), fun _ => ⟨by rw [h2, e], hk⟩⟩
      · exact ⟨(fun _ => 0, .slice none 0 0, 0, fun _ => 0), fun h => absurd h hr⟩
    obtain ⟨q, hq⟩ := Classical.axiomOfChoice key
    refine ⟨_, len, fun r => (q r).1, fun r => (q r).2.2.1, fun r => (q r).2.2.2, rfl, some a, cap, fun r => (q r).2.1, rfl, by omega, fun r hr => ?_, fun r hr => (hq r hr).2⟩
    have h1 := (World.cells?_some (hq r hr).1).2.2
    have h00 := (World.cells?_some (hq 0 (by omega)).1).2.2 0 (by omega)
    rw [Array.getElem?_toList, whl_get _ _ (by decide), Nat.zero_mul] at h00
    have hsp := World.cell?_spot h00
    obtain ⟨bm, om, spot⟩ := a
    have hspot : spot = none := by simpa [Addr.add] using hsp
    subst hspot
    refine ⟨bm, om, rfl, fun j v hv => ?_⟩
    have hj : j < 27 := by
      have := (List.getElem?_eq_some_iff.1 hv).1
      rw [Array.length_toList, whl_size] at this
      exact this
    have h2 := h1 j hj
    rw [hv, Addr.add_mid, Addr.add_mid] at h2
    exact h2
set_option maxHeartbeats 2000000 in
set_option maxRecDepth 100000 in
theorem open_machine {base : Nat} {v : Value} {d : DataW H} {ps : List MemPlace} (hval : Value.okWide Try.prog W .any base 27 v) (h : DataW.Trod enc Try.prog W 0 (fun _ => true) true 27 v d ps) : ∃ g, MacAt W v g := by
  obtain ⟨cs, rfl, hsz, _⟩ : ∃ cs, v = .agg cs ∧ cs.size = Try.prog.cellsOf 27 ∧ Row.okWide Try.prog W .any base 27 cs := by
    unfold Value.okWide at hval
    rw [Try.underlying27] at hval
    exact hval
  rw [o_cells_mac] at hsz
  obtain ⟨fuel, hf⟩ := h
  have hcs : (Value.agg cs).cells.toList = cs.toList := rfl
  rw [hcs] at hf
  obtain ⟨xs, m, _, _, hl, hxl, hi⟩ := DataW.trod_struct Try.underlying27 hf
  have hxl2 : xs.length = 5 := hxl
  have h0 := hi 0 _ rfl
  have h1 := hi 1 _ rfl
  have h2 := hi 2 _ rfl
  have h3 := hi 3 _ rfl
  have h4 := hi 4 _ rfl
  rw [List.getElem?_eq_getElem (by omega)] at h0 h1 h2 h3 h4
  obtain ⟨v0, n, wi, nl, no, e0, k0⟩ := trod_wheels h0
  obtain ⟨v1, rl, ri, e1, k1⟩ := trod_nums h1
  obtain ⟨v2, sl, st, e2, k2⟩ := trod_nums h2
  obtain ⟨rf, e3⟩ := trod_perm h3
  obtain ⟨pl, e4⟩ := trod_perm h4
  refine ⟨⟨n, wi, nl, no, rl, ri, sl, st, rf, pl⟩, v0, v1, v2, ?_, k0, k1, k2⟩
  have e0' : (cs.toList.drop 0).take 1 = [v0] := e0
  have e1' : (cs.toList.drop 1).take 1 = [v1] := e1
  have e2' : (cs.toList.drop 2).take 1 = [v2] := e2
  have e3' : (cs.toList.drop 3).take 26 = (ints 26 rf).toList := e3
  have e4' : (cs.toList.drop 29).take 26 = (ints 26 pl).toList := e4
  have hlen : cs.toList.length = 55 := by simpa using hsz
  have key : cs.toList = [v0] ++ ([v1] ++ ([v2] ++ ((ints 26 rf).toList ++ (ints 26 pl).toList))) := by
    rw [← e0', ← e1', ← e2', ← e3', ← e4']
    generalize cs.toList = l at hlen
    have q4 : (l.drop 29).take 26 = l.drop 29 := List.take_of_length_le (by simp; omega)
    have q3 : (l.drop 3).take 26 ++ l.drop 29 = l.drop 3 := by
      have := List.take_append_drop 26 (l.drop 3)
      rw [List.drop_drop] at this
      exact this
    have q2 : (l.drop 2).take 1 ++ l.drop 3 = l.drop 2 := by
      have := List.take_append_drop 1 (l.drop 2)
      rw [List.drop_drop] at this
      exact this
    have q1 : (l.drop 1).take 1 ++ l.drop 2 = l.drop 1 := by
      have := List.take_append_drop 1 (l.drop 1)
      rw [List.drop_drop] at this
      exact this
    have q0 : (l.drop 0).take 1 ++ l.drop 1 = l := by
      rw [List.drop_zero]
      exact List.take_append_drop 1 l
    rw [q4, q3, q2, q1, q0]
  have e : cs = mac v0 v1 v2 rf pl := by
    refine Array.toList_inj.1 (key.trans ?_)
    unfold mac
    rw [Array.toList_append, Array.toList_append]
    rfl
  rw [e]
end
end Go.Proofs.Ythfjkhmedpilnaa

/-
  A slice of numbers as an argument.
-/
namespace Go.Proofs.Ythfjkhmedpilnaa
open Go.RowKit PK Go.ChangeShapes Go.WideShapes Go.ChangeAt

theorem y_own : ownKnob Try.prog.godebug = none := by kernel_rfl
theorem y_laidOut : laidOutB Try.prog = true := by kernel_rfl
theorem y_cells_int : Try.prog.cellsOf 3 = 1 := by kernel_rfl
set_option maxRecDepth 100000 in
theorem open_nums {H : Type} {enc : TypeId × Value → H} {W : World} {base : Nat} {v : Value} {d : DataW H} {p : List MemPlace} (hval : Value.okWide Try.prog W .any base 23 v) (h : DataW.Trod enc Try.prog W 0 (fun _ => true) true 23 v d p) :
    ∃ n f, NumsAt W v n f := by
  obtain ⟨a0, len, cap, rfl⟩ := okWide_slice Try.underlying23 hval
  obtain ⟨fuel, hf⟩ := h
  rcases open_ints Try.underlying23 Try.underlying3 y_cells_int hf with ⟨hcs0, hx⟩ | ⟨a, len', cap', zs, hcs0, _, hl, hm, hzl, hx, hcell, _⟩
  · simp [Value.cells] at hcs0
    obtain ⟨rfl, rfl, rfl⟩ := hcs0
    exact ⟨0, fun _ => 0, none, 0, rfl, by decide, fun c hc => by omega⟩
  · simp [Value.cells] at hcs0
    obtain ⟨rfl, rfl, rfl⟩ := hcs0
    simp at hzl
    refine ⟨len, fun c => zs.getD c 0, some a, cap, rfl, by omega, fun c hc => ?_⟩
    have h0 := hcell c (by omega)
    have hsp := World.cell?_spot (hcell 0 (by omega))
    obtain ⟨bm, om, spot⟩ := a
    have hspot : spot = none := by simpa [Addr.add] using hsp
    subst hspot
    exact ⟨bm, om, rfl, by rw [← add_plain]; exact h0⟩
set_option maxRecDepth 100000 in
theorem open_nums2 {H : Type} {enc : TypeId × Value → H} {W : World} {base : Nat} {v : Value} {d : DataW H} {p : List MemPlace} (hval : Value.okWide Try.prog W .any base 23 v) (h : DataW.Trod enc Try.prog W 0 (fun _ => true) true 23 v d p) :
    ∃ n f, NumsAt W v n f ∧ (n = 0 ∨ ∃ el sp, d = .slice el sp ∧ n ≤ el.length + sp.length) := by
  obtain ⟨a0, len, cap, rfl⟩ := okWide_slice Try.underlying23 hval
  obtain ⟨fuel, hf⟩ := h
  rcases open_ints Try.underlying23 Try.underlying3 y_cells_int hf with ⟨hcs0, hx⟩ | ⟨a, len', cap', zs, hcs0, _, hl, hm, hzl, hx, hcell, _⟩
  · simp [Value.cells] at hcs0
    obtain ⟨rfl, rfl, rfl⟩ := hcs0
    exact ⟨0, fun _ => 0, ⟨none, 0, rfl, by decide, fun c hc => by omega⟩, .inl rfl⟩
  · simp [Value.cells] at hcs0
    obtain ⟨rfl, rfl, rfl⟩ := hcs0
    simp at hzl
    refine ⟨len, fun c => zs.getD c 0, ⟨some a, cap, rfl, by omega, fun c hc => ?_⟩, .inr ⟨_, _, (Prod.ext_iff.1 hx).1, ?_⟩⟩
    · have h0 := hcell c (by omega)
      have hsp := World.cell?_spot (hcell 0 (by omega))
      obtain ⟨bm, om, spot⟩ := a
      have hspot : spot = none := by simpa [Addr.add] using hsp
      subst hspot
      exact ⟨bm, om, rfl, by rw [← add_plain]; exact h0⟩
    · simp [lits]
      omega
set_option maxRecDepth 100000 in
theorem open_nums3 {H : Type} {enc : TypeId × Value → H} {W : World} {base : Nat} {v : Value} {d : DataW H} {p : List MemPlace} (hval : Value.okWide Try.prog W .any base 23 v) (h : DataW.Trod enc Try.prog W 0 (fun _ => true) true 23 v d p) :
    ∃ n f, NumsAt W v n f ∧ (n = 0 ∨ ∃ el sp, d = .slice el sp ∧ n ≤ el.length + sp.length) ∧ ∀ m c, v = .slice none m c → c = 0 := by
  obtain ⟨n, f, h1, h2⟩ := open_nums2 hval h
  refine ⟨n, f, h1, h2, fun m c e => ?_⟩
  subst e
  obtain ⟨fuel, hf⟩ := h
  rcases open_ints Try.underlying23 Try.underlying3 y_cells_int hf with ⟨hcs0, hx⟩ | ⟨a, len', cap', zs, hcs0, _⟩
  · simp [Value.cells] at hcs0
    exact hcs0.2
  · simp [Value.cells] at hcs0
theorem y_bytes_int : Try.prog.bytesOf 3 = 8 := by kernel_rfl
end Go.Proofs.Ythfjkhmedpilnaa

/-
  A machine as an argument: opened, with how much room its wheels' notches take.
-/
namespace Go.Proofs.Ythfjkhmedpilnaa
open Go.RowKit PK Go.ChangeShapes Go.WideShapes Go.ChangeAt

/-- So many numbers are told among the sizes of what came in. -/
def Fit {H : Type} (T : TypeId) (d : DataW H) (n : Nat) : Prop := n = 0 ∨ ∃ k, k ∈ d.weights Try.prog T ∧ n * 8 ≤ k
theorem weights_mem_all {H : Type} {P : Program} {e : TypeId} : ∀ {l : List (DataW H)} {d : DataW H}, d ∈ l → ∀ k ∈ d.weights P e, k ∈ DataW.weightsAll P e l
  | x :: l, d, h, k, hk => by
    simp only [DataW.weightsAll, List.mem_append]
    rcases List.mem_cons.1 h with rfl | h
    · exact .inl hk
    · exact .inr (weights_mem_all h k hk)
theorem s_bytes_int : Try.prog.bytesOf 3 = 8 := by kernel_rfl
section
variable {H : Type} {enc : TypeId × Value → H} {W : World}
set_option maxRecDepth 100000 in
theorem trod_nums_s {fuel : Nat} {l : List Value} {x : DataW H × List MemPlace} (h : DataW.trod enc Try.prog W 0 (fun _ => true) true fuel 23 l = some x) : ∃ v n f, l = [v] ∧ NumsAt W v n f ∧ Fit 23 x.1 n := by
  rcases open_ints Try.underlying23 Try.underlying3 o_cells_int h with ⟨hcs0, _⟩ | ⟨a, len, cap, zs, hcs0, _, hl, hm, hzl, hx, hcell, _⟩
  · exact ⟨_, 0, fun _ => 0, hcs0, ⟨none, 0, rfl, by decide, fun c hc => by omega⟩, .inl rfl⟩
  · simp at hzl
    refine ⟨_, len, fun c => zs.getD c 0, hcs0, ⟨some a, cap, rfl, by omega, fun c hc => ?_⟩, ?_⟩
    · have h0 := hcell c (by omega)
      have hsp := World.cell?_spot (hcell 0 (by omega))
      obtain ⟨bm, om, spot⟩ := a
      have hspot : spot = none := by simpa [Addr.add] using hsp
      subst hspot
      exact ⟨bm, om, rfl, by rw [← add_plain]; exact h0⟩
    · have e := (Prod.ext_iff.1 hx).1
      rw [e]
      refine .inr ⟨_, by simp only [DataW.weights, Try.underlying23]; exact List.mem_cons_self .., ?_⟩
      rw [s_bytes_int]
      refine Nat.mul_le_mul_right _ ?_
      simp [lits]
      omega
set_option maxRecDepth 100000 in
theorem trod_wheel_s {fuel : Nat} {l : List Value} {x : DataW H × List MemPlace} (h : DataW.trod enc Try.prog W 0 (fun _ => true) true fuel 62 l = some x) : ∃ f v n k, l = (whl f v).toList ∧ NumsAt W v n k ∧ Fit 62 x.1 n := by
  obtain ⟨xs, m, _, hx, hl, hxl, hi⟩ := DataW.trod_struct Try.underlying62 h
  rw [o_cells_wheel] at hl
  have hxl2 : xs.length = 2 := hxl
  have h0 := hi 0 _ rfl
  have h1 := hi 1 _ rfl
  rw [List.getElem?_eq_getElem (by omega)] at h0 h1
  obtain ⟨f, hf⟩ := trod_perm h0
  obtain ⟨v, n, k, hv, hk, hn⟩ := trod_nums_s h1
  refine ⟨f, v, n, k, ?_, hk, ?_⟩
  · have e1 : (l.drop 0).take 26 = (ints 26 f).toList := hf
    have e2 : (l.drop 26).take 1 = [v] := hv
    have e3 : l = (l.take 26) ++ ((l.drop 26).take 1) := by
      rw [List.take_of_length_le (l := l.drop 26) (by simp; omega), List.take_append_drop]
    rw [e3, e2, show l.take 26 = (ints 26 f).toList from e1]
    simp [whl]
  · rw [hx]
    rcases hn with hn | ⟨z, hz, hle⟩
    · exact .inl hn
    · refine .inr ⟨z, ?_, hle⟩
      simp only [DataW.weights, Try.underlying62]
      exact DataW.weights_mem_each (j := 1) (t := 23) rfl (by rw [List.getElem?_map, List.getElem?_eq_getElem (by omega)]; rfl) z hz
set_option maxRecDepth 100000 in
theorem trod_wheels_s {fuel : Nat} {l : List Value} {x : DataW H × List MemPlace} (h : DataW.trod enc Try.prog W 0 (fun _ => true) true fuel 22 l = some x) : ∃ v n wi nl no, l = [v] ∧ WheelsAt W v n wi nl no ∧ ∀ r, r < n → Fit 22 x.1 (nl r) := by
  rcases DataW.trod_slice Try.underlying22 h with ⟨e, _⟩ | ⟨a, len, cap, elems, rest, m, _, rfl, hx, hb, hl, hm, hlen, hel, _⟩
  · exact ⟨_, 0, fun _ _ => 0, fun _ => 0, fun _ _ => 0, e, ⟨none, 0, fun _ => .slice none 0 0, rfl, by decide, fun r hr => by omega, fun r hr => by omega⟩, fun r hr => by omega⟩
  · rw [o_cells_wheel] at hel
    have key : ∀ r, ∃ q : (Nat → Int) × Value × Nat × (Nat → Int), r < len → W.cells? 0 (a.add (r * 27)) 27 = some (whl q.1 q.2.1).toList ∧ NumsAt W q.2.1 q.2.2.1 q.2.2.2 ∧ Fit 22 x.1 q.2.2.1 := fun r => by
      by_cases hr : r < len
      · have h1 := hel r hr
        rw [List.getElem?_eq_getElem (by omega)] at h1
        obtain ⟨cs, h2, h3⟩ := Option.bind_eq_some_iff.1 h1
        obtain ⟨f, v, n, k, e, hk, hn⟩ := trod_wheel_s h3
        refine ⟨(f, v, n, k), fun _ => ⟨by rw [h2, e], hk, ?_⟩⟩
        rw [hx]
        rcases hn with hn | ⟨z, hz, hle⟩
        · exact .inl hn
        · refine .inr ⟨z, ?_, hle⟩
          simp only [DataW.weights, Try.underlying22]
          exact List.mem_cons_of_mem _ (List.mem_append.2 (.inl (weights_mem_all (List.mem_map.2 ⟨_, List.getElem_mem _, rfl⟩) z hz)))
      · exact ⟨(fun _ => 0, .slice none 0 0, 0, fun _ => 0), fun h => absurd h hr⟩
    obtain ⟨q, hq⟩ := Classical.axiomOfChoice key
    refine ⟨_, len, fun r => (q r).1, fun r => (q r).2.2.1, fun r => (q r).2.2.2, rfl, ⟨some a, cap, fun r => (q r).2.1, rfl, by omega, fun r hr => ?_, fun r hr => (hq r hr).2.1⟩, fun r hr => (hq r hr).2.2⟩
    have h1 := (World.cells?_some (hq r hr).1).2.2
    have h00 := (World.cells?_some (hq 0 (by omega)).1).2.2 0 (by omega)
    rw [Array.getElem?_toList, whl_get _ _ (by decide), Nat.zero_mul] at h00
    have hsp := World.cell?_spot h00
    obtain ⟨bm, om, spot⟩ := a
    have hspot : spot = none := by simpa [Addr.add] using hsp
    subst hspot
    refine ⟨bm, om, rfl, fun j v hv => ?_⟩
    have hj : j < 27 := by
      have := (List.getElem?_eq_some_iff.1 hv).1
      rw [Array.length_toList, whl_size] at this
      exact this
    have h2 := h1 j hj
    rw [hv, Addr.add_mid, Addr.add_mid] at h2
    exact h2
set_option maxHeartbeats 2000000 in
set_option maxRecDepth 100000 in
theorem open_machine_s {base : Nat} {v : Value} {d : DataW H} {ps : List MemPlace} (hval : Value.okWide Try.prog W .any base 27 v) (h : DataW.Trod enc Try.prog W 0 (fun _ => true) true 27 v d ps) : ∃ g, MacAt W v g ∧ ∀ r, r < g.n → Fit 27 d (g.nl r) := by
  obtain ⟨cs, rfl, hsz, _⟩ : ∃ cs, v = .agg cs ∧ cs.size = Try.prog.cellsOf 27 ∧ Row.okWide Try.prog W .any base 27 cs := by
    unfold Value.okWide at hval
    rw [Try.underlying27] at hval
    exact hval
  rw [o_cells_mac] at hsz
  obtain ⟨fuel, hf⟩ := h
  have hcs : (Value.agg cs).cells.toList = cs.toList := rfl
  rw [hcs] at hf
  obtain ⟨xs, m, _, hx, hl, hxl, hi⟩ := DataW.trod_struct Try.underlying27 hf
  have hxl2 : xs.length = 5 := hxl
  have h0 := hi 0 _ rfl
  have h1 := hi 1 _ rfl
  have h2 := hi 2 _ rfl
  have h3 := hi 3 _ rfl
  have h4 := hi 4 _ rfl
  rw [List.getElem?_eq_getElem (by omega)] at h0 h1 h2 h3 h4
  obtain ⟨v0, n, wi, nl, no, e0, k0, hb0⟩ := trod_wheels_s h0
  obtain ⟨v1, rl, ri, e1, k1⟩ := trod_nums h1
  obtain ⟨v2, sl, st, e2, k2⟩ := trod_nums h2
  obtain ⟨rf, e3⟩ := trod_perm h3
  obtain ⟨pl, e4⟩ := trod_perm h4
  have hbd : ∀ r, r < n → Fit 27 d (nl r) := fun r hr => by
    have e' : d = .agg (xs.map (·.1)) := (Prod.ext_iff.1 hx).1
    rw [e']
    rcases hb0 r hr with hn | ⟨z, hz, hle⟩
    · exact .inl hn
    · refine .inr ⟨z, ?_, hle⟩
      simp only [DataW.weights, Try.underlying27]
      exact DataW.weights_mem_each (j := 0) (t := 22) rfl (by rw [List.getElem?_map, List.getElem?_eq_getElem (by omega)]; rfl) z hz
  refine ⟨⟨n, wi, nl, no, rl, ri, sl, st, rf, pl⟩, ⟨v0, v1, v2, ?_, k0, k1, k2⟩, hbd⟩
  have e0' : (cs.toList.drop 0).take 1 = [v0] := e0
  have e1' : (cs.toList.drop 1).take 1 = [v1] := e1
  have e2' : (cs.toList.drop 2).take 1 = [v2] := e2
  have e3' : (cs.toList.drop 3).take 26 = (ints 26 rf).toList := e3
  have e4' : (cs.toList.drop 29).take 26 = (ints 26 pl).toList := e4
  have hlen : cs.toList.length = 55 := by simpa using hsz
  have key : cs.toList = [v0] ++ ([v1] ++ ([v2] ++ ((ints 26 rf).toList ++ (ints 26 pl).toList))) := by
    rw [← e0', ← e1', ← e2', ← e3', ← e4']
    generalize cs.toList = l at hlen
    have q4 : (l.drop 29).take 26 = l.drop 29 := List.take_of_length_le (by simp; omega)
    have q3 : (l.drop 3).take 26 ++ l.drop 29 = l.drop 3 := by
      have := List.take_append_drop 26 (l.drop 3)
      rw [List.drop_drop] at this
      exact this
    have q2 : (l.drop 2).take 1 ++ l.drop 3 = l.drop 2 := by
      have := List.take_append_drop 1 (l.drop 2)
      rw [List.drop_drop] at this
      exact this
    have q1 : (l.drop 1).take 1 ++ l.drop 2 = l.drop 1 := by
      have := List.take_append_drop 1 (l.drop 1)
      rw [List.drop_drop] at this
      exact this
    have q0 : (l.drop 0).take 1 ++ l.drop 1 = l := by
      rw [List.drop_zero]
      exact List.take_append_drop 1 l
    rw [q4, q3, q2, q1, q0]
  have e : cs = mac v0 v1 v2 rf pl := by
    refine Array.toList_inj.1 (key.trans ?_)
    unfold mac
    rw [Array.toList_append, Array.toList_append]
    rfl
  rw [e]
end
end Go.Proofs.Ythfjkhmedpilnaa
