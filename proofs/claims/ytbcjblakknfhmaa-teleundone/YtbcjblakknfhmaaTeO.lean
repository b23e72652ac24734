/-
  A machine of chapter 13 as an argument: opened.
-/
import Derived.Test.YtbcjblakknfhmaaTeK
import Derived.Test.YtbcjblakknfhmaaYOpen
import Derived.Deep.Matrix
import Derived.ProofKit
import Derived.OpenShut
import Derived.ShutString
import Derived.ChangeOld
import Derived.Carry
import Derived.ChangeSlices
namespace Go.Proofs.Ytbcjblakknfhmaa
open Go.RowKit PK Tl Go.ChangeShapes Go.WideShapes Go.ChangeAt

theorem d_cells_int : Try.prog.cellsOf 3 = 1 := by kernel_rfl
theorem d_cells_bool : Try.prog.cellsOf 4 = 1 := by kernel_rfl
theorem d_cells_fivei : Try.prog.cellsOf 25 = 5 := by kernel_rfl
theorem d_cells_fivep : Try.prog.cellsOf 24 = 5 := by kernel_rfl
theorem d_cells_pins : Try.prog.cellsOf 23 = 1 := by kernel_rfl
theorem d_cells_tele : Try.prog.cellsOf 27 = 22 := by kernel_rfl
section
variable {H : Type} {enc : TypeId × Value → H} {W : World}
set_option maxRecDepth 100000 in
theorem trod_pins {fuel : Nat} {l : List Value} {x : DataW H × List MemPlace} (h : DataW.trod enc Try.prog W 0 (fun _ => true) true fuel 23 l = some x) : ∃ v n p, l = [v] ∧ PinsAt W v n p := by
  rcases DataW.trod_slice Try.underlying23 h with ⟨e, _⟩ | ⟨a, len, cap, elems, rest, m, _, rfl, _, hb, hl, hm, hlen, hel, _⟩
  · exact ⟨_, 0, fun _ => false, e, none, 0, rfl, by decide, fun c hc => by omega⟩
  · rw [d_cells_bool] at hel
    have key : ∀ r, ∃ q : Bool, r < len → W.cells? 0 (a.add (r * 1)) 1 = some [.bool q] := fun r => by
      by_cases hr : r < len
      · have h1 := hel r hr
        rw [List.getElem?_eq_getElem (by omega)] at h1
        obtain ⟨cs, h2, h3⟩ := Option.bind_eq_some_iff.1 h1
        obtain ⟨b, e, _⟩ := DataW.trod_bool Try.underlying4 h3
        exact ⟨b, fun _ => by rw [h2, e]⟩
      · exact ⟨false, fun h => absurd h hr⟩
    obtain ⟨q, hq⟩ := Classical.axiomOfChoice key
    refine ⟨_, len, q, rfl, some a, cap, rfl, by omega, fun r hr => ?_⟩
    have h1 := (World.cells?_some (hq r hr)).2.2 0 (by omega)
    have h00 := (World.cells?_some (hq 0 (by omega))).2.2 0 (by omega)
    rw [Nat.zero_mul] at h00
    have hsp := World.cell?_spot h00
    obtain ⟨bm, om, spot⟩ := a
    have hspot : spot = none := by simpa [Addr.add] using hsp
    subst hspot
    refine ⟨bm, om, rfl, ?_⟩
    rw [Addr.add_mid, Addr.add_mid, Nat.mul_one] at h1
    exact h1
theorem piece {l : List Value} {o n : Nat} {c : Array Value} (h : (l.drop o).take n = c.toList) {j : Nat} (hj : j < n) : l[o + j]? = c[j]? := by
  have : ((l.drop o).take n)[j]? = c[j]? := by rw [h, Array.getElem?_toList]
  rw [← this, List.getElem?_take_of_lt hj, List.getElem?_drop]
set_option maxRecDepth 100000 in
theorem trod_fivei {fuel : Nat} {l : List Value} {x : DataW H × List MemPlace} (h : DataW.trod enc Try.prog W 0 (fun _ => true) true fuel 25 l = some x) : ∃ f, l = (ints 5 f).toList := by
  obtain ⟨xs, m, _, _, hl, hxl, hi⟩ := DataW.trod_array Try.underlying25 h
  rw [d_cells_fivei] at hl
  rw [d_cells_int] at hi
  have key : ∀ i, i < 5 → ∃ n : Int, l[i]? = some (.int .i64 n) := fun i h2 => by
    have h1 := hi i h2
    have h2' : xs[i]? = some (xs[i]'(by omega)) := List.getElem?_eq_getElem _
    rw [h2'] at h1
    obtain ⟨n, e, _, _⟩ := DataW.trod_int Try.underlying3 h1
    refine ⟨n, ?_⟩
    have h3 : i < l.length := by omega
    have h4 : ((l.drop (i * 1)).take 1) = [l[i]'h3] := by
      rw [Nat.mul_one, List.drop_eq_getElem_cons h3]
      rfl
    rw [h4] at e
    simp at e
    rw [List.getElem?_eq_getElem h3, e]
  refine ⟨fun i => match l[i]? with | some (.int _ n) => n | _ => 0, ?_⟩
  apply List.ext_getElem?
  intro i
  have ex : ∀ f, (ints 5 f).toList[i]? = (ints 5 f)[i]? := fun f => Array.getElem?_toList
  rw [ex]
  by_cases h2 : i < 5
  · obtain ⟨n, hn⟩ := key i h2
    rw [ints_get _ h2, hn]
  · have e1 : l[i]? = none := List.getElem?_eq_none (by omega)
    rw [e1, Array.getElem?_eq_none (by rw [ints_size]; omega)]
set_option maxRecDepth 100000 in
theorem trod_fivep {fuel : Nat} {l : List Value} {x : DataW H × List MemPlace} (h : DataW.trod enc Try.prog W 0 (fun _ => true) true fuel 24 l = some x) : ∃ (R : Nat → Value) (ln : Nat → Nat) (p : Nat → Nat → Bool), l = (tab 5 R).toList ∧ ∀ k, k < 5 → PinsAt W (R k) (ln k) (p k) := by
  obtain ⟨xs, m, _, _, hl, hxl, hi⟩ := DataW.trod_array Try.underlying24 h
  rw [d_cells_fivep] at hl
  rw [d_cells_pins] at hi
  have key : ∀ i, ∃ q : Value × Nat × (Nat → Bool), i < 5 → l[i]? = some q.1 ∧ PinsAt W q.1 q.2.1 q.2.2 := fun i => by
    by_cases h2 : i < 5
    · have h1 := hi i h2
      have h2' : xs[i]? = some (xs[i]'(by omega)) := List.getElem?_eq_getElem _
      rw [h2'] at h1
      obtain ⟨v, n, p, e, hp⟩ := trod_pins h1
      refine ⟨(v, n, p), fun _ => ⟨?_, hp⟩⟩
      have h3 : i < l.length := by omega
      have h4 : ((l.drop (i * 1)).take 1) = [l[i]'h3] := by
        rw [Nat.mul_one, List.drop_eq_getElem_cons h3]
        rfl
      rw [h4] at e
      simp at e
      rw [List.getElem?_eq_getElem h3, e]
    · exact ⟨(.slice none 0 0, 0, fun _ => false), fun h => absurd h h2⟩
  obtain ⟨q, hq⟩ := Classical.axiomOfChoice key
  refine ⟨fun r => (q r).1, fun r => (q r).2.1, fun r => (q r).2.2, ?_, fun k hk => (hq k hk).2⟩
  apply List.ext_getElem?
  intro i
  have ex : ∀ f, (tab 5 f).toList[i]? = (tab 5 f)[i]? := fun f => Array.getElem?_toList
  rw [ex]
  by_cases h2 : i < 5
  · rw [tab_get _ h2, (hq i h2).1]
  · have e1 : l[i]? = none := List.getElem?_eq_none (by omega)
    rw [e1, Array.getElem?_eq_none (by rw [tab_size]; omega)]
/-- Eleven out of five, five and one. -/
def el {α : Type} (a b : Nat → α) (c : α) (k : Nat) : α := if k < 5 then a k else if k < 10 then b (k - 5) else c
set_option maxHeartbeats 2000000 in
set_option maxRecDepth 100000 in
theorem open_tele {base : Nat} {v : Value} {d : DataW H} {ps : List MemPlace} (hval : Value.okWide Try.prog W .any base 27 v) (h : DataW.Trod enc Try.prog W 0 (fun _ => true) true 27 v d ps) : ∃ T, TeAt W v T := by
  obtain ⟨cs, rfl, hsz, _⟩ : ∃ cs, v = .agg cs ∧ cs.size = Try.prog.cellsOf 27 ∧ Row.okWide Try.prog W .any base 27 cs := by
    unfold Value.okWide at hval
    rw [Try.underlying27] at hval
    exact hval
  rw [d_cells_tele] at hsz
  obtain ⟨fuel, hf⟩ := h
  have hcs : (Value.agg cs).cells.toList = cs.toList := rfl
  rw [hcs] at hf
  obtain ⟨xs, m, _, _, hl, hxl, hi⟩ := DataW.trod_struct Try.underlying27 hf
  have hxl2 : xs.length = 6 := hxl
  have h0 := hi 0 _ rfl
  have h1 := hi 1 _ rfl
  have h2 := hi 2 _ rfl
  have h3 := hi 3 _ rfl
  have h4 := hi 4 _ rfl
  have h5 := hi 5 _ rfl
  rw [List.getElem?_eq_getElem (by omega)] at h0 h1 h2 h3 h4 h5
  obtain ⟨R0, ln0, p0, e0, k0⟩ := trod_fivep h0
  obtain ⟨R1, ln1, p1, e1, k1⟩ := trod_fivep h1
  obtain ⟨v2, n2, p2, e2, k2⟩ := trod_pins h2
  obtain ⟨f3, e3⟩ := trod_fivei h3
  obtain ⟨f4, e4⟩ := trod_fivei h4
  obtain ⟨x5, e5, _, _⟩ := DataW.trod_int Try.underlying3 h5
  have e0' : (cs.toList.drop 0).take 5 = (tab 5 R0).toList := e0
  have e1' : (cs.toList.drop 5).take 5 = (tab 5 R1).toList := e1
  have e2' : (cs.toList.drop 10).take 1 = (tab 1 fun _ => v2).toList := e2
  have e3' : (cs.toList.drop 11).take 5 = (ints 5 f3).toList := e3
  have e4' : (cs.toList.drop 16).take 5 = (ints 5 f4).toList := e4
  have e5' : (cs.toList.drop 21).take 1 = (ints 1 fun _ => x5).toList := e5
  refine ⟨⟨el ln0 ln1 n2, el p0 p1 p2, el f3 f4 x5⟩, el R0 R1 v2, ?_, fun k hk => ?_⟩
  · refine congrArg Value.agg ?_
    apply Array.ext_getElem?
    intro i
    rw [← Array.getElem?_toList]
    by_cases hi22 : i < 22
    · rw [teA, tab_get _ hi22]
      show cs.toList[i]? = some (if i < 11 then el R0 R1 v2 i else .int .i64 (el f3 f4 x5 (i - 11)))
      unfold el
      by_cases g0 : i < 5
      · rw [if_pos (by omega), if_pos g0]
        have := piece e0' g0
        rw [Nat.zero_add, tab_get _ g0] at this
        exact this
      by_cases g1 : i < 10
      · rw [if_pos (by omega), if_neg g0, if_pos g1]
        have := piece e1' (j := i - 5) (by omega)
        rw [show 5 + (i - 5) = i by omega, tab_get _ (by omega)] at this
        exact this
      by_cases g2 : i < 11
      · rw [if_pos (by omega), if_neg g0, if_neg g1]
        have := piece e2' (j := i - 10) (by omega)
        rw [show 10 + (i - 10) = i by omega, tab_get _ (by omega)] at this
        exact this
      by_cases g3 : i < 16
      · rw [if_neg g2, if_pos (by omega)]
        have := piece e3' (j := i - 11) (by omega)
        rw [show 11 + (i - 11) = i by omega, ints_get _ (by omega)] at this
        exact this
      by_cases g4 : i < 21
      · rw [if_neg g2, if_neg (by omega), if_pos (by omega)]
        have := piece e4' (j := i - 16) (by omega)
        rw [show 16 + (i - 16) = i by omega, ints_get _ (by omega)] at this
        rw [show i - 11 - 5 = i - 16 by omega]
        exact this
      · rw [if_neg g2, if_neg (by omega), if_neg (by omega)]
        have := piece e5' (j := i - 21) (by omega)
        rw [show 21 + (i - 21) = i by omega, ints_get _ (by omega)] at this
        exact this
    · rw [Array.getElem?_toList, Array.getElem?_eq_none (by omega), Array.getElem?_eq_none (by rw [teA_size]; omega)]
  · show PinsAt W (el R0 R1 v2 k) (el ln0 ln1 n2 k) (el p0 p1 p2 k)
    unfold el
    by_cases g0 : k < 5
    · rw [if_pos g0, if_pos g0, if_pos g0]; exact k0 k g0
    · rw [if_neg g0, if_neg g0, if_neg g0]
      by_cases g1 : k < 10
      · rw [if_pos g1, if_pos g1, if_pos g1]; exact k1 (k - 5) (by omega)
      · rw [if_neg g1, if_neg g1, if_neg g1]; exact k2
end
end Go.Proofs.Ytbcjblakknfhmaa
