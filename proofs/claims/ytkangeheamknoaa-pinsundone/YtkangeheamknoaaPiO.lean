/-
  A drum as an argument: opened.
-/
import Derived.Test.YtkangeheamknoaaPiK
import Derived.Test.YtkangeheamknoaaChecked
import Derived.Deep.Matrix
import Derived.ProofKit
import Derived.OpenShut
import Derived.ShutString
import Derived.ChangeOld
import Derived.Carry
import Derived.ChangeSlices
namespace Go.Proofs.Ytkangeheamknoaa
open Go.RowKit PK Go.ChangeShapes Go.WideShapes Go.ChangeAt

theorem d_cells_int : Try.prog.cellsOf 3 = 1 := by kernel_rfl
theorem d_cells_bool : Try.prog.cellsOf 4 = 1 := by kernel_rfl
theorem d_cells_two : Try.prog.cellsOf 44 = 2 := by kernel_rfl
theorem d_cells_pins : Try.prog.cellsOf 42 = 1 := by kernel_rfl
theorem d_cells_drum : Try.prog.cellsOf 25 = 2 := by kernel_rfl
section
variable {H : Type} {enc : TypeId × Value → H} {W : World}
set_option maxRecDepth 100000 in
theorem trod_pins {fuel : Nat} {l : List Value} {x : DataW H × List MemPlace} (h : DataW.trod enc Try.prog W 0 (fun _ => true) true fuel 42 l = some x) : ∃ v n p, l = [v] ∧ PinsAt W v n p := by
  rcases DataW.trod_slice Try.underlying42 h with ⟨e, _⟩ | ⟨a, len, cap, elems, rest, m, _, rfl, _, hb, hl, hm, hlen, hel, _⟩
  · exact ⟨_, 0, fun _ => false, e, none, 0, rfl, by decide, fun c hc => by omega⟩
  · rw [d_cells_bool] at hel
    have key : ∀ r, ∃ q : Bool, r < len → W.cells? 0 (a.add (r * 1)) 1 = some [.bool q] := fun r => by
      by_cases hr : r < len
      · have h1 := hel r hr
        rw [List.getElem?_eq_getElem (by omega)] at h1
        obtain ⟨cs, h2, h3⟩ := Option.bind_eq_some_iff.1 h1
        obtain ⟨b, e, _⟩ := DataW.trod_bool Try.underlying4 h3
        exact ⟨b, fun _ => by rw [h2, e]⟩
      · exact ⟨false, fun h => absurd h hr⟩
    obtain ⟨q, hq⟩ := Classical.axiomOfChoice key
    refine ⟨_, len, q, rfl, some a, cap, rfl, by omega, fun r hr => ?_⟩
    have h1 := (World.cells?_some (hq r hr)).2.2 0 (by omega)
    have h00 := (World.cells?_some (hq 0 (by omega))).2.2 0 (by omega)
    rw [Nat.zero_mul] at h00
    have hsp := World.cell?_spot h00
    obtain ⟨bm, om, spot⟩ := a
    have hspot : spot = none := by simpa [Addr.add] using hsp
    subst hspot
    refine ⟨bm, om, rfl, ?_⟩
    rw [Addr.add_mid, Addr.add_mid, Nat.mul_one] at h1
    exact h1
set_option maxRecDepth 100000 in
theorem trod_whs {fuel : Nat} {l : List Value} {x : DataW H × List MemPlace} (h : DataW.trod enc Try.prog W 0 (fun _ => true) true fuel 22 l = some x) : ∃ v n ln p, l = [v] ∧ WhAt W v n ln p := by
  rcases DataW.trod_slice Try.underlying22 h with ⟨e, _⟩ | ⟨a, len, cap, elems, rest, m, _, rfl, _, hb, hl, hm, hlen, hel, _⟩
  · exact ⟨_, 0, fun _ => 0, fun _ _ => false, e, none, 0, fun _ => .slice none 0 0, rfl, by decide, fun c hc => by omega, fun c hc => by omega⟩
  · rw [d_cells_pins] at hel
    have key : ∀ r, ∃ q : Value × Nat × (Nat → Bool), r < len → W.cells? 0 (a.add (r * 1)) 1 = some [q.1] ∧ PinsAt W q.1 q.2.1 q.2.2 := fun r => by
      by_cases hr : r < len
      · have h1 := hel r hr
        rw [List.getElem?_eq_getElem (by omega)] at h1
        obtain ⟨cs, h2, h3⟩ := Option.bind_eq_some_iff.1 h1
        obtain ⟨v, n, p, e, hp⟩ := trod_pins h3
        exact ⟨(v, n, p), fun _ => ⟨by rw [h2, e], hp⟩⟩
      · exact ⟨(.slice none 0 0, 0, fun _ => false), fun h => absurd h hr⟩
    obtain ⟨q, hq⟩ := Classical.axiomOfChoice key
    refine ⟨_, len, fun r => (q r).2.1, fun r => (q r).2.2, rfl, some a, cap, fun r => (q r).1, rfl, by omega, fun r hr => ?_, fun r hr => (hq r hr).2⟩
    have h1 := (World.cells?_some (hq r hr).1).2.2 0 (by omega)
    have h00 := (World.cells?_some (hq 0 (by omega)).1).2.2 0 (by omega)
    rw [Nat.zero_mul] at h00
    have hsp := World.cell?_spot h00
    obtain ⟨bm, om, spot⟩ := a
    have hspot : spot = none := by simpa [Addr.add] using hsp
    subst hspot
    refine ⟨bm, om, rfl, ?_⟩
    rw [Addr.add_mid, Addr.add_mid, Nat.mul_one] at h1
    exact h1
set_option maxRecDepth 100000 in
theorem trod_two {fuel : Nat} {l : List Value} {x : DataW H × List MemPlace} (h : DataW.trod enc Try.prog W 0 (fun _ => true) true fuel 44 l = some x) : ∃ f, l = (ints 2 f).toList := by
  obtain ⟨xs, m, _, _, hl, hxl, hi⟩ := DataW.trod_array Try.underlying44 h
  rw [d_cells_two] at hl
  rw [d_cells_int] at hi
  have key : ∀ i, i < 2 → ∃ n : Int, l[i]? = some (.int .i64 n) := fun i h2 => by
    have h1 := hi i h2
    have h2' : xs[i]? = some (xs[i]'(by omega)) := List.getElem?_eq_getElem _
    rw [h2'] at h1
    obtain ⟨n, e, _, _⟩ := DataW.trod_int Try.underlying3 h1
    refine ⟨n, ?_⟩
    have h3 : i < l.length := by omega
    have h4 : ((l.drop (i * 1)).take 1) = [l[i]'h3] := by
      rw [Nat.mul_one, List.drop_eq_getElem_cons h3]
      rfl
    rw [h4] at e
    simp at e
    rw [List.getElem?_eq_getElem h3, e]
  refine ⟨fun i => match l[i]? with | some (.int _ n) => n | _ => 0, ?_⟩
  apply List.ext_getElem?
  intro i
  have ex : ∀ f, (ints 2 f).toList[i]? = (ints 2 f)[i]? := fun f => Array.getElem?_toList
  rw [ex]
  by_cases h2 : i < 2
  · obtain ⟨n, hn⟩ := key i h2
    rw [ints_get _ h2, hn]
  · have e1 : l[i]? = none := List.getElem?_eq_none (by omega)
    rw [e1, Array.getElem?_eq_none (by rw [ints_size]; omega)]
set_option maxRecDepth 100000 in
theorem trod_bars {fuel : Nat} {l : List Value} {x : DataW H × List MemPlace} (h : DataW.trod enc Try.prog W 0 (fun _ => true) true fuel 23 l = some x) : ∃ v n f, l = [v] ∧ BrAt W v n f := by
  rcases DataW.trod_slice Try.underlying23 h with ⟨e, _⟩ | ⟨a, len, cap, elems, rest, m, _, rfl, _, hb, hl, hm, hlen, hel, _⟩
  · exact ⟨_, 0, fun _ _ => 0, e, none, 0, rfl, by decide, fun c hc => by omega⟩
  · rw [d_cells_two] at hel
    have key : ∀ r, ∃ q : Nat → Int, r < len → W.cells? 0 (a.add (r * 2)) 2 = some (ints 2 q).toList := fun r => by
      by_cases hr : r < len
      · have h1 := hel r hr
        rw [List.getElem?_eq_getElem (by omega)] at h1
        obtain ⟨cs, h2, h3⟩ := Option.bind_eq_some_iff.1 h1
        obtain ⟨f, e⟩ := trod_two h3
        exact ⟨f, fun _ => by rw [h2, e]⟩
      · exact ⟨fun _ => 0, fun h => absurd h hr⟩
    obtain ⟨q, hq⟩ := Classical.axiomOfChoice key
    refine ⟨_, len, q, rfl, some a, cap, rfl, by omega, fun r hr => ?_⟩
    have h1 := (World.cells?_some (hq r hr)).2.2
    have h00 := (World.cells?_some (hq 0 (by omega))).2.2 0 (by omega)
    rw [Array.getElem?_toList, ints_get _ (by decide), Nat.zero_mul] at h00
    have hsp := World.cell?_spot h00
    obtain ⟨bm, om, spot⟩ := a
    have hspot : spot = none := by simpa [Addr.add] using hsp
    subst hspot
    refine ⟨bm, om, rfl, fun j v hv => ?_⟩
    have hj : j < 2 := by
      have := (List.getElem?_eq_some_iff.1 hv).1
      rw [Array.length_toList, ints_size] at this
      exact this
    have h2 := h1 j hj
    rw [hv, Addr.add_mid, Addr.add_mid] at h2
    exact h2
set_option maxHeartbeats 2000000 in
set_option maxRecDepth 100000 in
theorem open_drum {base : Nat} {v : Value} {d : DataW H} {ps : List MemPlace} (hval : Value.okWide Try.prog W .any base 25 v) (h : DataW.Trod enc Try.prog W 0 (fun _ => true) true 25 v d ps) : ∃ D, DrAt W v D := by
  obtain ⟨cs, rfl, hsz, _⟩ : ∃ cs, v = .agg cs ∧ cs.size = Try.prog.cellsOf 25 ∧ Row.okWide Try.prog W .any base 25 cs := by
    unfold Value.okWide at hval
    rw [Try.underlying25] at hval
    exact hval
  rw [d_cells_drum] at hsz
  obtain ⟨fuel, hf⟩ := h
  have hcs : (Value.agg cs).cells.toList = cs.toList := rfl
  rw [hcs] at hf
  obtain ⟨xs, m, _, _, hl, hxl, hi⟩ := DataW.trod_struct Try.underlying25 hf
  have hxl2 : xs.length = 2 := hxl
  have h0 := hi 0 _ rfl
  have h1 := hi 1 _ rfl
  rw [List.getElem?_eq_getElem (by omega)] at h0 h1
  obtain ⟨v0, nw, ln, p, e0, k0⟩ := trod_whs h0
  obtain ⟨v1, nb, f, e1, k1⟩ := trod_bars h1
  refine ⟨⟨nw, ln, p, nb, f⟩, v0, v1, ?_, k0, k1⟩
  have e0' : (cs.toList.drop 0).take 1 = [v0] := e0
  have e1' : (cs.toList.drop 1).take 1 = [v1] := e1
  have hlen : cs.toList.length = 2 := by simpa using hsz
  have key : cs.toList = [v0] ++ [v1] := by
    rw [← e0', ← e1']
    generalize cs.toList = l at hlen
    have q1 : (l.drop 1).take 1 = l.drop 1 := List.take_of_length_le (by simp; omega)
    rw [q1, List.drop_zero]
    exact (List.take_append_drop 1 l).symm
  have e : cs = #[v0, v1] := Array.toList_inj.1 key
  rw [e]
end
end Go.Proofs.Ytkangeheamknoaa
