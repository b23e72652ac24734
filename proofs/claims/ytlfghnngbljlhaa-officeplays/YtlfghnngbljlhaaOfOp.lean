/-
  An office's steps as an argument: opened (chapter 16).
-/
import Derived.Test.YtlfghnngbljlhaaOfQ
import Derived.Test.YtlfghnngbljlhaaYOpen
import Derived.Test.YtlfghnngbljlhaaPdO
import Derived.Test.YtlfghnngbljlhaaChecked
import Derived.Deep.Matrix
import Derived.ProofKit
import Derived.OpenShut
import Derived.ShutString
import Derived.ChangeOld
import Derived.Carry
import Derived.ChangeSlices
namespace Go.Proofs.Ytlfghnngbljlhaa
open Go.RowKit PK Go.ChangeShapes Go.WideShapes Go.ChangeAt

theorem e_cells_int : Try.prog.cellsOf 3 = 1 := by kernel_rfl
theorem e_cells_64 : Try.prog.cellsOf 2 = 1 := by kernel_rfl
theorem e_cells_stp : Try.prog.cellsOf 38 = 6 := by kernel_rfl
theorem e_bytes_stp : Try.prog.bytesOf 38 = 48 := by kernel_rfl
theorem e_bytes_64 : Try.prog.bytesOf 2 = 8 := by kernel_rfl
section
variable {H : Type} {enc : TypeId × Value → H} {W : World}
set_option maxRecDepth 100000 in
theorem trod_numsO {fuel : Nat} {l : List Value} {x : DataW H × List MemPlace} (h : DataW.trod enc Try.prog W 0 (fun _ => true) true fuel 22 l = some x) : ∃ v n f, l = [v] ∧ NumsAt W v n f := by
  rcases open_ints Try.underlying22 Try.underlying3 e_cells_int h with ⟨hcs0, _⟩ | ⟨a, len, cap, zs, hcs0, _, hl, hm, hzl, _, hcell, _⟩
  · exact ⟨_, 0, fun _ => 0, hcs0, none, 0, rfl, by decide, fun c hc => by omega⟩
  · simp at hzl
    refine ⟨_, len, fun c => zs.getD c 0, hcs0, some a, cap, rfl, by omega, fun c hc => ?_⟩
    have h0 := hcell c (by omega)
    have hsp := World.cell?_spot (hcell 0 (by omega))
    obtain ⟨bm, om, spot⟩ := a
    have hspot : spot = none := by simpa [Addr.add] using hsp
    subst hspot
    exact ⟨bm, om, rfl, by rw [← add_plain]; exact h0⟩
set_option maxRecDepth 100000 in
theorem open_words {base : Nat} {v : Value} {d : DataW H} {p : List MemPlace} (hval : Value.okWide Try.prog W .any base 23 v) (h : DataW.Trod enc Try.prog W 0 (fun _ => true) true 23 v d p) :
    ∃ n f, NumsAt W v n f ∧ (n = 0 ∨ ∃ el sp, d = .slice el sp ∧ n ≤ el.length + sp.length) ∧ ∀ m c, v = .slice none m c → c = 0 := by
  obtain ⟨a0, len, cap, rfl⟩ := okWide_slice Try.underlying23 hval
  obtain ⟨fuel, hf⟩ := h
  rcases open_ints Try.underlying23 Try.underlying2 e_cells_64 hf with ⟨hcs0, hx⟩ | ⟨a, len', cap', zs, hcs0, _, hl, hm, hzl, hx, hcell, _⟩
  · simp [Value.cells] at hcs0
    obtain ⟨rfl, rfl, rfl⟩ := hcs0
    exact ⟨0, fun _ => 0, ⟨none, 0, rfl, by decide, fun c hc => by omega⟩, .inl rfl, fun m c e => by cases e; rfl⟩
  · simp [Value.cells] at hcs0
    obtain ⟨rfl, rfl, rfl⟩ := hcs0
    simp at hzl
    refine ⟨len, fun c => zs.getD c 0, ⟨some a, cap, rfl, by omega, fun c hc => ?_⟩, .inr ⟨_, _, (Prod.ext_iff.1 hx).1, ?_⟩, fun m c e => by cases e⟩
    · have h0 := hcell c (by omega)
      have hsp := World.cell?_spot (hcell 0 (by omega))
      obtain ⟨bm, om, spot⟩ := a
      have hspot : spot = none := by simpa [Addr.add] using hsp
      subst hspot
      exact ⟨bm, om, rfl, by rw [← add_plain]; exact h0⟩
    · simp [lits]
      omega
set_option maxRecDepth 100000 in
theorem open_nums4 {base : Nat} {v : Value} {d : DataW H} {p : List MemPlace} (hval : Value.okWide Try.prog W .any base 22 v) (h : DataW.Trod enc Try.prog W 0 (fun _ => true) true 22 v d p) :
    ∃ n f, NumsAt W v n f ∧ (n = 0 ∨ ∃ el sp, d = .slice el sp ∧ n ≤ el.length + sp.length) ∧ ∃ a c, v = .slice a n c ∧ n ≤ c := by
  obtain ⟨n, f, h1, h2⟩ := open_nums2 hval h
  obtain ⟨m, g, ⟨a, c, e, hc, _⟩, _⟩ := open_ans hval h
  obtain ⟨a', c', e', _⟩ := h1.len
  rw [e] at e'
  cases e'
  exact ⟨_, f, h1, h2, a, c, e, hc⟩
set_option maxRecDepth 100000 in
theorem trod_stp {fuel : Nat} {l : List Value} {x : DataW H × List MemPlace} (h : DataW.trod enc Try.prog W 0 (fun _ => true) true fuel 38 l = some x) : ∃ (q : Oc.Sp) (v : Value), l = (stc q v).toList ∧ NumsAt W v q.tn q.tf := by
  obtain ⟨xs, m, _, _, hl, hxl, hi⟩ := DataW.trod_struct Try.underlying38 h
  rw [e_cells_stp] at hl
  have hxl2 : xs.length = 6 := hxl
  have h0 := hi 0 _ rfl
  have h1 := hi 1 _ rfl
  have h2 := hi 2 _ rfl
  have h3 := hi 3 _ rfl
  have h4 := hi 4 _ rfl
  have h5 := hi 5 _ rfl
  rw [List.getElem?_eq_getElem (by omega)] at h0 h1 h2 h3 h4 h5
  obtain ⟨n0, e0, _, _⟩ := DataW.trod_int Try.underlying3 h0
  obtain ⟨b1, e1, _⟩ := DataW.trod_bool Try.underlying4 h1
  obtain ⟨b2, e2, _⟩ := DataW.trod_bool Try.underlying4 h2
  obtain ⟨b3, e3, _⟩ := DataW.trod_bool Try.underlying4 h3
  obtain ⟨n4, e4, _, _⟩ := DataW.trod_int Try.underlying3 h4
  obtain ⟨v, n, f, e5, hv⟩ := trod_numsO h5
  refine ⟨⟨n0, b1, b2, b3, n4, n, f⟩, v, ?_, hv⟩
  have d0 : (l.drop 0).take 1 = [.int .i64 n0] := e0
  have d1 : (l.drop 1).take 1 = [.bool b1] := e1
  have d2 : (l.drop 2).take 1 = [.bool b2] := e2
  have d3 : (l.drop 3).take 1 = [.bool b3] := e3
  have d4 : (l.drop 4).take 1 = [.int .i64 n4] := e4
  have d5 : (l.drop 5).take 1 = [v] := e5
  match l, hl with
  | [a, b, c, d, e, f], _ =>
    simp at d0 d1 d2 d3 d4 d5
    subst d0 d1 d2 d3 d4 d5
    rfl
set_option maxRecDepth 100000 in
theorem open_steps {base : Nat} {v : Value} {d : DataW H} {p : List MemPlace} (hval : Value.okWide Try.prog W .any base 24 v) (h : DataW.Trod enc Try.prog W 0 (fun _ => true) true 24 v d p) : ∃ K X, StpAt W v K X ∧ (K = 0 ∨ ∃ el sp, d = .slice el sp ∧ K ≤ el.length + sp.length) := by
  obtain ⟨a0, len0, cap0, rfl⟩ := okWide_slice Try.underlying24 hval
  obtain ⟨fuel, hf⟩ := h
  rcases DataW.trod_slice Try.underlying24 hf with ⟨e, _⟩ | ⟨a, len, cap, elems, rest, m, _, ecs, hx, hb, hl, hm, hlen, hel, _⟩
  · simp [Value.cells] at e
    obtain ⟨rfl, rfl, rfl⟩ := e
    exact ⟨0, fun _ => ⟨0, false, false, false, 0, 0, fun _ => 0⟩, ⟨none, 0, fun _ => .slice none 0 0, rfl, by decide, fun r hr => by omega, fun r hr => by omega⟩, .inl rfl⟩
  · simp [Value.cells] at ecs
    obtain ⟨rfl, rfl, rfl⟩ := ecs
    rw [e_cells_stp] at hel
    have key : ∀ r, ∃ q : Oc.Sp × Value, r < len0 → W.cells? 0 (a.add (r * 6)) 6 = some (stc q.1 q.2).toList ∧ NumsAt W q.2 q.1.tn q.1.tf := fun r => by
      by_cases hr : r < len0
      · have h1 := hel r hr
        rw [List.getElem?_eq_getElem (by omega)] at h1
        obtain ⟨cs, h2, h3⟩ := Option.bind_eq_some_iff.1 h1
        obtain ⟨q, v, e, hk⟩ := trod_stp h3
        exact ⟨(q, v), fun _ => ⟨by rw [h2, e], hk⟩⟩
      · exact ⟨(⟨0, false, false, false, 0, 0, fun _ => 0⟩, .slice none 0 0), fun h => absurd h hr⟩
    obtain ⟨q, hq⟩ := Classical.axiomOfChoice key
    refine ⟨len0, fun r => (q r).1, ⟨some a, cap0, fun r => (q r).2, rfl, by omega, fun r hr => ?_, fun r hr => (hq r hr).2⟩, .inr ⟨_, _, (Prod.ext_iff.1 hx).1, by simp; omega⟩⟩
    have h1 := (World.cells?_some (hq r hr).1).2.2
    have h00 := (World.cells?_some (hq 0 (by omega)).1).2.2 0 (by omega)
    rw [Nat.zero_mul] at h00
    have hsp := World.cell?_spot (v := .int .i64 (q 0).1.pw) h00
    obtain ⟨bm, om, spot⟩ := a
    have hspot : spot = none := by simpa [Addr.add] using hsp
    subst hspot
    refine ⟨bm, om, rfl, fun j v hv => ?_⟩
    have hj : j < 6 := (List.getElem?_eq_some_iff.1 hv).1
    have h2 := h1 j hj
    rw [hv, Addr.add_mid, Addr.add_mid] at h2
    exact h2
end
end Go.Proofs.Ytlfghnngbljlhaa
