/-
  Several texts, joined: OOpen, ScAr.
-/
import Derived.Test.YtkohhdkkbaifoaaGreatDoorJn4
import Derived.Test.YtkohhdkkbaifoaaGreatDoorChecked
import Derived.Deep.Matrix
import Derived.ProofKit
import Derived.OpenShut
import Derived.ShutString
import Derived.ChangeOld
import Derived.Carry
import Derived.ChangeSlices
import Derived.Test.YtkohhdkkbaifoaaGreatDoorJn6
/-
  A machine as an argument: opened.
-/
namespace Go.Proofs.YtkohhdkkbaifoaaGreatDoor
open Go.RowKit PK Go.ChangeShapes Go.WideShapes Go.ChangeAt

theorem o_cells_int : Tryz.prog.cellsOf 3 = 1 := by kernel_rfl
theorem o_cells_perm : Tryz.prog.cellsOf 27 = 26 := by kernel_rfl
theorem o_cells_ints : Tryz.prog.cellsOf 25 = 1 := by kernel_rfl
theorem o_cells_wheel : Tryz.prog.cellsOf 97 = 27 := by kernel_rfl
theorem o_cells_mac : Tryz.prog.cellsOf 29 = 55 := by kernel_rfl
section
variable {H : Type} {enc : TypeId × Value → H} {W : World}
set_option maxRecDepth 100000 in
theorem trod_nums {fuel : Nat} {l : List Value} {x : DataW H × List MemPlace} (h : DataW.trod enc Tryz.prog W 0 (fun _ => true) true fuel 25 l = some x) : ∃ v n f, l = [v] ∧ NumsAt W v n f := by
  rcases open_ints Tryz.underlying25 Tryz.underlying3 o_cells_int h with ⟨hcs0, _⟩ | ⟨a, len, cap, zs, hcs0, _, hl, hm, hzl, _, hcell, _⟩
  · exact ⟨_, 0, fun _ => 0, hcs0, none, 0, rfl, by decide, fun c hc => by omega⟩
  · simp at hzl
    refine ⟨_, len, fun c => zs.getD c 0, hcs0, some a, cap, rfl, by omega, fun c hc => ?_⟩
    have h0 := hcell c (by omega)
    have hsp := World.cell?_spot (hcell 0 (by omega))
    obtain ⟨bm, om, spot⟩ := a
    have hspot : spot = none := by simpa [Addr.add] using hsp
    subst hspot
    exact ⟨bm, om, rfl, by rw [← add_plain]; exact h0⟩
set_option maxRecDepth 100000 in
theorem trod_perm {fuel : Nat} {l : List Value} {x : DataW H × List MemPlace} (h : DataW.trod enc Tryz.prog W 0 (fun _ => true) true fuel 27 l = some x) : ∃ f, l = (ints 26 f).toList := by
  obtain ⟨xs, m, _, _, hl, hxl, hi⟩ := DataW.trod_array Tryz.underlying27 h
  rw [o_cells_perm] at hl
  rw [o_cells_int] at hi
  have key : ∀ i, i < 26 → ∃ n : Int, l[i]? = some (.int .i64 n) := fun i h26 => by
    have h1 := hi i h26
    have h2 : xs[i]? = some (xs[i]'(by omega)) := List.getElem?_eq_getElem _
    rw [h2] at h1
    obtain ⟨n, e, _, _⟩ := DataW.trod_int Tryz.underlying3 h1
    refine ⟨n, ?_⟩
    have h3 : i < l.length := by omega
    have h4 : ((l.drop (i * 1)).take 1) = [l[i]'h3] := by
      rw [Nat.mul_one, List.drop_eq_getElem_cons h3]
      rfl
    rw [h4] at e
    simp at e
    rw [List.getElem?_eq_getElem h3, e]
  refine ⟨fun i => match l[i]? with | some (.int _ n) => n | _ => 0, ?_⟩
  apply List.ext_getElem?
  intro i
  have ex : ∀ f, (ints 26 f).toList[i]? = (ints 26 f)[i]? := fun f => Array.getElem?_toList
  rw [ex]
  by_cases h26 : i < 26
  · obtain ⟨n, hn⟩ := key i h26
    rw [ints_get _ h26, hn]
  · have e1 : l[i]? = none := List.getElem?_eq_none (by omega)
    rw [e1, Array.getElem?_eq_none (by rw [ints_size]; omega)]
set_option maxRecDepth 100000 in
theorem trod_wheel {fuel : Nat} {l : List Value} {x : DataW H × List MemPlace} (h : DataW.trod enc Tryz.prog W 0 (fun _ => true) true fuel 97 l = some x) : ∃ f v n k, l = (whl f v).toList ∧ NumsAt W v n k := by
  obtain ⟨xs, m, _, _, hl, hxl, hi⟩ := DataW.trod_struct Tryz.underlying97 h
  rw [o_cells_wheel] at hl
  have hxl2 : xs.length = 2 := hxl
  have h0 := hi 0 _ rfl
  have h1 := hi 1 _ rfl
  rw [List.getElem?_eq_getElem (by omega)] at h0 h1
  obtain ⟨f, hf⟩ := trod_perm h0
  obtain ⟨v, n, k, hv, hk⟩ := trod_nums h1
  refine ⟨f, v, n, k, ?_, hk⟩
  have e1 : (l.drop 0).take 26 = (ints 26 f).toList := hf
  have e2 : (l.drop 26).take 1 = [v] := hv
  have e3 : l = (l.take 26) ++ ((l.drop 26).take 1) := by
    rw [List.take_of_length_le (l := l.drop 26) (by simp; omega), List.take_append_drop]
  rw [e3, e2, show l.take 26 = (ints 26 f).toList from e1]
  simp [whl]
set_option maxRecDepth 100000 in
theorem trod_wheels {fuel : Nat} {l : List Value} {x : DataW H × List MemPlace} (h : DataW.trod enc Tryz.prog W 0 (fun _ => true) true fuel 24 l = some x) : ∃ v n wi nl no, l = [v] ∧ WheelsAt W v n wi nl no := by
  rcases DataW.trod_slice Tryz.underlying24 h with ⟨e, _⟩ | ⟨a, len, cap, elems, rest, m, _, rfl, _, hb, hl, hm, hlen, hel, _⟩
  · exact ⟨_, 0, fun _ _ => 0, fun _ => 0, fun _ _ => 0, e, none, 0, fun _ => .slice none 0 0, rfl, by decide, fun r hr => by omega, fun r hr => by omega⟩
  · rw [o_cells_wheel] at hel
    have key : ∀ r, ∃ q : (Nat → Int) × Value × Nat × (Nat → Int), r < len → W.cells? 0 (a.add (r * 27)) 27 = some (whl q.1 q.2.1).toList ∧ NumsAt W q.2.1 q.2.2.1 q.2.2.2 := fun r => by
      by_cases hr : r < len
      · have h1 := hel r hr
        rw [List.getElem?_eq_getElem (by omega)] at h1
        obtain ⟨cs, h2, h3⟩ := Option.bind_eq_some_iff.1 h1
        obtain ⟨f, v, n, k, e, hk⟩ := trod_wheel h3
        exact ⟨(f, v, n, k), fun _ => ⟨by rw [h2, e], hk⟩⟩
      · exact ⟨(fun _ => 0, .slice none 0 0, 0, fun _ => 0), fun h => absurd h hr⟩
    obtain ⟨q, hq⟩ := Classical.axiomOfChoice key
    refine ⟨_, len, fun r => (q r).1, fun r => (q r).2.2.1, fun r => (q r).2.2.2, rfl, some a, cap, fun r => (q r).2.1, rfl, by omega, fun r hr => ?_, fun r hr => (hq r hr).2⟩
    have h1 := (World.cells?_some (hq r hr).1).2.2
    have h00 := (World.cells?_some (hq 0 (by omega)).1).2.2 0 (by omega)
    rw [Array.getElem?_toList, whl_get _ _ (by decide), Nat.zero_mul] at h00
    have hsp := World.cell?_spot h00
    obtain ⟨bm, om, spot⟩ := a
    have hspot : spot = none := by simpa [Addr.add] using hsp
    subst hspot
    refine ⟨bm, om, rfl, fun j v hv => ?_⟩
    have hj : j < 27 := by
      have := (List.getElem?_eq_some_iff.1 hv).1
      rw [Array.length_toList, whl_size] at this
      exact this
    have h2 := h1 j hj
    rw [hv, Addr.add_mid, Addr.add_mid] at h2
    exact h2
end
end Go.Proofs.YtkohhdkkbaifoaaGreatDoor

/-
  A chain as an argument: opened.
-/
namespace Go.Proofs.YtkohhdkkbaifoaaGreatDoor
open Go.RowKit PK Go.ChangeShapes Go.WideShapes Go.ChangeAt

theorem o_cells_step : Tryz.prog.cellsOf 31 = 59 := by kernel_rfl
section
variable {H : Type} {enc : TypeId × Value → H} {W : World}
set_option maxRecDepth 100000 in
theorem trod_mat {fuel : Nat} {l : List Value} {x : DataW H × List MemPlace} (hf : DataW.trod enc Tryz.prog W 0 (fun _ => true) true fuel 23 l = some x) : ∃ v n L Z, l = [v] ∧ MatAt W v n L Z := by
  rcases Go.Deep.open_int_rows Tryz.underlying23 Tryz.underlying25 Tryz.underlying3 o_cells_ints o_cells_int hf with ⟨hcs0, hx⟩ | ⟨a, len, cap, A, L, C, Z, hcs0, _, hl, hm, hx, hrows⟩
  · exact ⟨_, 0, fun _ => 0, fun _ _ => 0, hcs0, MatAt.nil _ _ _⟩
  · refine ⟨_, len, L, fun r c => (Z r).getD c 0, hcs0, some a, cap, fun r => .slice (A r) (L r) (C r), rfl, by omega, fun r hr => ?_, fun r hr => ?_⟩
    · have h0 := (hrows r (by omega)).1
      have hsp := World.cell?_spot (hrows 0 (by omega)).1
      obtain ⟨bm, om, spot⟩ := a
      have hspot : spot = none := by simpa [Addr.add] using hsp
      subst hspot
      exact ⟨bm, om, rfl, by rw [← add_plain]; exact h0⟩
    · obtain ⟨_, h1, h2, h3, _, h5, h6⟩ := hrows r (by omega)
      refine ⟨A r, C r, rfl, by omega, fun c hc => ?_⟩
      cases hA : A r with
      | none => have := h5 hA; omega
      | some a' =>
        obtain ⟨_, hcell⟩ := h6 a' hA
        have hsp := World.cell?_spot (hcell 0 (by omega))
        obtain ⟨bm, om, spot⟩ := a'
        have hspot : spot = none := by simpa [Addr.add] using hsp
        subst hspot
        exact ⟨bm, om, rfl, by rw [← add_plain]; exact hcell c (by omega)⟩
set_option maxHeartbeats 2000000 in
set_option maxRecDepth 100000 in
theorem trod_mac {fuel : Nat} {cs : List Value} {x : DataW H × List MemPlace} (hsz : cs.length = 55) (hf : DataW.trod enc Tryz.prog W 0 (fun _ => true) true fuel 29 cs = some x) : ∃ g, MacAt W (.agg cs.toArray) g := by
  obtain ⟨xs, m, _, _, hl, hxl, hi⟩ := DataW.trod_struct Tryz.underlying29 hf
  have hxl2 : xs.length = 5 := hxl
  have h0 := hi 0 _ rfl
  have h1 := hi 1 _ rfl
  have h2 := hi 2 _ rfl
  have h3 := hi 3 _ rfl
  have h4 := hi 4 _ rfl
  rw [List.getElem?_eq_getElem (by omega)] at h0 h1 h2 h3 h4
  obtain ⟨v0, n, wi, nl, no, e0, k0⟩ := trod_wheels h0
  obtain ⟨v1, rl, ri, e1, k1⟩ := trod_nums h1
  obtain ⟨v2, sl, st, e2, k2⟩ := trod_nums h2
  obtain ⟨rf, e3⟩ := trod_perm h3
  obtain ⟨pl, e4⟩ := trod_perm h4
  refine ⟨⟨n, wi, nl, no, rl, ri, sl, st, rf, pl⟩, v0, v1, v2, ?_, k0, k1, k2⟩
  have e0' : (cs.drop 0).take 1 = [v0] := e0
  have e1' : (cs.drop 1).take 1 = [v1] := e1
  have e2' : (cs.drop 2).take 1 = [v2] := e2
  have e3' : (cs.drop 3).take 26 = (ints 26 rf).toList := e3
  have e4' : (cs.drop 29).take 26 = (ints 26 pl).toList := e4
  have key : cs = [v0] ++ ([v1] ++ ([v2] ++ ((ints 26 rf).toList ++ (ints 26 pl).toList))) := by
    rw [← e0', ← e1', ← e2', ← e3', ← e4']
    generalize cs = l at hsz
    have q4 : (l.drop 29).take 26 = l.drop 29 := List.take_of_length_le (by simp; omega)
    have q3 : (l.drop 3).take 26 ++ l.drop 29 = l.drop 3 := by
      have := List.take_append_drop 26 (l.drop 3)
      rw [List.drop_drop] at this
      exact this
    have q2 : (l.drop 2).take 1 ++ l.drop 3 = l.drop 2 := by
      have := List.take_append_drop 1 (l.drop 2)
      rw [List.drop_drop] at this
      exact this
    have q1 : (l.drop 1).take 1 ++ l.drop 2 = l.drop 1 := by
      have := List.take_append_drop 1 (l.drop 1)
      rw [List.drop_drop] at this
      exact this
    have q0 : (l.drop 0).take 1 ++ l.drop 1 = l := by
      rw [List.drop_zero]
      exact List.take_append_drop 1 l
    rw [q4, q3, q2, q1, q0]
  have e : cs.toArray = mac v0 v1 v2 rf pl := by
    refine Array.toList_inj.1 (key.trans ?_)
    unfold mac
    rw [Array.toList_append, Array.toList_append]
    rfl
  rw [e]
set_option maxHeartbeats 2000000 in
set_option maxRecDepth 100000 in
theorem trod_step {fuel : Nat} {l : List Value} {x : DataW H × List MemPlace} (h : DataW.trod enc Tryz.prog W 0 (fun _ => true) true fuel 31 l = some x) : ∃ s, SqAt W (.agg l.toArray) s := by
  obtain ⟨xs, m, _, _, hl, hxl, hi⟩ := DataW.trod_struct Tryz.underlying31 h
  rw [o_cells_step] at hl
  have hxl2 : xs.length = 5 := hxl
  have h0 := hi 0 _ rfl
  have h1 := hi 1 _ rfl
  have h2 := hi 2 _ rfl
  have h3 := hi 3 _ rfl
  have h4 := hi 4 _ rfl
  rw [List.getElem?_eq_getElem (by omega)] at h0 h1 h2 h3 h4
  obtain ⟨k, e0, _⟩ := DataW.trod_int Tryz.underlying3 h0
  obtain ⟨n, e1, _⟩ := DataW.trod_int Tryz.underlying3 h1
  obtain ⟨key, e2, _⟩ := DataW.trod_string Tryz.underlying9 h2
  obtain ⟨mv, r, L, Z, e3, k3⟩ := trod_mat h3
  obtain ⟨g, a, b, c, e4, k4, k5, k6⟩ := trod_mac (by simp; rw [o_cells_mac]; omega) h4
  refine ⟨⟨k, n, key, r, L, Z, g⟩, mv, a, b, c, ?_, k3, k4, k5, k6⟩
  have e0' : (l.drop 0).take 1 = [.int .i64 k] := e0
  have e1' : (l.drop 1).take 1 = [.int .i64 n] := e1
  have e2' : (l.drop 2).take 1 = [.string key] := e2
  have e3' : (l.drop 3).take 1 = [mv] := e3
  have e4' : ((l.drop 4).take 55).toArray = mac a b c g.rf g.pl := by
    have := Value.agg.inj e4
    exact this
  have e5 : (l.drop 4).take 55 = (mac a b c g.rf g.pl).toList := by rw [← e4']
  have key2 : l = [.int .i64 k] ++ ([.int .i64 n] ++ ([.string key] ++ ([mv] ++ (mac a b c g.rf g.pl).toList))) := by
    rw [← e0', ← e1', ← e2', ← e3', ← e5]
    have q4 : (l.drop 4).take 55 = l.drop 4 := List.take_of_length_le (by simp; omega)
    have q3 : (l.drop 3).take 1 ++ l.drop 4 = l.drop 3 := by
      have := List.take_append_drop 1 (l.drop 3)
      rw [List.drop_drop] at this
      exact this
    have q2 : (l.drop 2).take 1 ++ l.drop 3 = l.drop 2 := by
      have := List.take_append_drop 1 (l.drop 2)
      rw [List.drop_drop] at this
      exact this
    have q1 : (l.drop 1).take 1 ++ l.drop 2 = l.drop 1 := by
      have := List.take_append_drop 1 (l.drop 1)
      rw [List.drop_drop] at this
      exact this
    have q0 : (l.drop 0).take 1 ++ l.drop 1 = l := by
      rw [List.drop_zero]
      exact List.take_append_drop 1 l
    rw [q4, q3, q2, q1, q0]
  have e : l.toArray = spA k n key mv a b c g.rf g.pl := by
    refine Array.toList_inj.1 (key2.trans ?_)
    unfold spA
    rw [Array.toList_append]
    rfl
  rw [e]
set_option maxRecDepth 100000 in
theorem open_chain {base : Nat} {v : Value} {d : DataW H} {ps : List MemPlace} (hval : Value.okWide Tryz.prog W .any base 22 v) (h : DataW.Trod enc Tryz.prog W 0 (fun _ => true) true 22 v d ps) : ∃ n l, ChAt W v n l ∧ (v = .slice none 0 0 ∨ ∃ ad cap elems rest, v = .slice (some ad) n cap ∧ d = .slice elems rest ∧ elems.length = n) := by
  obtain ⟨a0, len0, cap0, rfl⟩ := okWide_slice Tryz.underlying22 hval
  obtain ⟨fuel, hf⟩ := h
  rcases DataW.trod_slice Tryz.underlying22 hf with ⟨e, _⟩ | ⟨a, len, cap, elems, rest, m, _, e, hd, hb, hl, hm, hlen, hel, _⟩
  · simp [Value.cells] at e
    obtain ⟨rfl, rfl, rfl⟩ := e
    exact ⟨0, fun _ => ⟨0, 0, ⟨#[]⟩, 0, fun _ => 0, fun _ _ => 0, ⟨0, fun _ _ => 0, fun _ => 0, fun _ _ => 0, 0, fun _ => 0, 0, fun _ => 0, fun _ => 0, fun _ => 0⟩⟩, ⟨none, 0, fun _ => #[], rfl, by decide, fun r hr => by omega, fun r hr => by omega⟩, .inl rfl⟩
  · simp [Value.cells] at e
    obtain ⟨rfl, rfl, rfl⟩ := e
    rw [o_cells_step] at hel
    have key : ∀ r, ∃ q : List Value × Sp, r < len0 → W.cells? 0 (a.add (r * 59)) 59 = some q.1 ∧ SqAt W (.agg q.1.toArray) q.2 := fun r => by
      by_cases hr : r < len0
      · have h1 := hel r hr
        rw [List.getElem?_eq_getElem (by omega)] at h1
        obtain ⟨cs, h2, h3⟩ := Option.bind_eq_some_iff.1 h1
        obtain ⟨s, hs⟩ := trod_step h3
        exact ⟨(cs, s), fun _ => ⟨h2, hs⟩⟩
      · exact ⟨([], ⟨0, 0, ⟨#[]⟩, 0, fun _ => 0, fun _ _ => 0, ⟨0, fun _ _ => 0, fun _ => 0, fun _ _ => 0, 0, fun _ => 0, 0, fun _ => 0, fun _ => 0, fun _ => 0⟩⟩), fun h => absurd h hr⟩
    obtain ⟨q, hq⟩ := Classical.axiomOfChoice key
    refine ⟨len0, fun r => (q r).2, ⟨some a, cap0, fun r => (q r).1.toArray, rfl, by omega, fun r hr => ?_, fun r hr => (hq r hr).2⟩, .inr ⟨a, cap0, _, _, rfl, congrArg Prod.fst hd, by rw [List.length_map]; exact hlen⟩⟩
    have h1 := World.cells?_some (hq r hr).1
    have hl0 := World.cells?_some (hq 0 (by omega)).1
    have h00 := hl0.2.2 0 (by omega)
    rw [Nat.zero_mul, List.getElem?_eq_getElem (by omega)] at h00
    have hsp := World.cell?_spot h00
    obtain ⟨bm, om, spot⟩ := a
    have hspot : spot = none := by simpa [Addr.add] using hsp
    subst hspot
    refine ⟨bm, om, rfl, fun j v hv => ?_⟩
    have hv2 : (q r).1[j]? = some v := hv
    have hj : j < 59 := by
      have := (List.getElem?_eq_some_iff.1 hv2).1
      omega
    have h2 := h1.2.2 j hj
    rw [hv2, Addr.add_mid, Addr.add_mid] at h2
    exact h2
end
end Go.Proofs.YtkohhdkkbaifoaaGreatDoor
