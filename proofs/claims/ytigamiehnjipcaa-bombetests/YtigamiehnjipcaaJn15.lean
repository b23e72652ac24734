/-
  Several texts, joined: LBTe, OOpen.
-/
import Derived.Test.YtigamiehnjipcaaBRGu
import Derived.Test.YtigamiehnjipcaaBoRp
import Derived.Test.YtigamiehnjipcaaJn10
import Derived.Test.YtigamiehnjipcaaJn9
import Derived.Test.YtigamiehnjipcaaJn3
import Derived.Test.YtigamiehnjipcaaChecked
import Derived.Deep.Matrix
import Derived.ProofKit
import Derived.OpenShut
import Derived.ShutString
import Derived.ChangeOld
import Derived.Carry
import Derived.ChangeSlices
/-
  BombeTests, over the contracts of Places, Test and the document's.
-/
namespace Go.Proofs.Ytigamiehnjipcaa
open Go.RowKit PK Vg

set_option maxRecDepth 100000 in
set_option maxHeartbeats 4000000 in
theorem tests_run (a b c : Value) (rf pl : Nat → Int) (tx cr te : ByteArray) (E1 A1 E2 : Int) (n : Nat) (f : Nat → Int) (A : Nat) (pr : Nat → Nat → Int) (L : List Nat) (hL : L.length ≤ 1000) (w : World)
    (H1 : Hid (∀ W, Calls Try.prog 16 #[.string tx, .string cr] W fun e w' => ∃ v, e = .returned (.tuple #[v, .agg #[.int .i64 E1, .int .i64 A1]]) ∧ NumsAt w' v n f ∧ Below W.heap.size W w'))
    (H2 : Hid (∀ W, Calls Try.prog 17 #[.string tx, .string cr] W fun e w' => ∃ v, e = .returned (.tuple #[v, .agg #[.int .i64 E1, .int .i64 A1]]) ∧ NumsAt w' v n f ∧ Below W.heap.size W w'))
    (H3 : Hid (∀ W, Below w.heap.size w W → Calls Try.prog 19 #[.agg (mac a b c rf pl), .string cr, .string te] W fun e w' => ∃ v, e = .returned (.tuple #[v, .int .i64 E2]) ∧ GsAt w' v (fun b => gsF A b (pr b)) L ∧ Below W.heap.size W w'))
    (H4 : Hid (∀ W, Below w.heap.size w W → Calls Try.prog 20 #[.agg (mac a b c rf pl), .string cr, .string te] W fun e w' => ∃ v, e = .returned (.tuple #[v, .int .i64 E2]) ∧ GsAt w' v (fun b => gsF A b (pr b)) L ∧ Below W.heap.size W w')) : Calls Try.prog 4 #[.string tx, .string cr, .agg (mac a b c rf pl), .string te] w fun e w' => e = .returned (.bool true) ∧ Below w.heap.size w w' := by
  have h0 := MgAt.new w a b c rf pl
  have hEE : (E2 == E2) = true := by simp
  go_enter Try.func4, Try.ntmps4
  go_wp2_with fail
  refine (H1.out _).mono ?_
  rintro e W1 ⟨v1, rfl, hv1, hb⟩
  have h1 := FmAt.new (h0.step hb) (.int .i64 E1) (.int .i64 A1)
  have n1 := hv1.below ((Below.refl W1.heap.size W1).alloc (Nat.le_refl _) (.cells #[.int .i64 E1, .int .i64 A1] 39))
  clear hb h0 H1 hv1
  go_upto_region 2 with fail
  generalize W1.alloc (.cells #[.int .i64 E1, .int .i64 A1] 39) = V1 at *
  obtain ⟨q10, hq⟩ : ∃ x, x = W1.heap.size := ⟨_, rfl⟩
  rw [← hq] at h1 ⊢
  clear hq
  go_wp2_with fail
  refine (H2.out _).mono ?_
  rintro e W2 ⟨v2, rfl, hv2, hb⟩
  have hba := (Below.refl W2.heap.size W2).alloc (Nat.le_refl _) (.cells #[.int .i64 E1, .int .i64 A1] 39)
  have h2 := (h1.step hb).alloc (.cells #[.int .i64 E1, .int .i64 A1] 39)
  have f2 := RowAt.new W2 39 #[.int .i64 E1, .int .i64 A1]
  have n1b := (n1.below hb).below hba
  have n2 := hv2.below hba
  clear hb h1 H2 hv2 n1 hba
  go_upto_region 3 with fail
  generalize W2.alloc (.cells #[.int .i64 E1, .int .i64 A1] 39) = V2 at *
  obtain ⟨q12, hq⟩ : ∃ x, x = W2.heap.size := ⟨_, rfl⟩
  rw [← hq] at f2 ⊢
  clear hq
  have HSA := (show Hid (Calls Try.prog 18 #[v1, v2] V2 fun e w' => e = .returned (.bool true) ∧ Below V2.heap.size V2 w') from same9_ok v1 v2 n f V2 n1b n2)
  go_wp2_with fail
  refine HSA.out.mono ?_
  rintro e W3 ⟨rfl, hb⟩
  have h3 := h2.step hb
  have f3 := f2.below hb f2.lt
  have a0 := h3.f.cell (i := 0) rfl
  have a1 := h3.f.cell (i := 1) rfl
  have b0 := f3.cell (i := 0) rfl
  have b1 := f3.cell (i := 1) rfl
  have hmr := h3.mg.row
  have HMG := (show Hid _ from h3.mg)
  clear hb h2 f2 h3 f3 HSA n1b n2
  go_wp2_with (first | refine wpList_load_row rfl 27 _ rfl w.heap.size rfl 27 (mac a b c rf pl) (0, 0) _ hmr Try.underlying27 rfl (by rw [mac_size]; exact v_info_mac) ?_)
  refine (H3.out _ HMG.out.below).mono ?_
  rintro e W4 ⟨v3, rfl, hg3, hb⟩
  have h4 := HMG.out.step hb
  have hmr4 := h4.row
  clear hb HMG H3 a0 a1 b0 b1 hmr
  go_wp2_with (first | refine wpList_load_row rfl 27 _ rfl w.heap.size rfl 27 (mac a b c rf pl) (0, 0) _ hmr4 Try.underlying27 rfl (by rw [mac_size]; exact v_info_mac) ?_)
  refine (H4.out _ h4.below).mono ?_
  rintro e W5 ⟨v4, rfl, hg4, hb⟩
  have h5 := h4.step hb
  have hg3b := hg3.below hb
  have HBS := (show Hid (Calls Try.prog 21 #[v3, v4] W5 fun e w' => e = .returned (.bool true) ∧ Below W5.heap.size W5 w') from bsame_ok v3 v4 A pr L hL W5 hg3b hg4)
  have HBE := (show Hid _ from h5.below)
  clear hb h4 H4 hmr4 hg3 hg4 hg3b h5
  go_wp2_with fail
  refine HBS.out.mono ?_
  rintro e W6 ⟨rfl, hb⟩
  have HB6 := (show Hid _ from HBE.out.trans (hb.mono HBE.out.size))
  clear hb HBE HBS
  go_wp2
  go_ret
  exact ⟨rfl, HB6.out⟩
/-- BombeTests, of anything. -/
theorem bombetests_of (tx cr : ByteArray) (vm : Value) (g : Gm) (te : ByteArray) (w : World) (hm : MacAt w vm g) : Calls Try.prog 4 #[.string tx, .string cr, vm, .string te] w fun e w' => e = .returned (.bool true) ∧ Below w.heap.size w w' := by
  have H1 := fun W => places_any tx cr W
  have H2 := fun W => rplaces_any tx cr W
  by_cases hE : bwE g cr.data.toList te.data.toList = 0
  · obtain ⟨A, ok, pr, ht⟩ := tst_exists hE
    have H3 := fun W (hb : Below w.heap.size w W) => test_ok vm g cr te A ok pr ht W (hm.below hb)
    have H4 := fun W (hb : Below w.heap.size w W) => rtest_ok vm g cr te A ok pr ht W (hm.below hb)
    obtain ⟨a, b, c, rfl, _⟩ := hm
    refine tests_run a b c g.rf g.pl tx cr te (plE tx.data.toList cr.data.toList) (plAt tx.data.toList cr.data.toList) 0 (plL tx.data.toList cr.data.toList).length (fun i => (((plL tx.data.toList cr.data.toList).getD i 0 : Nat) : Int)) A pr (okTo ok 26) (by have := ok_len ok 26; omega) w (fun W => (H1 W).mono ?_) (fun W => (H2 W).mono ?_) H3 H4
    all_goals
      rintro e w' ⟨v, h1, h2, h3⟩
      exact ⟨v, h1, nums_of_own h2, h3⟩
  · have H3 := fun W (hb : Below w.heap.size w W) => test_wrong vm g cr te W (hm.below hb) hE
    have H4 := fun W (hb : Below w.heap.size w W) => rtest_wrong vm g cr te W (hm.below hb) hE
    obtain ⟨a, b, c, rfl, _⟩ := hm
    refine tests_run a b c g.rf g.pl tx cr te (plE tx.data.toList cr.data.toList) (plAt tx.data.toList cr.data.toList) (bwE g cr.data.toList te.data.toList) (plL tx.data.toList cr.data.toList).length (fun i => (((plL tx.data.toList cr.data.toList).getD i 0 : Nat) : Int)) 0 (fun _ _ => 0) [] (by decide) w (fun W => (H1 W).mono ?_) (fun W => (H2 W).mono ?_) (fun W hb => (H3 W hb).mono ?_) (fun W hb => (H4 W hb).mono ?_)
    · rintro e w' ⟨v, h1, h2, h3⟩
      exact ⟨v, h1, nums_of_own h2, h3⟩
    · rintro e w' ⟨v, h1, h2, h3⟩
      exact ⟨v, h1, nums_of_own h2, h3⟩
    all_goals
      rintro e w' ⟨h1, h3⟩
      exact ⟨_, h1, ⟨none, 0, rfl, fun j hj => absurd hj (Nat.not_lt_zero j)⟩, h3⟩
end Go.Proofs.Ytigamiehnjipcaa

/-
  A machine as an argument: opened.
-/
namespace Go.Proofs.Ytigamiehnjipcaa
open Go.RowKit PK Go.ChangeShapes Go.WideShapes Go.ChangeAt

theorem o_cells_int : Try.prog.cellsOf 3 = 1 := by kernel_rfl
theorem o_cells_perm : Try.prog.cellsOf 25 = 26 := by kernel_rfl
theorem o_cells_ints : Try.prog.cellsOf 23 = 1 := by kernel_rfl
theorem o_cells_wheel : Try.prog.cellsOf 94 = 27 := by kernel_rfl
theorem o_cells_wheels : Try.prog.cellsOf 22 = 1 := by kernel_rfl
theorem o_cells_mac : Try.prog.cellsOf 27 = 55 := by kernel_rfl
section
variable {H : Type} {enc : TypeId × Value → H} {W : World}
set_option maxRecDepth 100000 in
theorem trod_nums {fuel : Nat} {l : List Value} {x : DataW H × List MemPlace} (h : DataW.trod enc Try.prog W 0 (fun _ => true) true fuel 23 l = some x) : ∃ v n f, l = [v] ∧ NumsAt W v n f := by
  rcases open_ints Try.underlying23 Try.underlying3 o_cells_int h with ⟨hcs0, _⟩ | ⟨a, len, cap, zs, hcs0, _, hl, hm, hzl, _, hcell, _⟩
  · exact ⟨_, 0, fun _ => 0, hcs0, none, 0, rfl, by decide, fun c hc => by omega⟩
  · simp at hzl
    refine ⟨_, len, fun c => zs.getD c 0, hcs0, some a, cap, rfl, by omega, fun c hc => ?_⟩
    have h0 := hcell c (by omega)
    have hsp := World.cell?_spot (hcell 0 (by omega))
    obtain ⟨bm, om, spot⟩ := a
    have hspot : spot = none := by simpa [Addr.add] using hsp
    subst hspot
    exact ⟨bm, om, rfl, by rw [← add_plain]; exact h0⟩
set_option maxRecDepth 100000 in
theorem trod_perm {fuel : Nat} {l : List Value} {x : DataW H × List MemPlace} (h : DataW.trod enc Try.prog W 0 (fun _ => true) true fuel 25 l = some x) : ∃ f, l = (ints 26 f).toList := by
  obtain ⟨xs, m, _, _, hl, hxl, hi⟩ := DataW.trod_array Try.underlying25 h
  rw [o_cells_perm] at hl
  rw [o_cells_int] at hi
  have key : ∀ i, i < 26 → ∃ n : Int, l[i]? = some (.int .i64 n) := fun i h26 => by
    have h1 := hi i h26
    have h2 : xs[i]? = some (xs[i]'(by omega)) := List.getElem?_eq_getElem _
    rw [h2] at h1
    obtain ⟨n, e, _, _⟩ := DataW.trod_int Try.underlying3 h1
    refine ⟨n, ?_⟩
    have h3 : i < l.length := by omega
    have h4 : ((l.drop (i * 1)).take 1) = [l[i]'h3] := by
      rw [Nat.mul_one, List.drop_eq_getElem_cons h3]
      rfl
    rw [h4] at e
    simp at e
    rw [List.getElem?_eq_getElem h3, e]
  refine ⟨fun i => match l[i]? with | some (.int _ n) => n | _ => 0, ?_⟩
  apply List.ext_getElem?
  intro i
  have ex : ∀ f, (ints 26 f).toList[i]? = (ints 26 f)[i]? := fun f => Array.getElem?_toList
  rw [ex]
  by_cases h26 : i < 26
  · obtain ⟨n, hn⟩ := key i h26
    rw [ints_get _ h26, hn]
  · have e1 : l[i]? = none := List.getElem?_eq_none (by omega)
    rw [e1, Array.getElem?_eq_none (by rw [ints_size]; omega)]
set_option maxRecDepth 100000 in
theorem trod_wheel {fuel : Nat} {l : List Value} {x : DataW H × List MemPlace} (h : DataW.trod enc Try.prog W 0 (fun _ => true) true fuel 94 l = some x) : ∃ f v n k, l = (whl f v).toList ∧ NumsAt W v n k := by
  obtain ⟨xs, m, _, _, hl, hxl, hi⟩ := DataW.trod_struct Try.underlying94 h
  rw [o_cells_wheel] at hl
  have hxl2 : xs.length = 2 := hxl
  have h0 := hi 0 _ rfl
  have h1 := hi 1 _ rfl
  rw [List.getElem?_eq_getElem (by omega)] at h0 h1
  obtain ⟨f, hf⟩ := trod_perm h0
  obtain ⟨v, n, k, hv, hk⟩ := trod_nums h1
  refine ⟨f, v, n, k, ?_, hk⟩
  have e1 : (l.drop 0).take 26 = (ints 26 f).toList := hf
  have e2 : (l.drop 26).take 1 = [v] := hv
  have e3 : l = (l.take 26) ++ ((l.drop 26).take 1) := by
    rw [List.take_of_length_le (l := l.drop 26) (by simp; omega), List.take_append_drop]
  rw [e3, e2, show l.take 26 = (ints 26 f).toList from e1]
  simp [whl]
set_option maxRecDepth 100000 in
theorem trod_wheels {fuel : Nat} {l : List Value} {x : DataW H × List MemPlace} (h : DataW.trod enc Try.prog W 0 (fun _ => true) true fuel 22 l = some x) : ∃ v n wi nl no, l = [v] ∧ WheelsAt W v n wi nl no := by
  rcases DataW.trod_slice Try.underlying22 h with ⟨e, _⟩ | ⟨a, len, cap, elems, rest, m, _, rfl, _, hb, hl, hm, hlen, hel, _⟩
  · exact ⟨_, 0, fun _ _ => 0, fun _ => 0, fun _ _ => 0, e, none, 0, fun _ => .slice none 0 0, rfl, by decide, fun r hr => by omega, fun r hr => by omega⟩
  · rw [o_cells_wheel] at hel
    have key : ∀ r, ∃ q : (Nat → Int) × Value × Nat × (Nat → Int), r < len → W.cells? 0 (a.add (r * 27)) 27 = some (whl q.1 q.2.1).toList ∧ NumsAt W q.2.1 q.2.2.1 q.2.2.2 := fun r => by
      by_cases hr : r < len
      · have h1 := hel r hr
        rw [List.getElem?_eq_getElem (by omega)] at h1
        obtain ⟨cs, h2, h3⟩ := Option.bind_eq_some_iff.1 h1
        obtain ⟨f, v, n, k, e, hk⟩ := trod_wheel h3
        exact ⟨(f, v, n, k), fun _ => ⟨by rw [h2, e], hk⟩⟩
      · exact ⟨(fun _ => 0, .slice none 0 0, 0, fun _ => 0), fun h => absurd h hr⟩
    obtain ⟨q, hq⟩ := Classical.axiomOfChoice key
    refine ⟨_, len, fun r => (q r).1, fun r => (q r).2.2.1, fun r => (q r).2.2.2, rfl, some a, cap, fun r => (q r).2.1, rfl, by omega, fun r hr => ?_, fun r hr => (hq r hr).2⟩
    have h1 := (World.cells?_some (hq r hr).1).2.2
    have h00 := (World.cells?_some (hq 0 (by omega)).1).2.2 0 (by omega)
    rw [Array.getElem?_toList, whl_get _ _ (by decide), Nat.zero_mul] at h00
    have hsp := World.cell?_spot h00
    obtain ⟨bm, om, spot⟩ := a
    have hspot : spot = none := by simpa [Addr.add] using hsp
    subst hspot
    refine ⟨bm, om, rfl, fun j v hv => ?_⟩
    have hj : j < 27 := by
      have := (List.getElem?_eq_some_iff.1 hv).1
      rw [Array.length_toList, whl_size] at this
      exact this
    have h2 := h1 j hj
    rw [hv, Addr.add_mid, Addr.add_mid] at h2
    exact h2
set_option maxHeartbeats 2000000 in
set_option maxRecDepth 100000 in
theorem open_machine {base : Nat} {v : Value} {d : DataW H} {ps : List MemPlace} (hval : Value.okWide Try.prog W .any base 27 v) (h : DataW.Trod enc Try.prog W 0 (fun _ => true) true 27 v d ps) : ∃ g, MacAt W v g := by
  obtain ⟨cs, rfl, hsz, _⟩ : ∃ cs, v = .agg cs ∧ cs.size = Try.prog.cellsOf 27 ∧ Row.okWide Try.prog W .any base 27 cs := by
    unfold Value.okWide at hval
    rw [Try.underlying27] at hval
    exact hval
  rw [o_cells_mac] at hsz
  obtain ⟨fuel, hf⟩ := h
  have hcs : (Value.agg cs).cells.toList = cs.toList := rfl
  rw [hcs] at hf
  obtain ⟨xs, m, _, _, hl, hxl, hi⟩ := DataW.trod_struct Try.underlying27 hf
  have hxl2 : xs.length = 5 := hxl
  have h0 := hi 0 _ rfl
  have h1 := hi 1 _ rfl
  have h2 := hi 2 _ rfl
  have h3 := hi 3 _ rfl
  have h4 := hi 4 _ rfl
  rw [List.getElem?_eq_getElem (by omega)] at h0 h1 h2 h3 h4
  obtain ⟨v0, n, wi, nl, no, e0, k0⟩ := trod_wheels h0
  obtain ⟨v1, rl, ri, e1, k1⟩ := trod_nums h1
  obtain ⟨v2, sl, st, e2, k2⟩ := trod_nums h2
  obtain ⟨rf, e3⟩ := trod_perm h3
  obtain ⟨pl, e4⟩ := trod_perm h4
  refine ⟨⟨n, wi, nl, no, rl, ri, sl, st, rf, pl⟩, v0, v1, v2, ?_, k0, k1, k2⟩
  have e0' : (cs.toList.drop 0).take 1 = [v0] := e0
  have e1' : (cs.toList.drop 1).take 1 = [v1] := e1
  have e2' : (cs.toList.drop 2).take 1 = [v2] := e2
  have e3' : (cs.toList.drop 3).take 26 = (ints 26 rf).toList := e3
  have e4' : (cs.toList.drop 29).take 26 = (ints 26 pl).toList := e4
  have hlen : cs.toList.length = 55 := by simpa using hsz
  have key : cs.toList = [v0] ++ ([v1] ++ ([v2] ++ ((ints 26 rf).toList ++ (ints 26 pl).toList))) := by
    rw [← e0', ← e1', ← e2', ← e3', ← e4']
    generalize cs.toList = l at hlen
    have q4 : (l.drop 29).take 26 = l.drop 29 := List.take_of_length_le (by simp; omega)
    have q3 : (l.drop 3).take 26 ++ l.drop 29 = l.drop 3 := by
      have := List.take_append_drop 26 (l.drop 3)
      rw [List.drop_drop] at this
      exact this
    have q2 : (l.drop 2).take 1 ++ l.drop 3 = l.drop 2 := by
      have := List.take_append_drop 1 (l.drop 2)
      rw [List.drop_drop] at this
      exact this
    have q1 : (l.drop 1).take 1 ++ l.drop 2 = l.drop 1 := by
      have := List.take_append_drop 1 (l.drop 1)
      rw [List.drop_drop] at this
      exact this
    have q0 : (l.drop 0).take 1 ++ l.drop 1 = l := by
      rw [List.drop_zero]
      exact List.take_append_drop 1 l
    rw [q4, q3, q2, q1, q0]
  have e : cs = mac v0 v1 v2 rf pl := by
    refine Array.toList_inj.1 (key.trans ?_)
    unfold mac
    rw [Array.toList_append, Array.toList_append]
    rfl
  rw [e]
end
end Go.Proofs.Ytigamiehnjipcaa
