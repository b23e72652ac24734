/-
  Several texts, joined: FdU, FdV, FgM.
-/
import Derived.Test.YtbbpbcmpemmgjaaJn36
import Derived.Conc.LeavingOf
import Derived.LoneHanded
/-
  A machine, and three lists of numbers, as arguments: opened, with the room of each slice.
-/
namespace Go.Proofs.Ytbbpbcmpemmgjaa
open Go.RowKit PK Go.ChangeShapes Go.WideShapes Go.ChangeAt

theorem add_zero' (a : Addr) : a.add 0 = a := by unfold Addr.add; simp
theorem rt_at {W : World} {a : Addr} {v : Value} (h : W.cell? a = some v) : a.spot = none ∧ ∃ y T fr, W.heap[a.block]? = some (.cells y T fr) := by
  refine ⟨World.cell?_spot h, ?_⟩
  unfold World.cell? at h
  split at h
  · exact ⟨_, _, _, by assumption⟩
  · cases h
theorem rt_add {W : World} {a : Addr} {v : Value} (h : W.cell? (a.add 0) = some v) : a.spot = none ∧ ∃ y T fr, W.heap[a.block]? = some (.cells y T fr) := by
  rw [add_zero'] at h
  exact rt_at h
section
variable {H : Type} {enc : TypeId × Value → H} {W : World}
set_option maxRecDepth 100000 in
theorem trod_nums_r {fuel : Nat} {l : List Value} {x : DataW H × List MemPlace} (h : DataW.trod enc Try.prog W 0 (fun _ => true) true fuel 23 l = some x) : ∃ v n f, l = [v] ∧ NumsAt W v n f ∧ Rt W v ∧ Fit 23 x.1 n := by
  rcases open_ints Try.underlying23 Try.underlying3 o_cells_int h with ⟨hcs0, _⟩ | ⟨a, len, cap, zs, hcs0, _, hl, hm, hzl, hx, hcell, _⟩
  · exact ⟨_, 0, fun _ => 0, hcs0, ⟨none, 0, rfl, by decide, fun c hc => by omega⟩, (fun _ _ _ e => by cases e), .inl rfl⟩
  · simp at hzl
    refine ⟨_, len, fun c => zs.getD c 0, hcs0, ⟨some a, cap, rfl, by omega, fun c hc => ?_⟩, (fun a' l' c' e hp => by cases e; exact rt_add (hcell 0 (by omega))), ?_⟩
    · have h0 := hcell c (by omega)
      have hsp := World.cell?_spot (hcell 0 (by omega))
      obtain ⟨bm, om, spot⟩ := a
      have hspot : spot = none := by simpa [Addr.add] using hsp
      subst hspot
      exact ⟨bm, om, rfl, by rw [← add_plain]; exact h0⟩
    · have e := (Prod.ext_iff.1 hx).1
      rw [e]
      refine .inr ⟨_, by simp only [DataW.weights, Try.underlying23]; exact List.mem_cons_self .., ?_⟩
      rw [s_bytes_int]
      refine Nat.mul_le_mul_right _ ?_
      simp [lits]
      omega
set_option maxRecDepth 100000 in
theorem trod_wheel_r {fuel : Nat} {l : List Value} {x : DataW H × List MemPlace} (h : DataW.trod enc Try.prog W 0 (fun _ => true) true fuel 62 l = some x) : ∃ f v n k, l = (whl f v).toList ∧ NumsAt W v n k ∧ Rt W v ∧ Fit 62 x.1 n := by
  obtain ⟨xs, m, _, hx, hl, hxl, hi⟩ := DataW.trod_struct Try.underlying62 h
  rw [o_cells_wheel] at hl
  have hxl2 : xs.length = 2 := hxl
  have h0 := hi 0 _ rfl
  have h1 := hi 1 _ rfl
  rw [List.getElem?_eq_getElem (by omega)] at h0 h1
  obtain ⟨f, hf⟩ := trod_perm h0
  obtain ⟨v, n, k, hv, hk, hrt, hn⟩ := trod_nums_r h1
  refine ⟨f, v, n, k, ?_, hk, hrt, ?_⟩
  · have e1 : (l.drop 0).take 26 = (ints 26 f).toList := hf
    have e2 : (l.drop 26).take 1 = [v] := hv
    have e3 : l = (l.take 26) ++ ((l.drop 26).take 1) := by
      rw [List.take_of_length_le (l := l.drop 26) (by simp; omega), List.take_append_drop]
    rw [e3, e2, show l.take 26 = (ints 26 f).toList from e1]
    simp [whl]
  · rw [hx]
    rcases hn with hn | ⟨z, hz, hle⟩
    · exact .inl hn
    · refine .inr ⟨z, ?_, hle⟩
      simp only [DataW.weights, Try.underlying62]
      exact DataW.weights_mem_each (j := 1) (t := 23) rfl (by rw [List.getElem?_map, List.getElem?_eq_getElem (by omega)]; rfl) z hz
set_option maxRecDepth 100000 in
theorem trod_wheels_r {fuel : Nat} {l : List Value} {x : DataW H × List MemPlace} (h : DataW.trod enc Try.prog W 0 (fun _ => true) true fuel 22 l = some x) : ∃ v n wi nl no, l = [v] ∧ WhR W v n wi nl no ∧ Rt W v ∧ ∀ r, r < n → Fit 22 x.1 (nl r) := by
  rcases DataW.trod_slice Try.underlying22 h with ⟨e, _⟩ | ⟨a, len, cap, elems, rest, m, _, rfl, hx, hb, hl, hm, hlen, hel, hsp0, _⟩
  · exact ⟨_, 0, fun _ _ => 0, fun _ => 0, fun _ _ => 0, e, ⟨none, 0, fun _ => .slice none 0 0, rfl, by decide, fun r hr => by omega, fun r hr => by omega⟩, (fun _ _ _ e => by cases e), fun r hr => by omega⟩
  · rw [o_cells_wheel] at hel
    have key : ∀ r, ∃ q : (Nat → Int) × Value × Nat × (Nat → Int), r < len → W.cells? 0 (a.add (r * 27)) 27 = some (whl q.1 q.2.1).toList ∧ (NumsAt W q.2.1 q.2.2.1 q.2.2.2 ∧ Rt W q.2.1) ∧ Fit 22 x.1 q.2.2.1 := fun r => by
      by_cases hr : r < len
      · have h1 := hel r hr
        rw [List.getElem?_eq_getElem (by omega)] at h1
        obtain ⟨cs, h2, h3⟩ := Option.bind_eq_some_iff.1 h1
        obtain ⟨f, v, n, k, e, hk, hrt, hn⟩ := trod_wheel_r h3
        refine ⟨(f, v, n, k), fun _ => ⟨by rw [h2, e], ⟨hk, hrt⟩, ?_⟩⟩
        rw [hx]
        rcases hn with hn | ⟨z, hz, hle⟩
        · exact .inl hn
        · refine .inr ⟨z, ?_, hle⟩
          simp only [DataW.weights, Try.underlying22]
          exact List.mem_cons_of_mem _ (List.mem_append.2 (.inl (weights_mem_all (List.mem_map.2 ⟨_, List.getElem_mem _, rfl⟩) z hz)))
      · exact ⟨(fun _ => 0, .slice none 0 0, 0, fun _ => 0), fun h => absurd h hr⟩
    obtain ⟨q, hq⟩ := Classical.axiomOfChoice key
    refine ⟨_, len, fun r => (q r).1, fun r => (q r).2.2.1, fun r => (q r).2.2.2, rfl, ⟨some a, cap, fun r => (q r).2.1, rfl, by omega, fun r hr => ?_, fun r hr => (hq r hr).2.1⟩, ?_, fun r hr => (hq r hr).2.2⟩
    rotate_left
    · intro a' l' c' e hp
      cases e
      by_cases hl0 : 0 < len
      · have h00 := (World.cells?_some (hq 0 hl0).1).2.2 0 (by omega)
        rw [Array.getElem?_toList, whl_get _ _ (by decide), Nat.zero_mul] at h00
        exact rt_add (a := a) (by rw [add_zero'] at h00; first | exact h00 | (rw [add_zero']; exact h00))
      · obtain ⟨hr1, hr2⟩ := hsp0 rfl
        have h1 := hr2 0 (by omega)
        rw [List.getElem?_eq_getElem (by omega)] at h1
        obtain ⟨cs, h2, _⟩ := Option.bind_eq_some_iff.1 h1
        rw [o_cells_wheel] at h2
        have h3 := (World.cells?_some h2).2.2 0 (by omega)
        have h4 := (World.cells?_some h2).2.1
        rw [List.getElem?_eq_getElem (by omega)] at h3
        have hl1 : len = 0 := by omega
        rw [hl1, Nat.zero_add, Nat.zero_mul, add_zero'] at h3
        exact rt_add (a := a) (by first | exact h3 | (rw [add_zero']; exact h3))
    have h1 := (World.cells?_some (hq r hr).1).2.2
    have h00 := (World.cells?_some (hq 0 (by omega)).1).2.2 0 (by omega)
    rw [Array.getElem?_toList, whl_get _ _ (by decide), Nat.zero_mul] at h00
    have hsp := World.cell?_spot h00
    obtain ⟨bm, om, spot⟩ := a
    have hspot : spot = none := by simpa [Addr.add] using hsp
    subst hspot
    refine ⟨bm, om, rfl, fun j v hv => ?_⟩
    have hj : j < 27 := by
      have := (List.getElem?_eq_some_iff.1 hv).1
      rw [Array.length_toList, whl_size] at this
      exact this
    have h2 := h1 j hj
    rw [hv, Addr.add_mid, Addr.add_mid] at h2
    exact h2
set_option maxHeartbeats 2000000 in
set_option maxRecDepth 100000 in
theorem open_machine_r {base : Nat} {v : Value} {d : DataW H} {ps : List MemPlace} (hval : Value.okWide Try.prog W .any base 27 v) (h : DataW.Trod enc Try.prog W 0 (fun _ => true) true 27 v d ps) : ∃ g, MacR W v g ∧ (∀ r, r < g.n → Fit 27 d (g.nl r)) ∧ Fit 27 d g.rl := by
  obtain ⟨cs, rfl, hsz, _⟩ : ∃ cs, v = .agg cs ∧ cs.size = Try.prog.cellsOf 27 ∧ Row.okWide Try.prog W .any base 27 cs := by
    unfold Value.okWide at hval
    rw [Try.underlying27] at hval
    exact hval
  rw [o_cells_mac] at hsz
  obtain ⟨fuel, hf⟩ := h
  have hcs : (Value.agg cs).cells.toList = cs.toList := rfl
  rw [hcs] at hf
  obtain ⟨xs, m, _, hx, hl, hxl, hi⟩ := DataW.trod_struct Try.underlying27 hf
  have hxl2 : xs.length = 5 := hxl
  have h0 := hi 0 _ rfl
  have h1 := hi 1 _ rfl
  have h2 := hi 2 _ rfl
  have h3 := hi 3 _ rfl
  have h4 := hi 4 _ rfl
  rw [List.getElem?_eq_getElem (by omega)] at h0 h1 h2 h3 h4
  obtain ⟨v0, n, wi, nl, no, e0, k0, rt0, hb0⟩ := trod_wheels_r h0
  obtain ⟨v1, rl, ri, e1, k1, rt1, hb1⟩ := trod_nums_r h1
  obtain ⟨v2, sl, st, e2, k2, rt2, _⟩ := trod_nums_r h2
  obtain ⟨rf, e3⟩ := trod_perm h3
  obtain ⟨pl, e4⟩ := trod_perm h4
  have hbd : ∀ r, r < n → Fit 27 d (nl r) := fun r hr => by
    have e' : d = .agg (xs.map (·.1)) := (Prod.ext_iff.1 hx).1
    rw [e']
    rcases hb0 r hr with hn | ⟨z, hz, hle⟩
    · exact .inl hn
    · refine .inr ⟨z, ?_, hle⟩
      simp only [DataW.weights, Try.underlying27]
      exact DataW.weights_mem_each (j := 0) (t := 22) rfl (by rw [List.getElem?_map, List.getElem?_eq_getElem (by omega)]; rfl) z hz
  have hbr : Fit 27 d rl := by
    have e' : d = .agg (xs.map (·.1)) := (Prod.ext_iff.1 hx).1
    rw [e']
    rcases hb1 with hn | ⟨z, hz, hle⟩
    · exact .inl hn
    · refine .inr ⟨z, ?_, hle⟩
      simp only [DataW.weights, Try.underlying27]
      exact DataW.weights_mem_each (j := 1) (t := 23) rfl (by rw [List.getElem?_map, List.getElem?_eq_getElem (by omega)]; rfl) z hz
  refine ⟨⟨n, wi, nl, no, rl, ri, sl, st, rf, pl⟩, ⟨v0, v1, v2, ?_, k0, k1, k2, rt0, rt1, rt2⟩, hbd, hbr⟩
  have e0' : (cs.toList.drop 0).take 1 = [v0] := e0
  have e1' : (cs.toList.drop 1).take 1 = [v1] := e1
  have e2' : (cs.toList.drop 2).take 1 = [v2] := e2
  have e3' : (cs.toList.drop 3).take 26 = (ints 26 rf).toList := e3
  have e4' : (cs.toList.drop 29).take 26 = (ints 26 pl).toList := e4
  have hlen : cs.toList.length = 55 := by simpa using hsz
  have key : cs.toList = [v0] ++ ([v1] ++ ([v2] ++ ((ints 26 rf).toList ++ (ints 26 pl).toList))) := by
    rw [← e0', ← e1', ← e2', ← e3', ← e4']
    generalize cs.toList = l at hlen
    have q4 : (l.drop 29).take 26 = l.drop 29 := List.take_of_length_le (by simp; omega)
    have q3 : (l.drop 3).take 26 ++ l.drop 29 = l.drop 3 := by
      have := List.take_append_drop 26 (l.drop 3)
      rw [List.drop_drop] at this
      exact this
    have q2 : (l.drop 2).take 1 ++ l.drop 3 = l.drop 2 := by
      have := List.take_append_drop 1 (l.drop 2)
      rw [List.drop_drop] at this
      exact this
    have q1 : (l.drop 1).take 1 ++ l.drop 2 = l.drop 1 := by
      have := List.take_append_drop 1 (l.drop 1)
      rw [List.drop_drop] at this
      exact this
    have q0 : (l.drop 0).take 1 ++ l.drop 1 = l := by
      rw [List.drop_zero]
      exact List.take_append_drop 1 l
    rw [q4, q3, q2, q1, q0]
  have e : cs = mac v0 v1 v2 rf pl := by
    refine Array.toList_inj.1 (key.trans ?_)
    unfold mac
    rw [Array.toList_append, Array.toList_append]
    rfl
  rw [e]
end
end Go.Proofs.Ytbbpbcmpemmgjaa

/-
  A lone call's run is as good as one in company.
-/
namespace Go.Proofs.Ytbbpbcmpemmgjaa
open Go.Conc

theorem lone_good {P : Program} {f : FuncId} {args : Array Value} {w : World} {R : Value → World → Prop} (h : Calls P f args w fun e w' => ∃ v, e = .returned v ∧ R v w') (hi : P.inits.idxOf? f = none) :
    ∃ N last o w' t', runNT P (N + 1) (solo (G (Frame.enter P f args .normal) []) w) #[] = (.ended o w', t') ∧ runN P N (solo (G (Frame.enter P f args .normal) []) w) = .next last ∧ step P last = .ended o w' ∧ Conc.Good P R last o w' t' := by
  have h' : Calls P f args w fun | .returned v, w' => R v w' | _, _ => False := h.mono fun e w' ⟨v, e1, e2⟩ => by
    subst e1
    exact e2
  obtain ⟨n, v, w', fr, hn, hend, hp⟩ := h'.done_lone hi
  have hall := allBy_of_lone P n _ _ hn (by simp [lone]) rfl
  have hT : runNT P (n + 1) (lone (Frame.enter P f args .normal) [] w) #[] = (.ended (.done v) w', (runNT P (n + 1) (lone (Frame.enter P f args .normal) [] w) #[]).2) := by
    refine Prod.ext ?_ rfl
    rw [runNT_fst]
    exact hend
  obtain ⟨_, a2, a3⟩ := alone_of_lone (w' := w') hn
  refine ⟨n, _, _, _, _, hT, hn, step_of_runs hn hend, v, rfl, hp, fun said => ?_, a2, ⟨fun g hg => by simp [lone] at hg, rfl⟩, a3⟩
  exact not_race_of_allBy hall
end Go.Proofs.Ytbbpbcmpemmgjaa

/-
  BombeSearches where something is wrong with what is searched: no goroutine is begun (a lone walk).
-/
namespace Go.Proofs.Ytbbpbcmpemmgjaa
open Go.RowKit PK Vg

/-- The two boxes of a search. -/
structure BsS (w W : World) (A : Array Value) (cr : ByteArray) : Prop where
  m : RowAt W w.heap.size 27 A
  c : RowAt W (w.heap.size + 1) 9 #[.string cr]
  below : Below w.heap.size w W
theorem BsS.new (w : World) (A : Array Value) (cr : ByteArray) : BsS w ((w.alloc (.cells A 27)).alloc (.cells #[.string cr] 9)) A cr := by
  refine ⟨(RowAt.new w _ _).alloc _, ?_, ((Below.refl _ w).alloc (Nat.le_refl _) _).alloc (by simp) _⟩
  have h := RowAt.new (w.alloc (.cells A 27)) 9 #[.string cr]
  rw [World.size_alloc] at h
  exact h
theorem BsS.step {w W W' : World} {A : Array Value} {cr : ByteArray} (h : BsS w W A cr) (hb : Below W.heap.size W W') : BsS w W' A cr := ⟨h.m.below hb h.m.lt, h.c.below hb h.c.lt, h.below.trans (hb.mono h.below.size)⟩
set_option maxRecDepth 100000 in
set_option maxHeartbeats 4000000 in
theorem psearch_bad1 (vm : Value) (g : Gm) (cr te : ByteArray) (h : Int) (hE : bwE g cr.data.toList te.data.toList ≠ 0) (w : World) (hm : MacAt w vm g) : Calls Try.prog 13 #[vm, .string cr, .string te, .int .i64 h] w fun e w' => e = .returned (.tuple #[.slice none 0 0, .int .i64 (bwE g cr.data.toList te.data.toList)]) ∧ Below w.heap.size w w' := by
  have HC := (show Hid (∀ W, Below w.heap.size w W → Calls Try.prog 30 #[vm, .string cr, .string te] W fun e w' => e = .returned (.int .i64 (bwE g cr.data.toList te.data.toList)) ∧ Below W.heap.size W w') from fun W hb => bwrong_any vm g cr te W (hm.below hb))
  obtain ⟨a, b, c, rfl, _⟩ := hm
  have h0 := BsS.new w (mac a b c g.rf g.pl) cr
  have hA0s : (mac a b c g.rf g.pl).size = 55 := mac_size _ _ _ _ _
  generalize mac a b c g.rf g.pl = A0 at *
  have hz2 : (bwE g cr.data.toList te.data.toList != 0) = true := by simpa using hE
  clear hE
  generalize bwE g cr.data.toList te.data.toList = E at *
  go_enter Try.func13, Try.ntmps13
  go_upto_region 1 with fail
  generalize (w.alloc (.cells A0 27)).alloc (.cells #[.string cr] 9) = W0 at *
  have hcc := h0.c.cell (i := 0) rfl
  go_wp2_with (first | refine wpList_load_row rfl 27 _ rfl w.heap.size rfl 27 A0 (0, 0) _ h0.m Try.underlying27 rfl (by rw [hA0s]; exact v_info_mac) ?_)
  refine (HC.out _ h0.below).mono ?_
  rintro e W1 ⟨rfl, hb⟩
  have HB := (show Hid _ from (h0.step hb).below)
  clear hb h0 HC hcc
  go_wp2
  go_ret2
  exact ⟨rfl, HB.out⟩
end Go.Proofs.Ytbbpbcmpemmgjaa
