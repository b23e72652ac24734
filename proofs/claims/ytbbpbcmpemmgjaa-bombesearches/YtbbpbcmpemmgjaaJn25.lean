/-
  Several texts, joined: Fd4, Fd5, Fd6, Fd7.
-/
import Derived.Test.YtbbpbcmpemmgjaaFd3
/-
  Contracts of slices.Equal, of chart's alike, and of the look of chart's Find (chapter 9).
-/
namespace Go.Proofs.Ytbbpbcmpemmgjaa
open Go.RowKit PK Vg

end Go.Proofs.Ytbbpbcmpemmgjaa

/-
  Contract of chart's behind, with the look of Find (chapter 9).
-/
namespace Go.Proofs.Ytbbpbcmpemmgjaa
open Go.RowKit PK Vg

/-- The machine with the letters that come N-th in its windows. -/
def gmN (g : Gm) (N : Nat) : Gm := { g with sl := g.n, st := fun i => ((dig g.n N i : Nat) : Int) }
theorem gmN_ok {g : Gm} (h : gE g = 0) (N : Nat) : gE (gmN g N) = 0 := by
  have hins : ins g.n (fun i => ((dig g.n N i : Nat) : Int)) = true := (ins_iff _ _).2 fun i _ => by have := dig_lt g.n N i; omega
  unfold gE at h ⊢
  show (if g.n < 1 ∨ 4 < g.n then 5 else if whE (gmN g N) g.n ≠ 0 then whE (gmN g N) g.n else if g.rl ≠ g.n then 8 else if ins g.rl g.ri = false then 3 else if g.n ≠ g.n then 8 else if ins g.n (fun i => ((dig g.n N i : Nat) : Int)) = false then 3 else if Pm.wrong g.rf ≠ 0 then Pm.wrong g.rf else if undo true g.rf = false then 1 else if Pm.wrong g.pl ≠ 0 then Pm.wrong g.pl else if undo false g.pl = false then 1 else 0) = (0 : Int)
  have hw : ∀ k, whE (gmN g N) k = whE g k := fun k => by
    induction k with
    | zero => rfl
    | succ k ih =>
      show (if whE (gmN g N) k ≠ 0 then whE (gmN g N) k else if Pm.wrong (g.wi k) ≠ 0 then Pm.wrong (g.wi k) else if ins (g.nl k) (g.no k) = true then 0 else 3) = _
      rw [ih]
      rfl
  rw [hw, hins, if_neg (c := g.n ≠ g.n) (fun e => e rfl), if_neg (c := true = false) (by decide)]
  by_cases h1 : g.n < 1 ∨ 4 < g.n
  · rw [if_pos h1] at h; cases h
  rw [if_neg h1] at h ⊢
  by_cases h2 : whE g g.n ≠ 0
  · rw [if_pos h2] at h; exact absurd h h2
  rw [if_neg h2] at h ⊢
  by_cases h3 : g.rl ≠ g.n
  · rw [if_pos h3] at h; cases h
  rw [if_neg h3] at h ⊢
  by_cases h4 : ins g.rl g.ri = false
  · rw [if_pos h4] at h; cases h
  rw [if_neg h4] at h ⊢
  by_cases h5 : g.sl ≠ g.n
  · rw [if_pos h5] at h; cases h
  rw [if_neg h5] at h
  by_cases h6 : ins g.sl g.st = false
  · rw [if_pos h6] at h; cases h
  rw [if_neg h6] at h
  exact h
theorem f_own_step {w w' : World} {B : Nat} {T : TypeId} {s n : Nat} {v : Value} {l : List Value} (h : w.ownsRow B T s v n l) (hb : Below w.heap.size w w') : w'.ownsRow B T s v n l := by
  obtain ⟨h1, h2⟩ := h
  refine ⟨h1, ?_⟩
  rcases h2 with h2 | ⟨g, cap, cur, e, hB, hg, h3⟩
  · exact .inl h2
  · exact .inr ⟨g, cap, cur, e, hB, (hb.block g (Array.getElem?_eq_some_iff.1 hg).1).trans hg, h3⟩
/-- A row of numbers stays where a slice of slices grows. -/
theorem f_row_grown {W W' : World} {B n g : Nat} {v : Value} {vs : List Value} {c : Array Value} (hr : RowAt W g 3 c) (ho : W.ownsRow B 23 1 v n vs) (hg : W.grownBy W' v.ownBlock) : RowAt W' g 3 c := by
  refine (hg.block g hr.lt fun e => ?_).trans hr
  rcases ho.2 with ⟨rfl, _⟩ | ⟨p, cap, cur, rfl, _, hp, _⟩
  · cases e
  · have e' : some g = some p := e
    cases e'
    have : some (Obj.cells c 3 (0, 0)) = some (Obj.cells cur 23 (0, 0)) := hr.symm.trans hp
    injection this with this
    injection this with _ this
    exact absurd this (by decide)
theorem f_info_ints : (Try.prog.info? 23).map (fun i => (i.zero, i.size, i.bytes)) = some (some (.slice none 0 0), 1, 24) := by kernel_rfl
end Go.Proofs.Ytbbpbcmpemmgjaa

/-
  Contracts of chart's searchWrong, and of the document's Wrong (chapter 9).
-/
namespace Go.Proofs.Ytbbpbcmpemmgjaa
open Go.RowKit PK Vg

/-- What is wrong with a search. -/
def swE (g : Gm) (h : Int) : Int := if gE g ≠ 0 then gE g else if 3 < g.n then 4 else if h < 1 ∨ 16 < h then 3 else 0
theorem swE_zero {g : Gm} {h : Int} (e : swE g h = 0) : gE g = 0 ∧ g.n ≤ 3 ∧ 1 ≤ h ∧ h ≤ 16 := by
  unfold swE at e
  by_cases h1 : gE g = 0
  · rw [if_neg (fun e => e h1)] at e
    by_cases h2 : 3 < g.n
    · rw [if_pos h2] at e; cases e
    · rw [if_neg h2] at e
      by_cases h3 : h < 1 ∨ 16 < h
      · rw [if_pos h3] at e; cases e
      · omega
  · rw [if_pos h1] at e; exact absurd e h1
set_option maxRecDepth 100000 in
set_option maxHeartbeats 2000000 in
theorem psw_any (vm : Value) (g : Gm) (h : Int) (w : World) (hm : MacAt w vm g) : Calls Try.prog 48 #[vm, .int .i64 h] w fun e w' => e = .returned (.int .i64 (swE g h)) ∧ Below w.heap.size w w' := by
  have HC := (show Hid (∀ W, Below w.heap.size w W → Calls Try.prog 62 #[vm] W fun e w' => e = .returned (.int .i64 (gE g)) ∧ Below W.heap.size W w') from fun W hb => gw_any vm g W (hm.below hb))
  obtain ⟨a, b, c, rfl, hwh, _, _⟩ := hm
  obtain ⟨aw, cw, R, rfl, hmx, _, _⟩ := hwh
  unfold maxLen at hmx
  have hld := RowAt.new w 27 (mac (.slice aw g.n cw) b c g.rf g.pl)
  have hbe := (Below.refl w.heap.size w).alloc (Nat.le_refl _) (.cells (mac (.slice aw g.n cw) b c g.rf g.pl) 27)
  have HA0 := (show Hid ((mac (.slice aw g.n cw) b c g.rf g.pl)[0]? = some (.slice aw g.n cw)) from mac_0 _ _ _ _ _)
  have hA0s : (mac (.slice aw g.n cw) b c g.rf g.pl).size = 55 := mac_size _ _ _ _ _
  generalize mac (.slice aw g.n cw) b c g.rf g.pl = A0 at *
  go_enter Try.func48, Try.ntmps48
  go_upto_region 1 with fail
  generalize w.alloc (.cells A0 27) = W0 at *
  go_wp2_with (first | refine wpList_load_row rfl 27 _ rfl w.heap.size rfl 27 A0 (0, 0) _ hld Try.underlying27 rfl (by rw [hA0s]; exact v_info_mac) ?_)
  refine (HC.out _ hbe).mono ?_
  rintro e W1 ⟨rfl, hb⟩
  have hld1 := hld.below hb hld.lt
  have HB := (show Hid (Below w.heap.size w W1) from hbe.trans (hb.mono hbe.size))
  have c0 := hld1.cell HA0.out
  clear hb hld hbe HC hld1
  by_cases hz : gE g = 0
  case neg =>
    have hz2 : (gE g != 0) = true := by simpa using hz
    have HE : Hid (swE g h = gE g) := by unfold swE; rw [Hid, if_pos hz]
    generalize gE g = E at *
    clear hz c0
    go_wp2
    go_ret
    exact ⟨by rw [HE.out]; rfl, HB.out⟩
  rw [hz]
  by_cases h3 : 3 < g.n
  · have HE : Hid (swE g h = 4) := by unfold swE; rw [Hid, if_neg (fun e => e hz), if_pos h3]
    have h3i : (3 : Int) < (g.n : Int) := by omega
    clear hz
    generalize g.n = n at *
    clear h3
    go_wp2
    go_ret
    exact ⟨by rw [HE.out]; rfl, HB.out⟩
  have h3i : ¬ (3 : Int) < (g.n : Int) := by omega
  by_cases h4 : h < 1
  · have HE : Hid (swE g h = 3) := by unfold swE; rw [Hid, if_neg (fun e => e hz), if_neg h3, if_pos (.inl h4)]
    clear hz
    generalize g.n = n at *
    clear h3
    go_wp2
    go_ret
    exact ⟨by rw [HE.out]; rfl, HB.out⟩
  by_cases h5 : 16 < h
  · have HE : Hid (swE g h = 3) := by unfold swE; rw [Hid, if_neg (fun e => e hz), if_neg h3, if_pos (.inr h5)]
    clear hz
    generalize g.n = n at *
    clear h3
    go_wp2
    go_ret
    exact ⟨by rw [HE.out]; rfl, HB.out⟩
  have HE : Hid (swE g h = 0) := by unfold swE; rw [Hid, if_neg (fun e => e hz), if_neg h3, if_neg (by omega)]
  clear hz
  generalize g.n = n at *
  clear h3
  go_wp2
  go_ret
  exact ⟨by rw [HE.out]; rfl, HB.out⟩
set_option maxRecDepth 100000 in
set_option maxHeartbeats 2000000 in
theorem rsw_any (vm : Value) (g : Gm) (h : Int) (w : World) (hm : MacAt w vm g) : Calls Try.prog 22 #[vm, .int .i64 h] w fun e w' => e = .returned (.int .i64 (swE g h)) ∧ Below w.heap.size w w' := by
  have HC := (show Hid (∀ W, Below w.heap.size w W → Calls Try.prog 18 #[vm] W fun e w' => e = .returned (.int .i64 (gE g)) ∧ Below W.heap.size W w') from fun W hb => rgw_any vm g W (hm.below hb))
  obtain ⟨a, b, c, rfl, hwh, _, _⟩ := hm
  obtain ⟨aw, cw, R, rfl, hmx, _, _⟩ := hwh
  unfold maxLen at hmx
  have hld := RowAt.new w 27 (mac (.slice aw g.n cw) b c g.rf g.pl)
  have hbe := (Below.refl w.heap.size w).alloc (Nat.le_refl _) (.cells (mac (.slice aw g.n cw) b c g.rf g.pl) 27)
  have HA0 := (show Hid ((mac (.slice aw g.n cw) b c g.rf g.pl)[0]? = some (.slice aw g.n cw)) from mac_0 _ _ _ _ _)
  have hA0s : (mac (.slice aw g.n cw) b c g.rf g.pl).size = 55 := mac_size _ _ _ _ _
  generalize mac (.slice aw g.n cw) b c g.rf g.pl = A0 at *
  go_enter Try.func22, Try.ntmps22
  go_upto_region 1 with fail
  generalize w.alloc (.cells A0 27) = W0 at *
  go_wp2_with (first | refine wpList_load_row rfl 27 _ rfl w.heap.size rfl 27 A0 (0, 0) _ hld Try.underlying27 rfl (by rw [hA0s]; exact v_info_mac) ?_)
  refine (HC.out _ hbe).mono ?_
  rintro e W1 ⟨rfl, hb⟩
  have hld1 := hld.below hb hld.lt
  have HB := (show Hid (Below w.heap.size w W1) from hbe.trans (hb.mono hbe.size))
  have c0 := hld1.cell HA0.out
  clear hb hld hbe HC hld1
  by_cases hz : gE g = 0
  case neg =>
    have hz2 : (gE g != 0) = true := by simpa using hz
    have HE : Hid (swE g h = gE g) := by unfold swE; rw [Hid, if_pos hz]
    generalize gE g = E at *
    clear hz c0
    go_wp2
    go_ret
    exact ⟨by rw [HE.out]; rfl, HB.out⟩
  rw [hz]
  by_cases h3 : 3 < g.n
  · have HE : Hid (swE g h = 4) := by unfold swE; rw [Hid, if_neg (fun e => e hz), if_pos h3]
    have h3i : (3 : Int) < (g.n : Int) := by omega
    clear hz
    generalize g.n = n at *
    clear h3
    go_wp2
    go_ret
    exact ⟨by rw [HE.out]; rfl, HB.out⟩
  have h3i : ¬ (3 : Int) < (g.n : Int) := by omega
  by_cases h4 : h < 1
  · have HE : Hid (swE g h = 3) := by unfold swE; rw [Hid, if_neg (fun e => e hz), if_neg h3, if_pos (.inl h4)]
    clear hz
    generalize g.n = n at *
    clear h3
    go_wp2
    go_ret
    exact ⟨by rw [HE.out]; rfl, HB.out⟩
  by_cases h5 : 16 < h
  · have HE : Hid (swE g h = 3) := by unfold swE; rw [Hid, if_neg (fun e => e hz), if_neg h3, if_pos (.inr h5)]
    clear hz
    generalize g.n = n at *
    clear h3
    go_wp2
    go_ret
    exact ⟨by rw [HE.out]; rfl, HB.out⟩
  have HE : Hid (swE g h = 0) := by unfold swE; rw [Hid, if_neg (fun e => e hz), if_neg h3, if_neg (by omega)]
  clear hz
  generalize g.n = n at *
  clear h3
  go_wp2
  go_ret
  exact ⟨by rw [HE.out]; rfl, HB.out⟩
end Go.Proofs.Ytbbpbcmpemmgjaa

/-
  Contract of the document's Windows (chapter 9).
-/
namespace Go.Proofs.Ytbbpbcmpemmgjaa
open Go.RowKit PK Vg

/-- Numbers that somebody owns. -/
def OwI (W : World) (u : Value) (m : Nat) (f : Nat → Int) : Prop := ∃ B, W.ownsRow B 3 1 u m (ints m f).toList
theorem OwI.nums {W : World} {u : Value} {m : Nat} {f : Nat → Int} (h : OwI W u m f) : NumsAt W u m f := by
  obtain ⟨B, h⟩ := h
  exact own_nums h
theorem OwI.below {W W' : World} {u : Value} {m : Nat} {f : Nat → Int} (h : OwI W u m f) (hb : Below W.heap.size W W') : OwI W' u m f := by
  obtain ⟨B, h⟩ := h
  exact ⟨B, f_own_step h hb⟩
theorem OwI.congr {W : World} {u : Value} {m : Nat} {f g : Nat → Int} (h : OwI W u m f) (e : ∀ i, i < m → f i = g i) : OwI W u m g := by
  obtain ⟨B, h⟩ := h
  rw [ints_ext e] at h
  exact ⟨B, h⟩
theorem OwI.form {W : World} {u : Value} {m : Nat} {f : Nat → Int} (h : OwI W u m f) : (u = .slice none 0 0 ∧ m = 0) ∨ ∃ g c, u = .slice (some ⟨g, 0, none⟩) m c := by
  obtain ⟨B, h⟩ := h
  rcases h.2 with ⟨rfl, h0⟩ | ⟨g, cap, cur, rfl, _⟩
  · exact .inl ⟨rfl, h0⟩
  · exact .inr ⟨g, cap, rfl⟩
/-- They stay where a slice of slices grows. -/
theorem OwI.grown {W W' : World} {u v : Value} {m n B : Nat} {f : Nat → Int} {vs : List Value} (h : OwI W u m f) (ho : W.ownsRow B 23 1 v n vs) (hg : W.grownBy W' v.ownBlock) : OwI W' u m f := by
  obtain ⟨B', h1, h2⟩ := h
  refine ⟨B', h1, h2.imp id fun ⟨g, cap, cur, e, hB, hc, h3⟩ => ⟨g, cap, cur, e, hB, f_row_grown hc ho hg, h3⟩⟩
/-- Windows, in a slice of the call's own. -/
def LsO (W : World) (B : Nat) (v : Value) (L : List Nat) (m : Nat) : Prop := ∃ vs : List Value, W.ownsRow B 23 1 v L.length vs ∧ ∀ (k : Nat) (u : Value) (N : Nat), vs[k]? = some u → L[k]? = some N → OwI W u m fun i => ((dig m N i : Nat) : Int)
theorem LsO.nil (W : World) (B m : Nat) : LsO W B (.slice none 0 0) [] m := ⟨[], World.ownsRow_nil W B _ 1, fun k u N h => by simp at h⟩
theorem LsO.below {W W' : World} {B : Nat} {v : Value} {L : List Nat} {m : Nat} (h : LsO W B v L m) (hb : Below W.heap.size W W') : LsO W' B v L m := by
  obtain ⟨vs, h1, h2⟩ := h
  exact ⟨vs, f_own_step h1 hb, fun k u N a b => (h2 k u N a b).below hb⟩
/-- One more. -/
theorem LsO.more {W W' : World} {B : Nat} {v v' u : Value} {L : List Nat} {m N : Nat} {vs : List Value} (ho : W.ownsRow B 23 1 v L.length vs) (hv : ∀ (k : Nat) (u : Value) (N : Nat), vs[k]? = some u → L[k]? = some N → OwI W u m fun i => ((dig m N i : Nat) : Int)) (hu : OwI W u m fun i => ((dig m N i : Nat) : Int)) (ho' : W'.ownsRow B 23 1 v' (L.length + 1) (vs ++ [u])) (hg : W.grownBy W' v.ownBlock) : LsO W' B v' (L ++ [N]) m := by
  refine ⟨vs ++ [u], by rw [List.length_append]; exact ho', fun kk uu N' h1 h2 => ?_⟩
  have hvl : vs.length = L.length := by have := ho.1; simpa using this
  by_cases hkk : kk < vs.length
  · rw [List.getElem?_append_left hkk] at h1
    rw [List.getElem?_append_left (by omega)] at h2
    exact (hv kk uu N' h1 h2).grown ho hg
  · rw [List.getElem?_append_right (by omega)] at h1
    rw [List.getElem?_append_right (by omega), ← hvl] at h2
    cases hz : kk - vs.length with
    | zero =>
      rw [hz] at h1 h2
      simp at h1 h2
      subst h1 h2
      exact hu.grown ho hg
    | succ z => rw [hz] at h1; simp at h1
theorem LsO.len {W : World} {B : Nat} {v : Value} {L : List Nat} {m : Nat} (h : LsO W B v L m) : ∃ a c, v = .slice a L.length c := by
  obtain ⟨vs, h1, _⟩ := h
  rcases h1.2 with ⟨rfl, h0⟩ | ⟨g, cap, cur, rfl, _⟩
  · exact ⟨none, 0, by rw [h0]⟩
  · exact ⟨_, _, rfl⟩
theorem LsO.at_ {W : World} {B : Nat} {v : Value} {L : List Nat} {m : Nat} (h : LsO W B v L m) {i : Nat} (hi : i < L.length) : ∃ g c u, v = .slice (some ⟨g, 0, none⟩) L.length c ∧ W.cell? ⟨g, i, none⟩ = some u ∧ OwI W u m fun j => ((dig m (L.getD i 0) j : Nat) : Int) := by
  obtain ⟨vs, h1, h2⟩ := h
  have h1' := h1
  have hvl : vs.length = L.length := by have := h1.1; simpa using this
  rcases h1.2 with ⟨rfl, h0⟩ | ⟨g, cap, cur, rfl, _⟩
  · omega
  · have e1 : vs[i]? = some (vs[i]'(by omega)) := List.getElem?_eq_getElem _
    have e2 : L[i]? = some (L.getD i 0) := by simp [List.getD, hi]
    refine ⟨g, cap, vs[i]'(by omega), rfl, ?_, h2 i _ _ e1 e2⟩
    have := World.ownsRow.cells (g := g) h1' rfl i _ e1
    rw [add_none, Nat.zero_add] at this
    exact this
theorem dig_last (m N k : Nat) (hk : k < 26) : dig (m + 1) (N * 26 + k) m = k := by
  unfold dig
  rw [show m + 1 - 1 - m = 0 by omega, Nat.pow_zero, Nat.div_one]
  omega
theorem dig_first (m N k : Nat) (hk : k < 26) {i : Nat} (hi : i < m) : dig (m + 1) (N * 26 + k) i = dig m N i := by
  unfold dig
  rw [show m + 1 - 1 - i = (m - 1 - i) + 1 by omega, Nat.pow_succ, Nat.mul_comm (26 ^ (m - 1 - i)) 26, ← Nat.div_div_eq_div_mul, show (N * 26 + k) / 26 = N by omega]
theorem dig_snoc (m N k : Nat) (hk : k < 26) : (ints m fun i => ((dig m N i : Nat) : Int)).toList ++ [.int .i64 (k : Nat)] = (ints (m + 1) fun i => ((dig (m + 1) (N * 26 + k) i : Nat) : Int)).toList := by
  have e : ∀ n (f : Nat → Int), (ints n f).toList = (List.range n).map fun i => Value.int .i64 (f i) := fun n f => by simp [ints, tab]
  rw [e, e, List.range_succ, List.map_append]
  congr 1
  · exact List.map_congr_left fun i hi => by rw [dig_first m N k hk (by simpa using hi)]
  · simp [dig_last m N k hk]
/-- The first j of them. -/
def wsTo (j k : Nat) : List Nat := List.range (j * 26 + k)
theorem wsTo_next (j k : Nat) : wsTo j (k + 1) = wsTo j k ++ [j * 26 + k] := by
  unfold wsTo
  rw [← Nat.add_assoc, List.range_succ]
theorem wsTo_row (j : Nat) : wsTo j 26 = wsTo (j + 1) 0 := by
  unfold wsTo
  rw [Nat.succ_mul, Nat.add_zero]
theorem wsTo_len (j k : Nat) : (wsTo j k).length = j * 26 + k := by simp [wsTo]
set_option maxRecDepth 100000 in
set_option maxHeartbeats 4000000 in
theorem rwin0 (w : World) : Calls Try.prog 23 #[.int .i64 0] w fun e w' => ∃ v, e = .returned v ∧ LsO w' w.heap.size v (List.range (26 ^ 0)) 0 ∧ Below w.heap.size w w' := by
  have hr := RowAt.new w 23 #[.slice none 0 0]
  have hb := (Below.refl w.heap.size w).alloc (Nat.le_refl _) (.cells #[.slice none 0 0] 23)
  go_enter Try.func23, Try.ntmps23
  go_wp2
  go_ret
  refine ⟨_, rfl, ⟨[.slice none 0 0], f_own_full hr (Nat.le_refl _) rfl (by decide), fun k u N h1 h2 => ?_⟩, hb⟩
  cases k with
  | zero =>
    simp at h1
    subst h1
    exact ⟨0, World.ownsRow_nil _ _ _ 1⟩
  | succ k => simp at h1
set_option maxRecDepth 100000 in
set_option maxHeartbeats 8000000 in
theorem rwinS (n : Nat) (hn : n ≤ 3) (ih : ∀ w, Calls Try.prog 23 #[.int .i64 (n : Nat)] w fun e w' => ∃ v, e = .returned v ∧ LsO w' w.heap.size v (List.range (26 ^ n)) n ∧ Below w.heap.size w w') (w : World) : Calls Try.prog 23 #[.int .i64 ((n + 1 : Nat) : Int)] w fun e w' => ∃ v, e = .returned v ∧ LsO w' w.heap.size v (List.range (26 ^ (n + 1))) (n + 1) ∧ Below w.heap.size w w' := by
  obtain ⟨i0, hi0, hz0, hz1, hz2⟩ := f_info_parts f_info_ints
  obtain ⟨j0, hj0, hy0, hy1, hy2⟩ := f_info_parts f_info_int
  have hne : ((((n + 1 : Nat) : Int)) == 0) = false := by simp; omega
  have hsub : ((n + 1 : Nat) : Int) - 1 = (n : Int) := by omega
  have IH := (show Hid _ from ih)
  have hpw := pow26_le (m := n) (by omega)
  clear ih
  go_enter Try.func23, Try.ntmps23
  go_wp2_with fail
  refine Calls.mono (IH.out _) ?_
  rintro e W1 ⟨v1, rfl, hls, hb⟩
  obtain ⟨a1, c1, hv1⟩ := hls.len
  rw [List.length_range] at hv1
  have HLS := (show Hid (∀ W, Below W1.heap.size W1 W → LsO W w.heap.size v1 (List.range (26 ^ n)) n) from fun W hb => hls.below hb)
  subst hv1
  have HB1 := (show Hid (Below w.heap.size w W1) from hb)
  have hsz1 := hb.size
  clear hb hls IH
  generalize hDD : 26 ^ n = D at *
  have HDD := (show Hid (26 ^ n = D) from hDD)
  clear hDD
  go_wp2_with fail
  go_loopw [3, 14] (fun o x W => ∃ (j : Nat) (u : Value), j ≤ D ∧ x = .int .i64 (j : Nat) ∧ u = o ∧ LsO W W1.heap.size u (wsTo j 0) (n + 1) ∧ Below W1.heap.size W1 W) (fun _ x _ => ((D : Int) - intOf x).toNat)
  case atStart => exact ⟨0, _, by omega, rfl, rfl, LsO.nil _ _ _, Below.refl _ _⟩
  case round =>
    obtain ⟨j, u, hj, rfl, rfl, hlo, hbw⟩ := hrel
    by_cases hlt : j < D
    case neg =>
      obtain rfl : j = D := by omega
      have hnn : ¬ ((j : Nat) : Int) < ((j : Nat) : Int) := by omega
      have HF := (show Hid (LsO wr w.heap.size u (List.range (26 ^ (n + 1))) (n + 1)) from by
        obtain ⟨vs, h1, h2⟩ := hlo
        have e : wsTo j 0 = List.range (26 ^ (n + 1)) := by unfold wsTo; rw [Nat.add_zero, Nat.pow_succ, HDD.out]
        rw [e] at h1 h2
        exact ⟨vs, ⟨h1.1, h1.2.imp id fun ⟨g, cap, cur, a, b, c⟩ => ⟨g, cap, cur, a, by omega, c⟩⟩, h2⟩)
      have HBE := (show Hid (Below w.heap.size w wr) from HB1.out.trans (hbw.mono hsz1))
      clear hlo hbw hlt HLS
      go_wp2
      go_ret
      exact ⟨u, by first | rfl | trivial, HF.out, HBE.out⟩
    have HLT : Hid (j < D) := hlt
    have hlt2 : (j : Int) < (D : Int) := by omega
    obtain ⟨g1, cc1, ul, ev, hcl, hoi⟩ := (HLS.out W1 (Below.refl _ _)).at_ (i := j) (by rw [List.length_range]; exact hlt)
    rw [List.length_range] at ev
    cases ev
    have hgd : (List.range D).getD j 0 = j := by simp [List.getD, hlt]
    rw [hgd] at hoi
    have HUL := (show Hid (∀ W, Below W1.heap.size W1 W → OwI W ul n fun i => ((dig n j i : Nat) : Int)) from fun W hb => hoi.below hb)
    have hcell := (hbw.cell (p := ⟨g1, j, none⟩) (cell_block hcl)).trans hcl
    have hform := hoi.form
    have HLO := (show Hid (LsO wr W1.heap.size u (wsTo j 0) (n + 1)) from hlo)
    have HBW := (show Hid (Below W1.heap.size W1 wr) from hbw)
    clear hlt hgd hoi hcl hlo hbw HLS
    rcases hform with ⟨rfl, rfl⟩ | ⟨gl, cl, rfl⟩
    · go_wp2_with fail
      go_loopw [3, 6] (fun o x W => ∃ (k : Nat) (u : Value), k ≤ 26 ∧ x = .int .i64 (k : Nat) ∧ u = o ∧ LsO W W1.heap.size u (wsTo j k) (0 + 1) ∧ Below W1.heap.size W1 W) (fun _ x _ => ((26 : Int) - intOf x).toNat)
      case atStart => exact ⟨0, _, by omega, rfl, rfl, HLO.out, HBW.out⟩
      case round =>
        clear HLO HBW hcell
        obtain ⟨k, u, hk, rfl, rfl, hlo, hbw⟩ := hrel
        by_cases hltk : k < 26
        case neg =>
          obtain rfl : k = 26 := by omega
          rw [wsTo_row] at hlo
          have HLO := (show Hid (LsO wr W1.heap.size u (wsTo (j + 1) 0) (0 + 1)) from hlo)
          have HBW := (show Hid (Below W1.heap.size W1 wr) from hbw)
          clear hlo hbw hltk HUL
          go_wp2
          go_roundw
          case rel => exact ⟨j + 1, u, HLT.out, by go_num, by first | rfl | trivial, HLO.out, HBW.out⟩
          case measure => have := HLT.out; simp [intOf]; omega
        have HLK : Hid (k < 26) := hltk
        have hlk2 : (k : Int) < 26 := by omega
        have HNX := (show Hid _ from wsTo_next j k)
        have hoi := HUL.out wr hbw
        obtain ⟨vs, hown, hvs⟩ := hlo
        have HOW := (show Hid (wr.ownsRow W1.heap.size 23 1 u (wsTo j k).length vs) from hown)
        have HVS := (show Hid (∀ (q : Nat) (u : Value) (N : Nat), vs[q]? = some u → (wsTo j k)[q]? = some N → OwI wr u (0 + 1) fun i => ((dig (0 + 1) N i : Nat) : Int)) from hvs)
        have hszw := hbw.size
        have HBW := (show Hid (Below W1.heap.size W1 wr) from hbw)
        have how : (wr.alloc (.cells #[] 3)).ownsRow wr.heap.size 3 1 (.slice (some ⟨wr.heap.size, 0, none⟩) 0 0) 0 [] := f_own_full (RowAt.new wr 3 #[]) (Nat.le_refl _) rfl (by decide)
        have hb1 := (Below.refl wr.heap.size wr).alloc (Nat.le_refl _) (.cells #[] 3)
        have hnil : True := trivial
        clear hltk hown hvs hbw
        go_wp2_with (first
          | (at_builtin
             refine wpList_append_own_none rfl _ _ 23 rfl wr.heap.size 3 j0 1 Try.underlying23 hj0 _ _ _ rfl how rfl ?_
             have h25 : (wr.alloc (.cells #[] 3)).ownsRow wr.heap.size 3 1 (.slice (some ⟨wr.heap.size, 0, none⟩) 0 0) 0 (ints 0 fun i => ((dig 0 j i : Nat) : Int)).toList := how
             have hb2 := hb1
             have hsx := hb2.size
             clear hnil hoi how hb1
             generalize wr.alloc (.cells #[] 3) = X2 at *)
          | (at_builtin
             refine wpList_append_own _ rfl _ _ 23 rfl wr.heap.size 3 j0 (.int .i64 0) 1 8 Try.underlying23 hj0 hy0 hy1 hy2 rfl (by decide) _ _ _ rfl (World.ownsRow.alloc h25 _) ⟨X2.heap.size, 0, none⟩ 1 1 [.int .i64 (k : Nat)] rfl rfl (cell_one_new _ _ _) (fun u hu => by simp at hu; subst hu; rfl) (by unfold maxLen; omega) (by omega) (by simp; omega) ?_
             intro v28 X4 h28 g28 n28
             have hb4 := (hb2.alloc hb2.size (.cells #[.int .i64 (k : Nat)] 3)).grown g28 (by simp; omega) (fun p hp => (World.ownsRow.lt h25 p hp).1)
             have h28' : X4.ownsRow wr.heap.size 3 1 v28 (0 + 1) (ints (0 + 1) fun i => ((dig (0 + 1) (j * 26 + k) i : Nat) : Int)).toList := by rw [← dig_snoc 0 j k HLK.out]; exact h28
             have H28 := (show Hid (OwI X4 v28 (0 + 1) fun i => ((dig (0 + 1) (j * 26 + k) i : Nat) : Int)) from ⟨_, h28'⟩)
             obtain ⟨g3, c3, rfl⟩ : ∃ g3 c3, v28 = .slice (some ⟨g3, 0, none⟩) (0 + 1) c3 := by
               rcases h28'.2 with ⟨_, h0⟩ | ⟨g, cap, cur, rfl, _⟩
               · omega
               · exact ⟨g, cap, rfl⟩
             have HOX := (show Hid (X4.ownsRow W1.heap.size 23 1 u (wsTo j k).length vs) from f_own_step HOW.out hb4)
             have HVX := (show Hid (∀ (q : Nat) (u : Value) (N : Nat), vs[q]? = some u → (wsTo j k)[q]? = some N → OwI X4 u (0 + 1) fun i => ((dig (0 + 1) N i : Nat) : Int)) from fun q u N h1 h2 => (HVS.out q u N h1 h2).below hb4)
             have HB4 := (show Hid (Below W1.heap.size W1 X4) from HBW.out.trans (hb4.mono hszw))
             have hsz4 := HB4.out.size
             clear h28 h28' g28 n28 hb2 hb4 h25 HOW HVS HBW)
          | (at_builtin
             refine wpList_append_own _ rfl _ _ 29 rfl W1.heap.size 23 i0 (.slice none 0 0) 1 24 Try.underlying29 hi0 hz0 hz1 hz2 rfl (by decide) _ _ _ rfl (World.ownsRow.alloc HOX.out _) ⟨X4.heap.size, 0, none⟩ 1 1 [.slice (some ⟨g3, 0, none⟩) (0 + 1) c3] rfl rfl (cell_one_new _ _ _) (fun u hu => by simp at hu; subst hu; rfl) (by rw [wsTo_len]; unfold maxLen; omega) (by rw [wsTo_len]; omega) (by simp; omega) ?_
             intro v30 X6 h30 g30 _))
        go_roundw
        case rel =>
          have hal := (Below.refl X4.heap.size X4).alloc (Nat.le_refl _) (.cells #[.slice (some ⟨g3, 0, none⟩) (0 + 1) c3] 23)
          refine ⟨_, _, _, _, _, _, _, _, _, _, _, _, _, _, _, ⟨k + 1, v30, HLK.out, by go_num, by first | rfl | trivial, ?_, ?_⟩, rfl⟩
          · rw [HNX.out]
            exact LsO.more (World.ownsRow.alloc HOX.out _) (fun q u N h1 h2 => (HVX.out q u N h1 h2).below hal) (H28.out.below hal) h30 g30
          · exact (HB4.out.alloc hsz4 _).grown g30 (by simp; omega) (fun p hp => (World.ownsRow.lt HOX.out p hp).1)
        case measure => have := HLK.out; simp [intOf]; omega
    · go_wp2_with fail
      go_loopw [3, 6] (fun o x W => ∃ (k : Nat) (u : Value), k ≤ 26 ∧ x = .int .i64 (k : Nat) ∧ u = o ∧ LsO W W1.heap.size u (wsTo j k) (n + 1) ∧ Below W1.heap.size W1 W) (fun _ x _ => ((26 : Int) - intOf x).toNat)
      case atStart => exact ⟨0, _, by omega, rfl, rfl, HLO.out, HBW.out⟩
      case round =>
        clear HLO HBW hcell
        obtain ⟨k, u, hk, rfl, rfl, hlo, hbw⟩ := hrel
        by_cases hltk : k < 26
        case neg =>
          obtain rfl : k = 26 := by omega
          rw [wsTo_row] at hlo
          have HLO := (show Hid (LsO wr W1.heap.size u (wsTo (j + 1) 0) (n + 1)) from hlo)
          have HBW := (show Hid (Below W1.heap.size W1 wr) from hbw)
          clear hlo hbw hltk HUL
          go_wp2
          go_roundw
          case rel => exact ⟨j + 1, u, HLT.out, by go_num, by first | rfl | trivial, HLO.out, HBW.out⟩
          case measure => have := HLT.out; simp [intOf]; omega
        have HLK : Hid (k < 26) := hltk
        have hlk2 : (k : Int) < 26 := by omega
        have HNX := (show Hid _ from wsTo_next j k)
        have hoi := HUL.out wr hbw
        obtain ⟨vs, hown, hvs⟩ := hlo
        have HOW := (show Hid (wr.ownsRow W1.heap.size 23 1 u (wsTo j k).length vs) from hown)
        have HVS := (show Hid (∀ (q : Nat) (u : Value) (N : Nat), vs[q]? = some u → (wsTo j k)[q]? = some N → OwI wr u (n + 1) fun i => ((dig (n + 1) N i : Nat) : Int)) from hvs)
        have hszw := hbw.size
        have HBW := (show Hid (Below W1.heap.size W1 wr) from hbw)
        have how : (wr.alloc (.cells #[] 3)).ownsRow wr.heap.size 3 1 (.slice (some ⟨wr.heap.size, 0, none⟩) 0 0) 0 [] := f_own_full (RowAt.new wr 3 #[]) (Nat.le_refl _) rfl (by decide)
        have hb1 := (Below.refl wr.heap.size wr).alloc (Nat.le_refl _) (.cells #[] 3)
        have hnews : ∀ q u, (ints n fun i => ((dig n j i : Nat) : Int)).toList[q]? = some u → (wr.alloc (.cells #[] 3)).cell? ((⟨gl, 0, none⟩ : Addr).add q) = some u := fun q u hu => by
          obtain ⟨B', ho⟩ := hoi
          exact (hb1.cell (p := (⟨gl, 0, none⟩ : Addr).add q) (cell_block (World.ownsRow.cells (g := gl) ho rfl q _ hu))).trans (World.ownsRow.cells (g := gl) ho rfl q _ hu)
        have HNW := (show Hid _ from hnews)
        have HON := (show Hid (∀ u ∈ (ints n fun i => ((dig n j i : Nat) : Int)).toList, u.oneCell' = true) from fun u hu => by
          have := ints_one n fun i => ((dig n j i : Nat) : Int)
          rw [Array.all_eq_true_iff_forall_mem] at this
          exact this u (by simpa using hu))
        have hll : (ints n fun i => ((dig n j i : Nat) : Int)).toList.length = n * 1 := by rw [Array.length_toList, ints_size, Nat.mul_one]
        clear hnews hoi
        clear hltk hown hvs hbw
        go_wp2_with (first
          | (at_builtin
             refine wpList_append_own _ rfl _ _ 23 rfl wr.heap.size 3 j0 (.int .i64 0) 1 8 Try.underlying23 hj0 hy0 hy1 hy2 rfl (by decide) _ _ _ rfl how ⟨gl, 0, none⟩ n cl (ints n fun i => ((dig n j i : Nat) : Int)).toList rfl hll HNW.out HON.out (by unfold maxLen; omega) (by omega) (by simp) ?_
             intro v25 X2 h25 g25 _
             rw [Nat.zero_add, List.nil_append] at h25
             have hb2 := hb1.grown g25 (by simp) (fun p hp => (World.ownsRow.lt how p hp).1)
             have hsx := hb2.size
             clear how hb1 g25 HNW HON hll)
          | (at_builtin
             refine wpList_append_own _ rfl _ _ 23 rfl wr.heap.size 3 j0 (.int .i64 0) 1 8 Try.underlying23 hj0 hy0 hy1 hy2 rfl (by decide) _ _ _ rfl (World.ownsRow.alloc h25 _) ⟨X2.heap.size, 0, none⟩ 1 1 [.int .i64 (k : Nat)] rfl rfl (cell_one_new _ _ _) (fun u hu => by simp at hu; subst hu; rfl) (by unfold maxLen; omega) (by omega) (by simp; omega) ?_
             intro v28 X4 h28 g28 n28
             have hb4 := (hb2.alloc hb2.size (.cells #[.int .i64 (k : Nat)] 3)).grown g28 (by simp; omega) (fun p hp => (World.ownsRow.lt h25 p hp).1)
             have h28' : X4.ownsRow wr.heap.size 3 1 v28 (n + 1) (ints (n + 1) fun i => ((dig (n + 1) (j * 26 + k) i : Nat) : Int)).toList := by rw [← dig_snoc n j k HLK.out]; exact h28
             have H28 := (show Hid (OwI X4 v28 (n + 1) fun i => ((dig (n + 1) (j * 26 + k) i : Nat) : Int)) from ⟨_, h28'⟩)
             obtain ⟨g3, c3, rfl⟩ : ∃ g3 c3, v28 = .slice (some ⟨g3, 0, none⟩) (n + 1) c3 := by
               rcases h28'.2 with ⟨_, h0⟩ | ⟨g, cap, cur, rfl, _⟩
               · omega
               · exact ⟨g, cap, rfl⟩
             have HOX := (show Hid (X4.ownsRow W1.heap.size 23 1 u (wsTo j k).length vs) from f_own_step HOW.out hb4)
             have HVX := (show Hid (∀ (q : Nat) (u : Value) (N : Nat), vs[q]? = some u → (wsTo j k)[q]? = some N → OwI X4 u (n + 1) fun i => ((dig (n + 1) N i : Nat) : Int)) from fun q u N h1 h2 => (HVS.out q u N h1 h2).below hb4)
             have HB4 := (show Hid (Below W1.heap.size W1 X4) from HBW.out.trans (hb4.mono hszw))
             have hsz4 := HB4.out.size
             clear h28 h28' g28 n28 hb2 hb4 h25 HOW HVS HBW)
          | (at_builtin
             refine wpList_append_own _ rfl _ _ 29 rfl W1.heap.size 23 i0 (.slice none 0 0) 1 24 Try.underlying29 hi0 hz0 hz1 hz2 rfl (by decide) _ _ _ rfl (World.ownsRow.alloc HOX.out _) ⟨X4.heap.size, 0, none⟩ 1 1 [.slice (some ⟨g3, 0, none⟩) (n + 1) c3] rfl rfl (cell_one_new _ _ _) (fun u hu => by simp at hu; subst hu; rfl) (by rw [wsTo_len]; unfold maxLen; omega) (by rw [wsTo_len]; omega) (by simp; omega) ?_
             intro v30 X6 h30 g30 _))
        go_roundw
        case rel =>
          have hal := (Below.refl X4.heap.size X4).alloc (Nat.le_refl _) (.cells #[.slice (some ⟨g3, 0, none⟩) (n + 1) c3] 23)
          refine ⟨k + 1, v30, HLK.out, by go_num, by first | rfl | trivial, ?_, ?_⟩
          · rw [HNX.out]
            exact LsO.more (World.ownsRow.alloc HOX.out _) (fun q u N h1 h2 => (HVX.out q u N h1 h2).below hal) (H28.out.below hal) h30 g30
          · exact (HB4.out.alloc hsz4 _).grown g30 (by simp; omega) (fun p hp => (World.ownsRow.lt HOX.out p hp).1)
        case measure => have := HLK.out; simp [intOf]; omega
end Go.Proofs.Ytbbpbcmpemmgjaa
