/-
  Contract of chart's behind, with the look of Find (chapter 9).
-/
import Derived.Test.YthfjkhmedpilnaaFd4
namespace Go.Proofs.Ythfjkhmedpilnaa
open Go.RowKit PK Vg

/-- The machine with the letters that come N-th in its windows. -/
def gmN (g : Gm) (N : Nat) : Gm := { g with sl := g.n, st := fun i => ((dig g.n N i : Nat) : Int) }
theorem gmN_ok {g : Gm} (h : gE g = 0) (N : Nat) : gE (gmN g N) = 0 := by
  have hins : ins g.n (fun i => ((dig g.n N i : Nat) : Int)) = true := (ins_iff _ _).2 fun i _ => by have := dig_lt g.n N i; omega
  unfold gE at h ⊢
  show (if g.n < 1 ∨ 4 < g.n then 5 else if whE (gmN g N) g.n ≠ 0 then whE (gmN g N) g.n else if g.rl ≠ g.n then 8 else if ins g.rl g.ri = false then 3 else if g.n ≠ g.n then 8 else if ins g.n (fun i => ((dig g.n N i : Nat) : Int)) = false then 3 else if Pm.wrong g.rf ≠ 0 then Pm.wrong g.rf else if undo true g.rf = false then 1 else if Pm.wrong g.pl ≠ 0 then Pm.wrong g.pl else if undo false g.pl = false then 1 else 0) = (0 : Int)
  have hw : ∀ k, whE (gmN g N) k = whE g k := fun k => by
    induction k with
    | zero => rfl
    | succ k ih =>
      show (if whE (gmN g N) k ≠ 0 then whE (gmN g N) k else if Pm.wrong (g.wi k) ≠ 0 then Pm.wrong (g.wi k) else if ins (g.nl k) (g.no k) = true then 0 else 3) = _
      rw [ih]
      rfl
  rw [hw, hins, if_neg (c := g.n ≠ g.n) (fun e => e rfl), if_neg (c := true = false) (by decide)]
  by_cases h1 : g.n < 1 ∨ 4 < g.n
  · rw [if_pos h1] at h; cases h
  rw [if_neg h1] at h ⊢
  by_cases h2 : whE g g.n ≠ 0
  · rw [if_pos h2] at h; exact absurd h h2
  rw [if_neg h2] at h ⊢
  by_cases h3 : g.rl ≠ g.n
  · rw [if_pos h3] at h; cases h
  rw [if_neg h3] at h ⊢
  by_cases h4 : ins g.rl g.ri = false
  · rw [if_pos h4] at h; cases h
  rw [if_neg h4] at h ⊢
  by_cases h5 : g.sl ≠ g.n
  · rw [if_pos h5] at h; cases h
  rw [if_neg h5] at h
  by_cases h6 : ins g.sl g.st = false
  · rw [if_pos h6] at h; cases h
  rw [if_neg h6] at h
  exact h
/-- The N-th windows are found. -/
def hitN (g : Gm) (m : Nat → Nat) (fb : Nat → Nat → Int) (N : Nat) : Bool := hitB (gmN g N) m fb
/-- What is found among the first j of those with letter k in the first window. -/
def hitsTo (g : Gm) (m : Nat → Nat) (fb : Nat → Nat → Int) (k j : Nat) : List Nat := ((List.range j).map fun i => k * 26 ^ (g.n - 1) + i).filter (hitN g m fb)
theorem hitsTo_succ (g : Gm) (m : Nat → Nat) (fb : Nat → Nat → Int) (k j : Nat) : hitsTo g m fb k (j + 1) = hitsTo g m fb k j ++ if hitN g m fb (k * 26 ^ (g.n - 1) + j) = true then [k * 26 ^ (g.n - 1) + j] else [] := by
  unfold hitsTo
  rw [List.range_succ, List.map_append, List.filter_append]
  have key : ∀ X, List.filter (hitN g m fb) [X] = if hitN g m fb X = true then [X] else [] := fun X => by
    cases h : hitN g m fb X <;> simp [List.filter, h]
  rw [List.map_cons, List.map_nil, key]
theorem hitsTo_len (g : Gm) (m : Nat → Nat) (fb : Nat → Nat → Int) (k j : Nat) : (hitsTo g m fb k j).length ≤ j := by
  unfold hitsTo
  refine Nat.le_trans (List.length_filter_le _ _) ?_
  simp
/-- Windows that were found, in a slice of the call's own. -/
def LsOwn (W : World) (B : Nat) (v : Value) (L : List Nat) (m : Nat) : Prop := ∃ vs : List Value, W.ownsRow B 23 1 v L.length vs ∧ ∀ (k : Nat) (u : Value) (N : Nat), vs[k]? = some u → L[k]? = some N → ∃ g, u = .slice (some ⟨g, 0, none⟩) m m ∧ RowAt W g 3 (ints m fun i => ((dig m N i : Nat) : Int))
theorem LsOwn.nil (W : World) (B m : Nat) : LsOwn W B (.slice none 0 0) [] m := ⟨[], World.ownsRow_nil W B _ 1, fun k u N h => by simp at h⟩
theorem f_own_step {w w' : World} {B : Nat} {T : TypeId} {s n : Nat} {v : Value} {l : List Value} (h : w.ownsRow B T s v n l) (hb : Below w.heap.size w w') : w'.ownsRow B T s v n l := by
  obtain ⟨h1, h2⟩ := h
  refine ⟨h1, ?_⟩
  rcases h2 with h2 | ⟨g, cap, cur, e, hB, hg, h3⟩
  · exact .inl h2
  · exact .inr ⟨g, cap, cur, e, hB, (hb.block g (Array.getElem?_eq_some_iff.1 hg).1).trans hg, h3⟩
theorem LsOwn.below {W W' : World} {B : Nat} {v : Value} {L : List Nat} {m : Nat} (h : LsOwn W B v L m) (hb : Below W.heap.size W W') : LsOwn W' B v L m := by
  obtain ⟨vs, h1, h2⟩ := h
  refine ⟨vs, f_own_step h1 hb, fun k u N a b => ?_⟩
  obtain ⟨g, e, hr⟩ := h2 k u N a b
  exact ⟨g, e, hr.below hb hr.lt⟩
theorem LsOwn.drew {W : World} {B : Nat} {v : Value} {L : List Nat} {m : Nat} (h : LsOwn W B v L m) : LsOwn W.drew B v L m := h
/-- A row of numbers stays where a slice of slices grows. -/
theorem f_row_grown {W W' : World} {B n g : Nat} {v : Value} {vs : List Value} {c : Array Value} (hr : RowAt W g 3 c) (ho : W.ownsRow B 23 1 v n vs) (hg : W.grownBy W' v.ownBlock) : RowAt W' g 3 c := by
  refine (hg.block g hr.lt fun e => ?_).trans hr
  rcases ho.2 with ⟨rfl, _⟩ | ⟨p, cap, cur, rfl, _, hp, _⟩
  · cases e
  · have e' : some g = some p := e
    cases e'
    have : some (Obj.cells c 3 (0, 0)) = some (Obj.cells cur 23 (0, 0)) := hr.symm.trans hp
    injection this with this
    injection this with _ this
    exact absurd this (by decide)
theorem f_info_ints : (Try.prog.info? 23).map (fun i => (i.zero, i.size, i.bytes)) = some (some (.slice none 0 0), 1, 24) := by kernel_rfl
set_option maxRecDepth 100000 in
set_option maxHeartbeats 8000000 in
theorem pbeh_any (vm : Value) (g0 : Gm) (hgE : gE g0 = 0) (hn1 : 1 ≤ g0.n) (hn3 : g0.n ≤ 3) (hfit : ∀ r, r < g0.n → g0.nl r * 8 ≤ 140737488355328) (hrl : g0.rl * 8 ≤ 140737488355328) (k : Nat) (hk : k < 26) (bT : Nat) (U : Nat → Value) (m : Nat → Nat) (fb : Nat → Nat → Int) (w : World) (hm : MacAt w vm g0) (hbT : w.rangeAt bT 0 (tab 3 U).toList) (hU : TsAt w U m fb) :
    Calls Try.prog 50 #[vm, .int .i64 (k : Nat), .func (.func 20) #[] #[.pointer (some ⟨bT, 0, none⟩)]] w fun e w' => ∃ v, e = .returned v ∧ LsOwn w' w.heap.size v (hitsTo g0 m fb k (26 ^ (g0.n - 1))) g0.n ∧ Below w.heap.size w w' := by
  obtain ⟨i0, hi0, hz0, hz1, hz2⟩ := f_info_parts f_info_ints
  have hbl : bT < w.heap.size := cell_block (hbT 0 (U 0) (by
    have ex : (tab 3 U).toList[0]? = (tab 3 U)[0]? := Array.getElem?_toList
    rw [ex, tab_get _ (by decide)]))
  have hM : 26 ^ (g0.n - 1) ≤ 676 := by
    rcases (by omega : g0.n = 1 ∨ g0.n = 2 ∨ g0.n = 3) with h | h | h <;> rw [h] <;> decide
  have hMN : 26 * 26 ^ (g0.n - 1) = 26 ^ g0.n := by
    rw [Nat.mul_comm, ← Nat.pow_succ, Nat.succ_eq_add_one, show g0.n - 1 + 1 = g0.n by omega]
  -- windows, standing and look, one behind the other
  have HWI := (show Hid (∀ N W, N < 26 ^ g0.n → Calls Try.prog 79 #[.int .i64 (g0.n : Nat), .int .i64 (N : Nat)] W fun e w' => ∃ g, e = .returned (.slice (some ⟨g, 0, none⟩) g0.n g0.n) ∧ RowAt w' g 3 (ints g0.n fun i => ((dig g0.n N i : Nat) : Int)) ∧ W.heap.size ≤ g ∧ Below W.heap.size W w') from fun N W hN => pwin_any g0.n N (by omega) hN W)
  have HST := (show Hid (∀ N g W, Below w.heap.size w W → RowAt W g 3 (ints g0.n fun i => ((dig g0.n N i : Nat) : Int)) → Calls Try.prog 78 #[vm, .slice (some ⟨g, 0, none⟩) g0.n g0.n] W fun e w' => ∃ a b, e = .returned (.agg (mac a b (.slice (some ⟨g, 0, none⟩) g0.n g0.n) g0.rf g0.pl)) ∧ MacAt w' (.agg (mac a b (.slice (some ⟨g, 0, none⟩) g0.n g0.n) g0.rf g0.pl)) (gmN g0 N) ∧ Below W.heap.size W w') from fun N g W hb hr => by
    refine (pstand_any vm g0 hn1 (by omega) hfit hrl _ g0.n _ W (hm.below hb) (NumsAt.of_row hr (by unfold maxLen; omega))).mono ?_
    rintro e w' ⟨v', rfl, h1, ⟨a, b, rfl⟩, h2⟩
    exact ⟨a, b, rfl, h1, h2⟩)
  have HLK := (show Hid (∀ N a b c W, Below w.heap.size w W → MacAt W (.agg (mac a b c g0.rf g0.pl)) (gmN g0 N) → Calls Try.prog 20 #[.agg (mac a b c g0.rf g0.pl), .pointer (some ⟨bT, 0, none⟩)] W fun e w' => e = .returned (.tuple #[c, .bool (hitN g0 m fb N)]) ∧ Below W.heap.size W w') from fun N a b c W hb hW => plook_any a b c (gmN g0 N) (gmN_ok hgE N) bT U m fb W hW (Below.rangeAt hb hbT hbl) (hU.below hb))
  obtain ⟨a, b, c, rfl, hwh, _, _⟩ := hm
  have h0 := MgAt.new w a b c g0.rf g0.pl
  obtain ⟨aw, cw, R, rfl, _, _, _⟩ := hwh
  have c0 := h0.row.cell (mac_0 _ _ _ _ _)
  obtain ⟨A0, hA0⟩ : ∃ A0, A0 = mac (.slice aw g0.n cw) b c g0.rf g0.pl := ⟨_, rfl⟩
  rw [← hA0] at HST h0 c0 ⊢
  have HA0 := (show Hid (A0 = mac (.slice aw g0.n cw) b c g0.rf g0.pl) from hA0)
  have hA0s : A0.size = 55 := by rw [hA0, mac_size]
  clear hbT hU hfit hrl hA0
  go_enter Try.func50, Try.ntmps50
  go_upto_region 1 with fail
  have hld : RowAt (w.alloc (.cells A0 27)) w.heap.size 27 A0 := RowAt.new w _ _
  have hbe := (Below.refl w.heap.size w).alloc (Nat.le_refl _) (.cells A0 27)
  have c0' := hld.cell (i := 0) (v := .slice aw g0.n cw) (by rw [HA0.out]; exact mac_0 _ _ _ _ _)
  generalize w.alloc (.cells A0 27) = W0 at *
  clear h0 c0
  go_wp2_with fail
  clear c0'
  go_loopw [8, 18] (fun y x W => ∃ j D : Nat, j ≤ g0.n - 1 ∧ D ≤ 676 ∧ x = .int .i64 (j : Nat) ∧ y = .int .i64 (D : Nat) ∧ Hid (D = 26 ^ j) ∧ RowAt W w.heap.size 27 A0 ∧ Below w.heap.size w W) (fun _ x _ => ((g0.n : Int) - intOf x).toNat)
  case atStart => exact ⟨0, 1, by omega, by omega, rfl, rfl, rfl, hld, hbe⟩
  case round =>
    clear hld hbe
    obtain ⟨j, D, hj, hD, rfl, rfl, HD, hld, hbe⟩ := hrel
    by_cases hlt : j < g0.n - 1
    · have HLT : Hid (j < g0.n - 1) := hlt
      have hlt2 : (j : Int) < (g0.n : Int) - 1 := by omega
      have HDN : Hid (D * 26 = 26 ^ (j + 1)) := by rw [Hid, HD.out, Nat.pow_succ]
      have hD26 : D * 26 ≤ 676 := by
        rw [HDN.out]
        exact Nat.le_trans (Nat.pow_le_pow_right (by decide) hlt) hM
      have HR := (show Hid _ from hld)
      have HB := (show Hid _ from hbe)
      clear hlt HD hld hbe
      go_wp2
      go_roundw
      case rel => exact ⟨j + 1, D * 26, HLT.out, hD26, by go_num, by go_num, HDN.out, HR.out, HB.out⟩
      case measure => have := HLT.out; simp [intOf]; omega
    · obtain rfl : j = g0.n - 1 := by omega
      have hnn : ¬ ((g0.n - 1 : Nat) : Int) < (g0.n : Int) - 1 := by omega
      have HMD : Hid (26 ^ (g0.n - 1) = D) := HD.out.symm
      have hMN' : 26 * D = 26 ^ g0.n := by rw [← hMN, HMD.out]
      have HMN := (show Hid _ from hMN')
      have HHS := (show Hid (∀ i, hitsTo g0 m fb k (i + 1) = hitsTo g0 m fb k i ++ if hitN g0 m fb (k * D + i) = true then [k * D + i] else []) from fun i => by rw [hitsTo_succ, HMD.out])
      have hjI : ((g0.n - 1 : Nat) : Int) = (g0.n : Int) - 1 := by omega
      clear hlt HD hMN hMN' hM
      rw [hjI]
      have hnn2 : ¬ (g0.n : Int) - 1 < (g0.n : Int) - 1 := by omega
      clear hnn hjI
      go_wp2_with fail
      go_loopw [9, 24] (fun o x W => ∃ (i : Nat) (u : Value), i ≤ D ∧ x = .int .i64 (i : Nat) ∧ u = o ∧ LsOwn W (w.heap.size + 1) u (hitsTo g0 m fb k i) g0.n ∧ RowAt W w.heap.size 27 A0 ∧ Below w.heap.size w W) (fun _ x _ => ((D : Int) - intOf x).toNat)
      case atStart => exact ⟨0, _, by omega, rfl, rfl, LsOwn.nil _ _ _, hld, hbe⟩
      case round =>
        clear hld hbe hnn2
        obtain ⟨i, u, hi, rfl, rfl, hls, hld, hbe⟩ := hrel
        by_cases hlt : i < D
        case neg =>
          obtain rfl : i = D := by omega
          have hnn : ¬ ((i : Nat) : Int) < ((i : Nat) : Int) := by omega
          have HLS := (show Hid (LsOwn wr w.heap.size u (hitsTo g0 m fb k (26 ^ (g0.n - 1))) g0.n) from by
            rw [Hid, HMD.out]
            obtain ⟨vs, h1, h2⟩ := hls
            exact ⟨vs, ⟨h1.1, h1.2.imp id fun ⟨g, cap, cur, a, b, c⟩ => ⟨g, cap, cur, a, by omega, c⟩⟩, h2⟩)
          have HBE := (show Hid _ from hbe)
          clear hls hld hbe hlt
          go_wp2
          go_ret
          exact ⟨u, by first | rfl | trivial, HLS.out, HBE.out⟩
        have HLT : Hid (i < D) := hlt
        have hlt2 : (i : Int) < (D : Int) := by omega
        have hNb : k * D + i < 26 ^ g0.n := by
          have h1 : k * D + D ≤ 26 * D := by rw [← Nat.succ_mul]; exact Nat.mul_le_mul_right _ hk
          have := HMN.out
          omega
        have hkD : k * D ≤ 16900 := by
          have := Nat.mul_le_mul (show k ≤ 25 by omega) hD
          omega
        have HC1 := (show Hid _ from fun W => HWI.out (k * D + i) W hNb)
        have HC2 := (show Hid _ from HST.out (k * D + i))
        have HC3 := (show Hid _ from HLK.out (k * D + i))
        have HNX := (show Hid _ from HHS.out i)
        have hlen := hitsTo_len g0 m fb k i
        have hkm : ((k : Int) * (D : Int)) = ((k * D : Nat) : Int) := by push_cast; rfl
        obtain ⟨NN, hNN⟩ : ∃ NN, NN = k * D + i := ⟨_, rfl⟩
        rw [← hNN] at HC1 HC2 HC3 HNX
        have hNI : ((k * D : Nat) : Int) + (i : Int) = (NN : Int) := by rw [hNN]; push_cast; rfl
        have hNl : NN ≤ 20000 := by omega
        clear hlt hNb hNN
        generalize k * D = KD at *
        generalize hitN g0 m fb NN = y at *
        have HLS := (show Hid (LsOwn wr (w.heap.size + 1) u (hitsTo g0 m fb k i) g0.n) from hls)
        clear hls
        go_upto_region 10 with fail
        refine wp_region_noPanic ?_
        refine wp_region_held_drew (S := fun W => RowAt W w.heap.size 27 A0 ∧ Below w.heap.size w W) (by kernel_rfl) ⟨hld, hbe.drew⟩ (fun hS => ?_)
        have HLU := (show Hid (LsOwn wr.drew (w.heap.size + 1) u (hitsTo g0 m fb k i) g0.n) from HLS.out.drew)
        obtain ⟨Z, hZ⟩ : ∃ x, x = wr.drew := ⟨_, rfl⟩
        rw [← hZ] at hS HLU ⊢
        clear hZ hld hbe HLS
        refine vtake 0 28 (.func (.func 20) #[] #[.pointer (some ⟨bT, 0, none⟩)]) rfl rfl (by kernel_rfl) (by kernel_rfl) (by kernel_rfl) (fun _ _ _ _ h => h) (by rfl) (fun W hW => by clear hS hW; go_simp) hS ?_
        simp only [List.setIfInBounds_toArray, List.set_cons_succ, List.set_cons_zero]
        refine vtake 1 29 (.agg A0) rfl rfl (by kernel_rfl) (by kernel_rfl) (by kernel_rfl) (fun _ _ _ _ h => h) (by rfl) (fun W hW => by have u1 := run_loadVar_row (P := Try.prog) W w.heap.size 27 27 A0 (0, 0) _ hW.1 Try.underlying27 rfl (by rw [hA0s]; exact v_info_mac); clear hS hW; simp [execOp, Act.eval, Instr.loadAt, Instr.sureAddr, u1]) hS ?_
        simp only [List.setIfInBounds_toArray, List.set_cons_succ, List.set_cons_zero]
        refine vtake 2 30 (.int .i64 (g0.n : Nat)) rfl rfl (by kernel_rfl) (by kernel_rfl) (by kernel_rfl) (fun _ _ _ _ h => h) (by rfl) (fun W hW => by clear hS hW; go_simp) hS ?_
        simp only [List.setIfInBounds_toArray, List.set_cons_succ, List.set_cons_zero]
        refine vtake 3 31 (.int .i64 (k : Nat)) rfl rfl (by kernel_rfl) (by kernel_rfl) (by kernel_rfl) (fun _ _ _ _ h => h) (by rfl) (fun W hW => by clear hS hW; go_simp) hS ?_
        simp only [List.setIfInBounds_toArray, List.set_cons_succ, List.set_cons_zero]
        refine vtake 4 32 (.int .i64 (D : Nat)) rfl rfl (by kernel_rfl) (by kernel_rfl) (by kernel_rfl) (fun _ _ _ _ h => h) (by rfl) (fun W hW => by clear hS hW; go_simp) hS ?_
        simp only [List.setIfInBounds_toArray, List.set_cons_succ, List.set_cons_zero]
        refine vtake 5 33 (.int .i64 (KD : Nat)) rfl rfl (by kernel_rfl) (by kernel_rfl) (by kernel_rfl) (fun _ _ _ _ h => h) (by rfl) (fun W hW => by have u1 : IntKind.i64.wrap ((KD : Nat) : Int) = (KD : Int) := (by rw [IntKind.wrap_i64]; omega); clear hS hW; simp [execOp, Act.eval, go_sem, hkm, u1]) hS ?_
        simp only [List.setIfInBounds_toArray, List.set_cons_succ, List.set_cons_zero]
        refine vtake 6 34 (.int .i64 (i : Nat)) rfl rfl (by kernel_rfl) (by kernel_rfl) (by kernel_rfl) (fun _ _ _ _ h => h) (by rfl) (fun W hW => by clear hS hW; go_simp) hS ?_
        simp only [List.setIfInBounds_toArray, List.set_cons_succ, List.set_cons_zero]
        refine vtake 7 35 (.int .i64 (NN : Nat)) rfl rfl (by kernel_rfl) (by kernel_rfl) (by kernel_rfl) (fun _ _ _ _ h => h) (by rfl) (fun W hW => by have u1 : IntKind.i64.wrap ((NN : Nat) : Int) = (NN : Int) := (by rw [IntKind.wrap_i64]; omega); clear hS hW; simp [execOp, Act.eval, go_sem, hNI, u1]) hS ?_
        simp only [List.setIfInBounds_toArray, List.set_cons_succ, List.set_cons_zero]
        refine wpAnyH_ready (rs := [8]) (by kernel_rfl) (by simp) ?_
        refine AllReadyH.cons (o := _) rfl (fun K hK => ?_) AllReadyH.nil
        rw [if_pos (by rfl)]
        go_simp
        refine Calls.mono (HC1.out _) ?_
        rintro e Y1 ⟨gw, rfl, hgw, _, hb8⟩
        refine hK.out _ _ ⟨hS.1.below hb8 hS.1.lt, hS.2.trans (hb8.mono hS.2.size)⟩ (fun hS1 => ?_)
        have HL1 := (show Hid (LsOwn Y1 (w.heap.size + 1) u (hitsTo g0 m fb k i) g0.n) from LsOwn.below HLU.out hb8)
        clear hK hS K hb8 HLU
        have hS := hS1
        clear hS1
        refine wpAnyH_ready (rs := [9]) (by kernel_rfl) (by simp) ?_
        refine AllReadyH.cons (o := _) rfl (fun K hK => ?_) AllReadyH.nil
        rw [if_pos (by rfl)]
        go_simp
        refine Calls.mono (HC2.out gw _ hS.2 hgw) ?_
        rintro e Y2 ⟨ma, mb, rfl, hmac, hb8⟩
        refine hK.out _ _ ⟨hS.1.below hb8 hS.1.lt, hS.2.trans (hb8.mono hS.2.size)⟩ (fun hS1 => ?_)
        have HL2 := (show Hid (LsOwn Y2 (w.heap.size + 1) u (hitsTo g0 m fb k i) g0.n) from LsOwn.below HL1.out hb8)
        have hgw2 := hgw.below hb8 hgw.lt
        have HC4 := (show Hid _ from HC3.out ma mb (.slice (some ⟨gw, 0, none⟩) g0.n g0.n))
        obtain ⟨A1, hA1⟩ : ∃ A1, A1 = mac ma mb (.slice (some ⟨gw, 0, none⟩) g0.n g0.n) g0.rf g0.pl := ⟨_, rfl⟩
        rw [← hA1] at hmac HC4 ⊢
        clear hK hS K hb8 HL1 hgw hA1
        have hS := hS1
        clear hS1
        refine wpAnyH_ready (rs := [10]) (by kernel_rfl) (by simp) ?_
        refine AllReadyH.cons (o := _) rfl (fun K hK => ?_) AllReadyH.nil
        rw [if_pos (by rfl)]
        go_simp
        refine Calls.mono (HC4.out _ hS.2 hmac) ?_
        rintro e Y3 ⟨rfl, hb8⟩
        refine hK.out _ _ ⟨hS.1.below hb8 hS.1.lt, hS.2.trans (hb8.mono hS.2.size)⟩ (fun hS1 => ?_)
        have HL3 := (show Hid (LsOwn Y3 (w.heap.size + 1) u (hitsTo g0 m fb k i) g0.n) from LsOwn.below HL2.out hb8)
        have hgw3 := hgw2.below hb8 hgw2.lt
        clear hK hS K hb8 HL2 hgw2 hmac HC4
        have hS := hS1
        clear hS1
        refine vtake 11 27 (.tuple #[.slice (some ⟨gw, 0, none⟩) g0.n g0.n, .bool y]) rfl rfl (by kernel_rfl) (by kernel_rfl) (by kernel_rfl) (fun _ _ _ _ h => h) (by rfl) (fun W hW => by clear hS hW; go_simp) hS ?_
        simp only [List.setIfInBounds_toArray, List.set_cons_succ, List.set_cons_zero]
        refine vtake 12 39 (.slice (some ⟨gw, 0, none⟩) g0.n g0.n) rfl rfl (by kernel_rfl) (by kernel_rfl) (by kernel_rfl) (fun _ _ _ _ h => h) (by rfl) (fun W hW => by clear hS hW; go_simp) hS ?_
        simp only [List.setIfInBounds_toArray, List.set_cons_succ, List.set_cons_zero]
        refine vtake 13 40 (.bool y) rfl rfl (by kernel_rfl) (by kernel_rfl) (by kernel_rfl) (fun _ _ _ _ h => h) (by rfl) (fun W hW => by clear hS hW; go_simp) hS ?_
        simp only [List.setIfInBounds_toArray, List.set_cons_succ, List.set_cons_zero]
        refine vtake 14 11 (.slice (some ⟨gw, 0, none⟩) g0.n g0.n) rfl rfl (by kernel_rfl) (by kernel_rfl) (by kernel_rfl) (fun _ _ _ _ h => h) (by rfl) (fun W hW => by clear hS hW; go_simp) hS ?_
        simp only [List.setIfInBounds_toArray, List.set_cons_succ, List.set_cons_zero]
        refine vtake 15 12 (.bool y) rfl rfl (by kernel_rfl) (by kernel_rfl) (by kernel_rfl) (fun _ _ _ _ h => h) (by rfl) (fun W hW => by clear hS hW; go_simp) hS ?_
        simp only [List.setIfInBounds_toArray, List.set_cons_succ, List.set_cons_zero]
        refine wpAnyH_done (by kernel_rfl) ?_ _
        refine NoPanic.normal ?_
        have HR := (show Hid _ from hS.1)
        have HB := (show Hid _ from hS.2)
        clear hS HC1 HC2 HC3
        cases y
        · have HNX2 : Hid (hitsTo g0 m fb k (i + 1) = hitsTo g0 m fb k i) := by
            have := HNX.out
            simp at this
            exact this
          clear HNX hgw3
          go_wp2
          go_roundw
          case rel => exact ⟨i + 1, u, HLT.out, by go_num, by first | rfl | trivial, by rw [HNX2.out]; exact HL3.out, HR.out, HB.out⟩
          case measure => have := HLT.out; simp [intOf]; omega
        · have HNX2 : Hid (hitsTo g0 m fb k (i + 1) = hitsTo g0 m fb k i ++ [NN]) := by
            have := HNX.out
            simp at this
            exact this
          obtain ⟨vs, hown, hvs⟩ := HL3.out
          have hzY := RowAt.lt HR.out
          have HVS := (show Hid _ from hvs)
          have HGW := (show Hid (RowAt Y3 gw 3 (ints g0.n fun i => ((dig g0.n NN i : Nat) : Int))) from hgw3)
          clear HNX hgw3 hvs HL3
          go_wp2_with (first | (at_builtin; refine wpList_append_own _ rfl _ _ 29 rfl (w.heap.size + 1) 23 i0 (.slice none 0 0) 1 24 Try.underlying29 hi0 hz0 hz1 hz2 rfl (by decide) _ _ _ rfl (World.ownsRow.alloc hown _) ⟨Y3.heap.size, 0, none⟩ 1 1 [.slice (some ⟨gw, 0, none⟩) g0.n g0.n] rfl rfl (cell_one_new _ _ _) (fun u hu => by simp at hu; subst hu; rfl) (by unfold maxLen; omega) (by omega) (by simp; omega) ?_; intro v' w1 hown' hgrow _))
          go_roundw
          case rel =>
            have hoa := World.ownsRow.alloc hown (.cells #[.slice (some ⟨gw, 0, none⟩) g0.n g0.n] 23)
            refine ⟨i + 1, v', HLT.out, by go_num, by first | rfl | trivial, ⟨vs ++ [.slice (some ⟨gw, 0, none⟩) g0.n g0.n], ?_, fun kk uu N h1 h2 => ?_⟩, ?_, ?_⟩
            · rw [HNX2.out, List.length_append]
              exact hown'
            · rw [HNX2.out] at h2
              have hvl : vs.length = (hitsTo g0 m fb k i).length := by have := hown.1; simpa using this
              by_cases hkk : kk < vs.length
              · rw [List.getElem?_append_left hkk] at h1
                rw [List.getElem?_append_left (by omega)] at h2
                obtain ⟨g, e, hr⟩ := HVS.out kk uu N h1 h2
                exact ⟨g, e, f_row_grown (hr.alloc _) hoa hgrow⟩
              · rw [List.getElem?_append_right (by omega)] at h1
                rw [List.getElem?_append_right (by omega), ← hvl] at h2
                cases hz : kk - vs.length with
                | zero =>
                  rw [hz] at h1 h2
                  simp at h1 h2
                  subst h1 h2
                  exact ⟨gw, rfl, f_row_grown (HGW.out.alloc _) hoa hgrow⟩
                | succ z => rw [hz] at h1; simp at h1
            · refine (hgrow.block w.heap.size (by simp; omega) fun e => ?_).trans (RowAt.alloc HR.out _)
              have := (World.ownsRow.lt hoa _ e.symm).1
              omega
            · exact (HB.out.alloc HB.out.size _).grown hgrow (by simp; omega) (fun p hp => by have := (World.ownsRow.lt hoa p hp).1; omega)
          case measure => have := HLT.out; simp [intOf]; omega
end Go.Proofs.Ythfjkhmedpilnaa
