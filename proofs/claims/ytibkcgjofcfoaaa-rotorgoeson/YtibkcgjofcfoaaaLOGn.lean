/-
  RotorGoesOn over the contracts of Write, Press and alive.
-/
import Derived.Test.YtibkcgjofcfoaaaLOGo
namespace Go.Proofs.Ytibkcgjofcfoaaa
open Go.RowKit PK Vg

theorem wheels_ext {W : World} {v : Value} {n : Nat} {wi : Nat → Nat → Int} {nl : Nat → Nat} {no no2 : Nat → Nat → Int} (h : WheelsAt W v n wi nl no) (e : ∀ r, r < n → ∀ k, k < nl r → no r k = no2 r k) : WheelsAt W v n wi nl no2 := by
  obtain ⟨a, cap, R, h1, h2, h3, h4⟩ := h
  exact ⟨a, cap, R, h1, h2, h3, fun r hr => nums_ext (h4 r hr) (e r hr)⟩
theorem ext_drop (t : ByteArray) (n : Nat) : (t.extract n t.size).data.toList = t.data.toList.drop n := by
  rw [ByteArray.data_extract, Array.toList_extract]
  exact List.take_of_length_le (by simp)
theorem ba_app (l m : List UInt8) : (⟨l.toArray⟩ : ByteArray) ++ ⟨m.toArray⟩ = ⟨(l ++ m).toArray⟩ := by
  apply ByteArray.ext
  simp
set_option maxRecDepth 100000 in
set_option maxHeartbeats 4000000 in
theorem goes_bad (a b c : Value) (rf pl : Nat → Int) (t S : ByteArray) (E A cut y : Int) (hbad : E ≠ 0 ∨ cut < 0 ∨ (t.size : Int) < cut ∨ y < 0 ∨ 25 < y) (w : World) (HA : Hid (∀ W, Calls Try.prog 7 #[] W fun e w' => e = .returned (.bool true) ∧ Below W.heap.size W w'))
    (H1 : Hid (∀ W, Below w.heap.size w W → Calls Try.prog 8 #[.agg (mac a b c rf pl), .string t] W fun e w' => e = .returned (.tuple #[.string S, .agg #[.int .i64 E, .int .i64 A]]) ∧ Below W.heap.size W w')) : Calls Try.prog 3 #[.agg (mac a b c rf pl), .string t, .int .i64 cut, .int .i64 y] w fun e w' => e = .returned (.bool true) ∧ Below w.heap.size w w' := by
  have h0 := MgAt.new w a b c rf pl
  go_enter Try.func3, Try.ntmps3
  go_wp2_with fail
  refine (HA.out _).mono ?_
  rintro e W1 ⟨rfl, hb⟩
  have h1 := h0.step hb
  clear hb h0 HA
  go_wp2_with (first | refine wpList_load_row rfl 27 _ rfl w.heap.size rfl 27 (mac a b c rf pl) (0, 0) _ h1.row Try.underlying27 rfl (by rw [mac_size]; exact v_info_mac) ?_)
  refine (H1.out _ h1.below).mono ?_
  rintro e W2 ⟨rfl, hb⟩
  have h2 := h1.step hb
  have HBE := (show Hid _ from (FmAt.new h2 (.int .i64 E) (.int .i64 A)).mg.below)
  have c0 := (FmAt.new h2 (.int .i64 E) (.int .i64 A)).f.cell (i := 0) rfl
  clear hb h1 H1 h2
  go_upto_region 4 with fail
  generalize W2.alloc (.cells #[.int .i64 E, .int .i64 A] 31) = V at *
  generalize W2.heap.size = qf at *
  by_cases hE : E = 0
  · have hE1 : (E != 0) = false := by simpa using hE
    subst hE
    by_cases k1 : cut < 0
    · have d1 : decide (cut < 0) = true := decide_eq_true k1
      clear hbad
      go_wp2
      go_ret
      exact ⟨rfl, HBE.out⟩
    · have d1 : decide (cut < 0) = false := decide_eq_false k1
      by_cases k2 : (t.size : Int) < cut
      · have d2 : decide ((t.size : Int) < cut) = true := decide_eq_true k2
        clear hbad
        go_wp2
        go_ret
        exact ⟨rfl, HBE.out⟩
      · have d2 : decide ((t.size : Int) < cut) = false := decide_eq_false k2
        by_cases k3 : y < 0
        · have d3 : decide (y < 0) = true := decide_eq_true k3
          clear hbad
          go_wp2
          go_ret
          exact ⟨rfl, HBE.out⟩
        · have d3 : decide (y < 0) = false := decide_eq_false k3
          have k4 : 25 < y := by omega
          have d4 : decide ((25 : Int) < y) = true := decide_eq_true k4
          clear hbad
          go_wp2
          go_ret
          exact ⟨rfl, HBE.out⟩
  · have hE1 : (E != 0) = true := by simpa using hE
    clear hbad
    go_wp2
    go_ret
    exact ⟨rfl, HBE.out⟩
theorem rotorgoeson_of (TW : ∀ (vm : Value) (g : Gm) (t : ByteArray) (w : World), MacAt w vm g → Calls Try.prog 8 #[vm, .string t] w fun e w' => e = .returned (.tuple #[.string ⟨(rwS g t.data.toList).toArray⟩, .agg #[.int .i64 (rwE g t.data.toList), .int .i64 (rwAt g t.data.toList)]]) ∧ Below w.heap.size w w')
    (TP : ∀ (vm vk : Value) (g : Gm) (m : Nat), m ≤ 1000000000 → ∀ (ks : Nat → Int) (W : World), MacAt W vm g → NumsAt W vk m ks → Calls Try.prog 9 #[vm, vk] W fun e w' => ∃ v, e = .returned (.tuple #[v, .int .i64 (gE g)]) ∧ PrsAt w' v (prM g m) g.n (prL (maOf g) ks) (prE ks) (fun i => pst (maOf g) ks (i + 1)) (fun i => Om.now (maOf g) (pst (maOf g) ks (i + 1))) ∧ Below W.heap.size W w')
    (HA : ∀ W, Calls Try.prog 7 #[] W fun e w' => e = .returned (.bool true) ∧ Below W.heap.size W w') (vm : Value) (g : Gm) (hnl : ∀ r, r < g.n → g.nl r ≤ 17592186043904) (t : ByteArray) (cut y : Int) (w : World) (hm : MacAt w vm g) : Calls Try.prog 3 #[vm, .string t, .int .i64 cut, .int .i64 y] w fun e w' => e = .returned (.bool true) ∧ Below w.heap.size w w' := by
  have H1 := fun W (hb : Below w.heap.size w W) => TW vm g t W (hm.below hb)
  by_cases hbad : rwE g t.data.toList ≠ 0 ∨ cut < 0 ∨ (t.size : Int) < cut ∨ y < 0 ∨ 25 < y
  · obtain ⟨a, b, c, rfl, _⟩ := hm
    exact goes_bad a b c g.rf g.pl t _ _ _ cut y hbad w HA H1
  · have h0 : rwE g t.data.toList = 0 := by omega
    obtain ⟨k, rfl⟩ : ∃ k : Nat, cut = (k : Nat) := ⟨cut.toNat, by omega⟩
    obtain ⟨z, rfl⟩ : ∃ z : Nat, y = (z : Nat) := ⟨y.toNat, by omega⟩
    have hk : k ≤ t.size := by omega
    have hz : z ≤ 25 := by omega
    obtain ⟨hg, hc⟩ := rwE_zero h0
    rcases ck_cases t.data.toList with ⟨_, k1, k2, k3⟩ | k1
    · obtain ⟨hM, _⟩ := ok_maOf hg
      have hl := ls_of k3
      have hkl : k ≤ t.data.toList.length := by rw [← Pl.size_len]; exact hk
      have hcut := rws_cut hg hl k2 hkl
      have hmov := rws_mov hg hl k2 z
      have hlt := ls_take hl k
      have hld := ls_drop hl k
      have hnt : (t.data.toList.take k).length ≤ 65536 := by rw [List.length_take]; omega
      have hnd : (t.data.toList.drop k).length ≤ 65536 := by rw [List.length_drop]; omega
      obtain ⟨z1, z2, z3, z4, z5, z6, z7⟩ := gE_zero hg
      have hw := whE_zero g g.n z2
      obtain ⟨e1, e2⟩ := rwE_ls hg hl k2
      rw [e1, e2] at H1
      have hri := (ins_iff _ _).1 z3.2
      have hst := (ins_iff _ _).1 z4.2
      rw [z3.1] at hri
      rw [z4.1] at hst
      have hH2 : ∀ W, Below w.heap.size w W → Calls Try.prog 8 #[vm, .string (t.extract 0 k)] W fun e w' => e = .returned (.tuple #[.string ⟨(rwS g (t.data.toList.take k)).toArray⟩, .agg #[.int .i64 0, .int .i64 0]]) ∧ Below W.heap.size W w' := fun W hb => by
        have := TW vm g (t.extract 0 k) W (hm.below hb)
        rw [ext_toList, (rwE_ls hg hlt hnt).1, (rwE_ls hg hlt hnt).2] at this
        exact this
      have hgc := gE_cut hg k
      have hgm := gE_mov hg z
      have hPP := fun W vk (hb : Below w.heap.size w W) (hv : NumsAt W vk k (fun _ => -1)) => TP vm vk g k (by omega) (fun _ => -1) W (hm.below hb) hv
      have hpm : prM g k = k := by unfold prM; rw [if_pos hg]
      rw [hg, hpm] at hPP
      have hm0 := hm
      obtain ⟨a, b, c, rfl, m1, m2, m3⟩ := hm
      rw [z3.1] at m2
      rw [z4.1] at m3
      refine goes_run a b c (one_wheels m1) (one_nums m2) (one_nums m3) g.rf g.pl t ⟨(rwS g t.data.toList).toArray⟩ ⟨(rwS g (t.data.toList.take k)).toArray⟩ ⟨(rwS (gCut g k) (t.data.toList.drop k)).toArray⟩ k z hk (by rw [Pl.size_len]; exact k2) hz w HA H1 g.n _ _ _ _ hPP
        (Om.steps (maOf g) (maOf g).st k) (fun h => ?_) (fun h => ?_) g.wi g.nl (fun r x => if r < g.n ∧ x < g.nl r then (g.no r x).toNat else 0) (fun _ i => if i < g.n then (g.ri i).toNat else 0) (fun _ i => if i < g.n then (g.st i).toNat else 0) (wheels_ext m1 fun r hr x hx => ?_) (nums_ext m2 fun i hi => ?_) (nums_ext m3 fun i hi => ?_) hnl z1.2 (fun r x => ?_) (fun i => ?_) (fun i => ?_) ?_ ?_ ?_ hH2 (fun W c2 hb h2 => ?_) (fun W va vb vc hb h1 h2 h3 => ?_)
      · show pst (maOf g) (fun _ => -1) (k - 1 + 1) = _
        rw [show k - 1 + 1 = k by omega, pst_steps]
      · subst h
        refine nums_ext m3 fun i hi => ?_
        have := hst i hi
        show g.st i = (((g.st i).toNat : Nat) : Int)
        omega
      · have := (ins_iff _ _).1 (hw r hr).2 x hx
        show g.no r x = (((if r < g.n ∧ x < g.nl r then (g.no r x).toNat else 0 : Nat)) : Int)
        rw [if_pos ⟨hr, hx⟩]
        omega
      · have := hri i hi
        show g.ri i = (((if i < g.n then (g.ri i).toNat else 0 : Nat)) : Int)
        rw [if_pos hi]
        omega
      · have := hst i hi
        show g.st i = (((if i < g.n then (g.st i).toNat else 0 : Nat)) : Int)
        rw [if_pos hi]
        omega
      · show (if r < g.n ∧ x < g.nl r then (g.no r x).toNat else 0) < 26
        by_cases e : r < g.n ∧ x < g.nl r
        · have := (ins_iff _ _).1 (hw r e.1).2 x e.2
          rw [if_pos e]
          omega
        · rw [if_neg e]; decide
      · show (if i < g.n then (g.ri i).toNat else 0) < 26
        by_cases e : i < g.n
        · have := hri i e
          rw [if_pos e]
          omega
        · rw [if_neg e]; decide
      · show (if i < g.n then (g.st i).toNat else 0) < 26
        by_cases e : i < g.n
        · have := hst i e
          rw [if_pos e]
          omega
        · rw [if_neg e]; decide
      · show (⟨(rwS g (t.data.toList.take k)).toArray⟩ : ByteArray) ++ ⟨(rwS (gCut g k) (t.data.toList.drop k)).toArray⟩ = ⟨(rwS g t.data.toList).toArray⟩
        rw [ba_app, hcut]
      · rw [Pl.size_len]
        show (rwS g (t.data.toList.take k)).length ≤ 65536
        rw [rwS_ls hg hlt hnt, Om.wr_length]
        exact hnt
      · rw [Pl.size_len]
        show (rwS (gCut g k) (t.data.toList.drop k)).length ≤ 65536
        rw [rwS_ls hgc hld hnd, Om.wr_length]
        exact hnd
      · have := TW _ (gCut g k) (t.extract k t.size) W (mac_cut (hm0.below hb) h2)
        rw [ext_drop, (rwE_ls hgc hld hnd).1, (rwE_ls hgc hld hnd).2] at this
        exact this
      · have hmm : MacAt W (.agg (mac va vb vc g.rf g.pl)) (gMov g z) := by
          refine ⟨va, vb, vc, rfl, wheels_ext h1 fun r hr x hx => ?_, nums_ext h2 fun i hi => ?_, nums_ext h3 fun i hi => ?_⟩
          · show ((((if r < g.n ∧ x < g.nl r then (g.no r x).toNat else 0) + z) % 26 : Nat) : Int) = ((((g.no r x).toNat + z) % 26 : Nat) : Int)
            rw [if_pos ⟨hr, hx⟩]
          · show ((((if i < g.n then (g.ri i).toNat else 0) + z) % 26 : Nat) : Int) = ((((g.ri i).toNat + z) % 26 : Nat) : Int)
            rw [if_pos (show i < g.n from hi)]
          · show ((((if i < g.n then (g.st i).toNat else 0) + z) % 26 : Nat) : Int) = ((((g.st i).toNat + z) % 26 : Nat) : Int)
            rw [if_pos (show i < g.n from hi)]
        have := TW _ (gMov g z) t W hmm
        rw [hmov, (rwE_ls hgm hl k2).1, (rwE_ls hgm hl k2).2] at this
        exact this
    · rw [hc] at k1; cases k1
end Go.Proofs.Ytibkcgjofcfoaaa
