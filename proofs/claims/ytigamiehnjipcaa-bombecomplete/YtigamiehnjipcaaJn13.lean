/-
  Several texts, joined: BoTe, ChRAt, BRSc, LBAl.
-/
import Derived.Test.YtigamiehnjipcaaBoGu
import Derived.Test.YtigamiehnjipcaaORSt
import Derived.Test.YtigamiehnjipcaaORNo
import Derived.Test.YtigamiehnjipcaaChCh
import Derived.Test.YtigamiehnjipcaaJn12
import Derived.Test.YtigamiehnjipcaaBoFo
import Derived.Test.YtigamiehnjipcaaOPl
import Derived.Test.YtigamiehnjipcaaBoSm
/-
  Contract of bombe.Test.
-/
namespace Go.Proofs.Ytigamiehnjipcaa
open Go.RowKit PK Vg

set_option maxRecDepth 100000 in
set_option maxHeartbeats 2000000 in
theorem test_bad (a b c : Value) (rf pl : Nat → Int) (cr te : ByteArray) (E : Int) (hE : (E != 0) = true) (w : World) (HW : Hid (∀ W, Below w.heap.size w W → Calls Try.prog 42 #[.agg (mac a b c rf pl), .string cr, .string te] W fun e w' => e = .returned (.int .i64 E) ∧ Below W.heap.size W w')) : Calls Try.prog 19 #[.agg (mac a b c rf pl), .string cr, .string te] w fun e w' => e = .returned (.tuple #[.slice none 0 0, .int .i64 E]) ∧ Below w.heap.size w w' := by
  have h0 := MgAt.new w a b c rf pl
  go_enter Try.func19, Try.ntmps19
  go_wp2_with (first | refine wpList_load_row rfl 27 _ rfl w.heap.size rfl 27 (mac a b c rf pl) (0, 0) _ h0.row Try.underlying27 rfl (by rw [mac_size]; exact v_info_mac) ?_)
  refine (HW.out _ h0.below).mono ?_
  rintro e W1 ⟨rfl, hb⟩
  have h1 := h0.step hb
  have HBE := (show Hid _ from h1.below)
  clear hb h0 HW h1
  go_wp2
  go_ret2
  exact ⟨rfl, HBE.out⟩
set_option maxRecDepth 100000 in
set_option maxHeartbeats 4000000 in
theorem test_run (m : Bo.Mn) (G0 : Nat → Nat → Int) (L : List Nat) (a b c : Value) (rf pl : Nat → Int) (cr te : ByteArray) (hcr : m.k = cr.size) (w : World) (HW : Hid (∀ W, Below w.heap.size w W → Calls Try.prog 42 #[.agg (mac a b c rf pl), .string cr, .string te] W fun e w' => e = .returned (.int .i64 0) ∧ Below W.heap.size W w'))
    (HM : Hid (∀ W, Calls Try.prog 44 #[.string cr, .string te] W fun e w' => ∃ G, e = .returned (.pointer (some ⟨G, 0, none⟩)) ∧ MnAt w' G (fun c => Bo.ml m c m.k) ∧ Below W.heap.size W w'))
    (HG : Hid (∀ W G, Below w.heap.size w W → MnAt W G (fun c => Bo.ml m c m.k) → Calls Try.prog 43 #[.agg (mac a b c rf pl), .pointer (some ⟨G, 0, none⟩), .int .i64 (m.k : Nat)] W fun e w' => ∃ v B, e = .returned v ∧ W.heap.size ≤ B ∧ OwnsG w' B v G0 L ∧ Below W.heap.size W w')) : Calls Try.prog 19 #[.agg (mac a b c rf pl), .string cr, .string te] w fun e w' => ∃ v, e = .returned (.tuple #[v, .int .i64 0]) ∧ GsAt w' v G0 L ∧ Below w.heap.size w w' := by
  have h0 := MgAt.new w a b c rf pl
  go_enter Try.func19, Try.ntmps19
  go_wp2_with (first | refine wpList_load_row rfl 27 _ rfl w.heap.size rfl 27 (mac a b c rf pl) (0, 0) _ h0.row Try.underlying27 rfl (by rw [mac_size]; exact v_info_mac) ?_)
  refine (HW.out _ h0.below).mono ?_
  rintro e W1 ⟨rfl, hb⟩
  have h1 := h0.step hb
  clear hb h0 HW
  go_upto_region 4 with fail
  refine wp_region_noPanic ?_
  refine wp_region_held_drew (S := fun W => MgAt w W a b c rf pl) (by kernel_rfl) h1.drew (fun hS => ?_)
  obtain ⟨U, hU⟩ : ∃ x, x = W1.drew := ⟨_, rfl⟩
  rw [← hU] at hS ⊢
  clear hU h1
  refine vtake 0 16 (.agg (mac a b c rf pl)) rfl rfl (by kernel_rfl) (by kernel_rfl) (by kernel_rfl) (fun _ _ _ _ h => h) (by rfl) (fun W hW => by have u := run_loadAt_mid (P := Try.prog) W w.heap.size 0 27 (mac a b c rf pl).toList _ (RowAt.range hW.row) Try.underlying27 rfl (by rw [Array.length_toList, mac_size]; exact v_info_mac); clear hS hW; simp [execOp, Act.eval, u]) hS ?_
  simp only [List.setIfInBounds_toArray, List.set_cons_succ, List.set_cons_zero]
  refine vtake 1 17 (.string cr) rfl rfl (by kernel_rfl) (by kernel_rfl) (by kernel_rfl) (fun _ _ _ _ h => h) (by rfl) (fun W hW => by clear hS hW; go_simp) hS ?_
  simp only [List.setIfInBounds_toArray, List.set_cons_succ, List.set_cons_zero]
  refine vtake 2 18 (.string te) rfl rfl (by kernel_rfl) (by kernel_rfl) (by kernel_rfl) (fun _ _ _ _ h => h) (by rfl) (fun W hW => by clear hS hW; go_simp) hS ?_
  simp only [List.setIfInBounds_toArray, List.set_cons_succ, List.set_cons_zero]
  refine vtake 4 20 (.string cr) rfl rfl (by kernel_rfl) (by kernel_rfl) (by kernel_rfl) (fun _ _ _ _ h => h) (by rfl) (fun W hW => by clear hS hW; go_simp) hS ?_
  simp only [List.setIfInBounds_toArray, List.set_cons_succ, List.set_cons_zero]
  refine vtake 5 21 (.int .i64 (m.k : Nat)) rfl rfl (by kernel_rfl) (by kernel_rfl) (by kernel_rfl) (fun _ _ _ _ h => h) (by rfl) (fun W hW => by have u := hcr; clear hS hW; rw [hcr]; go_simp) hS ?_
  simp only [List.setIfInBounds_toArray, List.set_cons_succ, List.set_cons_zero]
  clear hcr
  refine wpAnyH_ready (rs := [3]) (by kernel_rfl) (by simp) ?_
  refine AllReadyH.cons (o := _) rfl (fun K hK => ?_) AllReadyH.nil
  rw [if_pos (by rfl)]
  go_simp
  refine Calls.mono (HM.out _) ?_
  rintro e Y ⟨G, rfl, hmn, hb3⟩
  refine hK.out _ _ (hS.step hb3) (fun hS1 => ?_)
  clear hK hS K hb3
  have hS := hS1
  clear hS1
  refine wpAnyH_ready (rs := [6]) (by kernel_rfl) (by simp) ?_
  refine AllReadyH.cons (o := _) rfl (fun K hK => ?_) AllReadyH.nil
  rw [if_pos (by rfl)]
  go_simp
  refine Calls.mono (HG.out _ G hS.below hmn) ?_
  rintro e Z ⟨v, B, rfl, _, hov, hb6⟩
  refine hK.out _ _ (hS.step hb6) (fun hS1 => ?_)
  clear hK hS K hb6 hmn
  have hS := hS1
  clear hS1
  refine vtake 7 6 (v) rfl rfl (by kernel_rfl) (by kernel_rfl) (by kernel_rfl) (fun _ _ _ _ h => h) (by rfl) (fun W hW => by clear hS hW; go_simp) hS ?_
  simp only [List.setIfInBounds_toArray, List.set_cons_succ, List.set_cons_zero]
  refine vtake 8 7 (.int .i64 0) rfl rfl (by kernel_rfl) (by kernel_rfl) (by kernel_rfl) (fun _ _ _ _ h => h) (by rfl) (fun W hW => by clear hS hW; go_simp) hS ?_
  simp only [List.setIfInBounds_toArray, List.set_cons_succ, List.set_cons_zero]
  refine wpAnyH_done (by kernel_rfl) ?_ _
  refine NoPanic.normal ?_
  have HOV := (show Hid _ from hov.at)
  have HBE := (show Hid _ from hS.below)
  clear hov hS
  go_wp2_with fail
  go_ret2
  exact ⟨v, rfl, HOV.out, HBE.out⟩
theorem test_wrong (vm : Value) (g : Gm) (cr te : ByteArray) (w : World) (hm : MacAt w vm g) (hE : bwE g cr.data.toList te.data.toList ≠ 0) : Calls Try.prog 19 #[vm, .string cr, .string te] w fun e w' => e = .returned (.tuple #[.slice none 0 0, .int .i64 (bwE g cr.data.toList te.data.toList)]) ∧ Below w.heap.size w w' := by
  have HW := fun W (hb : Below w.heap.size w W) => bwrong_any vm g cr te W (hm.below hb)
  obtain ⟨a, b, c, rfl, _⟩ := hm
  exact test_bad a b c g.rf g.pl cr te _ (by simpa using hE) w HW
theorem test_ok (vm : Value) (g : Gm) (cr te : ByteArray) (A : Nat) (ok : Nat → Bool) (pr : Nat → Nat → Int) (ht : Tst g cr te A ok pr) (w : World) (hm : MacAt w vm g) : Calls Try.prog 19 #[vm, .string cr, .string te] w fun e w' => ∃ v, e = .returned (.tuple #[v, .int .i64 0]) ∧ GsAt w' v (fun b => gsF A b (pr b)) (okTo ok 26) ∧ Below w.heap.size w w' := by
  have HW := fun W (hb : Below w.heap.size w W) => bwrong_any vm g cr te W (hm.below hb)
  obtain ⟨hmo, hk32⟩ := mnu_ok ht.e
  rw [ht.e] at HW
  have HU := fun W (hb : Below w.heap.size w W) => unpl_any vm g (bwE_zero ht.e).1 (mnu g cr te).k (by omega) W (hm.below hb)
  obtain ⟨a, b, c, rfl, _⟩ := hm
  refine test_run (mnu g cr te) _ _ a b c g.rf g.pl cr te rfl w HW (fun W => (menuOf_any (mnu g cr te) cr te (menu_of ht.e) W).mono ?_) (fun W G hb hmn => guesses_run (mnu g cr te) hmo hk32 A ht.a ok pr ht.res a b c g.rf g.pl G W hmn (fun W' hb' => HU W' (hb.trans (hb'.mono hb.size))))
  rintro e w' ⟨vals, h1, h2, h3⟩
  exact ⟨_, h1, h2.at, h3⟩
end Go.Proofs.Ytigamiehnjipcaa

/-
  Contract of the document's At (chapter 9).
-/
namespace Go.Proofs.Ytigamiehnjipcaa
open Go.RowKit PK Vg

/-- The machine in its variable, and a permutation as a result. -/
structure RaS (w W : World) (a b c : Value) (rf pl : Nat → Int) : Prop where
  mg : MgAt w W a b c rf pl
  res : RowAt W (w.heap.size + 1) 25 (ints 26 fun _ => 0)
theorem RaS.step {w W W' : World} {a b c : Value} {rf pl : Nat → Int} (h : RaS w W a b c rf pl) (hb : Below W.heap.size W W') : RaS w W' a b c rf pl := ⟨h.mg.step hb, h.res.below hb h.res.lt⟩
theorem RaS.new (w : World) (a b c : Value) (rf pl : Nat → Int) : RaS w ((w.alloc (.cells (mac a b c rf pl) 27)).alloc (.cells (ints 26 fun _ => 0) 25)) a b c rf pl := by
  have h := RowAt.new (w.alloc (.cells (mac a b c rf pl) 27)) 25 (ints 26 fun _ => 0)
  rw [World.size_alloc] at h
  exact ⟨(MgAt.new w a b c rf pl).alloc _, h⟩
set_option maxRecDepth 100000 in
set_option maxHeartbeats 4000000 in
theorem rat_any (M : Om.Ma) (hM : Om.Ok M) (vm : Value) (n : Nat) (hn : n ≤ 1000) (w : World) (hm : MacAt w vm (gOf M)) : Calls Try.prog 32 #[vm, .int .i64 (n : Nat)] w fun e w' => e = .returned (.agg (ints 26 (Pm.up (Om.now M (Om.steps M M.st n))))) ∧ Below w.heap.size w w' := by
  have HST := (show Hid (∀ W (va : Value) (at' : Nat → Nat), Below w.heap.size w W → Om.In26 M at' → (NumsAt W va M.n fun i => (at' i : Nat)) → Calls Try.prog 58 #[vm, va] W fun e w' => ∃ v, e = .returned v ∧ NumsAt w' v M.n (fun i => (Om.step M at' i : Nat)) ∧ Below W.heap.size W w' ∧ ∀ b, v.ownBlock = some b → W.heap.size ≤ b) from fun W va at' hb h26 ha => rstep_any M hM vm va at' h26 W (hm.below hb) ha)
  have HNW := (show Hid (∀ W (va : Value) (at' : Nat → Nat), Below w.heap.size w W → Om.In26 M at' → (NumsAt W va M.n fun i => (at' i : Nat)) → Calls Try.prog 59 #[vm, va] W fun e w' => e = .returned (.agg (ints 26 (Pm.up (Om.now M at')))) ∧ Below W.heap.size W w') from fun W va at' hb h26 ha => rnow_any M hM vm va at' h26 W (hm.below hb) ha)
  have HIN := (show Hid (∀ k, Om.In26 M (Om.steps M M.st k)) from fun k => Om.In26.steps (fun i hi => hM.st i hi) k)
  obtain ⟨a, b, c, rfl, _, _, hc⟩ := hm
  have HC0 := (show Hid (NumsAt w c M.n fun i => (M.st i : Nat)) from hc)
  have h0 := RaS.new w a b c (gOf M).rf (gOf M).pl
  have hz26 := o_zero v_zero_perm
  generalize (gOf M).rf = rf at *
  generalize (gOf M).pl = pl at *
  obtain ⟨ac, cc, hec, _, _⟩ := hc
  clear hM
  subst hec
  go_enter Try.func32, Try.ntmps32
  go_upto_region 1 with fail
  generalize (w.alloc (.cells (mac a b (.slice ac (gOf M).sl cc) rf pl) 27)).alloc (.cells (ints 26 fun _ => 0) 25) = W0 at *
  have hmc := h0.mg.c2
  clear hz26
  go_wp2_with fail
  clear hmc
  have hg0 : RaS w W0 a b (.slice ac (gOf M).sl cc) rf pl ∧ NumsAt W0 (.slice ac (gOf M).sl cc) M.n (fun i => (Om.steps M M.st 0 i : Nat)) := ⟨h0, HC0.out.below h0.mg.below⟩
  go_loopw [5, 6] (fun y i W => ∃ (k : Nat) (v : Value), k ≤ n ∧ i = .int .i64 (k : Nat) ∧ v = y ∧ RaS w W a b (.slice ac (gOf M).sl cc) rf pl ∧ NumsAt W v M.n (fun i => (Om.steps M M.st k i : Nat))) (fun _ i _ => ((n : Int) - intOf i).toNat)
  case atStart => exact ⟨0, _, by omega, rfl, rfl, hg0.1, hg0.2⟩
  case round =>
    clear hg0 h0
    obtain ⟨k, v, hk, rfl, rfl, hg, hv⟩ := hrel
    have hmr := hg.mg.row
    have HG := (show Hid _ from hg)
    have HV := (show Hid (NumsAt wr v M.n fun i => (Om.steps M M.st k i : Nat)) from hv)
    by_cases hlt : k < n
    · have HLT : Hid (k < n) := hlt
      have hlt2 : (k : Int) < (n : Int) := by omega
      clear hg hv hlt
      go_wp2_with (first | refine wpList_load_row rfl 27 _ rfl w.heap.size rfl 27 (mac a b (.slice ac (gOf M).sl cc) rf pl) (0, 0) _ hmr Try.underlying27 rfl (by rw [mac_size]; exact v_info_mac) ?_)
      refine (HST.out _ v _ HG.out.mg.below (HIN.out k) HV.out).mono ?_
      rintro e W2 ⟨v2, rfl, hv2, hb, _⟩
      have HG2 := (show Hid _ from HG.out.step hb)
      have HV2 := (show Hid (NumsAt W2 v2 M.n fun i => (Om.steps M M.st (k + 1) i : Nat)) from hv2)
      clear hb HG HV hv2 hmr
      go_wp2
      go_roundw
      case rel => exact ⟨k + 1, v2, HLT.out, by go_num, rfl, HG2.out, HV2.out⟩
      case measure => have := HLT.out; simp [intOf]; omega
    · obtain rfl : k = n := by omega
      have hnn : ¬ ((k : Nat) : Int) < ((k : Nat) : Int) := by omega
      clear hg hv hlt
      go_wp2_with (first | refine wpList_load_row rfl 27 _ rfl w.heap.size rfl 27 (mac a b (.slice ac (gOf M).sl cc) rf pl) (0, 0) _ hmr Try.underlying27 rfl (by rw [mac_size]; exact v_info_mac) ?_)
      refine (HNW.out _ v _ HG.out.mg.below (HIN.out k) HV.out).mono ?_
      rintro e W2 ⟨rfl, hb⟩
      have hg2 := HG.out.step hb
      have hrs := hg2.res
      have hbe := hg2.mg.below
      obtain ⟨AW, hAW⟩ : ∃ AW, AW = ints 26 (Pm.up (Om.now M (Om.steps M M.st k))) := ⟨_, rfl⟩
      have HSZ : Hid (AW.size = 26) := by rw [Hid, hAW, ints_size]
      have HON : Hid (AW.all (·.oneCell') = true) := by rw [Hid, hAW]; exact ints_one _ _
      rw [← hAW]
      have HAW := (show Hid _ from hAW)
      clear hb HG HV hmr hg2 hAW
      go_wp2_with (first | refine wpList_store_row rfl 25 _ _ rfl (w.heap.size + 1) AW rfl rfl 25 _ hrs (by rw [HSZ.out]; exact info_perm) (by rw [HSZ.out, ints_size]) HON.out ?_)
      exact bodyPost_ret (v := .agg AW) (o_results1 Try.results32 _ _ _ _ _ _ _ rfl (hrs.row _) Try.underlying25 rfl (by rw [HSZ.out]; exact info_perm)) rfl ⟨by rw [HAW.out], Below.setRow hbe _ (by omega) _⟩
end Go.Proofs.Ytigamiehnjipcaa

/-
  Contract of the document's Scramblers (chapter 10).
-/
namespace Go.Proofs.Ytigamiehnjipcaa
open Go.RowKit PK Vg

theorem flat_snoc (S : Nat → Nat → Nat) (j : Nat) : (ints (j * 26) (flat S)).toList ++ (ints 26 (Pm.up (S j))).toList = (ints ((j + 1) * 26) (flat S)).toList := by
  rw [← Array.toList_append]
  refine congrArg Array.toList ?_
  apply Array.ext_getElem?
  intro i
  by_cases h1 : i < j * 26
  · rw [Array.getElem?_append_left (by rw [ints_size]; exact h1), ints_get _ h1, ints_get _ (by omega)]
  · rw [Array.getElem?_append_right (by rw [ints_size]; omega), ints_size]
    by_cases h2 : i < (j + 1) * 26
    · rw [ints_get _ (by omega), ints_get _ h2]
      unfold flat Pm.up
      rw [show i / 26 = j by omega, show i % 26 = i - j * 26 by omega]
    · rw [Array.getElem?_eq_none (by rw [ints_size]; omega), Array.getElem?_eq_none (by rw [ints_size]; omega)]
theorem keys_of_own {W : World} {B k : Nat} {v : Value} {S : Nat → Nat → Nat} (h : W.ownsRow B 25 26 v k (ints (k * 26) (flat S)).toList) (hk : k ≠ 0) : KeysAt W v k S := by
  rcases h.2 with ⟨_, h0⟩ | ⟨g, cap, cur, rfl, hB, hg, hnc, hcm, hcs, htake⟩
  · exact absurd h0 hk
  · refine ⟨g, cap, rfl, fun i c hi hc => ?_⟩
    refine RowAt.cell (w := W) (b := g) (T := 25) hg ?_
    have h2 : (ints (k * 26) (flat S)).toList[i * 26 + c]? = some (.int .i64 (S i c : Nat)) := by
      rw [Array.getElem?_toList, ints_get _ (by omega)]
      unfold flat
      rw [show (i * 26 + c) / 26 = i by omega, show (i * 26 + c) % 26 = c by omega]
    rw [← htake, List.getElem?_take_of_lt (by omega)] at h2
    simpa using h2
/-- What Scramblers holds. -/
structure ScS (w W : World) (a b c v : Value) (rf pl : Nat → Int) (j : Nat) (S : Nat → Nat → Nat) : Prop where
  mg : MgAt w W a b c rf pl
  own : W.ownsRow (w.heap.size + 1) 25 26 v j (ints (j * 26) (flat S)).toList
set_option maxRecDepth 100000 in
set_option maxHeartbeats 4000000 in
theorem rscr_run (S : Nat → Nat → Nat) (n : Nat) (hn : n ≤ 65536) (a b c : Value) (rf pl : Nat → Int) (w : World) (HAT : Hid (∀ W (k : Nat) (z : Int), z = ((k + 1 : Nat) : Int) → k < n → Below w.heap.size w W → Calls Try.prog 32 #[.agg (mac a b c rf (Pm.up fun i => i)), .int .i64 z] W fun e w' => e = .returned (.agg (ints 26 (Pm.up (S k)))) ∧ Below W.heap.size W w')) : Calls Try.prog 25 #[.agg (mac a b c rf pl), .int .i64 (n : Nat)] w fun e w' => ∃ v, e = .returned v ∧ w'.ownsRow (w.heap.size + 1) 25 26 v n (ints (n * 26) (flat S)).toList ∧ Below w.heap.size w w' := by
  obtain ⟨i0, hi0, hz0, hz1, hz2⟩ := x_info_parts b_info_perm
  have h0 := MgAt.new w a b c rf pl
  have HS := (show Hid (∀ W, Calls Try.prog 52 #[.int .i64 0] W fun e w' => e = .returned (.agg (ints 26 (Pm.up fun i => i))) ∧ Below W.heap.size W w') from fun W => by
    have := rturned_any 0 (by decide) (by decide) W
    rw [ints_ext (g := Pm.up fun i => i) fun i hi => by show ((i : Int) + 0) % 26 = ((i : Nat) : Int); omega] at this
    exact this)
  go_enter Try.func25, Try.ntmps25
  go_wp2_with fail
  refine (HS.out _).mono ?_
  rintro e W1 ⟨rfl, hb⟩
  have h1 := h0.step hb
  clear hb h0 HS
  have hth := there_row h1.row (o := 29) (n := 26) (by rw [mac_size]; decide)
  go_upto_region 2 with (first | refine wpList_store_mid rfl 25 _ _ rfl w.heap.size 29 (ints 26 (Pm.up fun i => i)) rfl rfl (by rw [ints_size]; exact hth) (by rw [ints_size]; exact info_perm) (ints_one _ _) ?_)
  have h2 : MgAt w (W1.setCells w.heap.size 29 (ints 26 (Pm.up fun i => i)).toList) a b c rf (Pm.up fun i => i) := by
    refine ⟨?_, below_setCells (Nat.le_refl _) h1.below⟩
    have := row_setCells (l := (ints 26 (Pm.up fun i => i)).toList) (o := 29) h1.row
    rw [mac_plugs] at this
    exact this
  generalize W1.setCells w.heap.size 29 (ints 26 (Pm.up fun i => i)).toList = V1 at *
  clear h1 hth
  go_wp2_with fail
  go_loopw [5, 6] (fun o i W => ∃ (j : Nat) (v : Value), j ≤ n ∧ i = .int .i64 ((j : Int) + 1) ∧ v = o ∧ ScS w W a b c v rf (Pm.up fun i => i) j S) (fun _ i _ => ((n : Int) + 1 - intOf i).toNat)
  case atStart => exact ⟨0, _, by omega, rfl, rfl, h2, World.ownsRow_nil _ _ _ _⟩
  case round =>
    clear h2
    obtain ⟨j, v, hj, rfl, rfl, hg⟩ := hrel
    by_cases hlt : j < n
    · have HLT : Hid (j < n) := hlt
      have hlt2 : (j : Int) + 1 ≤ (n : Int) := by omega
      have hmr := hg.mg.row
      have HG := (show Hid _ from hg)
      clear hg hlt
      go_wp2_with (first | refine wpList_load_row rfl 27 _ rfl w.heap.size rfl 27 (mac a b c rf (Pm.up fun i => i)) (0, 0) _ hmr Try.underlying27 rfl (by rw [mac_size]; exact v_info_mac) ?_)
      refine (HAT.out _ j _ (by omega) HLT.out HG.out.mg.below).mono ?_
      rintro e X ⟨rfl, hb⟩
      have hmX := HG.out.mg.step hb
      have hown := own_step HG.out.own hb
      have hlX := hmX.lt
      clear hb hmr HG
      go_wp2_with (first | refine wpList_build1 rfl 57 25 _ rfl 26 (Pm.up (S j)) rfl (by decide) Try.underlying57 zero_perm (by decide) ?_ | (at_builtin; refine wpList_append_own _ rfl _ _ 57 rfl (w.heap.size + 1) 25 i0 (.agg (ints 26 fun _ => 0)) 26 208 Try.underlying57 hi0 hz0 hz1 hz2 (ints_size _ _) (by decide) _ _ _ rfl (World.ownsRow.alloc hown _) ⟨X.heap.size, 0, none⟩ 1 1 (ints 26 (Pm.up (S j))).toList rfl (by rw [Array.length_toList, ints_size]) (fun q u hu => by rw [Addr.add_mid, Nat.zero_add]; exact (RowAt.new X 25 (ints 26 (Pm.up (S j)))).cell (by rw [← Array.getElem?_toList]; exact hu)) (fun u hu => all_one78 hu) (by unfold maxLen; omega) (by omega) (by simp; omega) ?_; intro v' w5 hown5 hgrow5 _))
      have HNX : Hid (ScS w w5 a b c v' rf (Pm.up fun i => i) (j + 1) S) := by
        have ha := hmX.alloc (.cells (ints 26 (Pm.up (S j))) 25)
        refine ⟨⟨(hgrow5.block w.heap.size (by simp; omega) (fun e => by have := (World.ownsRow.lt hown _ e.symm).1; omega)).trans ha.row, ha.below.grown hgrow5 ha.below.size (fun q hq => by have := (World.ownsRow.lt hown q hq).1; omega)⟩, ?_⟩
        rw [← flat_snoc]
        exact hown5
      go_roundw
      case rel => exact ⟨j + 1, v', HLT.out, by go_num, rfl, HNX.out⟩
      case measure => have := HLT.out; simp [intOf]; omega
    · obtain rfl : j = n := by omega
      have hnn : ¬ (j : Int) + 1 ≤ (j : Int) := by omega
      have HOWN := (show Hid _ from hg.own)
      have HBE := (show Hid _ from hg.mg.below)
      clear hg hlt
      go_wp2
      go_ret
      exact ⟨v, rfl, HOWN.out, HBE.out⟩
theorem rscr_any (vm : Value) (g : Gm) (hg : gE g = 0) (n : Nat) (hn : n ≤ 1000) (w : World) (hm : MacAt w vm g) : Calls Try.prog 25 #[vm, .int .i64 (n : Nat)] w fun e w' => ∃ v, e = .returned v ∧ w'.ownsRow (w.heap.size + 1) 25 26 v n (ints (n * 26) (flat (chE (Om.unplugged (maOf g))))).toList ∧ Below w.heap.size w w' := by
  have hbg := gE_bare hg
  obtain ⟨hM, hgo⟩ := ok_maOf hbg
  obtain ⟨a, b, c, rfl, m1, m2, m3⟩ := hm
  have HA := fun W (hb : Below w.heap.size w W) => hgo W (.agg (mac a b c g.rf (Pm.up fun i => i))) ⟨a, b, c, rfl, m1.below hb, m2.below hb, m3.below hb⟩
  refine rscr_run (chE (Om.unplugged (maOf g))) n (by omega) a b c g.rf g.pl w (fun W k z hz hk hb => ?_)
  subst hz
  exact rat_any (maOf (bare g)) hM _ (k + 1) (by omega) W (HA W hb)
end Go.Proofs.Ytigamiehnjipcaa

/-
  Contract of law10.alive.
-/
namespace Go.Proofs.Ytigamiehnjipcaa
open Go.RowKit PK Vg

theorem al_E : plE [65, 66, 67] [66] = 0 := by rfl
theorem al_L : plL [65, 66, 67] [66] = [0, 2] := by rfl
set_option maxRecDepth 100000 in
set_option maxHeartbeats 1000000 in
theorem alive10_any (w : World) : Calls Try.prog 22 #[] w fun e w' => e = .returned (.bool true) ∧ Below w.heap.size w w' := by
  have HP := (show Hid (∀ W, Calls Try.prog 16 #[.string ⟨#[65, 66, 67]⟩, .string ⟨#[66]⟩] W fun e w' => ∃ a c A, e = .returned (.tuple #[.slice a 2 c, .agg #[.int .i64 0, .int .i64 A]]) ∧ Below W.heap.size W w') from fun W => by
    refine (places_any ⟨#[65, 66, 67]⟩ ⟨#[66]⟩ W).mono ?_
    rintro e w' ⟨v, h1, h2, h3⟩
    have e1 : (⟨#[65, 66, 67]⟩ : ByteArray).data.toList = [65, 66, 67] := rfl
    have e2 : (⟨#[66]⟩ : ByteArray).data.toList = [66] := rfl
    rw [e1, e2, al_E] at h1
    rw [e1, e2, al_L] at h2
    obtain ⟨a, c, hv⟩ := own_slice' h2
    exact ⟨a, c, _, by rw [h1, hv]; rfl, h3⟩)
  go_enter Try.func22, Try.ntmps22
  go_wp2_with fail
  refine (HP.out _).mono ?_
  rintro e W1 ⟨a, c, A, rfl, hb⟩
  have HB := (show Hid _ from hb.alloc hb.size (.cells #[.int .i64 0, .int .i64 A] 39))
  have c0 := (RowAt.new W1 39 #[.int .i64 0, .int .i64 A]).cell (i := 0) rfl
  clear hb HP
  go_wp2
  go_ret
  exact ⟨rfl, HB.out⟩
end Go.Proofs.Ytigamiehnjipcaa
