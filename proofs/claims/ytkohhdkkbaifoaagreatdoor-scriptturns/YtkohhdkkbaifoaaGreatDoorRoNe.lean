/-
  Contract of rotor.New.
-/
import Derived.Test.YtkohhdkkbaifoaaGreatDoorJn16
import Derived.Test.YtkohhdkkbaifoaaGreatDoorJn6
import Derived.OrdersHeld
namespace Go.Proofs.YtkohhdkkbaifoaaGreatDoor
open Go.RowKit PK Vg

/-- A machine at work ahead of its wheels. -/
def Mz (n : Nat) (rf pl : Nat → Nat) : Om.Ma := ⟨n, fun _ => noz, fun _ => [], noz, noz, rf, pl⟩
set_option maxRecDepth 100000 in
theorem built_rot (n : Nat) (rf pl : Nat → Nat) : Tryz.prog.built 191 [(1, .int .i64 (n : Nat)), (2, .agg (ints 26 (Pm.up rf))), (3, .agg (ints 26 (Pm.up pl)))] = some (rotA (Mz n rf pl) noz 0) := by kernel_rfl
theorem rot_zero (M : Om.Ma) (at' : Nat → Nat) : rotA (Mz M.n M.rf M.pl) noz 0 = rotA M at' 0 := tab_ext fun i _ => by
  unfold rotC
  by_cases h1 : i < 320
  · rw [if_pos h1, if_pos h1, if_neg (by omega), if_neg (by omega)]
  · rw [if_neg h1, if_neg h1]
    rfl
theorem rot_lay (M : Om.Ma) (at' : Nat → Nat) {k : Nat} (hk : k < 4) : setMany (rotA M at' k) (k * 80) (wlA (M.wi k) (Pm.inv (M.wi k)) (fun c => (M.no k).contains c) (M.ri k) (at' k)).toList = rotA M at' (k + 1) := by
  have hl : (wlA (M.wi k) (Pm.inv (M.wi k)) (fun c => (M.no k).contains c) (M.ri k) (at' k)).toList.length = 80 := by rw [Array.length_toList, wlA_size]
  apply Array.ext_getElem?
  intro i
  rw [setMany_get _ _ _ _ (by rw [hl, rotA_size]; omega), hl]
  by_cases h : k * 80 ≤ i ∧ i < k * 80 + 80
  · rw [if_pos h, Array.getElem?_toList]
    unfold wlA rotA
    rw [tab_get _ (by omega), tab_get _ (by omega)]
    unfold rotC
    rw [if_pos (by omega), show i / 80 = k by omega, if_pos (by omega), show i % 80 = i - k * 80 by omega]
  · rw [if_neg h]
    by_cases h2 : i < 373
    · unfold rotA
      rw [tab_get _ h2, tab_get _ h2]
      unfold rotC
      by_cases h1 : i < 320
      · rw [if_pos h1, if_pos h1]
        by_cases h3 : i / 80 < k
        · rw [if_pos h3, if_pos (by omega)]
        · rw [if_neg h3, if_neg (by omega)]
      · rw [if_neg h1, if_neg h1]
    · rw [Array.getElem?_eq_none (by rw [rotA_size]; omega), Array.getElem?_eq_none (by rw [rotA_size]; omega)]
/-- What New holds. -/
structure NwAt (w W : World) (a b c : Value) (rf pl : Nat → Int) (q : Nat) (A : Array Value) : Prop where
  mg : MgAt w W a b c rf pl
  rot : RowAt W q 191 A
  lt : w.heap.size < q
section
variable {w W W' : World} {a b c : Value} {rf pl : Nat → Int} {q : Nat} {A : Array Value}
theorem NwAt.step (h : NwAt w W a b c rf pl q A) (hb : Below W.heap.size W W') : NwAt w W' a b c rf pl q A := ⟨h.mg.step hb, h.rot.below hb h.rot.lt, h.lt⟩
theorem NwAt.drew (h : NwAt w W a b c rf pl q A) : NwAt w W.drew a b c rf pl q A := ⟨h.mg.drew, h.rot, h.lt⟩
theorem NwAt.alloc (h : NwAt w W a b c rf pl q A) (o : Obj) : NwAt w (W.alloc o) a b c rf pl q A := ⟨h.mg.alloc o, h.rot.alloc o, h.lt⟩
theorem NwAt.other (h : NwAt w W a b c rf pl q A) (p : Nat) (hp : w.heap.size < p) (hne : q ≠ p) (l : Array Value) : NwAt w (W.setRow p l) a b c rf pl q A := ⟨h.mg.setRow p hp l, h.rot.rowOther _ _ hne, h.lt⟩
theorem NwAt.lay (h : NwAt w W a b c rf pl q A) (o : Nat) (l : List Value) : NwAt w (W.setCells q o l) a b c rf pl q (setMany A o l) := ⟨⟨row_setCells_other (by have := h.lt; omega) h.mg.row, below_setCells (by have := h.lt; omega) h.mg.below⟩, row_setCells h.rot, h.lt⟩
end
theorem setMany_twice (A : Array Value) (o : Nat) (l : List Value) (h : o + l.length ≤ A.size) : setMany (setMany A o l) o l = setMany A o l := by
  apply Array.ext_getElem?
  intro i
  rw [setMany_get l o (setMany A o l) i (by rw [setMany_size]; exact h)]
  by_cases e : o ≤ i ∧ i < o + l.length
  · rw [if_pos e, setMany_get _ _ _ _ h, if_pos e]
  · rw [if_neg e]
/-- What is held while a wheel is laid: whether it lies there yet or not. -/
structure NsAt (w W : World) (a b c : Value) (rf pl : Nat → Int) (q p7 : Nat) (wh : Array Value) (o : Nat) (l : List Value) (B : Array Value) : Prop where
  nw : ∃ A, NwAt w W a b c rf pl q A ∧ o + l.length ≤ A.size ∧ setMany A o l = B
  p : RowAt W p7 97 wh
section
variable {w W W' : World} {a b c : Value} {rf pl : Nat → Int} {q p7 o : Nat} {wh B : Array Value} {l : List Value}
theorem NsAt.mg (h : NsAt w W a b c rf pl q p7 wh o l B) : MgAt w W a b c rf pl := by obtain ⟨A, h1, _⟩ := h.nw; exact h1.mg
theorem NsAt.step (h : NsAt w W a b c rf pl q p7 wh o l B) (hb : Below W.heap.size W W') : NsAt w W' a b c rf pl q p7 wh o l B := by
  obtain ⟨A, h1, h2⟩ := h.nw
  exact ⟨⟨A, h1.step hb, h2⟩, h.p.below hb h.p.lt⟩
theorem NsAt.there (h : NsAt w W a b c rf pl q p7 wh o l B) : W.there q o l.length := by
  obtain ⟨A, h1, h2, _⟩ := h.nw
  exact there_row h1.rot h2
theorem NsAt.lay (h : NsAt w W a b c rf pl q p7 wh o l B) (hne : p7 ≠ q) : NwAt w (W.setCells q o l) a b c rf pl q B ∧ NsAt w (W.setCells q o l) a b c rf pl q p7 wh o l B := by
  obtain ⟨A, h1, h2, h3⟩ := h.nw
  have := h1.lay o l
  rw [h3] at this
  exact ⟨this, ⟨B, this, by rw [← h3, setMany_size]; exact h2, by rw [← h3]; exact setMany_twice A o l h2⟩, row_setCells_other hne h.p⟩
end
theorem new_bad (a b c : Value) (rf pl : Nat → Int) (E : Int) (hE : (E != 0) = true) (w : World) (HW : ∀ W, Below w.heap.size w W → Calls Tryz.prog 30 #[.agg (mac a b c rf pl)] W fun e w' => e = .returned (.int .i64 E) ∧ Below W.heap.size W w') : Calls Tryz.prog 131 #[.agg (mac a b c rf pl)] w fun e w' => e = .returned (.tuple #[.pointer none, .int .i64 E]) ∧ Below w.heap.size w w' := by
  have h0 := MgAt.new w a b c rf pl
  have H := (show Hid _ from HW)
  clear HW
  go_enter Tryz.func131, Tryz.ntmps131
  go_wp2_with (first | refine wpList_load_row rfl 29 _ rfl w.heap.size rfl 29 (mac a b c rf pl) (0, 0) _ h0.row Tryz.underlying29 rfl (by rw [mac_size]; exact v_info_mac) ?_)
  refine (H.out _ h0.below).mono ?_
  rintro e V ⟨rfl, hb⟩
  have h1 := h0.step hb
  have hbe := h1.below
  clear hb h0 h1
  go_wp2
  go_ret2
  exact ⟨rfl, hbe⟩
set_option maxRecDepth 100000 in
set_option maxHeartbeats 4000000 in
theorem new_ok (M : Om.Ma) (hM : Om.Ok M) (vm : Value) (w : World) (hm : MacAt w vm (gOf M)) (HW : ∀ W, Below w.heap.size w W → Calls Tryz.prog 30 #[vm] W fun e w' => e = .returned (.int .i64 0) ∧ Below W.heap.size W w') : Calls Tryz.prog 131 #[vm] w fun e w' => ∃ q, e = .returned (.tuple #[.pointer (some ⟨q, 0, none⟩), .int .i64 0]) ∧ w.heap.size ≤ q ∧ RotAt w' q M M.st ∧ Below w.heap.size w w' := by
  obtain ⟨a, b, c, rfl, hw, hri, hst⟩ := hm
  have hn4 : M.n ≤ 4 := hM.most
  have HOK := (show Hid _ from hM)
  clear hM
  obtain ⟨ad, cap, R, rfl, hmx, hr, hn⟩ := hw
  obtain ⟨ar, cr, rfl, hmr, hcr⟩ := hri
  obtain ⟨az, cz, rfl, hms, hcs⟩ := hst
  have HWH := (show Hid (∀ r, r < M.n → ∃ b o, ad = some ⟨b, o, none⟩ ∧ w.rangeAt b (o + r * 27) (whl (Pm.up (M.wi r)) (R r)).toList) from hr)
  have HNO := (show Hid (∀ r, r < M.n → NumsAt w (R r) (M.no r).length fun k => ((M.no r).getD k 0 : Nat)) from hn)
  have HRI := (show Hid (∀ i, i < M.n → ∃ b o, ar = some ⟨b, o, none⟩ ∧ w.cell? ⟨b, o + i, none⟩ = some (.int .i64 (M.ri i : Nat))) from hcr)
  have HST := (show Hid (∀ i, i < M.n → ∃ b o, az = some ⟨b, o, none⟩ ∧ w.cell? ⟨b, o + i, none⟩ = some (.int .i64 (M.st i : Nat))) from hcs)
  have en : (gOf M).n = M.n := rfl
  have er : (gOf M).rl = M.n := rfl
  have es : (gOf M).sl = M.n := rfl
  have ef : (gOf M).rf = Pm.up M.rf := rfl
  have ep : (gOf M).pl = Pm.up M.pl := rfl
  rw [en, er, es, ef, ep] at *
  clear hr hn hcr hcs hmx hmr hms
  have h0 := MgAt.new w (.slice ad M.n cap) (.slice ar M.n cr) (.slice az M.n cz) (Pm.up M.rf) (Pm.up M.pl)
  have H := (show Hid _ from HW)
  clear HW
  go_enter Tryz.func131, Tryz.ntmps131
  go_wp2_with (first | refine wpList_load_row rfl 29 _ rfl w.heap.size rfl 29 (mac (.slice ad M.n cap) (.slice ar M.n cr) (.slice az M.n cz) (Pm.up M.rf) (Pm.up M.pl)) (0, 0) _ h0.row Tryz.underlying29 rfl (by rw [mac_size]; exact v_info_mac) ?_)
  refine (H.out _ h0.below).mono ?_
  rintro e V ⟨rfl, hb⟩
  have h1 := h0.step hb
  clear hb h0
  have hc0 := h1.c0
  have hmr := mid_rf h1.row
  have hmp := mid_pl h1.row
  go_upto_region 5 with (first | refine wpList_load_arr rfl 27 _ rfl w.heap.size 3 rfl (ints 26 (Pm.up M.rf)) _ hmr Tryz.underlying27 rfl (by rw [ints_size]; exact info_perm) ?_ | refine wpList_load_arr rfl 27 _ rfl w.heap.size 29 rfl (ints 26 (Pm.up M.pl)) _ hmp Tryz.underlying27 rfl (by rw [ints_size]; exact info_perm) ?_ | refine wpList_buildA rfl 191 [(1, .tmp 15), (2, .tmp 17), (3, .tmp 19)] rfl [(1, .int .i64 (M.n : Nat)), (2, .agg (ints 26 (Pm.up M.rf))), (3, .agg (ints 26 (Pm.up M.pl)))] rfl _ (built_rot M.n M.rf M.pl) ?_)
  have hnw : NwAt w (V.alloc (.cells (rotA (Mz M.n M.rf M.pl) noz 0) 191)) (.slice ad M.n cap) (.slice ar M.n cr) (.slice az M.n cz) (Pm.up M.rf) (Pm.up M.pl) V.heap.size (rotA M M.st 0) := ⟨h1.alloc _, by rw [← rot_zero M M.st]; exact RowAt.new V _ _, h1.lt⟩
  generalize V.alloc (.cells (rotA (Mz M.n M.rf M.pl) noz 0) 191) = U at *
  obtain ⟨q, hq⟩ : ∃ q, q = V.heap.size := ⟨_, rfl⟩
  rw [← hq] at hnw ⊢
  clear hq h1 hc0 hmr hmp
  have hc0 := hnw.mg.c0
  go_wp2_with fail
  go_loopw [25] (fun i W => ∃ k : Nat, k ≤ M.n ∧ i = .int .i64 (k : Nat) ∧ NwAt w W (.slice ad M.n cap) (.slice ar M.n cr) (.slice az M.n cz) (Pm.up M.rf) (Pm.up M.pl) q (rotA M M.st k)) (fun i _ => ((M.n : Int) - intOf i).toNat)
  case atStart => exact ⟨0, by omega, rfl, hnw⟩
  case round =>
    clear hnw hc0
    obtain ⟨k, hk, rfl, hg⟩ := hrel
    by_cases hlt : k < M.n
    · have HLT : Hid (k < 4) := (by omega : k < 4)
      have HLN : Hid (k < M.n) := hlt
      have HLI : Hid (¬ 4 ≤ (k : Int)) := (by omega : ¬ 4 ≤ (k : Int))
      obtain ⟨bw, ow, rfl, hrg⟩ := HWH.out k hlt
      obtain ⟨br, or', rfl, hrc⟩ := HRI.out k hlt
      obtain ⟨bz, oz, rfl, hsc⟩ := HST.out k hlt
      have hrg2 := rangeAt_below hrg hg.mg.below
      have hnk := HNO.out k hlt
      have HONE : Hid ((R k).oneCell' = true) := by obtain ⟨a', c', e', _⟩ := hnk; rw [Hid, e']; rfl
      have HRC := (show Hid (∀ W, Below w.heap.size w W → W.cell? ⟨br, or' + k, none⟩ = some (.int .i64 (M.ri k : Nat))) from fun W hb => (hb.cell (p := ⟨br, or' + k, none⟩) (cell_block hrc)).trans hrc)
      have HSC := (show Hid (∀ W, Below w.heap.size w W → W.cell? ⟨bz, oz + k, none⟩ = some (.int .i64 (M.st k : Nat))) from fun W hb => (hb.cell (p := ⟨bz, oz + k, none⟩) (cell_block hsc)).trans hsc)
      obtain ⟨AW, hAW⟩ : ∃ AW, AW = (wlA (M.wi k) (Pm.inv (M.wi k)) (fun c => (M.no k).contains c) (M.ri k) (M.st k)) := ⟨_, rfl⟩
      have hsz : AW.size = 80 := by rw [hAW, wlA_size]
      have hone : AW.all (·.oneCell') = true := by rw [hAW]; exact wlA_one _ _ _ _ _
      have HSZ := (show Hid _ from hsz)
      have HON := (show Hid _ from hone)
      have HTU := (show Hid (∀ W, Below w.heap.size w W → Calls Tryz.prog 176 #[.agg (whl (Pm.up (M.wi k)) (R k)), .int .i64 (M.ri k : Nat), .int .i64 (M.st k : Nat)] W fun e w' => e = .returned (.agg AW) ∧ Below W.heap.size W w') from fun W hb => by rw [hAW]; exact turning_any (M.wi k) (HOK.out.wi k hlt) (R k) (M.no k) (HOK.out.no k hlt) (M.ri k) (M.st k) W (hnk.below hb))
      have hly := rot_lay M M.st HLT.out
      rw [← hAW] at hly
      have HLAY := (show Hid _ from hly)
      clear hly hAW hsz hone
      have hz27 := o_zero v_zero_whl
      go_upto_region 8 with (first | refine wpList_load_arr rfl 97 _ rfl bw (ow + k * 27) rfl (whl (Pm.up (M.wi k)) (R k)) _ hrg2 Tryz.underlying97 rfl (by rw [whl_size]; exact v_info_whl) ?_ | refine wpList_store_row rfl 97 _ _ rfl wr.heap.size (whl (Pm.up (M.wi k)) (R k)) rfl rfl 97 _ (RowAt.new wr _ _) (by rw [whl_size]; exact v_info_whl) (by simp only [whl_size]) (whl_one HONE.out) ?_)
      have hlq := hg.rot.lt
      have hg2 := (hg.alloc (.cells (whl (fun _ => 0) (.slice none 0 0)) 97)).other wr.heap.size hg.mg.lt (by omega) (whl (Pm.up (M.wi k)) (R k))
      have hr7 := (RowAt.new wr 97 (whl (fun _ => 0) (.slice none 0 0))).row (whl (Pm.up (M.wi k)) (R k))
      generalize (wr.alloc (.cells (whl (fun _ => 0) (.slice none 0 0)) 97)).setRow wr.heap.size (whl (Pm.up (M.wi k)) (R k)) = X at *
      obtain ⟨p7, hp7⟩ : ∃ p, p = wr.heap.size := ⟨_, rfl⟩
      have HNE : Hid (p7 ≠ q) := (by omega : p7 ≠ q)
      rw [← hp7] at hr7 ⊢
      have hns : NsAt w X.drew (.slice (some ⟨bw, ow, none⟩) M.n cap) (.slice (some ⟨br, or', none⟩) M.n cr) (.slice (some ⟨bz, oz, none⟩) M.n cz) (Pm.up M.rf) (Pm.up M.pl) q p7 (whl (Pm.up (M.wi k)) (R k)) (k * 80) AW.toList (rotA M M.st (k + 1)) := ⟨⟨_, hg2.drew, by rw [Array.length_toList, HSZ.out, rotA_size]; have := HLT.out; omega, HLAY.out⟩, hr7⟩
      clear hp7 hrg hrg2 hnk hz27 HONE hg hrc hsc hlq
      refine wp_region_noPanic ?_
      refine wp_region_held_drew (S := fun W => NsAt w W (.slice (some ⟨bw, ow, none⟩) M.n cap) (.slice (some ⟨br, or', none⟩) M.n cr) (.slice (some ⟨bz, oz, none⟩) M.n cz) (Pm.up M.rf) (Pm.up M.pl) q p7 (whl (Pm.up (M.wi k)) (R k)) (k * 80) AW.toList (rotA M M.st (k + 1))) (by kernel_rfl) hns (fun hS => ?_)
      refine vtake 0 30 (.pointer (some ⟨q, 0, none⟩)) rfl rfl (by kernel_rfl) (by kernel_rfl) (by kernel_rfl) (fun _ _ _ _ h => h) (by rfl) (fun W hW => by clear hS hW; go_simp) hS ?_
      simp only [List.setIfInBounds_toArray, List.set_cons_succ, List.set_cons_zero]
      refine vtake 1 31 (.int .i64 (k : Nat)) rfl rfl (by kernel_rfl) (by kernel_rfl) (by kernel_rfl) (fun _ _ _ _ h => h) (by rfl) (fun W hW => by clear hS hW; go_simp) hS ?_
      simp only [List.setIfInBounds_toArray, List.set_cons_succ, List.set_cons_zero]
      refine vtake 2 32 (.agg (whl (Pm.up (M.wi k)) (R k))) rfl rfl (by kernel_rfl) (by kernel_rfl) (by kernel_rfl) (fun _ _ _ _ h => h) (by rfl) (fun W hW => by have u := run_loadVar_row (P := Tryz.prog) W p7 97 97 (whl (Pm.up (M.wi k)) (R k)) (0, 0) _ hW.p Tryz.underlying97 rfl (by rw [whl_size]; exact v_info_whl); clear hS hW; simp [execOp, Act.eval, Instr.loadAt, Instr.sureAddr, u]) hS ?_
      simp only [List.setIfInBounds_toArray, List.set_cons_succ, List.set_cons_zero]
      refine vtake 3 33 (.pointer (some ⟨w.heap.size, 1, none⟩)) rfl rfl (by kernel_rfl) (by kernel_rfl) (by kernel_rfl) (fun _ _ _ _ h => h) (by rfl) (fun W hW => by clear hS hW; go_simp) hS ?_
      simp only [List.setIfInBounds_toArray, List.set_cons_succ, List.set_cons_zero]
      refine vtake 4 34 (.slice (some ⟨br, or', none⟩) M.n cr) rfl rfl (by kernel_rfl) (by kernel_rfl) (by kernel_rfl) (fun _ _ _ _ h => h) (by rfl) (fun W hW => by have u := hW.mg.c1; clear hS hW; go_simp) hS ?_
      simp only [List.setIfInBounds_toArray, List.set_cons_succ, List.set_cons_zero]
      refine vtake 5 35 (.int .i64 (k : Nat)) rfl rfl (by kernel_rfl) (by kernel_rfl) (by kernel_rfl) (fun _ _ _ _ h => h) (by rfl) (fun W hW => by clear hS hW; go_simp) hS ?_
      simp only [List.setIfInBounds_toArray, List.set_cons_succ, List.set_cons_zero]
      refine vtake 6 36 (.pointer (some ⟨br, or' + k, none⟩)) rfl rfl (by kernel_rfl) (by kernel_rfl) (by kernel_rfl) (fun _ _ _ _ h => h) (by rfl) (fun W hW => by clear hS hW; go_simp) hS ?_
      simp only [List.setIfInBounds_toArray, List.set_cons_succ, List.set_cons_zero]
      refine vtake 7 37 (.int .i64 (M.ri k : Nat)) rfl rfl (by kernel_rfl) (by kernel_rfl) (by kernel_rfl) (fun _ _ _ _ h => h) (by rfl) (fun W hW => by have u := HRC.out W hW.mg.below; clear hS hW; go_simp) hS ?_
      simp only [List.setIfInBounds_toArray, List.set_cons_succ, List.set_cons_zero]
      refine vtake 8 38 (.pointer (some ⟨w.heap.size, 2, none⟩)) rfl rfl (by kernel_rfl) (by kernel_rfl) (by kernel_rfl) (fun _ _ _ _ h => h) (by rfl) (fun W hW => by clear hS hW; go_simp) hS ?_
      simp only [List.setIfInBounds_toArray, List.set_cons_succ, List.set_cons_zero]
      refine vtake 9 39 (.slice (some ⟨bz, oz, none⟩) M.n cz) rfl rfl (by kernel_rfl) (by kernel_rfl) (by kernel_rfl) (fun _ _ _ _ h => h) (by rfl) (fun W hW => by have u := hW.mg.c2; clear hS hW; go_simp) hS ?_
      simp only [List.setIfInBounds_toArray, List.set_cons_succ, List.set_cons_zero]
      refine vtake 10 40 (.int .i64 (k : Nat)) rfl rfl (by kernel_rfl) (by kernel_rfl) (by kernel_rfl) (fun _ _ _ _ h => h) (by rfl) (fun W hW => by clear hS hW; go_simp) hS ?_
      simp only [List.setIfInBounds_toArray, List.set_cons_succ, List.set_cons_zero]
      refine vtake 11 41 (.pointer (some ⟨bz, oz + k, none⟩)) rfl rfl (by kernel_rfl) (by kernel_rfl) (by kernel_rfl) (fun _ _ _ _ h => h) (by rfl) (fun W hW => by clear hS hW; go_simp) hS ?_
      simp only [List.setIfInBounds_toArray, List.set_cons_succ, List.set_cons_zero]
      refine vtake 12 42 (.int .i64 (M.st k : Nat)) rfl rfl (by kernel_rfl) (by kernel_rfl) (by kernel_rfl) (fun _ _ _ _ h => h) (by rfl) (fun W hW => by have u := HSC.out W hW.mg.below; clear hS hW; go_simp) hS ?_
      simp only [List.setIfInBounds_toArray, List.set_cons_succ, List.set_cons_zero]
      refine vtake 14 44 (.pointer (some ⟨q, 0, none⟩)) rfl rfl (by kernel_rfl) (by kernel_rfl) (by kernel_rfl) (fun _ _ _ _ h => h) (by rfl) (fun W hW => by clear hS hW; go_simp) hS ?_
      simp only [List.setIfInBounds_toArray, List.set_cons_succ, List.set_cons_zero]
      refine vtake 15 45 (.pointer (some ⟨q, 0, none⟩)) rfl rfl (by kernel_rfl) (by kernel_rfl) (by kernel_rfl) (fun _ _ _ _ h => h) (by rfl) (fun W hW => by clear hS hW; go_simp) hS ?_
      simp only [List.setIfInBounds_toArray, List.set_cons_succ, List.set_cons_zero]
      refine wpAnyH_ready (rs := [13]) (by kernel_rfl) (by simp) ?_
      refine AllReadyH.cons (o := _) rfl (fun K hK => ?_) AllReadyH.nil
      rw [if_pos (by rfl)]
      go_simp
      refine Calls.mono (HTU.out _ hS.mg.below) ?_
      rintro e Y ⟨rfl, hb8⟩
      refine hK.out _ _ (hS.step hb8) (fun hS1 => ?_)
      clear hK hS K
      have hS := hS1
      clear hS1
      refine vtake 16 46 (.pointer (some ⟨q, k * 80, none⟩)) rfl rfl (by kernel_rfl) (by kernel_rfl) (by kernel_rfl) (fun _ _ _ _ h => h) (by rfl) (fun W hW => by have u : ¬ 4 ≤ (k : Int) := HLI.out; clear hS hW; go_simp) hS ?_
      simp only [List.setIfInBounds_toArray, List.set_cons_succ, List.set_cons_zero]
      refine wpAnyH_ready (rs := [17]) (by kernel_rfl) (by simp) ?_
      refine AllReadyH.cons (o := _) rfl (fun K hK => ?_) AllReadyH.nil
      rw [if_pos (by rfl)]
      have hth := hS.there
      rw [Array.length_toList] at hth
      have hlay := hS.lay HNE.out
      refine wp_store_mid 188 _ _ rfl q (k * 80) AW rfl rfl hth (by rw [HSZ.out]; exact v_info_wl) HON.out ?_
      refine hK.out _ _ hlay.2 (fun hS1 => ?_)
      have hgn := hlay.1
      clear hK hS K hth hlay
      have hS := hS1
      clear hS1
      refine wpAnyH_done (by kernel_rfl) ?_ _
      refine NoPanic.normal ?_
      clear hS
      go_wp2_with fail
      go_roundw
      case rel => exact ⟨k + 1, HLN.out, by go_num, hgn⟩
      case measure => have := HLN.out; simp [intOf]; omega
    · obtain rfl : k = M.n := by omega
      have hnl : ¬ ((M.n : Nat) : Int) < ((M.n : Nat) : Int) := by omega
      have hrt := hg.rot
      have hle := hg.lt
      have hbe := hg.mg.below
      clear hg
      go_wp2
      go_ret2
      exact ⟨q, rfl, Nat.le_of_lt hle, ⟨hrt, HOK.out, HOK.out.st⟩, hbe⟩
theorem new_any (vm : Value) (g : Gm) (w : World) (hm : MacAt w vm g) : Calls Tryz.prog 131 #[vm] w fun e w' => (gE g ≠ 0 ∧ e = .returned (.tuple #[.pointer none, .int .i64 (gE g)]) ∧ Below w.heap.size w w') ∨ (gE g = 0 ∧ ∃ q, e = .returned (.tuple #[.pointer (some ⟨q, 0, none⟩), .int .i64 0]) ∧ w.heap.size ≤ q ∧ RotAt w' q (maOf g) (maOf g).st ∧ Below w.heap.size w w') := by
  have HW := fun W (hb : Below w.heap.size w W) => gw_any vm g W (hm.below hb)
  by_cases hg : gE g = 0
  · obtain ⟨hM, hmm⟩ := ok_maOf hg
    rw [hg] at HW
    refine (new_ok _ hM vm w (hmm w vm hm) HW).mono ?_
    intro e w' h
    exact .inr ⟨hg, h⟩
  · obtain ⟨a, b, c, rfl, _⟩ := hm
    refine (new_bad a b c g.rf g.pl _ (by simpa using hg) w HW).mono ?_
    rintro e w' ⟨rfl, hb⟩
    exact .inl ⟨hg, rfl, hb⟩
end Go.Proofs.YtkohhdkkbaifoaaGreatDoor
