/-
  Contracts of slices.Equal, of chart's alike, and of the look of chart's Find (chapter 9).
-/
import Derived.Test.YthfjkhmedpilnaaFd3
namespace Go.Proofs.Ythfjkhmedpilnaa
open Go.RowKit PK Vg

/-- Two rows of numbers are the same. -/
def smB (n m : Nat) (f g : Nat → Int) : Bool := decide (n = m) && (List.range n).all fun i => decide (f i = g i)
theorem smB_iff {n m : Nat} {f g : Nat → Int} : smB n m f g = true ↔ n = m ∧ ∀ i, i < n → f i = g i := by
  unfold smB
  simp [List.all_eq_true]
set_option maxRecDepth 100000 in
set_option maxHeartbeats 2000000 in
theorem peq_any (u v : Value) (n k : Nat) (f g : Nat → Int) (w : World) (hu : NumsAt w u n f) (hv : NumsAt w v k g) :
    Calls Try.prog 51 #[u, v] w fun e w' => e = .returned (.bool (smB n k f g)) ∧ Below w.heap.size w w' := by
  obtain ⟨a, ca, rfl, hmx, hca⟩ := hu
  obtain ⟨b, cb, rfl, _, hcb⟩ := hv
  have HA := (show Hid (∀ c, c < n → ∃ b o, a = some ⟨b, o, none⟩ ∧ w.cell? ⟨b, o + c, none⟩ = some (.int .i64 (f c))) from hca)
  have HB := (show Hid (∀ c, c < k → ∃ b' o, b = some ⟨b', o, none⟩ ∧ w.cell? ⟨b', o + c, none⟩ = some (.int .i64 (g c))) from hcb)
  unfold maxLen at hmx
  clear hca hcb
  by_cases hnk : n = k
  case neg =>
    have h1 : (((n : Nat) : Int) != ((k : Nat) : Int)) = true := by simp; omega
    have HF : Hid (smB n k f g = false) := by
      cases hq : smB n k f g
      · rfl
      · exact absurd (smB_iff.1 hq).1 hnk
    clear hnk HA HB
    go_enter Try.func51, Try.ntmps51
    go_wp2
    go_ret
    exact ⟨by rw [HF.out]; rfl, Below.refl _ _⟩
  subst hnk
  have h1 : (((n : Nat) : Int) != ((n : Nat) : Int)) = false := by simp
  go_enter Try.func51, Try.ntmps51
  go_wp2_with fail
  go_loopw [13] (fun i W => ∃ m : Nat, m ≤ n ∧ i = .int .i64 m ∧ Below w.heap.size w W ∧ ∀ j, j < m → f j = g j) (fun i _ => ((n : Int) - intOf i).toNat)
  case atStart => exact ⟨0, by omega, rfl, Below.refl _ _, fun j hj => by omega⟩
  case round =>
    obtain ⟨m, hm, rfl, hb, hj⟩ := hrel
    by_cases hlt : m < n
    · obtain ⟨b1, o1, e1, h1'⟩ := HA.out m hlt
      obtain ⟨b2, o2, e2, h2'⟩ := HB.out m hlt
      subst e1 e2
      have c1 := (hb.cell (p := ⟨b1, o1 + m, none⟩) (cell_block h1')).trans h1'
      have c2 := (hb.cell (p := ⟨b2, o2 + m, none⟩) (cell_block h2')).trans h2'
      have HJ := (show Hid _ from hj)
      have HLT : Hid (m < n) := hlt
      have hlt2 : (m : Int) < (n : Int) := by omega
      have HX : Hid (∀ x y, x = f m → y = g m → (x = y ↔ f m = g m)) := fun x y h1 h2 => by rw [h1, h2]
      obtain ⟨x, hx⟩ : ∃ x, x = f m := ⟨_, rfl⟩
      obtain ⟨y, hy⟩ : ∃ y, y = g m := ⟨_, rfl⟩
      have HXY := (show Hid (x = y ↔ f m = g m) from HX.out x y hx hy)
      rw [← hx] at c1
      rw [← hy] at c2
      clear h1' h2' hj hx hy HX hlt
      by_cases hxy : x = y
      · have hxb : (x != y) = false := by simp [hxy]
        have HJ2 : Hid (∀ j, j < m + 1 → f j = g j) := fun j hj => by
          by_cases e : j = m
          · rw [e]; exact HXY.out.1 hxy
          · exact HJ.out j (by omega)
        clear hxy
        go_wp2_with fail
        go_quiet (fail)
        go_wp2
        go_roundw
        case rel => exact ⟨m + 1, HLT.out, by go_num, ⟨hb.os, hb.tape, hb.output, hb.size, hb.block⟩, HJ2.out⟩
        case measure => have := HLT.out; simp [intOf]; omega
      · have hxb : (x != y) = true := by simp [hxy]
        have HF : Hid (smB n n f g = false) := by
          cases hq : smB n n f g
          · rfl
          · exact absurd (HXY.out.2 ((smB_iff.1 hq).2 m HLT.out)) hxy
        clear hxy
        go_wp2_with fail
        go_quiet (fail)
        go_wp2
        go_ret
        exact ⟨by rw [HF.out]; rfl, ⟨hb.os, hb.tape, hb.output, hb.size, hb.block⟩⟩
    · have hnn : ¬ (m : Int) < (n : Int) := by omega
      have HT : Hid (smB n n f g = true) := smB_iff.2 ⟨rfl, fun i hi => hj i (by omega)⟩
      have HB' := (show Hid _ from hb)
      clear hj hb hlt
      go_wp2
      go_ret
      exact ⟨by rw [HT.out]; rfl, HB'.out⟩
theorem f_size_sl3 : (Try.prog.info? 28).map (·.size) = some 3 := by kernel_rfl
theorem f_zero_sl3 : (Try.prog.info? 28).map (·.zero) = some (some (.agg (tab 3 fun _ => .slice none 0 0))) := by kernel_rfl
theorem f_index_tab {P : Program} (t e e' : TypeId) (n : Nat) (hu : P.underlying t = some (.array n e)) (he : P.underlying e = some (.slice e')) (hs : (P.info? e).map (·.size) = some 1) (f : Nat → Value) (k : Nat) (hk : k < n) (w : World) :
    (Instr.index t (.agg (tab n f)) (.int .i64 (k : Int))).run P w = .ok (f k) w := by
  cases hq : P.info? e with
  | none => simp [hq] at hs
  | some i =>
    have h1 : i.size = 1 := by simpa [hq] using hs
    have h2 : ((k : Int) < (n : Int)) := by omega
    simp [Instr.index, asIntOf, Sem.run_bind, run_underlying hu, part, isAgg, run_underlying he, sizeOf, typeInfo, hq, h1, hk, tab_get f hk]
/-- Three lists of numbers. -/
def TsAt (W : World) (U : Nat → Value) (n : Nat → Nat) (f : Nat → Nat → Int) : Prop := ∀ i, i < 3 → NumsAt W (U i) (n i) (f i)
theorem TsAt.below {w w' : World} {U : Nat → Value} {n : Nat → Nat} {f : Nat → Nat → Int} (h : TsAt w U n f) (hb : Below w.heap.size w w') : TsAt w' U n f := fun i hi => (h i hi).below hb
/-- The first k of them are the same. -/
def alTo (n m : Nat → Nat) (f g : Nat → Nat → Int) : Nat → Bool
  | 0 => true
  | k + 1 => alTo n m f g k && smB (n k) (m k) (f k) (g k)
theorem alTo_false {n m : Nat → Nat} {f g : Nat → Nat → Int} {k : Nat} (h : alTo n m f g k = false) : ∀ j, k ≤ j → alTo n m f g j = false := fun j hj => by
  induction hj with
  | refl => exact h
  | step _ ih => show (alTo n m f g _ && _) = false; rw [ih]; rfl
theorem tab3_one {U : Nat → Value} (h : ∀ i, i < 3 → (U i).oneCell' = true) : (tab 3 U).all (·.oneCell') = true := by
  rw [Array.all_eq_true_iff_forall_mem]
  intro v hv
  simp [tab] at hv
  obtain ⟨i, hi, rfl⟩ := hv
  exact h i hi
theorem ts_form {W : World} {U : Nat → Value} {n : Nat → Nat} {f : Nat → Nat → Int} (h : TsAt W U n f) {i : Nat} (hi : i < 3) : ∃ a c, U i = .slice a (n i) c := by
  obtain ⟨a, c, e, _⟩ := h i hi
  exact ⟨a, c, e⟩
structure AlAt (w W : World) (U V : Nat → Value) : Prop where
  one : RowAt W w.heap.size 28 (tab 3 U)
  two : RowAt W (w.heap.size + 1) 28 (tab 3 V)
  below : Below w.heap.size w W
theorem AlAt.new (w : World) (U V : Nat → Value) : AlAt w ((w.alloc (.cells (tab 3 U) 28)).alloc (.cells (tab 3 V) 28)) U V := by
  refine ⟨(RowAt.new w _ _).alloc _, ?_, ((Below.refl _ w).alloc (Nat.le_refl _) _).alloc (by simp) _⟩
  have h := RowAt.new (w.alloc (.cells (tab 3 U) 28)) 28 (tab 3 V)
  rw [World.size_alloc] at h
  exact h
theorem AlAt.step {w W W' : World} {U V : Nat → Value} (h : AlAt w W U V) (hb : Below W.heap.size W W') : AlAt w W' U V := ⟨h.one.below hb h.one.lt, h.two.below hb h.two.lt, h.below.trans (hb.mono h.below.size)⟩
set_option maxRecDepth 100000 in
set_option maxHeartbeats 2000000 in
theorem pal_any (U V : Nat → Value) (n m : Nat → Nat) (f g : Nat → Nat → Int) (w : World) (hu : TsAt w U n f) (hv : TsAt w V m g) : Calls Try.prog 21 #[.agg (tab 3 U), .agg (tab 3 V)] w fun e w' => e = .returned (.bool (alTo n m f g 3)) ∧ Below w.heap.size w w' := by
  have h0 := AlAt.new w U V
  have HU := (show Hid (TsAt w U n f) from hu)
  have HV := (show Hid (TsAt w V m g) from hv)
  clear hu hv
  go_enter Try.func21, Try.ntmps21
  go_upto_region 1 with fail
  generalize (w.alloc (.cells (tab 3 U) 28)).alloc (.cells (tab 3 V) 28) = W0 at *
  go_wp2_with (first | refine wpList_load_row rfl 28 _ rfl w.heap.size rfl 28 (tab 3 U) (0, 0) _ h0.one Try.underlying28 rfl (by rw [tab_size]; exact f_size_sl3) ?_)
  go_loopw [8] (fun x W => ∃ k : Nat, k ≤ 3 ∧ x = .int .i64 (k : Nat) ∧ AlAt w W U V ∧ Hid (alTo n m f g k = true)) (fun x _ => ((3 : Int) - intOf x).toNat)
  case atStart => exact ⟨0, by omega, rfl, h0, rfl⟩
  case round =>
    clear h0
    obtain ⟨k, hk, rfl, hg, HT⟩ := hrel
    by_cases hlt : k < 3
    · have HLT : Hid (k < 3) := hlt
      have hlt2 : (k : Int) < 3 := by omega
      obtain ⟨a1, c1, e1⟩ := ts_form HU.out hlt
      obtain ⟨a2, c2, e2⟩ := ts_form HV.out hlt
      have hix := f_index_tab 28 23 3 3 Try.underlying28 Try.underlying23 f_size_ints U k hlt
      rw [e1] at hix
      have hcl := hg.two.cell (tab_get V hlt)
      rw [e2] at hcl
      have HCA := (show Hid (Calls Try.prog 51 #[.slice a1 (n k) c1, .slice a2 (m k) c2] wr fun e w' => e = .returned (.bool (smB (n k) (m k) (f k) (g k))) ∧ Below wr.heap.size wr w') from by
        have := peq_any (U k) (V k) (n k) (m k) (f k) (g k) wr ((HU.out k hlt).below hg.below) ((HV.out k hlt).below hg.below)
        rw [e1, e2] at this
        exact this)
      have HNX : Hid (alTo n m f g (k + 1) = smB (n k) (m k) (f k) (g k)) := by
        show (alTo n m f g k && smB (n k) (m k) (f k) (g k)) = _
        rw [HT.out, Bool.true_and]
      have HFA := (show Hid (smB (n k) (m k) (f k) (g k) = false → alTo n m f g 3 = false) from fun h => alTo_false (k := k + 1) (by rw [HNX.out]; exact h) 3 hlt)
      have HG := (show Hid (AlAt w wr U V) from hg)
      generalize smB (n k) (m k) (f k) (g k) = y at *
      clear hg hlt HT e1 e2
      go_wp2_with fail
      refine Calls.mono HCA.out ?_
      rintro e Y ⟨rfl, hb⟩
      have HG2 := (show Hid _ from HG.out.step hb)
      clear hb HCA HG hix hcl
      cases y
      · have HF := (show Hid (alTo n m f g 3 = false) from HFA.out (by first | rfl | trivial))
        clear HFA HNX
        go_wp2
        go_ret
        exact ⟨by rw [HF.out]; rfl, HG2.out.below⟩
      · clear HFA
        go_wp2
        go_roundw
        case rel => exact ⟨k + 1, HLT.out, by go_num, HG2.out, HNX.out⟩
        case measure => have := HLT.out; simp [intOf]; omega
    · obtain rfl : k = 3 := by omega
      have HB := (show Hid _ from hg.below)
      clear hg hlt HU HV
      go_wp2
      go_ret
      exact ⟨by rw [HT.out]; rfl, HB.out⟩
/-- The chart's types are those. -/
def hitB (g : Gm) (m : Nat → Nat) (fb : Nat → Nat → Int) : Bool := alTo (fun i => (typeOf (chC (maOf g) i)).length) m (fun i j => (((typeOf (chC (maOf g) i)).getD j 0 : Nat) : Int)) fb 3
theorem sl3_all (V : Nat → Value) : sl3 3 V = tab 3 V := tab_ext fun _ hi => if_pos hi
structure LkS (w W : World) (a b c : Value) (rf pl : Nat → Int) (V : Nat → Value) (q : Nat) (bT : Nat) (U : Nat → Value) : Prop where
  mg : MgAt w W a b c rf pl
  told : RowAt W q 28 (tab 3 V)
  tys : W.rangeAt bT 0 (tab 3 U).toList
theorem LkS.drew {w W : World} {a b c : Value} {rf pl : Nat → Int} {V : Nat → Value} {q bT : Nat} {U : Nat → Value} (h : LkS w W a b c rf pl V q bT U) : LkS w W.drew a b c rf pl V q bT U := ⟨⟨h.mg.row, h.mg.below.drew⟩, h.told, h.tys⟩
set_option maxRecDepth 100000 in
set_option maxHeartbeats 4000000 in
theorem plook_any (a b c : Value) (g : Gm) (hgE : gE g = 0) (bT : Nat) (U : Nat → Value) (m : Nat → Nat) (fb : Nat → Nat → Int) (w : World) (hm : MacAt w (.agg (mac a b c g.rf g.pl)) g) (hbT : w.rangeAt bT 0 (tab 3 U).toList) (hU : TsAt w U m fb) : Calls Try.prog 20 #[.agg (mac a b c g.rf g.pl), .pointer (some ⟨bT, 0, none⟩)] w fun e w' => e = .returned (.tuple #[c, .bool (hitB g m fb)]) ∧ Below w.heap.size w w' := by
  have hbl : bT < w.heap.size := cell_block (hbT 0 (U 0) (by
    have ex : (tab 3 U).toList[0]? = (tab 3 U)[0]? := Array.getElem?_toList
    rw [ex, tab_get _ (by decide)]))
  have HTY := (show Hid (∀ W, Below w.heap.size w W → Calls Try.prog 11 #[.agg (mac a b c g.rf g.pl)] W fun e w' => ∃ V, e = .returned (.tuple #[.agg (tab 3 V), .int .i64 0]) ∧ TysAt w' V 3 (chC (maOf g)) ∧ Below W.heap.size W w') from fun W hb => by
    refine (types_any _ g W (hm.below hb)).mono ?_
    rintro e w' (⟨h, _⟩ | ⟨_, V, h1, h2, h3⟩)
    · exact absurd hgE h
    · exact ⟨V, by rw [h1, sl3_all], h2, h3⟩)
  have h0 := MgAt.new w a b c g.rf g.pl
  obtain ⟨a', b', c', e0, _, _, hst⟩ := hm
  obtain rfl : c = c' := by
    have h1 := congrArg (fun v => match v with | .agg x => x[2]? | _ => none) e0
    simp only [mac_2] at h1
    exact Option.some.inj h1
  obtain ⟨ac, cc, rfl, _, _⟩ := hst
  have hz3 := o_zero f_zero_sl3
  have HU := (show Hid (TsAt w U m fb) from hU)
  have HBT := (show Hid (w.rangeAt bT 0 (tab 3 U).toList) from hbT)
  obtain ⟨A0, hA0⟩ : ∃ A0, A0 = mac a b (.slice ac g.sl cc) g.rf g.pl := ⟨_, rfl⟩
  have hA0s : A0.size = 55 := by rw [hA0, mac_size]
  have hld := h0.row
  rw [← hA0] at hld HTY ⊢
  have HA0 := (show Hid _ from hA0)
  clear hbT hU e0 hA0
  go_enter Try.func20, Try.ntmps20
  go_upto_region 1 with fail
  have h0' : MgAt w (w.alloc (.cells A0 27)) a b (.slice ac g.sl cc) g.rf g.pl := by rw [HA0.out]; exact h0
  have hld' : RowAt (w.alloc (.cells A0 27)) w.heap.size 27 A0 := RowAt.new w _ _
  clear h0 hld
  generalize w.alloc (.cells A0 27) = W0 at *
  go_wp2_with (first | refine wpList_load_row rfl 27 _ rfl w.heap.size rfl 27 A0 (0, 0) _ hld' Try.underlying27 rfl (by rw [hA0s]; exact v_info_mac) ?_)
  refine (HTY.out _ h0'.below).mono ?_
  rintro e W1 ⟨V, rfl, hV, hb⟩
  have h1 := h0'.step hb
  have HV1 : Hid (∀ i, i < 3 → (V i).oneCell' = true) := fun i hi => by
    obtain ⟨x, y, e, _⟩ := hV i hi
    rw [e]; rfl
  have htabo := tab3_one HV1.out
  clear hb h0' hld' HTY
  go_upto_region 2 with (first | refine wpList_store_row rfl 28 _ _ rfl W1.heap.size (tab 3 V) rfl rfl 28 _ (RowAt.new W1 _ _) (by rw [tab_size]; exact f_size_sl3) (by simp only [tab_size]) htabo ?_)
  have hb2 := Below.setRow ((Below.refl W1.heap.size W1).alloc (Nat.le_refl _) (.cells (tab 3 fun _ => .slice none 0 0) 28)) W1.heap.size (Nat.le_refl _) (tab 3 V)
  have h2 := h1.step hb2
  have hq2 := (RowAt.new W1 28 (tab 3 fun _ => .slice none 0 0)).row (tab 3 V)
  have hV2 : TsAt ((W1.alloc (.cells (tab 3 fun _ => .slice none 0 0) 28)).setRow W1.heap.size (tab 3 V)) V (fun i => (typeOf (chC (maOf g) i)).length) (fun i j => (((typeOf (chC (maOf g) i)).getD j 0 : Nat) : Int)) := fun i hi => (hV i hi).below hb2
  generalize (W1.alloc (.cells (tab 3 fun _ => .slice none 0 0) 28)).setRow W1.heap.size (tab 3 V) = W2 at *
  generalize W1.heap.size = q at *
  have hS0 : LkS w W2 a b (.slice ac g.sl cc) g.rf g.pl V q bT U := ⟨h2, hq2, Below.rangeAt h2.below HBT.out hbl⟩
  have HAL := (show Hid (∀ W, Below W2.heap.size W2 W → Calls Try.prog 21 #[.agg (tab 3 V), .agg (tab 3 U)] W fun e w' => e = .returned (.bool (hitB g m fb)) ∧ Below W.heap.size W w') from fun W hb => pal_any V U _ m _ fb W (hV2.below hb) (HU.out.below (h2.below.trans (hb.mono h2.below.size))))
  have HL1 := (show Hid (∀ W, LkS w W a b (.slice ac g.sl cc) g.rf g.pl V q bT U → W.cell? ⟨w.heap.size, 2, none⟩ = some (.slice ac g.sl cc)) from fun W h => h.mg.row.cell (mac_2 _ _ _ _ _))
  have HL2 := (show Hid (∀ W, LkS w W a b (.slice ac g.sl cc) g.rf g.pl V q bT U → (Instr.loadAt 28 (.pointer (some ⟨q, 0, none⟩))).run Try.prog W = .ok (.agg (tab 3 V)) W) from fun W h => by
    have u := run_loadAt_mid (P := Try.prog) W q 0 28 (tab 3 V).toList _ h.told.range Try.underlying28 rfl (by rw [Array.length_toList, tab_size]; exact f_size_sl3)
    rw [Array.toArray_toList] at u
    exact u)
  have HL3 := (show Hid (∀ W, LkS w W a b (.slice ac g.sl cc) g.rf g.pl V q bT U → (Instr.loadAt 28 (.pointer (some ⟨bT, 0, none⟩))).run Try.prog W = .ok (.agg (tab 3 U)) W) from fun W h => by
    have u := run_loadAt_mid (P := Try.prog) W bT 0 28 (tab 3 U).toList _ h.tys Try.underlying28 rfl (by rw [Array.length_toList, tab_size]; exact f_size_sl3)
    rw [Array.toArray_toList] at u
    exact u)
  have HBW := (show Hid (Below W2.heap.size W2 W2.drew) from (Below.refl _ _).drew)
  have HB2 := (show Hid (Below w.heap.size w W2) from h2.below)
  have HBL : Hid (bT < W2.heap.size) := Nat.lt_of_lt_of_le hbl h2.below.size
  obtain ⟨yy, hyy⟩ : ∃ yy, yy = hitB g m fb := ⟨_, rfl⟩
  rw [← hyy] at HAL
  have HYY := (show Hid _ from hyy)
  clear hyy
  generalize tab 3 V = TV at *
  generalize tab 3 U = TU at *
  clear h1 h2 hq2 hV2 hV HV1 htabo hb2 hz3 HU HBT
  refine wp_region_noPanic ?_
  refine wp_region_held_drew (S := fun W => LkS w W a b (.slice ac g.sl cc) g.rf g.pl V q bT U ∧ Below W2.heap.size W2 W) (by kernel_rfl) ⟨hS0.drew, HBW.out⟩ (fun hS => ?_)
  obtain ⟨Z, hZ⟩ : ∃ x, x = W2.drew := ⟨_, rfl⟩
  rw [← hZ] at hS ⊢
  clear hZ hS0
  refine vtake 0 12 (.pointer (some ⟨w.heap.size, 2, none⟩)) rfl rfl (by kernel_rfl) (by kernel_rfl) (by kernel_rfl) (fun _ _ _ _ h => h) (by rfl) (fun W hW => by clear hS hW; go_simp) hS ?_
  simp only [List.setIfInBounds_toArray, List.set_cons_succ, List.set_cons_zero]
  refine vtake 1 13 (.slice ac g.sl cc) rfl rfl (by kernel_rfl) (by kernel_rfl) (by kernel_rfl) (fun _ _ _ _ h => h) (by rfl) (fun W hW => by have u := HL1.out W hW.1; clear hS hW; go_simp) hS ?_
  simp only [List.setIfInBounds_toArray, List.set_cons_succ, List.set_cons_zero]
  refine vtake 2 14 (.agg TV) rfl rfl (by kernel_rfl) (by kernel_rfl) (by kernel_rfl) (fun _ _ _ _ h => h) (by rfl) (fun W hW => by have u := HL2.out W hW.1; clear hS hW; simp [execOp, Act.eval, u]) hS ?_
  simp only [List.setIfInBounds_toArray, List.set_cons_succ, List.set_cons_zero]
  refine vtake 3 15 (.agg TU) rfl rfl (by kernel_rfl) (by kernel_rfl) (by kernel_rfl) (fun _ _ _ _ h => h) (by rfl) (fun W hW => by have u := HL3.out W hW.1; clear hS hW; simp [execOp, Act.eval, u]) hS ?_
  simp only [List.setIfInBounds_toArray, List.set_cons_succ, List.set_cons_zero]
  refine wpAnyH_ready (rs := [4]) (by kernel_rfl) (by simp) ?_
  refine AllReadyH.cons (o := _) rfl (fun K hK => ?_) AllReadyH.nil
  rw [if_pos (by rfl)]
  go_simp
  refine Calls.mono (HAL.out _ hS.2) ?_
  rintro e Y ⟨rfl, hb8⟩
  refine hK.out _ _ ⟨⟨hS.1.mg.step hb8, hS.1.told.below hb8 hS.1.told.lt, Below.rangeAt hb8 hS.1.tys (Nat.lt_of_lt_of_le HBL.out hS.2.size)⟩, hS.2.trans (hb8.mono hS.2.size)⟩ (fun hS1 => ?_)
  clear hK hS K hb8
  have hS := hS1
  clear hS1
  refine vtake 5 3 (.slice ac g.sl cc) rfl rfl (by kernel_rfl) (by kernel_rfl) (by kernel_rfl) (fun _ _ _ _ h => h) (by rfl) (fun W hW => by clear hS hW; go_simp) hS ?_
  simp only [List.setIfInBounds_toArray, List.set_cons_succ, List.set_cons_zero]
  refine vtake 6 4 (.bool yy) rfl rfl (by kernel_rfl) (by kernel_rfl) (by kernel_rfl) (fun _ _ _ _ h => h) (by rfl) (fun W hW => by clear hS hW; go_simp) hS ?_
  simp only [List.setIfInBounds_toArray, List.set_cons_succ, List.set_cons_zero]
  refine wpAnyH_done (by kernel_rfl) ?_ _
  refine NoPanic.normal ?_
  have HF := (show Hid (Below w.heap.size w Y) from hS.1.mg.below)
  clear hS
  go_wp2
  go_ret2
  exact ⟨by rw [← HYY.out]; rfl, HF.out⟩
end Go.Proofs.Ythfjkhmedpilnaa
