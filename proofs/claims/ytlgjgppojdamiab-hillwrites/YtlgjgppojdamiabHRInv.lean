/-
  Contract of the document's Inverse (Cramer).
-/
import Derived.Test.YtlgjgppojdamiabHWith
namespace Go.Proofs.Ytlgjgppojdamiab
open Go.RowKit PK

/-- 1 at k, 0 elsewhere. -/
def unitF (k : Nat) : Nat → Int := fun r => if r = k then 1 else 0
theorem with_cof (m : Nat) (h : m < 4) (A : Nat → Nat → Int) (x k : Nat) (hx : x < m + 1) (hk : k < m + 1) : dI (m + 1) (withF A x (unitF k)) = sgI (k + x) (dI m (minor A k x)) := by
  obtain rfl | rfl | rfl | rfl : m = 0 ∨ m = 1 ∨ m = 2 ∨ m = 3 := by omega
  · obtain rfl : x = 0 := by omega
    obtain rfl : k = 0 := by omega
    simp [dI, sumTo, sgI, withF, unitF]
  · obtain rfl | rfl : x = 0 ∨ x = 1 := by omega
    all_goals obtain rfl | rfl : k = 0 ∨ k = 1 := by omega
    all_goals simp [dI, sumTo, sgI, minor, skip, withF, unitF]
  · obtain rfl | rfl | rfl : x = 0 ∨ x = 1 ∨ x = 2 := by omega
    all_goals obtain rfl | rfl | rfl : k = 0 ∨ k = 1 ∨ k = 2 := by omega
    all_goals simp [dI, sumTo, sgI, minor, skip, withF, unitF]
    all_goals grind
  · obtain rfl | rfl | rfl | rfl : x = 0 ∨ x = 1 ∨ x = 2 ∨ x = 3 := by omega
    all_goals obtain rfl | rfl | rfl | rfl : k = 0 ∨ k = 1 ∨ k = 2 ∨ k = 3 := by omega
    all_goals simp [dI, sumTo, sgI, minor, skip, withF, unitF]
    all_goals grind
/-- CRAMER: column x replaced by 1 at k. -/
theorem cramer (m : Nat) (h : m < 4) (A : Nat → Nat → Int) (x k : Nat) (hx : x < m + 1) (hk : k < m + 1) : detL (m + 1) (withF A x (unitF k)) = cofL m A k x := by
  have h1 := cofL_mod m A k x
  have h2 := cofL_bound m A k x
  rw [detL_mod, with_cof m h A x k hx hk, ← h1]
  omega
theorem with_good {n : Nat} {Z : Nat → Nat → Int} (hZ : ∀ r, r < n → ∀ c, c < n → 0 ≤ Z r c ∧ Z r c < 26) (x k : Nat) : ∀ r, r < n → ∀ c, c < n → 0 ≤ withF Z x (unitF k) r c ∧ withF Z x (unitF k) r c < 26 := fun r hr c hc => by
  unfold withF unitF
  split
  · split <;> omega
  · exact hZ r hr c hc
/-- The last one below k that makes 1 of d, or -1. -/
def uTo (d : Int) : Nat → Int
  | 0 => -1
  | k + 1 => if (d * ((k : Nat) : Int)) % 26 == 1 then ((k : Nat) : Int) else uTo d k
theorem uTo_all (d : Int) (hd : 0 ≤ d ∧ d < 26) : uTo d 26 = if (recOf d).2 = 0 then (recOf d).1 else -1 := by
  obtain ⟨n, rfl⟩ : ∃ n : Nat, d = n := ⟨d.toNat, by omega⟩
  have hn : n < 26 := by omega
  have key : ∀ n, n < 26 → uTo ((n : Nat) : Int) 26 = if (recOf ((n : Nat) : Int)).2 = 0 then (recOf ((n : Nat) : Int)).1 else -1 := by decide +kernel
  exact key n hn
theorem unit_nums {W : World} {g n k : Nat} {T : TypeId} (h : RowAt W g T (ints n (unitF k))) (hn : n ≤ maxLen) : NumsAt W (.slice (some ⟨g, 0, none⟩) n n) n (unitF k) := NumsAt.of_row h hn
set_option maxRecDepth 100000 in
set_option maxHeartbeats 2000000 in
theorem rinv_ok (v : Value) (n : Nat) (L : Nat → Nat) (Z : Nat → Nat → Int) (hg : GoodM n Z) (hL : ∀ r, r < n → L r = n) (hr : (recOf (detL n Z)).2 = 0) (w : World) (hv : MatAt w v n L Z) :
    Calls Try.prog 22 #[v] w fun e w' => ∃ x, e = .returned (.tuple #[x, .int .i64 0]) ∧ MatAt w' x n (fun _ => n) (invL n Z) ∧ Below w.heap.size w w' := by
  obtain ⟨i0, hi0, hz0, hz1, hz2⟩ := info_parts h_info_int
  obtain ⟨j0, hj0, hy0, hy1, hy2⟩ := info_parts h_info_ints
  have H0 : Hid (matErr n L Z = 0) := (matErr_zero n L Z).2 ⟨hg, hL⟩
  have HV := (show Hid (MatAt w v n L Z) from hv)
  have hd := detL_bound n Z
  have HU : Hid (uTo (detL n Z) 26 = (recOf (detL n Z)).1) := by rw [Hid, uTo_all _ hd, if_pos hr]
  have hub := recOf_bound (detL n Z)
  have h1 := hg.pos
  have h4 := hg.le
  obtain ⟨m, hm⟩ : ∃ m, n = m + 1 := ⟨n - 1, by omega⟩
  have HINV : Hid (∀ x, x < n → ∀ k, k < n → ((recOf (detL n Z)).1 * detL n (withF Z x (unitF k))) % 26 = invL n Z x k) := fun x hx k hk => by
    subst hm
    rw [cramer m (by omega) Z x k hx hk]
    rfl
  have HZ := (show Hid (∀ r, r < n → ∀ c, c < n → 0 ≤ Z r c ∧ Z r c < 26) from hg.num)
  have HM2 := (show Hid (MatAt w v n (fun _ => n) Z) from hv.square hL)
  obtain ⟨a0, c0, rfl, _⟩ := hv.len
  have hmk2 := run_make_row' (P := Try.prog) 27 3 (.int .i64 0) 8 Try.underlying27 h_info_int rfl .i64 .i64 n (by omega) (by omega)
  rw [made_tab] at hmk2
  have HLB := (show Hid (Calls Try.prog 42 #[.slice a0 n c0] w fun e w' => e = .returned (.int .i64 (detL n Z)) ∧ Below w.heap.size w w') from leib_any n h1 h4 Z HZ.out _ w HM2.out)
  clear hv hr hg hm
  go_enter Try.func22, Try.ntmps22
  go_wp2_with fail
  refine Calls.mono (rw3_any _ n L Z w HV.out) ?_
  rintro e W1 ⟨rfl, rfl⟩
  rw [H0.out]
  go_wp2_with fail
  refine Calls.mono HLB.out ?_
  rintro e W0 ⟨rfl, hb0⟩
  generalize detL n Z = d at *
  generalize (recOf d).1 = u at *
  have hz0' := hb0.size
  go_wp2
  go_loop [7, 6] (fun i a => ∃ k : Nat, k ≤ 26 ∧ i = .int .i64 k ∧ a = .int .i64 (uTo d k)) (fun i _ => (26 - intOf i).toNat)
  case atStart => exact ⟨0, by omega, rfl, rfl⟩
  case round =>
    obtain ⟨k, hk, rfl, rfl⟩ := hrel
    by_cases hkl : k < 26
    · obtain ⟨p, hp⟩ : ∃ p, p = d * (k : Int) := ⟨_, rfl⟩
      have hpb := prod_bound hd (b := (k : Int)) (by omega)
      have HST : Hid (uTo d (k + 1) = if p % 26 == 1 then ((k : Nat) : Int) else uTo d k) := by rw [Hid, hp]; rfl
      rw [← hp] at hpb
      have hpw : IntKind.i64.wrap (d * (k : Int)) = p := by rw [← hp, IntKind.wrap_i64]; omega
      clear hp
      by_cases he : (p % 26 == 1) = true
      · have HE : Hid (uTo d (k + 1) = ((k : Nat) : Int)) := by rw [Hid, HST.out, if_pos he]
        go_wp2
        exact ⟨⟨k + 1, by omega, by go_num, by rw [HE.out]⟩, by simp [intOf]; omega⟩
      · have HE : Hid (uTo d (k + 1) = uTo d k) := by rw [Hid, HST.out, if_neg he]
        have he' : (p % 26 == 1) = false := by simpa using he
        clear he
        go_wp2
        exact ⟨⟨k + 1, by omega, by go_num, by rw [HE.out]⟩, by simp [intOf]; omega⟩
    · have hk26 : k = 26 := by omega
      subst hk26
      rw [HU.out]
      go_wp2
      go_loopw [34, 8] (fun i v W => ∃ x : Nat, x ≤ n ∧ i = .int .i64 x ∧ OwnsM W w.heap.size v (rowsL n (invL n Z) x) ∧ Below w.heap.size w W) (fun i _ _ => ((n : Int) - intOf i).toNat)
      case atStart => exact ⟨0, by omega, rfl, OwnsM.nil _ _, hb0⟩
      case round =>
        obtain ⟨x, hx, rfl, hown, hb⟩ := hrel
        have hsz := hb.size
        by_cases hlt : x < n
        · have HOWN := (show Hid (OwnsM wr w.heap.size u8 (rowsL n (invL n Z) x)) from hown)
          clear hown
          obtain ⟨W1, rfl⟩ : ∃ W1, W1 = wr := ⟨_, rfl⟩
          go_wp2
          go_loopw [39, 10] (fun i v W => ∃ k : Nat, k ≤ n ∧ i = .int .i64 k ∧ OwnsI W W1.heap.size v ((List.range k).map (invL n Z x)) ∧ Below W1.heap.size W1 W) (fun i _ _ => ((n : Int) - intOf i).toNat)
          case atStart => exact ⟨0, by omega, rfl, OwnsI.nil _ _, Below.refl _ _⟩
          case round =>
            obtain ⟨k, hk, rfl, hro, hb2⟩ := hrel
            have hsz2 := hb2.size
            by_cases hkl : k < n
            · have ro := RowAt.new wr 3 (tab n fun _ => .int .i64 0)
              have kc := ro.cell (tab_get (fun _ => .int .i64 0) hkl)
              have kf := ro.frozen k
              have HRO := (show Hid (OwnsI wr W1.heap.size u10 ((List.range k).map (invL n Z x))) from hro)
              clear hro
              go_wp2_with fail
              have eU : (tab n fun _ => .int .i64 0).setIfInBounds k (.int .i64 1) = ints n (unitF k) := by
                rw [tab_set]
                exact tab_ext fun q _ => by unfold upd unitF; by_cases e : q = k <;> simp [e]
              rw [eU]
              have rU := RowAt.new wr 3 (ints n (unitF k))
              have hbU : Below wr.heap.size wr (wr.alloc (.cells (ints n (unitF k)) 3)) := (Below.refl _ _).alloc (Nat.le_refl _) _
              have hzU := hbU.size
              clear kc kf ro eU
              generalize wr.alloc (.cells (ints n (unitF k)) 3) = W2 at *
              have hmW2 := (HM2.out.below (hb.trans (hb2.mono hsz))).below hbU
              refine Calls.mono (rwith_any n h1 h4 Z _ x hlt _ (unitF k) W2 hmW2 (NumsAt.of_row rU (by unfold maxLen; omega))) ?_
              rintro e W3 ⟨mv, rfl, hmv, hb3⟩
              have hz3 := hb3.size
              have hsq : MatAt W3 mv n (fun _ => n) (withF Z x (unitF k)) := OwnsM.square hmv
              clear hmv rU hmW2
              go_wp2_with fail
              refine Calls.mono (leib_any n h1 h4 _ (with_good HZ.out x k) mv W3 hsq) ?_
              rintro e W4 ⟨rfl, hb4⟩
              have hz4 := hb4.size
              have hb5 : Below W1.heap.size W1 W4 := hb2.trans ((hbU.trans ((hb3.trans (hb4.mono hz3)).mono hzU)).mono hsz2)
              have hro4 : OwnsI W4 W1.heap.size u10 ((List.range k).map (invL n Z x)) := own_below HRO.out (hbU.trans ((hb3.trans (hb4.mono hz3)).mono hzU))
              have HIV := (show Hid (u * detL n (withF Z x (unitF k)) % 26 = invL n Z x k) from HINV.out x hlt k hkl)
              have hdb := detL_bound n (withF Z x (unitF k))
              have hpb := prod_bound hub hdb
              generalize detL n (withF Z x (unitF k)) = dd at *
              obtain ⟨p, hp⟩ : ∃ p, p = u * dd := ⟨_, rfl⟩
              rw [← hp] at hpb HIV
              have hpw : IntKind.i64.wrap (u * dd) = p := by rw [← hp, IntKind.wrap_i64]; omega
              clear hp hsq hb3 hb4 hbU
              have hsz5 := hb5.size
              have hlm : ((List.range k).map (invL n Z x)).length = k := by simp
              go_wp2_with fail
              refine Calls.mono (rmod_any p W4) ?_
              rintro e W5 ⟨rfl, rfl⟩
              rw [HIV.out]
              obtain ⟨val, hval⟩ : ∃ val, val = invL n Z x k := ⟨_, rfl⟩
              rw [← hval]
              have HVAL : Hid (val = invL n Z x k) := hval
              clear hval
              go_wp2_with (first
                | (at_builtin; refine wpList_append_own _ rfl _ _ 27 rfl W1.heap.size 3 i0 (.int .i64 0) 1 8 Try.underlying27 hi0 hz0 hz1 hz2 rfl (by decide) _ _ _ rfl (World.ownsRow.alloc hro4 _) ⟨W4.heap.size, 0, none⟩ 1 1 [.int .i64 val] rfl rfl (cell_one_new _ _ _) (fun u hu => by simp at hu; subst hu; rfl) (by rw [hlm]; unfold maxLen; omega) (by rw [hlm]; omega) (by simp; omega) ?_; intro v' w1 hown' hgrow _))
              go_roundw
              case rel =>
                refine ⟨k + 1, by omega, by go_num, ?_, ?_⟩
                · rw [range_app, ← HVAL.out, OwnsI, inums_append, List.length_append]
                  exact hown'
                · exact (hb5.alloc (by omega) _).grown hgrow (by simp; omega) (fun q hq => by have := (World.ownsRow.lt hro4 q hq).1; omega)
              case measure => simp [intOf]; omega
            · have HXN : Hid (k = n) := by rw [Hid]; omega
              obtain ⟨vs, hv1, hv2⟩ := HOWN.out.below hb2
              rw [rowsL_length] at hv1
              rw [HXN.out] at hro
              have hro2 : OwnsI wr w.heap.size u10 ((List.range n).map (invL n Z x)) := own_le hro hsz
              obtain ⟨g, cp, rfl⟩ : ∃ g cp, u10 = .slice (some ⟨g, 0, none⟩) n cp := by
                have hl : ((List.range n).map (invL n Z x)).length = n := by simp
                rcases hro2.2 with ⟨_, h0'⟩ | ⟨g, cp, _, e, _⟩
                · omega
                · exact ⟨g, cp, by rw [e, hl]⟩
              have HV2 := (show Hid (∀ (k : Nat) (u : Value) (l : List Int), vs[k]? = some u → (rowsL n (invL n Z) x)[k]? = some l → OwnsI wr w.heap.size u l) from hv2)
              have HRO2 := (show Hid (OwnsI wr w.heap.size (.slice (some ⟨g, 0, none⟩) n cp) ((List.range n).map (invL n Z x))) from hro2)
              clear hro hro2 hv2
              go_wp2_with (first
                | (at_builtin; refine wpList_append_own _ rfl _ _ 41 rfl w.heap.size 27 j0 (.slice none 0 0) 1 24 Try.underlying41 hj0 hy0 hy1 hy2 rfl (by decide) _ _ _ rfl (World.ownsRow.alloc hv1 _) ⟨wr.heap.size, 0, none⟩ 1 1 [.slice (some ⟨g, 0, none⟩) n cp] rfl rfl (cell_one_new _ _ _) (fun u hu => by simp at hu; subst hu; rfl) (by unfold maxLen; omega) (by omega) (by simp; omega) ?_; intro v' w1 hown' hgrow _))
              go_roundw
              case rel =>
                refine ⟨x + 1, by omega, by go_num, ?_, ?_⟩
                · rw [rowsL_step]
                  have hbA : Below wr.heap.size wr (wr.alloc (.cells #[.slice (some ⟨g, 0, none⟩) n cp] 27)) := (Below.refl _ _).alloc (Nat.le_refl _) _
                  exact OwnsM.app (by rw [rowsL_length]; exact World.ownsRow.alloc hv1 _) (fun k u l a b => own_below (HV2.out k u l a b) hbA) (own_below HRO2.out hbA) (by rw [rowsL_length]; exact hown') hgrow
                · exact ((hb.trans (hb2.mono hsz)).alloc (by omega) _).grown hgrow (by simp; omega) (fun q hq => (World.ownsRow.lt hv1 q hq).1)
              case measure => simp [intOf]; omega
        · have HYN : Hid (x = n) := by rw [Hid]; omega
          rw [HYN.out] at hown
          go_wp2
          go_ret2
          exact ⟨_, rfl, OwnsM.square hown, hb⟩
end Go.Proofs.Ytlgjgppojdamiab
