/-
  Contracts of the document's Times and Product (chapter 3).
-/
import Derived.Test.YtlgjgppojdamiabHRef1
namespace Go.Proofs.Ytlgjgppojdamiab
open Go.RowKit PK

/-- The cells of a square matrix. -/
theorem sq_cells {w : World} {v : Value} {n : Nat} {Z : Nat → Nat → Int} (hn : 0 < n) (h : MatAt w v n (fun _ => n) Z) : ∃ b o cap, v = .slice (some ⟨b, o, none⟩) n cap ∧
    ∀ r, r < n → ∃ x y c, w.cell? ⟨b, o + r, none⟩ = some (.slice (some ⟨x, y, none⟩) n c) ∧ ∀ k, k < n → w.cell? ⟨x, y + k, none⟩ = some (.int .i64 (Z r k)) := by
  obtain ⟨b, o, cap, R, e, _, hc, hr⟩ := h.form hn
  refine ⟨b, o, cap, e, fun r hr0 => ?_⟩
  obtain ⟨x, y, c, e2, _, hk⟩ := (hr r hr0).form hn
  exact ⟨x, y, c, by rw [← e2]; exact hc r hr0, hk⟩
/-- Rows that have been made. -/
def rowsL (n : Nat) (F : Nat → Nat → Int) (y : Nat) : List (List Int) := (List.range y).map fun r => (List.range n).map (F r)
theorem rowsL_length (n : Nat) (F : Nat → Nat → Int) (y : Nat) : (rowsL n F y).length = y := by simp [rowsL]
theorem rowsL_step (n : Nat) (F : Nat → Nat → Int) (y : Nat) : rowsL n F (y + 1) = rowsL n F y ++ [(List.range n).map (F y)] := by unfold rowsL; rw [List.range_succ, List.map_append]; rfl
set_option maxRecDepth 100000 in
set_option maxHeartbeats 2000000 in
theorem rtimes_any (u v : Value) (n : Nat) (h0 : 1 ≤ n) (hn : n ≤ 4) (A B : Nat → Nat → Int) (hA : ∀ r, r < n → ∀ c, c < n → 0 ≤ A r c ∧ A r c < 26) (hB : ∀ r, r < n → ∀ c, c < n → 0 ≤ B r c ∧ B r c < 26) (w : World) (hu : MatAt w u n (fun _ => n) A) (hv : MatAt w v n (fun _ => n) B) :
    Calls Try.prog 52 #[u, v] w fun e w' => ∃ x, e = .returned x ∧ OwnsM w' w.heap.size x (rowsL n (mulL n A B) n) ∧ Below w.heap.size w w' := by
  obtain ⟨i0, hi0, hz0, hz1, hz2⟩ := info_parts h_info_int
  obtain ⟨j0, hj0, hy0, hy1, hy2⟩ := info_parts h_info_ints
  obtain ⟨b, o, cap, rfl, hcu⟩ := sq_cells (by omega) hu
  obtain ⟨b', o', cap', rfl, hcv⟩ := sq_cells (by omega) hv
  have HCU := (show Hid (∀ r, r < n → ∃ x y c, w.cell? ⟨b, o + r, none⟩ = some (.slice (some ⟨x, y, none⟩) n c) ∧ ∀ k, k < n → w.cell? ⟨x, y + k, none⟩ = some (.int .i64 (A r k))) from hcu)
  have HCV := (show Hid (∀ r, r < n → ∃ x y c, w.cell? ⟨b', o' + r, none⟩ = some (.slice (some ⟨x, y, none⟩) n c) ∧ ∀ k, k < n → w.cell? ⟨x, y + k, none⟩ = some (.int .i64 (B r k))) from hcv)
  have HA := (show Hid (∀ r, r < n → ∀ c, c < n → 0 ≤ A r c ∧ A r c < 26) from hA)
  have HB := (show Hid (∀ r, r < n → ∀ c, c < n → 0 ≤ B r c ∧ B r c < 26) from hB)
  clear hu hv hcu hcv hA hB
  go_enter Try.func52, Try.ntmps52
  go_wp2
  go_loopw [13, 5] (fun i v W => ∃ y : Nat, y ≤ n ∧ i = .int .i64 y ∧ OwnsM W w.heap.size v (rowsL n (mulL n A B) y) ∧ Below w.heap.size w W) (fun i _ _ => ((n : Int) - intOf i).toNat)
  case atStart => exact ⟨0, by omega, rfl, OwnsM.nil _ _, Below.refl _ _⟩
  case round =>
    obtain ⟨y, hy, rfl, hown, hb⟩ := hrel
    have hsz := hb.size
    by_cases hlt : y < n
    · obtain ⟨x1, y1, c1, k1, k2⟩ := HCU.out y hlt
      have HK2 := (show Hid (∀ k, k < n → w.cell? ⟨x1, y1 + k, none⟩ = some (.int .i64 (A y k))) from k2)
      have HK1 := (show Hid (w.cell? ⟨b, o + y, none⟩ = some (.slice (some ⟨x1, y1, none⟩) n c1)) from k1)
      have HOWN := (show Hid (OwnsM wr w.heap.size u5 (rowsL n (mulL n A B) y)) from hown)
      clear k1 k2 hown
      obtain ⟨W1, rfl⟩ : ∃ W1, W1 = wr := ⟨_, rfl⟩
      go_wp2
      go_loopw [18, 7] (fun i v W => ∃ x : Nat, x ≤ n ∧ i = .int .i64 x ∧ OwnsI W W1.heap.size v ((List.range x).map (mulL n A B y)) ∧ Below W1.heap.size W1 W) (fun i _ _ => ((n : Int) - intOf i).toNat)
      case atStart => exact ⟨0, by omega, rfl, OwnsI.nil _ _, Below.refl _ _⟩
      case round =>
        obtain ⟨x, hx, rfl, hro, hb2⟩ := hrel
        by_cases hxl : x < n
        · have hbW := hb.trans (hb2.mono hsz)
          have hsz2 := hb2.size
          have k1 := (hbW.cell (p := ⟨b, o + y, none⟩) (cell_block HK1.out)).trans HK1.out
          have HRO := (show Hid (OwnsI wr W1.heap.size u7 ((List.range x).map (mulL n A B y))) from hro)
          have HSB : Hid (∀ k, k ≤ n → 0 ≤ sumTo (A y) (fun k => B k x) k ∧ sumTo (A y) (fun k => B k x) k ≤ 625 * k) := fun k hk => sumTo_bound _ _ k fun j hj => ⟨HA.out y hlt j (by omega), HB.out j (by omega) x hxl⟩
          clear hro
          obtain ⟨W2, rfl⟩ : ∃ W2, W2 = wr := ⟨_, rfl⟩
          go_wp2
          go_loopw [23, 9] (fun i s W => ∃ k m : Nat, k ≤ n ∧ i = .int .i64 k ∧ s = .int .i64 (sumTo (A y) (fun k => B k x) k) ∧ W = W2.drewN m) (fun i _ _ => ((n : Int) - intOf i).toNat)
          case atStart => exact ⟨0, 0, by omega, rfl, rfl, rfl⟩
          case round =>
            obtain ⟨k, m, hk, rfl, rfl, rfl⟩ := hrel
            by_cases hkl : k < n
            · have k2 := (hbW.cell (p := ⟨x1, y1 + k, none⟩) (cell_block (HK2.out k hkl))).trans (HK2.out k hkl)
              obtain ⟨x2, y2, c2, q1, q2⟩ := HCV.out k hkl
              have k3 := (hbW.cell (p := ⟨b', o' + k, none⟩) (cell_block q1)).trans q1
              have k4 := (hbW.cell (p := ⟨x2, y2 + x, none⟩) (cell_block (q2 x hxl))).trans (q2 x hxl)
              clear q1 q2
              have hsb := HSB.out k hk
              have hpb := prod_bound (HA.out y hlt k hkl) (HB.out k hkl x hxl)
              have HS0 : Hid (sumTo (A y) (fun k => B k x) (k + 1) = sumTo (A y) (fun k => B k x) k + A y k * B k x) := rfl
              generalize sumTo (A y) (fun k => B k x) k = s at *
              obtain ⟨p, hp⟩ : ∃ p, p = A y k * B k x := ⟨_, rfl⟩
              rw [← hp] at hpb HS0
              have hpw : IntKind.i64.wrap (A y k * B k x) = p := by rw [← hp, IntKind.wrap_i64]; omega
              clear hp
              generalize A y k = aa at *
              generalize B k x = bb at *
              go_wp2
              go_quiet (fail)
              go_wp2
              go_roundw
              case rel => exact ⟨k + 1, m + nq, by omega, by go_num, by rw [HS0.out], rfl⟩
              case measure => simp [intOf]; omega
            · have HKN : Hid (k = n) := by rw [Hid]; omega
              have HMV : Hid (sumTo (A y) (fun k => B k x) k % 26 = mulL n A B y x) := by rw [HKN.out]; rfl
              have hro : OwnsI (W2.drewN m) W1.heap.size u7 ((List.range x).map (mulL n A B y)) := HRO.out
              have hb3 : Below W1.heap.size W1 (W2.drewN m) := ⟨hb2.os, hb2.tape, hb2.output, hb2.size, hb2.block⟩
              have hsz3 := hb3.size
              have hlm : ((List.range x).map (mulL n A B y)).length = x := by simp
              generalize W2.drewN m = W3 at *
              go_wp2_with fail
              refine Calls.mono (rmod_any _ W3) ?_
              rintro e W4 ⟨rfl, rfl⟩
              rw [HMV.out]
              obtain ⟨val, hval⟩ : ∃ val, val = mulL n A B y x := ⟨_, rfl⟩
              rw [← hval]
              have HVAL : Hid (val = mulL n A B y x) := hval
              clear hval
              go_wp2_with (first
                | (at_builtin; refine wpList_append_own _ rfl _ _ 27 rfl W1.heap.size 3 i0 (.int .i64 0) 1 8 Try.underlying27 hi0 hz0 hz1 hz2 rfl (by decide) _ _ _ rfl (World.ownsRow.alloc hro _) ⟨W3.heap.size, 0, none⟩ 1 1 [.int .i64 val] rfl rfl (cell_one_new _ _ _) (fun u hu => by simp at hu; subst hu; rfl) (by rw [hlm]; unfold maxLen; omega) (by rw [hlm]; omega) (by simp; omega) ?_; intro v' w1 hown' hgrow _))
              go_roundw
              case rel =>
                refine ⟨x + 1, by omega, by go_num, ?_, ?_⟩
                · rw [range_app, ← HVAL.out, OwnsI, inums_append, List.length_append]
                  exact hown'
                · exact (hb3.alloc (by omega) _).grown hgrow (by simp; omega) (fun k hk => by have := (World.ownsRow.lt hro k hk).1; omega)
              case measure => simp [intOf]; omega
        · have HXN : Hid (x = n) := by rw [Hid]; omega
          have hsz2 := hb2.size
          obtain ⟨vs, hv1, hv2⟩ := HOWN.out.below hb2
          rw [rowsL_length] at hv1
          rw [HXN.out] at hro
          have hro2 : OwnsI wr w.heap.size u7 ((List.range n).map (mulL n A B y)) := own_le hro hsz
          obtain ⟨g, cp, rfl⟩ : ∃ g cp, u7 = .slice (some ⟨g, 0, none⟩) n cp := by
            have hl : ((List.range n).map (mulL n A B y)).length = n := by simp
            rcases hro2.2 with ⟨_, h0'⟩ | ⟨g, cp, _, e, _⟩
            · omega
            · exact ⟨g, cp, by rw [e, hl]⟩
          have HV2 := (show Hid (∀ (k : Nat) (u : Value) (l : List Int), vs[k]? = some u → (rowsL n (mulL n A B) y)[k]? = some l → OwnsI wr w.heap.size u l) from hv2)
          have HRO2 := (show Hid (OwnsI wr w.heap.size (.slice (some ⟨g, 0, none⟩) n cp) ((List.range n).map (mulL n A B y))) from hro2)
          clear hro hro2 hv2
          go_wp2_with (first
            | (at_builtin; refine wpList_append_own _ rfl _ _ 41 rfl w.heap.size 27 j0 (.slice none 0 0) 1 24 Try.underlying41 hj0 hy0 hy1 hy2 rfl (by decide) _ _ _ rfl (World.ownsRow.alloc hv1 _) ⟨wr.heap.size, 0, none⟩ 1 1 [.slice (some ⟨g, 0, none⟩) n cp] rfl rfl (cell_one_new _ _ _) (fun u hu => by simp at hu; subst hu; rfl) (by unfold maxLen; omega) (by omega) (by simp; omega) ?_; intro v' w1 hown' hgrow _))
          go_roundw
          case rel =>
            refine ⟨y + 1, by omega, by go_num, ?_, ?_⟩
            · rw [rowsL_step]
              have hbA : Below wr.heap.size wr (wr.alloc (.cells #[.slice (some ⟨g, 0, none⟩) n cp] 27)) := (Below.refl _ _).alloc (Nat.le_refl _) _
              exact OwnsM.app (by rw [rowsL_length]; exact World.ownsRow.alloc hv1 _) (fun k u l a b => own_below (HV2.out k u l a b) hbA) (own_below HRO2.out hbA) (by rw [rowsL_length]; exact hown') hgrow
            · exact ((hb.trans (hb2.mono hsz)).alloc (by omega) _).grown hgrow (by simp; omega) (fun k hk => (World.ownsRow.lt hv1 k hk).1)
          case measure => simp [intOf]; omega
    · have HYN : Hid (y = n) := by rw [Hid]; omega
      rw [HYN.out] at hown
      go_wp2
      go_ret
      exact ⟨_, rfl, hown, hb⟩
end Go.Proofs.Ytlgjgppojdamiab
