/-
  Contract of the document's with: a matrix with another column.
-/
import Derived.Test.YtlgjgppojdamiabHLeib
namespace Go.Proofs.Ytlgjgppojdamiab
open Go.RowKit PK

/-- A number of an owned slice is written. -/
theorem OwnsI.set {w : World} {B g c : Nat} {l : List Int} (h : OwnsI w B (.slice (some ⟨g, 0, none⟩) l.length c) l) (x : Nat) (v : Int) : OwnsI (w.setCell ⟨g, x, none⟩ (.int .i64 v)) B (.slice (some ⟨g, 0, none⟩) l.length c) (l.set x v) := by
  unfold OwnsI at h ⊢
  rw [List.length_set]
  rcases h.2 with ⟨e, _⟩ | ⟨g', cap, cur, e, h1, h2, h3, h4, h5, h6⟩
  · cases e
  · simp at e
    obtain ⟨rfl, rfl⟩ := e
    have h2' : RowAt w g 3 cur := h2
    refine ⟨by simp [inums], .inr ⟨g, c, cur.setIfInBounds x (.int .i64 v), rfl, h1, h2'.set x _, h3, h4, by simpa using h5, ?_⟩⟩
    rw [Nat.mul_one] at h6 ⊢
    rw [Array.toList_setIfInBounds, List.take_set, h6]
    simp [inums, List.map_set]
theorem OwnsI.row {w : World} {B g c n : Nat} {l : List Int} (h : OwnsI w B (.slice (some ⟨g, 0, none⟩) n c) l) (x : Nat) (hx : x < l.length) : w.cell? ⟨g, x, none⟩ = some (.int .i64 (l.getD x 0)) ∧ w.frozen? ⟨g, x, none⟩ = false ∧ B ≤ g ∧ g < w.heap.size := by
  have hb := World.ownsRow.lt h g rfl
  have h5 : (inums l)[x]? = some (.int .i64 (l.getD x 0)) := by simp [inums, List.getD, hx]
  have h6 := World.ownsRow.cells (g := g) h rfl x _ h5
  have e6 : ((⟨g, 0, none⟩ : Addr).add x) = ⟨g, x, none⟩ := by unfold Addr.add; by_cases e0 : x = 0 <;> simp [e0]
  rw [e6] at h6
  refine ⟨h6, ?_, hb.1, hb.2⟩
  rcases h.2 with ⟨e, _⟩ | ⟨g', cap, cur, e, h1, h2, _⟩
  · cases e
  · simp at e
    obtain ⟨rfl, _⟩ := e
    exact RowAt.frozen (T := 3) (c := cur) h2 x
/-- A matrix with another column. -/
def withF (Z : Nat → Nat → Int) (x : Nat) (C : Nat → Int) : Nat → Nat → Int := fun r c => if c = x then C r else Z r c
theorem with_row (n : Nat) (Z : Nat → Nat → Int) (x : Nat) (C : Nat → Int) (y : Nat) (hx : x < n) : ((List.range n).map (Z y)).set x (C y) = (List.range n).map (withF Z x C y) := by
  apply List.ext_getElem?
  intro i
  rw [List.getElem?_set]
  by_cases hi : i < n
  · by_cases e : x = i
    · subst e; simp [hi, withF]
    · simp [hi, e, withF, Ne.symm e]
  · have : x ≠ i := by omega
    simp [hi, this]
theorem range_cells {W : World} {x1 y1 n : Nat} {f : Nat → Int} (h : ∀ c, c < n → W.cell? ⟨x1, y1 + c, none⟩ = some (.int .i64 (f c))) : ∀ j u, (inums ((List.range n).map f))[j]? = some u → W.cell? ((⟨x1, y1, none⟩ : Addr).add j) = some u := fun j u hu => by
  have hj : j < n := by
    have := (List.getElem?_eq_some_iff.1 hu).1
    simpa [inums] using this
  have e : ((⟨x1, y1, none⟩ : Addr).add j) = ⟨x1, y1 + j, none⟩ := by unfold Addr.add; by_cases e0 : j = 0 <;> simp [e0]
  rw [e, h j hj, ← hu]
  simp [inums, hj]
set_option maxRecDepth 100000 in
set_option maxHeartbeats 2000000 in
theorem rwith_any (n : Nat) (h1 : 1 ≤ n) (h4 : n ≤ 4) (Z : Nat → Nat → Int) (u : Value) (x : Nat) (hx : x < n) (v : Value) (C : Nat → Int) (w : World) (hu : MatAt w u n (fun _ => n) Z) (hv : NumsAt w v n C) :
    Calls Try.prog 48 #[u, .int .i64 (x : Nat), v] w fun e w' => ∃ m, e = .returned m ∧ OwnsM w' w.heap.size m (rowsL n (withF Z x C) n) ∧ Below w.heap.size w w' := by
  obtain ⟨i0, hi0, hz0, hz1, hz2⟩ := info_parts h_info_int
  obtain ⟨j0, hj0, hy0, hy1, hy2⟩ := info_parts h_info_ints
  obtain ⟨b, o, cap, rfl, hcu⟩ := sq_cells (by omega) hu
  obtain ⟨b', o', cap', rfl, _, hcv⟩ := hv.form (by omega)
  have HCU := (show Hid (∀ r, r < n → ∃ x y c, w.cell? ⟨b, o + r, none⟩ = some (.slice (some ⟨x, y, none⟩) n c) ∧ ∀ k, k < n → w.cell? ⟨x, y + k, none⟩ = some (.int .i64 (Z r k))) from hcu)
  have HCV := (show Hid (∀ r, r < n → w.cell? ⟨b', o' + r, none⟩ = some (.int .i64 (C r))) from hcv)
  have hxi : ((x : Nat) : Int) < ((n : Nat) : Int) := by omega
  clear hu hv hcu hcv
  go_enter Try.func48, Try.ntmps48
  go_wp2
  go_loopw [13, 7] (fun i v W => ∃ y : Nat, y ≤ n ∧ i = .int .i64 y ∧ OwnsM W w.heap.size v (rowsL n (withF Z x C) y) ∧ Below w.heap.size w W) (fun i _ _ => ((n : Int) - intOf i).toNat)
  case atStart => exact ⟨0, by omega, rfl, OwnsM.nil _ _, Below.refl _ _⟩
  case round =>
    obtain ⟨y, hy, rfl, hown, hb⟩ := hrel
    have hsz := hb.size
    by_cases hlt : y < n
    · obtain ⟨x1, y1, c1, q1, q2⟩ := HCU.out y hlt
      have k1 := (hb.cell (p := ⟨b, o + y, none⟩) (cell_block q1)).trans q1
      have q3 := HCV.out y hlt
      have hq3 := cell_block q3
      have HK2 := (show Hid (∀ k, k < n → (wr.alloc (.cells #[] 3)).cell? ⟨x1, y1 + k, none⟩ = some (.int .i64 (Z y k))) from fun k hk => ((hb.alloc hsz (.cells #[] 3)).cell (p := ⟨x1, y1 + k, none⟩) (cell_block (q2 k hk))).trans (q2 k hk))
      obtain ⟨vs, hv1, hv2⟩ := hown
      rw [rowsL_length] at hv1
      have HV2 := (show Hid (∀ (k : Nat) (u : Value) (l : List Int), vs[k]? = some u → (rowsL n (withF Z x C) y)[k]? = some l → OwnsI wr w.heap.size u l) from hv2)
      have HQ3 := (show Hid (w.cell? ⟨b', o' + y, none⟩ = some (.int .i64 (C y))) from q3)
      have HEQ := (show Hid (((List.range n).map (Z y)).set x (C y) = (List.range n).map (withF Z x C y)) from with_row n Z x C y hx)
      have e18 : (wr.alloc (.cells #[] 3)).ownsRow wr.heap.size 3 1 (.slice (some ⟨wr.heap.size, 0, none⟩) 0 0) 0 [] := own_full (RowAt.new wr 3 #[]) (Nat.le_refl _) rfl (by decide)
      have hlr : ((List.range n).map (Z y)).length = n := by simp
      clear q2 hv2 q1 q3
      generalize C y = cy at *
      go_wp2_with (first
        | (at_builtin; refine wpList_append_own _ rfl _ _ 27 rfl wr.heap.size 3 i0 (.int .i64 0) 1 8 Try.underlying27 hi0 hz0 hz1 hz2 rfl (by decide) _ 0 [] rfl e18 ⟨x1, y1, none⟩ n c1 (inums ((List.range n).map (Z y))) rfl (by rw [inums_length, hlr]; omega) (range_cells HK2.out) (inums_one _) (by unfold maxLen; omega) (by omega) (by simp) ?_; intro l1 w1 hown1 hgrow1 hnil1; rw [Nat.zero_add, List.nil_append] at hown1; obtain ⟨g, cl, rfl⟩ := own_some hown1 (fun e => by have := (hnil1.1 e).1; cases this); have hI1 : OwnsI w1 wr.heap.size (.slice (some ⟨g, 0, none⟩) n cl) ((List.range n).map (Z y)) := (by unfold OwnsI; rw [hlr]; exact hown1); obtain ⟨kc, kf, kg, kl⟩ := hI1.row x (by rw [hlr]; exact hx); have hb1 : Below wr.heap.size wr w1 := ((Below.refl _ _).alloc (Nat.le_refl _) _).grown hgrow1 (by simp) (fun q hq => (World.ownsRow.lt e18 q hq).1); have k3 := ((hb.trans (hb1.mono hsz)).cell (p := ⟨b', o' + y, none⟩) (cell_block HQ3.out)).trans HQ3.out; have hbS : Below wr.heap.size wr (w1.setCell ⟨g, x, none⟩ (.int .i64 cy)) := hb1.setCell (by simpa using kg) _; have hvo := World.ownsRow.alloc (own_below hv1 hbS) (.cells #[.slice (some ⟨g, 0, none⟩) n cl] 27); have hz9 := hbS.size; have rN := RowAt.new (w1.setCell ⟨g, x, none⟩ (.int .i64 cy)) 27 #[.slice (some ⟨g, 0, none⟩) n cl]; rw [World.size_setCell] at rN; clear hgrow1 hown1 hnil1)
        | (at_builtin; refine wpList_append_own _ rfl _ _ 41 rfl w.heap.size 27 j0 (.slice none 0 0) 1 24 Try.underlying41 hj0 hy0 hy1 hy2 rfl (by decide) _ _ _ rfl hvo ⟨w1.heap.size, 0, none⟩ 1 1 [.slice (some ⟨g, 0, none⟩) n cl] rfl rfl (cell_row1 rN) (fun u hu => by simp at hu; subst hu; rfl) (by unfold maxLen; omega) (by omega) (by simp at hz9 ⊢; omega) ?_; intro v2 w2 hown2 hgrow2 _))
      refine ⟨⟨y + 1, by omega, by go_num, ?_, ?_⟩, by simp [intOf]; omega⟩
      · rw [rowsL_step, ← HEQ.out]
        have hbA := hbS.alloc (by omega) (.cells #[.slice (some ⟨g, 0, none⟩) n cl] 27)
        have hI2 := OwnsI.set (l := (List.range n).map (Z y)) (g := g) (c := cl) (by rw [hlr]; exact hI1) x cy
        rw [hlr] at hI2
        exact OwnsM.app (by rw [rowsL_length]; exact hvo) (fun k u l a b => own_below (HV2.out k u l a b) hbA) (own_le (World.ownsRow.alloc hI2 _) hsz) (by rw [rowsL_length]; exact hown2) hgrow2
      · exact ((hb.trans (hbS.mono hsz)).alloc (by omega) _).grown hgrow2 (by simp at hz9 ⊢; omega) (fun k hk => (World.ownsRow.lt hvo k hk).1)
    · have HYN : Hid (y = n) := by rw [Hid]; omega
      rw [HYN.out] at hown
      go_wp2
      go_ret
      exact ⟨_, rfl, hown, hb⟩
end Go.Proofs.Ytlgjgppojdamiab
