/-
  HillWhole: the walk.
-/
import Derived.Test.YtlgjgppojdamiabHMath
import Derived.Test.YtlgjgppojdamiabHSame
namespace Go.Proofs.Ytlgjgppojdamiab
open Go.RowKit PK

set_option maxRecDepth 100000 in
set_option maxHeartbeats 4000000 in
theorem law_whole (u v : Value) (n m : Nat) (L M : Nat → Nat) (A B : Nat → Nat → Int) (w : World) (hu : MatAt w u n L A) (hv : MatAt w v m M B) :
    Calls Try.prog 7 #[u, v] w fun e w' => e = .returned (.bool true) ∧ Below w.heap.size w w' := by
  obtain ⟨a9, c9, rfl, _⟩ := hu.len
  obtain ⟨a8, c8, rfl, _⟩ := hv.len
  go_enter Try.func7, Try.ntmps7
  go_wp2_with fail
  refine Calls.mono (halive_any w) ?_
  rintro e W1 ⟨rfl, hb⟩
  have hz := hb.size
  have huA := hu.below hb
  have hvB := hv.below hb
  clear hu hv
  go_wp2_with fail
  rcases matErr_cases n L A with ⟨h0, hgA, hL⟩ | h0
  · refine Calls.mono (hdet_ok _ n L A hgA hL _ huA) ?_
    rintro e W2 ⟨rfl, hc⟩
    have hz9 := hc.size
    replace huA := huA.below hc
    replace hvB := hvB.below hc
    replace hb := hb.trans (hc.mono (by omega))
    replace hz := Nat.le_trans hz hz9
    clear hc hz9
    have hd1 := detL_bound n A
    go_wp2_with fail
    have hrI := recOf_iff _ hd1
    rcases recOf_cases (detL n A) with hr | hr
    · refine Calls.mono (hinv_ok _ n L A hgA hL hr _ huA) ?_
      rintro e W3 ⟨xv, rfl, hxv, hc⟩
      have hz9 := hc.size
      replace huA := huA.below hc
      replace hvB := hvB.below hc
      replace hb := hb.trans (hc.mono (by omega))
      replace hz := Nat.le_trans hz hz9
      clear hc hz9
      have hk1 : (detL n A % 2 != 0) = true := by simpa using (hrI.1 hr).1
      have hk2 : (detL n A % 13 != 0) = true := by simpa using (hrI.1 hr).2
      have HR1 : Hid (∀ y, y < n → ∀ x, x < n → mulL n A (invL n A) y x = oneL y x) := fun y hy x hx => inv_right n hgA.pos hgA.le A hr y x hy hx
      have HR2 : Hid (∀ y, y < n → ∀ x, x < n → mulL n (invL n A) A y x = oneL y x) := fun y hy x hx => inv_left n hgA.pos hgA.le A hr y x hy hx
      have hn4 := hgA.le
      clear hrI hr
      go_wp2_with fail
      refine Calls.mono (hprod_ok _ xv n L (fun _ => n) A (invL n A) hgA hL (good_inv hgA.pos hgA.le A) (fun _ _ => rfl) _ huA hxv) ?_
      rintro e W4 ⟨lv, rfl, hlv, hc⟩
      have hz9 := hc.size
      replace huA := huA.below hc
      replace hvB := hvB.below hc
      replace hxv := hxv.below hc
      replace hb := hb.trans (hc.mono (by omega))
      replace hz := Nat.le_trans hz hz9
      clear hc hz9
      go_wp2_with fail
      refine Calls.mono (hprod_ok xv _ n (fun _ => n) L (invL n A) A (good_inv hgA.pos hgA.le A) (fun _ _ => rfl) hgA hL _ hxv huA) ?_
      rintro e W5 ⟨rv, rfl, hrv, hc⟩
      have hz9 := hc.size
      replace huA := huA.below hc
      replace hvB := hvB.below hc
      replace hlv := hlv.below hc
      replace hb := hb.trans (hc.mono (by omega))
      replace hz := Nat.le_trans hz hz9
      clear hc hz9 hxv
      have hl1 : MatAt W5 lv n (fun _ => n) oneL := hlv.congr (fun _ _ => rfl) fun r hr c hc => HR1.out r hr c hc
      have hr1 : MatAt W5 rv n (fun _ => n) oneL := hrv.congr (fun _ _ => rfl) fun r hr c hc => HR2.out r hr c hc
      clear hlv hrv HR1 HR2
      go_wp2_with fail
      refine Calls.mono (rsame_ok lv rv n hn4 oneL _ hl1 hr1) ?_
      rintro e W6 ⟨rfl, hc⟩
      have hz9 := hc.size
      replace huA := huA.below hc
      replace hvB := hvB.below hc
      replace hl1 := hl1.below hc
      replace hb := hb.trans (hc.mono (by omega))
      replace hz := Nat.le_trans hz hz9
      clear hc hz9 hr1
      have hpos := hgA.pos
      obtain ⟨b, o, cap, R, rfl, _, hrows, hnums⟩ := hl1.form (by omega)
      have HROW : Hid (∀ r, r < n → ∃ x1 y1 c1, R r = .slice (some ⟨x1, y1, none⟩) n c1 ∧ W6.cell? ⟨b, o + r, none⟩ = some (R r) ∧ ∀ c, c < n → W6.cell? ⟨x1, y1 + c, none⟩ = some (.int .i64 (oneL r c))) := fun r hr0 => by
        obtain ⟨x1, y1, c1, e1, _, k1⟩ := (hnums r hr0).form (by omega)
        exact ⟨x1, y1, c1, e1, hrows r hr0, k1⟩
      clear hl1 hrows hnums
      have HUA := (show Hid (MatAt W6 (.slice a9 n c9) n L A) from huA)
      have HVB := (show Hid (MatAt W6 (.slice a8 m c8) m M B) from hvB)
      clear huA hvB
      go_wp2
      go_loop [79] (fun i => ∃ r : Nat, r ≤ n ∧ i = .int .i64 r) (fun i => ((n : Int) - intOf i).toNat)
      case atStart => exact ⟨0, by omega, rfl⟩
      case round =>
        obtain ⟨r, hr, rfl⟩ := hrel
        by_cases hlt : r < n
        · obtain ⟨x1, y1, c1, e1, k1, k2⟩ := HROW.out r hlt
          rw [e1] at k1
          have HK : Hid (∀ c, c < n → W6.cell? ⟨x1, y1 + c, none⟩ = some (.int .i64 (oneL r c))) := k2
          clear k2 e1
          go_wp2
          go_loop [86] (fun i => ∃ c : Nat, c ≤ n ∧ i = .int .i64 c) (fun i => ((n : Int) - intOf i).toNat)
          case atStart => exact ⟨0, by omega, rfl⟩
          case round =>
            obtain ⟨c, hc, rfl⟩ := hrel
            by_cases hcl : c < n
            · have hk := HK.out c hcl
              by_cases hrc : r = c
              · subst hrc
                rw [show oneL r r = 1 by simp [oneL]] at hk
                go_wp2
                exact ⟨⟨r + 1, by omega, by go_num⟩, by simp [intOf]; omega⟩
              · rw [show oneL r c = 0 by simp [oneL, hrc]] at hk
                have hne : (((r : Nat) : Int) == ((c : Nat) : Int)) = false := by simp; omega
                have hne2 : (((r : Nat) : Int) != ((c : Nat) : Int)) = true := by simp; omega
                go_wp2
                exact ⟨⟨c + 1, by omega, by go_num⟩, by simp [intOf]; omega⟩
            · go_wp2
              exact ⟨⟨r + 1, by omega, by go_num⟩, by simp [intOf]; omega⟩
        · have huA := HUA.out
          have hvB := HVB.out
          clear HROW HUA HVB
          go_wp2_with fail
          rcases matErr_cases m M B with ⟨h0, hgB, hM⟩ | h0
          · refine Calls.mono (hdet_ok _ m M B hgB hM _ hvB) ?_
            rintro e X1 ⟨rfl, hc⟩
            have hz9 := hc.size
            replace huA := huA.below hc
            replace hvB := hvB.below hc
            replace hb := hb.trans (hc.mono (by omega))
            replace hz := Nat.le_trans hz hz9
            clear hc hz9
            by_cases hnm : n = m
            · subst hnm
              have hd2 := detL_bound n B
              have HDM : Hid (detL n (mulL n A B) = detL n A * detL n B % 26) := detL_mul n hgA.pos hgA.le A B
              have HUA := (show Hid (MatAt X1 (.slice a9 n c9) n L A) from huA)
              have HVB := (show Hid (MatAt X1 (.slice a8 n c8) n M B) from hvB)
              clear huA hvB
              go_wp2_with fail
              refine Calls.mono (hprod_ok _ _ n L M A B hgA hL hgB hM X1 HUA.out HVB.out) ?_
              rintro e X2 ⟨pv, rfl, hpv, hc⟩
              have hz9 := hc.size
              replace hb := hb.trans (hc.mono (by omega))
              replace hz := Nat.le_trans hz hz9
              clear hc hz9
              go_wp2_with fail
              refine Calls.mono (hdet_ok pv n (fun _ => n) (mulL n A B) (good_mul hgA.pos hgA.le A B) (fun _ _ => rfl) X2 hpv) ?_
              rintro e X3 ⟨rfl, hc⟩
              rw [HDM.out]
              replace hb := hb.trans (hc.mono (by omega))
              clear hpv hc
              have hpb := prod_bound hd1 hd2
              generalize detL n A = d at *
              generalize detL n B = f at *
              obtain ⟨p, hp⟩ : ∃ p, p = d * f := ⟨_, rfl⟩
              rw [← hp] at hpb ⊢
              have hpw : IntKind.i64.wrap (d * f) = p := by rw [← hp, IntKind.wrap_i64]; omega
              clear hp HDM
              go_wp2
              go_ret
              exact ⟨rfl, hb⟩
            · have hne : ((n : Int) != (m : Int)) = true := by simp; omega
              clear huA hvB
              go_wp2
              go_ret
              exact ⟨rfl, hb⟩
          · refine Calls.mono (hdet_bad _ m M B _ h0 rfl _ hvB) ?_
            rintro e X1 ⟨rfl, rfl⟩
            generalize matErr m M B = E at *
            clear huA hvB
            go_wp2
            go_ret
            exact ⟨rfl, hb⟩
    · refine Calls.mono (hinv_none _ n L A hgA hL hr _ huA) ?_
      rintro e W3 ⟨rfl, hc⟩
      have hz9 := hc.size
      replace huA := huA.below hc
      replace hvB := hvB.below hc
      replace hb := hb.trans (hc.mono (by omega))
      replace hz := Nat.le_trans hz hz9
      clear hc hz9
      have hrN : ¬ (detL n A % 2 ≠ 0 ∧ detL n A % 13 ≠ 0) := fun h => by
        have := hrI.2 h
        rw [hr] at this
        cases this
      by_cases hk1 : detL n A % 2 = 0
      · clear hrI hr hrN
        go_wp2_with fail
        rcases matErr_cases m M B with ⟨h0, hgB, hM⟩ | h0
        · refine Calls.mono (hdet_ok _ m M B hgB hM _ hvB) ?_
          rintro e X1 ⟨rfl, hc⟩
          have hz9 := hc.size
          replace huA := huA.below hc
          replace hvB := hvB.below hc
          replace hb := hb.trans (hc.mono (by omega))
          replace hz := Nat.le_trans hz hz9
          clear hc hz9
          by_cases hnm : n = m
          · subst hnm
            have hd2 := detL_bound n B
            have HDM : Hid (detL n (mulL n A B) = detL n A * detL n B % 26) := detL_mul n hgA.pos hgA.le A B
            have HUA := (show Hid (MatAt X1 (.slice a9 n c9) n L A) from huA)
            have HVB := (show Hid (MatAt X1 (.slice a8 n c8) n M B) from hvB)
            clear huA hvB
            go_wp2_with fail
            refine Calls.mono (hprod_ok _ _ n L M A B hgA hL hgB hM X1 HUA.out HVB.out) ?_
            rintro e X2 ⟨pv, rfl, hpv, hc⟩
            have hz9 := hc.size
            replace hb := hb.trans (hc.mono (by omega))
            replace hz := Nat.le_trans hz hz9
            clear hc hz9
            go_wp2_with fail
            refine Calls.mono (hdet_ok pv n (fun _ => n) (mulL n A B) (good_mul hgA.pos hgA.le A B) (fun _ _ => rfl) X2 hpv) ?_
            rintro e X3 ⟨rfl, hc⟩
            rw [HDM.out]
            replace hb := hb.trans (hc.mono (by omega))
            clear hpv hc
            have hpb := prod_bound hd1 hd2
            generalize detL n A = d at *
            generalize detL n B = f at *
            obtain ⟨p, hp⟩ : ∃ p, p = d * f := ⟨_, rfl⟩
            rw [← hp] at hpb ⊢
            have hpw : IntKind.i64.wrap (d * f) = p := by rw [← hp, IntKind.wrap_i64]; omega
            clear hp HDM
            go_wp2
            go_ret
            exact ⟨rfl, hb⟩
          · have hne : ((n : Int) != (m : Int)) = true := by simp; omega
            clear huA hvB
            go_wp2
            go_ret
            exact ⟨rfl, hb⟩
        · refine Calls.mono (hdet_bad _ m M B _ h0 rfl _ hvB) ?_
          rintro e X1 ⟨rfl, rfl⟩
          generalize matErr m M B = E at *
          clear huA hvB
          go_wp2
          go_ret
          exact ⟨rfl, hb⟩
      · have hk2 : detL n A % 13 = 0 := by
          by_cases h : detL n A % 13 = 0
          · exact h
          · exact absurd ⟨hk1, h⟩ hrN
        have hk1' : (detL n A % 2 != 0) = true := by simpa using hk1
        clear hrI hr hrN hk1
        go_wp2_with fail
        rcases matErr_cases m M B with ⟨h0, hgB, hM⟩ | h0
        · refine Calls.mono (hdet_ok _ m M B hgB hM _ hvB) ?_
          rintro e X1 ⟨rfl, hc⟩
          have hz9 := hc.size
          replace huA := huA.below hc
          replace hvB := hvB.below hc
          replace hb := hb.trans (hc.mono (by omega))
          replace hz := Nat.le_trans hz hz9
          clear hc hz9
          by_cases hnm : n = m
          · subst hnm
            have hd2 := detL_bound n B
            have HDM : Hid (detL n (mulL n A B) = detL n A * detL n B % 26) := detL_mul n hgA.pos hgA.le A B
            have HUA := (show Hid (MatAt X1 (.slice a9 n c9) n L A) from huA)
            have HVB := (show Hid (MatAt X1 (.slice a8 n c8) n M B) from hvB)
            clear huA hvB
            go_wp2_with fail
            refine Calls.mono (hprod_ok _ _ n L M A B hgA hL hgB hM X1 HUA.out HVB.out) ?_
            rintro e X2 ⟨pv, rfl, hpv, hc⟩
            have hz9 := hc.size
            replace hb := hb.trans (hc.mono (by omega))
            replace hz := Nat.le_trans hz hz9
            clear hc hz9
            go_wp2_with fail
            refine Calls.mono (hdet_ok pv n (fun _ => n) (mulL n A B) (good_mul hgA.pos hgA.le A B) (fun _ _ => rfl) X2 hpv) ?_
            rintro e X3 ⟨rfl, hc⟩
            rw [HDM.out]
            replace hb := hb.trans (hc.mono (by omega))
            clear hpv hc
            have hpb := prod_bound hd1 hd2
            generalize detL n A = d at *
            generalize detL n B = f at *
            obtain ⟨p, hp⟩ : ∃ p, p = d * f := ⟨_, rfl⟩
            rw [← hp] at hpb ⊢
            have hpw : IntKind.i64.wrap (d * f) = p := by rw [← hp, IntKind.wrap_i64]; omega
            clear hp HDM
            go_wp2
            go_ret
            exact ⟨rfl, hb⟩
          · have hne : ((n : Int) != (m : Int)) = true := by simp; omega
            clear huA hvB
            go_wp2
            go_ret
            exact ⟨rfl, hb⟩
        · refine Calls.mono (hdet_bad _ m M B _ h0 rfl _ hvB) ?_
          rintro e X1 ⟨rfl, rfl⟩
          generalize matErr m M B = E at *
          clear huA hvB
          go_wp2
          go_ret
          exact ⟨rfl, hb⟩
  · refine Calls.mono (hdet_bad _ n L A _ h0 rfl _ huA) ?_
    rintro e W2 ⟨rfl, rfl⟩
    generalize matErr n L A = E at *
    clear huA hvB
    go_wp2
    go_ret
    exact ⟨rfl, hb⟩
end Go.Proofs.Ytlgjgppojdamiab
