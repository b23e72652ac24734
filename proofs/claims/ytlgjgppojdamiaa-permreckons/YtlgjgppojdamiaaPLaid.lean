/-
  Contract of perm.laid.
-/
import Derived.Test.YtlgjgppojdamiaaBMath
import Derived.Test.YtlgjgppojdamiaaPLoc
import Derived.Maps.AppendAt
namespace Go.Proofs.Ytlgjgppojdamiaa
open Go.RowKit PK

/-- The values of those whose list is n long. -/
def filt (n : Nat) (L : List (List Nat × Value)) : List Value := (L.filter fun e => e.1.length == n).map (·.2)
theorem filt_snoc (n : Nat) (L : List (List Nat × Value)) (l : List Nat) (v : Value) : filt n (L ++ [(l, v)]) = if l.length = n then filt n L ++ [v] else filt n L := by
  unfold filt
  rw [List.filter_append]
  by_cases e : l.length = n <;> simp [e]
theorem filt_len (n : Nat) (L : List (List Nat × Value)) : (filt n L).length ≤ L.length := by
  unfold filt
  rw [List.length_map]
  exact List.length_filter_le _ _
structure Free (W : World) (fb B : Nat) (fv : Nat → Value) (L : List (List Nat × Value)) : Prop where
  row : RowAt W fb 79 (tab 27 fv)
  own : ∀ n, n < 27 → W.ownsRow B 40 1 (fv n) (filt n L).length (filt n L)
  apart : ∀ n m, n < 27 → m < 27 → n ≠ m → (fv n).ownBlock = none ∨ (fv n).ownBlock ≠ (fv m).ownBlock
theorem Free.app {W w1 : World} {fb B : Nat} {fv : Nat → Value} {L : List (List Nat × Value)} (h : Free W fb B fv L) (hfB : fb < B) (l : List Nat) (cv v' : Value) (hn : l.length < 27) (o : Obj)
    (hown' : w1.ownsRow B 40 1 v' ((filt l.length L).length + 1) (filt l.length L ++ [cv])) (hg : (W.alloc o).grownBy w1 (fv l.length).ownBlock) (hblk : v'.ownBlock = (fv l.length).ownBlock ∨ v'.ownBlock = some (W.heap.size + 1)) :
    Free (w1.setCell ⟨fb, l.length, none⟩ v') fb B (upd fv l.length v') (L ++ [(l, cv)]) := by
  have hrow1 : RowAt w1 fb 79 (tab 27 fv) := h.row.alloc o |>.below ((Below.refl (fb + 1) _).grown hg (by have := h.row.lt; simp; omega) (fun k hk => by have := (World.ownsRow.lt (h.own _ hn) k hk).1; omega)) (Nat.lt_succ_self _)
  refine ⟨?_, fun n hn27 => ?_, fun n m hn1 hm1 hnm => ?_⟩
  · have := hrow1.set l.length v'
    rw [tab_set] at this
    exact this
  · refine ownsRow_setCell_below ?_ hfB _
    rw [filt_snoc]
    by_cases e : l.length = n
    · subst e
      rw [if_pos rfl, upd_same, List.length_append]
      exact hown'
    · rw [if_neg e, upd_other _ _ (Ne.symm e)]
      exact World.ownsRow.kept (World.ownsRow.alloc (h.own n hn27) o) hg (h.apart n l.length hn27 hn (Ne.symm e))
  · have hlt : ∀ k, k < 27 → (fv k).ownBlock ≠ some (W.heap.size + 1) := fun k hk c => by
      have := (World.ownsRow.lt (h.own k hk) _ c).2
      omega
    by_cases e1 : n = l.length
    · subst e1
      rw [upd_same, upd_other _ _ (Ne.symm hnm)]
      rcases hblk with hb | hb
      · rw [hb]; exact h.apart _ _ hn1 hm1 hnm
      · rw [hb]; exact .inr (fun c => hlt m hm1 c.symm)
    · by_cases e2 : m = l.length
      · subst e2
        rw [upd_same, upd_other _ _ e1]
        rcases hblk with hb | hb
        · rw [hb]; exact h.apart _ _ hn1 hm1 hnm
        · rw [hb]; exact .inr (hlt n hn1)
      · rw [upd_other _ _ e1, upd_other _ _ e2]
        exact h.apart _ _ hn1 hm1 hnm
/-- A window: what is left of a slice. -/
def Win (W : World) (lo hi : Nat) (v : Value) (xs : List Value) : Prop :=
  (xs = [] ∧ ∃ a c, v = .slice a 0 c) ∨ ∃ g o cap, v = .slice (some ⟨g, o, none⟩) xs.length cap ∧ xs.length ≤ cap ∧ lo ≤ g ∧ g < hi ∧ ∀ (j : Nat) (x : Value), xs[j]? = some x → W.cell? ⟨g, o + j, none⟩ = some x
theorem Win.of_own {W : World} {B hi : Nat} {v : Value} {xs : List Value} (h : W.ownsRow B 40 1 v xs.length xs) (hhi : W.heap.size ≤ hi) : Win W B hi v xs := by
  rcases h.2 with ⟨rfl, h0⟩ | ⟨g, cap, cur, rfl, hg, hc, hle, _, _, htk⟩
  · exact .inl ⟨List.eq_nil_of_length_eq_zero h0, _, _, rfl⟩
  · refine .inr ⟨g, 0, cap, rfl, hle, hg, Nat.lt_of_lt_of_le (Array.getElem?_eq_some_iff.1 hc).1 hhi, fun j x hx => ?_⟩
    have hj := (List.getElem?_eq_some_iff.1 hx).1
    rw [Nat.zero_add, World.ownsRow.cellAt h j (by omega)]
    exact hx
theorem Win.set {W : World} {lo hi : Nat} {v : Value} {xs : List Value} (h : Win W lo hi v xs) (a : Addr) (ha : a.block < lo ∨ hi ≤ a.block) (y : Value) : Win (W.setCell a y) lo hi v xs := by
  rcases h with h | ⟨g, o, cap, e, h1, h2, h3, h4⟩
  · exact .inl h
  · refine .inr ⟨g, o, cap, e, h1, h2, h3, fun j x hx => ?_⟩
    rw [World.cell?_setCell_other W a ⟨g, o + j, none⟩ y (by
      intro c
      have : a.block = g := congrArg Addr.block c
      omega)]
    exact h4 j x hx
theorem Win.alloc {W : World} {lo hi : Nat} {v : Value} {xs : List Value} (h : Win W lo hi v xs) (hhi : hi ≤ W.heap.size) (ob : Obj) : Win (W.alloc ob) lo hi v xs := by
  rcases h with h | ⟨g, o, cap, e, h1, h2, h3, h4⟩
  · exact .inl h
  · exact .inr ⟨g, o, cap, e, h1, h2, h3, fun j x hx => (World.cell?_alloc_lt W ob _ (by show g < _; omega)).trans (h4 j x hx)⟩
theorem find_erase (n : Nat) : ∀ (l : List (List Nat)) (d : List Nat), l.find? (fun c => c.length == n) = some d → l.erase d = l.eraseP fun c => c.length == n
  | [], _, h => by simp at h
  | c :: l, d, h => by
    rw [List.find?_cons] at h
    rw [List.eraseP_cons, List.erase_cons]
    cases hc : (c.length == n) with
    | true =>
      rw [hc] at h
      simp at h
      subst h
      simp
    | false =>
      rw [hc] at h
      simp only at h
      have hd : d.length = n := by have := List.find?_some h; simpa using this
      have hne : (c == d) = false := by
        simp
        intro e
        subst e
        simp at hc
        exact hc hd
      rw [hne]
      simp only [Bool.false_eq_true, if_false, cond_false]
      rw [find_erase n l d h]
theorem map_eraseP (n : Nat) : ∀ (L : List (List Nat × Value)), (L.eraseP fun e => e.1.length == n).map (·.1) = (L.map (·.1)).eraseP fun c => c.length == n
  | [] => rfl
  | e :: L => by
    rw [List.eraseP_cons, List.map_cons, List.eraseP_cons]
    cases (e.1.length == n) with
    | true => rfl
    | false => simp only [cond_false, List.map_cons, map_eraseP n L]
theorem filt_eraseP (n m : Nat) : ∀ (L : List (List Nat × Value)), filt m (L.eraseP fun e => e.1.length == n) = if m = n then (filt n L).tail else filt m L
  | [] => by simp [filt]
  | e :: L => by
    rw [List.eraseP_cons]
    cases h : (e.1.length == n) with
    | true =>
      have hn : e.1.length = n := by simpa using h
      simp only [cond_true]
      by_cases hm : m = n
      · subst hm; simp [filt, hn]
      · have : ¬ (e.1.length = m) := by omega
        simp [filt, hm, this]
    | false =>
      have hn : ¬ (e.1.length = n) := by simpa using h
      simp only [cond_false]
      have ih := filt_eraseP n m L
      by_cases hm : m = n
      · subst hm
        rw [if_pos rfl] at ih ⊢
        simp only [filt, List.filter_cons] at ih ⊢
        simp [hn, ih]
      · rw [if_neg hm] at ih ⊢
        simp only [filt, List.filter_cons] at ih ⊢
        by_cases h2 : e.1.length = m
        · simp [h2, ih]
        · simp [h2, ih]
/-- The first one of its length. -/
theorem filt_first (n : Nat) : ∀ (L : List (List Nat × Value)) (d : List Nat), (L.map (·.1)).find? (fun c => c.length == n) = some d → ∃ v rest, filt n L = v :: rest ∧ (d, v) ∈ L
  | [], d, h => by simp at h
  | e :: L, d, h => by
    rw [List.map_cons, List.find?_cons] at h
    cases hc : (e.1.length == n) with
    | true =>
      rw [hc] at h
      simp at h
      have hn : e.1.length = n := by simpa using hc
      refine ⟨e.2, filt n L, by simp [filt, hn], ?_⟩
      rw [← h]
      simp
    | false =>
      rw [hc] at h
      simp only at h
      have hn : ¬ (e.1.length = n) := by simpa using hc
      obtain ⟨v, rest, h1, h2⟩ := filt_first n L d h
      exact ⟨v, rest, by simpa [filt, hn] using h1, by simp [h2]⟩
theorem lay_pre (P T : List (List Nat)) (x0 : Nat → Int) : ∀ n k, k ≤ n → ∀ s, layN P T x0 n = some s → ∃ s', layN P T x0 k = some s'
  | 0, k, hk, s, h => by
    have : k = 0 := by omega
    subst this
    exact ⟨s, h⟩
  | n + 1, k, hk, s, h => by
    by_cases e : k = n + 1
    · subst e; exact ⟨s, h⟩
    · unfold layN at h
      cases h1 : layN P T x0 n with
      | none => rw [h1] at h; simp at h
      | some s0 => exact lay_pre P T x0 n k (by omega) s0 h1
theorem nil27 : (#[.slice none 0 0, .slice none 0 0, .slice none 0 0, .slice none 0 0, .slice none 0 0, .slice none 0 0, .slice none 0 0, .slice none 0 0, .slice none 0 0, .slice none 0 0, .slice none 0 0, .slice none 0 0, .slice none 0 0, .slice none 0 0, .slice none 0 0, .slice none 0 0, .slice none 0 0, .slice none 0 0, .slice none 0 0, .slice none 0 0, .slice none 0 0, .slice none 0 0, .slice none 0 0, .slice none 0 0, .slice none 0 0, .slice none 0 0, .slice none 0 0] : Array Value) = tab 27 fun _ => .slice none 0 0 := rfl

set_option maxRecDepth 100000 in
set_option maxHeartbeats 4000000 in
theorem laid_ok (P T : List (List Nat)) (hP0 : 0 < P.length) (hP1 : P.length ≤ 26) (hP : ∀ l ∈ P, 0 < l.length ∧ l.length ≤ 26) (hPx : ∀ l ∈ P, ∀ x ∈ l, x < 26) (hT0 : 0 < T.length) (hT1 : T.length ≤ 26) (hT : ∀ l ∈ T, 0 < l.length ∧ l.length ≤ 26)
    (B1 B2 : Nat) (u v : Value) (w : World) (hu : OwnsAll w B1 u P) (hv : OwnsAll w B2 v T) (s : List (List Nat) × (Nat → Int)) (hlay : layN P T (fun _ => 0) P.length = some s) :
    Calls Try.prog 53 #[u, v] w fun e w' => e = .returned (.agg (ints 26 s.2)) ∧ Below w.heap.size w w' := by
  obtain ⟨i0, hi0, hz0, hz1, hz2⟩ := info_parts info_ints3
  obtain ⟨us, hu1, hu2⟩ := hu
  obtain ⟨vs, hv1, hv2⟩ := hv
  obtain ⟨ug, uc, rfl⟩ := own_form hu1 hP0
  obtain ⟨vg, vc, rfl⟩ := own_form hv1 hT0
  have hug := (World.ownsRow.lt hu1 ug rfl).2
  have hvg := (World.ownsRow.lt hv1 vg rfl).2
  have HUL : Hid (us.length = P.length) := by have := hu1.1; rw [Hid]; omega
  have HVL : Hid (vs.length = T.length) := by have := hv1.1; rw [Hid]; omega
  have HU1 : Hid (w.ownsRow B1 40 1 (.slice (some ⟨ug, 0, none⟩) P.length uc) P.length us) := hu1
  have HV1 : Hid (w.ownsRow B2 40 1 (.slice (some ⟨vg, 0, none⟩) T.length vc) T.length vs) := hv1
  have HU2 : Hid (∀ (k : Nat) (u : Value) (l : List Nat), us[k]? = some u → P[k]? = some l → OwnsN w B1 u l) := hu2
  have HV2 : Hid (∀ (k : Nat) (u : Value) (l : List Nat), vs[k]? = some u → T[k]? = some l → OwnsN w B2 u l) := hv2
  have HP : Hid (∀ l ∈ P, 0 < l.length ∧ l.length ≤ 26) := hP
  have HPx : Hid (∀ l ∈ P, ∀ x ∈ l, x < 26) := hPx
  have HT : Hid (∀ l ∈ T, 0 < l.length ∧ l.length ≤ 26) := hT
  have HLAY : Hid (layN P T (fun _ => 0) P.length = some s) := hlay
  clear hu1 hu2 hv1 hv2 hP hPx hT hlay
  obtain ⟨nP, hnP⟩ : ∃ n, n = P.length := ⟨_, rfl⟩
  have HNP : Hid (nP = P.length) := hnP
  obtain ⟨nT, hnT⟩ : ∃ n, n = T.length := ⟨_, rfl⟩
  have HNT : Hid (nT = T.length) := hnT
  rw [← hnP] at hP0 hP1 HU1 ⊢
  rw [← hnT] at hT0 hT1 HV1 ⊢
  clear hnP hnT
  go_enter Try.func53, Try.ntmps53
  go_wp2
  rw [zero26, nil27]
  go_loopw [16] (fun i W => ∃ (k : Nat) (fv : Nat → Value), k ≤ nT ∧ i = .int .i64 k ∧ Free W (w.heap.size + 1) (w.heap.size + 2) fv ((T.zip vs).take k) ∧ RowAt W w.heap.size 35 (ints 26 fun _ => 0) ∧ Below w.heap.size w W) (fun i _ => (nT - intOf i).toNat)
  case atStart =>
    refine ⟨0, fun _ => .slice none 0 0, by omega, rfl, ⟨RowAt.newAt (by simp), fun n _ => World.ownsRow_nil _ _ _ _, fun n m _ _ _ => .inl rfl⟩, (RowAt.new w _ _).alloc _, ((Below.refl _ _).alloc (Nat.le_refl _) _).alloc (by simp) _⟩
  case round =>
    obtain ⟨k, fv, hk, rfl, hfree, hz, hb⟩ := hrel
    have hsz := hfree.row.lt
    by_cases hlt : k < nT
    · obtain ⟨l, hl⟩ : ∃ l, T[k]? = some l := ⟨T[k]'(by rw [← HNT.out]; exact hlt), List.getElem?_eq_getElem _⟩
      obtain ⟨cv, hcv⟩ : ∃ c, vs[k]? = some c := ⟨vs[k]'(by rw [HVL.out, ← HNT.out]; exact hlt), List.getElem?_eq_getElem _⟩
      have hll := HT.out l (List.mem_of_getElem? hl)
      have hou := HV2.out k cv l hcv hl
      obtain ⟨g', cap', rfl⟩ := own_form hou hll.1
      have hcu : wr.cell? ⟨vg, k, none⟩ = some (.slice (some ⟨g', 0, none⟩) l.length cap') := by
        rw [hb.cell (p := ⟨vg, k, none⟩) hvg, World.ownsRow.cellAt HV1.out k (by omega)]
        exact hcv
      have HZ : Hid ((T.zip vs).take (k + 1) = (T.zip vs).take k ++ [(l, .slice (some ⟨g', 0, none⟩) l.length cap')]) := by
        have h5 : (T.zip vs)[k]? = some (l, .slice (some ⟨g', 0, none⟩) l.length cap') := by rw [List.getElem?_zip_eq_some]; exact ⟨hl, hcv⟩
        obtain ⟨h7, h8⟩ := List.getElem?_eq_some_iff.1 h5
        rw [Hid, List.take_succ_eq_append_getElem h7, h8]
      have hfl : (filt l.length ((T.zip vs).take k)).length ≤ 26 := by
        have h5 := filt_len l.length ((T.zip vs).take k)
        have h6 := List.length_take_le k (T.zip vs)
        omega
      have hn27 : l.length < 27 := by omega
      have HF : Hid (Free wr (w.heap.size + 1) (w.heap.size + 2) fv ((T.zip vs).take k)) := hfree
      have hown := hfree.own l.length hn27
      have hcf := hfree.row.cell (tab_get fv hn27)
      obtain ⟨h1, h2⟩ := hll
      clear hou hcv hl hfree
      obtain ⟨m, hm⟩ : ∃ m, m = l.length := ⟨_, rfl⟩
      have HM : Hid (m = l.length) := hm
      rw [← hm] at hcu hfl hn27 hown hcf h1 h2
      clear hm
      go_wp2_with (first
        | (at_builtin; refine wpList_append_own_at _ rfl _ _ 65 rfl (w.heap.size + 2) 40 i0 (.slice none 0 0) 1 24 Try.underlying65 hi0 hz0 hz1 hz2 rfl (by decide) _ _ _ rfl (World.ownsRow.alloc hown _) ⟨wr.heap.size, 0, none⟩ 1 1 [.slice (some ⟨g', 0, none⟩) m cap'] rfl rfl (cell_one_new _ _ _) (fun u hu => by simp at hu; subst hu; rfl) (by unfold maxLen; omega) (by omega) (by simp; omega) ?_; intro v' w1 hown' hgrow _ hblk; obtain ⟨g9, c9, rfl⟩ := own_form hown' (by omega); have hrow1 := row_grown (HF.out.row.alloc (.cells #[.slice (some ⟨g', 0, none⟩) m cap'] 40)) hgrow (fun j hj => by have := (World.ownsRow.lt hown j hj).1; omega); have hc1 := hrow1.cell (tab_get fv hn27); have hf1 := hrow1.frozen m))
      go_roundw
      case rel =>
        refine ⟨k + 1, upd fv m (.slice (some ⟨g9, 0, none⟩) ((filt m ((T.zip vs).take k)).length + 1) c9), by omega, by go_num, ?_, ?_, ?_⟩
        · rw [HZ.out, HM.out]
          rw [HM.out] at hown' hgrow hblk
          refine Free.app HF.out (by omega) l _ _ (by rw [← HM.out]; exact hn27) _ hown' hgrow (hblk.imp (fun h => h) (fun h => h.trans (by rw [World.size_alloc])))
        · exact (row_grown (hz.alloc _) hgrow (fun j hj => by have := (World.ownsRow.lt hown j hj).1; omega)).setOther _ _ (by simp)
        · exact ((hb.alloc (by omega) _).grown hgrow (by simp; omega) (fun j hj => by have := (World.ownsRow.lt hown j hj).1; omega)).setCell (by simp) _
      case measure => simp [intOf]; omega
    · have HK : Hid ((T.zip vs).take k = T.zip vs) := by
        rw [Hid]
        exact List.take_of_length_le (by rw [List.length_zip, HVL.out, ← HNT.out]; omega)
      rw [HK.out] at hfree
      go_wp2
      rw [zero26]
      have hfree2 := hfree
      have hwin : ∀ n, n < 27 → Win (wr.alloc (.cells (ints 26 fun _ => 0) 35)) (w.heap.size + 2) wr.heap.size (fv n) (filt n (T.zip vs)) := fun n hn => Win.alloc (Win.of_own (hfree.own n hn) (Nat.le_refl _)) (Nat.le_refl _) _
      have hrowF := hfree.row.alloc (.cells (ints 26 fun _ => 0) 35)
      have hrowZ := hz.alloc (.cells (ints 26 fun _ => 0) 35)
      have hrowX := RowAt.new wr 35 (ints 26 fun _ => 0)
      have hbX := hb.alloc (by omega) (.cells (ints 26 fun _ => 0) 35)
      obtain ⟨xb, hxb⟩ : ∃ xb, xb = wr.heap.size := ⟨_, rfl⟩
      rw [← hxb] at hwin hrowX ⊢
      have hxb2 : w.heap.size + 1 < xb := by omega
      generalize wr.alloc (.cells (ints 26 fun _ => 0) 35) = W0 at *
      clear hfree hfree2 hz hb hsz hxb HK
      have HWIN : Hid (∀ n, n < 27 → Win W0 (w.heap.size + 2) xb (fv n) (filt n (T.zip vs))) := hwin
      clear hwin
      go_loopw [33] (fun i W => ∃ (k : Nat) (fv : Nat → Value) (s' : List (List Nat) × (Nat → Int)) (L : List (List Nat × Value)), k ≤ nP ∧ i = .int .i64 k ∧ Hid (layN P T (fun _ => 0) k = some s') ∧ Hid (L.map (·.1) = s'.1) ∧ Hid (∀ e ∈ L, e ∈ T.zip vs) ∧ Hid (∀ n, n < 27 → Win W (w.heap.size + 2) xb (fv n) (filt n L)) ∧ RowAt W (w.heap.size + 1) 79 (tab 27 fv) ∧ RowAt W xb 35 (ints 26 s'.2) ∧ RowAt W w.heap.size 35 (ints 26 fun _ => 0) ∧ Below w.heap.size w W) (fun i _ => (nP - intOf i).toNat)
      case atStart =>
        refine ⟨0, fv, (T, fun _ => 0), T.zip vs, by omega, rfl, rfl, ?_, fun e he => he, HWIN.out, hrowF, hrowX, hrowZ, hbX⟩
        exact List.map_fst_zip (by rw [HVL.out]; exact Nat.le_refl _)
      case round =>
        clear hrowF hrowX hrowZ hbX HWIN
        obtain ⟨k2, fv2, s', L, hk2, rfl, HS, HL, HM, HWN, hrf, hrx, hrz, hb⟩ := hrel
        by_cases hlt2 : k2 < nP
        · obtain ⟨l, hl⟩ : ∃ l, P[k2]? = some l := ⟨P[k2]'(by rw [← HNP.out]; exact hlt2), List.getElem?_eq_getElem _⟩
          obtain ⟨cv, hcv⟩ : ∃ c, us[k2]? = some c := ⟨us[k2]'(by rw [HUL.out, ← HNP.out]; exact hlt2), List.getElem?_eq_getElem _⟩
          have hll := HP.out l (List.mem_of_getElem? hl)
          have hlx := HPx.out l (List.mem_of_getElem? hl)
          have hou := HU2.out k2 cv l hcv hl
          obtain ⟨gc, capc, rfl⟩ := own_form hou hll.1
          have hgc := (World.ownsRow.lt hou gc rfl).2
          have hcu : wr.cell? ⟨ug, k2, none⟩ = some (.slice (some ⟨gc, 0, none⟩) l.length capc) := by
            rw [hb.cell (p := ⟨ug, k2, none⟩) hug, World.ownsRow.cellAt HU1.out k2 (by omega)]
            exact hcv
          obtain ⟨s2, hs2⟩ := lay_pre P T (fun _ => 0) P.length (k2 + 1) (by have := HNP.out; omega) s HLAY.out
          have hgd : P.getD k2 [] = l := by simp [List.getD, hl]
          have hstep : layStep s' l = some s2 := by
            unfold layN at hs2
            rw [HS.out, hgd] at hs2
            simpa using hs2
          obtain ⟨d, hfind, hs2e⟩ : ∃ d, s'.1.find? (fun d => d.length == l.length) = some d ∧ s2 = (s'.1.erase d, assignTo s'.2 l d l.length) := by
            unfold layStep at hstep
            cases h4 : s'.1.find? (fun d => d.length == l.length) with
            | none => rw [h4] at hstep; simp at hstep
            | some d =>
              rw [h4] at hstep
              simp at hstep
              exact ⟨d, rfl, hstep.symm⟩
          have hdl : d.length = l.length := by have := List.find?_some hfind; simpa using this
          have hfL : (L.map (·.1)).find? (fun c => c.length == l.length) = some d := by rw [HL.out]; exact hfind
          obtain ⟨dv, rest, hfilt, hmem⟩ := filt_first l.length L d hfL
          obtain ⟨jt, hjt1, hjt2⟩ : ∃ j, T[j]? = some d ∧ vs[j]? = some dv := by
            obtain ⟨j, hj⟩ := List.mem_iff_getElem?.1 (HM.out _ hmem)
            rw [List.getElem?_zip_eq_some] at hj
            exact ⟨j, hj⟩
          have hod := HV2.out jt dv d hjt2 hjt1
          obtain ⟨gd, capd, rfl⟩ := own_form hod (by omega)
          have hgd2 := (World.ownsRow.lt hod gd rfl).2
          have hw0 := HWN.out l.length (by omega)
          rw [hfilt] at hw0
          obtain ⟨g, o, cap, hfv, hcap, hglo, hghi, hcells⟩ : ∃ g o cap, fv2 l.length = .slice (some ⟨g, o, none⟩) (rest.length + 1) cap ∧ rest.length + 1 ≤ cap ∧ w.heap.size + 2 ≤ g ∧ g < xb ∧ ∀ (j : Nat) (x : Value), (Value.slice (some ⟨gd, 0, none⟩) d.length capd :: rest)[j]? = some x → wr.cell? ⟨g, o + j, none⟩ = some x := by
            rcases hw0 with ⟨h, _⟩ | ⟨g, o, cap, e, h1, h2, h3, h4⟩
            · cases h
            · exact ⟨g, o, cap, e, h1, h2, h3, h4⟩
          have hcd : wr.cell? ⟨g, o, none⟩ = some (.slice (some ⟨gd, 0, none⟩) d.length capd) := hcells 0 _ rfl
          have hcf := hrf.cell (tab_get fv2 (i := l.length) (by omega))
          have HFV : Hid (fv2 l.length = .slice (some ⟨g, o, none⟩) (rest.length + 1) cap) := hfv
          rw [hfv] at hcf
          have HCC : Hid (∀ (j x : Nat), l[j]? = some x → w.cell? ⟨gc, j, none⟩ = some (.int .i64 (x : Nat))) := fun j x hx => by
            rw [World.ownsRow.cellAt hou j (by have := (List.getElem?_eq_some_iff.1 hx).1; omega)]
            simp [nums, hx]
          have HDC : Hid (∀ (j x : Nat), d[j]? = some x → w.cell? ⟨gd, j, none⟩ = some (.int .i64 (x : Nat))) := fun j x hx => by
            rw [World.ownsRow.cellAt hod j (by have := (List.getElem?_eq_some_iff.1 hx).1; omega)]
            simp [nums, hx]
          have HNL : Hid (layN P T (fun _ => 0) (k2 + 1) = some (s'.1.erase d, assignTo s'.2 l d l.length)) := by rw [Hid, hs2, hs2e]
          have HER : Hid ((L.eraseP fun e => e.1.length == l.length).map (·.1) = s'.1.erase d) := by rw [Hid, map_eraseP, HL.out, find_erase _ _ _ hfind]
          have HWX : Hid (∀ m, m < 27 → m ≠ l.length → Win wr (w.heap.size + 2) xb (fv2 m) (filt m (L.eraseP fun e => e.1.length == l.length))) := fun m hm hne => by
            rw [filt_eraseP, if_neg hne]
            exact HWN.out m hm
          have HRE : Hid (filt l.length (L.eraseP fun e => e.1.length == l.length) = rest) := by rw [Hid, filt_eraseP, if_pos rfl, hfilt]; rfl
          have HEL : Hid (∀ e ∈ (L.eraseP fun e => e.1.length == l.length), e ∈ T.zip vs) := fun e he => HM.out e (List.mem_of_mem_eraseP he)
          have HCE : Hid (∀ (j : Nat) (x : Value), rest[j]? = some x → wr.cell? ⟨g, o + 1 + j, none⟩ = some x) := fun j x hx => by
            have := hcells (j + 1) x (by simpa using hx)
            have e5 : o + (j + 1) = o + 1 + j := by omega
            rw [← e5]; exact this
          have HLX : Hid (∀ x ∈ l, x < 26) := hlx
          have HDL : Hid (d.length = l.length) := hdl
          obtain ⟨hl1, hl2⟩ := hll
          rw [hdl] at hcd
          clear hou hod hcv hl hs2 hstep hfind hs2e hfL hfilt hmem hjt1 hjt2 hw0 hfv hcells hdl hgd hlx HS HL HM HWN
          obtain ⟨n, hn⟩ : ∃ n, n = l.length := ⟨_, rfl⟩
          have HNN : Hid (n = l.length) := hn
          rw [← hn] at hcu hcd hcf hl1 hl2
          clear hn
          obtain ⟨r, hr⟩ : ∃ r, r = rest.length := ⟨_, rfl⟩
          have HR : Hid (r = rest.length) := hr
          rw [← hr] at hcf hcap
          clear hr
          have hr0 : 0 < r + 1 := by omega
          go_wp2
          go_loopw [45] (fun i W => ∃ j : Nat, j ≤ n ∧ i = .int .i64 j ∧ Hid (∀ m, m < 27 → m ≠ l.length → Win W (w.heap.size + 2) xb (fv2 m) (filt m (L.eraseP fun e => e.1.length == l.length))) ∧ Hid (∀ (j : Nat) (x : Value), rest[j]? = some x → W.cell? ⟨g, o + 1 + j, none⟩ = some x) ∧ RowAt W (w.heap.size + 1) 79 (tab 27 fv2) ∧ RowAt W xb 35 (ints 26 (assignTo s'.2 l d j)) ∧ RowAt W w.heap.size 35 (ints 26 fun _ => 0) ∧ Below w.heap.size w W) (fun i _ => (n - intOf i).toNat)
          case atStart => exact ⟨0, by omega, rfl, HWX, HCE, hrf, hrx, hrz, hb⟩
          case round =>
            clear hrf hrx hrz hb HWX HCE hcd hcu
            obtain ⟨j, hj, rfl, HWX, HCE, hrf, hrx, hrz, hb⟩ := hrel
            by_cases hjn : j < n
            · obtain ⟨x, hx⟩ : ∃ x, l[j]? = some x := ⟨l[j]'(by rw [← HNN.out]; exact hjn), List.getElem?_eq_getElem _⟩
              obtain ⟨y, hy⟩ : ∃ y, d[j]? = some y := ⟨d[j]'(by rw [HDL.out, ← HNN.out]; exact hjn), List.getElem?_eq_getElem _⟩
              have hx26 := HLX.out x (List.mem_of_getElem? hx)
              have hc1 : wr.cell? ⟨gc, j, none⟩ = some (.int .i64 (x : Nat)) := (hb.cell (p := ⟨gc, j, none⟩) hgc).trans (HCC.out j x hx)
              have hc2 : wr.cell? ⟨gd, j, none⟩ = some (.int .i64 (y : Nat)) := (hb.cell (p := ⟨gd, j, none⟩) hgd2).trans (HDC.out j y hy)
              have hcx := hrx.cell (ints_get (assignTo s'.2 l d j) hx26)
              have hfx := hrx.frozen x
              have HAS : Hid (assignTo s'.2 l d (j + 1) = upd (assignTo s'.2 l d j) x (y : Nat)) := by
                show upd (assignTo s'.2 l d j) (l.getD j 0) (d.getD j 0 : Nat) = _
                have e1 : l.getD j 0 = x := by simp [List.getD, hx]
                have e2 : d.getD j 0 = y := by simp [List.getD, hy]
                rw [e1, e2]
              clear hx hy
              go_wp2
              go_roundw
              case rel =>
                refine ⟨j + 1, by omega, by go_num, fun m hm hne => Win.set (HWX.out m hm hne) _ (.inr (Nat.le_refl _)) _, fun j' x' hx' => ?_, hrf.setOther _ _ (by simp; omega), ?_, hrz.setOther _ _ (by simp; omega), hb.setCell (by simp; omega) _⟩
                · rw [World.cell?_setCell_other _ _ _ _ (by intro c; have := congrArg Addr.block c; simp at this; omega)]
                  exact HCE.out j' x' hx'
                · rw [HAS.out, ← ints_set]
                  exact hrx.set x _
              case measure => simp [intOf]; omega
            · have hjj : j = n := by omega
              have hrx2 : RowAt wr xb 35 (ints 26 (assignTo s'.2 l d l.length)) := by rw [← HNN.out, ← hjj]; exact hrx
              have hcf2 : wr.cell? ⟨w.heap.size + 1, n, none⟩ = some (.slice (some ⟨g, o, none⟩) (r + 1) cap) := by
                have h5 := hrf.cell (tab_get fv2 (i := n) (by omega))
                rw [HNN.out, HFV.out, ← HR.out] at h5
                rw [HNN.out]
                exact h5
              have hff2 := hrf.frozen n
              clear hjj
              go_wp2
              obtain ⟨nv, hnv⟩ : ∃ nv, nv = Value.slice (if cap = 1 then some ⟨g, o, none⟩ else some ⟨g, o + 1, none⟩) r (cap - 1) := ⟨_, rfl⟩
              rw [← hnv]
              refine ⟨⟨k2 + 1, upd fv2 n nv, (s'.1.erase d, assignTo s'.2 l d l.length), L.eraseP fun e => e.1.length == l.length, by omega, by go_num, HNL, HER, HEL, fun m hm => ?_, ?_, hrx2.setOther _ _ (by simp; omega), hrz.setOther _ _ (by simp), hb.setCell (by simp) _⟩, by simp [intOf]; omega⟩
              · by_cases e : m = n
                · subst e
                  rw [upd_same, HNN.out, HRE.out]
                  by_cases h0 : rest = []
                  · exact .inl ⟨h0, (if cap = 1 then some ⟨g, o, none⟩ else some ⟨g, o + 1, none⟩), cap - 1, by rw [hnv, HR.out, h0]; rfl⟩
                  · have hrl : 0 < rest.length := List.length_pos_iff.2 h0
                    have hr1 := HR.out
                    refine .inr ⟨g, o + 1, cap - 1, ?_, by omega, hglo, hghi, fun j' x' hx' => ?_⟩
                    · rw [hnv, if_neg (by omega), HR.out]
                    · rw [World.cell?_setCell_other _ _ _ _ (by intro c; have := congrArg Addr.block c; simp at this; omega)]
                      exact HCE.out j' x' hx'
                · rw [upd_other _ _ e]
                  exact Win.set (HWX.out m hm (by rw [← HNN.out]; exact e)) _ (.inl (by simp)) _
              · have h5 := hrf.set n nv
                rw [tab_set] at h5
                exact h5
        · have HK2 : Hid (s' = s) := by
            have h5 : k2 = P.length := by have := HNP.out; omega
            have h6 := HS.out
            rw [h5, HLAY.out] at h6
            rw [Hid]
            exact (Option.some.inj h6).symm
          go_wp2_with (first
            | refine load_perm rfl _ rfl _ rfl _ hrx ?_
            | refine wpList_store_row rfl 35 _ _ rfl w.heap.size (ints 26 s'.2) rfl rfl 35 _ hrz (by rw [ints_size]; exact info_perm) (by simp only [ints_size]) (ints_one _ _) ?_)
          refine bodyPost_ret (v := .agg (ints 26 s'.2)) (results_cell_row rfl _ _ w.heap.size 35 _ (0, 0) _ rfl (hrz.row _) Try.underlying35 rfl (by rw [ints_size]; exact info_perm)) rfl ⟨by rw [HK2.out], Below.setRow hb _ (Nat.le_refl _) _⟩
end Go.Proofs.Ytlgjgppojdamiaa
