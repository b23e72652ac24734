/-
  Contract of tableau.Repeats.
-/
import Derived.Test.YtlgijlfojkpeaadVRep
namespace Go.Proofs.Ytlgijlfojkpeaad
open Go.RowKit PK Vg

/-- What is wrong where repeats are asked for, and the repeats. -/
def rpE (t : List UInt8) (n : Int) : Int := if ckE t ≠ 0 then ckE t else if 4096 < t.length then 4 else if n < 1 then 3 else 0
def rpAt (t : List UInt8) : Int := if ckE t ≠ 0 then ckAt t else 0
def rpN (t : List UInt8) (n : Nat) : Nat := t.length + 1 - n
def rpL (t : List UInt8) (n : Nat) : List (Nat × Nat) := repsF (pcs t n) (rpN t n) (rpN t n)
set_option maxRecDepth 100000 in
set_option maxHeartbeats 1000000 in
theorem rev_nil (w : World) : Calls Try.prog 16 #[.slice none 0 0] w fun e w' => (∃ v, e = .returned v) ∧ w = w' := by
  go_enter Try.func16, Try.ntmps16
  go_wp2
  go_loopw [2, 3] (fun i j W => i = .int .i64 0 ∧ j = .int .i64 (-1) ∧ w = W) (fun _ _ _ => 0)
  case atStart => exact ⟨rfl, rfl, rfl⟩
  case round =>
    obtain ⟨rfl, rfl, rfl⟩ := hrel
    go_wp2
    go_end0
    exact ⟨⟨_, rfl⟩, rfl⟩
theorem looks_c {D : DataW Unit} {p : Nat → List UInt8} {a n k : Nat} {q : List UInt8} {c : Int} (hL : Looks D p a n) (hk : nx p q a n = some k) (hat : D.atKey (.string q) (.lit (.int .i64 0)) = .lit (.int .i64 c)) : c = (k : Int) := by
  have := ((hL.2 q).2 k hk).2
  rw [this] at hat
  cases hat
  rfl
theorem rep_none {p : Nat → List UInt8} {N a : Nat} (h : nx p (p a) (a + 1) (N - (a + 1)) = none) : rep p N a = [] := by unfold rep; rw [h]
theorem rep_some {p : Nat → List UInt8} {N a k : Nat} (h : nx p (p a) (a + 1) (N - (a + 1)) = some k) : rep p N a = [(a, k - a)] := by unfold rep; rw [h]
theorem repsB_rev {p : Nat → List UInt8} {N m a : Nat} (ha : a = N - (m + 1)) : (repsB p N (m + 1)).reverse = (repsB p N m).reverse ++ rep p N a := by
  subst ha
  show (rep p N (N - (m + 1)) ++ repsB p N m).reverse = _
  rw [List.reverse_append, rep_rev]
set_option maxRecDepth 100000 in
set_option maxHeartbeats 2000000 in
theorem vrep_ok (t : ByteArray) (n : Nat) (hn : 1 ≤ n) (h63 : n ≤ 9223372036854775807) (hk : ckE t.data.toList = 0) (hk2 : ckAt t.data.toList = 0) (hs : t.size ≤ 4096) (w : World) :
    Calls Try.prog 6 #[.string t, .int .i64 (n : Nat)] w fun e w' => ∃ v, e = .returned (.tuple #[v, .agg #[.int .i64 0, .int .i64 0]]) ∧ PairsAt w' v (rpL t.data.toList n).length (fun k => (((rpL t.data.toList n).getD k (0, 0)).1 : Nat)) (fun k => (((rpL t.data.toList n).getD k (0, 0)).2 : Nat)) ∧ Below w.heap.size w w' := by
  have hsl := Pl.size_len t
  obtain ⟨p, hp⟩ : ∃ p, p = pcs t.data.toList n := ⟨_, rfl⟩
  obtain ⟨N, hN⟩ : ∃ N, N = t.size + 1 - n := ⟨_, rfl⟩
  have HR : Hid (rpL t.data.toList n = repsF p N N) := by rw [Hid, hp, hN, hsl]; rfl
  have HP := (show Hid (∀ a, (t.extract a (a + n)).data.toList = p a) from fun a => by rw [hp]; exact ext_pcs t n a)
  have HCK := (show Hid (∀ W, Calls Try.prog 15 #[.string t] W fun e w' => e = .returned (.agg #[.int .i64 0, .int .i64 0]) ∧ Below W.heap.size W w') from fun W => by have := check_all t W; rw [hk, hk2] at this; exact this)
  obtain ⟨i0, hi0, hz0, hz1, hz2⟩ := v_info_parts v_info_rep
  have hmm := @run_makeMap Try.prog
  have hNs : N ≤ 4096 := by omega
  have HN : Hid (N = t.size + 1 - n) := hN
  rw [HR.out]
  clear hp hN hk hk2 hsl HR
  go_enter Try.func6, Try.ntmps6
  go_wp2_with fail
  refine (HCK.out _).mono ?_
  rintro e W1 ⟨rfl, hb⟩
  have hb1 : Below (w.heap.size + 1) (w.alloc (.cells #[.int .i64 0, .int .i64 0] 25)) W1 := by simpa using hb
  have hz := hb1.size
  simp at hz
  have hb2 := hb1.alloc (by omega) (.cells #[.int .i64 0, .int .i64 0] 25)
  clear hb hb1 HCK
  go_wp2_with fail
  obtain ⟨V, hV⟩ : ∃ V, V = W1.alloc (.cells #[.int .i64 0, .int .i64 0] 25) := ⟨_, rfl⟩
  have hVs : V.heap.size = W1.heap.size + 1 := by rw [hV]; simp
  rw [← hV] at hb2 ⊢
  rw [← hVs]
  have HVS : Hid (V.heap.size = W1.heap.size + 1) := hVs
  clear hV hVs
  go_loopw [9, 7] (fun i v W => ∃ (m : Nat) (D : DataW Unit) (v' : Value), m ≤ N ∧ i = .int .i64 ((t.size : Int) - n - m) ∧ v' = v ∧ OwnsP W (V.heap.size + 1) v' (repsB p N m).reverse ∧ W.ownsMap Try.prog 9 (plainElem Try.prog 3) V.heap.size m D ∧ Looks D p (N - m) m ∧ Below V.heap.size V W ∧ V.heap.size + 1 ≤ W.heap.size) (fun i _ _ => (intOf i + 1).toNat)
  case atStart => exact ⟨0, .map [], _, by omega, by simp, rfl, OwnsP.nil _ _, World.ownsMap_made _ _ _ _, looks_none _ _, (Below.refl _ _).alloc (Nat.le_refl _) _, by simp⟩
  case round =>
    obtain ⟨m, D, v, hm, rfl, rfl, hown, hmap, hL, hbv, hvs⟩ := hrel
    by_cases hlt : m < N
    · have hN := HN.out
      obtain ⟨a, ha⟩ : ∃ a, a = N - (m + 1) := ⟨_, rfl⟩
      have haI : (t.size : Int) - n - m = (a : Int) := by omega
      have hab : a + n ≤ t.size := by omega
      have habI : (a : Int) + (n : Int) ≤ (t.size : Int) := by omega
      have hNm : N - m = a + 1 := by omega
      have hNa : N - (a + 1) = m := by omega
      have hNx : N - (m + 1) = a := ha.symm
      have HRV := (show Hid ((repsB p N (m + 1)).reverse = (repsB p N m).reverse ++ rep p N a) from repsB_rev ha)
      have HNX : Hid (N - (m + 1) = a) := hNx
      have HAI : Hid ((a : Int) - 1 = (t.size : Int) - n - ((m + 1 : Nat) : Int)) := by rw [Hid]; omega
      rw [hNm] at hL
      have HPUT := (show Hid (Looks (D.put (.string (p a)) (.lit (.int .i64 a))) p a (m + 1)) from looks_put hL)
      have hkey : keyOf Try.prog 9 (.string (t.extract a (a + n))) = some (.string (p a)) := by
        have := Go.WideMaps.keyOf_string_mk (P := Try.prog) (k := 9) Try.underlying9 (s := t.extract a (a + n)) (by rw [ByteArray.size_extract]; unfold maxLen; omega)
        rw [HP.out a] at this
        exact this
      have hob : ∀ g, v.ownBlock = some g → V.heap.size < g := fun g hg => by have := (World.ownsRow.lt hown g hg).1; omega
      have hne : v.ownBlock ≠ some V.heap.size := fun e => by have := hob _ e; omega
      have HOB := (show Hid (∀ g, v.ownBlock = some g → V.heap.size < g) from hob)
      rw [haI]
      cases hnx : nx p (p a) (a + 1) m with
      | none =>
        have hhas := (hL.2 (p a)).1 hnx
        rw [← hNa] at hnx
        have HREP := (show Hid (rep p N a = []) from rep_none hnx)
        clear hN ha haI hNm hNa hNx hnx hL hob
        go_wp2_with (first
          | (at_lookup; refine wpList_lookup_own_ok_int _ rfl _ _ 41 rfl 9 3 .i64 v_keyed Try.underlying41 Try.underlying3 (v_zero_int _) V.heap.size m D rfl hmap _ _ rfl hkey ?_; intro c hat hwc)
          | (at_mapUpdate; refine wpList_mapUpdate_own _ rfl _ _ _ 41 rfl 9 3 v_keyed Try.underlying41 _ V.heap.size m D rfl hmap (by unfold maxLen; omega) _ _ _ rfl rfl hkey _ [] (plainElem_int Try.underlying3 (WalkArith.wf_i64 (by omega))) ?_; intro w1 hmap1 hgrow1))
        go_roundw
        case rel =>
          refine ⟨m + 1, _, _, by omega, by rw [HAI.out], rfl, ?_, hmap1, ?_, ?_, ?_⟩
          · rw [HRV.out, HREP.out, List.append_nil]
            exact World.ownsRow.kept hown hgrow1 (.inr hne)
          · rw [HNX.out]; exact HPUT.out
          · exact hbv.grown hgrow1 hbv.size (fun j hj => by cases hj; exact Nat.le_refl _)
          · exact Nat.le_trans hvs hgrow1.size
        case measure => simp [intOf] <;> omega
      | some k =>
        have hhas := ((hL.2 (p a)).2 k hnx).1
        have hkk := nx_some hnx
        obtain ⟨f, rfl⟩ : ∃ f, k = a + f := ⟨k - a, by omega⟩
        have hfb : a + f < 10000 := by omega
        have hsub : (a : Int) + (f : Int) - (a : Int) = (f : Int) := by omega
        have HC := (show Hid (∀ c : Int, D.atKey (.string (p a)) (.lit (.int .i64 0)) = .lit (.int .i64 c) → c = ((a + f : Nat) : Int)) from fun c hat => looks_c hL hnx hat)
        have hnx2 := hnx
        rw [← hNa] at hnx2
        have HREP := (show Hid (rep p N a = [(a, f)]) from by have := rep_some hnx2; rw [Nat.add_sub_cancel_left] at this; exact this)
        have hlen : (repsB p N m).reverse.length ≤ 4096 := by have := repsB_length p N m; rw [List.length_reverse]; omega
        clear hN ha haI hNm hNa hNx hnx hnx2 hL hob hkk
        generalize (repsB p N m).reverse = acc at *
        go_wp2_with (first
          | (at_lookup; refine wpList_lookup_own_ok_int _ rfl _ _ 41 rfl 9 3 .i64 v_keyed Try.underlying41 Try.underlying3 (v_zero_int _) V.heap.size m D rfl hmap _ _ rfl hkey ?_; intro c hat hwc; have hck := HC.out c hat)
          | (at_builtin; refine wpList_append_own _ rfl _ _ 22 rfl (V.heap.size + 1) 38 i0 (.agg #[.int .i64 0, .int .i64 0]) 2 16 Try.underlying22 hi0 hz0 hz1 hz2 rfl (by decide) _ _ _ rfl (World.ownsRow.alloc hown _) ⟨wr.heap.size, 0, none⟩ 1 1 [.int .i64 (a : Nat), .int .i64 (f : Nat)] rfl rfl (cell_two_new _ _ _ _) (fun u hu => by simp at hu; rcases hu with rfl | rfl <;> rfl) (by unfold maxLen; omega) (by omega) (by simp; omega) ?_; intro v5 w5 hown5 hgrow5 _; have hmap5 := (hmap.alloc (.cells #[.int .i64 (a : Nat), .int .i64 (f : Nat)] 38)).kept hgrow5 (fun e => hne e.symm))
          | (at_mapUpdate; refine wpList_mapUpdate_own _ rfl _ _ _ 41 rfl 9 3 v_keyed Try.underlying41 _ V.heap.size m D rfl hmap5 (by unfold maxLen; omega) _ _ _ rfl rfl hkey _ [] (plainElem_int Try.underlying3 (WalkArith.wf_i64 (by omega))) ?_; intro w1 hmap1 hgrow1))
        go_roundw
        case rel =>
          refine ⟨m + 1, _, _, by omega, by rw [HAI.out], rfl, ?_, hmap1, ?_, ?_, ?_⟩
          · rw [HRV.out, HREP.out]
            have hne5 : v5.ownBlock ≠ some V.heap.size := fun e => by have := (World.ownsRow.lt hown5 _ e).1; omega
            have h6 := World.ownsRow.kept hown5 hgrow1 (.inr hne5)
            unfold OwnsP
            rw [prCells_snoc, List.length_append]
            exact h6
          · rw [HNX.out]; exact HPUT.out
          · have hb5 := (hbv.alloc hbv.size (.cells #[.int .i64 (a : Nat), .int .i64 (f : Nat)] 38)).grown hgrow5 (by have := hbv.size; simp; omega) (fun j hj => by have := HOB.out j hj; omega)
            exact hb5.grown hgrow1 hb5.size (fun j hj => by cases hj; exact Nat.le_refl _)
          · have := hgrow5.size; have := hgrow1.size; simp at *; omega
        case measure => simp [intOf] <;> omega
    · have hN := HN.out
      obtain rfl : m = N := by omega
      have hneg : (t.size : Int) - n - m < 0 := by omega
      have hneg2 : ¬ 0 ≤ (t.size : Int) - n - m := by omega
      have hbw := hb2.trans (hbv.mono (by have := hb2.size; simp at this; omega))
      have HLE : Hid ((repsB p m m).reverse.length ≤ 4096 ∧ (repsB p m m).reverse.reverse = repsF p m m) := ⟨by have := repsB_length p m m; rw [List.length_reverse]; omega, by rw [List.reverse_reverse]; exact reps_eq p m⟩
      clear hN hL hmap
      generalize (repsB p m m).reverse = L at *
      rcases hown.form with ⟨rfl, rfl⟩ | ⟨g, cap, cur, rfl, hg, hr, hlm, hpr⟩
      · obtain ⟨c0, c1, f0, f1, hsz⟩ := Kit.two_cells hbw
        go_wp2_with fail
        refine (rev_nil _).mono ?_
        rintro e Y ⟨⟨ve, rfl⟩, rfl⟩
        go_wp2
        have q := Kit.read_two (.int .i64 0) (.int .i64 0) c0 c1
        refine bodyPost_ret (v := .tuple #[.slice none 0 0, .agg #[.int .i64 0, .int .i64 0]]) (by simp [results, Try.results6, go_sem, q.1, q.2]) rfl ⟨_, rfl, ?_, ?_⟩
        · rw [← HLE.out.2]; exact PairsAt.nil _ _ _
        · exact Kit.below_two hbw _ _
      · go_wp2_with fail
        refine (rev_any g L.length cap (by have := HLE.out.1; omega) _ _ cur _ hr hpr).mono ?_
        rintro e Y ⟨⟨ve, rfl⟩, ⟨cur', hr', _, hpr'⟩, hgY⟩
        have hbY := hbw.grown hgY (by have := hbw.size; simp at this; omega) (fun j hj => by cases hj; have := hb2.size; simp at this; omega)
        obtain ⟨c0, c1, f0, f1, hsz⟩ := Kit.two_cells hbY
        have HPR := (show Hid (RowAt Y g 38 cur' ∧ Prs cur' L.length _ _) from ⟨hr', hpr'⟩)
        have hgw : w.heap.size < g := by have := hb2.size; simp at this; omega
        clear hr' hpr' hr hpr hgY hown
        go_wp2
        have q := Kit.read_two (.int .i64 0) (.int .i64 0) c0 c1
        refine bodyPost_ret (v := .tuple #[.slice (some ⟨g, 0, none⟩) L.length cap, .agg #[.int .i64 0, .int .i64 0]]) (by simp [results, Try.results6, go_sem, q.1, q.2]) rfl ⟨_, rfl, ?_, ?_⟩
        · rw [← HLE.out.2, List.length_reverse]
          refine PairsAt.of_prs ((HPR.out.1.setOther ⟨w.heap.size, 0, none⟩ _ (by show g ≠ w.heap.size; omega)).setOther ⟨w.heap.size, 1, none⟩ _ (by show g ≠ w.heap.size; omega)) hlm (fun k hk => ?_)
          have := HPR.out.2 k hk
          rw [getD_reverse L k hk]
          exact this
        · exact Kit.below_two hbY _ _
end Go.Proofs.Ytlgijlfojkpeaad
