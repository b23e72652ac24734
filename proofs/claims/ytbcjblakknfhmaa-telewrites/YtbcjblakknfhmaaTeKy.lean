/-
  Contract of the document's Key (chapter 13).
-/
import Derived.Test.YtbcjblakknfhmaaTeW
import Derived.Test.YtbcjblakknfhmaaTeSu
namespace Go.Proofs.Ytbcjblakknfhmaa
open Go.RowKit PK Tl

set_option maxRecDepth 100000 in
set_option maxHeartbeats 4000000 in
theorem rky_bad (v : Value) (T : Te) (n : Int) (hE : kyE T n ≠ 0) (w : World) (hd : TeAt w v T) : Calls Try.prog 11 #[v, .int .i64 n] w fun e w' => e = .returned (.tuple #[.slice none 0 0, .int .i64 (kyE T n)]) ∧ Below w.heap.size w w' := by
  have HW := (show Hid (∀ W, Below w.heap.size w W → Calls Try.prog 9 #[v] W fun e w' => e = .returned (.int .i64 (teE T)) ∧ Below W.heap.size W w') from fun W hb => rtw_any v T W (hd.below hb))
  obtain ⟨R, rfl, _⟩ := hd
  have h0 := TgAt.new w R T.pl
  by_cases hz : teE T = 0
  · have HE : Hid (kyE T n = 3 ∧ (n < 0 ∨ 65536 < n)) := by
      unfold kyE at hE ⊢
      rw [if_neg (fun h => h hz)] at hE ⊢
      by_cases h : n < 0 ∨ 65536 < n
      · exact ⟨by rw [if_pos h], h⟩
      · rw [if_neg h] at hE; exact absurd rfl hE
    rw [hz] at HW
    clear hE hz
    go_enter Try.func11, Try.ntmps11
    go_wp2_with (first | refine wpList_load_row rfl 27 _ rfl w.heap.size rfl 27 (teA R T.pl) (0, 0) _ h0.row Try.underlying27 rfl (by rw [teA_size]; exact t_info_tele) ?_)
    refine (HW.out _ h0.below).mono ?_
    rintro e W1 ⟨rfl, hb⟩
    have HBE := (show Hid _ from (h0.step hb).below)
    clear hb h0 HW
    by_cases h1 : n < 0
    · go_wp2
      go_ret2
      exact ⟨by rw [HE.out.1]; rfl, HBE.out⟩
    · have h2 : 65536 < n := by have := HE.out.2; omega
      go_wp2
      go_ret2
      exact ⟨by rw [HE.out.1]; rfl, HBE.out⟩
  · have HE : Hid (kyE T n = teE T) := by unfold kyE; rw [Hid, if_pos hz]
    have hz2 : (teE T != 0) = true := by simpa using hz
    clear hE hz
    obtain ⟨E, hEE⟩ : ∃ E, E = teE T := ⟨_, rfl⟩
    rw [← hEE] at HW HE hz2
    clear hEE
    go_enter Try.func11, Try.ntmps11
    go_wp2_with (first | refine wpList_load_row rfl 27 _ rfl w.heap.size rfl 27 (teA R T.pl) (0, 0) _ h0.row Try.underlying27 rfl (by rw [teA_size]; exact t_info_tele) ?_)
    refine (HW.out _ h0.below).mono ?_
    rintro e W1 ⟨rfl, hb⟩
    have HBE := (show Hid _ from (h0.step hb).below)
    clear hb h0 HW
    go_wp2
    go_ret2
    exact ⟨by rw [HE.out]; rfl, HBE.out⟩
/-- The key's first n letters. -/
def kyL (T : Te) (n : Nat) : List Nat := (List.range n).map (keyN T)
theorem kyL_len (T : Te) (n : Nat) : (kyL T n).length = n := by simp [kyL]
theorem kyL_succ (T : Te) (n : Nat) : kyL T (n + 1) = kyL T n ++ [keyN T n] := by
  unfold kyL
  rw [List.range_succ, List.map_append]
  rfl
theorem kyL_get (T : Te) {n i : Nat} (h : i < n) : (kyL T n).getD i 0 = keyN T i := by
  unfold kyL
  simp only [List.getD_eq_getElem?_getD, List.getElem?_map, List.getElem?_range h, Option.map_some, Option.getD_some]
theorem two_bits (x y : Bool) : ((if x = true then 1 else 0 : Nat) + (if y = true then 1 else 0)) % 2 = if (x ^^ y) = true then 1 else 0 := by cases x <;> cases y <;> rfl
theorem cast_ite (b : Bool) : (if b = true then (1 : Int) else 0) = (((if b = true then 1 else 0 : Nat)) : Int) := by cases b <;> rfl
set_option maxRecDepth 100000 in
set_option maxHeartbeats 8000000 in
theorem rky_ok (v : Value) (T : Te) (hz : teE T = 0) (n : Nat) (hn : n ≤ 65536) (w : World) (hd : TeAt w v T) : Calls Try.prog 11 #[v, .int .i64 (n : Nat)] w fun e w' => ∃ v', e = .returned (.tuple #[v', .int .i64 0]) ∧ OwnsL w' (w.heap.size + 1) v' (kyL T n) ∧ Below w.heap.size w w' := by
  obtain ⟨i0, hi0, hz0, hz1, hz2⟩ := x_info_parts g_info_int
  have HW := (show Hid (∀ W, Below w.heap.size w W → Calls Try.prog 9 #[v] W fun e w' => e = .returned (.int .i64 0) ∧ Below W.heap.size W w') from fun W hb => by have := rtw_any v T W (hd.below hb); rw [hz] at this; exact this)
  obtain ⟨R, rfl, hp⟩ := hd
  have h0 := TgAt.new w R T.pl
  have HPL := (show Hid (∀ k, k < 11 → ∃ p : Nat, T.pl k = (p : Int) ∧ p < 47) from fun k hk => by obtain ⟨h1, h2, h3, h4⟩ := teE_zero hz hk; exact ⟨(T.pl k).toNat, by omega, by omega⟩)
  have HOU := (show Hid (∀ k s W, k < 11 → s ≤ 131072 → Below w.heap.size w W → Calls Try.prog 25 #[R k, .int .i64 (T.pl k), .int .i64 (s : Nat)] W fun e w' => e = .returned (.int .i64 (((if bit T k s = true then 1 else 0 : Nat)) : Int)) ∧ W = w') from fun k s W hk hs hb => by
    obtain ⟨h1, h2, h3, h4⟩ := teE_zero hz hk
    have := rout_any (R k) (T.ln k) (T.pin k) h1 h2 (T.pl k).toNat s (by omega) hs W ((hp k hk).below hb)
    rw [cast_ite, show (((T.pl k).toNat : Nat) : Int) = T.pl k by omega] at this
    exact this)
  have HRF := (show Hid (∀ k, k < 11 → ∃ a l c, R k = .slice a l c) from fun k hk => by obtain ⟨a, c, e, _⟩ := hp k hk; exact ⟨a, _, c, e⟩)
  have hn1 : ¬ (65536 : Int) < (n : Int) := by omega
  clear hp hz
  go_enter Try.func11, Try.ntmps11
  go_wp2_with (first | refine wpList_load_row rfl 27 _ rfl w.heap.size rfl 27 (teA R T.pl) (0, 0) _ h0.row Try.underlying27 rfl (by rw [teA_size]; exact t_info_tele) ?_)
  refine (HW.out _ h0.below).mono ?_
  rintro e W1 ⟨rfl, hb⟩
  have h1 := h0.step hb
  clear hb h0 HW
  go_wp2_with fail
  go_loopw [7, 8, 9] (fun o sl x W => ∃ (i : Nat) (u : Value), i ≤ n ∧ x = .int .i64 (i : Nat) ∧ sl = .int .i64 (slow T i : Nat) ∧ u = o ∧ OwnsL W (w.heap.size + 1) u (kyL T i) ∧ TgAt w W R T.pl) (fun _ _ x _ => ((n : Int) - intOf x).toNat)
  case atStart => exact ⟨0, _, by omega, rfl, rfl, rfl, OwnsL.nil _ _, h1⟩
  case round =>
    clear h1 hn1
    obtain ⟨i, u, hi, rfl, rfl, rfl, hown, hg⟩ := hrel
    by_cases hlt : i < n
    case neg =>
      obtain rfl : i = n := by omega
      have hnn : ¬ ((i : Nat) : Int) < ((i : Nat) : Int) := by omega
      have HOWN := (show Hid _ from hown)
      have HG := (show Hid _ from hg.below)
      generalize slow T i = sl at *
      clear hown hg hlt
      go_wp2
      go_ret2
      exact ⟨u, by first | rfl | trivial, HOWN.out, HG.out⟩
    have HLT : Hid (i < n) := hlt
    have hlt2 : (i : Int) < (n : Int) := by omega
    have hlen := kyL_len T i
    have hsl := slow_le T i
    have HNX := (show Hid _ from kyL_succ T i)
    have HSN : Hid (slow T (i + 1) = slow T i + if bit T 10 i = true then 1 else 0) := rfl
    have HKN : Hid (keyN T i = numOf (fun h => bit T h i ^^ bit T (5 + h) (slow T i)) 5) := rfl
    generalize slow T i = sl at *
    have HOWN := (show Hid (OwnsL wr (w.heap.size + 1) u (kyL T i)) from hown)
    have HG := (show Hid (TgAt w wr R T.pl) from hg)
    clear hlt hown hg
    go_wp2_with fail
    go_loopw [10, 11] (fun c x W => ∃ (h : Nat), h ≤ 5 ∧ x = .int .i64 (h : Nat) ∧ c = .int .i64 (numOf (fun h => bit T h i ^^ bit T (5 + h) sl) h : Nat) ∧ OwnsL W (w.heap.size + 1) u (kyL T i) ∧ TgAt w W R T.pl) (fun _ x _ => ((5 : Int) - intOf x).toNat)
    case atStart => exact ⟨0, by omega, rfl, rfl, HOWN.out, HG.out⟩
    case round =>
      clear HOWN HG
      obtain ⟨h, hh, rfl, rfl, hown, hg⟩ := hrel
      have HOWN := (show Hid (OwnsL wr (w.heap.size + 1) u (kyL T i)) from hown)
      have HG := (show Hid (TgAt w wr R T.pl) from hg)
      have hnl := numOf_lt (fun h => bit T h i ^^ bit T (5 + h) sl) h
      have hnp : 2 ^ h ≤ 2 ^ 5 := Nat.pow_le_pow_right (by decide) hh
      by_cases hlt : h < 5
      · have HLH : Hid (h < 5) := hlt
        have hlh : (h : Int) < 5 := by omega
        have HNS : Hid (numOf (fun h => bit T h i ^^ bit T (5 + h) sl) (h + 1) = 2 * numOf (fun h => bit T h i ^^ bit T (5 + h) sl) h + if (bit T h i ^^ bit T (5 + h) sl) = true then 1 else 0) := rfl
        have hNB : numOf (fun h => bit T h i ^^ bit T (5 + h) sl) h < 32 := by omega
        generalize numOf (fun h => bit T h i ^^ bit T (5 + h) sl) h = NN at *
        have HT1 := (show Hid _ from fun W hb => HOU.out h i W (by omega) (by omega) hb)
        have HT2 := (show Hid _ from fun W hb => HOU.out (5 + h) sl W (by omega) (by omega) hb)
        obtain ⟨a1, l1, c1, r1⟩ := HRF.out h (by omega)
        obtain ⟨a2, l2, c2, r2⟩ := HRF.out (5 + h) (by omega)
        obtain ⟨p1, q1, k1⟩ := HPL.out h (by omega)
        obtain ⟨p2, q2, k2⟩ := HPL.out (5 + h) (by omega)
        have HL := (show Hid (∀ W, TgAt w W R T.pl → W.cell? ⟨w.heap.size, h, none⟩ = some (.slice a1 l1 c1) ∧ W.cell? ⟨w.heap.size, 11 + h, none⟩ = some (.int .i64 (p1 : Nat)) ∧ W.cell? ⟨w.heap.size, 5 + h, none⟩ = some (.slice a2 l2 c2) ∧ W.cell? ⟨w.heap.size, 16 + h, none⟩ = some (.int .i64 (p2 : Nat))) from fun W hW => by
          have e1 := te_wheel hW.row (k := h) (by omega)
          have e2 := te_place hW.row (k := h) (by omega)
          have e3 := te_wheel hW.row (k := 5 + h) (by omega)
          have e4 := te_place hW.row (k := 5 + h) (by omega)
          rw [r1] at e1
          rw [q1] at e2
          rw [r2] at e3
          rw [q2, show 11 + (5 + h) = 16 + h by omega] at e4
          exact ⟨e1, e2, e3, e4⟩)
        rw [r1, q1] at HT1
        rw [r2, q2] at HT2
        have HXY := (show Hid _ from two_bits (bit T h i) (bit T (5 + h) sl))
        have hb1 : (if bit T h i = true then 1 else 0 : Nat) ≤ 1 := by split <;> omega
        have hb2 : (if bit T (5 + h) sl = true then 1 else 0 : Nat) ≤ 1 := by split <;> omega
        obtain ⟨y1, hy1⟩ : ∃ y : Nat, y = if bit T h i = true then 1 else 0 := ⟨_, rfl⟩
        obtain ⟨y2, hy2⟩ : ∃ y : Nat, y = if bit T (5 + h) sl = true then 1 else 0 := ⟨_, rfl⟩
        rw [← hy1] at HT1 HXY hb1
        rw [← hy2] at HT2 HXY hb2
        rw [← HXY.out] at HNS
        have hmd : ((y1 : Int) + (y2 : Int)).tmod 2 = (((y1 + y2) % 2 : Nat) : Int) := by rw [Int.tmod_eq_emod_of_nonneg (by omega)]; push_cast; rfl
        have hmd2 : ((y1 : Int) + (y2 : Int)) % 2 = (((y1 + y2) % 2 : Nat) : Int) := by push_cast; rfl
        have hml := Nat.mod_lt (y1 + y2) (show 0 < 2 by decide)
        generalize (y1 + y2) % 2 = z at *
        clear hnl hnp hown hg r1 r2 q1 q2 k1 k2 hy1 hy2 HXY HPL HOU HRF
        go_upto_region 15 with fail
        refine wp_region_noPanic ?_
        refine wp_region_held_drew (S := fun W => TgAt w W R T.pl) (by kernel_rfl) HG.out.drew (fun hS => ?_)
        have HOW := (show Hid (OwnsL wr.drew (w.heap.size + 1) u (kyL T i)) from own_drew HOWN.out)
        obtain ⟨U, hU⟩ : ∃ x, x = wr.drew := ⟨_, rfl⟩
        rw [← hU] at hS HOW ⊢
        clear hU HG HOWN
        refine vtake 0 32 (.int .i64 (NN : Nat)) rfl rfl (by kernel_rfl) (by kernel_rfl) (by kernel_rfl) (fun _ _ _ _ h => h) (by rfl) (fun W hW => by clear hS hW; go_simp) hS ?_
        simp only [List.setIfInBounds_toArray, List.set_cons_succ, List.set_cons_zero]
        refine vtake 1 33 (.int .i64 (2 * (NN : Int))) rfl rfl (by kernel_rfl) (by kernel_rfl) (by kernel_rfl) (fun _ _ _ _ h => h) (by rfl) (fun W hW => by have u1 : IntKind.i64.wrap (2 * (NN : Int)) = 2 * (NN : Int) := (by rw [IntKind.wrap_i64]; omega); clear hS hW; go_simp) hS ?_
        simp only [List.setIfInBounds_toArray, List.set_cons_succ, List.set_cons_zero]
        refine vtake 2 34 (.int .i64 (h : Nat)) rfl rfl (by kernel_rfl) (by kernel_rfl) (by kernel_rfl) (fun _ _ _ _ h => h) (by rfl) (fun W hW => by clear hS hW; go_simp) hS ?_
        simp only [List.setIfInBounds_toArray, List.set_cons_succ, List.set_cons_zero]
        refine vtake 3 35 (.pointer (some ⟨w.heap.size, 0, none⟩)) rfl rfl (by kernel_rfl) (by kernel_rfl) (by kernel_rfl) (fun _ _ _ _ h => h) (by rfl) (fun W hW => by clear hS hW; go_simp) hS ?_
        simp only [List.setIfInBounds_toArray, List.set_cons_succ, List.set_cons_zero]
        refine vtake 4 36 (.pointer (some ⟨w.heap.size, h, none⟩)) rfl rfl (by kernel_rfl) (by kernel_rfl) (by kernel_rfl) (fun _ _ _ _ h => h) (by rfl) (fun W hW => by clear hS hW; go_simp) hS ?_
        simp only [List.setIfInBounds_toArray, List.set_cons_succ, List.set_cons_zero]
        refine vtake 5 37 (.slice a1 l1 c1) rfl rfl (by kernel_rfl) (by kernel_rfl) (by kernel_rfl) (fun _ _ _ _ h => h) (by rfl) (fun W hW => by obtain ⟨e1, e2, e3, e4⟩ := HL.out W hW; clear hS hW; go_simp) hS ?_
        simp only [List.setIfInBounds_toArray, List.set_cons_succ, List.set_cons_zero]
        refine vtake 6 38 (.int .i64 (h : Nat)) rfl rfl (by kernel_rfl) (by kernel_rfl) (by kernel_rfl) (fun _ _ _ _ h => h) (by rfl) (fun W hW => by clear hS hW; go_simp) hS ?_
        simp only [List.setIfInBounds_toArray, List.set_cons_succ, List.set_cons_zero]
        refine vtake 7 39 (.pointer (some ⟨w.heap.size, 11, none⟩)) rfl rfl (by kernel_rfl) (by kernel_rfl) (by kernel_rfl) (fun _ _ _ _ h => h) (by rfl) (fun W hW => by clear hS hW; go_simp) hS ?_
        simp only [List.setIfInBounds_toArray, List.set_cons_succ, List.set_cons_zero]
        refine vtake 8 40 (.pointer (some ⟨w.heap.size, 11 + h, none⟩)) rfl rfl (by kernel_rfl) (by kernel_rfl) (by kernel_rfl) (fun _ _ _ _ h => h) (by rfl) (fun W hW => by clear hS hW; go_simp) hS ?_
        simp only [List.setIfInBounds_toArray, List.set_cons_succ, List.set_cons_zero]
        refine vtake 9 41 (.int .i64 (p1 : Nat)) rfl rfl (by kernel_rfl) (by kernel_rfl) (by kernel_rfl) (fun _ _ _ _ h => h) (by rfl) (fun W hW => by obtain ⟨e1, e2, e3, e4⟩ := HL.out W hW; clear hS hW; go_simp) hS ?_
        simp only [List.setIfInBounds_toArray, List.set_cons_succ, List.set_cons_zero]
        refine vtake 10 42 (.int .i64 (i : Nat)) rfl rfl (by kernel_rfl) (by kernel_rfl) (by kernel_rfl) (fun _ _ _ _ h => h) (by rfl) (fun W hW => by clear hS hW; go_simp) hS ?_
        simp only [List.setIfInBounds_toArray, List.set_cons_succ, List.set_cons_zero]
        refine vtake 12 44 (.int .i64 (h : Nat)) rfl rfl (by kernel_rfl) (by kernel_rfl) (by kernel_rfl) (fun _ _ _ _ h => h) (by rfl) (fun W hW => by clear hS hW; go_simp) hS ?_
        simp only [List.setIfInBounds_toArray, List.set_cons_succ, List.set_cons_zero]
        refine vtake 13 45 (.pointer (some ⟨w.heap.size, 5, none⟩)) rfl rfl (by kernel_rfl) (by kernel_rfl) (by kernel_rfl) (fun _ _ _ _ h => h) (by rfl) (fun W hW => by clear hS hW; go_simp) hS ?_
        simp only [List.setIfInBounds_toArray, List.set_cons_succ, List.set_cons_zero]
        refine vtake 14 46 (.pointer (some ⟨w.heap.size, 5 + h, none⟩)) rfl rfl (by kernel_rfl) (by kernel_rfl) (by kernel_rfl) (fun _ _ _ _ h => h) (by rfl) (fun W hW => by clear hS hW; go_simp) hS ?_
        simp only [List.setIfInBounds_toArray, List.set_cons_succ, List.set_cons_zero]
        refine vtake 15 47 (.slice a2 l2 c2) rfl rfl (by kernel_rfl) (by kernel_rfl) (by kernel_rfl) (fun _ _ _ _ h => h) (by rfl) (fun W hW => by obtain ⟨e1, e2, e3, e4⟩ := HL.out W hW; clear hS hW; go_simp) hS ?_
        simp only [List.setIfInBounds_toArray, List.set_cons_succ, List.set_cons_zero]
        refine vtake 16 48 (.int .i64 (h : Nat)) rfl rfl (by kernel_rfl) (by kernel_rfl) (by kernel_rfl) (fun _ _ _ _ h => h) (by rfl) (fun W hW => by clear hS hW; go_simp) hS ?_
        simp only [List.setIfInBounds_toArray, List.set_cons_succ, List.set_cons_zero]
        refine vtake 17 49 (.pointer (some ⟨w.heap.size, 16, none⟩)) rfl rfl (by kernel_rfl) (by kernel_rfl) (by kernel_rfl) (fun _ _ _ _ h => h) (by rfl) (fun W hW => by clear hS hW; go_simp) hS ?_
        simp only [List.setIfInBounds_toArray, List.set_cons_succ, List.set_cons_zero]
        refine vtake 18 50 (.pointer (some ⟨w.heap.size, 16 + h, none⟩)) rfl rfl (by kernel_rfl) (by kernel_rfl) (by kernel_rfl) (fun _ _ _ _ h => h) (by rfl) (fun W hW => by clear hS hW; go_simp) hS ?_
        simp only [List.setIfInBounds_toArray, List.set_cons_succ, List.set_cons_zero]
        refine vtake 19 51 (.int .i64 (p2 : Nat)) rfl rfl (by kernel_rfl) (by kernel_rfl) (by kernel_rfl) (fun _ _ _ _ h => h) (by rfl) (fun W hW => by obtain ⟨e1, e2, e3, e4⟩ := HL.out W hW; clear hS hW; go_simp) hS ?_
        simp only [List.setIfInBounds_toArray, List.set_cons_succ, List.set_cons_zero]
        refine vtake 20 52 (.int .i64 (sl : Nat)) rfl rfl (by kernel_rfl) (by kernel_rfl) (by kernel_rfl) (fun _ _ _ _ h => h) (by rfl) (fun W hW => by clear hS hW; go_simp) hS ?_
        simp only [List.setIfInBounds_toArray, List.set_cons_succ, List.set_cons_zero]
        refine wpAnyH_ready (rs := [11]) (by kernel_rfl) (by simp) ?_
        refine AllReadyH.cons (o := _) rfl (fun K hK => ?_) AllReadyH.nil
        rw [if_pos (by rfl)]
        go_simp
        refine Calls.mono (HT1.out _ hS.below) ?_
        rintro e Y ⟨rfl, rfl⟩
        refine hK.out _ _ (hS) (fun hS1 => ?_)
        clear hK K
        clear hS1
        refine wpAnyH_ready (rs := [21]) (by kernel_rfl) (by simp) ?_
        refine AllReadyH.cons (o := _) rfl (fun K hK => ?_) AllReadyH.nil
        rw [if_pos (by rfl)]
        go_simp
        refine Calls.mono (HT2.out _ hS.below) ?_
        rintro e Y ⟨rfl, rfl⟩
        refine hK.out _ _ (hS) (fun hS1 => ?_)
        clear hK K
        clear hS1
        refine vtake 22 54 (.int .i64 ((y1 : Int) + (y2 : Int))) rfl rfl (by kernel_rfl) (by kernel_rfl) (by kernel_rfl) (fun _ _ _ _ h => h) (by rfl) (fun W hW => by have u1 : IntKind.i64.wrap ((y1 : Int) + (y2 : Int)) = (y1 : Int) + (y2 : Int) := (by rw [IntKind.wrap_i64]; omega); clear hS hW; go_simp) hS ?_
        simp only [List.setIfInBounds_toArray, List.set_cons_succ, List.set_cons_zero]
        refine vtake 23 55 (.int .i64 (z : Nat)) rfl rfl (by kernel_rfl) (by kernel_rfl) (by kernel_rfl) (fun _ _ _ _ h => h) (by rfl) (fun W hW => by clear hS hW; go_simp) hS ?_
        simp only [List.setIfInBounds_toArray, List.set_cons_succ, List.set_cons_zero]
        refine vtake 24 56 (.int .i64 ((2 * NN + z : Nat) : Int)) rfl rfl (by kernel_rfl) (by kernel_rfl) (by kernel_rfl) (fun _ _ _ _ h => h) (by rfl) (fun W hW => by have u1 : IntKind.i64.wrap (2 * (NN : Int) + (z : Int)) = 2 * (NN : Int) + (z : Int) := (by rw [IntKind.wrap_i64]; omega); clear hS hW; go_simp) hS ?_
        simp only [List.setIfInBounds_toArray, List.set_cons_succ, List.set_cons_zero]
        refine vtake 25 10 (.int .i64 ((2 * NN + z : Nat) : Int)) rfl rfl (by kernel_rfl) (by kernel_rfl) (by kernel_rfl) (fun _ _ _ _ h => h) (by rfl) (fun W hW => by clear hS hW; go_simp) hS ?_
        simp only [List.setIfInBounds_toArray, List.set_cons_succ, List.set_cons_zero]
        refine wpAnyH_done (by kernel_rfl) ?_ _
        refine NoPanic.normal ?_
        have HG := (show Hid _ from hS)
        clear hS hmd hmd2
        go_wp2
        go_roundw
        case rel => exact ⟨h + 1, HLH.out, by go_num, by first | (rw [HNS.out]; done) | (rw [HNS.out]; go_num), HOW.out, HG.out⟩
        case measure => have := HLH.out; simp [intOf]; omega
      · obtain rfl : h = 5 := by omega
        rw [← HKN.out]
        have hkl := keyN_lt T i
        obtain ⟨z, hzz⟩ : ∃ z, z = keyN T i := ⟨_, rfl⟩
        rw [← hzz] at hkl HNX ⊢
        have HT := (show Hid _ from fun W hb => HOU.out 10 i W (by decide) (by omega) hb)
        obtain ⟨a1, l1, c1, r1⟩ := HRF.out 10 (by decide)
        obtain ⟨p1, q1, k1⟩ := HPL.out 10 (by decide)
        have HL := (show Hid (∀ W, TgAt w W R T.pl → W.cell? ⟨w.heap.size, 10, none⟩ = some (.slice a1 l1 c1) ∧ W.cell? ⟨w.heap.size, 21, none⟩ = some (.int .i64 (p1 : Nat))) from fun W hW => by
          have e1 := te_wheel hW.row (k := 10) (by decide)
          have e2 : W.cell? ⟨w.heap.size, 21, none⟩ = some (.int .i64 (T.pl 10)) := te_place hW.row (k := 10) (by decide)
          rw [r1] at e1
          rw [q1] at e2
          exact ⟨e1, e2⟩)
        rw [r1, q1] at HT
        have hb1 : (if bit T 10 i = true then 1 else 0 : Nat) ≤ 1 := by split <;> omega
        obtain ⟨y1, hy1⟩ : ∃ y : Nat, y = if bit T 10 i = true then 1 else 0 := ⟨_, rfl⟩
        rw [← hy1] at HT hb1 HSN
        have hlw := hg.lt
        clear hnl hnp hg HOWN r1 q1 k1 hy1 HPL HOU HRF hlt HKN hzz hh
        go_upto_region 17 with (first | (at_builtin; refine wpList_append_own _ rfl _ _ 28 rfl (w.heap.size + 1) 3 i0 (.int .i64 0) 1 8 Try.underlying28 hi0 hz0 hz1 hz2 rfl (by decide) _ _ _ rfl (World.ownsRow.alloc hown _) ⟨wr.heap.size, 0, none⟩ 1 1 [.int .i64 (z : Nat)] rfl rfl (cell_one_new _ _ _) (fun u hu => by simp at hu; subst hu; rfl) (by unfold maxLen; omega) (by omega) (by simp; omega) ?_; intro v' w1 hown' hgrow _))
        have hg2 := (HG.out.alloc (.cells #[.int .i64 (z : Nat)] 3)).grown hgrow (fun p hp => by have := (World.ownsRow.lt hown p hp).1; omega)
        have HON : Hid (OwnsL w1 (w.heap.size + 1) v' (kyL T (i + 1))) := by
          rw [Hid, HNX.out, OwnsL, nnums_append, List.length_append]
          exact hown'
        have HG2 := (show Hid (TgAt w w1 R T.pl) from hg2)
        have hl2 := HL.out w1 hg2
        have d1 := hl2.1
        have d2 := hl2.2
        have HCT := (show Hid _ from HT.out w1 hg2.below)
        clear hg2 hl2 hown hown' hgrow HG HT HL hlw
        go_wp2_with fail
        refine Calls.mono HCT.out ?_
        rintro e Y ⟨rfl, rfl⟩
        clear HCT d1 d2
        go_wp2
        go_roundw
        case rel => exact ⟨i + 1, v', HLT.out, by go_num, by first | (rw [HSN.out]; done) | (rw [HSN.out]; go_num), by first | rfl | trivial, HON.out, HG2.out⟩
        case measure => have := HLT.out; simp [intOf]; omega
end Go.Proofs.Ytbcjblakknfhmaa
