/-
  Contracts of rails.divisor, round and Period.
-/
import Derived.Test.YtennpknkcaeafacYWrong
import Derived.Test.YtennpknkcaeafacRMath
import Derived.RegionTactic
namespace Go.Proofs.Ytennpknkcaeafac
open Go.RowKit PK

set_option maxHeartbeats 1000000 in
theorem divisor_any (a b : Nat) (ha : a ≤ 2199023255552) (hb : b ≤ 65536) (w : World) :
    Calls Try.prog 41 #[.int .i64 (a : Nat), .int .i64 (b : Nat)] w fun e w' => e = .returned (.int .i64 (Nat.gcd a b : Nat)) ∧ Below w.heap.size w w' := by
  go_enter Try.func41, Try.ntmps41
  go_wp2
  go_loopw [0, 1] (fun x y W => ∃ p q : Nat, x = .int .i64 (p : Nat) ∧ y = .int .i64 (q : Nat) ∧ p ≤ 2199023255552 ∧ q ≤ 65536 ∧ Hid (Nat.gcd p q = Nat.gcd a b) ∧ Below w.heap.size w W) (fun _ y _ => (intOf y).toNat)
  case atStart => exact ⟨a, b, rfl, rfl, ha, hb, rfl, Below.refl _ _⟩
  case round =>
    obtain ⟨p, q, rfl, rfl, hp, hq, HG, hbe⟩ := hrel
    by_cases h0 : q = 0
    · subst h0
      rw [Nat.gcd_zero_right] at HG
      go_wp2
      go_ret
      exact ⟨ret_int (by rw [HG.out]), hbe⟩
    · have h1 : (((q : Nat) : Int) == 0) = false := by simp; omega
      obtain ⟨r, hr⟩ : ∃ r, r = p % q := ⟨_, rfl⟩
      have hm : ((p : Nat) : Int) % ((q : Nat) : Int) = ((r : Nat) : Int) := by rw [hr]; omega
      have hlt : r < q := by rw [hr]; exact Nat.mod_lt _ (by omega)
      have HN : Hid (Nat.gcd q r = Nat.gcd a b) := by rw [Hid, hr, ← HG.out, Nat.gcd_comm p q, Nat.gcd_rec q p, Nat.gcd_comm]
      clear hr
      go_wp2
      go_region
      all_goals (try go_wp2)
      all_goals exact ⟨⟨q, r, rfl, by rw [hm], by omega, by omega, HN, hbe.drew⟩, by simp [intOf]; omega⟩
theorem walk_le {n : Nat} {f : Nat → Nat} {g0 g : Nat → Bool} {i k : Nat} (hf : Qm.Ord n f) (hi : i < n) (h : Qm.Walk n f g0 i k g) : k ≤ n := by
  have hnd : ((List.range k).map fun j => Qm.it f j i).Nodup := by
    rw [List.nodup_iff_pairwise_ne, List.pairwise_map]
    refine (Sm.range_pw k).imp_of_mem ?_
    intro a b ha hb hab
    exact h.apart a b hab (by simpa using hb)
  have := Sm.nodup_len _ (List.range n) hnd (fun y hy => by
    obtain ⟨j, _, rfl⟩ := List.mem_map.1 hy
    simpa using Qm.it_lt hf hi j)
  simpa using this
theorem natF_eq {n : Nat} {f : Nat → Int} (hg : GoodO n f) {x : Nat} (hx : x < n) : f x = ((natF f x : Nat) : Int) := by
  have := hg.lt x hx
  unfold natF
  omega
set_option maxHeartbeats 1000000 in
theorem round_any (v : Value) (n : Nat) (f : Nat → Int) (hg : GoodO n f) (i : Nat) (hi : i < n) (g cap : Nat) (g0 : Nat → Bool) (hcl : Qm.Closed n (natF f) g0) (hi0 : g0 i = false) (w0 w : World) (hv : NumsAt w0 v n f) (hb0 : Below w0.heap.size w0 w) (hgb : w0.heap.size ≤ g) (hr : RowAt w g 4 (bools n g0)) :
    Calls Try.prog 40 #[v, .int .i64 (i : Nat), .slice (some ⟨g, 0, none⟩) n cap] w fun e w' => ∃ (k : Nat) (g' : Nat → Bool), e = .returned (.int .i64 (k : Nat)) ∧ k ≤ n ∧ Qm.Round n (natF f) g0 i k g' ∧ RowAt w' g 4 (bools n g') ∧ Below w0.heap.size w0 w' := by
  have hle := hg.le
  obtain ⟨b, o, cap', rfl, hm, hc⟩ := hv.form (by omega)
  have HC := (show Hid (∀ c, c < n → w0.cell? ⟨b, o + c, none⟩ = some (.int .i64 (f c))) from hc)
  have HG := (show Hid (GoodO n f) from hg)
  have HK := (show Hid (Qm.Closed n (natF f) g0 ∧ g0 i = false) from ⟨hcl, hi0⟩)
  clear hc hg hcl hi0 hv
  go_enter Try.func40, Try.ntmps40
  go_wp2
  go_loopw [1, 7] (fun p l W => ∃ (k : Nat) (g' : Nat → Bool), p = .int .i64 (Qm.it (natF f) k i : Nat) ∧ l = .int .i64 (k : Nat) ∧ k ≤ n ∧ Hid (Qm.Walk n (natF f) g0 i k g') ∧ RowAt W g 4 (bools n g') ∧ Below w0.heap.size w0 W) (fun _ l _ => ((n : Int) - intOf l).toNat)
  case atStart => exact ⟨0, g0, rfl, rfl, by omega, Qm.Walk.start _ _ _ _, hr, hb0⟩
  case round =>
    clear hr hb0
    obtain ⟨k, g', rfl, rfl, hk, HW, ro, hb⟩ := hrel
    have hx := Qm.it_lt HG.out.ord hi k
    have HX : Hid (f (Qm.it (natF f) k i) = (Qm.it (natF f) (k + 1) i : Nat)) := natF_eq HG.out hx
    have HS := (show Hid (∀ g'', g' (Qm.it (natF f) k i) = false → g'' (Qm.it (natF f) k i) = true → (∀ x, x ≠ Qm.it (natF f) k i → g'' x = g' x) → Qm.Walk n (natF f) g0 i (k + 1) g'') from fun g'' a b c => HW.out.step HG.out.ord hi a b c)
    have HB := (show Hid (g' (Qm.it (natF f) k i) = true → Qm.Round n (natF f) g0 i k g') from fun a => HW.out.back HG.out.ord hi HK.out.1 HK.out.2 a)
    have hx1 := Qm.it_lt HG.out.ord hi (k + 1)
    have hcc := HC.out (Qm.it (natF f) k i) hx
    rw [HX.out] at hcc
    obtain ⟨y, hy⟩ : ∃ y, y = Qm.it (natF f) (k + 1) i := ⟨_, rfl⟩
    rw [← hy] at hcc hx1
    have HY : Hid (y = Qm.it (natF f) (k + 1) i) := hy
    clear hy HX
    generalize Qm.it (natF f) k i = x at *
    have hcx := ro.cell (bools_get g' hx)
    have hfx := ro.frozen x
    have hxn : (x : Int) < (n : Int) := by omega
    cases hgx : g' x with
    | true =>
      rw [hgx] at hcx
      have HR := (show Hid (Qm.Round n (natF f) g0 i k g') from HB.out hgx)
      clear HS HB hcc HC hgx
      go_wp2
      go_ret
      exact ⟨k, g', rfl, hk, HR.out, ro, hb⟩
    | false =>
      rw [hgx] at hcx
      have HN := (show Hid (Qm.Walk n (natF f) g0 i (k + 1) (upd g' x true)) from HS.out _ hgx (upd_same _ _ _) (fun z hz => upd_other _ _ hz))
      have hkn := walk_le HG.out.ord hi HN.out
      have ro2 : RowAt (wr.setCell ⟨g, x, none⟩ (.bool true)) g 4 (bools n (upd g' x true)) := by
        have := ro.set x (.bool true)
        rw [bools_set] at this
        exact this
      have hbb := hb.setCell (p := ⟨g, x, none⟩) (by simpa using hgb) (.bool true)
      have hco := (hbb.cell (p := ⟨b, o + x, none⟩) (cell_block hcc)).trans hcc
      clear HS HB hcc HC hgx
      go_wp2
      exact ⟨⟨k + 1, upd g' x true, by rw [HY.out], by go_num, hkn, HN, ro2, hbb⟩, by simp [intOf]; omega⟩
/-- What Period answers to any order. -/
def PeriodOut (n : Nat) (f : Nat → Int) (a e : Int) : Prop := (ordE n f ≠ 0 ∧ a = 0 ∧ e = ordE n f) ∨ (ordE n f = 0 ∧ Qm.PerOut n (natF f) a e)
theorem periodOut_uniq {n : Nat} {f : Nat → Int} {a e a' e' : Int} (h : PeriodOut n f a e) (h' : PeriodOut n f a' e') : a = a' ∧ e = e' := by
  rcases h with ⟨h1, rfl, rfl⟩ | ⟨h1, h2⟩ <;> rcases h' with ⟨h1', rfl, rfl⟩ | ⟨h1', h2'⟩
  · exact ⟨rfl, rfl⟩
  · exact absurd h1' h1
  · exact absurd h1 h1'
  · exact Qm.perOut_uniq h2 h2'
theorem closed_none (n : Nat) (f : Nat → Nat) : Qm.Closed n f fun _ => false := fun _ _ => rfl
set_option maxHeartbeats 2000000 in
theorem period_any (v : Value) (n : Nat) (f : Nat → Int) (w : World) (hv : NumsAt w v n f) :
    Calls Try.prog 21 #[v] w fun e w' => ∃ a E : Int, e = .returned (.tuple #[.int .i64 a, .int .i64 E]) ∧ PeriodOut n f a E ∧ Below w.heap.size w w' := by
  have HW : Hid (Calls Try.prog 15 #[v] w fun e w' => e = .returned (.int .i64 (ordE n f)) ∧ Below w.heap.size w w') := wrong_any v n f w hv
  rcases ordE_cases n f with ⟨h0, hg⟩ | h0
  · have HO : Hid (ordE n f = 0) := h0
    rw [h0] at HW
    have hle := hg.le
    have HG := (show Hid (GoodO n f) from hg)
    have HV := (show Hid (NumsAt w v n f) from hv)
    have hmk := run_make_row' (P := Try.prog) 51 4 (.bool false) 1 Try.underlying51 y_info_bool rfl .i64 .i64 n (by omega) (by omega)
    rw [y_made_tab, bools_new] at hmk
    obtain ⟨a, cap, rfl, hm⟩ := hv.len
    clear h0 hg hv
    go_enter Try.func21, Try.ntmps21
    go_wp2_with (first | (go_at_call 15; refine HW.out.mono ?_; rintro e W1 ⟨rfl, hb1⟩))
    have hz1 := hb1.size
    go_loopw [6, 19] (fun p c W => ∃ (P m : Nat) (g' : Nat → Bool), p = .int .i64 (P : Nat) ∧ c = .int .i64 (m : Nat) ∧ m ≤ n ∧ P ≤ 1099511627776 ∧ Hid (Qm.Per n (natF f) g' P ∧ Qm.Closed n (natF f) g' ∧ ∀ x, x < m → g' x = true) ∧ RowAt W W1.heap.size 4 (bools n g') ∧ Below w.heap.size w W) (fun _ c _ => ((n : Int) - intOf c).toNat)
    case atStart => exact ⟨1, 0, fun _ => false, rfl, rfl, by omega, by omega, ⟨Qm.per_start _ _, closed_none _ _, fun x hx => by omega⟩, RowAt.new W1 _ _, hb1.alloc hz1 _⟩
    case round =>
      obtain ⟨P, m, g', rfl, rfl, hm2, hP, HI, ro, hb⟩ := hrel
      by_cases hlt : m < n
      · have hcx := ro.cell (bools_get g' hlt)
        cases hgx : g' m with
        | true =>
          rw [hgx] at hcx
          have HI2 : Hid (Qm.Per n (natF f) g' P ∧ Qm.Closed n (natF f) g' ∧ ∀ x, x < m + 1 → g' x = true) := ⟨HI.out.1, HI.out.2.1, fun x hx => by
            by_cases e : x = m
            · rw [e]; exact hgx
            · exact HI.out.2.2 x (by omega)⟩
          clear hgx HI HW
          go_wp2
          exact ⟨⟨P, m + 1, g', rfl, by go_num, by omega, hP, HI2, ro, hb⟩, by simp [intOf]; omega⟩
        | false =>
          rw [hgx] at hcx
          have HRD := (show Hid (Calls Try.prog 40 #[.slice a n cap, .int .i64 (m : Nat), .slice (some ⟨W1.heap.size, 0, none⟩) n n] wr fun e w' => ∃ (k : Nat) (g'' : Nat → Bool), e = .returned (.int .i64 (k : Nat)) ∧ k ≤ n ∧ Qm.Round n (natF f) g' m k g'' ∧ RowAt w' W1.heap.size 4 (bools n g'') ∧ Below w.heap.size w w') from round_any _ n f HG.out m hlt W1.heap.size n g' HI.out.2.1 hgx w wr HV.out hb hz1 ro)
          clear hgx HW
          go_wp2_with fail
          refine Calls.mono HRD.out ?_
          rintro e W2 ⟨k, g'', rfl, hkn, hrd, ro2, hb2⟩
          have HPR := (show Hid (Qm.Per n (natF f) g'' (Nat.lcm P k)) from HI.out.1.round hlt hrd rfl)
          have HI2 := (show Hid (Qm.Closed n (natF f) g'' ∧ ∀ x, x < m + 1 → g'' x = true) from ⟨hrd.closed, fun x hx => (hrd.mark x (by omega)).2 (by
            by_cases e : x = m
            · exact .inr ⟨0, hrd.pos, e⟩
            · exact .inl (HI.out.2.2 x (by omega)))⟩)
          have hk0 := hrd.pos
          obtain ⟨d, hd⟩ : ∃ d, d = Nat.gcd P k := ⟨_, rfl⟩
          have HDV := (show Hid (Calls Try.prog 41 #[.int .i64 (P : Nat), .int .i64 (k : Nat)] W2 fun e w' => e = .returned (.int .i64 (d : Nat)) ∧ Below W2.heap.size W2 w') from by rw [hd]; exact divisor_any P k (by omega) (by omega) W2)
          have hd0 : 0 < d := by rw [hd]; exact Nat.gcd_pos_of_pos_right _ hk0
          obtain ⟨q, hq⟩ : ∃ q, q = k / d := ⟨_, rfl⟩
          obtain ⟨L, hL⟩ : ∃ L, L = Nat.lcm P k := ⟨_, rfl⟩
          have hq1 : ((k : Nat) : Int) / ((d : Nat) : Int) = ((q : Nat) : Int) := by rw [hq]; omega
          have hq2 : ((P : Nat) : Int) * ((q : Nat) : Int) = ((L : Nat) : Int) := by rw [hL, hq, hd, ← Qm.lcm_mul P k]; simp
          have hqk : q ≤ 65536 := by
            have := Nat.div_le_self k d
            omega
          have hLb : L ≤ 1099511627776 * 65536 := by
            have : L = P * q := by rw [hL, hq, hd, Qm.lcm_mul]
            rw [this]; exact Nat.mul_le_mul hP hqk
          have hne : (((d : Nat) : Int) == 0) = false := by simp; omega
          rw [← hL] at HPR
          clear hd hq hL hrd HI HRD hb ro
          have hz2 := hb2.size
          by_cases hmu : 1099511627776 < L
          · have hmu2 : (1099511627776 : Int) < (L : Int) := by omega
            have HE := (show Hid (PeriodOut n f 0 4) from .inr ⟨HO.out, HPR.out.much hmu⟩)
            go_wp2_with (first | (go_at_call 41; refine HDV.out.mono ?_; rintro e W3 ⟨rfl, hb3⟩))
            go_ret2
            exact ⟨_, _, rfl, HE.out, hb2.trans (hb3.mono hz2)⟩
          · have hmu2 : ¬ (1099511627776 : Int) < (L : Int) := by omega
            go_wp2_with (first | (go_at_call 41; refine HDV.out.mono ?_; rintro e W3 ⟨rfl, hb3⟩))
            exact ⟨⟨L, m + 1, g'', rfl, by go_num, by omega, by omega, ⟨HPR.out, HI2.out⟩, ro2.below hb3 ro2.lt, hb2.trans (hb3.mono hz2)⟩, by simp [intOf]; omega⟩
      · have HE := (show Hid (PeriodOut n f P 0) from .inr ⟨HO.out, HI.out.1.done (fun x hx => HI.out.2.2 x (by omega)) hP⟩)
        clear HI HW
        go_wp2
        go_ret2
        exact ⟨_, _, rfl, HE.out, hb⟩
  · have HE := (show Hid (PeriodOut n f 0 (ordE n f)) from .inl ⟨by simpa using h0, rfl, rfl⟩)
    obtain ⟨a, cap, rfl, hm⟩ := hv.len
    generalize ordE n f = E at *
    have h4 : (E == 0) = false := by simpa using h0
    clear hv h0
    go_enter Try.func21, Try.ntmps21
    go_wp2_with (first | (go_at_call 15; refine HW.out.mono ?_; rintro e W1 ⟨rfl, hb1⟩))
    go_ret2
    exact ⟨0, E, rfl, HE.out, hb1⟩
end Go.Proofs.Ytennpknkcaeafac
