/-
  Contract of the document's own Period.
-/
import Derived.Test.YtennpknkcaeafacYPer
namespace Go.Proofs.Ytennpknkcaeafac
open Go.RowKit PK

set_option maxRecDepth 100000 in
set_option maxHeartbeats 2000000 in
theorem rperiod_any (v : Value) (n : Nat) (f : Nat → Int) (w : World) (hv : NumsAt w v n f) :
    Calls Try.prog 22 #[v] w fun e w' => ∃ a E : Int, e = .returned (.tuple #[.int .i64 a, .int .i64 E]) ∧ PeriodOut n f a E ∧ Below w.heap.size w w' := by
  have HW : Hid (Calls Try.prog 16 #[v] w fun e w' => e = .returned (.int .i64 (ordE n f)) ∧ Below w.heap.size w w') := rwrong_any v n f w hv
  rcases ordE_cases n f with ⟨h0, hg⟩ | h0
  · have HO : Hid (ordE n f = 0) := h0
    rw [h0] at HW
    have hle := hg.le
    have HG := (show Hid (GoodO n f) from hg)
    have hmk := run_make_row' (P := Try.prog) 51 4 (.bool false) 1 Try.underlying51 y_info_bool rfl .i64 .i64 n (by omega) (by omega)
    rw [y_made_tab, bools_new] at hmk
    obtain ⟨a, cap, rfl, hm, hc⟩ := hv
    have HC := (show Hid (∀ c, c < n → ∃ b o, a = some ⟨b, o, none⟩ ∧ w.cell? ⟨b, o + c, none⟩ = some (.int .i64 (f c))) from hc)
    clear h0 hg hc
    go_enter Try.func22, Try.ntmps22
    go_wp2_with (first | (go_at_call 16; refine HW.out.mono ?_; rintro e W1 ⟨rfl, hb1⟩))
    have hz1 := hb1.size
    go_loopw [6, 21] (fun p c W => ∃ (P m : Nat) (g' : Nat → Bool), p = .int .i64 (P : Nat) ∧ c = .int .i64 (m : Nat) ∧ m ≤ n ∧ P ≤ 1099511627776 ∧ Hid (Qm.Per n (natF f) g' P ∧ Qm.Closed n (natF f) g' ∧ ∀ x, x < m → g' x = true) ∧ RowAt W W1.heap.size 4 (bools n g') ∧ Below w.heap.size w W) (fun _ c _ => ((n : Int) - intOf c).toNat)
    case atStart => exact ⟨1, 0, fun _ => false, rfl, rfl, by omega, by omega, ⟨Qm.per_start _ _, closed_none _ _, fun x hx => by omega⟩, RowAt.new W1 _ _, hb1.alloc hz1 _⟩
    case round =>
      clear hmk HW
      obtain ⟨P, m, g', rfl, rfl, hm2, hP, HI, ro, hb⟩ := hrel
      by_cases hlt : m < n
      · have hcx := ro.cell (bools_get g' hlt)
        cases hgx : g' m with
        | true =>
          rw [hgx] at hcx
          have HI2 : Hid (Qm.Per n (natF f) g' P ∧ Qm.Closed n (natF f) g' ∧ ∀ x, x < m + 1 → g' x = true) := ⟨HI.out.1, HI.out.2.1, fun x hx => by
            by_cases e : x = m
            · rw [e]; exact hgx
            · exact HI.out.2.2 x (by omega)⟩
          clear hgx HI
          go_wp2
          exact ⟨⟨P, m + 1, g', rfl, by go_num, by omega, hP, HI2, ro, hb⟩, by simp [intOf]; omega⟩
        | false =>
          rw [hgx] at hcx
          have HGX : Hid (g' m = false) := hgx
          obtain ⟨b, o, rfl, _⟩ := HC.out m hlt
          have HC2 := (show Hid (∀ c, c < n → w.cell? ⟨b, o + c, none⟩ = some (.int .i64 (f c))) from fun c hc => by
            obtain ⟨b', o', e', h'⟩ := HC.out c hc
            cases e'
            exact h')
          clear hgx HC
          go_wp2
          go_loopw [8, 9] (fun l p W => ∃ (k : Nat) (g'' : Nat → Bool), p = .int .i64 (Qm.it (natF f) k m : Nat) ∧ l = .int .i64 (k : Nat) ∧ k ≤ n ∧ Hid (Qm.Walk n (natF f) g' m k g'') ∧ RowAt W W1.heap.size 4 (bools n g'') ∧ Below w.heap.size w W) (fun l _ _ => ((n : Int) - intOf l).toNat)
          case atStart => exact ⟨0, g', rfl, rfl, by omega, Qm.Walk.start _ _ _ _, ro, hb⟩
          case round =>
            clear ro hb hcx
            obtain ⟨k, g'', rfl, rfl, hk, HWK, ro, hb⟩ := hrel
            have hx := Qm.it_lt HG.out.ord hlt k
            have HX : Hid (f (Qm.it (natF f) k m) = (Qm.it (natF f) (k + 1) m : Nat)) := natF_eq HG.out hx
            have HS := (show Hid (∀ g3, g'' (Qm.it (natF f) k m) = false → g3 (Qm.it (natF f) k m) = true → (∀ x, x ≠ Qm.it (natF f) k m → g3 x = g'' x) → Qm.Walk n (natF f) g' m (k + 1) g3) from fun g3 a b c => HWK.out.step HG.out.ord hlt a b c)
            have HB := (show Hid (g'' (Qm.it (natF f) k m) = true → Qm.Round n (natF f) g' m k g'') from fun a => HWK.out.back HG.out.ord hlt HI.out.2.1 HGX.out a)
            have hx1 := Qm.it_lt HG.out.ord hlt (k + 1)
            have hcc := HC2.out (Qm.it (natF f) k m) hx
            rw [HX.out] at hcc
            obtain ⟨y, hy⟩ : ∃ y, y = Qm.it (natF f) (k + 1) m := ⟨_, rfl⟩
            rw [← hy] at hcc hx1
            have HY : Hid (y = Qm.it (natF f) (k + 1) m) := hy
            clear hy HX
            generalize Qm.it (natF f) k m = x at *
            have hcx := ro.cell (bools_get g'' hx)
            have hfx := ro.frozen x
            have hxn : (x : Int) < (n : Int) := by omega
            cases hgx : g'' x with
            | false =>
              rw [hgx] at hcx
              have HN := (show Hid (Qm.Walk n (natF f) g' m (k + 1) (upd g'' x true)) from HS.out _ hgx (upd_same _ _ _) (fun z hz => upd_other _ _ hz))
              have hkn := walk_le HG.out.ord hlt HN.out
              have ro2 : RowAt (wr.setCell ⟨W1.heap.size, x, none⟩ (.bool true)) W1.heap.size 4 (bools n (upd g'' x true)) := by
                have := ro.set x (.bool true)
                rw [bools_set] at this
                exact this
              have hbb := hb.setCell (p := ⟨W1.heap.size, x, none⟩) hz1 (.bool true)
              have hco := (hbb.cell (p := ⟨b, o + x, none⟩) (cell_block hcc)).trans hcc
              clear HS HB hcc HC2 hgx
              go_wp2
              exact ⟨⟨k + 1, upd g'' x true, by rw [HY.out], by go_num, hkn, HN, ro2, hbb⟩, by simp [intOf]; omega⟩
            | true =>
              rw [hgx] at hcx
              have hrd := HB.out hgx
              have hk0 := hrd.pos
              have HPR := (show Hid (Qm.Per n (natF f) g'' (Nat.lcm P k)) from HI.out.1.round hlt hrd rfl)
              have hP0 := HI.out.1.pos
              have HI2 := (show Hid (Qm.Closed n (natF f) g'' ∧ ∀ x, x < m + 1 → g'' x = true) from ⟨hrd.closed, fun x hx => (hrd.mark x (by omega)).2 (by
                by_cases e : x = m
                · exact .inr ⟨0, hrd.pos, e⟩
                · exact .inl (HI.out.2.2 x (by omega)))⟩)
              clear HS HB hcc HC2 hgx hrd HI HY HWK hx1
              go_wp2
              go_loop [6] (fun z => ∃ q A : Nat, z = .int .i64 (A : Nat) ∧ Hid (A = P * q ∧ 0 < q ∧ q ≤ k ∧ ∀ r, 0 < r → r < q → P * r % k ≠ 0) ∧ A ≤ 72057594037927936 ∧ A ≤ P * k) (fun z => ((P * k : Nat) - intOf z).toNat)
              case atStart => exact ⟨1, P, rfl, ⟨by omega, by omega, by omega, fun r h1 h2 => by omega⟩, by omega, Nat.le_mul_of_pos_right P hk0⟩
              case round =>
                obtain ⟨q, A, rfl, HA, hA, hAk⟩ := hrel
                obtain ⟨r, hr⟩ : ∃ r, r = A % k := ⟨_, rfl⟩
                have hmod : ((A : Nat) : Int) % ((k : Nat) : Int) = ((r : Nat) : Int) := by rw [hr]; omega
                have hne : (((k : Nat) : Int) == 0) = false := by simp; omega
                by_cases hr0 : r = 0
                · have HL : Hid (A = Nat.lcm P k) := by
                    rw [Hid, HA.out.1]
                    exact Qm.lcm_first hP0 hk0 HA.out.2.1 (by rw [← HA.out.1, ← hr]; exact hr0) HA.out.2.2.2
                  have HPR2 := (show Hid (Qm.Per n (natF f) g'' A) from by rw [Hid, HL.out]; exact HPR.out)
                  subst hr0
                  clear hr HA HL HPR
                  by_cases hmu : 1099511627776 < A
                  · have hmu2 : (1099511627776 : Int) < (A : Int) := by omega
                    have HE := (show Hid (PeriodOut n f 0 4) from .inr ⟨HO.out, HPR2.out.much hmu⟩)
                    clear hAk
                    go_wp2
                    go_ret2
                    exact ⟨_, _, rfl, HE.out, hb⟩
                  · have hmu2 : ¬ (1099511627776 : Int) < (A : Int) := by omega
                    clear hAk
                    go_wp2
                    exact ⟨⟨A, m + 1, g'', rfl, by go_num, by omega, by omega, ⟨HPR2.out, HI2.out⟩, ro, hb⟩, by simp [intOf]; omega⟩
                · have hr1 : (((r : Nat) : Int) == 0) = false := by simp; omega
                  have hqk : q < k := by
                    rcases Nat.lt_or_ge q k with c | c
                    · exact c
                    · have : q = k := by have := HA.out.2.2.1; omega
                      rw [HA.out.1, this, Nat.mul_mod_left] at hr
                      exact absurd hr hr0
                  have HA2 : Hid (A + P = P * (q + 1) ∧ 0 < q + 1 ∧ q + 1 ≤ k ∧ ∀ r, 0 < r → r < q + 1 → P * r % k ≠ 0) := ⟨by rw [Nat.mul_succ, HA.out.1], by omega, by omega, fun r' h1 h2 => by
                    by_cases e : r' = q
                    · rw [e, ← HA.out.1, ← hr]; exact hr0
                    · exact HA.out.2.2.2 r' h1 (by omega)⟩
                  have hle2 : A + P ≤ P * k := by rw [HA2.out.1]; exact Nat.mul_le_mul_left P HA2.out.2.2.1
                  have hle3 : P * k ≤ 1099511627776 * 65536 := Nat.mul_le_mul hP (by omega)
                  clear hr HA
                  generalize P * k = M at *
                  go_wp2
                  exact ⟨⟨q + 1, A + P, by go_num, HA2, by omega, hle2⟩, by simp [intOf]; omega⟩
      · have HE := (show Hid (PeriodOut n f P 0) from .inr ⟨HO.out, HI.out.1.done (fun x hx => HI.out.2.2 x (by omega)) hP⟩)
        clear HI
        go_wp2
        go_ret2
        exact ⟨_, _, rfl, HE.out, hb⟩
  · have HE := (show Hid (PeriodOut n f 0 (ordE n f)) from .inl ⟨by simpa using h0, rfl, rfl⟩)
    obtain ⟨a, cap, rfl, hm⟩ := hv.len
    generalize ordE n f = E at *
    have h4 : (E == 0) = false := by simpa using h0
    clear hv h0
    go_enter Try.func22, Try.ntmps22
    go_wp2_with (first | (go_at_call 16; refine HW.out.mono ?_; rintro e W1 ⟨rfl, hb1⟩))
    go_ret2
    exact ⟨0, E, rfl, HE.out, hb1⟩
end Go.Proofs.Ytennpknkcaeafac
