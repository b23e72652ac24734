/-
  RailsPeriod, walked.
-/
import Derived.Test.YtennpknkcaeafacYRail
import Derived.Test.YtennpknkcaeafacYPer
namespace Go.Proofs.Ytennpknkcaeafac
open Go.RowKit PK Sm

def itF (f : Nat → Int) (t : Nat) : Nat → Int := fun i => (Qm.it (natF f) t i : Nat)
def mixF (f : Nat → Int) (t x : Nat) : Nat → Int := fun i => if i < x then itF f (t + 1) i else itF f t i
def sameP (f : Nat → Int) (t x : Nat) : Bool := (List.range x).all fun i => Qm.it (natF f) (t + 1) i == i
theorem sameP_iff (f : Nat → Int) (t x : Nat) : sameP f t x = true ↔ ∀ i, i < x → Qm.it (natF f) (t + 1) i = i := by simp [sameP]
theorem sameP_step (f : Nat → Int) (t x : Nat) : sameP f t (x + 1) = (sameP f t x && Qm.it (natF f) (t + 1) x == x) := by simp [sameP, List.range_succ, List.all_append]
theorem mixF_step (f : Nat → Int) (t x : Nat) : upd (mixF f t x) x (itF f (t + 1) x) = mixF f t (x + 1) := by
  funext i
  unfold upd mixF
  by_cases h : i = x
  · rw [if_pos h, if_pos (by omega), h]
  · rw [if_neg h]
    by_cases h2 : i < x
    · rw [if_pos h2, if_pos (by omega)]
    · rw [if_neg h2, if_neg (by omega)]
set_option maxRecDepth 100000 in
set_option maxHeartbeats 4000000 in
theorem law_rper (v : Value) (n : Nat) (f : Nat → Int) (w : World) (hv : NumsAt w v n f) :
    Calls Try.prog 6 #[v] w fun e w' => e = .returned (.bool true) ∧ Below w.heap.size w w' := by
  have HP := (show Hid (∀ W, Below w.heap.size w W → Calls Try.prog 21 #[v] W fun e w' => ∃ a E : Int, e = .returned (.tuple #[.int .i64 a, .int .i64 E]) ∧ PeriodOut n f a E ∧ Below W.heap.size W w') from fun W hW => period_any v n f W (hv.below hW))
  obtain ⟨a, cap, rfl, hm, hc⟩ := hv
  have HC := (show Hid (∀ c, c < n → ∃ b o, a = some ⟨b, o, none⟩ ∧ w.cell? ⟨b, o + c, none⟩ = some (.int .i64 (f c))) from hc)
  clear hc
  unfold maxLen at hm
  go_enter Try.func6, Try.ntmps6
  go_wp2_with (go_at_call 23; refine (alive_any _).mono ?_; rintro e W1 ⟨rfl, hb1⟩)
  refine Calls.mono (HP.out _ hb1) ?_
  rintro e W2 ⟨p, E, rfl, hp, hb2'⟩
  have hb2 := hb1.trans (hb2'.mono hb1.size)
  have hz2 := hb2.size
  have HPO := (show Hid (PeriodOut n f p E) from hp)
  clear hp hb2' HP
  by_cases hE : E = 0
  · subst hE
    obtain ⟨Q, hQ⟩ : ∃ Q : Nat, p = Q := by
      rcases HPO.out with ⟨h1, h2, h3⟩ | ⟨_, ⟨Q, h2, _⟩ | ⟨h2, h3, _⟩⟩
      · exact absurd h3.symm h1
      · exact ⟨Q, h2⟩
      · cases h3
    subst hQ
    by_cases hQ2 : 2000 < Q
    · go_wp2
      go_ret
      exact ⟨rfl, hb2⟩
    · by_cases hn : 100 < n
      · go_wp2
        go_ret
        exact ⟨rfl, hb2⟩
      · have hfacts : GoodO n f ∧ 0 < Q ∧ (∀ x, x < n → Qm.it (natF f) Q x = x) ∧ ∀ t, (∀ x, x < n → Qm.it (natF f) t x = x) → Q ∣ t := by
          rcases HPO.out with ⟨h1, h2, h3⟩ | ⟨h0, ⟨Q', h2, h3, h4, h5, h6, h7⟩ | ⟨h2, h3, _⟩⟩
          · exact absurd h3.symm h1
          · have : Q' = Q := by omega
            subst this
            exact ⟨(ordE_zero n f).1 h0, h5, h6, h7⟩
          · cases h3
        have HG := (show Hid (GoodO n f) from hfacts.1)
        have hQ0 := hfacts.2.1
        have HT := (show Hid (∀ t, t < Q → sameP f t n = decide (t + 1 = Q)) from fun t ht => by
          by_cases e : t + 1 = Q
          · rw [decide_eq_true e, sameP_iff, e]
            exact hfacts.2.2.1
          · rw [decide_eq_false e]
            cases hs : sameP f t n with
            | false => rfl
            | true =>
              have := Nat.le_of_dvd (by omega) (hfacts.2.2.2 (t + 1) ((sameP_iff _ _ _).1 hs))
              omega)
        clear hfacts HPO
        have hmk := run_make_row' (P := Try.prog) 22 3 (.int .i64 0) 8 Try.underlying22 y_info_int rfl .i64 .i64 n (by omega) (by omega)
        rw [y_made_tab, ints_new] at hmk
        go_wp2
        go_loopw [33] (fun i W => ∃ m : Nat, m ≤ n ∧ i = .int .i64 m ∧ RowAt W W2.heap.size 3 (ints n (fillN m)) ∧ Below w.heap.size w W) (fun i _ => ((n : Int) - intOf i).toNat)
        case atStart => exact ⟨0, by omega, rfl, by rw [fillN_zero]; exact RowAt.new W2 _ _, hb2.alloc hz2 _⟩
        case round =>
          obtain ⟨m, hm', rfl, ro, hb⟩ := hrel
          by_cases hlt : m < n
          · have hcx := ro.cell (ints_get (fillN m) hlt)
            have hfx := ro.frozen m
            have ro2 : RowAt (wr.setCell ⟨W2.heap.size, m, none⟩ (.int .i64 m)) W2.heap.size 3 (ints n (fillN (m + 1))) := by
              have := ro.set m (.int .i64 m)
              rw [ints_set, fillN_step] at this
              exact this
            have hbb := hb.setCell (p := ⟨W2.heap.size, m, none⟩) hz2 (.int .i64 m)
            go_wp2
            exact ⟨⟨m + 1, by omega, by go_num, ro2, hbb⟩, by simp [intOf]; omega⟩
          · have ro0 : RowAt wr W2.heap.size 3 (ints n (itF f 0)) := by
              rw [ints_ext (f := itF f 0) (g := fillN m) (fun i hi => by unfold fillN itF; rw [if_pos (by omega)]; rfl)]
              exact ro
            clear ro hmk hm'
            go_wp2
            go_loopw [7] (fun i W => ∃ t : Nat, t ≤ Q ∧ i = .int .i64 ((t + 1 : Nat) : Int) ∧ RowAt W W2.heap.size 3 (ints n (itF f t)) ∧ Below w.heap.size w W) (fun i _ => ((Q : Int) + 1 - intOf i).toNat)
            case atStart => exact ⟨0, by omega, rfl, ro0, hb⟩
            case round =>
              clear ro0 hb hlt
              obtain ⟨t, ht, rfl, ro, hb⟩ := hrel
              obtain ⟨t1, ht1⟩ : ∃ t1, t1 = t + 1 := ⟨_, rfl⟩
              have HT1 : Hid (t1 = t + 1) := ht1
              rw [← ht1]
              by_cases hlt : t < Q
              · have hlt1 : t1 ≤ Q := by omega
                clear ht1
                go_wp2
                go_loopw [48, 8] (fun i s W => ∃ x : Nat, x ≤ n ∧ i = .int .i64 x ∧ s = .bool (sameP f t x) ∧ RowAt W W2.heap.size 3 (ints n (mixF f t x)) ∧ Below w.heap.size w W) (fun i _ _ => ((n : Int) - intOf i).toNat)
                case atStart =>
                  refine ⟨0, by omega, rfl, rfl, ?_, hb⟩
                  rw [ints_ext (f := mixF f t 0) (g := itF f t) (fun i hi => by unfold mixF; rw [if_neg (by omega)])]
                  exact ro
                case round =>
                  clear ro hb
                  obtain ⟨x, hx, rfl, rfl, ro, hb⟩ := hrel
                  by_cases hxl : x < n
                  · obtain ⟨b, o, rfl, _⟩ := HC.out x hxl
                    have hy := Qm.it_lt HG.out.ord hxl t
                    have hz := Qm.it_lt HG.out.ord hxl (t + 1)
                    obtain ⟨b', o', e', hc0⟩ := HC.out _ hy
                    cases e'
                    have hc1 := (hb.cell (p := ⟨b, o + Qm.it (natF f) t x, none⟩) (cell_block hc0)).trans hc0
                    rw [natF_eq HG.out hy] at hc1
                    have hcx := ro.cell (ints_get (mixF f t x) hxl)
                    rw [show mixF f t x x = (Qm.it (natF f) t x : Nat) by unfold mixF; rw [if_neg (by omega)]; rfl] at hcx
                    have hfx := ro.frozen x
                    have ro2 : RowAt (wr.setCell ⟨W2.heap.size, x, none⟩ (.int .i64 (Qm.it (natF f) (t + 1) x : Nat))) W2.heap.size 3 (ints n (mixF f t (x + 1))) := by
                      have := ro.set x (.int .i64 (Qm.it (natF f) (t + 1) x : Nat))
                      rw [ints_set, show ((Qm.it (natF f) (t + 1) x : Nat) : Int) = itF f (t + 1) x from rfl, mixF_step] at this
                      exact this
                    have hbb := hb.setCell (p := ⟨W2.heap.size, x, none⟩) hz2 (.int .i64 (Qm.it (natF f) (t + 1) x : Nat))
                    have hcx2 := World.cell?_setCell_same wr ⟨W2.heap.size, x, none⟩ (.int .i64 (Qm.it (natF f) (t + 1) x : Nat)) hcx
                    have HSP := (show Hid (sameP f t (x + 1) = (sameP f t x && Qm.it (natF f) (t + 1) x == x)) from sameP_step f t x)
                    have hzz : Qm.it (natF f) (t + 1) x = natF f (Qm.it (natF f) t x) := rfl
                    rw [← hzz] at hc1
                    clear hzz hc0
                    generalize Qm.it (natF f) (t + 1) x = z at *
                    generalize Qm.it (natF f) t x = y at *
                    have hyn : (y : Int) < (n : Int) := by omega
                    cases hsp : sameP f t x with
                    | false =>
                      rw [hsp, Bool.false_and] at HSP
                      go_wp2
                      exact ⟨⟨x + 1, by omega, by go_num, by rw [HSP.out], ro2, hbb⟩, by simp [intOf]; omega⟩
                    | true =>
                      rw [hsp, Bool.true_and] at HSP
                      by_cases hzx : z = x
                      · have hd : (((z : Nat) : Int) == ((x : Nat) : Int)) = true := by simp; omega
                        have HV : Hid (sameP f t (x + 1) = true) := by rw [Hid, HSP.out]; simpa using hzx
                        clear hzx HSP
                        go_wp2
                        exact ⟨⟨x + 1, by omega, by go_num, by rw [HV.out], ro2, hbb⟩, by simp [intOf]; omega⟩
                      · have hd : (((z : Nat) : Int) == ((x : Nat) : Int)) = false := by simp; omega
                        have HV : Hid (sameP f t (x + 1) = false) := by rw [Hid, HSP.out]; simpa using hzx
                        clear hzx HSP
                        go_wp2
                        exact ⟨⟨x + 1, by omega, by go_num, by rw [HV.out], ro2, hbb⟩, by simp [intOf]; omega⟩
                  · obtain rfl : x = n := by omega
                    have hsp := HT.out t hlt
                    have ro3 : RowAt wr W2.heap.size 3 (ints x (itF f (t + 1))) := by
                      rw [ints_ext (f := itF f (t + 1)) (g := mixF f t x) (fun i hi => by unfold mixF; rw [if_pos hi])]
                      exact ro
                    rw [hsp]
                    clear hsp ro HC
                    by_cases hte : t + 1 = Q
                    · have hd : (((t1 : Nat) : Int) == ((Q : Nat) : Int)) = true := by have := HT1.out; simp; omega
                      rw [decide_eq_true hte]
                      clear hte
                      go_wp2
                      go_roundw
                      case rel => exact ⟨t + 1, by omega, by rw [HT1.out]; go_num, ro3, hb⟩
                      case measure => have := HT1.out; simp [intOf]; omega
                    · have hd : (((t1 : Nat) : Int) == ((Q : Nat) : Int)) = false := by have := HT1.out; simp; omega
                      rw [decide_eq_false hte]
                      clear hte
                      go_wp2
                      go_roundw
                      case rel => exact ⟨t + 1, by omega, by rw [HT1.out]; go_num, ro3, hb⟩
                      case measure => have := HT1.out; simp [intOf]; omega
              · have hlt1 : ¬ t1 ≤ Q := by omega
                have hQ1 : (1 : Int) ≤ (Q : Int) := by omega
                clear ht1
                go_wp2
                go_ret
                exact ⟨rfl, hb⟩
  · have h4 : (E != 0) = true := by simpa using hE
    clear hE HPO
    go_wp2
    go_ret
    exact ⟨rfl, hb2⟩
end Go.Proofs.Ytennpknkcaeafac
