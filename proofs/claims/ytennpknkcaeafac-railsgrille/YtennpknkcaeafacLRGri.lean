/-
  RailsGrille, walked.
-/
import Derived.Test.YtennpknkcaeafacYGri
import Derived.Test.YtennpknkcaeafacYRail
namespace Go.Proofs.Ytennpknkcaeafac
open Go.RowKit PK Sm

/-- Do all places below k have one hole that comes to them? -/
def goodP (s : Nat) (h : Nat → Nat) (n k : Nat) : Bool := (List.range k).all fun p => Gm.ct s h n p 4 == 1
theorem goodP_step (s : Nat) (h : Nat → Nat) (n k : Nat) : goodP s h n (k + 1) = (goodP s h n k && Gm.ct s h n k 4 == 1) := by simp [goodP, List.range_succ, List.all_append]
theorem goodP_iff (s : Nat) (h : Nat → Nat) (n : Nat) (hh : ∀ j, j < n → h j < s * s) : goodP s h n (s * s) = true ↔ Gm.Right s h n := by
  rw [Gm.right_ct hh]
  simp [goodP]
set_option maxRecDepth 100000 in
set_option maxHeartbeats 8000000 in
theorem law_rgri (v : Value) (n : Nat) (hn : n ≤ 140737488355328) (f : Nat → Int) (sd : Int) (w : World) (hv : NumsAt w v n f) :
    Calls Try.prog 7 #[.int .i64 sd, v] w fun e w' => e = .returned (.bool true) ∧ Below w.heap.size w w' := by
  by_cases hside : sd < 2 ∨ 16 < sd ∨ sd % 2 ≠ 0
  · have HGR := (show Hid (∀ W, Below w.heap.size w W → Calls Try.prog 13 #[.int .i64 sd, v] W fun e w' => e = .returned (.tuple #[.slice none 0 0, .int .i64 3]) ∧ Below W.heap.size W w') from fun W hW => grille_side sd hside v n f W (hv.below hW))
    clear hv hside
    go_enter Try.func7, Try.ntmps7
    go_wp2_with (go_at_call 23; refine (alive_any _).mono ?_; rintro e W1 ⟨rfl, hb1⟩)
    refine Calls.mono (HGR.out _ hb1) ?_
    rintro e W2 ⟨rfl, hb2⟩
    go_wp2
    go_ret
    exact ⟨rfl, hb1.trans (hb2.mono hb1.size)⟩
  · obtain ⟨s, rfl⟩ : ∃ s : Nat, sd = s := ⟨sd.toNat, by omega⟩
    have h2 : 2 ≤ s := by omega
    have h16 : s ≤ 16 := by omega
    have hev : s % 2 = 0 := by omega
    have HGR := (show Hid (∀ W, Below w.heap.size w W → Calls Try.prog 13 #[.int .i64 (s : Nat), v] W fun e w' => GriOut n f s W.heap.size e w' ∧ Below W.heap.size W w') from fun W hW => grille_any v n f s h2 h16 hev W (hv.below hW))
    obtain ⟨a0, cap, rfl, hm, hc⟩ := hv
    have HC := (show Hid (∀ c, c < n → ∃ b o, a0 = some ⟨b, o, none⟩ ∧ w.cell? ⟨b, o + c, none⟩ = some (.int .i64 (f c))) from hc)
    clear hc hm hside hev
    go_enter Try.func7, Try.ntmps7
    go_wp2_with (go_at_call 23; refine (alive_any _).mono ?_; rintro e W1 ⟨rfl, hb1⟩)
    refine Calls.mono (HGR.out _ hb1) ?_
    rintro e W2 ⟨hout, hb2'⟩
    have hb2 := hb1.trans (hb2'.mono hb1.size)
    clear hb2' HGR
    rcases hout with ⟨rfl, _⟩ | ⟨hfr, hres⟩
    · go_wp2
      go_ret
      exact ⟨rfl, hb2⟩
    · obtain ⟨lv, E, rfl, hE, HRES⟩ : ∃ (lv : Value) (E : Int), e = .returned (.tuple #[lv, .int .i64 E]) ∧ (E == 3) = false ∧ Hid ((E = 8 ∧ ¬ Gm.Right s (natF f) n ∧ lv = .slice none 0 0) ∨ (E = 0 ∧ Gm.Right s (natF f) n ∧ ∃ (G : Nat) (d : Nat → Int), lv = .slice (some ⟨G, 0, none⟩) (s * s) (s * s) ∧ RowAt W2 G 3 (ints (s * s) d) ∧ Order (s * s) d)) := by
        rcases hres with ⟨hR, rfl⟩ | ⟨hR, G, d, rfl, ro, _, ho, _⟩
        · exact ⟨_, _, rfl, rfl, .inl ⟨rfl, hR, rfl⟩⟩
        · exact ⟨_, _, rfl, rfl, .inr ⟨rfl, hR, G, d, rfl, ro, ho⟩⟩
      have HH := (show Hid (∀ j, j < n → natF f j < s * s) from fun j hj => by have := hfr j hj; unfold natF; omega)
      have HF2 := (show Hid (∀ j, j < n → f j = (natF f j : Nat)) from fun j hj => by have := hfr j hj; unfold natF; omega)
      have HGD := (show Hid (goodP s (natF f) n (s * s) = true ↔ Gm.Right s (natF f) n) from goodP_iff s (natF f) n HH.out)
      clear hres hfr
      generalize natF f = h at *
      go_wp2
      go_loop [8, 7] (fun y g => ∃ Y : Nat, Y ≤ s ∧ y = .int .i64 Y ∧ g = .bool (goodP s h n (Y * s))) (fun y _ => ((s : Int) - intOf y).toNat)
      case atStart => exact ⟨0, by omega, rfl, by rw [Nat.zero_mul]; rfl⟩
      case round =>
        obtain ⟨Y, hY, rfl, rfl⟩ := hrel
        by_cases hYl : Y < s
        · go_wp2
          go_loop [9, 7] (fun x g => ∃ X : Nat, X ≤ s ∧ x = .int .i64 X ∧ g = .bool (goodP s h n (Y * s + X))) (fun x _ => ((s : Int) - intOf x).toNat)
          case atStart => exact ⟨0, by omega, rfl, by rw [Nat.add_zero]⟩
          case round =>
            obtain ⟨X, hX, rfl, rfl⟩ := hrel
            by_cases hXl : X < s
            · obtain ⟨p, hp⟩ : ∃ p, p = Y * s + X := ⟨_, rfl⟩
              have hps : p < s * s := by rw [hp]; exact Gm.place_lt hYl hXl
              have HPD := (show Hid (p / s = Y ∧ p % s = X ∧ p = Y * s + X) from ⟨by rw [hp]; exact (Gm.dm Y X hXl).1, by rw [hp]; exact (Gm.dm Y X hXl).2, hp⟩)
              have HST := (show Hid (goodP s h n (Y * s + (X + 1)) = (goodP s h n (Y * s + X) && Gm.ct s h n p 4 == 1)) from by rw [Hid, hp, ← goodP_step]; rfl)
              generalize goodP s h n (Y * s + X) = gd at *
              clear hp
              go_wp2
              go_loop [13, 10, 11, 12] (fun t c a b => ∃ (t' q A B : Nat), t' ≤ 4 ∧ t = .int .i64 t' ∧ c = .int .i64 (Gm.ct s h n p t' : Nat) ∧ a = .int .i64 (A : Nat) ∧ b = .int .i64 (B : Nat) ∧ A < s ∧ B < s ∧ Hid (q = Qm.it (Gm.tn s) t' p ∧ q < s * s ∧ q = A * s + B)) (fun t _ _ _ => (4 - intOf t).toNat)
              case atStart => exact ⟨0, p, Y, X, by omega, rfl, rfl, rfl, rfl, hYl, hXl, ⟨rfl, hps, HPD.out.2.2⟩⟩
              case round =>
                obtain ⟨t, q, A, B, ht, rfl, rfl, rfl, rfl, hA, hB, HQ⟩ := hrel
                by_cases ht4 : t < 4
                · obtain ⟨aS, has⟩ : ∃ aS, aS = A * s := ⟨_, rfl⟩
                  have e1 : ((A : Nat) : Int) * ((s : Nat) : Int) = ((aS : Nat) : Int) := by rw [has]; simp
                  have e2 : ((aS : Nat) : Int) + ((B : Nat) : Int) = ((q : Nat) : Int) := by have := HQ.out.2.2; omega
                  have hasb : aS ≤ 256 := by rw [has]; exact Nat.mul_le_mul (show A ≤ 16 by omega) h16
                  have hqb : q ≤ 256 := Nat.le_of_lt (Nat.lt_of_lt_of_le HQ.out.2.1 (Nat.mul_le_mul h16 h16))
                  have HQ2 := (show Hid (Gm.tn s q = Qm.it (Gm.tn s) (t + 1) p ∧ Gm.tn s q < s * s ∧ Gm.tn s q = B * s + (s - 1 - A)) from ⟨by rw [HQ.out.1]; rfl, Gm.tn_lt HQ.out.2.1, by rw [HQ.out.2.2]; exact Gm.tn_yx A B hB⟩)
                  have HCT := (show Hid (Gm.ct s h n p (t + 1) = Gm.ct s h n p t + Gm.ch h q n) from by rw [HQ.out.1]; rfl)
                  have hcb := Gm.ct_le s h n p t
                  have hcb2 : Gm.ct s h n p t ≤ 4 * n := Nat.le_trans hcb (Nat.mul_le_mul_right n (by omega))
                  generalize Gm.ct s h n p t = c0 at *
                  clear has hcb HQ
                  go_wp2
                  go_loop [53, 10] (fun i c => ∃ (j c1 : Nat), j ≤ n ∧ i = .int .i64 j ∧ c = .int .i64 ((c0 + c1 : Nat) : Int) ∧ c1 ≤ j ∧ Hid (c1 = Gm.ch h q j)) (fun i _ => ((n : Int) - intOf i).toNat)
                  case atStart => exact ⟨0, 0, by omega, rfl, rfl, by omega, rfl⟩
                  case round =>
                    obtain ⟨j, c1, hj, rfl, rfl, hc1, HC1⟩ := hrel
                    obtain ⟨c2, hc2⟩ : ∃ c2, c2 = c0 + c1 := ⟨_, rfl⟩
                    have HC2 : Hid (c2 = c0 + c1) := hc2
                    have hc2b : c2 ≤ 5 * n := by omega
                    rw [← hc2]
                    by_cases hjl : j < n
                    · obtain ⟨b, o, e9, hc0⟩ := HC.out j hjl
                      subst e9
                      have hcell := (hb2.cell (cell_block hc0)).trans hc0
                      rw [HF2.out j hjl] at hcell
                      have HCS := (show Hid (Gm.ch h q (j + 1) = Gm.ch h q j + (if h j = q then 1 else 0)) from rfl)
                      by_cases hq : h j = q
                      · have HV : Hid (c1 + 1 = Gm.ch h q (j + 1)) := by rw [Hid, HCS.out, if_pos hq, ← HC1.out]
                        have hd : (((h j : Nat) : Int) == ((q : Nat) : Int)) = true := beq_iff_eq.2 (by rw [hq])
                        generalize h j = x at hcell hd
                        clear hq HCS hc0 hc2
                        go_wp2
                        exact ⟨⟨j + 1, c1 + 1, by omega, by go_num, by rw [HC2.out]; go_num, by omega, HV⟩, by simp [intOf]; omega⟩
                      · have HV : Hid (c1 = Gm.ch h q (j + 1)) := by rw [Hid, HCS.out, if_neg hq, ← HC1.out]; rfl
                        have hd : (((h j : Nat) : Int) == ((q : Nat) : Int)) = false := beq_eq_false_iff_ne.2 (by omega)
                        generalize h j = x at hcell hd
                        clear hq HCS hc0 hc2
                        go_wp2
                        exact ⟨⟨j + 1, c1, by omega, by go_num, by rw [HC2.out], by omega, HV⟩, by simp [intOf]; omega⟩
                    · obtain rfl : j = n := by omega
                      have HV : Hid (c2 = Gm.ct s h j p (t + 1)) := by rw [Hid, HC2.out, HCT.out, HC1.out]
                      obtain ⟨A2, hA2⟩ : ∃ A2, A2 = s - 1 - A := ⟨_, rfl⟩
                      have e3 : ((s : Nat) : Int) - 1 - ((A : Nat) : Int) = ((A2 : Nat) : Int) := by omega
                      have HA2 : Hid (A2 = s - 1 - A) := hA2
                      have hA2s : A2 < s := by omega
                      clear hc2 hA2
                      go_wp2
                      go_round
                      case rel => exact ⟨t + 1, Gm.tn s q, B, A2, by omega, by go_num, by rw [HV.out], rfl, rfl, hB, hA2s, by have := HQ2.out; rw [← HA2.out] at this; exact this⟩
                      case measure => simp [intOf] <;> omega
                · obtain rfl : t = 4 := by omega
                  have hcb := Gm.ct_le s h n p 4
                  generalize Gm.ct s h n p 4 = c0 at *
                  cases gd with
                  | false =>
                    rw [Bool.false_and] at HST
                    go_wp2
                    go_round
                    case rel => exact ⟨X + 1, by omega, by go_num, by rw [HST.out]⟩
                    case measure => simp [intOf] <;> omega
                  | true =>
                    rw [Bool.true_and] at HST
                    by_cases hc1 : c0 = 1
                    · have HV : Hid (goodP s h n (Y * s + (X + 1)) = true) := by rw [Hid, HST.out, hc1]; rfl
                      subst hc1
                      clear HST
                      go_wp2
                      go_round
                      case rel => exact ⟨X + 1, by omega, by go_num, by rw [HV.out]⟩
                      case measure => simp [intOf] <;> omega
                    · have HV : Hid (goodP s h n (Y * s + (X + 1)) = false) := by rw [Hid, HST.out]; simpa using hc1
                      have hd : (((c0 : Nat) : Int) == 1) = false := by simp; omega
                      clear HST
                      go_wp2
                      go_round
                      case rel => exact ⟨X + 1, by omega, by go_num, by rw [HV.out]⟩
                      case measure => simp [intOf] <;> omega
            · obtain rfl : X = s := by omega
              have HV := (show Hid (goodP X h n (Y * X + X) = goodP X h n ((Y + 1) * X)) from by rw [Nat.succ_mul]; rfl)
              generalize goodP X h n (Y * X + X) = gd at *
              go_wp2
              go_round
              case rel => exact ⟨Y + 1, by omega, by go_num, by rw [HV.out]⟩
              case measure => simp [intOf] <;> omega
        · obtain rfl : Y = s := by omega
          obtain ⟨S, hS⟩ : ∃ S, S = Y * Y := ⟨_, rfl⟩
          have eS : ((Y : Nat) : Int) * ((Y : Nat) : Int) = ((S : Nat) : Int) := by rw [hS]; simp
          have hSb : S ≤ 256 := by rw [hS]; exact Nat.mul_le_mul h16 h16
          rcases HRES.out with ⟨rfl, hR, rfl⟩ | ⟨rfl, hR, G, d, hlv, ro, ho⟩
          · have hg : goodP Y h n (Y * Y) = false := by
              cases hx : goodP Y h n (Y * Y) with
              | false => rfl
              | true => exact absurd (HGD.out.1 hx) hR
            rw [hg]
            clear HRES HGD hS hR hg
            go_wp2
            go_ret
            exact ⟨rfl, hb2⟩
          · have hg : goodP Y h n (Y * Y) = true := HGD.out.2 hR
            rw [hg]
            rw [← hS] at hlv ro ho
            subst hlv
            have HW := (show Hid (Calls Try.prog 15 #[.slice (some ⟨G, 0, none⟩) S S] W2 fun e w' => e = .returned (.int .i64 0) ∧ Below W2.heap.size W2 w') from by
              have := wrong_any (.slice (some ⟨G, 0, none⟩) S S) S d W2 (NumsAt.of_row ro (by unfold maxLen; omega))
              rw [(ordE_zero S d).2 (GoodO.of_order ho (by omega))] at this
              exact this)
            clear HRES HGD hS hR hg ro ho
            go_wp2_with fail
            refine Calls.mono HW.out ?_
            rintro e W3 ⟨rfl, hb3⟩
            go_wp2
            go_ret
            exact ⟨rfl, hb2.trans (hb3.mono hb2.size)⟩
end Go.Proofs.Ytennpknkcaeafac
