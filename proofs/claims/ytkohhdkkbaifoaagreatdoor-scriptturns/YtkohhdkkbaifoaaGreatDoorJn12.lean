/-
  Several texts, joined: SStab, SBy.
-/
import Derived.Test.YtkohhdkkbaifoaaGreatDoorSSym
import Derived.Test.YtkohhdkkbaifoaaGreatDoorJn9
/-
  Contracts of slices.stableCmpFunc and slices.SortStableFunc.
-/
namespace Go.Proofs.YtkohhdkkbaifoaaGreatDoor
open Go.RowKit PK Sm

/-- Ahead of a, blocks of bs places stand in order each. -/
def BlA (K : Int → Int) (bs a : Nat) (d : Nat → Int) : Prop := ∀ p q, p < q → q < a → p / bs = q / bs → LL K (d p) (d q)
/-- From a on, blocks of bs places stand in order each. -/
def BlB (K : Int → Int) (n bs a : Nat) (d : Nat → Int) : Prop := ∀ p q, a ≤ p → p < q → q < n → p / bs = q / bs → LL K (d p) (d q)
theorem blA_step {K : Int → Int} {n bs a b : Nat} {d d' : Nat → Int} (h0 : 0 < bs) (hd : bs ∣ a) (h : BlA K bs a d) (h' : Done K n a b d d') : BlA K bs b d' := by
  intro p q hpq hq he
  by_cases c : q < a
  · rw [h'.mv.out p (by omega), h'.mv.out q (by omega)]
    exact h p q hpq c he
  · by_cases c2 : p < a
    · have h1 := div_less h0 hd c2
      have h2 := div_more (bs := bs) (show a ≤ q by omega)
      omega
    · exact h'.srt p q (by omega) hpq hq
theorem blB_step {K : Int → Int} {n bs a b : Nat} {d d' : Nat → Int} (hab : a ≤ b) (h : BlB K n bs a d) (h' : Done K n a b d d') : BlB K n bs b d' := by
  intro p q hp hpq hq he
  rw [h'.mv.out p (by omega), h'.mv.out q (by omega)]
  exact h p q (by omega) hpq hq he
theorem blB_srt {K : Int → Int} {n bs a x y : Nat} {d : Nat → Int} (h0 : 0 < bs) (hd : bs ∣ x) (h : BlB K n bs a d) (hax : a ≤ x) (hy : y ≤ x + bs) (hyn : y ≤ n) : Srt K d x y := fun p q hp hpq hq =>
  h p q (by omega) hpq (by omega) ((div_same h0 hd hp (by omega)).trans (div_same h0 hd (by omega) (by omega)).symm)
theorem bl_all {K : Int → Int} {n bs : Nat} {d : Nat → Int} (h : BlA K bs n d) (hn : n ≤ bs) : Srt K d 0 n := fun p q _ hpq hq =>
  h p q hpq hq (by rw [Nat.div_eq_of_lt (by omega), Nat.div_eq_of_lt (by omega)])
theorem Done.refl' {K : Int → Int} {n a b : Nat} {d : Nat → Int} (h1 : Stab K n d) (h2 : Srt K d a b) : Done K n a b d d := ⟨Mv.refl _ _ _, h1, h2⟩
set_option maxRecDepth 100000 in
set_option maxHeartbeats 4000000 in
theorem stable_any (g : Nat) (cb : Array Value) (K : Int → Int) (hent : ∀ (args : Array Value) (W : World), (callFunc g args).run Tryz.prog W = .ok (.enter g args) W) (G cap n : Nat) (hn : n ≤ 65536) (w0 : World) (hcmp : CmpOK g cb K n w0 G) (d : Nat → Int) (w : World) (hgb : w0.grownBy w (some G)) (hr : RowAt w G 3 (ints n d)) (hin : InR n d) (hst : Stab K n d) :
    Calls Tryz.prog 234 #[.slice (some ⟨G, 0, none⟩) n cap, .int .i64 (n : Nat), .func (.func g) #[] cb] w fun e w' => ∃ d', e = .returned (.tuple #[]) ∧ RowAt w' G 3 (ints n d') ∧ w0.grownBy w' (some G) ∧ Done K n 0 n d d' := by
  have HINS := (show Hid (∀ (a b : Nat) (e : Nat → Int) (W : World), a ≤ b → b ≤ n → w0.grownBy W (some G) → RowAt W G 3 (ints n e) → InR n e → Stab K n e → Calls Tryz.prog 255 #[.slice (some ⟨G, 0, none⟩) n cap, .int .i64 (a : Nat), .int .i64 (b : Nat), .func (.func g) #[] cb] W fun e1 w' => ∃ d', e1 = .returned (.tuple #[]) ∧ RowAt w' G 3 (ints n d') ∧ w0.grownBy w' (some G) ∧ Done K n a b e d') from fun a b e W h1 h2 h3 h4 h5 h6 => insertion_any g cb K hent G cap n e a b h1 h2 hn w0 W hcmp h3 h4 h5 h6)
  have HSYM := (show Hid (∀ (a m b : Nat) (e : Nat → Int) (W : World), a < m → m < b → b ≤ n → w0.grownBy W (some G) → RowAt W G 3 (ints n e) → InR n e → Stab K n e → Srt K e a m → Srt K e m b → Calls Tryz.prog 256 #[.slice (some ⟨G, 0, none⟩) n cap, .int .i64 (a : Nat), .int .i64 (m : Nat), .int .i64 (b : Nat), .func (.func g) #[] cb] W fun e1 w' => ∃ d', e1 = .returned (.tuple #[]) ∧ RowAt w' G 3 (ints n d') ∧ w0.grownBy w' (some G) ∧ Done K n a b e d') from fun a m b e W h1 h2 h3 h4 h5 h6 h7 h8 h9 => symMerge_any g cb K hent G cap n hn w0 hcmp (b - a) a m b e W (Nat.le_refl _) h1 h2 h3 h4 h5 h6 h7 h8 h9)
  have HIN := (show Hid (InR n d) from hin)
  have HST := (show Hid (Stab K n d) from hst)
  clear hcmp hin hst
  go_enter Tryz.func234, Tryz.ntmps234
  go_wp2
  go_loopw [7, 8] (fun x y W => ∃ (t : Nat) (e : Nat → Int), x = .int .i64 ((20 * t : Nat) : Int) ∧ y = .int .i64 ((20 * t + 20 : Nat) : Int) ∧ 20 * t ≤ n ∧ Hid (Mv 0 n d e ∧ Stab K n e ∧ BlA K 20 (20 * t) e) ∧ RowAt W G 3 (ints n e) ∧ w0.grownBy W (some G)) (fun x _ _ => ((n : Int) - intOf x).toNat)
  case atStart => exact ⟨0, d, rfl, rfl, by omega, ⟨Mv.refl _ _ _, HST.out, fun p q h1 h2 => by omega⟩, hr, hgb⟩
  case round =>
    clear hr hgb
    obtain ⟨t, e, rfl, rfl, h1, HI, ro, hb⟩ := hrel
    have HT : Hid (20 ∣ 20 * t) := Nat.dvd_mul_right _ _
    obtain ⟨a, ha⟩ : ∃ a, a = 20 * t := ⟨_, rfl⟩
    have HA : Hid (a = 20 * t) := ha
    rw [← ha] at h1 HI HT ⊢
    clear ha
    obtain ⟨b, hb'⟩ : ∃ b, b = a + 20 := ⟨_, rfl⟩
    have HB : Hid (b = a + 20) := hb'
    have hab : a ≤ b := by omega
    have hbb : b ≤ 70000 := by omega
    rw [← hb']
    clear hb'
    by_cases hlt : b ≤ n
    · have HC := HINS.out a b e wr hab hlt hb ro (Mv.inR HI.out.1 (Nat.le_refl n) HIN.out) HI.out.2.1
      have HC := (show Hid (Calls Tryz.prog 255 #[.slice (some ⟨G, 0, none⟩) n cap, .int .i64 (a : Nat), .int .i64 (b : Nat), .func (.func g) #[] cb] wr fun e1 w' => ∃ d', e1 = .returned (.tuple #[]) ∧ RowAt w' G 3 (ints n d') ∧ w0.grownBy w' (some G) ∧ Done K n a b e d') from HC)
      go_wp2_with fail
      refine Calls.mono HC.out ?_
      rintro e1 W1 ⟨d1, rfl, ro1, hb1, hd1⟩
      have HN := (show Hid (Mv 0 n d d1 ∧ Stab K n d1 ∧ BlA K 20 (20 * (t + 1)) d1) from ⟨HI.out.1.trans (hd1.mv.wide (by omega) (by omega)), hd1.stab, by
        have := blA_step (by decide) HT.out HI.out.2.2 hd1
        rw [show 20 * (t + 1) = b by have := HA.out; have := HB.out; omega]
        exact this⟩)
      have HBT : Hid (b = 20 * (t + 1)) := by rw [Hid]; have := HA.out; have := HB.out; omega
      clear hd1 HC
      go_wp2
      go_roundw
      case rel => exact ⟨t + 1, d1, by rw [HBT.out], by rw [show ((20 * (t + 1) + 20 : Nat) : Int) = ((b : Nat) : Int) + 20 by have := HBT.out; omega], by have := HBT.out; omega, HN, ro1, hb1⟩
      case measure => have := HA.out; have := HB.out; simp [intOf]; omega
    · have HC := (show Hid (Calls Tryz.prog 255 #[.slice (some ⟨G, 0, none⟩) n cap, .int .i64 (a : Nat), .int .i64 (n : Nat), .func (.func g) #[] cb] wr fun e1 w' => ∃ d', e1 = .returned (.tuple #[]) ∧ RowAt w' G 3 (ints n d') ∧ w0.grownBy w' (some G) ∧ Done K n a n e d') from HINS.out a n e wr h1 (Nat.le_refl n) hb ro (Mv.inR HI.out.1 (Nat.le_refl n) HIN.out) HI.out.2.1)
      go_wp2_with fail
      refine Calls.mono HC.out ?_
      rintro e1 W1 ⟨d1, rfl, ro1, hb1, hd1⟩
      have HN := (show Hid (Mv 0 n d d1 ∧ Stab K n d1 ∧ BlA K 20 n d1) from ⟨HI.out.1.trans (hd1.mv.wide (by omega) (by omega)), hd1.stab, blA_step (by decide) HT.out HI.out.2.2 hd1⟩)
      clear hd1 HC HI ro hb HINS
      go_wp2
      go_loopw [6] (fun x W => ∃ (bs : Nat) (e : Nat → Int), x = .int .i64 (bs : Nat) ∧ 0 < bs ∧ bs ≤ 131072 ∧ Hid (Mv 0 n d e ∧ Stab K n e ∧ BlA K bs n e) ∧ RowAt W G 3 (ints n e) ∧ w0.grownBy W (some G)) (fun x _ => (262144 - intOf x).toNat)
      case atStart => exact ⟨20, d1, rfl, by omega, by omega, HN, ro1, hb1⟩
      case round =>
        clear HN ro1 hb1 HT HA HB hab hbb hlt h1
        obtain ⟨bs, e2, rfl, hb0, hbs, HI, ro, hb⟩ := hrel
        by_cases hlt : bs < n
        · obtain ⟨b2, hb2⟩ : ∃ b2, b2 = 2 * bs := ⟨_, rfl⟩
          have eb2 : (2 : Int) * ((bs : Nat) : Int) = ((b2 : Nat) : Int) := by omega
          have eb2' : ((bs : Nat) : Int) * 2 = ((b2 : Nat) : Int) := by omega
          have HB2 : Hid (b2 = 2 * bs) := hb2
          have hb2b : b2 ≤ 131072 := by omega
          have hb2c : bs < b2 := by omega
          clear hb2
          go_wp2
          go_loopw [7, 8] (fun x y W => ∃ (t a b : Nat) (e : Nat → Int), x = .int .i64 (a : Nat) ∧ y = .int .i64 (b : Nat) ∧ a ≤ n ∧ Hid (a = b2 * t ∧ b = a + b2) ∧ Hid (Mv 0 n d e ∧ Stab K n e ∧ BlA K b2 a e ∧ BlB K n bs a e) ∧ RowAt W G 3 (ints n e) ∧ w0.grownBy W (some G)) (fun x _ _ => ((n : Int) - intOf x).toNat)
          case atStart => exact ⟨0, 0, b2, e2, rfl, rfl, by omega, ⟨by omega, by omega⟩, ⟨HI.out.1, HI.out.2.1, fun p q _ h => by omega, fun p q _ h1 h2 h3 => HI.out.2.2 p q h1 h2 h3⟩, ro, hb⟩
          case round =>
            clear HI ro hb
            obtain ⟨t, a, b, e, rfl, rfl, h1, HAB, HI, ro, hb⟩ := hrel
            have HDV : Hid (bs ∣ a ∧ bs ∣ a + bs ∧ b2 ∣ a) := by
              have h1 : bs ∣ a := by rw [HAB.out.1, HB2.out, Nat.mul_assoc, Nat.mul_left_comm]; exact Nat.dvd_mul_right _ _
              exact ⟨h1, Nat.dvd_add h1 (Nat.dvd_refl _), by rw [HAB.out.1]; exact Nat.dvd_mul_right _ _⟩
            obtain ⟨m, hm⟩ : ∃ m, m = a + bs := ⟨_, rfl⟩
            have em : ((a : Nat) : Int) + ((bs : Nat) : Int) = ((m : Nat) : Int) := by omega
            have HM : Hid (m = a + bs) := hm
            have ham : a < m := by omega
            have hmb : m < b := by have := HAB.out.2; have := HB2.out; omega
            have hbb : b ≤ 200000 := by have := HAB.out.2; omega
            clear hm
            by_cases hlt2 : b ≤ n
            · have HC := (show Hid (Calls Tryz.prog 256 #[.slice (some ⟨G, 0, none⟩) n cap, .int .i64 (a : Nat), .int .i64 (m : Nat), .int .i64 (b : Nat), .func (.func g) #[] cb] wr fun e1 w' => ∃ d', e1 = .returned (.tuple #[]) ∧ RowAt w' G 3 (ints n d') ∧ w0.grownBy w' (some G) ∧ Done K n a b e d') from HSYM.out a m b e wr ham hmb hlt2 hb ro (Mv.inR HI.out.1 (Nat.le_refl n) HIN.out) HI.out.2.1 (by rw [HM.out]; exact blB_srt hb0 HDV.out.1 HI.out.2.2.2 (Nat.le_refl a) (Nat.le_refl _) (by have := HM.out; omega)) (by rw [HM.out]; exact blB_srt hb0 HDV.out.2.1 HI.out.2.2.2 (by omega) (by have := HAB.out.2; have := HB2.out; omega) hlt2))
              obtain ⟨b', hb''⟩ : ∃ b', b' = b + b2 := ⟨_, rfl⟩
              have ebb : ((b : Nat) : Int) + ((b2 : Nat) : Int) = ((b' : Nat) : Int) := by omega
              have HB' : Hid (b' = b + b2) := hb''
              clear hb''
              go_wp2_with fail
              refine Calls.mono HC.out ?_
              rintro e1 W1 ⟨d2, rfl, ro1, hb1, hd1⟩
              have HN := (show Hid (Mv 0 n d d2 ∧ Stab K n d2 ∧ BlA K b2 b d2 ∧ BlB K n bs b d2) from ⟨HI.out.1.trans (hd1.mv.wide (by omega) (by omega)), hd1.stab, blA_step (by omega) HDV.out.2.2 HI.out.2.2.1 hd1, blB_step (by omega) HI.out.2.2.2 hd1⟩)
              have HAB2 : Hid (b = b2 * (t + 1) ∧ b' = b + b2) := ⟨by rw [HAB.out.2, HAB.out.1, Nat.mul_succ], HB'.out⟩
              clear hd1 HC
              go_wp2
              go_roundw
              case rel => exact ⟨t + 1, b, b', d2, rfl, rfl, by omega, HAB2, HN, ro1, hb1⟩
              case measure => simp [intOf]; omega
            · by_cases hmn : m < n
              · have HC := (show Hid (Calls Tryz.prog 256 #[.slice (some ⟨G, 0, none⟩) n cap, .int .i64 (a : Nat), .int .i64 (m : Nat), .int .i64 (n : Nat), .func (.func g) #[] cb] wr fun e1 w' => ∃ d', e1 = .returned (.tuple #[]) ∧ RowAt w' G 3 (ints n d') ∧ w0.grownBy w' (some G) ∧ Done K n a n e d') from HSYM.out a m n e wr ham hmn (Nat.le_refl n) hb ro (Mv.inR HI.out.1 (Nat.le_refl n) HIN.out) HI.out.2.1 (by rw [HM.out]; exact blB_srt hb0 HDV.out.1 HI.out.2.2.2 (Nat.le_refl a) (Nat.le_refl _) (by have := HM.out; omega)) (by rw [HM.out]; exact blB_srt hb0 HDV.out.2.1 HI.out.2.2.2 (by omega) (by have := HAB.out.2; have := HB2.out; omega) (Nat.le_refl n)))
                go_wp2_with fail
                refine Calls.mono HC.out ?_
                rintro e1 W1 ⟨d2, rfl, ro1, hb1, hd1⟩
                have HN := (show Hid (Mv 0 n d d2 ∧ Stab K n d2 ∧ BlA K b2 n d2) from ⟨HI.out.1.trans (hd1.mv.wide (by omega) (by omega)), hd1.stab, blA_step (by omega) HDV.out.2.2 HI.out.2.2.1 hd1⟩)
                clear hd1 HC
                go_wp2
                go_roundw
                case rel => exact ⟨b2, d2, rfl, by omega, by omega, HN, ro1, hb1⟩
                case measure => simp [intOf]; omega
              · have HN := (show Hid (Mv 0 n d e ∧ Stab K n e ∧ BlA K b2 n e) from ⟨HI.out.1, HI.out.2.1, blA_step (by omega) HDV.out.2.2 HI.out.2.2.1 (Done.refl' (n := n) HI.out.2.1 (blB_srt hb0 HDV.out.1 HI.out.2.2.2 (Nat.le_refl a) (by have := HM.out; omega) (Nat.le_refl n)))⟩)
                go_wp2
                go_roundw
                case rel => exact ⟨b2, e, rfl, by omega, by omega, HN, ro, hb⟩
                case measure => simp [intOf]; omega
        · have HD := (show Hid (Done K n 0 n d e2) from ⟨HI.out.1, HI.out.2.1, bl_all HI.out.2.2 (by omega)⟩)
          clear HI
          go_wp2
          go_end0
          exact ⟨e2, rfl, ro, hb, HD.out⟩
set_option maxHeartbeats 1000000 in
theorem sortStable_any (g : Nat) (cb : Array Value) (K : Int → Int) (hent : ∀ (args : Array Value) (W : World), (callFunc g args).run Tryz.prog W = .ok (.enter g args) W) (G cap n : Nat) (hn : n ≤ 65536) (w : World) (hcmp : CmpOK g cb K n w G) (d : Nat → Int) (hr : RowAt w G 3 (ints n d)) (hin : InR n d) (hst : Stab K n d) :
    Calls Tryz.prog 208 #[.slice (some ⟨G, 0, none⟩) n cap, .func (.func g) #[] cb] w fun e w' => ∃ d', e = .returned (.tuple #[]) ∧ RowAt w' G 3 (ints n d') ∧ w.grownBy w' (some G) ∧ Done K n 0 n d d' := by
  have HC := (show Hid (Calls Tryz.prog 234 #[.slice (some ⟨G, 0, none⟩) n cap, .int .i64 (n : Nat), .func (.func g) #[] cb] w fun e w' => ∃ d', e = .returned (.tuple #[]) ∧ RowAt w' G 3 (ints n d') ∧ w.grownBy w' (some G) ∧ Done K n 0 n d d') from stable_any g cb K hent G cap n hn w hcmp d w (gb_refl _ _) hr hin hst)
  clear hcmp hin hst hr
  go_enter Tryz.func208, Tryz.ntmps208
  go_wp2_with fail
  refine Calls.mono HC.out ?_
  rintro e1 W1 ⟨d2, rfl, ro1, hb1, hd1⟩
  go_wp2
  go_end0
  exact ⟨d2, rfl, ro1, hb1, hd1⟩
end Go.Proofs.YtkohhdkkbaifoaaGreatDoor

/-
  Contracts of cmp.Compare, of rails.sortedBy's closure and of rails.sortedBy.
-/
namespace Go.Proofs.YtkohhdkkbaifoaaGreatDoor
open Go.RowKit PK Sm

/-- The first m places hold themselves. -/
def fillN (m : Nat) : Nat → Int := fun i => if i < m then (i : Int) else 0
theorem fillN_zero : fillN 0 = fun _ => 0 := by funext i; unfold fillN; rw [if_neg (by omega)]
theorem fillN_step (m : Nat) : upd (fillN m) m (m : Int) = fillN (m + 1) := by
  funext i
  unfold upd fillN
  by_cases h : i = m
  · rw [if_pos h, if_pos (by omega), h]
  · rw [if_neg h]
    by_cases h2 : i < m
    · rw [if_pos h2, if_pos (by omega)]
    · rw [if_neg h2, if_neg (by omega)]
theorem isNaNI_any (x : Int) (w : World) : Calls Tryz.prog 235 #[.int .i64 x] w fun e w' => e = .returned (.bool false) ∧ w = w' := by
  go_enter Tryz.func235, Tryz.ntmps235
  go_wp2
  go_ret
  exact ⟨rfl, rfl⟩
set_option maxHeartbeats 1000000 in
theorem compareI_any (x y : Int) (w : World) : Calls Tryz.prog 210 #[.int .i64 x, .int .i64 y] w fun e w' => e = .returned (.int .i64 (cmpV x y)) ∧ w' = w := by
  by_cases h1 : x < y
  · rw [cmpV_lt h1]
    go_enter Tryz.func210, Tryz.ntmps210
    go_wp2_with (go_at_call 235; refine (isNaNI_any _ _).mono ?_; rintro e w' ⟨rfl, rfl⟩)
    go_ret
    exact ⟨rfl, rfl⟩
  · by_cases h2 : y < x
    · have HV : Hid (cmpV x y = 1) := by rw [Hid]; unfold cmpV; rw [if_neg h1, if_pos h2]
      go_enter Tryz.func210, Tryz.ntmps210
      go_wp2_with (go_at_call 235; refine (isNaNI_any _ _).mono ?_; rintro e w' ⟨rfl, rfl⟩)
      go_ret
      exact ⟨ret_int HV.out.symm, rfl⟩
    · have HV : Hid (cmpV x y = 0) := by rw [Hid]; unfold cmpV; rw [if_neg h1, if_neg h2]
      go_enter Tryz.func210, Tryz.ntmps210
      go_wp2_with (go_at_call 235; refine (isNaNI_any _ _).mono ?_; rintro e w' ⟨rfl, rfl⟩)
      go_ret
      exact ⟨ret_int HV.out.symm, rfl⟩
/-- In every world in which all that lay in w lies as it did, kf tells the key K of a place below n. -/
def KeyOKI (kf : Nat) (kb : Array Value) (K : Int → Int) (n : Nat) (w : World) : Prop :=
  ∀ W, Below w.heap.size w W → ∀ x : Int, 0 ≤ x → x < n → Calls Tryz.prog kf (#[.int .i64 x] ++ kb) W fun e w' => e = .returned (.int .i64 (K x)) ∧ ∃ q, w' = W.drewN q
theorem below_drewN {B : Nat} {a w : World} (h : Below B a w) (k : Nat) : Below B a (w.drewN k) := ⟨h.os, h.tape, h.output, h.size, h.block⟩
set_option maxRecDepth 100000 in
set_option maxHeartbeats 2000000 in
theorem closureI_any (kf : Nat) (kb : Array Value) (K : Int → Int) (hent : ∀ (args : Array Value) (W : World), (callFunc kf args).run Tryz.prog W = .ok (.enter kf args) W) (n : Nat) (w0 W : World) (hk : KeyOKI kf kb K n w0) (hW : Below w0.heap.size w0 W) (B : Nat) (hB : W.cell? ⟨B, 0, none⟩ = some (.func (.func kf) #[] kb)) (x y : Int) (hx0 : 0 ≤ x) (hx1 : x < n) (hy0 : 0 ≤ y) (hy1 : y < n) :
    Calls Tryz.prog 209 #[.int .i64 x, .int .i64 y, .pointer (some ⟨B, 0, none⟩)] W fun e w' => e = .returned (.int .i64 (cmpV (K x) (K y))) ∧ ∃ q, w' = W.drewN q := by
  have hkey : ∀ z : Int, 0 ≤ z → z < n → ∀ k, Calls Tryz.prog kf (#[.int .i64 z] ++ kb) (W.drewN k) fun e w' => e = .returned (.int .i64 (K z)) ∧ ∃ q, w' = (W.drewN k).drewN q := fun z h0 h1 k => hk _ (below_drewN hW k) z h0 h1
  have hcp : ∀ u v : Int, ∀ k, Calls Tryz.prog 210 #[.int .i64 u, .int .i64 v] (W.drewN k) fun e w' => e = .returned (.int .i64 (cmpV u v)) ∧ w' = W.drewN k := fun u v k => compareI_any u v _
  clear hk
  go_enter Tryz.func209, Tryz.ntmps209
  go_wp2_with fail
  go_quiet (first
    | (go_at_fn kf; refine Calls.quiet_of (hkey _ (by assumption) (by assumption) _))
    | (go_at_call 210; refine Calls.quiet_of_same (hcp _ _ _)))
  go_wp2
  go_ret
  exact ⟨rfl, nq, rfl⟩
set_option maxRecDepth 100000 in
set_option maxHeartbeats 2000000 in
theorem sortedByI_any (kf : Nat) (kb : Array Value) (K : Int → Int) (hent : ∀ (args : Array Value) (W : World), (callFunc kf args).run Tryz.prog W = .ok (.enter kf args) W) (n : Nat) (hn : n ≤ 65536) (w : World) (hk : KeyOKI kf kb K n w) :
    Calls Tryz.prog 169 #[.int .i64 (n : Nat), .func (.func kf) #[] kb] w fun e w' => ∃ d', e = .returned (.slice (some ⟨w.heap.size + 1, 0, none⟩) n n) ∧ RowAt w' (w.heap.size + 1) 3 (ints n d') ∧ Below w.heap.size w w' ∧ Order n d' ∧ Srt K d' 0 n := by
  have hmk := run_make_row' (P := Tryz.prog) 25 3 (.int .i64 0) 8 Tryz.underlying25 y_info_int rfl .i64 .i64 n (by omega) (by omega)
  rw [y_made_tab, ints_new] at hmk
  have hmf : ∀ (fn : Fn) (first cap : Array Value) (w : World), (Instr.makeFunc fn first cap).run Tryz.prog w = .ok (.func fn first cap) w := fun _ _ _ _ => rfl
  have HK := (show Hid (KeyOKI kf kb K n w) from hk)
  clear hk
  go_enter Tryz.func169, Tryz.ntmps169
  go_wp2
  go_loopw [10] (fun i W => ∃ m : Nat, m ≤ n ∧ i = .int .i64 m ∧ RowAt W (w.heap.size + 1) 3 (ints n (fillN m)) ∧ W.cell? ⟨w.heap.size, 0, none⟩ = some (.func (.func kf) #[] kb) ∧ Below w.heap.size w W) (fun i _ => ((n : Int) - intOf i).toNat)
  case atStart =>
    refine ⟨0, by omega, rfl, ?_, ?_, ((Below.refl _ _).alloc (Nat.le_refl _) _).alloc (by simp) _⟩
    · have := RowAt.new (w.alloc (.cells #[.func (.func kf) #[] kb] 142)) 3 (ints n fun _ => 0)
      simpa [fillN_zero] using this
    · simp
  case round =>
    obtain ⟨m, hm, rfl, ro, hcb, hb⟩ := hrel
    by_cases hlt : m < n
    · have hcx := ro.cell (ints_get (fillN m) hlt)
      have hfx := ro.frozen m
      have ro2 : RowAt (wr.setCell ⟨w.heap.size + 1, m, none⟩ (.int .i64 m)) (w.heap.size + 1) 3 (ints n (fillN (m + 1))) := by
        have := ro.set m (.int .i64 m)
        rw [ints_set, fillN_step] at this
        exact this
      have hbb := hb.setCell (p := ⟨w.heap.size + 1, m, none⟩) (by simp) (.int .i64 m)
      have hcb2 : (wr.setCell ⟨w.heap.size + 1, m, none⟩ (.int .i64 m)).cell? ⟨w.heap.size, 0, none⟩ = some (.func (.func kf) #[] kb) := (World.cell?_setCell_other _ _ _ _ (by simp)).trans hcb
      go_wp2
      exact ⟨⟨m + 1, by omega, by go_num, ro2, hcb2, hbb⟩, by simp [intOf]; omega⟩
    · obtain rfl : m = n := by omega
      have hro : RowAt wr (w.heap.size + 1) 3 (ints m fun i => (i : Int)) := by
        rw [ints_ext (f := fun i => (i : Int)) (g := fillN m) (fun i hi => by unfold fillN; rw [if_pos hi])]
        exact ro
      have hcmp : CmpOK 209 #[.pointer (some ⟨w.heap.size, 0, none⟩)] K m wr (w.heap.size + 1) := fun W hW x y hx0 hx1 hy0 hy1 => by
        refine closureI_any kf kb K hent m w W HK.out ?_ w.heap.size ?_ x y hx0 hx1 hy0 hy1
        · exact hb.trans (gb_to_below hW (by have := hb.size; omega) (by omega))
        · have h1 : w.heap.size < wr.heap.size := World.block_lt_of_cell? _ _ hcb
          rw [show W.cell? ⟨w.heap.size, 0, none⟩ = wr.cell? ⟨w.heap.size, 0, none⟩ from by
            have hbl := (gb_to_below (B := w.heap.size + 1) hW (by omega) (by omega))
            exact hbl.cell (p := ⟨w.heap.size, 0, none⟩) (by simp)]
          exact hcb
      have HS := (show Hid (Calls Tryz.prog 208 #[.slice (some ⟨w.heap.size + 1, 0, none⟩) m m, .func (.func 209) #[] #[.pointer (some ⟨w.heap.size, 0, none⟩)]] wr fun e w' => ∃ d', e = .returned (.tuple #[]) ∧ RowAt w' (w.heap.size + 1) 3 (ints m d') ∧ wr.grownBy w' (some (w.heap.size + 1)) ∧ Done K m 0 m (fun i => (i : Int)) d') from sortStable_any _ _ K (by intro args W; go_simp) (w.heap.size + 1) m m hn wr hcmp (fun i => (i : Int)) hro (fun i hi => (order_id m).lt i hi) (stab_id K m))
      clear hcmp
      go_wp2_with fail
      refine Calls.mono HS.out ?_
      rintro e W1 ⟨d', rfl, ro1, hb1, hd⟩
      go_wp2
      go_ret
      exact ⟨d', rfl, ro1, hb.trans (gb_to_below hb1 hb.size (by omega)), hd.mv.order (order_id m), hd.srt⟩
theorem isNaNB_any (x : Int) (w : World) : Calls Tryz.prog 236 #[.int .u8 x] w fun e w' => e = .returned (.bool false) ∧ w = w' := by
  go_enter Tryz.func236, Tryz.ntmps236
  go_wp2
  go_ret
  exact ⟨rfl, rfl⟩
set_option maxHeartbeats 1000000 in
theorem compareB_any (x y : Int) (w : World) : Calls Tryz.prog 212 #[.int .u8 x, .int .u8 y] w fun e w' => e = .returned (.int .i64 (cmpV x y)) ∧ w' = w := by
  by_cases h1 : x < y
  · rw [cmpV_lt h1]
    go_enter Tryz.func212, Tryz.ntmps212
    go_wp2_with (go_at_call 236; refine (isNaNB_any _ _).mono ?_; rintro e w' ⟨rfl, rfl⟩)
    go_ret
    exact ⟨rfl, rfl⟩
  · by_cases h2 : y < x
    · have HV : Hid (cmpV x y = 1) := by rw [Hid]; unfold cmpV; rw [if_neg h1, if_pos h2]
      go_enter Tryz.func212, Tryz.ntmps212
      go_wp2_with (go_at_call 236; refine (isNaNB_any _ _).mono ?_; rintro e w' ⟨rfl, rfl⟩)
      go_ret
      exact ⟨ret_int HV.out.symm, rfl⟩
    · have HV : Hid (cmpV x y = 0) := by rw [Hid]; unfold cmpV; rw [if_neg h1, if_neg h2]
      go_enter Tryz.func212, Tryz.ntmps212
      go_wp2_with (go_at_call 236; refine (isNaNB_any _ _).mono ?_; rintro e w' ⟨rfl, rfl⟩)
      go_ret
      exact ⟨ret_int HV.out.symm, rfl⟩
/-- In every world in which all that lay in w lies as it did, kf tells the key K of a place below n. -/
def KeyOKB (kf : Nat) (kb : Array Value) (K : Int → Int) (n : Nat) (w : World) : Prop :=
  ∀ W, Below w.heap.size w W → ∀ x : Int, 0 ≤ x → x < n → Calls Tryz.prog kf (#[.int .i64 x] ++ kb) W fun e w' => e = .returned (.int .u8 (K x)) ∧ ∃ q, w' = W.drewN q
set_option maxRecDepth 100000 in
set_option maxHeartbeats 2000000 in
theorem closureB_any (kf : Nat) (kb : Array Value) (K : Int → Int) (hent : ∀ (args : Array Value) (W : World), (callFunc kf args).run Tryz.prog W = .ok (.enter kf args) W) (n : Nat) (w0 W : World) (hk : KeyOKB kf kb K n w0) (hW : Below w0.heap.size w0 W) (B : Nat) (hB : W.cell? ⟨B, 0, none⟩ = some (.func (.func kf) #[] kb)) (x y : Int) (hx0 : 0 ≤ x) (hx1 : x < n) (hy0 : 0 ≤ y) (hy1 : y < n) :
    Calls Tryz.prog 211 #[.int .i64 x, .int .i64 y, .pointer (some ⟨B, 0, none⟩)] W fun e w' => e = .returned (.int .i64 (cmpV (K x) (K y))) ∧ ∃ q, w' = W.drewN q := by
  have hkey : ∀ z : Int, 0 ≤ z → z < n → ∀ k, Calls Tryz.prog kf (#[.int .i64 z] ++ kb) (W.drewN k) fun e w' => e = .returned (.int .u8 (K z)) ∧ ∃ q, w' = (W.drewN k).drewN q := fun z h0 h1 k => hk _ (below_drewN hW k) z h0 h1
  have hcp : ∀ u v : Int, ∀ k, Calls Tryz.prog 212 #[.int .u8 u, .int .u8 v] (W.drewN k) fun e w' => e = .returned (.int .i64 (cmpV u v)) ∧ w' = W.drewN k := fun u v k => compareB_any u v _
  clear hk
  go_enter Tryz.func211, Tryz.ntmps211
  go_wp2_with fail
  go_quiet (first
    | (go_at_fn kf; refine Calls.quiet_of (hkey _ (by assumption) (by assumption) _))
    | (go_at_call 212; refine Calls.quiet_of_same (hcp _ _ _)))
  go_wp2
  go_ret
  exact ⟨rfl, nq, rfl⟩
set_option maxRecDepth 100000 in
set_option maxHeartbeats 2000000 in
theorem sortedByB_any (kf : Nat) (kb : Array Value) (K : Int → Int) (hent : ∀ (args : Array Value) (W : World), (callFunc kf args).run Tryz.prog W = .ok (.enter kf args) W) (n : Nat) (hn : n ≤ 65536) (w : World) (hk : KeyOKB kf kb K n w) :
    Calls Tryz.prog 172 #[.int .i64 (n : Nat), .func (.func kf) #[] kb] w fun e w' => ∃ d', e = .returned (.slice (some ⟨w.heap.size + 1, 0, none⟩) n n) ∧ RowAt w' (w.heap.size + 1) 3 (ints n d') ∧ Below w.heap.size w w' ∧ Order n d' ∧ Srt K d' 0 n := by
  have hmk := run_make_row' (P := Tryz.prog) 25 3 (.int .i64 0) 8 Tryz.underlying25 y_info_int rfl .i64 .i64 n (by omega) (by omega)
  rw [y_made_tab, ints_new] at hmk
  have hmf : ∀ (fn : Fn) (first cap : Array Value) (w : World), (Instr.makeFunc fn first cap).run Tryz.prog w = .ok (.func fn first cap) w := fun _ _ _ _ => rfl
  have HK := (show Hid (KeyOKB kf kb K n w) from hk)
  clear hk
  go_enter Tryz.func172, Tryz.ntmps172
  go_wp2
  go_loopw [10] (fun i W => ∃ m : Nat, m ≤ n ∧ i = .int .i64 m ∧ RowAt W (w.heap.size + 1) 3 (ints n (fillN m)) ∧ W.cell? ⟨w.heap.size, 0, none⟩ = some (.func (.func kf) #[] kb) ∧ Below w.heap.size w W) (fun i _ => ((n : Int) - intOf i).toNat)
  case atStart =>
    refine ⟨0, by omega, rfl, ?_, ?_, ((Below.refl _ _).alloc (Nat.le_refl _) _).alloc (by simp) _⟩
    · have := RowAt.new (w.alloc (.cells #[.func (.func kf) #[] kb] 144)) 3 (ints n fun _ => 0)
      simpa [fillN_zero] using this
    · simp
  case round =>
    obtain ⟨m, hm, rfl, ro, hcb, hb⟩ := hrel
    by_cases hlt : m < n
    · have hcx := ro.cell (ints_get (fillN m) hlt)
      have hfx := ro.frozen m
      have ro2 : RowAt (wr.setCell ⟨w.heap.size + 1, m, none⟩ (.int .i64 m)) (w.heap.size + 1) 3 (ints n (fillN (m + 1))) := by
        have := ro.set m (.int .i64 m)
        rw [ints_set, fillN_step] at this
        exact this
      have hbb := hb.setCell (p := ⟨w.heap.size + 1, m, none⟩) (by simp) (.int .i64 m)
      have hcb2 : (wr.setCell ⟨w.heap.size + 1, m, none⟩ (.int .i64 m)).cell? ⟨w.heap.size, 0, none⟩ = some (.func (.func kf) #[] kb) := (World.cell?_setCell_other _ _ _ _ (by simp)).trans hcb
      go_wp2
      exact ⟨⟨m + 1, by omega, by go_num, ro2, hcb2, hbb⟩, by simp [intOf]; omega⟩
    · obtain rfl : m = n := by omega
      have hro : RowAt wr (w.heap.size + 1) 3 (ints m fun i => (i : Int)) := by
        rw [ints_ext (f := fun i => (i : Int)) (g := fillN m) (fun i hi => by unfold fillN; rw [if_pos hi])]
        exact ro
      have hcmp : CmpOK 211 #[.pointer (some ⟨w.heap.size, 0, none⟩)] K m wr (w.heap.size + 1) := fun W hW x y hx0 hx1 hy0 hy1 => by
        refine closureB_any kf kb K hent m w W HK.out ?_ w.heap.size ?_ x y hx0 hx1 hy0 hy1
        · exact hb.trans (gb_to_below hW (by have := hb.size; omega) (by omega))
        · have h1 : w.heap.size < wr.heap.size := World.block_lt_of_cell? _ _ hcb
          rw [show W.cell? ⟨w.heap.size, 0, none⟩ = wr.cell? ⟨w.heap.size, 0, none⟩ from by
            have hbl := (gb_to_below (B := w.heap.size + 1) hW (by omega) (by omega))
            exact hbl.cell (p := ⟨w.heap.size, 0, none⟩) (by simp)]
          exact hcb
      have HS := (show Hid (Calls Tryz.prog 208 #[.slice (some ⟨w.heap.size + 1, 0, none⟩) m m, .func (.func 211) #[] #[.pointer (some ⟨w.heap.size, 0, none⟩)]] wr fun e w' => ∃ d', e = .returned (.tuple #[]) ∧ RowAt w' (w.heap.size + 1) 3 (ints m d') ∧ wr.grownBy w' (some (w.heap.size + 1)) ∧ Done K m 0 m (fun i => (i : Int)) d') from sortStable_any _ _ K (by intro args W; go_simp) (w.heap.size + 1) m m hn wr hcmp (fun i => (i : Int)) hro (fun i hi => (order_id m).lt i hi) (stab_id K m))
      clear hcmp
      go_wp2_with fail
      refine Calls.mono HS.out ?_
      rintro e W1 ⟨d', rfl, ro1, hb1, hd⟩
      go_wp2
      go_ret
      exact ⟨d', rfl, ro1, hb.trans (gb_to_below hb1 hb.size (by omega)), hd.mv.order (order_id m), hd.srt⟩
end Go.Proofs.YtkohhdkkbaifoaaGreatDoor
