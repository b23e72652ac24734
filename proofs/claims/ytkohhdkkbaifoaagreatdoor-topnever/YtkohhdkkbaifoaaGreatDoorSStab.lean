/-
  Contracts of slices.stableCmpFunc and slices.SortStableFunc.
-/
import Derived.Test.YtkohhdkkbaifoaaGreatDoorSSym
namespace Go.Proofs.YtkohhdkkbaifoaaGreatDoor
open Go.RowKit PK Sm

/-- Ahead of a, blocks of bs places stand in order each. -/
def BlA (K : Int → Int) (bs a : Nat) (d : Nat → Int) : Prop := ∀ p q, p < q → q < a → p / bs = q / bs → LL K (d p) (d q)
/-- From a on, blocks of bs places stand in order each. -/
def BlB (K : Int → Int) (n bs a : Nat) (d : Nat → Int) : Prop := ∀ p q, a ≤ p → p < q → q < n → p / bs = q / bs → LL K (d p) (d q)
theorem blA_step {K : Int → Int} {n bs a b : Nat} {d d' : Nat → Int} (h0 : 0 < bs) (hd : bs ∣ a) (h : BlA K bs a d) (h' : Done K n a b d d') : BlA K bs b d' := by
  intro p q hpq hq he
  by_cases c : q < a
  · rw [h'.mv.out p (by omega), h'.mv.out q (by omega)]
    exact h p q hpq c he
  · by_cases c2 : p < a
    · have h1 := div_less h0 hd c2
      have h2 := div_more (bs := bs) (show a ≤ q by omega)
      omega
    · exact h'.srt p q (by omega) hpq hq
theorem blB_step {K : Int → Int} {n bs a b : Nat} {d d' : Nat → Int} (hab : a ≤ b) (h : BlB K n bs a d) (h' : Done K n a b d d') : BlB K n bs b d' := by
  intro p q hp hpq hq he
  rw [h'.mv.out p (by omega), h'.mv.out q (by omega)]
  exact h p q (by omega) hpq hq he
theorem blB_srt {K : Int → Int} {n bs a x y : Nat} {d : Nat → Int} (h0 : 0 < bs) (hd : bs ∣ x) (h : BlB K n bs a d) (hax : a ≤ x) (hy : y ≤ x + bs) (hyn : y ≤ n) : Srt K d x y := fun p q hp hpq hq =>
  h p q (by omega) hpq (by omega) ((div_same h0 hd hp (by omega)).trans (div_same h0 hd (by omega) (by omega)).symm)
theorem bl_all {K : Int → Int} {n bs : Nat} {d : Nat → Int} (h : BlA K bs n d) (hn : n ≤ bs) : Srt K d 0 n := fun p q _ hpq hq =>
  h p q hpq hq (by rw [Nat.div_eq_of_lt (by omega), Nat.div_eq_of_lt (by omega)])
theorem Done.refl' {K : Int → Int} {n a b : Nat} {d : Nat → Int} (h1 : Stab K n d) (h2 : Srt K d a b) : Done K n a b d d := ⟨Mv.refl _ _ _, h1, h2⟩
set_option maxRecDepth 100000 in
set_option maxHeartbeats 4000000 in
theorem stable_any (g : Nat) (cb : Array Value) (K : Int → Int) (hent : ∀ (args : Array Value) (W : World), (callFunc g args).run Tryz.prog W = .ok (.enter g args) W) (G cap n : Nat) (hn : n ≤ 65536) (w0 : World) (hcmp : CmpOK g cb K n w0 G) (d : Nat → Int) (w : World) (hgb : w0.grownBy w (some G)) (hr : RowAt w G 3 (ints n d)) (hin : InR n d) (hst : Stab K n d) :
    Calls Tryz.prog 234 #[.slice (some ⟨G, 0, none⟩) n cap, .int .i64 (n : Nat), .func (.func g) #[] cb] w fun e w' => ∃ d', e = .returned (.tuple #[]) ∧ RowAt w' G 3 (ints n d') ∧ w0.grownBy w' (some G) ∧ Done K n 0 n d d' := by
  have HINS := (show Hid (∀ (a b : Nat) (e : Nat → Int) (W : World), a ≤ b → b ≤ n → w0.grownBy W (some G) → RowAt W G 3 (ints n e) → InR n e → Stab K n e → Calls Tryz.prog 255 #[.slice (some ⟨G, 0, none⟩) n cap, .int .i64 (a : Nat), .int .i64 (b : Nat), .func (.func g) #[] cb] W fun e1 w' => ∃ d', e1 = .returned (.tuple #[]) ∧ RowAt w' G 3 (ints n d') ∧ w0.grownBy w' (some G) ∧ Done K n a b e d') from fun a b e W h1 h2 h3 h4 h5 h6 => insertion_any g cb K hent G cap n e a b h1 h2 hn w0 W hcmp h3 h4 h5 h6)
  have HSYM := (show Hid (∀ (a m b : Nat) (e : Nat → Int) (W : World), a < m → m < b → b ≤ n → w0.grownBy W (some G) → RowAt W G 3 (ints n e) → InR n e → Stab K n e → Srt K e a m → Srt K e m b → Calls Tryz.prog 256 #[.slice (some ⟨G, 0, none⟩) n cap, .int .i64 (a : Nat), .int .i64 (m : Nat), .int .i64 (b : Nat), .func (.func g) #[] cb] W fun e1 w' => ∃ d', e1 = .returned (.tuple #[]) ∧ RowAt w' G 3 (ints n d') ∧ w0.grownBy w' (some G) ∧ Done K n a b e d') from fun a m b e W h1 h2 h3 h4 h5 h6 h7 h8 h9 => symMerge_any g cb K hent G cap n hn w0 hcmp (b - a) a m b e W (Nat.le_refl _) h1 h2 h3 h4 h5 h6 h7 h8 h9)
  have HIN := (show Hid (InR n d) from hin)
  have HST := (show Hid (Stab K n d) from hst)
  clear hcmp hin hst
  go_enter Tryz.func234, Tryz.ntmps234
  go_wp2
  go_loopw [7, 8] (fun x y W => ∃ (t : Nat) (e : Nat → Int), x = .int .i64 ((20 * t : Nat) : Int) ∧ y = .int .i64 ((20 * t + 20 : Nat) : Int) ∧ 20 * t ≤ n ∧ Hid (Mv 0 n d e ∧ Stab K n e ∧ BlA K 20 (20 * t) e) ∧ RowAt W G 3 (ints n e) ∧ w0.grownBy W (some G)) (fun x _ _ => ((n : Int) - intOf x).toNat)
  case atStart => exact ⟨0, d, rfl, rfl, by omega, ⟨Mv.refl _ _ _, HST.out, fun p q h1 h2 => by omega⟩, hr, hgb⟩
  case round =>
    clear hr hgb
    obtain ⟨t, e, rfl, rfl, h1, HI, ro, hb⟩ := hrel
    have HT : Hid (20 ∣ 20 * t) := Nat.dvd_mul_right _ _
    obtain ⟨a, ha⟩ : ∃ a, a = 20 * t := ⟨_, rfl⟩
    have HA : Hid (a = 20 * t) := ha
    rw [← ha] at h1 HI HT ⊢
    clear ha
    obtain ⟨b, hb'⟩ : ∃ b, b = a + 20 := ⟨_, rfl⟩
    have HB : Hid (b = a + 20) := hb'
    have hab : a ≤ b := by omega
    have hbb : b ≤ 70000 := by omega
    rw [← hb']
    clear hb'
    by_cases hlt : b ≤ n
    · have HC := HINS.out a b e wr hab hlt hb ro (Mv.inR HI.out.1 (Nat.le_refl n) HIN.out) HI.out.2.1
      have HC := (show Hid (Calls Tryz.prog 255 #[.slice (some ⟨G, 0, none⟩) n cap, .int .i64 (a : Nat), .int .i64 (b : Nat), .func (.func g) #[] cb] wr fun e1 w' => ∃ d', e1 = .returned (.tuple #[]) ∧ RowAt w' G 3 (ints n d') ∧ w0.grownBy w' (some G) ∧ Done K n a b e d') from HC)
      go_wp2_with fail
      refine Calls.mono HC.out ?_
      rintro e1 W1 ⟨d1, rfl, ro1, hb1, hd1⟩
      have HN := (show Hid (Mv 0 n d d1 ∧ Stab K n d1 ∧ BlA K 20 (20 * (t + 1)) d1) from ⟨HI.out.1.trans (hd1.mv.wide (by omega) (by omega)), hd1.stab, by
        have := blA_step (by decide) HT.out HI.out.2.2 hd1
        rw [show 20 * (t + 1) = b by have := HA.out; have := HB.out; omega]
        exact this⟩)
      have HBT : Hid (b = 20 * (t + 1)) := by rw [Hid]; have := HA.out; have := HB.out; omega
      clear hd1 HC
      go_wp2
      go_roundw
      case rel => exact ⟨t + 1, d1, by rw [HBT.out], by rw [show ((20 * (t + 1) + 20 : Nat) : Int) = ((b : Nat) : Int) + 20 by have := HBT.out; omega], by have := HBT.out; omega, HN, ro1, hb1⟩
      case measure => have := HA.out; have := HB.out; simp [intOf]; omega
    · have HC := (show Hid (Calls Tryz.prog 255 #[.slice (some ⟨G, 0, none⟩) n cap, .int .i64 (a : Nat), .int .i64 (n : Nat), .func (.func g) #[] cb] wr fun e1 w' => ∃ d', e1 = .returned (.tuple #[]) ∧ RowAt w' G 3 (ints n d') ∧ w0.grownBy w' (some G) ∧ Done K n a n e d') from HINS.out a n e wr h1 (Nat.le_refl n) hb ro (Mv.inR HI.out.1 (Nat.le_refl n) HIN.out) HI.out.2.1)
      go_wp2_with fail
      refine Calls.mono HC.out ?_
      rintro e1 W1 ⟨d1, rfl, ro1, hb1, hd1⟩
      have HN := (show Hid (Mv 0 n d d1 ∧ Stab K n d1 ∧ BlA K 20 n d1) from ⟨HI.out.1.trans (hd1.mv.wide (by omega) (by omega)), hd1.stab, blA_step (by decide) HT.out HI.out.2.2 hd1⟩)
      clear hd1 HC HI ro hb HINS
      go_wp2
      go_loopw [6] (fun x W => ∃ (bs : Nat) (e : Nat → Int), x = .int .i64 (bs : Nat) ∧ 0 < bs ∧ bs ≤ 131072 ∧ Hid (Mv 0 n d e ∧ Stab K n e ∧ BlA K bs n e) ∧ RowAt W G 3 (ints n e) ∧ w0.grownBy W (some G)) (fun x _ => (262144 - intOf x).toNat)
      case atStart => exact ⟨20, d1, rfl, by omega, by omega, HN, ro1, hb1⟩
      case round =>
        clear HN ro1 hb1 HT HA HB hab hbb hlt h1
        obtain ⟨bs, e2, rfl, hb0, hbs, HI, ro, hb⟩ := hrel
        by_cases hlt : bs < n
        · obtain ⟨b2, hb2⟩ : ∃ b2, b2 = 2 * bs := ⟨_, rfl⟩
          have eb2 : (2 : Int) * ((bs : Nat) : Int) = ((b2 : Nat) : Int) := by omega
          have eb2' : ((bs : Nat) : Int) * 2 = ((b2 : Nat) : Int) := by omega
          have HB2 : Hid (b2 = 2 * bs) := hb2
          have hb2b : b2 ≤ 131072 := by omega
          have hb2c : bs < b2 := by omega
          clear hb2
          go_wp2
          go_loopw [7, 8] (fun x y W => ∃ (t a b : Nat) (e : Nat → Int), x = .int .i64 (a : Nat) ∧ y = .int .i64 (b : Nat) ∧ a ≤ n ∧ Hid (a = b2 * t ∧ b = a + b2) ∧ Hid (Mv 0 n d e ∧ Stab K n e ∧ BlA K b2 a e ∧ BlB K n bs a e) ∧ RowAt W G 3 (ints n e) ∧ w0.grownBy W (some G)) (fun x _ _ => ((n : Int) - intOf x).toNat)
          case atStart => exact ⟨0, 0, b2, e2, rfl, rfl, by omega, ⟨by omega, by omega⟩, ⟨HI.out.1, HI.out.2.1, fun p q _ h => by omega, fun p q _ h1 h2 h3 => HI.out.2.2 p q h1 h2 h3⟩, ro, hb⟩
          case round =>
            clear HI ro hb
            obtain ⟨t, a, b, e, rfl, rfl, h1, HAB, HI, ro, hb⟩ := hrel
            have HDV : Hid (bs ∣ a ∧ bs ∣ a + bs ∧ b2 ∣ a) := by
              have h1 : bs ∣ a := by rw [HAB.out.1, HB2.out, Nat.mul_assoc, Nat.mul_left_comm]; exact Nat.dvd_mul_right _ _
              exact ⟨h1, Nat.dvd_add h1 (Nat.dvd_refl _), by rw [HAB.out.1]; exact Nat.dvd_mul_right _ _⟩
            obtain ⟨m, hm⟩ : ∃ m, m = a + bs := ⟨_, rfl⟩
            have em : ((a : Nat) : Int) + ((bs : Nat) : Int) = ((m : Nat) : Int) := by omega
            have HM : Hid (m = a + bs) := hm
            have ham : a < m := by omega
            have hmb : m < b := by have := HAB.out.2; have := HB2.out; omega
            have hbb : b ≤ 200000 := by have := HAB.out.2; omega
            clear hm
            by_cases hlt2 : b ≤ n
            · have HC := (show Hid (Calls Tryz.prog 256 #[.slice (some ⟨G, 0, none⟩) n cap, .int .i64 (a : Nat), .int .i64 (m : Nat), .int .i64 (b : Nat), .func (.func g) #[] cb] wr fun e1 w' => ∃ d', e1 = .returned (.tuple #[]) ∧ RowAt w' G 3 (ints n d') ∧ w0.grownBy w' (some G) ∧ Done K n a b e d') from HSYM.out a m b e wr ham hmb hlt2 hb ro (Mv.inR HI.out.1 (Nat.le_refl n) HIN.out) HI.out.2.1 (by rw [HM.out]; exact blB_srt hb0 HDV.out.1 HI.out.2.2.2 (Nat.le_refl a) (Nat.le_refl _) (by have := HM.out; omega)) (by rw [HM.out]; exact blB_srt hb0 HDV.out.2.1 HI.out.2.2.2 (by omega) (by have := HAB.out.2; have := HB2.out; omega) hlt2))
              obtain ⟨b', hb''⟩ : ∃ b', b' = b + b2 := ⟨_, rfl⟩
              have ebb : ((b : Nat) : Int) + ((b2 : Nat) : Int) = ((b' : Nat) : Int) := by omega
              have HB' : Hid (b' = b + b2) := hb''
              clear hb''
              go_wp2_with fail
              refine Calls.mono HC.out ?_
              rintro e1 W1 ⟨d2, rfl, ro1, hb1, hd1⟩
              have HN := (show Hid (Mv 0 n d d2 ∧ Stab K n d2 ∧ BlA K b2 b d2 ∧ BlB K n bs b d2) from ⟨HI.out.1.trans (hd1.mv.wide (by omega) (by omega)), hd1.stab, blA_step (by omega) HDV.out.2.2 HI.out.2.2.1 hd1, blB_step (by omega) HI.out.2.2.2 hd1⟩)
              have HAB2 : Hid (b = b2 * (t + 1) ∧ b' = b + b2) := ⟨by rw [HAB.out.2, HAB.out.1, Nat.mul_succ], HB'.out⟩
              clear hd1 HC
              go_wp2
              go_roundw
              case rel => exact ⟨t + 1, b, b', d2, rfl, rfl, by omega, HAB2, HN, ro1, hb1⟩
              case measure => simp [intOf]; omega
            · by_cases hmn : m < n
              · have HC := (show Hid (Calls Tryz.prog 256 #[.slice (some ⟨G, 0, none⟩) n cap, .int .i64 (a : Nat), .int .i64 (m : Nat), .int .i64 (n : Nat), .func (.func g) #[] cb] wr fun e1 w' => ∃ d', e1 = .returned (.tuple #[]) ∧ RowAt w' G 3 (ints n d') ∧ w0.grownBy w' (some G) ∧ Done K n a n e d') from HSYM.out a m n e wr ham hmn (Nat.le_refl n) hb ro (Mv.inR HI.out.1 (Nat.le_refl n) HIN.out) HI.out.2.1 (by rw [HM.out]; exact blB_srt hb0 HDV.out.1 HI.out.2.2.2 (Nat.le_refl a) (Nat.le_refl _) (by have := HM.out; omega)) (by rw [HM.out]; exact blB_srt hb0 HDV.out.2.1 HI.out.2.2.2 (by omega) (by have := HAB.out.2; have := HB2.out; omega) (Nat.le_refl n)))
                go_wp2_with fail
                refine Calls.mono HC.out ?_
                rintro e1 W1 ⟨d2, rfl, ro1, hb1, hd1⟩
                have HN := (show Hid (Mv 0 n d d2 ∧ Stab K n d2 ∧ BlA K b2 n d2) from ⟨HI.out.1.trans (hd1.mv.wide (by omega) (by omega)), hd1.stab, blA_step (by omega) HDV.out.2.2 HI.out.2.2.1 hd1⟩)
                clear hd1 HC
                go_wp2
                go_roundw
                case rel => exact ⟨b2, d2, rfl, by omega, by omega, HN, ro1, hb1⟩
                case measure => simp [intOf]; omega
              · have HN := (show Hid (Mv 0 n d e ∧ Stab K n e ∧ BlA K b2 n e) from ⟨HI.out.1, HI.out.2.1, blA_step (by omega) HDV.out.2.2 HI.out.2.2.1 (Done.refl' (n := n) HI.out.2.1 (blB_srt hb0 HDV.out.1 HI.out.2.2.2 (Nat.le_refl a) (by have := HM.out; omega) (Nat.le_refl n)))⟩)
                go_wp2
                go_roundw
                case rel => exact ⟨b2, e, rfl, by omega, by omega, HN, ro, hb⟩
                case measure => simp [intOf]; omega
        · have HD := (show Hid (Done K n 0 n d e2) from ⟨HI.out.1, HI.out.2.1, bl_all HI.out.2.2 (by omega)⟩)
          clear HI
          go_wp2
          go_end0
          exact ⟨e2, rfl, ro, hb, HD.out⟩
set_option maxHeartbeats 1000000 in
theorem sortStable_any (g : Nat) (cb : Array Value) (K : Int → Int) (hent : ∀ (args : Array Value) (W : World), (callFunc g args).run Tryz.prog W = .ok (.enter g args) W) (G cap n : Nat) (hn : n ≤ 65536) (w : World) (hcmp : CmpOK g cb K n w G) (d : Nat → Int) (hr : RowAt w G 3 (ints n d)) (hin : InR n d) (hst : Stab K n d) :
    Calls Tryz.prog 208 #[.slice (some ⟨G, 0, none⟩) n cap, .func (.func g) #[] cb] w fun e w' => ∃ d', e = .returned (.tuple #[]) ∧ RowAt w' G 3 (ints n d') ∧ w.grownBy w' (some G) ∧ Done K n 0 n d d' := by
  have HC := (show Hid (Calls Tryz.prog 234 #[.slice (some ⟨G, 0, none⟩) n cap, .int .i64 (n : Nat), .func (.func g) #[] cb] w fun e w' => ∃ d', e = .returned (.tuple #[]) ∧ RowAt w' G 3 (ints n d') ∧ w.grownBy w' (some G) ∧ Done K n 0 n d d') from stable_any g cb K hent G cap n hn w hcmp d w (gb_refl _ _) hr hin hst)
  clear hcmp hin hst hr
  go_enter Tryz.func208, Tryz.ntmps208
  go_wp2_with fail
  refine Calls.mono HC.out ?_
  rintro e1 W1 ⟨d2, rfl, ro1, hb1, hd1⟩
  go_wp2
  go_end0
  exact ⟨d2, rfl, ro1, hb1, hd1⟩
end Go.Proofs.YtkohhdkkbaifoaaGreatDoor
