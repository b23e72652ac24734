/-
  Contract of slices.symMergeCmpFunc where one piece is one number.
-/
import Derived.Test.YtkohhdkkbaifoaaGreatDoorSSwap
namespace Go.Proofs.YtkohhdkkbaifoaaGreatDoor
open Go.RowKit PK Sm

set_option maxRecDepth 100000 in
set_option maxHeartbeats 4000000 in
theorem symA_any (g : Nat) (cb : Array Value) (K : Int → Int) (hent : ∀ (args : Array Value) (W : World), (callFunc g args).run Tryz.prog W = .ok (.enter g args) W) (G cap n : Nat) (d : Nat → Int) (a b : Nat) (hab : a + 1 < b) (hbn : b ≤ n) (hn : n ≤ 65536) (w0 w : World) (hcmp : CmpOK g cb K n w0 G) (hgb : w0.grownBy w (some G)) (hr : RowAt w G 3 (ints n d)) (hin : InR n d) (hst : Stab K n d) (hs : Srt K d (a + 1) b) :
    Calls Tryz.prog 256 #[.slice (some ⟨G, 0, none⟩) n cap, .int .i64 (a : Nat), .int .i64 ((a + 1 : Nat) : Int), .int .i64 (b : Nat), .func (.func g) #[] cb] w fun e w' => ∃ d', e = .returned (.tuple #[]) ∧ RowAt w' G 3 (ints n d') ∧ w0.grownBy w' (some G) ∧ Done K n a b d d' := by
  have HCMP := (show Hid (CmpOK g cb K n w0 G) from hcmp)
  have HIN := (show Hid (InR n d) from hin)
  have HST := (show Hid (Stab K n d) from hst)
  have HS := (show Hid (Srt K d (a + 1) b) from hs)
  clear hcmp hin hst hs
  obtain ⟨m, hm⟩ : ∃ m, m = a + 1 := ⟨_, rfl⟩
  rw [← hm] at hab ⊢
  have HM : Hid (m = a + 1) := hm
  have e1 : ((m : Nat) : Int) - ((a : Nat) : Int) = 1 := by omega
  have ham : a < m := by omega
  clear hm
  go_enter Tryz.func256, Tryz.ntmps256
  go_wp2
  clear e1
  go_loopw [10, 11] (fun x y W => ∃ (i j : Nat), x = .int .i64 i ∧ y = .int .i64 j ∧ m ≤ i ∧ i ≤ j ∧ j ≤ b ∧ Hid ((m < i → K (d (i - 1)) < K (d a)) ∧ (j < b → K (d a) ≤ K (d j))) ∧ RowAt W G 3 (ints n d) ∧ w0.grownBy W (some G)) (fun x y _ => (intOf y - intOf x).toNat)
  case atStart => exact ⟨m, b, rfl, rfl, by omega, by omega, by omega, ⟨fun h => by omega, fun h => by omega⟩, hr, hgb⟩
  case round =>
    clear hr hgb
    obtain ⟨i, j, rfl, rfl, h1, h2, h3, HI, ro, hb⟩ := hrel
    by_cases hlt : i < j
    · obtain ⟨h, hh⟩ : ∃ h, h = (i + j) / 2 := ⟨_, rfl⟩
      have hh1 : i ≤ h := by omega
      have hh2 : h < j := by omega
      have hhn : (h : Int) < (n : Int) := by omega
      have han : (a : Int) < (n : Int) := by omega
      have hhe : (((i : Nat) : Int) + ((j : Nat) : Int)) / 2 = ((h : Nat) : Int) := by omega
      have hc1 := ro.cell (ints_get d (show h < n by omega))
      have hc2 := ro.cell (ints_get d (show a < n by omega))
      have hI1 := HIN.out h (by omega)
      have hI2 := HIN.out a (by omega)
      have hc : ∀ k, Calls Tryz.prog g (#[.int .i64 (d h), .int .i64 (d a)] ++ cb) (wr.drewN k) fun e1 w' => e1 = .returned (.int .i64 (cmpV (K (d h)) (K (d a)))) ∧ ∃ q, w' = (wr.drewN k).drewN q := fun k => HCMP.out _ (gb_drewN hb k) _ _ hI1.1 hI1.2 hI2.1 hI2.2
      have HRO := (show Hid (RowAt wr G 3 (ints n d)) from ro)
      clear hh
      by_cases hk : K (d h) < K (d a)
      · rw [cmpV_lt hk] at hc
        have HN := (show Hid ((m < h + 1 → K (d (h + 1 - 1)) < K (d a)) ∧ (j < b → K (d a) ≤ K (d j))) from ⟨fun _ => by rw [Nat.add_sub_cancel]; exact hk, HI.out.2⟩)
        clear ro hk HI hI1 hI2
        go_wp2_with fail
        go_quiet (first | (go_at_fn g; refine Calls.quiet_of (hc _)))
        go_wp2
        go_roundw
        case rel => exact ⟨h + 1, j, by go_num, rfl, by omega, by omega, by omega, HN, HRO.out.drewN _, gb_drewN hb _⟩
        case measure => simp [intOf] <;> omega
      · have hcv := cmpV_ge hk
        have HN := (show Hid ((m < i → K (d (i - 1)) < K (d a)) ∧ (h < b → K (d a) ≤ K (d h))) from ⟨HI.out.1, fun _ => by omega⟩)
        generalize cmpV (K (d h)) (K (d a)) = c at hc hcv
        clear ro hk HI hI1 hI2
        go_wp2_with fail
        go_quiet (first | (go_at_fn g; refine Calls.quiet_of (hc _)))
        go_wp2
        go_roundw
        case rel => exact ⟨i, h, rfl, rfl, by omega, by omega, by omega, HN, HRO.out.drewN _, gb_drewN hb _⟩
        case measure => simp [intOf] <;> omega
    · obtain rfl : i = j := by omega
      have HD := (show Hid (Done K n a b d (rotF a (a + 1) i d)) from one_ahead hbn HST.out HS.out (by have := HM.out; omega) h3 (fun h => HI.out.1 (by have := HM.out; omega)) (fun h => by have := HI.out.2 h; omega))
      obtain ⟨i', hi'⟩ : ∃ i', i = i' + 1 := ⟨i - 1, by omega⟩
      have e2 : ((i : Nat) : Int) - 1 = ((i' : Nat) : Int) := by omega
      have HI' : Hid (i = i' + 1) := hi'
      have hai : a ≤ i' := by omega
      have hin' : i' < n := by omega
      clear HI hi'
      go_wp2
      go_loopw [13] (fun x W => ∃ k : Nat, x = .int .i64 k ∧ a ≤ k ∧ k ≤ i' ∧ RowAt W G 3 (ints n (rotF a (a + 1) (k + 1) d)) ∧ w0.grownBy W (some G)) (fun x _ => ((i' : Int) - intOf x).toNat)
      case atStart => exact ⟨a, rfl, by omega, by omega, by rw [rot_none a (a + 1) (a + 1) (by omega) (by omega) (.inr rfl)]; exact ro, hb⟩
      case round =>
        clear ro hb
        obtain ⟨k, rfl, hk1, hk2, ro, hb⟩ := hrel
        by_cases hlt2 : k < i'
        · have kz : (k : Int) + 1 < (n : Int) := by omega
          have kz1 : (k : Int) < (n : Int) := by omega
          obtain ⟨k1, hk⟩ : ∃ k1, k1 = k + 1 := ⟨_, rfl⟩
          have ek : ((k : Nat) : Int) + 1 = ((k1 : Nat) : Int) := by omega
          have K1 : Hid (k1 = k + 1) := hk
          have hk1n : (k1 : Int) < (n : Int) := by omega
          have hne : k ≠ k1 := by omega
          have hc1 := ro.cell (ints_get (rotF a (a + 1) (k + 1) d) (show k < n by omega))
          have hc2 := ro.cell (ints_get (rotF a (a + 1) (k + 1) d) (show k1 < n by omega))
          have hf1 := ro.frozen k
          have hf2 := ro.frozen k1
          have HUP := (show Hid (upd (upd (rotF a (a + 1) (k + 1) d) k (rotF a (a + 1) (k + 1) d k1)) k1 (rotF a (a + 1) (k + 1) d k) = rotF a (a + 1) (k + 1 + 1) d) from by rw [Hid, hk, swap_next', rot_up a k d hk1])
          have HRO := (show Hid (RowAt wr G 3 (ints n (rotF a (a + 1) (k + 1) d))) from ro)
          generalize rotF a (a + 1) (k + 1) d k = x at hc1 HUP
          generalize rotF a (a + 1) (k + 1) d k1 = y at hc2 HUP
          clear ro hk
          go_wp2_with fail
          go_region
          go_wp2
          have ro2 : RowAt (((wr.setCell ⟨G, k, none⟩ (.int .i64 y)).setCell ⟨G, k1, none⟩ (.int .i64 x)).drew) G 3 (ints n (rotF a (a + 1) (k + 1 + 1) d)) := by
            have := (HRO.out.set k (.int .i64 y)).set k1 (.int .i64 x)
            rw [ints_set, ints_set, HUP.out] at this
            exact this.drew
          go_roundw
          case rel => exact ⟨k + 1, by first | rfl | go_num | (rw [K1.out]), by omega, by omega, ro2, gb_drew (gb_set (gb_set hb _ _) _ _)⟩
          case measure => simp [intOf] <;> omega
        · obtain rfl : k = i' := by omega
          have HD2 := (show Hid (Done K n a b d (rotF a (a + 1) (k + 1) d)) from by rw [Hid, ← HI'.out]; exact HD.out)
          go_wp2
          refine bodyPost_ret (results_none rfl _ _ _) rfl ?_
          exact ⟨rotF a (a + 1) (k + 1) d, rfl, ro, hb, HD2.out⟩
set_option maxRecDepth 100000 in
set_option maxHeartbeats 4000000 in
theorem symB_any (g : Nat) (cb : Array Value) (K : Int → Int) (hent : ∀ (args : Array Value) (W : World), (callFunc g args).run Tryz.prog W = .ok (.enter g args) W) (G cap n : Nat) (d : Nat → Int) (a m : Nat) (ham : a + 1 < m) (hmn : m + 1 ≤ n) (hn : n ≤ 65536) (w0 w : World) (hcmp : CmpOK g cb K n w0 G) (hgb : w0.grownBy w (some G)) (hr : RowAt w G 3 (ints n d)) (hin : InR n d) (hst : Stab K n d) (hs : Srt K d a m) :
    Calls Tryz.prog 256 #[.slice (some ⟨G, 0, none⟩) n cap, .int .i64 (a : Nat), .int .i64 (m : Nat), .int .i64 ((m + 1 : Nat) : Int), .func (.func g) #[] cb] w fun e w' => ∃ d', e = .returned (.tuple #[]) ∧ RowAt w' G 3 (ints n d') ∧ w0.grownBy w' (some G) ∧ Done K n a (m + 1) d d' := by
  have HCMP := (show Hid (CmpOK g cb K n w0 G) from hcmp)
  have HIN := (show Hid (InR n d) from hin)
  have HST := (show Hid (Stab K n d) from hst)
  have HS := (show Hid (Srt K d a m) from hs)
  clear hcmp hin hst hs
  obtain ⟨b, hm⟩ : ∃ b, b = m + 1 := ⟨_, rfl⟩
  rw [← hm]
  have HM : Hid (b = m + 1) := hm
  have e1 : ((b : Nat) : Int) - ((m : Nat) : Int) = 1 := by omega
  have e3 : (((m : Nat) : Int) - ((a : Nat) : Int) == 1) = false := by simp; omega
  clear hm
  go_enter Tryz.func256, Tryz.ntmps256
  go_wp2
  clear e1 e3
  go_loopw [14, 15] (fun x y W => ∃ (i j : Nat), x = .int .i64 i ∧ y = .int .i64 j ∧ a ≤ i ∧ i ≤ j ∧ j ≤ m ∧ Hid ((j < m → K (d m) < K (d j)) ∧ (a < i → K (d (i - 1)) ≤ K (d m))) ∧ RowAt W G 3 (ints n d) ∧ w0.grownBy W (some G)) (fun x y _ => (intOf y - intOf x).toNat)
  case atStart => exact ⟨a, m, rfl, rfl, by omega, by omega, by omega, ⟨fun h => by omega, fun h => by omega⟩, hr, hgb⟩
  case round =>
    clear hr hgb
    obtain ⟨i, j, rfl, rfl, h1, h2, h3, HI, ro, hb⟩ := hrel
    by_cases hlt : i < j
    · obtain ⟨h, hh⟩ : ∃ h, h = (i + j) / 2 := ⟨_, rfl⟩
      have hh1 : i ≤ h := by omega
      have hh2 : h < j := by omega
      have hhn : (h : Int) < (n : Int) := by omega
      have han : (m : Int) < (n : Int) := by omega
      have hhe : (((i : Nat) : Int) + ((j : Nat) : Int)) / 2 = ((h : Nat) : Int) := by omega
      have hc1 := ro.cell (ints_get d (show m < n by omega))
      have hc2 := ro.cell (ints_get d (show h < n by omega))
      have hI1 := HIN.out m (by omega)
      have hI2 := HIN.out h (by omega)
      have hc : ∀ k, Calls Tryz.prog g (#[.int .i64 (d m), .int .i64 (d h)] ++ cb) (wr.drewN k) fun e1 w' => e1 = .returned (.int .i64 (cmpV (K (d m)) (K (d h)))) ∧ ∃ q, w' = (wr.drewN k).drewN q := fun k => HCMP.out _ (gb_drewN hb k) _ _ hI1.1 hI1.2 hI2.1 hI2.2
      have HRO := (show Hid (RowAt wr G 3 (ints n d)) from ro)
      clear hh
      by_cases hk : K (d m) < K (d h)
      · rw [cmpV_lt hk] at hc
        have HN := (show Hid ((h < m → K (d m) < K (d h)) ∧ (a < i → K (d (i - 1)) ≤ K (d m))) from ⟨fun _ => hk, HI.out.2⟩)
        clear ro hk HI hI1 hI2
        go_wp2_with fail
        go_quiet (first | (go_at_fn g; refine Calls.quiet_of (hc _)))
        go_wp2
        go_roundw
        case rel => exact ⟨i, h, rfl, rfl, by omega, by omega, by omega, HN, HRO.out.drewN _, gb_drewN hb _⟩
        case measure => simp [intOf] <;> omega
      · have hcv := cmpV_ge hk
        have HN := (show Hid ((j < m → K (d m) < K (d j)) ∧ (a < h + 1 → K (d (h + 1 - 1)) ≤ K (d m))) from ⟨HI.out.1, fun _ => by rw [Nat.add_sub_cancel]; omega⟩)
        generalize cmpV (K (d m)) (K (d h)) = c at hc hcv
        have hcn : decide (c < 0) = false := by simp; omega
        clear hcv
        clear ro hk HI hI1 hI2
        go_wp2_with fail
        go_quiet (first | (go_at_fn g; refine Calls.quiet_of (hc _)))
        go_wp2
        go_roundw
        case rel => exact ⟨h + 1, j, by go_num, rfl, by omega, by omega, by omega, HN, HRO.out.drewN _, gb_drewN hb _⟩
        case measure => simp [intOf] <;> omega
    · obtain rfl : i = j := by omega
      have HD := (show Hid (Done K n a b d (rotF i m (m + 1) d)) from by rw [HM.out]; exact one_behind hmn HST.out HS.out h1 h3 HI.out.1 (fun h => by have := HI.out.2 h; omega))
      clear HI
      go_wp2
      go_loopw [17] (fun x W => ∃ k : Nat, x = .int .i64 k ∧ i ≤ k ∧ k ≤ m ∧ RowAt W G 3 (ints n (rotF k m (m + 1) d)) ∧ w0.grownBy W (some G)) (fun x _ => (intOf x).toNat)
      case atStart => exact ⟨m, rfl, by omega, by omega, by rw [rot_none m m (m + 1) (by omega) (by omega) (.inl rfl)]; exact ro, hb⟩
      case round =>
        clear ro hb
        obtain ⟨k1, rfl, hk1, hk2, ro, hb⟩ := hrel
        by_cases hlt2 : i < k1
        · obtain ⟨k, hk⟩ : ∃ k, k1 = k + 1 := ⟨k1 - 1, by omega⟩
          have ek : ((k1 : Nat) : Int) - 1 = ((k : Nat) : Int) := by omega
          have K1 : Hid (k1 = k + 1) := hk
          have hk1n : (k1 : Int) < (n : Int) := by omega
          have hkn : (k : Int) < (n : Int) := by omega
          have hne : k1 ≠ k := by omega
          have hc1 := ro.cell (ints_get (rotF k1 m (m + 1) d) (show k < n by omega))
          have hc2 := ro.cell (ints_get (rotF k1 m (m + 1) d) (show k1 < n by omega))
          have hf1 := ro.frozen k
          have hf2 := ro.frozen k1
          have HUP := (show Hid (upd (upd (rotF k1 m (m + 1) d) k1 (rotF k1 m (m + 1) d k)) k (rotF k1 m (m + 1) d k1) = rotF k m (m + 1) d) from by rw [Hid, hk, swap_next, rot_down m k d (by omega)])
          have HRO := (show Hid (RowAt wr G 3 (ints n (rotF k1 m (m + 1) d))) from ro)
          generalize rotF k1 m (m + 1) d k = x at hc1 HUP
          generalize rotF k1 m (m + 1) d k1 = y at hc2 HUP
          have hik : i ≤ k := by omega
          clear ro hk
          go_wp2_with fail
          go_region
          go_wp2
          have ro2 : RowAt (((wr.setCell ⟨G, k1, none⟩ (.int .i64 x)).setCell ⟨G, k, none⟩ (.int .i64 y)).drew) G 3 (ints n (rotF k m (m + 1) d)) := by
            have := (HRO.out.set k1 (.int .i64 x)).set k (.int .i64 y)
            rw [ints_set, ints_set, HUP.out] at this
            exact this.drew
          go_roundw
          case rel => exact ⟨k, rfl, by omega, by omega, ro2, gb_drew (gb_set (gb_set hb _ _) _ _)⟩
          case measure => simp [intOf] <;> omega
        · obtain rfl : k1 = i := by omega
          go_wp2
          refine bodyPost_ret (results_none rfl _ _ _) rfl ?_
          exact ⟨rotF k1 m (m + 1) d, rfl, ro, hb, HD.out⟩
end Go.Proofs.YtkohhdkkbaifoaaGreatDoor
