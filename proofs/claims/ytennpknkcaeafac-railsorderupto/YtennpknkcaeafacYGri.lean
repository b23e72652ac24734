/-
  Contracts of rails.turned, of the library's Index and Contains, of rails.seenIn and Grille.
-/
import Derived.Test.YtennpknkcaeafacGMath
import Derived.Test.YtennpknkcaeafacSBy
import Derived.Test.YtennpknkcaeafacYKit
import Derived.RegionTactic
namespace Go.Proofs.Ytennpknkcaeafac
open Go.RowKit PK Sm

set_option maxRecDepth 100000 in
set_option maxHeartbeats 1000000 in
theorem turned_any (s p : Nat) (h2 : 2 ≤ s) (h16 : s ≤ 16) (hp : p < s * s) (w : World) :
    Calls Try.prog 48 #[.int .i64 (p : Nat), .int .i64 (s : Nat)] w fun e w' => e = .returned (.int .i64 (Gm.tn s p : Nat)) ∧ Below w.heap.size w w' := by
  have hy := (Gm.place_yx hp).1
  have hx := (Gm.place_yx hp).2.1
  have HV : Hid (Gm.tn s p = p % s * s + (s - 1 - p / s)) := rfl
  have e1 : ((p : Nat) : Int) / ((s : Nat) : Int) = ((p / s : Nat) : Int) := by omega
  have e2 : ((p : Nat) : Int) % ((s : Nat) : Int) = ((p % s : Nat) : Int) := by omega
  have hss : s * s ≤ 256 := Nat.mul_le_mul h16 h16
  have hp2 : p < 256 := by omega
  generalize p / s = y at *
  generalize p % s = x at *
  have hne : (((s : Nat) : Int) == 0) = false := by simp; omega
  obtain ⟨xs, hxs⟩ : ∃ xs, xs = x * s := ⟨_, rfl⟩
  have e3 : ((x : Nat) : Int) * ((s : Nat) : Int) = ((xs : Nat) : Int) := by rw [hxs]; simp
  have hxb : xs ≤ 256 := by
    rw [hxs]
    exact Nat.mul_le_mul (show x ≤ 16 by omega) h16
  have HV2 : Hid (((Gm.tn s p : Nat) : Int) = ((xs : Nat) : Int) + ((s : Nat) : Int) - 1 - ((y : Nat) : Int)) := by rw [Hid, HV.out, ← hxs]; omega
  clear hxs hss hp HV
  go_enter Try.func48, Try.ntmps48
  go_wp2
  go_region
  all_goals go_wp2
  all_goals go_ret
  all_goals exact ⟨ret_int HV2.out.symm, (Below.refl _ _).drew⟩
/-- Is one of the first n numbers 0? -/
theorem index_any (G cap n : Nat) (hn : n ≤ 65536) (f : Nat → Int) (w : World) (hr : RowAt w G 3 (ints n f)) :
    Calls Try.prog 53 #[.slice (some ⟨G, 0, none⟩) n cap, .int .i64 0] w fun e w' => ∃ r : Int, e = .returned (.int .i64 r) ∧ (0 ≤ r ∧ (∃ i, i < n ∧ f i = 0) ∨ r = -1 ∧ ∀ i, i < n → f i ≠ 0) ∧ w = w' := by
  go_enter Try.func53, Try.ntmps53
  go_wp2
  go_loop [8] (fun i => ∃ m : Nat, m ≤ n ∧ i = .int .i64 m ∧ Hid (∀ k, k < m → f k ≠ 0)) (fun i => ((n : Int) - intOf i).toNat)
  case atStart => exact ⟨0, by omega, rfl, fun k hk => by omega⟩
  case round =>
    obtain ⟨m, hm, rfl, HS⟩ := hrel
    by_cases hlt : m < n
    · have hc := hr.cell (ints_get f hlt)
      by_cases h0 : f m = 0
      · have HE := (show Hid (∃ i, i < n ∧ f i = 0) from ⟨m, hlt, h0⟩)
        rw [h0] at hc
        clear h0
        go_wp2
        go_ret
        exact ⟨m, rfl, .inl ⟨by omega, HE.out⟩, rfl⟩
      · have HN := (show Hid (∀ k, k < m + 1 → f k ≠ 0) from fun k hk => by
          by_cases e : k = m
          · rw [e]; exact h0
          · exact HS.out k (by omega))
        have hd : ((0 : Int) == f m) = false := beq_eq_false_iff_ne.2 (fun e => h0 e.symm)
        generalize f m = x at hc hd
        clear h0
        go_wp2
        exact ⟨⟨m + 1, by omega, by go_num, HN⟩, by simp [intOf]; omega⟩
    · have HN := (show Hid (∀ k, k < n → f k ≠ 0) from fun k hk => HS.out k (by omega))
      go_wp2
      go_ret
      exact ⟨-1, rfl, .inr ⟨rfl, HN.out⟩, rfl⟩
theorem contains_any (G cap n : Nat) (hn : n ≤ 65536) (f : Nat → Int) (w : World) (hr : RowAt w G 3 (ints n f)) :
    Calls Try.prog 49 #[.slice (some ⟨G, 0, none⟩) n cap, .int .i64 0] w fun e w' => ∃ b : Bool, e = .returned (.bool b) ∧ (b = true ∧ (∃ i, i < n ∧ f i = 0) ∨ b = false ∧ ∀ i, i < n → f i ≠ 0) ∧ w = w' := by
  have HI := (show Hid (Calls Try.prog 53 #[.slice (some ⟨G, 0, none⟩) n cap, .int .i64 0] w fun e w' => ∃ r : Int, e = .returned (.int .i64 r) ∧ (0 ≤ r ∧ (∃ i, i < n ∧ f i = 0) ∨ r = -1 ∧ ∀ i, i < n → f i ≠ 0) ∧ w = w') from index_any G cap n hn f w hr)
  clear hr
  go_enter Try.func49, Try.ntmps49
  go_wp2_with fail
  refine Calls.mono HI.out ?_
  rintro e W1 ⟨r, rfl, hc, rfl⟩
  rcases hc with ⟨h1, h2⟩ | ⟨rfl, h2⟩
  · have HE := (show Hid (∃ i, i < n ∧ f i = 0) from h2)
    clear h2
    go_wp2
    go_ret
    exact ⟨true, rfl, .inl ⟨rfl, HE.out⟩, rfl⟩
  · have HE := (show Hid (∀ i, i < n → f i ≠ 0) from h2)
    clear h2
    go_wp2
    go_ret
    exact ⟨false, rfl, .inr ⟨rfl, HE.out⟩, rfl⟩
theorem vis_at (s : Nat) (h : Nat → Nat) (j t : Nat) (ht : t < 4) : Gm.vis s h (4 * j + t) = Qm.it (Gm.tn s) t (h j) := by
  unfold Gm.vis
  rw [show (4 * j + t) % 4 = t by omega, show (4 * j + t) / 4 = j by omega]
set_option maxRecDepth 100000 in
set_option maxHeartbeats 2000000 in
theorem seenIn_any (v : Value) (n : Nat) (f : Nat → Int) (s : Nat) (h2 : 2 ≤ s) (h16 : s ≤ 16) (hf : ∀ j, j < n → 0 ≤ f j ∧ f j < ((s * s : Nat) : Int)) (w : World) (hv : NumsAt w v n f) :
    Calls Try.prog 34 #[.int .i64 (s : Nat), v] w fun e w' => ((Gm.Right s (natF f) n ∧ e = .returned (.tuple #[.slice (some ⟨w.heap.size, 0, none⟩) (s * s) (s * s), .int .i64 0]) ∧ RowAt w' w.heap.size 3 (ints (s * s) (Gm.wy s (natF f) (4 * n)))) ∨ (¬ Gm.Right s (natF f) n ∧ e = .returned (.tuple #[.slice none 0 0, .int .i64 8]))) ∧ Below w.heap.size w w' := by
  obtain ⟨S, hS⟩ : ∃ S, S = s * s := ⟨_, rfl⟩
  have HSS : Hid (S = s * s) := hS
  have eS : ((s : Nat) : Int) * ((s : Nat) : Int) = ((S : Nat) : Int) := by rw [hS]; simp
  have hSb : S ≤ 256 := by rw [hS]; exact Nat.mul_le_mul h16 h16
  rw [← hS] at hf ⊢
  obtain ⟨a, cap, rfl, hm, hc⟩ := hv
  have HC := (show Hid (∀ c, c < n → ∃ b o, a = some ⟨b, o, none⟩ ∧ w.cell? ⟨b, o + c, none⟩ = some (.int .i64 (f c))) from hc)
  have HF := (show Hid (∀ j, j < n → natF f j < S) from fun j hj => by have := hf j hj; unfold natF; omega)
  have HF2 := (show Hid (∀ j, j < n → f j = (natF f j : Nat)) from fun j hj => by have := hf j hj; unfold natF; omega)
  have hmk := run_make_row' (P := Try.prog) 22 3 (.int .i64 0) 8 Try.underlying22 y_info_int rfl .i64 .i64 S (by omega) (by omega)
  rw [y_made_tab, ints_new] at hmk
  clear hc hf hS
  unfold maxLen at hm
  generalize natF f = h at *
  go_enter Try.func34, Try.ntmps34
  go_wp2
  clear hmk eS
  go_loopw [16] (fun i W => ∃ j : Nat, j ≤ n ∧ i = .int .i64 j ∧ Hid (∀ m, m < 4 * j → Gm.wy s h m (Gm.vis s h m) = 0) ∧ RowAt W w.heap.size 3 (ints S (Gm.wy s h (4 * j))) ∧ Below w.heap.size w W) (fun i _ => ((n : Int) - intOf i).toNat)
  case atStart => exact ⟨0, by omega, rfl, fun m hm => by omega, RowAt.new w _ _, (Below.refl _ _).alloc (Nat.le_refl _) _⟩
  case round =>
    obtain ⟨j, hj, rfl, HS, ro, hb⟩ := hrel
    by_cases hlt : j < n
    · obtain ⟨b, o, e9, hc0⟩ := HC.out j hlt
      subst e9
      have hcell := (hb.cell (cell_block hc0)).trans hc0
      rw [HF2.out j hlt] at hcell
      have hh := HF.out j hlt
      clear hc0
      go_wp2
      go_loopw [8, 9] (fun p y W => ∃ t : Nat, t ≤ 4 ∧ p = .int .i64 (Qm.it (Gm.tn s) t (h j) : Nat) ∧ y = .int .i64 ((t + 1 : Nat) : Int) ∧ Hid (∀ m, m < 4 * j + t → Gm.wy s h m (Gm.vis s h m) = 0) ∧ RowAt W w.heap.size 3 (ints S (Gm.wy s h (4 * j + t))) ∧ Below w.heap.size w W) (fun _ y _ => (6 - intOf y).toNat)
      case atStart => exact ⟨0, by omega, rfl, rfl, HS, ro, hb⟩
      case round =>
        clear ro hb HS hcell
        obtain ⟨t, ht, rfl, rfl, HS, ro, hb⟩ := hrel
        obtain ⟨t1, ht1⟩ : ∃ t1, t1 = t + 1 := ⟨_, rfl⟩
        have HT1 : Hid (t1 = t + 1) := ht1
        rw [← ht1]
        by_cases ht4 : t < 4
        · have ht5 : t1 ≤ 4 := by omega
          have hpl := Gm.it_lt (s := s) (by rw [← HSS.out]; exact hh) t
          have HTN := (show Hid (Qm.it (Gm.tn s) (t + 1) (h j) = Gm.tn s (Qm.it (Gm.tn s) t (h j))) from rfl)
          have HVS := (show Hid (Gm.vis s h (4 * j + t) = Qm.it (Gm.tn s) t (h j)) from vis_at s h j t ht4)
          have HTU := (show Hid (∀ W, Calls Try.prog 48 #[.int .i64 (Qm.it (Gm.tn s) t (h j) : Nat), .int .i64 (s : Nat)] W fun e w' => e = .returned (.int .i64 (Qm.it (Gm.tn s) (t + 1) (h j) : Nat)) ∧ Below W.heap.size W w') from fun W => turned_any s _ h2 h16 hpl W)
          have HST := (show Hid (upd (Gm.wy s h (4 * j + t)) (Gm.vis s h (4 * j + t)) (t1 : Nat) = Gm.wy s h (4 * j + (t + 1))) from by
            rw [Hid, ht1]
            show _ = upd (Gm.wy s h (4 * j + t)) (Gm.vis s h (4 * j + t)) (((4 * j + t) % 4 + 1 : Nat) : Int)
            rw [show (4 * j + t) % 4 = t by omega])
          rw [HVS.out] at HST
          have HNX := (show Hid (Gm.wy s h (4 * j + t) (Qm.it (Gm.tn s) t (h j)) = 0 → ∀ m, m < 4 * j + (t + 1) → Gm.wy s h m (Gm.vis s h m) = 0) from fun h0 m hm => by
            by_cases e : m = 4 * j + t
            · rw [e, HVS.out]; exact h0
            · exact HS.out m (by omega))
          have HBAD := (show Hid (Gm.wy s h (4 * j + t) (Qm.it (Gm.tn s) t (h j)) ≠ 0 → ¬ Gm.Right s h n) from fun h0 hR => h0 (by rw [← HVS.out]; exact hR.1 (4 * j + t) (by omega)))
          rw [← HSS.out] at hpl
          have hcx := ro.cell (ints_get (Gm.wy s h (4 * j + t)) hpl)
          have hfx := ro.frozen (Qm.it (Gm.tn s) t (h j))
          generalize Qm.it (Gm.tn s) t (h j) = p at *
          have hpI : (p : Int) < (S : Int) := by omega
          by_cases h0 : Gm.wy s h (4 * j + t) p = 0
          · rw [h0] at hcx
            have HN := (show Hid (∀ m, m < 4 * j + (t + 1) → Gm.wy s h m (Gm.vis s h m) = 0) from HNX.out h0)
            have ro2 : RowAt (wr.setCell ⟨w.heap.size, p, none⟩ (.int .i64 (t1 : Nat))) w.heap.size 3 (ints S (Gm.wy s h (4 * j + (t + 1)))) := by
              have := ro.set p (.int .i64 (t1 : Nat))
              rw [ints_set, HST.out] at this
              exact this
            have hbb := hb.setCell (p := ⟨w.heap.size, p, none⟩) (by simp) (.int .i64 (t1 : Nat))
            clear h0 HNX HBAD ht1 HST HTN
            go_wp2_with (go_at_call 48; refine (HTU.out _).mono ?_; rintro e W1 ⟨rfl, hb1⟩)
            go_roundw
            case rel => exact ⟨t + 1, by omega, rfl, by rw [HT1.out]; go_num, HN, ro2.below hb1 ro2.lt, hbb.trans (hb1.mono hbb.size)⟩
            case measure => simp [intOf] <;> omega
          · have HR := (show Hid (¬ Gm.Right s h n) from HBAD.out h0)
            have hd : (Gm.wy s h (4 * j + t) p == 0) = false := beq_eq_false_iff_ne.2 h0
            generalize Gm.wy s h (4 * j + t) p = x at hcx hd
            clear h0 HNX HBAD ht1 HST HTN
            go_wp2
            go_ret2
            exact ⟨.inr ⟨HR.out, rfl⟩, hb⟩
        · obtain rfl : t = 4 := by omega
          have ht5 : ¬ t1 ≤ 4 := by omega
          have HS2 := (show Hid (∀ m, m < 4 * (j + 1) → Gm.wy s h m (Gm.vis s h m) = 0) from fun m hm => HS.out m (by omega))
          rw [show 4 * j + 4 = 4 * (j + 1) by omega] at ro
          clear ht1 HS
          go_wp2
          go_roundw
          case rel => exact ⟨j + 1, by omega, by go_num, HS2, ro, hb⟩
          case measure => simp [intOf] <;> omega
    · obtain rfl : j = n := by omega
      have HK := (show Hid (Calls Try.prog 49 #[.slice (some ⟨w.heap.size, 0, none⟩) S S, .int .i64 0] wr fun e w' => ∃ b : Bool, e = .returned (.bool b) ∧ (b = true ∧ (∃ i, i < S ∧ Gm.wy s h (4 * j) i = 0) ∨ b = false ∧ ∀ i, i < S → Gm.wy s h (4 * j) i ≠ 0) ∧ wr = w') from contains_any w.heap.size S S (by omega) _ wr ro)
      go_wp2_with fail
      refine Calls.mono HK.out ?_
      rintro e W1 ⟨bb, rfl, hcb, rfl⟩
      rcases hcb with ⟨rfl, h1⟩ | ⟨rfl, h1⟩
      · have HR := (show Hid (¬ Gm.Right s h j) from fun hR => by
          obtain ⟨i, hi, h0⟩ := h1
          exact hR.2 i (by rw [← HSS.out]; exact hi) h0)
        clear h1 HK
        go_wp2
        go_ret2
        exact ⟨.inr ⟨HR.out, rfl⟩, hb⟩
      · have HR := (show Hid (Gm.Right s h j) from ⟨HS.out, fun p hp => h1 p (by rw [HSS.out]; exact hp)⟩)
        clear h1 HK
        go_wp2
        go_ret2
        exact ⟨.inl ⟨HR.out, rfl, ro⟩, hb⟩
/-- In which way a place is seen, as a key to sort by. -/
def wayKey (W : Nat → Int) : Int → Int := fun z => W z.toNat
set_option maxHeartbeats 1000000 in
theorem wayKey_ok (B G S : Nat) (_ : S ≤ 256) (g : Nat → Int) (w : World) (hB : w.cell? ⟨B, 0, none⟩ = some (.slice (some ⟨G, 0, none⟩) S S)) (hr : RowAt w G 3 (ints S g)) : KeyOKI 35 #[.pointer (some ⟨B, 0, none⟩)] (wayKey g) S w := by
  intro W hW x hx0 hx1
  obtain ⟨i, rfl⟩ : ∃ i : Nat, x = i := ⟨x.toNat, by omega⟩
  have hc := (hW.cell (p := ⟨B, 0, none⟩) (World.block_lt_of_cell? _ _ hB)).trans hB
  have hcr := (hr.below hW hr.lt).cell (ints_get g (show i < S by omega))
  have HV : Hid (wayKey g (i : Int) = g i) := by rw [Hid]; unfold wayKey; rw [Int.toNat_natCast]
  show Calls Try.prog 35 #[.int .i64 (i : Nat), .pointer (some ⟨B, 0, none⟩)] W _
  clear hB hW hr
  go_enter Try.func35, Try.ntmps35
  go_wp2
  go_ret
  exact ⟨ret_int HV.out.symm, 0, rfl⟩
theorem grille_side (sd : Int) (h : sd < 2 ∨ 16 < sd ∨ sd % 2 ≠ 0) (v : Value) (n : Nat) (f : Nat → Int) (w : World) (hv : NumsAt w v n f) :
    Calls Try.prog 13 #[.int .i64 sd, v] w fun e w' => e = .returned (.tuple #[.slice none 0 0, .int .i64 3]) ∧ Below w.heap.size w w' := by
  obtain ⟨a, cap, rfl, _⟩ := hv.len
  clear hv
  by_cases h1 : sd < 2
  · clear h
    go_enter Try.func13, Try.ntmps13
    go_wp2
    go_ret2
    exact ⟨rfl, Below.refl _ _⟩
  · by_cases h2 : 16 < sd
    · clear h
      go_enter Try.func13, Try.ntmps13
      go_wp2
      go_ret2
      exact ⟨rfl, Below.refl _ _⟩
    · have h3 : sd % 2 = 1 := by omega
      clear h
      go_enter Try.func13, Try.ntmps13
      go_wp2
      go_ret2
      exact ⟨rfl, Below.refl _ _⟩
/-- What Grille answers to a sheet of s rows. -/
def GriOut (n : Nat) (f : Nat → Int) (s : Nat) (B : Nat) (e : Ending) (w' : World) : Prop :=
  (e = .returned (.tuple #[.slice none 0 0, .int .i64 3]) ∧ ∃ j, j < n ∧ (f j < 0 ∨ ((s * s : Nat) : Int) ≤ f j)) ∨
  ((∀ j, j < n → 0 ≤ f j ∧ f j < ((s * s : Nat) : Int)) ∧
    ((¬ Gm.Right s (natF f) n ∧ e = .returned (.tuple #[.slice none 0 0, .int .i64 8])) ∨
     (Gm.Right s (natF f) n ∧ ∃ (G : Nat) (d : Nat → Int), e = .returned (.tuple #[.slice (some ⟨G, 0, none⟩) (s * s) (s * s), .int .i64 0]) ∧ RowAt w' G 3 (ints (s * s) d) ∧ B ≤ G ∧ Order (s * s) d ∧ Srt (wayKey (Gm.wy s (natF f) (4 * n))) d 0 (s * s))))
set_option maxRecDepth 100000 in
set_option maxHeartbeats 2000000 in
theorem grille_any (v : Value) (n : Nat) (f : Nat → Int) (s : Nat) (h2 : 2 ≤ s) (h16 : s ≤ 16) (hev : s % 2 = 0) (w : World) (hv : NumsAt w v n f) :
    Calls Try.prog 13 #[.int .i64 (s : Nat), v] w fun e w' => GriOut n f s w.heap.size e w' ∧ Below w.heap.size w w' := by
  have hmf : ∀ (fn : Fn) (first cap : Array Value) (w : World), (Instr.makeFunc fn first cap).run Try.prog w = .ok (.func fn first cap) w := fun _ _ _ _ => rfl
  have hevI : ((s : Nat) : Int) % 2 = 0 := by omega
  have HSEEN := (show Hid ((∀ j, j < n → 0 ≤ f j ∧ f j < ((s * s : Nat) : Int)) → Calls Try.prog 34 #[.int .i64 (s : Nat), v] w fun e w' => ((Gm.Right s (natF f) n ∧ e = .returned (.tuple #[.slice (some ⟨w.heap.size, 0, none⟩) (s * s) (s * s), .int .i64 0]) ∧ RowAt w' w.heap.size 3 (ints (s * s) (Gm.wy s (natF f) (4 * n)))) ∨ (¬ Gm.Right s (natF f) n ∧ e = .returned (.tuple #[.slice none 0 0, .int .i64 8]))) ∧ Below w.heap.size w w') from fun hf => seenIn_any v n f s h2 h16 hf w hv)
  unfold GriOut
  obtain ⟨S, hS⟩ : ∃ S, S = s * s := ⟨_, rfl⟩
  have eS : ((s : Nat) : Int) * ((s : Nat) : Int) = ((S : Nat) : Int) := by rw [hS]; simp
  have hSb : S ≤ 256 := by rw [hS]; exact Nat.mul_le_mul h16 h16
  rw [← hS] at HSEEN ⊢
  obtain ⟨a, cap, rfl, hm, hc⟩ := hv
  have HC := (show Hid (∀ c, c < n → ∃ b o, a = some ⟨b, o, none⟩ ∧ w.cell? ⟨b, o + c, none⟩ = some (.int .i64 (f c))) from hc)
  unfold maxLen at hm
  clear hc hS hev
  go_enter Try.func13, Try.ntmps13
  go_wp2
  go_loop [23] (fun i => ∃ j : Nat, j ≤ n ∧ i = .int .i64 j ∧ Hid (∀ k, k < j → 0 ≤ f k ∧ f k < ((S : Nat) : Int))) (fun i => ((n : Int) - intOf i).toNat)
  case atStart => exact ⟨0, by omega, rfl, fun m hm => by omega⟩
  case round =>
    obtain ⟨j, hj, rfl, HS⟩ := hrel
    by_cases hlt : j < n
    · obtain ⟨b, o, e9, hcell⟩ := HC.out j hlt
      subst e9
      by_cases hx : f j < 0 ∨ ((S : Nat) : Int) ≤ f j
      · have HX := (show Hid (∃ j, j < n ∧ (f j < 0 ∨ ((S : Nat) : Int) ≤ f j)) from ⟨j, hlt, hx⟩)
        generalize f j = x at hcell hx
        rcases hx with hx | hx
        · go_wp2
          go_ret2
          exact ⟨.inl ⟨rfl, HX.out⟩, Below.refl _ _⟩
        · have hx0 : ¬ x < 0 := by omega
          go_wp2
          go_ret2
          exact ⟨.inl ⟨rfl, HX.out⟩, Below.refl _ _⟩
      · have HN := (show Hid (∀ k, k < j + 1 → 0 ≤ f k ∧ f k < ((S : Nat) : Int)) from fun k hk => by
          by_cases e : k = j
          · rw [e]; omega
          · exact HS.out k (by omega))
        have h5 : ¬ f j < 0 := by omega
        have h6 : ¬ ((S : Nat) : Int) ≤ f j := by omega
        generalize f j = x at hcell h5 h6
        clear hx
        go_wp2
        exact ⟨⟨j + 1, by omega, by go_num, HN⟩, by simp [intOf]; omega⟩
    · have HALL := (show Hid (∀ k, k < n → 0 ≤ f k ∧ f k < ((S : Nat) : Int)) from fun k hk => HS.out k (by omega))
      clear HS
      go_wp2_with fail
      refine Calls.mono (HSEEN.out HALL.out) ?_
      rintro e W1 ⟨hout, hb1⟩
      have hz1 := hb1.size
      rcases hout with ⟨hR, rfl, ro⟩ | ⟨hR, rfl⟩
      · have HR := (show Hid (Gm.Right s (natF f) n) from hR)
        obtain ⟨g, hg⟩ : ∃ g, g = Gm.wy s (natF f) (4 * n) := ⟨_, rfl⟩
        rw [← hg] at ro
        have HG : Hid (g = Gm.wy s (natF f) (4 * n)) := hg
        clear hg
        have ro2 := ro.alloc (.cells #[.slice (some ⟨w.heap.size, 0, none⟩) S S] 22)
        have hct : (W1.alloc (.cells #[.slice (some ⟨w.heap.size, 0, none⟩) S S] 22)).cell? ⟨W1.heap.size, 0, none⟩ = some (.slice (some ⟨w.heap.size, 0, none⟩) S S) := by simp
        have HS2 := (show Hid (Calls Try.prog 25 #[.int .i64 (S : Nat), .func (.func 35) #[] #[.pointer (some ⟨W1.heap.size, 0, none⟩)]] (W1.alloc (.cells #[.slice (some ⟨w.heap.size, 0, none⟩) S S] 22)) fun e w' => ∃ d', e = .returned (.slice (some ⟨(W1.alloc (.cells #[.slice (some ⟨w.heap.size, 0, none⟩) S S] 22)).heap.size + 1, 0, none⟩) S S) ∧ RowAt w' ((W1.alloc (.cells #[.slice (some ⟨w.heap.size, 0, none⟩) S S] 22)).heap.size + 1) 3 (ints S d') ∧ Below (W1.alloc (.cells #[.slice (some ⟨w.heap.size, 0, none⟩) S S] 22)).heap.size (W1.alloc (.cells #[.slice (some ⟨w.heap.size, 0, none⟩) S S] 22)) w' ∧ Order S d' ∧ Srt (wayKey g) d' 0 S) from sortedByI_any _ _ _ (by intro args W; go_simp) S (by omega) _ (wayKey_ok W1.heap.size w.heap.size S hSb g _ hct ro2))
        have hb2 := hb1.alloc hz1 (.cells #[.slice (some ⟨w.heap.size, 0, none⟩) S S] 22)
        clear hR ro ro2 hct HSEEN HC
        go_wp2_with fail
        refine Calls.mono HS2.out ?_
        rintro e W5 ⟨d, rfl, ro5, hb5, ho, hsd⟩
        have hz4 := hb2.size
        have hbw5 := hb2.trans (hb5.mono hz4)
        clear hb5 HS2 hb2
        go_wp2
        go_ret2
        exact ⟨.inr ⟨HALL.out, .inr ⟨HR.out, (W1.alloc (.cells #[.slice (some ⟨w.heap.size, 0, none⟩) S S] 22)).heap.size + 1, d, by simp, ro5, by omega, ho, by rw [← HG.out]; exact hsd⟩⟩, hbw5⟩
      · have HR := (show Hid (¬ Gm.Right s (natF f) n) from hR)
        clear hR HSEEN HC
        go_wp2
        go_ret2
        exact ⟨.inr ⟨HALL.out, .inl ⟨HR.out, rfl⟩⟩, hb1.alloc hz1 _⟩
end Go.Proofs.Ytennpknkcaeafac
