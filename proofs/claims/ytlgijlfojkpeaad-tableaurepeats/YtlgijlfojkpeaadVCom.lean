/-
  Contracts of Common, the program's and the document's, and of the document's Same.
-/
import Derived.Test.YtlgijlfojkpeaadVRep
namespace Go.Proofs.Ytlgijlfojkpeaad
open Go.RowKit PK Vg

/-- The greatest number that divides the first m, if all of them are above 0. -/
def comR (g : Nat → Int) : Nat → Option Nat
  | 0 => some 0
  | m + 1 => match comR g m with | none => none | some d => if g m < 1 then none else some (Nat.gcd d (g m).toNat)
theorem comR_none (g : Nat → Int) {m : Nat} (h : comR g m = none) : ∀ n, m ≤ n → comR g n = none
  | 0, hn => by have : m = 0 := by omega
                subst this; exact h
  | n + 1, hn => by
    by_cases e : m = n + 1
    · subst e; exact h
    · have := comR_none g h n (by omega)
      simp [comR, this]
theorem comR_bad (g : Nat → Int) {m d : Nat} (h : comR g m = some d) (hb : g m < 1) : comR g (m + 1) = none := by simp [comR, h, hb]
theorem comR_next (g : Nat → Int) {m d x : Nat} (h : comR g m = some d) (hx : g m = x) (hb : 1 ≤ x) : comR g (m + 1) = some (Nat.gcd d x) := by
  have h2 : ¬ g m < 1 := by omega
  simp only [comR, h, if_neg h2]
  rw [hx, Int.toNat_natCast]
def comN (g : Nat → Int) (n : Nat) : Int := match comR g n with | none => 0 | some d => if n = 0 then 0 else d
def comE (g : Nat → Int) (n : Nat) : Int := match comR g n with | none => 3 | some _ => if n = 0 then 6 else 0
theorem com_none {g : Nat → Int} {n : Nat} (h : comR g n = none) : comN g n = 0 ∧ comE g n = 3 := by unfold comN comE; rw [h]; exact ⟨rfl, rfl⟩
theorem com_some {g : Nat → Int} {n d : Nat} (h : comR g n = some d) (hn : n ≠ 0) : comN g n = d ∧ comE g n = 0 := by unfold comN comE; rw [h]; simp [hn]
theorem com_zero (g : Nat → Int) : comN g 0 = 0 ∧ comE g 0 = 6 := ⟨rfl, rfl⟩
set_option maxRecDepth 100000 in
set_option maxHeartbeats 1000000 in
theorem divisor_any (a b : Nat) (w : World) : Calls Try.prog 18 #[.int .i64 (a : Nat), .int .i64 (b : Nat)] w fun e w' => e = .returned (.int .i64 (Nat.gcd a b : Nat)) ∧ Below w.heap.size w w' := by
  go_enter Try.func18, Try.ntmps18
  go_wp2_with fail
  go_loopw [0, 1] (fun p q W => ∃ x y : Nat, p = .int .i64 x ∧ q = .int .i64 y ∧ Hid (Nat.gcd x y = Nat.gcd a b) ∧ Below w.heap.size w W) (fun _ q _ => (intOf q).toNat)
  case atStart => exact ⟨a, b, rfl, rfl, rfl, Below.refl _ _⟩
  case round =>
    obtain ⟨x, y, rfl, rfl, HG, hb⟩ := hrel
    by_cases h0 : y = 0
    · subst h0
      have HX : Hid ((x : Int) = (Nat.gcd a b : Nat)) := by rw [Hid, ← HG.out, Nat.gcd_zero_right]
      go_wp2
      go_ret
      exact ⟨ret_int HX.out, hb⟩
    · have h0I : ((y : Int) == 0) = false := beq_false_of_ne (by omega)
      have h0J : ¬ ((y : Int) = 0) := by omega
      have hr : (x : Int).tmod (y : Int) = ((x % y : Nat) : Int) := by rw [Int.tmod_eq_emod_of_nonneg (by omega)]; omega
      have hlt : x % y < y := Nat.mod_lt _ (by omega)
      have HN : Hid (Nat.gcd y (x % y) = Nat.gcd a b) := by rw [Hid, ← HG.out, Nat.gcd_comm x y, Nat.gcd_rec y x, Nat.gcd_comm]
      go_wp2_with fail
      go_quiet (fail)
      go_wp2
      go_roundw
      case rel => exact ⟨y, x % y, rfl, by first | rfl | (rw [← hr]; rfl) | simp, HN.out, ⟨hb.os, hb.tape, hb.output, hb.size, hb.block⟩⟩
      case measure => simp [intOf] <;> omega
set_option maxRecDepth 100000 in
set_option maxHeartbeats 1000000 in
theorem vcom_any (v : Value) (n : Nat) (f g : Nat → Int) (w : World) (hv : PairsAt w v n f g) : Calls Try.prog 9 #[v] w fun e w' => e = .returned (.tuple #[.int .i64 (comN g n), .int .i64 (comE g n)]) ∧ Below w.heap.size w w' := by
  obtain ⟨av, cv, rfl, hvm, hvc⟩ := hv
  have HVC := (show Hid (∀ c, c < n → ∃ b o, av = some ⟨b, o, none⟩ ∧ w.cell? ⟨b, o + c * 2, none⟩ = some (.int .i64 (f c)) ∧ w.cell? ⟨b, o + c * 2 + 1, none⟩ = some (.int .i64 (g c))) from hvc)
  unfold maxLen at hvm
  clear hvc
  go_enter Try.func9, Try.ntmps9
  go_wp2_with fail
  go_loopw [9, 4] (fun i c W => ∃ m d : Nat, m ≤ n ∧ i = .int .i64 m ∧ c = .int .i64 d ∧ Hid (comR g m = some d) ∧ Below w.heap.size w W) (fun i _ _ => ((n : Int) - intOf i).toNat)
  case atStart => exact ⟨0, 0, by omega, rfl, rfl, rfl, Below.refl _ _⟩
  case round =>
    obtain ⟨m, d, hm, rfl, rfl, HC, hb⟩ := hrel
    by_cases hlt : m < n
    · have hltI : (m : Int) < (n : Int) := by omega
      obtain ⟨bb, o, e, x0, y0⟩ := HVC.out m hlt
      subst e
      have x1 := (hb.cell (p := ⟨bb, o + m * 2, none⟩) (cell_block x0)).trans x0
      have y1 := (hb.cell (p := ⟨bb, o + m * 2 + 1, none⟩) (cell_block y0)).trans y0
      clear x0 y0
      by_cases hg : g m < 1
      · have HZ := (show Hid (comN g n = 0 ∧ comE g n = 3) from com_none (comR_none g (comR_bad g HC.out hg) n (by omega)))
        generalize g m = y at *
        generalize f m = x at *
        have hbA := hb.alloc hb.size (.cells #[.int .i64 x, .int .i64 y] 38)
        go_wp2
        go_ret2
        exact ⟨by rw [HZ.out.1, HZ.out.2]; rfl, hbA⟩
      · obtain ⟨y, hy⟩ : ∃ y : Nat, g m = y := ⟨(g m).toNat, by omega⟩
        have HN := (show Hid (comR g (m + 1) = some (Nat.gcd d y)) from comR_next g HC.out hy (by omega))
        have hy1 : ¬ (y : Int) < 1 := by omega
        rw [hy] at y1
        generalize f m = x at *
        have hbA := hb.alloc hb.size (.cells #[.int .i64 x, .int .i64 (y : Nat)] 38)
        clear hy hg
        go_wp2_with fail
        refine (divisor_any d y _).mono ?_
        rintro e W1 ⟨rfl, hb1⟩
        have hbB := hbA.trans (hb1.mono hbA.size)
        clear hb1
        go_wp2
        go_roundw
        case rel => exact ⟨m + 1, _, by omega, by go_num, rfl, HN.out, hbB⟩
        case measure => simp [intOf] <;> omega
    · obtain rfl : m = n := by omega
      by_cases h0 : m = 0
      · subst h0
        go_wp2
        go_ret2
        exact ⟨rfl, hb⟩
      · have HZ := (show Hid (comN g m = d ∧ comE g m = 0) from com_some HC.out h0)
        have h0I : ((m : Int) == 0) = false := beq_false_of_ne (by omega)
        go_wp2
        go_ret2
        exact ⟨by rw [HZ.out.1, HZ.out.2]; rfl, hb⟩
set_option maxRecDepth 100000 in
set_option maxHeartbeats 1000000 in
theorem rcom_any (v : Value) (n : Nat) (f g : Nat → Int) (w : World) (hv : PairsAt w v n f g) : Calls Try.prog 10 #[v] w fun e w' => e = .returned (.tuple #[.int .i64 (comN g n), .int .i64 (comE g n)]) ∧ Below w.heap.size w w' := by
  obtain ⟨av, cv, rfl, hvm, hvc⟩ := hv
  have HVC := (show Hid (∀ c, c < n → ∃ b o, av = some ⟨b, o, none⟩ ∧ w.cell? ⟨b, o + c * 2, none⟩ = some (.int .i64 (f c)) ∧ w.cell? ⟨b, o + c * 2 + 1, none⟩ = some (.int .i64 (g c))) from hvc)
  unfold maxLen at hvm
  clear hvc
  go_enter Try.func10, Try.ntmps10
  go_wp2_with fail
  go_loopw [11, 4] (fun i c W => ∃ m d : Nat, m ≤ n ∧ i = .int .i64 m ∧ c = .int .i64 d ∧ Hid (comR g m = some d) ∧ Below w.heap.size w W) (fun i _ _ => ((n : Int) - intOf i).toNat)
  case atStart => exact ⟨0, 0, by omega, rfl, rfl, rfl, Below.refl _ _⟩
  case round =>
    obtain ⟨m, d, hm, rfl, rfl, HC, hb⟩ := hrel
    by_cases hlt : m < n
    · have hltI : (m : Int) < (n : Int) := by omega
      obtain ⟨bb, o, e, x0, y0⟩ := HVC.out m hlt
      subst e
      have x1 := (hb.cell (p := ⟨bb, o + m * 2, none⟩) (cell_block x0)).trans x0
      have y1 := (hb.cell (p := ⟨bb, o + m * 2 + 1, none⟩) (cell_block y0)).trans y0
      clear x0 y0
      by_cases hg : g m < 1
      · have HZ := (show Hid (comN g n = 0 ∧ comE g n = 3) from com_none (comR_none g (comR_bad g HC.out hg) n (by omega)))
        have hg0 : g m ≤ 0 := by omega
        generalize g m = y at *
        generalize f m = x at *
        have hbA := hb.alloc hb.size (.cells #[.int .i64 x, .int .i64 y] 38)
        go_wp2
        go_ret2
        exact ⟨by rw [HZ.out.1, HZ.out.2]; rfl, hbA⟩
      · obtain ⟨y, hy⟩ : ∃ y : Nat, g m = y := ⟨(g m).toNat, by omega⟩
        have HN := (show Hid (comR g (m + 1) = some (Nat.gcd d y)) from comR_next g HC.out hy (by omega))
        have hy1 : ¬ (y : Int) ≤ 0 := by omega
        rw [hy] at y1
        generalize f m = x at *
        have hbA := hb.alloc hb.size (.cells #[.int .i64 x, .int .i64 (y : Nat)] 38)
        clear hy hg hb
        go_wp2_with fail
        go_quiet (fail)
        have hbY : Below w.heap.size w ((wr.alloc (.cells #[.int .i64 x, .int .i64 (y : Nat)] 38)).drewN nq) := ⟨hbA.os, hbA.tape, hbA.output, hbA.size, hbA.block⟩
        generalize (wr.alloc (.cells #[.int .i64 x, .int .i64 (y : Nat)] 38)).drewN nq = Y at *
        clear hbA x1 y1
        go_wp2_with fail
        go_loopw [7, 8] (fun p q W => ∃ a b : Nat, p = .int .i64 a ∧ q = .int .i64 b ∧ Hid (Nat.gcd a b = Nat.gcd d y) ∧ W = Y) (fun p _ _ => (intOf p).toNat)
        case atStart => exact ⟨d, y, rfl, rfl, rfl, rfl⟩
        case round =>
          obtain ⟨a, b, rfl, rfl, HG, rfl⟩ := hrel
          by_cases h0 : a = 0
          · subst h0
            have HX : Hid ((b : Nat) = Nat.gcd d y) := by rw [Hid, ← HG.out, Nat.gcd_zero_left]
            rw [← HX.out] at HN
            go_wp2
            go_roundw
            case rel => exact ⟨m + 1, _, by omega, by go_num, rfl, HN.out, hbY⟩
            case measure => simp [intOf] <;> omega
          · have h0I : (0 : Int) < (a : Int) := by omega
            have h0J : ¬ ((a : Int) = 0) := by omega
            have hr : (b : Int).tmod (a : Int) = ((b % a : Nat) : Int) := by rw [Int.tmod_eq_emod_of_nonneg (by omega)]; omega
            have hlt2 : b % a < a := Nat.mod_lt _ (by omega)
            have HG2 : Hid (Nat.gcd (b % a) a = Nat.gcd d y) := by rw [Hid, ← HG.out, Nat.gcd_rec a b]
            go_wp2
            go_roundw
            case rel => exact ⟨b % a, a, by first | rfl | (rw [← hr]; rfl) | simp, rfl, HG2.out, trivial⟩
            case measure => simp [intOf] <;> omega
    · obtain rfl : m = n := by omega
      by_cases h0 : m = 0
      · subst h0
        go_wp2
        go_ret2
        exact ⟨rfl, hb⟩
      · have HZ := (show Hid (comN g m = d ∧ comE g m = 0) from com_some HC.out h0)
        have h0I : ((m : Int) == 0) = false := beq_false_of_ne (by omega)
        go_wp2
        go_ret2
        exact ⟨by rw [HZ.out.1, HZ.out.2]; rfl, hb⟩
set_option maxRecDepth 100000 in
set_option maxHeartbeats 1000000 in
theorem vsame_ok (u v : Value) (n : Nat) (f g : Nat → Int) (w : World) (hu : PairsAt w u n f g) (hv : PairsAt w v n f g) : Calls Try.prog 8 #[u, v] w fun e w' => e = .returned (.bool true) ∧ Below w.heap.size w w' := by
  obtain ⟨a, ca, rfl, hvm, hca⟩ := hu
  obtain ⟨b, cb, rfl, _, hcb⟩ := hv
  have HA := (show Hid (∀ c, c < n → ∃ b o, a = some ⟨b, o, none⟩ ∧ w.cell? ⟨b, o + c * 2, none⟩ = some (.int .i64 (f c)) ∧ w.cell? ⟨b, o + c * 2 + 1, none⟩ = some (.int .i64 (g c))) from hca)
  have HB := (show Hid (∀ c, c < n → ∃ b' o, b = some ⟨b', o, none⟩ ∧ w.cell? ⟨b', o + c * 2, none⟩ = some (.int .i64 (f c)) ∧ w.cell? ⟨b', o + c * 2 + 1, none⟩ = some (.int .i64 (g c))) from hcb)
  unfold maxLen at hvm
  clear hca hcb
  go_enter Try.func8, Try.ntmps8
  go_wp2_with fail
  go_loopw [13] (fun i W => ∃ m : Nat, m ≤ n ∧ i = .int .i64 m ∧ Below w.heap.size w W) (fun i _ => ((n : Int) - intOf i).toNat)
  case atStart => exact ⟨0, by omega, rfl, Below.refl _ _⟩
  case round =>
    obtain ⟨m, hm, rfl, hb⟩ := hrel
    by_cases hlt : m < n
    · have hltI : (m : Int) < (n : Int) := by omega
      obtain ⟨b1, o1, e1, x1, y1⟩ := HA.out m hlt
      obtain ⟨b2, o2, e2, x2, y2⟩ := HB.out m hlt
      subst e1 e2
      have c1 := (hb.cell (cell_block x1)).trans x1
      have d1 := (hb.cell (cell_block y1)).trans y1
      have c2 := (hb.cell (cell_block x2)).trans x2
      have d2 := (hb.cell (cell_block y2)).trans y2
      generalize f m = x at *
      generalize g m = y at *
      clear x1 y1 x2 y2
      go_wp2_with fail
      go_quiet (fail)
      go_wp2
      go_roundw
      case rel => exact ⟨m + 1, by omega, by go_num, ⟨hb.os, hb.tape, hb.output, hb.size, hb.block⟩⟩
      case measure => simp [intOf] <;> omega
    · go_wp2
      go_ret
      exact ⟨rfl, hb⟩
end Go.Proofs.Ytlgijlfojkpeaad
