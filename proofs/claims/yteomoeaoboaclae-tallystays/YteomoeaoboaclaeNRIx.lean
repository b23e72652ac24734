/-
  Contract of the document's Index (chapter 7).
-/
import Derived.Test.YteomoeaoboaclaeNRPa
import Derived.RegionTactic
namespace Go.Proofs.Yteomoeaoboaclae
open Go.RowKit PK Vg Tl

theorem v_info_ratio : (Try.prog.info? 29).map (·.size) = some 2 := by kernel_rfl
/-- A result's two variables of two cells each, laid first. -/
structure TwoAt (w W : World) (T : TypeId) : Prop where
  r : RowAt W w.heap.size T #[.int .i64 0, .int .i64 0]
  f : RowAt W (w.heap.size + 1) 25 #[.int .i64 0, .int .i64 0]
  below : Below w.heap.size w W
theorem TwoAt.new (w : World) (T : TypeId) : TwoAt w ((w.alloc (.cells #[.int .i64 0, .int .i64 0] T)).alloc (.cells #[.int .i64 0, .int .i64 0] 25)) T := by
  have := RowAt.new (w.alloc (.cells #[.int .i64 0, .int .i64 0] T)) 25 #[.int .i64 0, .int .i64 0]
  rw [World.size_alloc] at this
  exact ⟨(RowAt.new w _ _).alloc _, this, ((Below.refl _ w).alloc (Nat.le_refl _) _).alloc (by simp) _⟩
theorem TwoAt.step {w W W' : World} {T : TypeId} (h : TwoAt w W T) (hb : Below W.heap.size W W') : TwoAt w W' T := ⟨h.r.below hb h.r.lt, h.f.below hb h.f.lt, h.below.trans (hb.mono h.below.size)⟩
theorem TwoAt.alloc {w W : World} {T : TypeId} (h : TwoAt w W T) (o : Obj) : TwoAt w (W.alloc o) T := ⟨h.r.alloc o, h.f.alloc o, h.below.alloc h.below.size o⟩
theorem TwoAt.drew {w W : World} {T : TypeId} (h : TwoAt w W T) : TwoAt w W.drew T := ⟨h.r, h.f, h.below.drew⟩
theorem TwoAt.done {w W : World} {T : TypeId} (h : TwoAt w W T) (a b c d : Value) :
    RowAt ((((W.setCell ⟨w.heap.size, 0, none⟩ a).setCell ⟨w.heap.size, 1, none⟩ b).setCell ⟨w.heap.size + 1, 0, none⟩ c).setCell ⟨w.heap.size + 1, 1, none⟩ d) w.heap.size T #[a, b] ∧
    RowAt ((((W.setCell ⟨w.heap.size, 0, none⟩ a).setCell ⟨w.heap.size, 1, none⟩ b).setCell ⟨w.heap.size + 1, 0, none⟩ c).setCell ⟨w.heap.size + 1, 1, none⟩ d) (w.heap.size + 1) 25 #[c, d] ∧
    Below w.heap.size w ((((W.setCell ⟨w.heap.size, 0, none⟩ a).setCell ⟨w.heap.size, 1, none⟩ b).setCell ⟨w.heap.size + 1, 0, none⟩ c).setCell ⟨w.heap.size + 1, 1, none⟩ d) :=
  ⟨(((h.r.set 0 a).set 1 b).setOther _ _ (by simp)).setOther _ _ (by simp), (((h.f.setOther _ _ (by simp)).setOther _ _ (by simp)).set 0 c).set 1 d,
   (((h.below.setCell (p := ⟨w.heap.size, 0, none⟩) (Nat.le_refl _) _).setCell (p := ⟨w.heap.size, 1, none⟩) (Nat.le_refl _) _).setCell (p := ⟨w.heap.size + 1, 0, none⟩) (by simp) _).setCell (p := ⟨w.heap.size + 1, 1, none⟩) (by simp) _⟩
theorem TwoAt.cells {w W : World} {T : TypeId} (h : TwoAt w W T) : (W.cell? ⟨w.heap.size, 0, none⟩ = some (.int .i64 0) ∧ W.cell? ⟨w.heap.size, 1, none⟩ = some (.int .i64 0) ∧ W.frozen? ⟨w.heap.size, 0, none⟩ = false ∧ W.frozen? ⟨w.heap.size, 1, none⟩ = false) ∧ W.cell? ⟨w.heap.size + 1, 0, none⟩ = some (.int .i64 0) ∧ W.cell? ⟨w.heap.size + 1, 1, none⟩ = some (.int .i64 0) ∧ W.frozen? ⟨w.heap.size + 1, 0, none⟩ = false ∧ W.frozen? ⟨w.heap.size + 1, 1, none⟩ = false :=
  ⟨⟨h.r.cell rfl, h.r.cell rfl, h.r.frozen 0, h.r.frozen 1⟩, h.f.cell rfl, h.f.cell rfl, h.f.frozen 0, h.f.frozen 1⟩
theorem wrap_div {U y g : Nat} (hU : U ≤ 4294967296) (h : y = g) : wrap64 ((U : Int) / (y : Int)) = ((U / g : Nat) : Int) := by
  subst h
  rw [← IntWalk.i64_left, ← Int.natCast_ediv]
  have h1 := Nat.div_le_self U y
  generalize U / y = q at *
  exact IntWalk.i64_in _ (by omega)
/-- What Index says. -/
def ixE (t : List UInt8) (n : Int) : Int := if ckE t ≠ 0 then ckE t else if n < 1 ∨ 64 < n then 3 else if allP t n.toNat = 0 then 5 else 0
def ixAt (t : List UInt8) : Int := if ckE t ≠ 0 then ckAt t else 0
def ixU (t : List UInt8) (n : Int) : Nat := if ixE t n ≠ 0 then 0 else alike t n.toNat / Nat.gcd (alike t n.toNat) (allP t n.toNat)
def ixD (t : List UInt8) (n : Int) : Nat := if ixE t n ≠ 0 then 0 else allP t n.toNat / Nat.gcd (alike t n.toNat) (allP t n.toNat)
set_option maxRecDepth 100000 in
set_option maxHeartbeats 2000000 in
theorem rix_bad (t : ByteArray) (n : Int) (E A : Int) (hE : (E != 0) = true) (HT : Hid (∀ W, Calls Try.prog 23 #[.string t] W fun e w' => e = .returned (.agg #[.int .i64 E, .int .i64 A]) ∧ Below W.heap.size W w')) (w : World) : Calls Try.prog 10 #[.string t, .int .i64 n] w fun e w' => e = .returned (.tuple #[.agg #[.int .i64 0, .int .i64 0], .agg #[.int .i64 E, .int .i64 A]]) ∧ Below w.heap.size w w' := by
  go_enter Try.func10, Try.ntmps10
  go_wp2_with fail
  refine (HT.out _).mono ?_
  rintro e W1 ⟨rfl, hb⟩
  have h2 := ((TwoAt.new w 29).step hb).alloc (.cells #[.int .i64 E, .int .i64 A] 25)
  obtain ⟨⟨c0, c1, f0, f1⟩, d0, d1, g0, g1⟩ := h2.cells
  have l1 : w.heap.size + 2 ≤ W1.heap.size := by have := hb.size; simpa using this
  have n0 : ¬ W1.heap.size = w.heap.size := by omega
  have n1 : ¬ W1.heap.size = w.heap.size + 1 := by omega
  have n2 : ¬ w.heap.size = W1.heap.size := by omega
  have n3 : ¬ w.heap.size + 1 = W1.heap.size := by omega
  clear hb HT
  go_wp2_with fail
  go_region
  all_goals (try go_wp2)
  have q := h2.drew.done (.int .i64 0) (.int .i64 0) (.int .i64 E) (.int .i64 A)
  exact bodyPost_ret (v := .tuple #[.agg #[.int .i64 0, .int .i64 0], .agg #[.int .i64 E, .int .i64 A]]) (results_cells2 Try.results10 _ _ _ _ _ _ _ _ _ _ _ _ rfl rfl q.1 q.2.1 Try.underlying29 rfl v_info_ratio Try.underlying25 rfl v_info_fault) rfl ⟨rfl, (h2.done (.int .i64 0) (.int .i64 0) (.int .i64 E) (.int .i64 A)).2.2.drew⟩
set_option maxRecDepth 100000 in
set_option maxHeartbeats 2000000 in
theorem rix_range (t : ByteArray) (n : Int) (hn : n < 1 ∨ 64 < n) (HT : Hid (∀ W, Calls Try.prog 23 #[.string t] W fun e w' => e = .returned (.agg #[.int .i64 0, .int .i64 0]) ∧ Below W.heap.size W w')) (w : World) : Calls Try.prog 10 #[.string t, .int .i64 n] w fun e w' => e = .returned (.tuple #[.agg #[.int .i64 0, .int .i64 0], .agg #[.int .i64 3, .int .i64 0]]) ∧ Below w.heap.size w w' := by
  go_enter Try.func10, Try.ntmps10
  go_wp2_with fail
  refine (HT.out _).mono ?_
  rintro e W1 ⟨rfl, hb⟩
  have h2 := ((TwoAt.new w 29).step hb).alloc (.cells #[.int .i64 0, .int .i64 0] 25)
  obtain ⟨⟨c0, c1, f0, f1⟩, d0, d1, g0, g1⟩ := h2.cells
  clear hb HT
  have q := h2.done (.int .i64 0) (.int .i64 0) (.int .i64 3) (.int .i64 0)
  by_cases h1 : n < 1
  · go_wp2
    exact bodyPost_ret (v := .tuple #[.agg #[.int .i64 0, .int .i64 0], .agg #[.int .i64 3, .int .i64 0]]) (results_cells2 Try.results10 _ _ _ _ _ _ _ _ _ _ _ _ rfl rfl q.1 q.2.1 Try.underlying29 rfl v_info_ratio Try.underlying25 rfl v_info_fault) rfl ⟨rfl, q.2.2⟩
  · have h3 : 64 < n := by omega
    clear hn
    go_wp2
    exact bodyPost_ret (v := .tuple #[.agg #[.int .i64 0, .int .i64 0], .agg #[.int .i64 3, .int .i64 0]]) (results_cells2 Try.results10 _ _ _ _ _ _ _ _ _ _ _ _ rfl rfl q.1 q.2.1 Try.underlying29 rfl v_info_ratio Try.underlying25 rfl v_info_fault) rfl ⟨rfl, q.2.2⟩
set_option maxRecDepth 100000 in
set_option maxHeartbeats 2000000 in
theorem rix_none (t : ByteArray) (n A : Nat) (h1 : 1 ≤ n) (h2 : n ≤ 64) (HT : Hid (∀ W, Calls Try.prog 23 #[.string t] W fun e w' => e = .returned (.agg #[.int .i64 0, .int .i64 0]) ∧ Below W.heap.size W w')) (HP : Hid (∀ W, Calls Try.prog 28 #[.string t, .int .i64 (n : Nat)] W fun e w' => e = .returned (.tuple #[.int .i64 (A : Nat), .int .i64 0]) ∧ Below W.heap.size W w')) (w : World) : Calls Try.prog 10 #[.string t, .int .i64 (n : Nat)] w fun e w' => e = .returned (.tuple #[.agg #[.int .i64 0, .int .i64 0], .agg #[.int .i64 5, .int .i64 0]]) ∧ Below w.heap.size w w' := by
  have h3 : ¬ (n : Int) < 1 := by omega
  have h4 : ¬ 64 < (n : Int) := by omega
  go_enter Try.func10, Try.ntmps10
  go_wp2_with fail
  refine (HT.out _).mono ?_
  rintro e W1 ⟨rfl, hb⟩
  have h2 := ((TwoAt.new w 29).step hb).alloc (.cells #[.int .i64 0, .int .i64 0] 25)
  clear hb HT
  go_wp2_with fail
  refine (HP.out _).mono ?_
  rintro e W2 ⟨rfl, hb⟩
  have h5 := h2.step hb
  obtain ⟨⟨c0, c1, f0, f1⟩, d0, d1, g0, g1⟩ := h5.cells
  clear hb HP h2
  have q := h5.done (.int .i64 0) (.int .i64 0) (.int .i64 5) (.int .i64 0)
  go_wp2
  exact bodyPost_ret (v := .tuple #[.agg #[.int .i64 0, .int .i64 0], .agg #[.int .i64 5, .int .i64 0]]) (results_cells2 Try.results10 _ _ _ _ _ _ _ _ _ _ _ _ rfl rfl q.1 q.2.1 Try.underlying29 rfl v_info_ratio Try.underlying25 rfl v_info_fault) rfl ⟨rfl, q.2.2⟩
set_option maxRecDepth 100000 in
set_option maxHeartbeats 2000000 in
theorem rix_ok (t : ByteArray) (n U D : Nat) (h1 : 1 ≤ n) (h2 : n ≤ 64) (hU : U ≤ 4294967296) (hD : D ≤ 4294967296) (h0 : 0 < D) (HT : Hid (∀ W, Calls Try.prog 23 #[.string t] W fun e w' => e = .returned (.agg #[.int .i64 0, .int .i64 0]) ∧ Below W.heap.size W w')) (HP : Hid (∀ W, Calls Try.prog 28 #[.string t, .int .i64 (n : Nat)] W fun e w' => e = .returned (.tuple #[.int .i64 (U : Nat), .int .i64 (D : Nat)]) ∧ Below W.heap.size W w')) (w : World) : Calls Try.prog 10 #[.string t, .int .i64 (n : Nat)] w fun e w' => e = .returned (.tuple #[.agg #[.int .i64 ((U / Nat.gcd U D : Nat) : Int), .int .i64 ((D / Nat.gcd U D : Nat) : Int)], .agg #[.int .i64 0, .int .i64 0]]) ∧ Below w.heap.size w w' := by
  have h3 : ¬ (n : Int) < 1 := by omega
  have h4 : ¬ 64 < (n : Int) := by omega
  have h5 : ((D : Int) == 0) = false := beq_false_of_ne (by omega)
  go_enter Try.func10, Try.ntmps10
  go_wp2_with fail
  refine (HT.out _).mono ?_
  rintro e W1 ⟨rfl, hb⟩
  have h6 := ((TwoAt.new w 29).step hb).alloc (.cells #[.int .i64 0, .int .i64 0] 25)
  clear hb HT
  go_wp2_with fail
  refine (HP.out _).mono ?_
  rintro e W2 ⟨rfl, hb⟩
  have h7 := h6.step hb
  clear hb HP h6
  have HG0 : Hid (Nat.gcd U D = Nat.gcd U D) := rfl
  go_wp2_with fail
  go_loopw [9, 10] (fun a b W => ∃ x y : Nat, a = .int .i64 (x : Nat) ∧ b = .int .i64 (y : Nat) ∧ x ≤ 4294967296 ∧ y ≤ 4294967296 ∧ 0 < y ∧ Hid (Nat.gcd x y = Nat.gcd U D) ∧ W2 = W) (fun a _ _ => (intOf a).toNat)
  case atStart => exact ⟨U, D, rfl, rfl, hU, hD, h0, rfl, rfl⟩
  case round =>
    obtain ⟨x, y, rfl, rfl, hx, hy, hy0, HG, rfl⟩ := hrel
    by_cases hlt : 0 < x
    · have hlt2 : (0 : Int) < (x : Int) := by omega
      have hx0 : ((x : Int) == 0) = false := beq_false_of_ne (by omega)
      have hx1 : (x : Int) ≠ 0 := by omega
      have hml := Nat.mod_lt y hlt
      have HG2 : Hid (Nat.gcd (y % x) x = Nat.gcd U D) := by rw [Hid, gcd_step]; exact HG.out
      have hmod : (y : Int) % (x : Int) = ((y % x : Nat) : Int) := by omega
      have HTM : Hid ((y : Int).tmod (x : Int) = ((y % x : Nat) : Int)) := by rw [Hid, Int.tmod_eq_emod_of_nonneg (by omega), hmod]
      clear hmod
      go_wp2_with fail
      go_roundw
      case rel => exact ⟨y % x, x, by first | rfl | rw [HTM.out], rfl, by omega, hx, hlt, HG2.out, by first | rfl | trivial⟩
      case measure => simp [intOf]; omega
    · obtain rfl : x = 0 := by omega
      have HY : Hid (y = Nat.gcd U D) := by rw [Hid, ← HG.out, Nat.gcd_zero_left]
      have hy1 : ((y : Int) == 0) = false := beq_false_of_ne (by omega)
      have hy2 : (y : Int) ≠ 0 := by omega
      obtain ⟨⟨c0, c1, f0, f1⟩, d0, d1, g0, g1⟩ := h7.cells
      have q := h7.drew.done (.int .i64 (wrap64 ((U : Int) / (y : Int)))) (.int .i64 (wrap64 ((D : Int) / (y : Int)))) (.int .i64 0) (.int .i64 0)
      have HWU : Hid (wrap64 ((U : Int) / (y : Int)) = ((U / Nat.gcd U D : Nat) : Int)) := wrap_div hU HY.out
      have HWD : Hid (wrap64 ((D : Int) / (y : Int)) = ((D / Nat.gcd U D : Nat) : Int)) := wrap_div hD HY.out
      go_wp2_with fail
      go_region
      all_goals (try go_wp2)
      generalize wrap64 ((U : Int) / (y : Int)) = X1 at *
      generalize wrap64 ((D : Int) / (y : Int)) = X2 at *
      exact bodyPost_ret (v := .tuple #[.agg #[.int .i64 X1, .int .i64 X2], .agg #[.int .i64 0, .int .i64 0]]) (results_cells2 Try.results10 _ _ _ _ _ _ _ _ _ _ _ _ rfl rfl q.1 q.2.1 Try.underlying29 rfl v_info_ratio Try.underlying25 rfl v_info_fault) rfl ⟨by rw [HWU.out, HWD.out], (h7.done (.int .i64 X1) (.int .i64 X2) (.int .i64 0) (.int .i64 0)).2.2.drew⟩
theorem rix_any (t : ByteArray) (n : Int) (w : World) : Calls Try.prog 10 #[.string t, .int .i64 n] w fun e w' => e = .returned (.tuple #[.agg #[.int .i64 (ixU t.data.toList n : Nat), .int .i64 (ixD t.data.toList n : Nat)], .agg #[.int .i64 (ixE t.data.toList n), .int .i64 (ixAt t.data.toList)]]) ∧ Below w.heap.size w w' := by
  have hsz := Pl.size_len t
  unfold ixU ixD ixAt
  by_cases hk : ckE t.data.toList = 0
  · have h0 : ¬ ckE t.data.toList ≠ 0 := fun h => h hk
    rcases ck_cases t.data.toList with ⟨_, k1, k2, k3⟩ | k1
    · have HT : ∀ W, Calls Try.prog 23 #[.string t] W fun e w' => e = .returned (.agg #[.int .i64 0, .int .i64 0]) ∧ Below W.heap.size W w' := fun W => by have := rcheck_all t W; rw [hk, k1] at this; exact this
      rw [if_neg h0]
      by_cases hn : n < 1 ∨ 64 < n
      · have e : ixE t.data.toList n = 3 := by unfold ixE; rw [if_neg h0, if_pos hn]
        rw [e, if_pos (by decide), if_pos (by decide)]
        exact rix_range t n hn HT w
      · obtain ⟨m, rfl⟩ : ∃ m : Nat, n = m := ⟨n.toNat, by omega⟩
        have hp := fun W => rpairs_any t (ls_of k3) (by omega) m (by omega) (by omega) W
        by_cases hz : allP t.data.toList m = 0
        · have e : ixE t.data.toList (m : Int) = 5 := by unfold ixE; rw [if_neg h0, if_neg hn, Int.toNat_natCast, if_pos hz]
          rw [e, if_pos (by decide), if_pos (by decide)]
          rw [hz] at hp
          exact rix_none t m _ (by omega) (by omega) HT hp w
        · have e : ixE t.data.toList (m : Int) = 0 := by unfold ixE; rw [if_neg h0, if_neg hn, Int.toNat_natCast, if_neg hz]
          rw [e, if_neg (by decide), if_neg (by decide), Int.toNat_natCast]
          have hb : allP t.data.toList m ≤ 4294967296 := by
            by_cases h1 : m = 1
            · rw [h1]; exact Nat.le_trans (allP_one _ k2) (by decide)
            · exact Nat.le_trans (allP_more _ k2 (by omega)) (by decide)
          have ha := alike_le (ls_of k3) m
          exact rix_ok t m _ _ (by omega) (by omega) (by omega) hb (by omega) HT hp w
    · rw [hk] at k1; cases k1
  · have e : ixE t.data.toList n = ckE t.data.toList := by unfold ixE; rw [if_pos hk]
    rw [e, if_pos hk, if_pos hk, if_pos hk]
    exact rix_bad t n _ _ (by simpa using hk) (fun W => rcheck_all t W) w
end Go.Proofs.Yteomoeaoboaclae
