/-
  Contracts of hill.cofactor and hill.det.
-/
import Derived.Test.YtlgjgppojdamiabHMade
import Derived.Deep.QuietTactic
import Derived.BigQuiet
namespace Go.Proofs.Ytlgjgppojdamiab
open Go.RowKit PK

/-- Counted as if gone were not there. -/
def skip (i gone : Nat) : Nat := if i < gone then i else i + 1
theorem skip_le {i gone n : Nat} (hi : i < n) : skip i gone < n + 1 := by unfold skip; split <;> omega
/-- What is left without row y and place x. -/
def minor (Z : Nat → Nat → Int) (y x : Nat) : Nat → Nat → Int := fun i j => Z (skip i y) (skip j x)
/-- With its sign, modulo 26. -/
def signed (s : Nat) (d : Int) : Int := if s % 2 = 1 then (26 - d) % 26 else d
/-- The determinant along the first row, modulo 26. -/
def detL : Nat → (Nat → Nat → Int) → Int
  | 0, _ => 1
  | n + 1, Z => sumTo (Z 0) (fun x => signed (0 + x) (detL n (minor Z 0 x))) (n + 1) % 26
def cofL (n : Nat) (Z : Nat → Nat → Int) (y x : Nat) : Int := signed (y + x) (detL n (minor Z y x))
theorem detL_bound : ∀ n Z, 0 ≤ detL n Z ∧ detL n Z < 26
  | 0, _ => by show (0:Int) ≤ 1 ∧ (1:Int) < 26; omega
  | n + 1, Z => ⟨Int.emod_nonneg _ (by decide), Int.emod_lt_of_pos _ (by decide)⟩
theorem signed_bound (s : Nat) {d : Int} (h : 0 ≤ d ∧ d < 26) : 0 ≤ signed s d ∧ signed s d < 26 := by
  unfold signed
  split <;> omega
theorem cofL_bound (n : Nat) (Z : Nat → Nat → Int) (y x : Nat) : 0 ≤ cofL n Z y x ∧ cofL n Z y x < 26 := signed_bound _ (detL_bound _ _)

theorem past_quiet (i g : Nat) (hi : i ≤ 1000) (w : World) : Calls Try.prog 67 #[.int .i64 (i : Nat), .int .i64 (g : Nat)] w fun e w' => e = .returned (.int .i64 ((skip i g : Nat) : Int)) ∧ w' = w :=
  (past_any i g hi w).mono fun _ _ ⟨a, b⟩ => ⟨a, b.symm⟩
set_option maxHeartbeats 1000000 in
theorem cof1_any (n : Nat) (hn : n < 4) (Z : Nat → Nat → Int) (v : Value) (w : World) (hm : MatAt w v (n + 1) (fun _ => n + 1) Z) (y x : Nat) (bm b1 b2 : Nat)
    (hbm : w.cell? ⟨bm, 0, none⟩ = some v) (hb1 : w.cell? ⟨b1, 0, none⟩ = some (.int .i64 (y : Nat))) (hb2 : w.cell? ⟨b2, 0, none⟩ = some (.int .i64 (x : Nat))) (i j : Nat) (hi : i < n) (hj : j < n) :
    Calls Try.prog 66 #[.int .i64 (i : Nat), .int .i64 (j : Nat), .pointer (some ⟨bm, 0, none⟩), .pointer (some ⟨b1, 0, none⟩), .pointer (some ⟨b2, 0, none⟩)] w fun e w' => e = .returned (.int .i64 (minor Z y x i j)) ∧ Below w.heap.size w w' := by
  have h1 := skip_le (gone := y) hi
  have h2 := skip_le (gone := x) hj
  obtain ⟨b, o, cap, R, rfl, _, hc, hr⟩ := hm.form (by omega)
  have hrow := hc _ h1
  obtain ⟨b', o', cap', e', _, hnum⟩ := (hr _ h1).form (by omega)
  rw [e'] at hrow
  have hcell := hnum _ h2
  have HV : Hid (minor Z y x i j = Z (skip i y) (skip j x)) := rfl
  clear hc hr hnum hm e'
  have hr1 : ((skip i y : Nat) : Int) < ((n + 1 : Nat) : Int) := by omega
  have hc1 : ((skip j x : Nat) : Int) < ((n + 1 : Nat) : Int) := by omega
  go_enter Try.func66, Try.ntmps66
  go_wp2
  go_quiet (refine Calls.quiet_of_same (past_quiet _ _ (by omega) _))
  go_wp2
  go_ret
  exact ⟨ret_int HV.out.symm, rfl, rfl, rfl, Nat.le_refl _, fun _ _ => rfl⟩
/-- Three variables, made one behind the other. -/
theorem three_new (w : World) (c1 c2 c3 : Array Value) (T1 T2 T3 : TypeId) : RowAt (((w.alloc (.cells c1 T1)).alloc (.cells c2 T2)).alloc (.cells c3 T3)) w.heap.size T1 c1 ∧ RowAt (((w.alloc (.cells c1 T1)).alloc (.cells c2 T2)).alloc (.cells c3 T3)) (w.heap.size + 1) T2 c2 ∧ RowAt (((w.alloc (.cells c1 T1)).alloc (.cells c2 T2)).alloc (.cells c3 T3)) (w.heap.size + 1 + 1) T3 c3 ∧
    Below w.heap.size w (((w.alloc (.cells c1 T1)).alloc (.cells c2 T2)).alloc (.cells c3 T3)) ∧ w.heap.size + 3 ≤ (((w.alloc (.cells c1 T1)).alloc (.cells c2 T2)).alloc (.cells c3 T3)).heap.size := by
  have h2 := (RowAt.new (w.alloc (.cells c1 T1)) T2 c2).alloc (.cells c3 T3)
  have h3 := RowAt.new ((w.alloc (.cells c1 T1)).alloc (.cells c2 T2)) T3 c3
  simp only [World.size_alloc] at h2 h3
  exact ⟨((RowAt.new w _ _).alloc _).alloc _, h2, h3, (((Below.refl _ _).alloc (Nat.le_refl _) _).alloc (by simp) _).alloc (by simp; omega) _, by simp⟩
/-- What is to be shown of det, at n rows. -/
def DetOk (n : Nat) : Prop := ∀ (Z : Nat → Nat → Int) (v : Value) (w : World), MatAt w v n (fun _ => n) Z → (∀ r, r < n → ∀ c, c < n → 0 ≤ Z r c ∧ Z r c < 26) →
  Calls Try.prog 41 #[v] w fun e w' => e = .returned (.int .i64 (detL n Z)) ∧ Below w.heap.size w w'
set_option maxHeartbeats 1000000 in
theorem cofactor_of (n : Nat) (hn : n < 4) (ih : DetOk n) (Z : Nat → Nat → Int) (v : Value) (w : World) (hm : MatAt w v (n + 1) (fun _ => n + 1) Z) (hZ : ∀ r, r < n + 1 → ∀ c, c < n + 1 → 0 ≤ Z r c ∧ Z r c < 26) (y x : Nat) (hy : y < n + 1) (hx : x < n + 1) :
    Calls Try.prog 46 #[v, .int .i64 (y : Nat), .int .i64 (x : Nat)] w fun e w' => e = .returned (.int .i64 (cofL n Z y x)) ∧ Below w.heap.size w w' := by
  have hmf : ∀ (fn : Fn) (first cap : Array Value) (w : World), (Instr.makeFunc fn first cap).run Try.prog w = .ok (.func fn first cap) w := fun _ _ _ _ => rfl
  have HM := (show Hid (MatAt w v (n + 1) (fun _ => n + 1) Z) from hm)
  obtain ⟨a, cap, rfl, _⟩ := hm.len
  have HZ := (show Hid (∀ r, r < n → ∀ c, c < n → 0 ≤ minor Z y x r c ∧ minor Z y x r c < 26) from fun r hr c hc => hZ _ (skip_le hr) _ (skip_le hc))
  have HIH : Hid (DetOk n) := ih
  clear hm hZ ih
  go_enter Try.func46, Try.ntmps46
  go_wp2_with fail
  have ha1 := ((HM.out.alloc (.cells #[.slice a (n + 1) cap] 41)).alloc (.cells #[.int .i64 (y : Nat)] 3)).alloc (.cells #[.int .i64 (x : Nat)] 3)
  obtain ⟨q1, q2, q3, hb, hsz⟩ := three_new w #[.slice a (n + 1) cap] #[.int .i64 (y : Nat)] #[.int .i64 (x : Nat)] 41 3 3
  generalize ((w.alloc (.cells #[.slice a (n + 1) cap] 41)).alloc (.cells #[.int .i64 (y : Nat)] 3)).alloc (.cells #[.int .i64 (x : Nat)] 3) = W0 at *
  refine Calls.mono (made_any n (by omega) (minor Z y x) 66 #[.pointer (some ⟨w.heap.size, 0, none⟩), .pointer (some ⟨w.heap.size + 1, 0, none⟩), .pointer (some ⟨w.heap.size + 1 + 1, 0, none⟩)] W0 (by intro args W; go_simp) (fun i hi j hj W hW => cof1_any n hn Z _ W (ha1.below hW) y x _ _ _ ((q1.below hW q1.lt).cell rfl) ((q2.below hW q2.lt).cell rfl) ((q3.below hW q3.lt).cell rfl) i j hi hj)) ?_
  rintro e W1 ⟨v', rfl, hv', hb1⟩
  replace q2 := q2.below hb1 q2.lt
  replace q3 := q3.below hb1 q3.lt
  have hz1 := hb1.size
  replace hb := hb.trans (hb1.mono (by omega))
  clear hb1 q1 ha1
  go_wp2_with fail
  refine Calls.mono (HIH.out (minor Z y x) v' W1 hv' HZ.out) ?_
  rintro e W2 ⟨rfl, hb2⟩
  have c2 := (q2.below hb2 q2.lt).cell (i := 0) rfl
  have c3 := (q3.below hb2 q3.lt).cell (i := 0) rfl
  have hdb := detL_bound n (minor Z y x)
  have HV : Hid (cofL n Z y x = signed (y + x) (detL n (minor Z y x))) := rfl
  replace hb := hb.trans (hb2.mono (by omega))
  clear hb2 q2 q3
  generalize detL n (minor Z y x) = d at *
  by_cases hs : (y + x) % 2 = 1
  · have HS : Hid (signed (y + x) d = (26 - d) % 26) := by rw [Hid]; unfold signed; rw [if_pos hs]
    have hsi : (((y : Nat) : Int) + ((x : Nat) : Int)) % 2 = 1 := by omega
    clear hs
    go_wp2
    go_ret
    exact ⟨ret_int (by rw [HV.out, HS.out]), hb⟩
  · have HS : Hid (signed (y + x) d = d) := by rw [Hid]; unfold signed; rw [if_neg hs]
    have hsi : (((y : Nat) : Int) + ((x : Nat) : Int)) % 2 = 0 := by omega
    clear hs
    go_wp2
    go_ret
    exact ⟨ret_int (by rw [HV.out, HS.out]), hb⟩
theorem det_zero : DetOk 0 := fun Z v w hm _ => by
  obtain ⟨a, cap, rfl, _⟩ := hm.len
  go_enter Try.func41, Try.ntmps41
  go_wp2
  go_ret
  exact ⟨rfl, (Below.refl _ _).alloc (Nat.le_refl _) _⟩
set_option maxHeartbeats 1000000 in
theorem det1_any (n : Nat) (hn : n < 4) (ih : DetOk n) (Z : Nat → Nat → Int) (v : Value) (w : World) (hm : MatAt w v (n + 1) (fun _ => n + 1) Z) (hZ : ∀ r, r < n + 1 → ∀ c, c < n + 1 → 0 ≤ Z r c ∧ Z r c < 26) (bm : Nat) (hbm : w.cell? ⟨bm, 0, none⟩ = some v) (x : Nat) (hx : x < n + 1) :
    Calls Try.prog 64 #[.int .i64 (x : Nat), .pointer (some ⟨bm, 0, none⟩)] w fun e w' => e = .returned (.int .i64 (cofL n Z 0 x)) ∧ Below w.heap.size w w' := by
  have HC := (show Hid (Calls Try.prog 46 #[v, .int .i64 ((0 : Nat) : Int), .int .i64 (x : Nat)] w fun e w' => e = .returned (.int .i64 (cofL n Z 0 x)) ∧ Below w.heap.size w w') from cofactor_of n hn ih Z v w hm hZ 0 x (by omega) hx)
  clear hm hZ ih
  go_enter Try.func64, Try.ntmps64
  go_wp2_with fail
  refine Calls.mono HC.out ?_
  rintro e W1 ⟨rfl, hb⟩
  go_wp2
  go_ret
  exact ⟨rfl, hb⟩
set_option maxHeartbeats 1000000 in
theorem det_step (n : Nat) (hn : n < 4) (ih : DetOk n) : DetOk (n + 1) := fun Z v w hm hZ => by
  have hmf : ∀ (fn : Fn) (first cap : Array Value) (w : World), (Instr.makeFunc fn first cap).run Try.prog w = .ok (.func fn first cap) w := fun _ _ _ _ => rfl
  have HM := (show Hid (MatAt w v (n + 1) (fun _ => n + 1) Z) from hm)
  have HZ := (show Hid (∀ r, r < n + 1 → ∀ c, c < n + 1 → 0 ≤ Z r c ∧ Z r c < 26) from hZ)
  have HIH : Hid (DetOk n) := ih
  obtain ⟨b, o, cap, R, rfl, _, hc, hr⟩ := hm.form (by omega)
  have hc0 := hc 0 (by omega)
  rw [Nat.add_zero] at hc0
  have HR0 := (show Hid (NumsAt w (R 0) (n + 1) (Z 0)) from hr 0 (by omega))
  have hblk := cell_block hc0
  clear hm hZ ih hc hr
  go_enter Try.func41, Try.ntmps41
  go_wp2_with fail
  have hm1 := HM.out.alloc (.cells #[.slice (some ⟨b, o, none⟩) (n + 1) cap] 41)
  have hr1 := HR0.out.alloc (.cells #[.slice (some ⟨b, o, none⟩) (n + 1) cap] 41)
  have q1 := RowAt.new w 41 #[.slice (some ⟨b, o, none⟩) (n + 1) cap]
  have hb1 : Below w.heap.size w (w.alloc (.cells #[.slice (some ⟨b, o, none⟩) (n + 1) cap] 41)) := (Below.refl _ _).alloc (Nat.le_refl _) _
  have hz1 := hb1.size
  generalize w.alloc (.cells #[.slice (some ⟨b, o, none⟩) (n + 1) cap] 41) = W0 at *
  refine Calls.mono (times_any (R 0) (n + 1) (by omega) (Z 0) (fun x => cofL n Z 0 x) 64 #[.pointer (some ⟨w.heap.size, 0, none⟩)] W0 hr1 (by intro args W; go_simp) (fun k hk => ⟨HZ.out 0 (by omega) k hk, cofL_bound _ _ _ _⟩) (fun k hk W hW => det1_any n hn HIH.out Z _ W (hm1.below hW) HZ.out _ ((q1.below hW q1.lt).cell rfl) k hk)) ?_
  rintro e W1 ⟨rfl, hb2⟩
  go_wp2
  go_ret
  exact ⟨rfl, hb1.trans (hb2.mono hz1)⟩
theorem det_any : ∀ n, n ≤ 4 → DetOk n
  | 0, _ => det_zero
  | n + 1, h => det_step n (by omega) (det_any n (by omega))
theorem cofactor_any (n : Nat) (hn : n < 4) (Z : Nat → Nat → Int) (v : Value) (w : World) (hm : MatAt w v (n + 1) (fun _ => n + 1) Z) (hZ : ∀ r, r < n + 1 → ∀ c, c < n + 1 → 0 ≤ Z r c ∧ Z r c < 26) (y x : Nat) (hy : y < n + 1) (hx : x < n + 1) :
    Calls Try.prog 46 #[v, .int .i64 (y : Nat), .int .i64 (x : Nat)] w fun e w' => e = .returned (.int .i64 (cofL n Z y x)) ∧ Below w.heap.size w w' :=
  cofactor_of n hn (det_any n (by omega)) Z v w hm hZ y x hy hx
end Go.Proofs.Ytlgjgppojdamiab
