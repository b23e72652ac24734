/-
  Several texts, joined: HMath, OPl, OSame.
-/
import Derived.Test.YtkohhdkkbaifoaaGreatDoorJn20
import Derived.Test.YtkohhdkkbaifoaaGreatDoorJn7
import Derived.Test.YtkohhdkkbaifoaaGreatDoorJn6
import Derived.Deep.QuietTactic
import Derived.BigQuiet
/-
  Plain mathematics: determinants, products and inverses of up to four rows, modulo 26.
-/
namespace Go.Proofs.YtkohhdkkbaifoaaGreatDoor
open Go.RowKit PK

/-- With its sign. -/
def sgI (s : Nat) (d : Int) : Int := if s % 2 = 1 then -d else d
/-- The determinant, in whole numbers. -/
def dI : Nat → (Nat → Nat → Int) → Int
  | 0, _ => 1
  | n + 1, Z => sumTo (Z 0) (fun x => sgI (0 + x) (dI n (minor Z 0 x))) (n + 1)
theorem mul_mod {a b c d : Int} (h1 : a % 26 = b % 26) (h2 : c % 26 = d % 26) : (a * c) % 26 = (b * d) % 26 := by rw [Int.mul_emod, h1, h2, ← Int.mul_emod]
theorem sumTo_mod {f f' g g' : Nat → Int} : ∀ n, (∀ k, k < n → f k % 26 = f' k % 26 ∧ g k % 26 = g' k % 26) → sumTo f g n % 26 = sumTo f' g' n % 26
  | 0, _ => rfl
  | n + 1, h => by
    show (sumTo f g n + f n * g n) % 26 = (sumTo f' g' n + f' n * g' n) % 26
    have ih := sumTo_mod n fun k hk => h k (by omega)
    have h1 := mul_mod (h n (by omega)).1 (h n (by omega)).2
    omega
theorem signed_mod (s : Nat) {d e : Int} (h : d % 26 = e % 26) : signed s d % 26 = sgI s e % 26 := by
  unfold sgI signed
  split <;> omega
theorem detL_mod : ∀ n Z, detL n Z = dI n Z % 26
  | 0, _ => rfl
  | n + 1, Z => sumTo_mod (n + 1) fun k hk => ⟨rfl, signed_mod _ (by rw [detL_mod n]; omega)⟩
theorem cofL_mod (n : Nat) (Z : Nat → Nat → Int) (y x : Nat) : cofL n Z y x % 26 = sgI (y + x) (dI n (minor Z y x)) % 26 := signed_mod _ (by rw [detL_mod]; omega)
/-- A row times the cofactors of a row. -/
theorem row_cof (m : Nat) (h : m < 4) (A : Nat → Nat → Int) (y x : Nat) (hy : y < m + 1) (hx : x < m + 1) : sumTo (A y) (fun k => sgI (x + k) (dI m (minor A x k))) (m + 1) = if y = x then dI (m + 1) A else 0 := by
  obtain rfl | rfl | rfl | rfl : m = 0 ∨ m = 1 ∨ m = 2 ∨ m = 3 := by omega
  · obtain rfl : y = 0 := by omega
    obtain rfl : x = 0 := by omega
    rfl
  · obtain rfl | rfl : y = 0 ∨ y = 1 := by omega
    all_goals obtain rfl | rfl : x = 0 ∨ x = 1 := by omega
    all_goals simp [dI, sumTo, sgI, minor, skip]
    all_goals grind
  · obtain rfl | rfl | rfl : y = 0 ∨ y = 1 ∨ y = 2 := by omega
    all_goals obtain rfl | rfl | rfl : x = 0 ∨ x = 1 ∨ x = 2 := by omega
    all_goals simp [dI, sumTo, sgI, minor, skip]
    all_goals grind
  · obtain rfl | rfl | rfl | rfl : y = 0 ∨ y = 1 ∨ y = 2 ∨ y = 3 := by omega
    all_goals obtain rfl | rfl | rfl | rfl : x = 0 ∨ x = 1 ∨ x = 2 ∨ x = 3 := by omega
    all_goals simp [dI, sumTo, sgI, minor, skip]
    all_goals grind
/-- The cofactors of a column times a column. -/
theorem cof_col (m : Nat) (h : m < 4) (A : Nat → Nat → Int) (y x : Nat) (hy : y < m + 1) (hx : x < m + 1) : sumTo (fun k => sgI (k + y) (dI m (minor A k y))) (fun k => A k x) (m + 1) = if y = x then dI (m + 1) A else 0 := by
  obtain rfl | rfl | rfl | rfl : m = 0 ∨ m = 1 ∨ m = 2 ∨ m = 3 := by omega
  · obtain rfl : y = 0 := by omega
    obtain rfl : x = 0 := by omega
    simp [dI, sumTo, sgI]
  · obtain rfl | rfl : y = 0 ∨ y = 1 := by omega
    all_goals obtain rfl | rfl : x = 0 ∨ x = 1 := by omega
    all_goals simp [dI, sumTo, sgI, minor, skip]
    all_goals grind
  · obtain rfl | rfl | rfl : y = 0 ∨ y = 1 ∨ y = 2 := by omega
    all_goals obtain rfl | rfl | rfl : x = 0 ∨ x = 1 ∨ x = 2 := by omega
    all_goals simp [dI, sumTo, sgI, minor, skip]
    all_goals grind
  · obtain rfl | rfl | rfl | rfl : y = 0 ∨ y = 1 ∨ y = 2 ∨ y = 3 := by omega
    all_goals obtain rfl | rfl | rfl | rfl : x = 0 ∨ x = 1 ∨ x = 2 ∨ x = 3 := by omega
    all_goals simp [dI, sumTo, sgI, minor, skip]
    all_goals grind
theorem sumTo_scale (u : Int) (f g : Nat → Int) : ∀ n, sumTo f (fun k => u * g k) n = u * sumTo f g n
  | 0 => by simp [sumTo]
  | n + 1 => by
    show sumTo f (fun k => u * g k) n + f n * (u * g n) = u * (sumTo f g n + f n * g n)
    rw [sumTo_scale u f g n]
    grind
theorem sumTo_scaleL (u : Int) (f g : Nat → Int) : ∀ n, sumTo (fun k => u * f k) g n = u * sumTo f g n
  | 0 => by simp [sumTo]
  | n + 1 => by
    show sumTo (fun k => u * f k) g n + (u * f n) * g n = u * (sumTo f g n + f n * g n)
    rw [sumTo_scaleL u f g n]
    grind
theorem recOf_spec (d : Int) (h : (recOf d).2 = 0) : (d * (recOf d).1) % 26 = 1 := by
  unfold recOf at h ⊢
  split at h
  · rename_i v hv
    have := List.find?_some hv
    simpa using this
  · cases h
/-- The one that changes nothing. -/
def oneL : Nat → Nat → Int := fun y x => if y = x then 1 else 0
theorem inv_right (n : Nat) (h1 : 1 ≤ n) (h4 : n ≤ 4) (A : Nat → Nat → Int) (hr : (recOf (detL n A)).2 = 0) (y x : Nat) (hy : y < n) (hx : x < n) : mulL n A (invL n A) y x = oneL y x := by
  obtain ⟨m, rfl⟩ : ∃ m, n = m + 1 := ⟨n - 1, by omega⟩
  have hs := recOf_spec _ hr
  show sumTo (A y) (fun k => (recOf (detL (m + 1) A)).1 * cofL m A x k % 26) (m + 1) % 26 = _
  generalize (recOf (detL (m + 1) A)).1 = u at *
  rw [sumTo_mod (f' := A y) (g' := fun k => u * sgI (x + k) (dI m (minor A x k))) (m + 1) (fun k _ => ⟨rfl, by rw [Int.emod_emod]; exact mul_mod rfl (cofL_mod m A x k)⟩), sumTo_scale, row_cof m (by omega) A y x hy hx]
  unfold oneL
  rw [detL_mod] at hs
  by_cases e : y = x
  · rw [if_pos e, if_pos e, Int.mul_comm, ← hs]
    exact mul_mod (by omega) rfl
  · rw [if_neg e, if_neg e]
    simp
theorem inv_left (n : Nat) (h1 : 1 ≤ n) (h4 : n ≤ 4) (A : Nat → Nat → Int) (hr : (recOf (detL n A)).2 = 0) (y x : Nat) (hy : y < n) (hx : x < n) : mulL n (invL n A) A y x = oneL y x := by
  obtain ⟨m, rfl⟩ : ∃ m, n = m + 1 := ⟨n - 1, by omega⟩
  have hs := recOf_spec _ hr
  show sumTo (fun k => (recOf (detL (m + 1) A)).1 * cofL m A k y % 26) (fun k => A k x) (m + 1) % 26 = _
  generalize (recOf (detL (m + 1) A)).1 = u at *
  rw [sumTo_mod (f' := fun k => u * sgI (k + y) (dI m (minor A k y))) (g' := fun k => A k x) (m + 1) (fun k _ => ⟨by rw [Int.emod_emod]; exact mul_mod rfl (cofL_mod m A k y), rfl⟩), sumTo_scaleL, cof_col m (by omega) A y x hy hx]
  unfold oneL
  rw [detL_mod] at hs
  by_cases e : y = x
  · rw [if_pos e, if_pos e, Int.mul_comm, ← hs]
    exact mul_mod (by omega) rfl
  · rw [if_neg e, if_neg e]
    simp
theorem good_inv {n : Nat} (h1 : 1 ≤ n) (h4 : n ≤ 4) (A : Nat → Nat → Int) : GoodM n (invL n A) := by
  obtain ⟨m, rfl⟩ : ∃ m, n = m + 1 := ⟨n - 1, by omega⟩
  exact ⟨h1, h4, fun _ _ _ _ => ⟨Int.emod_nonneg _ (by decide), Int.emod_lt_of_pos _ (by decide)⟩⟩
end Go.Proofs.YtkohhdkkbaifoaaGreatDoor

/-
  Slices of permutations; the document's Turned and All (chapter 8).
-/
namespace Go.Proofs.YtkohhdkkbaifoaaGreatDoor
open Go.RowKit PK

/-- The result's variable and the array that is filled. -/
structure TuAt (w W : World) (f : Nat → Int) : Prop where
  r : RowAt W w.heap.size 27 (ints 26 fun _ => 0)
  o : RowAt W (w.heap.size + 1) 27 (ints 26 f)
  below : Below w.heap.size w W
theorem TuAt.new (w : World) : TuAt w ((w.alloc (.cells (ints 26 fun _ => 0) 27)).alloc (.cells (ints 26 fun _ => 0) 27)) fun _ => 0 := by
  have h3 := RowAt.new (w.alloc (.cells (ints 26 fun _ => 0) 27)) 27 (ints 26 fun _ => 0)
  simp only [World.size_alloc] at h3
  exact ⟨(RowAt.new w _ _).alloc _, h3, ((Below.refl _ w).alloc (Nat.le_refl _) _).alloc (by simp only [World.size_alloc]; omega) _⟩
theorem TuAt.set {w W : World} {f : Nat → Int} (h : TuAt w W f) (i : Nat) (v : Int) : TuAt w (W.setCell ⟨w.heap.size + 1, i, none⟩ (.int .i64 v)) (upd f i v) := by
  refine ⟨h.r.setOther _ _ (by simp), ?_, h.below.setCell (p := ⟨w.heap.size + 1, i, none⟩) (by simp) _⟩
  have := h.o.set i (.int .i64 v)
  rw [ints_set] at this
  exact this
theorem o_results1 {P : Program} {fn : Func} {p : Tmp} {ty : TypeId} (h : fn.results = #[.cell p ty]) (tmps : Array Value) (w : World) (g : Nat) (t : TypeId) (cs : Array Value) (fr : Nat × Nat) (d : TypeDesc)
    (hp : tmps.getD p undef = .pointer (some ⟨g, 0, none⟩)) (hg : w.heap[g]? = some (.cells cs t fr))
    (hu : P.underlying ty = some d) (hd : (match d with | .struct _ | .array _ _ => true | _ => false) = true) (hi : (P.info? ty).map (·.size) = some cs.size) :
    (results fn tmps).run P w = .ok (.agg cs) w := by
  have hp' : tmps[p]?.getD undef = .pointer (some ⟨g, 0, none⟩) := by simpa using hp
  simp [results, h, hp', asAddr, run_loadVar_row w g t ty cs fr d hg hu hd hi]
end Go.Proofs.YtkohhdkkbaifoaaGreatDoor

/-
  Contract of perm.Same.
-/
namespace Go.Proofs.YtkohhdkkbaifoaaGreatDoor
open Go.RowKit PK

def fill (a : Nat → Nat) (v : Nat → Int) : Nat → Nat → Int
  | 0 => fun _ => 0
  | k + 1 => upd (fill a v k) (a k) (v k)
theorem taking_any (m : Nat) (cap : Array Value) (a : Nat → Nat) (v : Nat → Int) (ha : ∀ i, i < 26 → a i < 26) (w : World) (hent : ∀ (args : Array Value) (W : World), (callFunc m args).run Tryz.prog W = .ok (.enter m args) W)
    (hp : ∀ i, i < 26 → ∀ W : World, Below w.heap.size w W → Calls Tryz.prog m (#[.int .i64 (i : Nat)] ++ cap) W fun e w' => e = .returned (.tuple #[.int .i64 (a i : Nat), .int .i64 (v i)]) ∧ Below W.heap.size W w') :
    Calls Tryz.prog 229 #[.func (.func m) #[] cap] w fun e w' => e = .returned (.agg (ints 26 (fill a v 26))) ∧ Below w.heap.size w w' := by
  have HP : Hid (∀ i, i < 26 → ∀ W : World, Below w.heap.size w W → Calls Tryz.prog m (#[.int .i64 (i : Nat)] ++ cap) W fun e w' => e = .returned (.tuple #[.int .i64 (a i : Nat), .int .i64 (v i)]) ∧ Below W.heap.size W w') := hp
  clear hp
  go_enter Tryz.func229, Tryz.ntmps229
  go_wp2
  rw [zero26]
  go_loopw [7] (fun i W => ∃ k : Nat, k ≤ 26 ∧ i = .int .i64 k ∧ RowAt W w.heap.size 27 (ints 26 fun _ => 0) ∧ RowAt W (w.heap.size + 1) 27 (ints 26 (fill a v k)) ∧ Below w.heap.size w W) (fun i _ => (26 - intOf i).toNat)
  case atStart =>
    refine ⟨0, by omega, rfl, (RowAt.new w _ _).alloc _, ?_, ((Below.refl _ _).alloc (Nat.le_refl _) _).alloc (by simp) _⟩
    have := RowAt.new (w.alloc (Obj.cells (ints 26 fun _ => 0) 27)) 27 (ints 26 fun x => 0)
    rw [World.size_alloc] at this
    exact this
  case round =>
    obtain ⟨k, hk, rfl, hrow0, hrow, hb⟩ := hrel
    by_cases hlt : k < 26
    · have ha' := ha k hlt
      have hsz := hb.size
      have h1 := hrow.lt
      have HW := HP.out k hlt wr hb
      have HV : Hid (Calls Tryz.prog m (#[.int .i64 (k : Nat)] ++ cap) wr fun e w' => e = .returned (.tuple #[.int .i64 (a k : Nat), .int .i64 (v k)]) ∧ Below wr.heap.size wr w') := HW
      clear HW
      obtain ⟨n, hn⟩ : ∃ n : Nat, n = a k := ⟨_, rfl⟩
      rw [← hn] at HV ha'
      have HNN : Hid (n = a k) := hn
      clear hn
      go_wp2_with fail
      refine HV.out.mono ?_
      rintro e w1 ⟨rfl, hb1⟩
      have hrow1 := hrow.below hb1 h1
      have hc := hrow1.cell (ints_get (fill a v k) ha')
      have hf := hrow1.frozen n
      go_wp2
      go_roundw
      case rel =>
        refine ⟨k + 1, by omega, by go_num, ?_, ?_, ?_⟩
        · exact (hrow0.below hb1 hrow0.lt).setOther _ _ (by simp)
        · have := hrow1.set n (.int .i64 (v k))
          rw [ints_set] at this
          show RowAt _ _ _ (ints 26 (upd (fill a v k) (a k) (v k)))
          rw [← HNN.out]
          exact this
        · exact (hb.trans (hb1.mono hsz)).setCell (by simp) _
      case measure => simp [intOf]; omega
    · have HK : Hid (k = 26) := by rw [Hid]; omega
      have h1 := hrow.lt
      go_wp2_with (first
        | refine wpList_load_row rfl 27 _ rfl (w.heap.size + 1) rfl 27 (ints 26 (fill a v k)) (0, 0) _ hrow Tryz.underlying27 rfl (by rw [ints_size]; exact info_perm) ?_
        | refine wpList_store_row rfl 27 _ _ rfl w.heap.size (ints 26 (fill a v k)) rfl rfl 27 _ hrow0 (by rw [ints_size]; exact info_perm) (by simp only [ints_size]) (ints_one _ _) ?_)
      refine bodyPost_ret (v := .agg (ints 26 (fill a v k))) (results_cell_row rfl _ _ w.heap.size 27 _ (0, 0) _ rfl (hrow0.row _) Tryz.underlying27 rfl (by rw [ints_size]; exact info_perm)) rfl ⟨by rw [HK.out], Below.setRow hb _ (Nat.le_refl _) _⟩
theorem fill_at (a : Nat → Nat) (v : Nat → Int) (hi : ∀ i j, i < 26 → j < 26 → a i = a j → i = j) : ∀ k, k ≤ 26 → ∀ i, i < k → fill a v k (a i) = v i
  | 0, _, i, h => by omega
  | k + 1, hk, i, h => by
    show upd (fill a v k) (a k) (v k) (a i) = v i
    by_cases e : i = k
    · subst e; simp
    · rw [upd_other _ _ (fun e2 => e (hi i k (by omega) (by omega) e2))]
      exact fill_at a v hi k (by omega) i (by omega)
theorem fill_id (v : Nat → Int) : ints 26 (fill (fun i => i) v 26) = ints 26 v := ints_ext fun j hj => fill_at (fun i => i) v (fun _ _ _ _ e => e) 26 (Nat.le_refl _) j hj
theorem same1_any (i : Int) (w : World) : Calls Tryz.prog 230 #[.int .i64 i] w fun e w' => e = .returned (.tuple #[.int .i64 i, .int .i64 i]) ∧ w = w' := by
  go_enter Tryz.func230, Tryz.ntmps230
  go_wp2
  go_ret2
  exact ⟨rfl, rfl⟩
theorem same_any (w : World) : Calls Tryz.prog 202 #[] w fun e w' => e = .returned (.agg (ints 26 (Pm.up fun i => i))) ∧ Below w.heap.size w w' := by
  go_enter Tryz.func202, Tryz.ntmps202
  go_wp2_with fail
  rw [zero26]
  refine (taking_any 230 #[] (fun i => i) (Pm.up fun i => i) (fun _ h => h) _ (by intro args W; go_simp) (fun i hi W _ => (same1_any i W).mono ?_)).mono ?_
  · rintro e w' ⟨rfl, rfl⟩
    exact ⟨rfl, Below.refl _ _⟩
  · rintro e w1 ⟨rfl, hb1⟩
    rw [fill_id]
    have hrow := (RowAt.new w 27 (ints 26 fun _ => 0)).below hb1 (by simp)
    go_wp2_with (refine wpList_store_row rfl 27 _ _ rfl w.heap.size (ints 26 (Pm.up fun i => i)) rfl rfl 27 _ hrow (by rw [ints_size]; exact info_perm) (by simp only [ints_size]) (ints_one _ _) ?_)
    exact bodyPost_ret (v := .agg (ints 26 (Pm.up fun i => i))) (results_cell_row rfl _ _ w.heap.size 27 _ (0, 0) _ rfl (hrow.row _) Tryz.underlying27 rfl (by rw [ints_size]; exact info_perm)) rfl ⟨rfl, Below.setRow (((Below.refl _ _).alloc (Nat.le_refl _) _).trans (hb1.mono (by simp))) _ (Nat.le_refl _) _⟩
end Go.Proofs.YtkohhdkkbaifoaaGreatDoor
