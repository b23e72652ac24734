/-
  Several texts, joined: HInv, HMath, OPl, OSame, OBack.
-/
import Derived.Test.YtkohhdkkbaifoaaGreatDoorJn16
import Derived.OrdersHeld
import Derived.Test.YtkohhdkkbaifoaaGreatDoorJn7
import Derived.Test.YtkohhdkkbaifoaaGreatDoorJn6
import Derived.Deep.QuietTactic
import Derived.BigQuiet
/-
  Contract of hill.Inverse.
-/
namespace Go.Proofs.YtkohhdkkbaifoaaGreatDoor
open Go.RowKit PK

section
variable {P : Program} {ops : Array Oper} {Q : Exit → Act → World → Prop} {md : Region.Mode} {S : World → Prop}
/-- An operation that yields its value in every world that meets S is taken first. -/
theorem htake (i d : Nat) (v : Value) {oi : Oper} {fuel : Nat} {listed : Array Bool} {tm : Array Value} {df : List Deferred} {w : World} (hi : ops[i]? = some oi) (hd : oi.dst = some d)
    (hs : Region.noSelect ops = true) (hf : Region.free md ops listed i = true) (hr : (Region.ready md ops listed).contains i = true)
    (hQ : ∀ c a a' w, Q (.panic c) a' w → Q (.panic c) a w) (hw : Region.wanted oi (yielded ops tm) = true) (hrun : ∀ W, S W → (execOp (Act.eval ⟨tm, df⟩) oi).run P W = .ok (.value v) W) (hS : S w)
    (h : wpAnyH P md ops Q S fuel (listed.setIfInBounds i true) ⟨tm.setIfInBounds d v, df⟩ w) : wpAnyH P md ops Q S (fuel + 1) listed ⟨tm, df⟩ w := by
  refine wpAnyH_take (i := i) (oi := oi) (v := v) hi hs hf hr (fun c a w => hQ c a _ w) (Or.inl ⟨hw, fun W hW => hrun W hW⟩) hS ?_
  rw [hd]
  exact h
end
/-- The inverse: what makes 1 of the determinant, times the cofactors, rows and places swapped. -/
def invL : Nat → (Nat → Nat → Int) → Nat → Nat → Int
  | 0, _ => fun _ _ => 0
  | n + 1, Z => fun y x => (recOf (detL (n + 1) Z)).1 * cofL n Z x y % 26
end Go.Proofs.YtkohhdkkbaifoaaGreatDoor

/-
  Plain mathematics: determinants, products and inverses of up to four rows, modulo 26.
-/
namespace Go.Proofs.YtkohhdkkbaifoaaGreatDoor
open Go.RowKit PK

/-- With its sign. -/
def sgI (s : Nat) (d : Int) : Int := if s % 2 = 1 then -d else d
/-- The determinant, in whole numbers. -/
def dI : Nat → (Nat → Nat → Int) → Int
  | 0, _ => 1
  | n + 1, Z => sumTo (Z 0) (fun x => sgI (0 + x) (dI n (minor Z 0 x))) (n + 1)
theorem mul_mod {a b c d : Int} (h1 : a % 26 = b % 26) (h2 : c % 26 = d % 26) : (a * c) % 26 = (b * d) % 26 := by rw [Int.mul_emod, h1, h2, ← Int.mul_emod]
theorem sumTo_mod {f f' g g' : Nat → Int} : ∀ n, (∀ k, k < n → f k % 26 = f' k % 26 ∧ g k % 26 = g' k % 26) → sumTo f g n % 26 = sumTo f' g' n % 26
  | 0, _ => rfl
  | n + 1, h => by
    show (sumTo f g n + f n * g n) % 26 = (sumTo f' g' n + f' n * g' n) % 26
    have ih := sumTo_mod n fun k hk => h k (by omega)
    have h1 := mul_mod (h n (by omega)).1 (h n (by omega)).2
    omega
theorem signed_mod (s : Nat) {d e : Int} (h : d % 26 = e % 26) : signed s d % 26 = sgI s e % 26 := by
  unfold sgI signed
  split <;> omega
theorem detL_mod : ∀ n Z, detL n Z = dI n Z % 26
  | 0, _ => rfl
  | n + 1, Z => sumTo_mod (n + 1) fun k hk => ⟨rfl, signed_mod _ (by rw [detL_mod n]; omega)⟩
theorem cofL_mod (n : Nat) (Z : Nat → Nat → Int) (y x : Nat) : cofL n Z y x % 26 = sgI (y + x) (dI n (minor Z y x)) % 26 := signed_mod _ (by rw [detL_mod]; omega)
/-- The cofactors of a column times a column. -/
theorem cof_col (m : Nat) (h : m < 4) (A : Nat → Nat → Int) (y x : Nat) (hy : y < m + 1) (hx : x < m + 1) : sumTo (fun k => sgI (k + y) (dI m (minor A k y))) (fun k => A k x) (m + 1) = if y = x then dI (m + 1) A else 0 := by
  obtain rfl | rfl | rfl | rfl : m = 0 ∨ m = 1 ∨ m = 2 ∨ m = 3 := by omega
  · obtain rfl : y = 0 := by omega
    obtain rfl : x = 0 := by omega
    simp [dI, sumTo, sgI]
  · obtain rfl | rfl : y = 0 ∨ y = 1 := by omega
    all_goals obtain rfl | rfl : x = 0 ∨ x = 1 := by omega
    all_goals simp [dI, sumTo, sgI, minor, skip]
    all_goals grind
  · obtain rfl | rfl | rfl : y = 0 ∨ y = 1 ∨ y = 2 := by omega
    all_goals obtain rfl | rfl | rfl : x = 0 ∨ x = 1 ∨ x = 2 := by omega
    all_goals simp [dI, sumTo, sgI, minor, skip]
    all_goals grind
  · obtain rfl | rfl | rfl | rfl : y = 0 ∨ y = 1 ∨ y = 2 ∨ y = 3 := by omega
    all_goals obtain rfl | rfl | rfl | rfl : x = 0 ∨ x = 1 ∨ x = 2 ∨ x = 3 := by omega
    all_goals simp [dI, sumTo, sgI, minor, skip]
    all_goals grind
theorem sumTo_scaleL (u : Int) (f g : Nat → Int) : ∀ n, sumTo (fun k => u * f k) g n = u * sumTo f g n
  | 0 => by simp [sumTo]
  | n + 1 => by
    show sumTo (fun k => u * f k) g n + (u * f n) * g n = u * (sumTo f g n + f n * g n)
    rw [sumTo_scaleL u f g n]
    grind
theorem recOf_spec (d : Int) (h : (recOf d).2 = 0) : (d * (recOf d).1) % 26 = 1 := by
  unfold recOf at h ⊢
  split at h
  · rename_i v hv
    have := List.find?_some hv
    simpa using this
  · cases h
/-- The one that changes nothing. -/
def oneL : Nat → Nat → Int := fun y x => if y = x then 1 else 0
theorem inv_left (n : Nat) (h1 : 1 ≤ n) (h4 : n ≤ 4) (A : Nat → Nat → Int) (hr : (recOf (detL n A)).2 = 0) (y x : Nat) (hy : y < n) (hx : x < n) : mulL n (invL n A) A y x = oneL y x := by
  obtain ⟨m, rfl⟩ : ∃ m, n = m + 1 := ⟨n - 1, by omega⟩
  have hs := recOf_spec _ hr
  show sumTo (fun k => (recOf (detL (m + 1) A)).1 * cofL m A k y % 26) (fun k => A k x) (m + 1) % 26 = _
  generalize (recOf (detL (m + 1) A)).1 = u at *
  rw [sumTo_mod (f' := fun k => u * sgI (k + y) (dI m (minor A k y))) (g' := fun k => A k x) (m + 1) (fun k _ => ⟨by rw [Int.emod_emod]; exact mul_mod rfl (cofL_mod m A k y), rfl⟩), sumTo_scaleL, cof_col m (by omega) A y x hy hx]
  unfold oneL
  rw [detL_mod] at hs
  by_cases e : y = x
  · rw [if_pos e, if_pos e, Int.mul_comm, ← hs]
    exact mul_mod (by omega) rfl
  · rw [if_neg e, if_neg e]
    simp
end Go.Proofs.YtkohhdkkbaifoaaGreatDoor

/-
  Slices of permutations; the document's Turned and All (chapter 8).
-/
namespace Go.Proofs.YtkohhdkkbaifoaaGreatDoor
open Go.RowKit PK

/-- The result's variable and the array that is filled. -/
structure TuAt (w W : World) (f : Nat → Int) : Prop where
  r : RowAt W w.heap.size 27 (ints 26 fun _ => 0)
  o : RowAt W (w.heap.size + 1) 27 (ints 26 f)
  below : Below w.heap.size w W
theorem TuAt.new (w : World) : TuAt w ((w.alloc (.cells (ints 26 fun _ => 0) 27)).alloc (.cells (ints 26 fun _ => 0) 27)) fun _ => 0 := by
  have h3 := RowAt.new (w.alloc (.cells (ints 26 fun _ => 0) 27)) 27 (ints 26 fun _ => 0)
  simp only [World.size_alloc] at h3
  exact ⟨(RowAt.new w _ _).alloc _, h3, ((Below.refl _ w).alloc (Nat.le_refl _) _).alloc (by simp only [World.size_alloc]; omega) _⟩
theorem TuAt.set {w W : World} {f : Nat → Int} (h : TuAt w W f) (i : Nat) (v : Int) : TuAt w (W.setCell ⟨w.heap.size + 1, i, none⟩ (.int .i64 v)) (upd f i v) := by
  refine ⟨h.r.setOther _ _ (by simp), ?_, h.below.setCell (p := ⟨w.heap.size + 1, i, none⟩) (by simp) _⟩
  have := h.o.set i (.int .i64 v)
  rw [ints_set] at this
  exact this
theorem o_results1 {P : Program} {fn : Func} {p : Tmp} {ty : TypeId} (h : fn.results = #[.cell p ty]) (tmps : Array Value) (w : World) (g : Nat) (t : TypeId) (cs : Array Value) (fr : Nat × Nat) (d : TypeDesc)
    (hp : tmps.getD p undef = .pointer (some ⟨g, 0, none⟩)) (hg : w.heap[g]? = some (.cells cs t fr))
    (hu : P.underlying ty = some d) (hd : (match d with | .struct _ | .array _ _ => true | _ => false) = true) (hi : (P.info? ty).map (·.size) = some cs.size) :
    (results fn tmps).run P w = .ok (.agg cs) w := by
  have hp' : tmps[p]?.getD undef = .pointer (some ⟨g, 0, none⟩) := by simpa using hp
  simp [results, h, hp', asAddr, run_loadVar_row w g t ty cs fr d hg hu hd hi]
end Go.Proofs.YtkohhdkkbaifoaaGreatDoor

/-
  Contract of perm.Same.
-/
namespace Go.Proofs.YtkohhdkkbaifoaaGreatDoor
open Go.RowKit PK

def fill (a : Nat → Nat) (v : Nat → Int) : Nat → Nat → Int
  | 0 => fun _ => 0
  | k + 1 => upd (fill a v k) (a k) (v k)
theorem taking_any (m : Nat) (cap : Array Value) (a : Nat → Nat) (v : Nat → Int) (ha : ∀ i, i < 26 → a i < 26) (w : World) (hent : ∀ (args : Array Value) (W : World), (callFunc m args).run Tryz.prog W = .ok (.enter m args) W)
    (hp : ∀ i, i < 26 → ∀ W : World, Below w.heap.size w W → Calls Tryz.prog m (#[.int .i64 (i : Nat)] ++ cap) W fun e w' => e = .returned (.tuple #[.int .i64 (a i : Nat), .int .i64 (v i)]) ∧ Below W.heap.size W w') :
    Calls Tryz.prog 229 #[.func (.func m) #[] cap] w fun e w' => e = .returned (.agg (ints 26 (fill a v 26))) ∧ Below w.heap.size w w' := by
  have HP : Hid (∀ i, i < 26 → ∀ W : World, Below w.heap.size w W → Calls Tryz.prog m (#[.int .i64 (i : Nat)] ++ cap) W fun e w' => e = .returned (.tuple #[.int .i64 (a i : Nat), .int .i64 (v i)]) ∧ Below W.heap.size W w') := hp
  clear hp
  go_enter Tryz.func229, Tryz.ntmps229
  go_wp2
  rw [zero26]
  go_loopw [7] (fun i W => ∃ k : Nat, k ≤ 26 ∧ i = .int .i64 k ∧ RowAt W w.heap.size 27 (ints 26 fun _ => 0) ∧ RowAt W (w.heap.size + 1) 27 (ints 26 (fill a v k)) ∧ Below w.heap.size w W) (fun i _ => (26 - intOf i).toNat)
  case atStart =>
    refine ⟨0, by omega, rfl, (RowAt.new w _ _).alloc _, ?_, ((Below.refl _ _).alloc (Nat.le_refl _) _).alloc (by simp) _⟩
    have := RowAt.new (w.alloc (Obj.cells (ints 26 fun _ => 0) 27)) 27 (ints 26 fun x => 0)
    rw [World.size_alloc] at this
    exact this
  case round =>
    obtain ⟨k, hk, rfl, hrow0, hrow, hb⟩ := hrel
    by_cases hlt : k < 26
    · have ha' := ha k hlt
      have hsz := hb.size
      have h1 := hrow.lt
      have HW := HP.out k hlt wr hb
      have HV : Hid (Calls Tryz.prog m (#[.int .i64 (k : Nat)] ++ cap) wr fun e w' => e = .returned (.tuple #[.int .i64 (a k : Nat), .int .i64 (v k)]) ∧ Below wr.heap.size wr w') := HW
      clear HW
      obtain ⟨n, hn⟩ : ∃ n : Nat, n = a k := ⟨_, rfl⟩
      rw [← hn] at HV ha'
      have HNN : Hid (n = a k) := hn
      clear hn
      go_wp2_with fail
      refine HV.out.mono ?_
      rintro e w1 ⟨rfl, hb1⟩
      have hrow1 := hrow.below hb1 h1
      have hc := hrow1.cell (ints_get (fill a v k) ha')
      have hf := hrow1.frozen n
      go_wp2
      go_roundw
      case rel =>
        refine ⟨k + 1, by omega, by go_num, ?_, ?_, ?_⟩
        · exact (hrow0.below hb1 hrow0.lt).setOther _ _ (by simp)
        · have := hrow1.set n (.int .i64 (v k))
          rw [ints_set] at this
          show RowAt _ _ _ (ints 26 (upd (fill a v k) (a k) (v k)))
          rw [← HNN.out]
          exact this
        · exact (hb.trans (hb1.mono hsz)).setCell (by simp) _
      case measure => simp [intOf]; omega
    · have HK : Hid (k = 26) := by rw [Hid]; omega
      have h1 := hrow.lt
      go_wp2_with (first
        | refine wpList_load_row rfl 27 _ rfl (w.heap.size + 1) rfl 27 (ints 26 (fill a v k)) (0, 0) _ hrow Tryz.underlying27 rfl (by rw [ints_size]; exact info_perm) ?_
        | refine wpList_store_row rfl 27 _ _ rfl w.heap.size (ints 26 (fill a v k)) rfl rfl 27 _ hrow0 (by rw [ints_size]; exact info_perm) (by simp only [ints_size]) (ints_one _ _) ?_)
      refine bodyPost_ret (v := .agg (ints 26 (fill a v k))) (results_cell_row rfl _ _ w.heap.size 27 _ (0, 0) _ rfl (hrow0.row _) Tryz.underlying27 rfl (by rw [ints_size]; exact info_perm)) rfl ⟨by rw [HK.out], Below.setRow hb _ (Nat.le_refl _) _⟩
theorem fill_at (a : Nat → Nat) (v : Nat → Int) (hi : ∀ i j, i < 26 → j < 26 → a i = a j → i = j) : ∀ k, k ≤ 26 → ∀ i, i < k → fill a v k (a i) = v i
  | 0, _, i, h => by omega
  | k + 1, hk, i, h => by
    show upd (fill a v k) (a k) (v k) (a i) = v i
    by_cases e : i = k
    · subst e; simp
    · rw [upd_other _ _ (fun e2 => e (hi i k (by omega) (by omega) e2))]
      exact fill_at a v hi k (by omega) i (by omega)
theorem fill_id (v : Nat → Int) : ints 26 (fill (fun i => i) v 26) = ints 26 v := ints_ext fun j hj => fill_at (fun i => i) v (fun _ _ _ _ e => e) 26 (Nat.le_refl _) j hj
theorem same1_any (i : Int) (w : World) : Calls Tryz.prog 230 #[.int .i64 i] w fun e w' => e = .returned (.tuple #[.int .i64 i, .int .i64 i]) ∧ w = w' := by
  go_enter Tryz.func230, Tryz.ntmps230
  go_wp2
  go_ret2
  exact ⟨rfl, rfl⟩
theorem same_any (w : World) : Calls Tryz.prog 202 #[] w fun e w' => e = .returned (.agg (ints 26 (Pm.up fun i => i))) ∧ Below w.heap.size w w' := by
  go_enter Tryz.func202, Tryz.ntmps202
  go_wp2_with fail
  rw [zero26]
  refine (taking_any 230 #[] (fun i => i) (Pm.up fun i => i) (fun _ h => h) _ (by intro args W; go_simp) (fun i hi W _ => (same1_any i W).mono ?_)).mono ?_
  · rintro e w' ⟨rfl, rfl⟩
    exact ⟨rfl, Below.refl _ _⟩
  · rintro e w1 ⟨rfl, hb1⟩
    rw [fill_id]
    have hrow := (RowAt.new w 27 (ints 26 fun _ => 0)).below hb1 (by simp)
    go_wp2_with (refine wpList_store_row rfl 27 _ _ rfl w.heap.size (ints 26 (Pm.up fun i => i)) rfl rfl 27 _ hrow (by rw [ints_size]; exact info_perm) (by simp only [ints_size]) (ints_one _ _) ?_)
    exact bodyPost_ret (v := .agg (ints 26 (Pm.up fun i => i))) (results_cell_row rfl _ _ w.heap.size 27 _ (0, 0) _ rfl (hrow.row _) Tryz.underlying27 rfl (by rw [ints_size]; exact info_perm)) rfl ⟨rfl, Below.setRow (((Below.refl _ _).alloc (Nat.le_refl _) _).trans (hb1.mono (by simp))) _ (Nat.le_refl _) _⟩
end Go.Proofs.YtkohhdkkbaifoaaGreatDoor

/-
  Contract of perm.Back.
-/
namespace Go.Proofs.YtkohhdkkbaifoaaGreatDoor
open Go.RowKit PK

theorem firstWrong_any (fs : Nat → Nat → Int) (n : Nat) (hn : n ≤ 2) (b : Nat) (w : World) (hbw : b < w.heap.size) (hr : ∀ k, k < n → w.rangeAt b (k * 26) (ints 26 (fs k)).toList) :
    Calls Tryz.prog 194 #[.slice (some ⟨b, 0, none⟩) n n] w fun e w' => e = .returned (.int .i64 (Pm.firstBad fs n)) ∧ Below w.heap.size w w' := by
  have HR : Hid (∀ k, k < n → w.rangeAt b (k * 26) (ints 26 (fs k)).toList) := hr
  clear hr
  go_enter Tryz.func194, Tryz.ntmps194
  go_wp2
  go_loopw [8] (fun i W => ∃ k : Nat, k ≤ n ∧ i = .int .i64 k ∧ Hid (Pm.firstBad fs k = 0) ∧ Below w.heap.size w W) (fun i _ => (n - intOf i).toNat)
  case atStart => exact ⟨0, by omega, rfl, rfl, Below.refl _ _⟩
  case round =>
    obtain ⟨k, hk, rfl, HN, hb⟩ := hrel
    have hsz := hb.size
    by_cases hlt : k < n
    · have HC : Hid (wr.rangeAt b (k * 26) (ints 26 (fs k)).toList) := Below.rangeAt hb (HR.out k hlt) hbw
      have hX : Pm.wrong (fs k) = 0 ∨ (Pm.wrong (fs k) != 0) = true := by by_cases e : Pm.wrong (fs k) = 0 <;> simp [e]
      obtain ⟨x, hx⟩ : ∃ x, x = Pm.wrong (fs k) := ⟨_, rfl⟩
      rw [← hx] at hX
      have HX : Hid (x = Pm.wrong (fs k)) := hx
      clear hx
      have hcall : ∀ W : World, Calls Tryz.prog 114 #[.agg (ints 26 (fs k))] W fun e w' => e = .returned (.int .i64 x) ∧ Below W.heap.size W w' := fun W => by rw [HX.out]; exact wrong_any (fs k) W
      have HL : Hid (∀ W : World, Calls Tryz.prog 114 #[.agg (ints 26 (fs k))] W fun e w' => e = .returned (.int .i64 x) ∧ Below W.heap.size W w') := hcall
      clear hcall
      rcases hX with rfl | hX
      · go_wp2_with (first
          | refine wpList_load_mid rfl 27 _ rfl b (k * 26) rfl (ints 26 (fs k)).toList _ HC.out Tryz.underlying27 rfl (by rw [Array.length_toList, ints_size]; exact info_perm) ?_
          | (refine wpList_store_row rfl 27 _ _ rfl wr.heap.size (ints 26 (fs k)) rfl rfl 27 _ (RowAt.new wr _ _) (by rw [ints_size]; exact info_perm) (by rw [ints_size]; rfl) (ints_one _ _) ?_; rw [World.setRow_alloc_new])
          | refine wpList_load_row rfl 27 _ rfl wr.heap.size rfl 27 (ints 26 (fs k)) (0, 0) _ (RowAt.new wr _ _) Tryz.underlying27 rfl (by rw [ints_size]; exact info_perm) ?_
          | (go_at_call 114; refine (HL.out _).mono ?_; rintro e w1 ⟨rfl, hb1⟩))
        go_roundw
        case rel => exact ⟨k + 1, by omega, by go_num, by rw [Hid, Pm.firstBad_succ fs k HN.out]; exact HX.out.symm, (hb.alloc hsz _).trans (hb1.mono (by simp; omega))⟩
        case measure => simp [intOf]; omega
      · go_wp2_with (first
          | refine wpList_load_mid rfl 27 _ rfl b (k * 26) rfl (ints 26 (fs k)).toList _ HC.out Tryz.underlying27 rfl (by rw [Array.length_toList, ints_size]; exact info_perm) ?_
          | (refine wpList_store_row rfl 27 _ _ rfl wr.heap.size (ints 26 (fs k)) rfl rfl 27 _ (RowAt.new wr _ _) (by rw [ints_size]; exact info_perm) (by rw [ints_size]; rfl) (ints_one _ _) ?_; rw [World.setRow_alloc_new])
          | refine wpList_load_row rfl 27 _ rfl wr.heap.size rfl 27 (ints 26 (fs k)) (0, 0) _ (RowAt.new wr _ _) Tryz.underlying27 rfl (by rw [ints_size]; exact info_perm) ?_
          | (go_at_call 114; refine (HL.out _).mono ?_; rintro e w1 ⟨rfl, hb1⟩))
        go_ret
        exact ⟨ret_int (HX.out.trans (Pm.firstBad_stop fs k n HN.out (by rw [← HX.out]; simpa using hX) hlt).symm), (hb.alloc hsz _).trans (hb1.mono (by simp; omega))⟩
    · have HK : Hid (k = n) := by rw [Hid]; omega
      go_wp2
      go_ret
      exact ⟨ret_int (by rw [← HK.out]; exact HN.out.symm), hb⟩
theorem zero_perm : (Tryz.prog.info? 27).map (fun i => (i.zero, i.size)) = some (some (.agg (ints 26 fun _ => 0)), 26) := by kernel_rfl
theorem fill_perm (p : Nat → Nat) (hp : Pm.IsPerm p) (v : Nat → Int) : ints 26 (fill p v 26) = ints 26 fun j => v (Pm.inv p j) := ints_ext fun j hj => by
  have h := hp.inv_spec j hj
  have := fill_at p v hp.inj 26 (Nat.le_refl _) (Pm.inv p j) h.1
  rw [h.2] at this
  exact this
theorem fill_back (p : Nat → Nat) (hp : Pm.IsPerm p) : ints 26 (fill p (Pm.up fun i => i) 26) = ints 26 (Pm.up (Pm.inv p)) := fill_perm p hp _
theorem one_ok (p : Nat → Nat) (hp : Pm.IsPerm p) : Pm.firstBad (fun _ => Pm.up p) 1 = 0 := (Pm.firstBad_succ (fun _ => Pm.up p) 0 rfl).trans (Pm.wrong_up p hp)
theorem back1_any (p : Nat → Nat) (i : Nat) (hi : i < 26) (bp : Nat) (w : World) (hrp : RowAt w bp 27 (ints 26 (Pm.up p))) :
    Calls Tryz.prog 240 #[.int .i64 (i : Int), .pointer (some ⟨bp, 0, none⟩)] w fun e w' => e = .returned (.tuple #[.int .i64 (p i : Nat), .int .i64 (i : Int)]) ∧ Below w.heap.size w w' := by
  have hc1 := hrp.cell (ints_get (Pm.up p) hi)
  simp only [Pm.up] at hc1
  clear hrp
  go_enter Tryz.func240, Tryz.ntmps240
  go_wp2
  go_ret2
  exact ⟨rfl, rfl, rfl, rfl, Nat.le_refl _, fun _ _ => rfl⟩
theorem back_ok (p : Nat → Nat) (hp : Pm.IsPerm p) (w : World) :
    Calls Tryz.prog 216 #[.agg (ints 26 (Pm.up p))] w fun e w' => e = .returned (.tuple #[.agg (ints 26 (Pm.up (Pm.inv p))), .int .i64 0]) ∧ Below w.heap.size w w' := by
  have H0 : Hid (Pm.firstBad (fun _ => Pm.up p) 1 = 0) := one_ok p hp
  have hmf : ∀ (fn : Fn) (first cap : Array Value) (w : World), (Instr.makeFunc fn first cap).run Tryz.prog w = .ok (.func fn first cap) w := fun _ _ _ _ => rfl
  go_enter Tryz.func216, Tryz.ntmps216
  go_wp2_with (first
    | refine wpList_load_row rfl 27 _ rfl w.heap.size rfl 27 (ints 26 (Pm.up p)) (0, 0) _ ((RowAt.new w _ _).alloc _) Tryz.underlying27 rfl (by rw [ints_size]; exact info_perm) ?_
    | refine wpList_build1 rfl 200 27 _ rfl 26 (Pm.up p) rfl (by decide) Tryz.underlying200 zero_perm (by decide) ?_)
  rw [zero26]
  refine (firstWrong_any (fun _ => Pm.up p) 1 (by decide) _ _ (by simp) (range_one (RowAt.newAt (by simp)))).mono ?_
  rintro e W1 ⟨rfl, hb0⟩
  obtain ⟨r1, r3, hb1, hs1⟩ := after1 hb0
  clear hb0
  rw [H0.out]
  go_wp2_with fail
  refine (taking_any 240 #[.pointer (some ⟨w.heap.size, 0, none⟩)] p (Pm.up fun i => i) hp.lt _ (by intro args W; go_simp) (fun i hi W hW => back1_any p i hi _ W (r1.below hW (by omega)))).mono ?_
  rintro e W2 ⟨rfl, hb2⟩
  rw [fill_back p hp]
  have hs2 := hb2.size
  have hrow := r3.below hb2 (by omega)
  go_wp2_with (refine wpList_store_row rfl 27 _ _ rfl (w.heap.size + 1) (ints 26 (Pm.up (Pm.inv p))) rfl rfl 27 _ hrow (by rw [ints_size]; exact info_perm) (by simp only [ints_size]) (ints_one _ _) ?_)
  exact bodyPost_ret (v := .tuple #[.agg (ints 26 (Pm.up (Pm.inv p))), .int .i64 0]) (results_cell_tmp2 rfl _ _ (w.heap.size + 1) 27 _ (0, 0) _ _ rfl rfl (hrow.row _) Tryz.underlying27 rfl (by rw [ints_size]; exact info_perm)) rfl ⟨rfl, Below.setRow (hb1.trans (hb2.mono (by omega))) _ (by omega) _⟩
end Go.Proofs.YtkohhdkkbaifoaaGreatDoor
