/-
  Contract of the document's System (chapter 11): rows that taps must fulfil.
-/
import Derived.Test.YtflehdigikdhmaaRgB
import Derived.Test.YtflehdigikdhmaaRgL
import Derived.Test.YtflehdigikdhmaaOLate
namespace Go.Proofs.Ytflehdigikdhmaa
open Go.RowKit PK

theorem foldl_layT (N : Nat) (off : Nat) : ∀ (l : List Value) (s : Nat) (g : Nat → Value), (l.zipIdx s).foldl (fun cs x => cs.setIfInBounds (off + x.2) x.1) (tab N g) = tab N fun i => if off + s ≤ i ∧ i < off + s + l.length then l.getD (i - (off + s)) (.bool false) else g i
  | [], s, g => by
    simp only [List.zipIdx_nil, List.foldl_nil, List.length_nil]
    exact tab_ext fun i _ => by rw [if_neg (by omega)]
  | v :: l, s, g => by
    simp only [List.zipIdx_cons, List.foldl_cons]
    rw [tab_set, foldl_layT N off l (s + 1)]
    refine tab_ext fun i _ => ?_
    by_cases h1 : i = off + s
    · subst h1
      rw [if_neg (by omega), if_pos (by simp)]
      simp
    · by_cases h2 : off + s ≤ i ∧ i < off + s + (v :: l).length
      · have h3 : off + (s + 1) ≤ i ∧ i < off + (s + 1) + l.length := by simp at h2; omega
        rw [if_pos h3, if_pos h2]
        obtain ⟨j, hj⟩ : ∃ j, i - (off + s) = j + 1 := ⟨i - (off + s) - 1, by omega⟩
        have hj' : i - (off + (s + 1)) = j := by omega
        rw [hj, hj']
        simp
      · rw [if_neg (by simp at h2; omega), if_neg h2]
        simp [upd, h1]
theorem tab_toList (n : Nat) (h : Nat → Value) : (tab n h).toList = (List.range n).map h := by simp [tab]
theorem range_tabT (N : Nat) (h : Nat → Value) : (Array.range N).map h = tab N h := by
  apply Array.ext_getElem?
  intro i
  by_cases h1 : i < N
  · simp [tab, h1]
  · simp [tab, h1]
theorem fill_oneT (n : Nat) (g h : Nat → Value) : Instr.fill (fun i => some (i * n, n)) (tab n g) [(0, .agg (tab n h))] = some (tab n h) := by
  rw [Instr.fill]
  have h0 : (Value.agg (tab n h)).cells = tab n h := rfl
  simp only [h0, tab_size]
  rw [if_neg (by simp)]
  have := foldl_layT n (0 * n) (tab n h).toList 0 g
  rw [← Array.foldl_toList, Array.toList_zipIdx, this]
  show some _ = some _
  congr 1
  refine tab_ext fun i hi => ?_
  rw [tab_toList]
  simp [List.getD, hi]
theorem run_build1T (w : World) (t e : TypeId) (n : Nat) (hn : n * 2 ≤ 2 ^ 24) (hu : Try.prog.underlying t = some (.slice e)) (z : Nat → Value) (hz : (Try.prog.info? e).map (fun i => (i.zero, i.size)) = some (some (.agg (tab n z)), n)) (h0 : 0 < n) (h : Nat → Value) :
    (Instr.buildSlice t 1 #[(0, .agg (tab n h))]).run Try.prog w = .ok (.slice (some ⟨w.heap.size, 0, none⟩) 1 1) (w.alloc (.cells (tab n h) e)) := by
  cases hq : Try.prog.info? e with
  | none => simp [hq] at hz
  | some i =>
    have hz' : i.zero = some (.agg (tab n z)) ∧ i.size = n := by simpa [hq] using hz
    have hsz : ∀ W, (sizeOf e).run Try.prog W = .ok n W := fun W => by simp [sizeOf, typeInfo, hq, hz'.2]
    have hzv : ∀ W, (zeroValue e).run Try.prog W = .ok (.agg (tab n z)) W := fun W => by simp [zeroValue, typeInfo, hq, hz'.1]
    have h3 : ¬ (n > 2 ^ 24) := by omega
    have h4 : ¬ (n = 0) := by omega
    simp only [Instr.buildSlice, Sem.run_bind, run_underlying hu, Result.andThen_ok, hsz, Nat.one_mul, h3, h4, if_false, hzv, Sem.run_pure, range_tabT, fill_oneT]
    simp [newRow]
theorem wpList_build1T {ops : Array Oper} {rest : List Oper} {op : Oper} {a : Act} {w : World} {Q : Exit → Act → World → Prop} (hgd : op.guard = none) (t e : TypeId) (x : Operand) (ho : op.op = .buildSlice t 1 #[(0, x)])
    (n : Nat) (h : Nat → Value) (hx : a.eval x = .agg (tab n h)) (hn : n * 2 ≤ 2 ^ 24) (hu : Try.prog.underlying t = some (.slice e)) (z : Nat → Value) (hz : (Try.prog.info? e).map (fun i => (i.zero, i.size)) = some (some (.agg (tab n z)), n)) (h0 : 0 < n)
    (hK' : wpList Try.prog ops Q rest (a.put op.dst (.slice (some ⟨w.heap.size, 0, none⟩) 1 1)) (w.alloc (.cells (tab n h) e))) : wpList Try.prog ops Q (op :: rest) a w :=
  wpList_plain hgd fun _ hK => by
    unfold Oper.wp execOp
    have hm : (#[(0, x)] : Array (Nat × Operand)).map (fun (i, x) => (i, a.eval x)) = #[(0, .agg (tab n h))] := by simp [hx]
    simp only [ho, Sem.run_bind, hm, run_build1T w t e n hn hu z hz h0 h, Result.andThen_ok]
    exact hK _ _ hK'
theorem late_storeI {P : Program} {md : Region.Mode} {ops : Array Oper} {Q : Exit → Act → World → Prop} {S T : World → Prop} {late : Nat → Bool} {fuel : Nat} {listed : Array Bool} {tm : Array Value} {df : List Deferred} {w : World} (i : Nat) (o : Oper) (ho : ops[i]? = some o) (hw : Region.wanted o (yielded ops tm) = true)
    (hd : o.dst = none) (t : TypeId) (x y : Operand) (hop : o.op = .store t x y) (hti : (P.info? t).map (·.size) = some 1) (p : Addr) (hx : Act.eval ⟨tm, df⟩ x = .pointer (some p)) (k : IntKind) (z : Int) (hy : Act.eval ⟨tm, df⟩ y = .int k z)
    (u : Value) (hc : w.cell? p = some u) (hf : w.frozen? p = false) (hl : cleanL ops late (listed.setIfInBounds i true) = false) (hT : T (w.setCell p (.int k z)))
    (h : wpAnyL P md ops Q S T late fuel (listed.setIfInBounds i true) ⟨tm, df⟩ (w.setCell p (.int k z))) : StepL P md ops Q S T late fuel listed ⟨tm, df⟩ w i := by
  refine wpOp_step ho (fun K hK => ?_)
  rw [if_pos hw]
  unfold Oper.wp execOp
  have hsz : (sizeOf t).run P w = .ok 1 w := by
    cases hq : P.info? t with
    | none => simp [hq] at hti
    | some i =>
      have hs : i.size = 1 := by simpa [hq] using hti
      simp [sizeOf, typeInfo, hq, hs]
  simp only [hop, hx, hy]
  simp [go_sem, hc, hf, hsz]
  have hp : Act.put ⟨tm, df⟩ o.dst undef = ⟨tm, df⟩ := by rw [hd]; rfl
  rw [← hp] at h
  exact hK _ _ ⟨fun e => (by rw [hl] at e; cases e), hT, h⟩
theorem g_size_u64 : (Try.prog.info? 46).map (·.size) = some 1 := by kernel_rfl
/-- Rows, one behind the other. -/
def flatR (R : Nat → Nat → Nat) : Nat → Nat := fun i => R (i / 5) (i % 5)
def OwnsR (W : World) (B : Nat) (v : Value) (m : Nat) (R : Nat → Nat → Nat) : Prop := W.ownsRow B 48 5 v m (u64s (m * 5) (flatR R)).toList
theorem flatR_snoc (R : Nat → Nat → Nat) (X : Nat → Nat) (m : Nat) : (u64s (m * 5) (flatR R)).toList ++ (u64s 5 X).toList = (u64s ((m + 1) * 5) (flatR (upd R m X))).toList := by
  rw [← Array.toList_append]
  refine congrArg Array.toList ?_
  apply Array.ext_getElem?
  intro i
  by_cases h1 : i < m * 5
  · rw [Array.getElem?_append_left (by rw [u64s_size]; exact h1), u64s_get _ h1, u64s_get _ (by omega)]
    unfold flatR
    rw [upd_other _ _ (by omega)]
  · rw [Array.getElem?_append_right (by rw [u64s_size]; omega), u64s_size]
    by_cases h2 : i < (m + 1) * 5
    · rw [u64s_get _ (by omega), u64s_get _ h2]
      unfold flatR
      rw [show i / 5 = m by omega, upd_same, show i % 5 = i - m * 5 by omega]
    · rw [Array.getElem?_eq_none (by rw [u64s_size]; omega), Array.getElem?_eq_none (by rw [u64s_size]; omega)]
theorem all_u64 {n : Nat} {f : Nat → Nat} {u : Value} (h : u ∈ (u64s n f).toList) : u.oneCell' = true := by
  have := u64s_one n f
  rw [Array.all_eq_true_iff_forall_mem] at this
  exact this u (by simpa using h)
theorem g_zero_row : (Try.prog.info? 48).map (fun i => (i.zero, i.size)) = some (some (.agg (tab 5 fun _ => .int .u64 0)), 5) := by kernel_rfl
theorem g_zero_row1 : (Try.prog.info? 48).map (·.zero) = some (some (.agg (u64s 5 fun _ => 0))) := by kernel_rfl
theorem g_info_row3 : (Try.prog.info? 48).map (fun i => (i.zero, i.size, i.bytes)) = some (some (.agg (tab 5 fun _ => .int .u64 0)), 5, 40) := by kernel_rfl
/-- One bit more. -/
theorem rbit_or (X : Nat → Nat) (k i : Nat) : rbit (upd X (k / 64) (X (k / 64) ||| 2 ^ (k % 64))) i = (rbit X i || decide (i = k)) := by
  unfold rbit upd
  by_cases h : i / 64 = k / 64
  · rw [if_pos h, Nat.testBit_or, Nat.testBit_two_pow, h]
    by_cases e : i = k
    · subst e; simp
    · have : ¬ k % 64 = i % 64 := by omega
      simp [e, this]
  · rw [if_neg h]
    have : ¬ i = k := fun e => h (by rw [e])
    simp [this]
theorem wd_or {X : Nat → Nat} (h : Wd X) (k : Nat) : Wd (upd X (k / 64) (X (k / 64) ||| 2 ^ (k % 64))) := fun j => by
  unfold upd
  by_cases e : j = k / 64
  · rw [if_pos e]
    exact Nat.or_lt_two_pow (h _) (pow_lt64 (Nat.mod_lt _ (by decide)))
  · rw [if_neg e]; exact h j
/-- The row that the bit i asks for. -/
structure IsRow (b : Nat → Nat) (L i : Nat) (X : Nat → Nat) : Prop where
  wd : Wd X
  tap : ∀ k, k < L → rbit X k = bt (b (i - 1 - k))
  end' : rbit X L = bt (b i)
/-- Its first k bits. -/
structure RowTo (b : Nat → Nat) (i k : Nat) (X : Nat → Nat) : Prop where
  wd : Wd X
  tap : ∀ j, j < k → rbit X j = bt (b (i - 1 - j))
  no : ∀ j, k ≤ j → rbit X j = false
theorem RowTo.zero (b : Nat → Nat) (i : Nat) : RowTo b i 0 fun _ => 0 := ⟨fun _ => by decide, fun j hj => by omega, fun j _ => by unfold rbit; exact Nat.zero_testBit _⟩
theorem RowTo.skip {b : Nat → Nat} {i k : Nat} {X : Nat → Nat} (h : RowTo b i k X) (hb : bt (b (i - 1 - k)) = false) : RowTo b i (k + 1) X := ⟨h.wd, fun j hj => by
  by_cases e : j = k
  · rw [e, hb]; exact h.no k (Nat.le_refl _)
  · exact h.tap j (by omega), fun j hj => h.no j (by omega)⟩
theorem RowTo.put {b : Nat → Nat} {i k : Nat} {X : Nat → Nat} (h : RowTo b i k X) (hb : bt (b (i - 1 - k)) = true) : RowTo b i (k + 1) (upd X (k / 64) (X (k / 64) ||| 2 ^ (k % 64))) := ⟨wd_or h.wd k, fun j hj => by
  rw [rbit_or]
  by_cases e : j = k
  · rw [e, hb]; simp
  · rw [h.tap j (by omega)]; simp [e], fun j hj => by
  rw [rbit_or, h.no j (by omega)]
  simp; omega⟩
theorem RowTo.end0 {b : Nat → Nat} {i L : Nat} {X : Nat → Nat} (h : RowTo b i L X) (hb : bt (b i) = false) : IsRow b L i X := ⟨h.wd, h.tap, by rw [hb]; exact h.no L (Nat.le_refl _)⟩
theorem RowTo.end1 {b : Nat → Nat} {i L : Nat} {X : Nat → Nat} (h : RowTo b i L X) (hb : bt (b i) = true) : IsRow b L i (upd X (L / 64) (X (L / 64) ||| 2 ^ (L % 64))) := ⟨wd_or h.wd L, fun k hk => by
  rw [rbit_or, h.tap k hk]
  have : ¬ k = L := by omega
  simp [this], by rw [rbit_or, hb]; simp⟩
set_option maxRecDepth 100000 in
set_option maxHeartbeats 8000000 in
theorem rsys_any (v : Value) (n : Nat) (hn : n ≤ 256) (b : Nat → Nat) (hb1 : ∀ i, i < n → b i ≤ 1) (L : Nat) (hL : L ≤ n) (w : World) (hv : NumsAt w v n fun i => (b i : Nat)) : Calls Try.prog 22 #[v, .int .i64 (L : Nat)] w fun e w' => ∃ v', e = .returned v' ∧ (∃ R, OwnsR w' w.heap.size v' (n - L) R ∧ ∀ r, r < n - L → IsRow b L (L + r) (R r)) ∧ Below w.heap.size w w' := by
  obtain ⟨i0, hi0, hz0, hz1, hz2⟩ := x_info_parts g_info_row3
  obtain ⟨av, cv, rfl, _, hc⟩ := hv
  have HC := (show Hid (∀ i, i < n → ∃ bb o, av = some ⟨bb, o, none⟩ ∧ w.cell? ⟨bb, o + i, none⟩ = some (.int .i64 (b i : Nat))) from hc)
  have HB1 := (show Hid _ from hb1)
  clear hc hb1
  go_enter Try.func22, Try.ntmps22
  go_wp2_with fail
  go_loopw [5, 6] (fun o x W => ∃ (m : Nat) (v' : Value) (R : Nat → Nat → Nat), m ≤ n - L ∧ x = .int .i64 ((L + m : Nat) : Int) ∧ v' = o ∧ OwnsR W w.heap.size v' m R ∧ (∀ r, r < m → IsRow b L (L + r) (R r)) ∧ Below w.heap.size w W) (fun _ x _ => ((n : Int) - intOf x).toNat)
  case atStart => exact ⟨0, _, fun _ _ => 0, by omega, rfl, rfl, World.ownsRow_nil _ _ _ _, fun r hr => by omega, Below.refl _ _⟩
  case round =>
    obtain ⟨m, v', Rr, hm, rfl, rfl, hown, hrows, hbe⟩ := hrel
    obtain ⟨i, hie⟩ : ∃ i, i = L + m := ⟨_, rfl⟩
    rw [← hie]
    by_cases hlt : i < n
    case neg =>
      have hmn : m = n - L := by omega
      have hnn : ¬ (i : Int) < (n : Int) := by omega
      have HO := (show Hid _ from hown)
      have HR := (show Hid _ from hrows)
      have HBE := (show Hid _ from hbe)
      have HMN := (show Hid _ from hmn)
      clear hown hrows hbe hlt hie hmn
      go_wp2
      go_ret
      exact ⟨v', rfl, ⟨Rr, by rw [← HMN.out]; exact HO.out, by rw [← HMN.out]; exact HR.out⟩, HBE.out⟩
    have HIE := (show Hid (i = L + m) from hie)
    have HLT : Hid (i < n) := hlt
    have hlt2 : (i : Int) < (n : Int) := by omega
    have hiL : L ≤ i := by omega
    have HROWS := (show Hid _ from hrows)
    have hzr := o_zero g_zero_row1
    have hq7 := hbe.size
    clear hie hrows hlt
    go_upto_region 6 with fail
    have hr7 := RowAt.new wr 48 (u64s 5 fun _ => 0)
    have how := own_step hown ((Below.refl wr.heap.size wr).alloc (Nat.le_refl _) (.cells (u64s 5 fun _ => 0) 48))
    have hbe2 := hbe.alloc hbe.size (.cells (u64s 5 fun _ => 0) 48)
    have hne : v'.ownBlock = none ∨ v'.ownBlock ≠ some wr.heap.size := .inr fun e => by have := (World.ownsRow.lt hown _ e).2; omega
    generalize wr.alloc (.cells (u64s 5 fun _ => 0) 48) = V0 at *
    obtain ⟨q7, hq⟩ : ∃ x, x = wr.heap.size := ⟨_, rfl⟩
    rw [← hq] at hr7 hne hq7 ⊢
    have HNE := (show Hid _ from hne)
    have HQ7 := (show Hid _ from hq7)
    clear hq hown hbe hzr hne hq7
    go_wp2_with fail
    go_loopw [8] (fun x W => ∃ (k : Nat) (X : Nat → Nat), k ≤ L ∧ x = .int .i64 (k : Nat) ∧ RowAt W q7 48 (u64s 5 X) ∧ RowTo b i k X ∧ OwnsR W w.heap.size v' m Rr ∧ Below w.heap.size w W) (fun x _ => ((L : Int) - intOf x).toNat)
    case atStart => exact ⟨0, _, by omega, rfl, hr7, RowTo.zero b i, how, hbe2⟩
    case round =>
      clear hr7 how hbe2
      obtain ⟨k, X, hk, rfl, hr7, hrt, how, hbe⟩ := hrel
      have HR7 := (show Hid (RowAt wr q7 48 (u64s 5 X)) from hr7)
      have HRT := (show Hid _ from hrt)
      have HOW := (show Hid (OwnsR wr w.heap.size v' m Rr) from how)
      have HBE := (show Hid _ from hbe)
      by_cases hlt : k < L
      · have HLK : Hid (k < L) := hlt
        have hltk : (k : Int) < (L : Int) := by omega
        obtain ⟨bb, o, rfl, h1⟩ := HC.out (i - 1 - k) (by omega)
        have h2 := (hbe.cell (p := ⟨bb, o + (i - 1 - k), none⟩) (cell_block h1)).trans h1
        have hbk := HB1.out (i - 1 - k) (by omega)
        have k1 : (i : Int) - 1 - (k : Int) < (n : Int) := by omega
        have k2 : ¬ (i : Int) - 1 - (k : Int) < 0 := by omega
        have k3 : ((i : Int) - 1 - (k : Int)).toNat = i - 1 - k := by omega
        have hrt0 := hrt.skip
        have hrt1 := hrt.put
        obtain ⟨y, hy⟩ : ∃ y, y = b (i - 1 - k) := ⟨_, rfl⟩
        have h2' : wr.cell? ⟨bb, o + (i - 1 - k), none⟩ = some (.int .i64 (y : Nat)) := by rw [hy]; exact h2
        rw [← hy] at hbk hrt0 hrt1
        clear h1 h2 hy hr7 hrt how hbe hlt
        rcases (by omega : y = 0 ∨ y = 1) with rfl | rfl
        · have HN := (show Hid _ from hrt0 rfl)
          clear hrt0 hrt1
          go_wp2
          go_roundw
          case rel => exact ⟨k + 1, X, HLK.out, by go_num, HR7.out, HN.out, HOW.out, HBE.out⟩
          case measure => have := HLK.out; simp [intOf]; omega
        · clear hrt0
          have hkd : (k : Int).tdiv 64 = ((k / 64 : Nat) : Int) := by rw [Int.tdiv_eq_ediv_of_nonneg (by omega)]; omega
          have hkm : (k : Int).tmod 64 = ((k % 64 : Nat) : Int) := by rw [Int.tmod_eq_emod_of_nonneg (by omega)]; omega
          have hj5 : k / 64 < 5 := by omega
          have ht64 : k % 64 < 64 := by omega
          have HXW : Hid (X (k / 64) < 2 ^ 64) := HRT.out.wd _
          have HPUT := (show Hid _ from hrt1 rfl)
          have HUP : Hid (RowAt (wr.drew.setCell ⟨q7, k / 64, none⟩ (.int .u64 ((X (k / 64) ||| 2 ^ (k % 64) : Nat) : Int))) q7 48 (u64s 5 (upd X (k / 64) (X (k / 64) ||| 2 ^ (k % 64))))) := by
            have h1 := RowAt.set (w := wr.drew) (T := 48) HR7.out (k / 64) (.int .u64 ((X (k / 64) ||| 2 ^ (k % 64) : Nat) : Int))
            rw [u64s_set] at h1
            exact h1
          have HOW2 : Hid (OwnsR (wr.drew.setCell ⟨q7, k / 64, none⟩ (.int .u64 ((X (k / 64) ||| 2 ^ (k % 64) : Nat) : Int))) w.heap.size v' m Rr) := World.ownsRow.kept (World.ownsRow.drew HOW.out) (grown_set wr.drew q7 _ _) HNE.out
          have HBE2 := (show Hid _ from (HBE.out.drew).setCell (p := ⟨q7, k / 64, none⟩) HQ7.out (.int .u64 ((X (k / 64) ||| 2 ^ (k % 64) : Nat) : Int)))
          obtain ⟨j, hje⟩ : ∃ j, j = k / 64 := ⟨_, rfl⟩
          obtain ⟨t, hte⟩ : ∃ t, t = k % 64 := ⟨_, rfl⟩
          rw [← hje] at hj5 HXW HPUT HUP HOW2 HBE2 hkd
          rw [← hte] at ht64 HPUT HUP HOW2 HBE2 hkm
          have hk2 : (k : Int) / 64 = (j : Int) := by omega
          have hk3 : (k : Int) % 64 = (t : Int) := by omega
          clear hje hte
          go_upto_region 10 with fail
          clear h2' k1 k2 k3 hrt1
          have hrd : RowAt wr.drew q7 48 (u64s 5 X) := HR7.out
          refine wp_region_noPanic ?_
          refine wp_region_late_drew (S := fun W => RowAt W q7 48 (u64s 5 X)) (T := fun _ => True) (fun j => j == 11) (by kernel_rfl) ?_
          have hS := hrd
          have hT : True := trivial
          obtain ⟨U, hU⟩ : ∃ x, x = wr.drew := ⟨_, rfl⟩
          rw [← hU] at hS hrd HUP HOW2 HBE2 ⊢
          clear hU
          refine ltake 0 29 (.int .i64 (k : Nat)) rfl rfl (by kernel_rfl) (by kernel_rfl) (by kernel_rfl) rfl (by kernel_rfl) (by kernel_rfl) (fun _ _ _ _ h => h) (by rfl) (fun W hW => by clear hS hT hW; go_simp) hS hT ?_
          simp only [List.setIfInBounds_toArray, List.set_cons_succ, List.set_cons_zero]
          refine ltake 1 30 (.int .i64 (j : Nat)) rfl rfl (by kernel_rfl) (by kernel_rfl) (by kernel_rfl) rfl (by kernel_rfl) (by kernel_rfl) (fun _ _ _ _ h => h) (by rfl) (fun W hW => by clear hS hT hW; go_simp; rw [IntKind.wrap_i64]; omega) hS hT ?_
          simp only [List.setIfInBounds_toArray, List.set_cons_succ, List.set_cons_zero]
          refine ltake 2 31 (.int .i64 (k : Nat)) rfl rfl (by kernel_rfl) (by kernel_rfl) (by kernel_rfl) rfl (by kernel_rfl) (by kernel_rfl) (fun _ _ _ _ h => h) (by rfl) (fun W hW => by clear hS hT hW; go_simp) hS hT ?_
          simp only [List.setIfInBounds_toArray, List.set_cons_succ, List.set_cons_zero]
          refine ltake 3 32 (.int .i64 (j : Nat)) rfl rfl (by kernel_rfl) (by kernel_rfl) (by kernel_rfl) rfl (by kernel_rfl) (by kernel_rfl) (fun _ _ _ _ h => h) (by rfl) (fun W hW => by clear hS hT hW; go_simp; rw [IntKind.wrap_i64]; omega) hS hT ?_
          simp only [List.setIfInBounds_toArray, List.set_cons_succ, List.set_cons_zero]
          refine ltake 4 33 (.pointer (some ⟨q7, j, none⟩)) rfl rfl (by kernel_rfl) (by kernel_rfl) (by kernel_rfl) rfl (by kernel_rfl) (by kernel_rfl) (fun _ _ _ _ h => h) (by rfl) (fun W hW => by have u1 : ¬ (5 : Int) ≤ (j : Int) := (by omega); clear hS hT hW; go_simp) hS hT ?_
          simp only [List.setIfInBounds_toArray, List.set_cons_succ, List.set_cons_zero]
          refine ltake 5 34 (.int .u64 (X j : Nat)) rfl rfl (by kernel_rfl) (by kernel_rfl) (by kernel_rfl) rfl (by kernel_rfl) (by kernel_rfl) (fun _ _ _ _ h => h) (by rfl) (fun W hW => by have u := hW.cell (u64s_get X hj5); clear hS hT hW; go_simp) hS hT ?_
          simp only [List.setIfInBounds_toArray, List.set_cons_succ, List.set_cons_zero]
          refine ltake 6 35 (.int .i64 (k : Nat)) rfl rfl (by kernel_rfl) (by kernel_rfl) (by kernel_rfl) rfl (by kernel_rfl) (by kernel_rfl) (fun _ _ _ _ h => h) (by rfl) (fun W hW => by clear hS hT hW; go_simp) hS hT ?_
          simp only [List.setIfInBounds_toArray, List.set_cons_succ, List.set_cons_zero]
          refine ltake 7 36 (.int .i64 (t : Nat)) rfl rfl (by kernel_rfl) (by kernel_rfl) (by kernel_rfl) rfl (by kernel_rfl) (by kernel_rfl) (fun _ _ _ _ h => h) (by rfl) (fun W hW => by clear hS hT hW; go_simp) hS hT ?_
          simp only [List.setIfInBounds_toArray, List.set_cons_succ, List.set_cons_zero]
          refine ltake 8 37 (.int .u64 ((2 ^ t : Nat) : Int)) rfl rfl (by kernel_rfl) (by kernel_rfl) (by kernel_rfl) rfl (by kernel_rfl) (by kernel_rfl) (fun _ _ _ _ h => h) (by rfl) (fun W hW => by have u := shl64 ht64; clear hS hT hW; go_simp) hS hT ?_
          simp only [List.setIfInBounds_toArray, List.set_cons_succ, List.set_cons_zero]
          refine ltake 9 38 (.int .u64 ((X j ||| 2 ^ t : Nat) : Int)) rfl rfl (by kernel_rfl) (by kernel_rfl) (by kernel_rfl) rfl (by kernel_rfl) (by kernel_rfl) (fun _ _ _ _ h => h) (by rfl) (fun W hW => by have u := bits_or64 HXW.out (pow_lt64 ht64); rw [show ((2 ^ t : Nat) : Int) = (2 : Int) ^ t by simp] at u; clear hS hT hW; go_simp) hS hT ?_
          simp only [List.setIfInBounds_toArray, List.set_cons_succ, List.set_cons_zero]
          refine ltake 10 39 (.pointer (some ⟨q7, j, none⟩)) rfl rfl (by kernel_rfl) (by kernel_rfl) (by kernel_rfl) rfl (by kernel_rfl) (by kernel_rfl) (fun _ _ _ _ h => h) (by rfl) (fun W hW => by have u1 : ¬ (5 : Int) ≤ (j : Int) := (by omega); clear hS hT hW; go_simp) hS hT ?_
          simp only [List.setIfInBounds_toArray, List.set_cons_succ, List.set_cons_zero]
          have hc1 := hrd.cell (u64s_get X hj5)
          have hf1 := hrd.frozen j
          refine late_one 11 (by kernel_rfl) (late_storeI 11 _ rfl (by rfl) rfl 46 (.tmp 39) (.tmp 38) rfl g_size_u64 ⟨q7, j, none⟩ rfl .u64 ((X j ||| 2 ^ t : Nat) : Int) rfl _ hc1 hf1 (by kernel_rfl) trivial ?_)
          clear hS hT hrd hc1 hf1
          refine late_done (by kernel_rfl) ?_ _
          refine NoPanic.normal ?_
          go_wp2_with fail
          go_roundw
          case rel => exact ⟨k + 1, _, HLK.out, by go_num, HUP.out, HPUT.out, HOW2.out, HBE2.out⟩
          case measure => have := HLK.out; simp [intOf]; omega
      · obtain rfl : k = L := by omega
        have hnn : ¬ ((k : Nat) : Int) < ((k : Nat) : Int) := by omega
        obtain ⟨bb, o, rfl, h1⟩ := HC.out i HLT.out
        have h2 := (hbe.cell (p := ⟨bb, o + i, none⟩) (cell_block h1)).trans h1
        have hbk := HB1.out i HLT.out
        have hrt0 := hrt.end0
        have hrt1 := hrt.end1
        obtain ⟨y, hy⟩ : ∃ y, y = b i := ⟨_, rfl⟩
        have h2' : wr.cell? ⟨bb, o + i, none⟩ = some (.int .i64 (y : Nat)) := by rw [hy]; exact h2
        rw [← hy] at hbk hrt0 hrt1
        clear h1 h2 hy hr7 hrt how hbe hlt
        rcases (by omega : y = 0 ∨ y = 1) with rfl | rfl
        · have HN := (show Hid _ from hrt0 rfl)
          clear hrt0 hrt1
          have hown := HOW.out
          have hbz := HBE.out.size
          go_wp2_with (first | refine wpList_load_row rfl 48 _ rfl q7 rfl 48 (u64s 5 X) (0, 0) _ HR7.out Try.underlying48 rfl (by rw [u64s_size]; exact g_info_row) ?_ | refine wpList_build1T rfl 40 48 _ rfl 5 (fun i => .int .u64 ((X) i : Nat)) rfl (by decide) Try.underlying40 (fun _ => .int .u64 0) g_zero_row (by decide) ?_ | (at_builtin; refine wpList_append_own _ rfl _ _ 40 rfl w.heap.size 48 i0 (.agg (tab 5 fun _ => .int .u64 0)) 5 40 Try.underlying40 hi0 hz0 hz1 hz2 (tab_size _ _) (by decide) _ _ _ rfl (World.ownsRow.alloc hown _) ⟨wr.heap.size, 0, none⟩ 1 1 (u64s 5 X).toList rfl (by rw [Array.length_toList, u64s_size]) (fun q u hu => by rw [Addr.add_mid, Nat.zero_add]; exact (RowAt.new wr 48 (u64s 5 X)).cell (by rw [← Array.getElem?_toList]; exact hu)) (fun u hu => all_u64 hu) (by unfold maxLen; omega) (by omega) (by simp; omega) ?_; intro v5 w5 hown5 hgrow5 _))
          have HNX : Hid (OwnsR w5 w.heap.size v5 (m + 1) (upd Rr m (X))) := by
            rw [Hid, OwnsR, ← flatR_snoc]
            exact hown5
          have HBN : Hid (Below w.heap.size w w5) := (HBE.out.alloc HBE.out.size _).grown hgrow5 (by simp; omega) (fun j hj => (World.ownsRow.lt hown j hj).1)
          have HRN : Hid (∀ r, r < m + 1 → IsRow b k (k + r) (upd Rr m (X) r)) := fun r hr => by
            by_cases e : r = m
            · subst e
              rw [upd_same, ← HIE.out]
              exact HN.out
            · rw [upd_other _ _ e]
              exact HROWS.out r (by omega)
          go_roundw
          case rel => exact ⟨m + 1, v5, _, by have := HIE.out; have := HLT.out; omega, by have := HIE.out; rw [show ((k + (m + 1) : Nat) : Int) = (i : Int) + 1 by omega], rfl, HNX.out, HRN.out, HBN.out⟩
          case measure => have := HLT.out; simp [intOf]; omega
        · clear hrt0
          have hkd : (k : Int).tdiv 64 = ((k / 64 : Nat) : Int) := by rw [Int.tdiv_eq_ediv_of_nonneg (by omega)]; omega
          have hkm : (k : Int).tmod 64 = ((k % 64 : Nat) : Int) := by rw [Int.tmod_eq_emod_of_nonneg (by omega)]; omega
          have hj5 : k / 64 < 5 := by omega
          have ht64 : k % 64 < 64 := by omega
          have HXW : Hid (X (k / 64) < 2 ^ 64) := HRT.out.wd _
          have HPUT := (show Hid _ from hrt1 rfl)
          have HUP : Hid (RowAt (wr.drew.setCell ⟨q7, k / 64, none⟩ (.int .u64 ((X (k / 64) ||| 2 ^ (k % 64) : Nat) : Int))) q7 48 (u64s 5 (upd X (k / 64) (X (k / 64) ||| 2 ^ (k % 64))))) := by
            have h1 := RowAt.set (w := wr.drew) (T := 48) HR7.out (k / 64) (.int .u64 ((X (k / 64) ||| 2 ^ (k % 64) : Nat) : Int))
            rw [u64s_set] at h1
            exact h1
          have HOW2 : Hid (OwnsR (wr.drew.setCell ⟨q7, k / 64, none⟩ (.int .u64 ((X (k / 64) ||| 2 ^ (k % 64) : Nat) : Int))) w.heap.size v' m Rr) := World.ownsRow.kept (World.ownsRow.drew HOW.out) (grown_set wr.drew q7 _ _) HNE.out
          have HBE2 := (show Hid _ from (HBE.out.drew).setCell (p := ⟨q7, k / 64, none⟩) HQ7.out (.int .u64 ((X (k / 64) ||| 2 ^ (k % 64) : Nat) : Int)))
          obtain ⟨j, hje⟩ : ∃ j, j = k / 64 := ⟨_, rfl⟩
          obtain ⟨t, hte⟩ : ∃ t, t = k % 64 := ⟨_, rfl⟩
          rw [← hje] at hj5 HXW HPUT HUP HOW2 HBE2 hkd
          rw [← hte] at ht64 HPUT HUP HOW2 HBE2 hkm
          have hk2 : (k : Int) / 64 = (j : Int) := by omega
          have hk3 : (k : Int) % 64 = (t : Int) := by omega
          clear hje hte
          go_upto_region 12 with fail
          clear h2' hrt1
          have hrd : RowAt wr.drew q7 48 (u64s 5 X) := HR7.out
          refine wp_region_noPanic ?_
          refine wp_region_late_drew (S := fun W => RowAt W q7 48 (u64s 5 X)) (T := fun _ => True) (fun j => j == 11) (by kernel_rfl) ?_
          have hS := hrd
          have hT : True := trivial
          obtain ⟨U, hU⟩ : ∃ x, x = wr.drew := ⟨_, rfl⟩
          rw [← hU] at hS hrd HUP HOW2 HBE2 ⊢
          clear hU
          refine ltake 0 45 (.int .i64 (k : Nat)) rfl rfl (by kernel_rfl) (by kernel_rfl) (by kernel_rfl) rfl (by kernel_rfl) (by kernel_rfl) (fun _ _ _ _ h => h) (by rfl) (fun W hW => by clear hS hT hW; go_simp) hS hT ?_
          simp only [List.setIfInBounds_toArray, List.set_cons_succ, List.set_cons_zero]
          refine ltake 1 46 (.int .i64 (j : Nat)) rfl rfl (by kernel_rfl) (by kernel_rfl) (by kernel_rfl) rfl (by kernel_rfl) (by kernel_rfl) (fun _ _ _ _ h => h) (by rfl) (fun W hW => by clear hS hT hW; go_simp; rw [IntKind.wrap_i64]; omega) hS hT ?_
          simp only [List.setIfInBounds_toArray, List.set_cons_succ, List.set_cons_zero]
          refine ltake 2 47 (.int .i64 (k : Nat)) rfl rfl (by kernel_rfl) (by kernel_rfl) (by kernel_rfl) rfl (by kernel_rfl) (by kernel_rfl) (fun _ _ _ _ h => h) (by rfl) (fun W hW => by clear hS hT hW; go_simp) hS hT ?_
          simp only [List.setIfInBounds_toArray, List.set_cons_succ, List.set_cons_zero]
          refine ltake 3 48 (.int .i64 (j : Nat)) rfl rfl (by kernel_rfl) (by kernel_rfl) (by kernel_rfl) rfl (by kernel_rfl) (by kernel_rfl) (fun _ _ _ _ h => h) (by rfl) (fun W hW => by clear hS hT hW; go_simp; rw [IntKind.wrap_i64]; omega) hS hT ?_
          simp only [List.setIfInBounds_toArray, List.set_cons_succ, List.set_cons_zero]
          refine ltake 4 49 (.pointer (some ⟨q7, j, none⟩)) rfl rfl (by kernel_rfl) (by kernel_rfl) (by kernel_rfl) rfl (by kernel_rfl) (by kernel_rfl) (fun _ _ _ _ h => h) (by rfl) (fun W hW => by have u1 : ¬ (5 : Int) ≤ (j : Int) := (by omega); clear hS hT hW; go_simp) hS hT ?_
          simp only [List.setIfInBounds_toArray, List.set_cons_succ, List.set_cons_zero]
          refine ltake 5 50 (.int .u64 (X j : Nat)) rfl rfl (by kernel_rfl) (by kernel_rfl) (by kernel_rfl) rfl (by kernel_rfl) (by kernel_rfl) (fun _ _ _ _ h => h) (by rfl) (fun W hW => by have u := hW.cell (u64s_get X hj5); clear hS hT hW; go_simp) hS hT ?_
          simp only [List.setIfInBounds_toArray, List.set_cons_succ, List.set_cons_zero]
          refine ltake 6 51 (.int .i64 (k : Nat)) rfl rfl (by kernel_rfl) (by kernel_rfl) (by kernel_rfl) rfl (by kernel_rfl) (by kernel_rfl) (fun _ _ _ _ h => h) (by rfl) (fun W hW => by clear hS hT hW; go_simp) hS hT ?_
          simp only [List.setIfInBounds_toArray, List.set_cons_succ, List.set_cons_zero]
          refine ltake 7 52 (.int .i64 (t : Nat)) rfl rfl (by kernel_rfl) (by kernel_rfl) (by kernel_rfl) rfl (by kernel_rfl) (by kernel_rfl) (fun _ _ _ _ h => h) (by rfl) (fun W hW => by clear hS hT hW; go_simp) hS hT ?_
          simp only [List.setIfInBounds_toArray, List.set_cons_succ, List.set_cons_zero]
          refine ltake 8 53 (.int .u64 ((2 ^ t : Nat) : Int)) rfl rfl (by kernel_rfl) (by kernel_rfl) (by kernel_rfl) rfl (by kernel_rfl) (by kernel_rfl) (fun _ _ _ _ h => h) (by rfl) (fun W hW => by have u := shl64 ht64; clear hS hT hW; go_simp) hS hT ?_
          simp only [List.setIfInBounds_toArray, List.set_cons_succ, List.set_cons_zero]
          refine ltake 9 54 (.int .u64 ((X j ||| 2 ^ t : Nat) : Int)) rfl rfl (by kernel_rfl) (by kernel_rfl) (by kernel_rfl) rfl (by kernel_rfl) (by kernel_rfl) (fun _ _ _ _ h => h) (by rfl) (fun W hW => by have u := bits_or64 HXW.out (pow_lt64 ht64); rw [show ((2 ^ t : Nat) : Int) = (2 : Int) ^ t by simp] at u; clear hS hT hW; go_simp) hS hT ?_
          simp only [List.setIfInBounds_toArray, List.set_cons_succ, List.set_cons_zero]
          refine ltake 10 55 (.pointer (some ⟨q7, j, none⟩)) rfl rfl (by kernel_rfl) (by kernel_rfl) (by kernel_rfl) rfl (by kernel_rfl) (by kernel_rfl) (fun _ _ _ _ h => h) (by rfl) (fun W hW => by have u1 : ¬ (5 : Int) ≤ (j : Int) := (by omega); clear hS hT hW; go_simp) hS hT ?_
          simp only [List.setIfInBounds_toArray, List.set_cons_succ, List.set_cons_zero]
          have hc1 := hrd.cell (u64s_get X hj5)
          have hf1 := hrd.frozen j
          refine late_one 11 (by kernel_rfl) (late_storeI 11 _ rfl (by rfl) rfl 46 (.tmp 55) (.tmp 54) rfl g_size_u64 ⟨q7, j, none⟩ rfl .u64 ((X j ||| 2 ^ t : Nat) : Int) rfl _ hc1 hf1 (by kernel_rfl) trivial ?_)
          clear hS hT hrd hc1 hf1
          refine late_done (by kernel_rfl) ?_ _
          refine NoPanic.normal ?_
          generalize U.setCell ⟨q7, j, none⟩ (.int .u64 ((X j ||| 2 ^ t : Nat) : Int)) = Z at *
          obtain ⟨Y, hY⟩ : ∃ Y, Y = upd X j (X j ||| 2 ^ t) := ⟨_, rfl⟩
          rw [← hY] at HUP HPUT
          clear hY
          have hown := HOW2.out
          have hbz := HBE2.out.size
          go_wp2_with (first | refine wpList_load_row rfl 48 _ rfl q7 rfl 48 (u64s 5 Y) (0, 0) _ HUP.out Try.underlying48 rfl (by rw [u64s_size]; exact g_info_row) ?_ | refine wpList_build1T rfl 40 48 _ rfl 5 (fun i => .int .u64 ((Y) i : Nat)) rfl (by decide) Try.underlying40 (fun _ => .int .u64 0) g_zero_row (by decide) ?_ | (at_builtin; refine wpList_append_own _ rfl _ _ 40 rfl w.heap.size 48 i0 (.agg (tab 5 fun _ => .int .u64 0)) 5 40 Try.underlying40 hi0 hz0 hz1 hz2 (tab_size _ _) (by decide) _ _ _ rfl (World.ownsRow.alloc hown _) ⟨Z.heap.size, 0, none⟩ 1 1 (u64s 5 Y).toList rfl (by rw [Array.length_toList, u64s_size]) (fun q u hu => by rw [Addr.add_mid, Nat.zero_add]; exact (RowAt.new Z 48 (u64s 5 Y)).cell (by rw [← Array.getElem?_toList]; exact hu)) (fun u hu => all_u64 hu) (by unfold maxLen; omega) (by omega) (by simp; omega) ?_; intro v5 w5 hown5 hgrow5 _))
          have HNX : Hid (OwnsR w5 w.heap.size v5 (m + 1) (upd Rr m (Y))) := by
            rw [Hid, OwnsR, ← flatR_snoc]
            exact hown5
          have HBN : Hid (Below w.heap.size w w5) := (HBE2.out.alloc HBE2.out.size _).grown hgrow5 (by simp; omega) (fun j hj => (World.ownsRow.lt hown j hj).1)
          have HRN : Hid (∀ r, r < m + 1 → IsRow b k (k + r) (upd Rr m (Y) r)) := fun r hr => by
            by_cases e : r = m
            · subst e
              rw [upd_same, ← HIE.out]
              exact HPUT.out
            · rw [upd_other _ _ e]
              exact HROWS.out r (by omega)
          go_roundw
          case rel => exact ⟨m + 1, v5, _, by have := HIE.out; have := HLT.out; omega, by have := HIE.out; rw [show ((k + (m + 1) : Nat) : Int) = (i : Int) + 1 by omega], rfl, HNX.out, HRN.out, HBN.out⟩
          case measure => have := HLT.out; simp [intOf]; omega
end Go.Proofs.Ytflehdigikdhmaa
