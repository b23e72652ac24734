/-
  Several texts, joined: TeK, TeSa, TeS, TeW, TeSu, TeKy, TeWt, TpS.
-/
import Derived.Test.YtpdemelchhkfaaaJn23
import Derived.Deep.MidRow
/-
  A machine as an argument (chapter 13): its cells, and what lies behind its slices.
-/
namespace Go.Proofs.Ytpdemelchhkfaaa
open Go.RowKit PK Tl

/-- A wheel's pins, as they lie behind a slice. -/
def PinsAt (W : World) (v : Value) (n : Nat) (p : Nat → Bool) : Prop :=
  ∃ (a : Option Addr) (cap : Nat), v = .slice a n cap ∧ n ≤ maxLen ∧ ∀ c, c < n → ∃ b o, a = some ⟨b, o, none⟩ ∧ W.cell? ⟨b, o + c, none⟩ = some (.bool (p c))
theorem PinsAt.below {w w' : World} {v : Value} {n : Nat} {p : Nat → Bool} (h : PinsAt w v n p) (hb : Below w.heap.size w w') : PinsAt w' v n p := by
  obtain ⟨a, cap, h1, h2, h3⟩ := h
  refine ⟨a, cap, h1, h2, fun c hc => ?_⟩
  obtain ⟨b, o, e, hcell⟩ := h3 c hc
  exact ⟨b, o, e, (hb.cell (p := ⟨b, o + c, none⟩) (cell_block hcell)).trans hcell⟩
theorem PinsAt.form {w : World} {v : Value} {n : Nat} {p : Nat → Bool} (h : PinsAt w v n p) (hn : 0 < n) : ∃ b o cap, v = .slice (some ⟨b, o, none⟩) n cap ∧ n ≤ maxLen ∧ ∀ c, c < n → w.cell? ⟨b, o + c, none⟩ = some (.bool (p c)) := by
  obtain ⟨a, cap, h1, h2, h3⟩ := h
  obtain ⟨b, o, e, _⟩ := h3 0 hn
  subst e
  refine ⟨b, o, cap, h1, h2, fun c hc => ?_⟩
  obtain ⟨b', o', e', hcell⟩ := h3 c hc
  cases e'
  exact hcell
/-- A machine's 22 cells. -/
def teC (R : Nat → Value) (a : Nat → Int) (i : Nat) : Value := if i < 11 then R i else .int .i64 (a (i - 11))
def teA (R : Nat → Value) (a : Nat → Int) : Array Value := tab 22 (teC R a)
theorem teA_size (R : Nat → Value) (a : Nat → Int) : (teA R a).size = 22 := tab_size _ _
theorem teA_wheel (R : Nat → Value) (a : Nat → Int) {k : Nat} (hk : k < 11) : (teA R a)[k]? = some (R k) := by
  rw [teA, tab_get _ (by omega), teC, if_pos hk]
theorem teA_place (R : Nat → Value) (a : Nat → Int) {k : Nat} (hk : k < 11) : (teA R a)[11 + k]? = some (.int .i64 (a k)) := by
  rw [teA, tab_get _ (by omega), teC, if_neg (by omega), show 11 + k - 11 = k by omega]
theorem teA_ext {R : Nat → Value} {a b : Nat → Int} (h : ∀ k, k < 11 → a k = b k) : teA R a = teA R b := tab_ext fun i hi => by
  unfold teC
  by_cases e : i < 11
  · rw [if_pos e, if_pos e]
  · rw [if_neg e, if_neg e, h _ (by omega)]
theorem teA_one {R : Nat → Value} {a : Nat → Int} (h : ∀ k, k < 11 → (R k).oneCell' = true) : (teA R a).all (·.oneCell') = true := by
  rw [Array.all_eq_true_iff_forall_mem]
  intro v hv
  simp [teA, tab] at hv
  obtain ⟨i, hi, rfl⟩ := hv
  unfold teC
  by_cases e : i < 11
  · rw [if_pos e]; exact h i e
  · rw [if_neg e]; rfl
def TeAt (W : World) (v : Value) (T : Te) : Prop := ∃ R : Nat → Value, v = .agg (teA R T.pl) ∧ ∀ k, k < 11 → PinsAt W (R k) (T.ln k) (T.pin k)
theorem TeAt.below {w w' : World} {v : Value} {T : Te} (h : TeAt w v T) (hb : Below w.heap.size w w') : TeAt w' v T := by
  obtain ⟨R, e, h1⟩ := h
  exact ⟨R, e, fun k hk => (h1 k hk).below hb⟩
section
variable {W : World} {b : Nat} {T : TypeId} {R : Nat → Value} {a : Nat → Int}
theorem te_chi (h : RowAt W b T (teA R a)) : W.rangeAt b 0 (tab 5 R).toList := row_mid h 0 _ fun i v hv => by
  have hi : i < 5 := by have := (Array.getElem?_eq_some_iff.1 hv).1; rwa [tab_size] at this
  rw [tab_get _ hi] at hv
  rw [Nat.zero_add, teA_wheel _ _ (by omega)]
  exact hv
theorem te_psi (h : RowAt W b T (teA R a)) : W.rangeAt b 5 (tab 5 fun k => R (5 + k)).toList := row_mid h 5 _ fun i v hv => by
  have hi : i < 5 := by have := (Array.getElem?_eq_some_iff.1 hv).1; rwa [tab_size] at this
  rw [tab_get _ hi] at hv
  rw [teA_wheel _ _ (by omega)]
  exact hv
theorem te_chiAt (h : RowAt W b T (teA R a)) : W.rangeAt b 11 (ints 5 a).toList := row_mid h 11 _ fun i v hv => by
  have hi : i < 5 := by have := (Array.getElem?_eq_some_iff.1 hv).1; rwa [ints_size] at this
  rw [ints_get _ hi] at hv
  rw [teA_place _ _ (by omega)]
  exact hv
theorem te_psiAt (h : RowAt W b T (teA R a)) : W.rangeAt b 16 (ints 5 fun k => a (5 + k)).toList := row_mid h 16 _ fun i v hv => by
  have hi : i < 5 := by have := (Array.getElem?_eq_some_iff.1 hv).1; rwa [ints_size] at this
  rw [ints_get _ hi] at hv
  rw [show 16 + i = 11 + (5 + i) by omega, teA_place _ _ (by omega)]
  exact hv
theorem te_wheel (h : RowAt W b T (teA R a)) {k : Nat} (hk : k < 11) : W.cell? ⟨b, k, none⟩ = some (R k) := h.cell (teA_wheel _ _ hk)
theorem te_place (h : RowAt W b T (teA R a)) {k : Nat} (hk : k < 11) : W.cell? ⟨b, 11 + k, none⟩ = some (.int .i64 (a k)) := h.cell (teA_place _ _ hk)
end
/-- The five of Chi, the five of Psi gone on. -/
theorem teA_chi (R : Nat → Value) (a g : Nat → Int) : setMany (teA R a) 11 (ints 5 g).toList = teA R fun k => if k < 5 then g k else a k := by
  have hl : (ints 5 g).toList.length = 5 := by rw [Array.length_toList, ints_size]
  apply Array.ext_getElem?
  intro i
  rw [setMany_get _ _ _ _ (by rw [hl, teA_size]; decide), hl]
  by_cases h : 11 ≤ i ∧ i < 11 + 5
  · rw [if_pos h, Array.getElem?_toList, ints_get _ (by omega)]
    have := teA_place R (fun k => if k < 5 then g k else a k) (k := i - 11) (by omega)
    rw [show 11 + (i - 11) = i by omega, if_pos (by omega)] at this
    exact this.symm
  · rw [if_neg h]
    by_cases h2 : i < 22
    · rw [teA, teA, tab_get _ h2, tab_get _ h2]
      unfold teC
      by_cases h3 : i < 11
      · rw [if_pos h3, if_pos h3]
      · rw [if_neg h3, if_neg h3]; dsimp only; rw [if_neg (by omega)]
    · rw [Array.getElem?_eq_none (by rw [teA_size]; omega), Array.getElem?_eq_none (by rw [teA_size]; omega)]
theorem teA_psi (R : Nat → Value) (a g : Nat → Int) : setMany (teA R a) 16 (ints 5 g).toList = teA R fun k => if 5 ≤ k ∧ k < 10 then g (k - 5) else a k := by
  have hl : (ints 5 g).toList.length = 5 := by rw [Array.length_toList, ints_size]
  apply Array.ext_getElem?
  intro i
  rw [setMany_get _ _ _ _ (by rw [hl, teA_size]; decide), hl]
  by_cases h : 16 ≤ i ∧ i < 16 + 5
  · rw [if_pos h, Array.getElem?_toList, ints_get _ (by omega)]
    have := teA_place R (fun k => if 5 ≤ k ∧ k < 10 then g (k - 5) else a k) (k := i - 11) (by omega)
    rw [show 11 + (i - 11) = i by omega, if_pos (by omega), show i - 11 - 5 = i - 16 by omega] at this
    exact this.symm
  · rw [if_neg h]
    by_cases h2 : i < 22
    · rw [teA, teA, tab_get _ h2, tab_get _ h2]
      unfold teC
      by_cases h3 : i < 11
      · rw [if_pos h3, if_pos h3]
      · rw [if_neg h3, if_neg h3]; dsimp only; rw [if_neg (by omega)]
    · rw [Array.getElem?_eq_none (by rw [teA_size]; omega), Array.getElem?_eq_none (by rw [teA_size]; omega)]
theorem teA_motor (R : Nat → Value) (a : Nat → Int) (x : Int) : (teA R a).setIfInBounds 21 (.int .i64 x) = teA R fun k => if k = 10 then x else a k := by
  unfold teA
  rw [tab_set]
  refine tab_ext fun i hi => ?_
  unfold upd teC
  by_cases h1 : i = 21
  · subst h1; rfl
  · rw [if_neg h1]
    by_cases h3 : i < 11
    · rw [if_pos h3, if_pos h3]
    · rw [if_neg h3, if_neg h3]; dsimp only; rw [if_neg (by omega)]
/-- 'p[k]' of an array's value whose elements are slices. -/
theorem run_index_tab {P : Program} (t e e' : TypeId) (n : Nat) (hu : P.underlying t = some (.array n e)) (he : P.underlying e = some (.slice e')) (hs : (P.info? e).map (·.size) = some 1) (f : Nat → Value) (k : Nat) (hk : k < n) (w : World) :
    (Instr.index t (.agg (tab n f)) (.int .i64 (k : Int))).run P w = .ok (f k) w := by
  cases hq : P.info? e with
  | none => simp [hq] at hs
  | some i =>
    have h1 : i.size = 1 := by simpa [hq] using hs
    have h2 : ((k : Int) < (n : Int)) := by omega
    simp [Instr.index, asIntOf, Sem.run_bind, run_underlying hu, part, isAgg, run_underlying he, sizeOf, typeInfo, hq, h1, hk, tab_get f hk]
theorem t_info_pins : (Try.prog.info? 24).map (·.size) = some 1 := by kernel_rfl
theorem wpList_load_arr {P : Program} {ops : Array Oper} {rest : List Oper} {op : Oper} {a : Act} {w : World} {Q : Exit → Act → World → Prop} (hgd : op.guard = none) (ty : TypeId) (x : Operand) (ho : op.op = .load ty x)
    (b o : Nat) (hx : a.eval x = .pointer (some ⟨b, o, none⟩)) (cs : Array Value) (d : TypeDesc) (hc : w.rangeAt b o cs.toList)
    (hu : P.underlying ty = some d) (hd : d.isRow = true) (hi : (P.info? ty).map (·.size) = some cs.size)
    (h : wpList P ops Q rest (a.put op.dst (.agg cs)) w) : wpList P ops Q (op :: rest) a w :=
  wpList_load_mid hgd ty x ho b o hx cs.toList d hc hu hd (by rw [Array.length_toList]; exact hi) (by rw [Array.toArray_toList]; exact h)
section
variable {w W W' : World} {R : Nat → Value} {a : Nat → Int}
end
theorem rg_refl (w : World) (r : Option Nat) : w.grownBy w r := ⟨rfl, rfl, rfl, Nat.le_refl _, fun _ _ _ => rfl⟩
theorem rg_below {a w w' : World} {r : Option Nat} (h : a.grownBy w r) (k : Below w.heap.size w w') : a.grownBy w' r := ⟨k.os.trans h.os, k.tape.trans h.tape, k.output.trans h.output, Nat.le_trans h.size k.size, fun i hi hne => (k.block i (Nat.lt_of_lt_of_le hi h.size)).trans (h.block i hi hne)⟩
theorem rg_set {a w : World} {g : Nat} (h : a.grownBy w (some g)) (i : Nat) (v : Value) : a.grownBy (w.setCell ⟨g, i, none⟩ v) (some g) := grown_trans h (grown_set w g i v)
theorem rg_sets {g : Nat} : ∀ {l : List Value} {o : Nat} {a w : World}, a.grownBy w (some g) → a.grownBy (w.setCells g o l) (some g)
  | [], _, _, _, h => h
  | v :: l, o, _, _, h => rg_sets (l := l) (rg_set h o v)
theorem rg_to {w w' : World} {g B : Nat} (h : w.grownBy w' (some g)) (hB : B ≤ w.heap.size) (hg : B ≤ g) : Below B w w' := ⟨h.os, h.tape, h.output, h.size, fun k hk => h.block k (by omega) (by intro e; cases e; omega)⟩
theorem rg_drew {a w : World} {r : Option Nat} (h : a.grownBy w r) : a.grownBy w.drew r := ⟨h.os, h.tape, h.output, h.size, h.block⟩
end Go.Proofs.Ytpdemelchhkfaaa

/-
  Contract of the document's Same (chapter 11).
-/
namespace Go.Proofs.Ytpdemelchhkfaaa
open Go.RowKit PK

/-- Two rows of numbers are the same. -/
def smB (n m : Nat) (f g : Nat → Int) : Bool := decide (n = m) && (List.range n).all fun i => decide (f i = g i)
theorem smB_iff {n m : Nat} {f g : Nat → Int} : smB n m f g = true ↔ n = m ∧ ∀ i, i < n → f i = g i := by
  unfold smB
  simp [List.all_eq_true]
end Go.Proofs.Ytpdemelchhkfaaa

/-
  Contracts of small functions of chapter 13: the document's Stands, Out, Fair, Sum; tele's wheelWrong, standsWrong, next, textWrong.
-/
namespace Go.Proofs.Ytpdemelchhkfaaa
open Go.RowKit PK Tl

set_option maxRecDepth 100000 in
set_option maxHeartbeats 2000000 in
theorem rstd_any (a : Option Addr) (l cap : Nat) (x : Int) (w : World) (hl : l ≤ maxLen) : Calls Try.prog 26 #[.slice a l cap, .int .i64 x] w fun e w' => e = .returned (.int .i64 (wE l x)) ∧ w = w' := by
  unfold maxLen at hl
  by_cases h1 : l = 0 ∨ 47 < l
  · have HE : Hid (wE l x = 3) := by unfold wE; rw [Hid, if_pos h1]
    by_cases h2 : l < 1
    · have h3 : (l : Int) < 1 := by omega
      clear h1 h2
      go_enter Try.func26, Try.ntmps26
      go_wp2
      go_ret
      exact ⟨by rw [HE.out]; rfl, rfl⟩
    · have h3 : ¬ (l : Int) < 1 := by omega
      have h4 : (47 : Int) < (l : Int) := by omega
      clear h1 h2
      go_enter Try.func26, Try.ntmps26
      go_wp2
      go_ret
      exact ⟨by rw [HE.out]; rfl, rfl⟩
  · have h3 : ¬ (l : Int) < 1 := by omega
    have h4 : ¬ (47 : Int) < (l : Int) := by omega
    by_cases h5 : x < 0
    · have HE : Hid (wE l x = 8) := by unfold wE; rw [Hid, if_neg h1, if_pos (.inl h5)]
      clear h1
      go_enter Try.func26, Try.ntmps26
      go_wp2
      go_ret
      exact ⟨by rw [HE.out]; rfl, rfl⟩
    · by_cases h6 : (l : Int) ≤ x
      · have HE : Hid (wE l x = 8) := by unfold wE; rw [Hid, if_neg h1, if_pos (.inr h6)]
        clear h1
        go_enter Try.func26, Try.ntmps26
        go_wp2
        go_ret
        exact ⟨by rw [HE.out]; rfl, rfl⟩
      · have HE : Hid (wE l x = 0) := by unfold wE; rw [Hid, if_neg h1, if_neg (by omega)]
        clear h1
        go_enter Try.func26, Try.ntmps26
        go_wp2
        go_ret
        exact ⟨by rw [HE.out]; rfl, rfl⟩
/-- What is wrong with a wheel by itself. -/
def whE (l : Nat) : Int := if l = 0 ∨ 47 < l then 3 else 0
set_option maxRecDepth 100000 in
set_option maxHeartbeats 2000000 in
theorem pwh_any (a : Option Addr) (l cap : Nat) (w : World) (hl : l ≤ maxLen) : Calls Try.prog 43 #[.slice a l cap] w fun e w' => e = .returned (.int .i64 (whE l)) ∧ w = w' := by
  unfold maxLen at hl
  by_cases h1 : l = 0 ∨ 47 < l
  · have HE : Hid (whE l = 3) := by unfold whE; rw [Hid, if_pos h1]
    by_cases h2 : l = 0
    · subst h2
      clear h1
      go_enter Try.func43, Try.ntmps43
      go_wp2
      go_ret
      exact ⟨by rw [HE.out]; rfl, rfl⟩
    · have h3 : ((l : Int) == 0) = false := by simp; omega
      have h4 : (47 : Int) < (l : Int) := by omega
      clear h1 h2
      go_enter Try.func43, Try.ntmps43
      go_wp2
      go_ret
      exact ⟨by rw [HE.out]; rfl, rfl⟩
  · have h3 : ((l : Int) == 0) = false := by simp; omega
    have h4 : ¬ (47 : Int) < (l : Int) := by omega
    have HE : Hid (whE l = 0) := by unfold whE; rw [Hid, if_neg h1]
    clear h1
    go_enter Try.func43, Try.ntmps43
    go_wp2
    go_ret
    exact ⟨by rw [HE.out]; rfl, rfl⟩
set_option maxRecDepth 100000 in
set_option maxHeartbeats 2000000 in
theorem pnx_any (a : Option Addr) (l cap x : Nat) (h1 : 1 ≤ l) (h2 : l ≤ 47) (hx : x < l) (w : World) : Calls Try.prog 44 #[.slice a l cap, .int .i64 (x : Nat)] w fun e w' => e = .returned (.int .i64 (((x + 1) % l : Nat) : Int)) ∧ w = w' := by
  have hrem : ((x : Int) + 1).tmod (l : Int) = (((x + 1) % l : Nat) : Int) := by rw [Int.tmod_eq_emod_of_nonneg (by omega)]; push_cast; rfl
  have hl0 : ¬ (l : Int) = 0 := by omega
  have hml := Nat.mod_lt (x + 1) h1
  generalize (x + 1) % l = y at *
  go_enter Try.func44, Try.ntmps44
  go_wp2
  go_ret
  exact ⟨by first | rfl | (rw [← hrem]; rfl), rfl⟩
set_option maxRecDepth 100000 in
set_option maxHeartbeats 2000000 in
theorem rout_any (v : Value) (l : Nat) (p : Nat → Bool) (h1 : 1 ≤ l) (h2 : l ≤ 47) (x s : Nat) (hx : x < 65536) (hs : s ≤ 131072) (w : World) (hv : PinsAt w v l p) : Calls Try.prog 50 #[v, .int .i64 (x : Nat), .int .i64 (s : Nat)] w fun e w' => e = .returned (.int .i64 (if p ((x + s) % l) = true then 1 else 0)) ∧ w = w' := by
  obtain ⟨b, o, cap, rfl, _, hc⟩ := hv.form h1
  have hml := Nat.mod_lt (x + s) h1
  have hcell := hc _ hml
  have hrem : ((x : Int) + (s : Int)).tmod (l : Int) = (((x + s) % l : Nat) : Int) := by rw [Int.tmod_eq_emod_of_nonneg (by omega)]; push_cast; rfl
  have hl0 : ¬ (l : Int) = 0 := by omega
  have hml2 : (((x + s) % l : Nat) : Int) < (l : Int) := by omega
  clear hv hc
  generalize (x + s) % l = y at *
  generalize p y = q at *
  cases q
  · go_enter Try.func50, Try.ntmps50
    go_wp2
    go_ret
    exact ⟨rfl, rfl⟩
  · go_enter Try.func50, Try.ntmps50
    go_wp2
    go_ret
    exact ⟨rfl, rfl⟩
set_option maxRecDepth 100000 in
set_option maxHeartbeats 2000000 in
theorem rfair_any (v : Value) (n : Nat) (f : Nat → Int) (w : World) (hv : NumsAt w v n f) : Calls Try.prog 25 #[v] w fun e w' => e = .returned (.int .i64 (faE n f)) ∧ w = w' := by
  obtain ⟨a, ca, rfl, hmx, hca⟩ := hv
  have HA := (show Hid (∀ c, c < n → ∃ b o, a = some ⟨b, o, none⟩ ∧ w.cell? ⟨b, o + c, none⟩ = some (.int .i64 (f c))) from hca)
  unfold maxLen at hmx
  clear hca
  by_cases h1 : 65536 < n
  · have HE : Hid (faE n f = 5) := by unfold faE; rw [Hid, if_pos h1]
    have h2 : (65536 : Int) < (n : Int) := by omega
    clear h1 HA
    go_enter Try.func25, Try.ntmps25
    go_wp2
    go_ret
    exact ⟨by rw [HE.out]; rfl, rfl⟩
  have HE : Hid (faE n f = firstE (fun c => lE (f c)) n) := by unfold faE; rw [Hid, if_neg h1]
  have h2 : ¬ (65536 : Int) < (n : Int) := by omega
  clear h1
  go_enter Try.func25, Try.ntmps25
  go_wp2_with fail
  go_loopw [10] (fun i W => ∃ m : Nat, m ≤ n ∧ i = .int .i64 m ∧ w = W ∧ Hid (firstE (fun c => lE (f c)) m = 0)) (fun i _ => ((n : Int) - intOf i).toNat)
  case atStart => exact ⟨0, by omega, rfl, rfl, rfl⟩
  case round =>
    obtain ⟨m, hm, rfl, rfl, HZ⟩ := hrel
    by_cases hlt : m < n
    · obtain ⟨b1, o1, e1, c1⟩ := HA.out m hlt
      subst e1
      have HLT : Hid (m < n) := hlt
      have hlt2 : (m : Int) < (n : Int) := by omega
      have HST := (show Hid (firstE (fun c => lE (f c)) (m + 1) = lE (f m)) from firstE_step _ m HZ.out)
      have HKE := (show Hid (firstE (fun c => lE (f c)) (m + 1) ≠ 0 → faE n f = firstE (fun c => lE (f c)) (m + 1)) from fun h => HE.out.trans (firstE_keep _ _ h n hlt))
      generalize f m = x at *
      clear hlt
      by_cases k0 : x < 0
      · have HF : Hid (faE n f = 3) := by
          have : lE x = 3 := by unfold lE; rw [if_pos (.inl k0)]
          rw [this] at HST
          exact (HKE.out (by rw [HST.out]; decide)).trans HST.out
        clear HKE HST
        go_wp2
        go_ret
        exact ⟨by rw [HF.out]; rfl, rfl⟩
      · by_cases k1 : 31 < x
        · have HF : Hid (faE n f = 3) := by
            have : lE x = 3 := by unfold lE; rw [if_pos (.inr k1)]
            rw [this] at HST
            exact (HKE.out (by rw [HST.out]; decide)).trans HST.out
          clear HKE HST
          go_wp2
          go_ret
          exact ⟨by rw [HF.out]; rfl, rfl⟩
        · have HF : Hid (firstE (fun c => lE (f c)) (m + 1) = 0) := by
            have : lE x = 0 := by unfold lE; rw [if_neg (by omega)]
            rw [this] at HST
            exact HST.out
          clear HKE HST
          go_wp2
          go_roundw
          case rel => exact ⟨m + 1, HLT.out, by go_num, by first | rfl | trivial, HF.out⟩
          case measure => have := HLT.out; simp [intOf]; omega
    · obtain rfl : m = n := by omega
      have hnn : ¬ (m : Int) < (m : Int) := by omega
      have HF : Hid (faE m f = 0) := HE.out.trans HZ.out
      clear HE HZ hlt
      go_wp2
      go_ret
      exact ⟨by rw [HF.out]; rfl, rfl⟩
set_option maxRecDepth 100000 in
set_option maxHeartbeats 2000000 in
theorem ptx_any (v : Value) (n : Nat) (f : Nat → Int) (w : World) (hv : NumsAt w v n f) : Calls Try.prog 42 #[v] w fun e w' => e = .returned (.int .i64 (faE n f)) ∧ w = w' := by
  obtain ⟨a, ca, rfl, hmx, hca⟩ := hv
  have HA := (show Hid (∀ c, c < n → ∃ b o, a = some ⟨b, o, none⟩ ∧ w.cell? ⟨b, o + c, none⟩ = some (.int .i64 (f c))) from hca)
  unfold maxLen at hmx
  clear hca
  by_cases h1 : 65536 < n
  · have HE : Hid (faE n f = 5) := by unfold faE; rw [Hid, if_pos h1]
    have h2 : (65536 : Int) < (n : Int) := by omega
    clear h1 HA
    go_enter Try.func42, Try.ntmps42
    go_wp2
    go_ret
    exact ⟨by rw [HE.out]; rfl, rfl⟩
  have HE : Hid (faE n f = firstE (fun c => lE (f c)) n) := by unfold faE; rw [Hid, if_neg h1]
  have h2 : ¬ (65536 : Int) < (n : Int) := by omega
  clear h1
  go_enter Try.func42, Try.ntmps42
  go_wp2_with fail
  go_loopw [10] (fun i W => ∃ m : Nat, m ≤ n ∧ i = .int .i64 m ∧ w = W ∧ Hid (firstE (fun c => lE (f c)) m = 0)) (fun i _ => ((n : Int) - intOf i).toNat)
  case atStart => exact ⟨0, by omega, rfl, rfl, rfl⟩
  case round =>
    obtain ⟨m, hm, rfl, rfl, HZ⟩ := hrel
    by_cases hlt : m < n
    · obtain ⟨b1, o1, e1, c1⟩ := HA.out m hlt
      subst e1
      have HLT : Hid (m < n) := hlt
      have hlt2 : (m : Int) < (n : Int) := by omega
      have HST := (show Hid (firstE (fun c => lE (f c)) (m + 1) = lE (f m)) from firstE_step _ m HZ.out)
      have HKE := (show Hid (firstE (fun c => lE (f c)) (m + 1) ≠ 0 → faE n f = firstE (fun c => lE (f c)) (m + 1)) from fun h => HE.out.trans (firstE_keep _ _ h n hlt))
      generalize f m = x at *
      clear hlt
      by_cases k0 : x < 0
      · have HF : Hid (faE n f = 3) := by
          have : lE x = 3 := by unfold lE; rw [if_pos (.inl k0)]
          rw [this] at HST
          exact (HKE.out (by rw [HST.out]; decide)).trans HST.out
        clear HKE HST
        go_wp2
        go_ret
        exact ⟨by rw [HF.out]; rfl, rfl⟩
      · by_cases k1 : 32 ≤ x
        · have HF : Hid (faE n f = 3) := by
            have : lE x = 3 := by unfold lE; rw [if_pos (.inr (by omega))]
            rw [this] at HST
            exact (HKE.out (by rw [HST.out]; decide)).trans HST.out
          clear HKE HST
          go_wp2
          go_ret
          exact ⟨by rw [HF.out]; rfl, rfl⟩
        · have HF : Hid (firstE (fun c => lE (f c)) (m + 1) = 0) := by
            have : lE x = 0 := by unfold lE; rw [if_neg (by omega)]
            rw [this] at HST
            exact HST.out
          clear HKE HST
          go_wp2
          go_roundw
          case rel => exact ⟨m + 1, HLT.out, by go_num, by first | rfl | trivial, HF.out⟩
          case measure => have := HLT.out; simp [intOf]; omega
    · obtain rfl : m = n := by omega
      have hnn : ¬ (m : Int) < (m : Int) := by omega
      have HF : Hid (faE m f = 0) := HE.out.trans HZ.out
      clear HE HZ hlt
      go_wp2
      go_ret
      exact ⟨by rw [HF.out]; rfl, rfl⟩
end Go.Proofs.Ytpdemelchhkfaaa

/-
  Contract of the document's Wrong (chapter 13).
-/
namespace Go.Proofs.Ytpdemelchhkfaaa
open Go.RowKit PK Tl

end Go.Proofs.Ytpdemelchhkfaaa

/-
  Contract of the document's Sum (chapter 13).
-/
namespace Go.Proofs.Ytpdemelchhkfaaa
open Go.RowKit PK Tl

end Go.Proofs.Ytpdemelchhkfaaa

/-
  Contract of the document's Key (chapter 13).
-/
namespace Go.Proofs.Ytpdemelchhkfaaa
open Go.RowKit PK Tl

/-- The key's first n letters. -/
def kyL (T : Te) (n : Nat) : List Nat := (List.range n).map (keyN T)
theorem kyL_len (T : Te) (n : Nat) : (kyL T n).length = n := by simp [kyL]
theorem kyL_succ (T : Te) (n : Nat) : kyL T (n + 1) = kyL T n ++ [keyN T n] := by
  unfold kyL
  rw [List.range_succ, List.map_append]
  rfl
theorem kyL_get (T : Te) {n i : Nat} (h : i < n) : (kyL T n).getD i 0 = keyN T i := by
  unfold kyL
  simp only [List.getD_eq_getElem?_getD, List.getElem?_map, List.getElem?_range h, Option.map_some, Option.getD_some]
theorem two_bits (x y : Bool) : ((if x = true then 1 else 0 : Nat) + (if y = true then 1 else 0)) % 2 = if (x ^^ y) = true then 1 else 0 := by cases x <;> cases y <;> rfl
theorem cast_ite (b : Bool) : (if b = true then (1 : Int) else 0) = (((if b = true then 1 else 0 : Nat)) : Int) := by cases b <;> rfl
end Go.Proofs.Ytpdemelchhkfaaa

/-
  Contract of the document's Write (chapter 13).
-/
namespace Go.Proofs.Ytpdemelchhkfaaa
open Go.RowKit PK Tl

/-- What becomes of the first m letters. -/
def wrL (T : Te) (f : Nat → Int) (m : Nat) : List Nat := (List.range m).map fun i => (f i).toNat ^^^ keyN T i
theorem wrL_len (T : Te) (f : Nat → Int) (m : Nat) : (wrL T f m).length = m := by simp [wrL]
theorem wrL_succ (T : Te) (f : Nat → Int) (m : Nat) : wrL T f (m + 1) = wrL T f m ++ [(f m).toNat ^^^ keyN T m] := by
  unfold wrL
  rw [List.range_succ, List.map_append]
  rfl
theorem wrL_get (T : Te) (f : Nat → Int) {n i : Nat} (h : i < n) : (((wrL T f n).getD i 0 : Nat) : Int) = wrN T f i := by
  unfold wrL wrN
  simp only [List.getD_eq_getElem?_getD, List.getElem?_map, List.getElem?_range h, Option.map_some, Option.getD_some]
end Go.Proofs.Ytpdemelchhkfaaa

/-
  Contracts of tele's shown and onward (chapter 13).
-/
namespace Go.Proofs.Ytpdemelchhkfaaa
open Go.RowKit PK Tl

theorem results_cell1 {P : Program} {fn : Func} {p : Tmp} {ty : TypeId} (h : fn.results = #[.cell p ty]) (tmps : Array Value) (w : World) (g : Nat) (t : TypeId) (cs : Array Value) (fr : Nat × Nat) (d : TypeDesc)
    (hp : tmps.getD p undef = .pointer (some ⟨g, 0, none⟩)) (hg : w.heap[g]? = some (.cells cs t fr))
    (hu : P.underlying ty = some d) (hd : (match d with | .struct _ | .array _ _ => true | _ => false) = true) (hi : (P.info? ty).map (·.size) = some cs.size) :
    (results fn tmps).run P w = .ok (.agg cs) w := by
  have hp' : tmps[p]?.getD undef = .pointer (some ⟨g, 0, none⟩) := by simpa using hp
  simp [results, h, hp', asAddr, run_loadVar_row w g t ty cs fr d hg hu hd hi]
/-- The first m wheels have gone on. -/
def onF (ln : Nat → Nat) (p : Nat → Nat) (m : Nat) : Nat → Int := fun k => ((if k < m then (p k + 1) % ln k else p k : Nat) : Int)
theorem onF_next (ln p : Nat → Nat) (m : Nat) : ints 5 (upd (onF ln p m) m (((p m + 1) % ln m : Nat) : Int)) = ints 5 (onF ln p (m + 1)) := ints_ext fun i _ => by
  unfold upd onF
  by_cases e : i = m
  · subst e
    rw [if_pos rfl, if_pos (by omega)]
  · rw [if_neg e]
    by_cases e2 : i < m
    · rw [if_pos e2, if_pos (by omega)]
    · rw [if_neg e2, if_neg (by omega)]
theorem onF_start (ln p : Nat → Nat) : (ints 5 fun k => ((p k : Nat) : Int)) = ints 5 (onF ln p 0) := ints_ext fun i _ => by
  unfold onF
  rw [if_neg (by omega)]
theorem onF_all (ln p : Nat → Nat) : ints 5 (onF ln p 5) = ints 5 fun k => (((p k + 1) % ln k : Nat) : Int) := ints_ext fun i hi => by
  unfold onF
  rw [if_pos hi]
end Go.Proofs.Ytpdemelchhkfaaa
