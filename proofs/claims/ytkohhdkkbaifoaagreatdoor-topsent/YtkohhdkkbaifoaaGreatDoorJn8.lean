/-
  Several texts, joined: ScK, ScW.
-/
import Derived.Test.YtkohhdkkbaifoaaGreatDoorJn3
import Derived.Test.YtkohhdkkbaifoaaGreatDoorJn4
import Derived.Test.YtkohhdkkbaifoaaGreatDoorRoWg
/-
  Chains of ciphers (chapter 17) as data: a step's 59 cells, what is wrong with it; how chains lie in memory.
-/
namespace Go.Proofs.YtkohhdkkbaifoaaGreatDoor
open Go.RowKit PK Vg

/-- A step as it is given: anything. -/
structure Sp where
  k : Int
  n : Int
  key : ByteArray
  r : Nat
  L : Nat → Nat
  Z : Nat → Nat → Int
  g : Gm
/-- The cells of a step. -/
def spA (k n : Int) (key : ByteArray) (mv a b c : Value) (rf pl : Nat → Int) : Array Value := #[.int .i64 k, .int .i64 n, .string key, mv] ++ mac a b c rf pl
section
variable (k n : Int) (key : ByteArray) (mv a b c : Value) (rf pl : Nat → Int)
theorem spA_size : (spA k n key mv a b c rf pl).size = 59 := by simp [spA, mac_size]
theorem spA_0 : (spA k n key mv a b c rf pl)[0]? = some (.int .i64 k) := by simp [spA, mac_size]
theorem spA_1 : (spA k n key mv a b c rf pl)[1]? = some (.int .i64 n) := by simp [spA, mac_size]
theorem spA_2 : (spA k n key mv a b c rf pl)[2]? = some (.string key) := by simp [spA, mac_size]
theorem spA_3 : (spA k n key mv a b c rf pl)[3]? = some mv := by simp [spA, mac_size]
theorem spA_mac (i : Nat) : (spA k n key mv a b c rf pl)[4 + i]? = (mac a b c rf pl)[i]? := by
  unfold spA
  rw [Array.getElem?_append, if_neg (by simp)]
  simp
end
theorem mac_one {a b c : Value} {rf pl : Nat → Int} (ha : a.oneCell' = true) (hb : b.oneCell' = true) (hc : c.oneCell' = true) : (mac a b c rf pl).all (·.oneCell') = true := by
  unfold mac
  rw [Array.all_append, Array.all_append, ints_one, ints_one]
  simp [ha, hb, hc]
theorem spA_one {k n : Int} {key : ByteArray} {mv a b c : Value} {rf pl : Nat → Int} (hm : mv.oneCell' = true) (ha : a.oneCell' = true) (hb : b.oneCell' = true) (hc : c.oneCell' = true) : (spA k n key mv a b c rf pl).all (·.oneCell') = true := by
  unfold spA
  rw [Array.all_append, mac_one ha hb hc]
  have h1 : (Value.int .i64 k).oneCell' = true := rfl
  have h2 : (Value.int .i64 n).oneCell' = true := rfl
  have h3 : (Value.string key).oneCell' = true := rfl
  simp [hm, h1, h2, h3]
theorem s_info : (Tryz.prog.info? 31).map (·.size) = some 59 := by kernel_rfl
theorem s_zero : (Tryz.prog.info? 31).map (·.zero) = some (some (.agg (spA 0 0 ⟨#[]⟩ (.slice none 0 0) (.slice none 0 0) (.slice none 0 0) (.slice none 0 0) (fun _ => 0) (fun _ => 0)))) := by kernel_rfl
/-- v is such a step. -/
def SqAt (W : World) (v : Value) (s : Sp) : Prop := ∃ mv a b c, v = .agg (spA s.k s.n s.key mv a b c s.g.rf s.g.pl) ∧ MatAt W mv s.r s.L s.Z ∧ WheelsAt W a s.g.n s.g.wi s.g.nl s.g.no ∧ NumsAt W b s.g.rl s.g.ri ∧ NumsAt W c s.g.sl s.g.st
theorem SqAt.below {w w' : World} {v : Value} {s : Sp} (h : SqAt w v s) (hb : Below w.heap.size w w') : SqAt w' v s := by
  obtain ⟨mv, a, b, c, rfl, h1, h2, h3, h4⟩ := h
  exact ⟨mv, a, b, c, rfl, h1.below hb, h2.below hb, h3.below hb, h4.below hb⟩
/-- v is a slice of n steps. -/
def ChAt (W : World) (v : Value) (n : Nat) (l : Nat → Sp) : Prop :=
  ∃ (a : Option Addr) (cap : Nat) (R : Nat → Array Value), v = .slice a n cap ∧ n ≤ maxLen ∧ (∀ i, i < n → ∃ b o, a = some ⟨b, o, none⟩ ∧ W.rangeAt b (o + i * 59) (R i).toList) ∧ ∀ i, i < n → SqAt W (.agg (R i)) (l i)
theorem ChAt.below {w w' : World} {v : Value} {n : Nat} {l : Nat → Sp} (h : ChAt w v n l) (hb : Below w.heap.size w w') : ChAt w' v n l := by
  obtain ⟨a, cap, R, h1, h2, h3, h4⟩ := h
  refine ⟨a, cap, R, h1, h2, fun i hi => ?_, fun i hi => (h4 i hi).below hb⟩
  obtain ⟨b, o, e, hc⟩ := h3 i hi
  exact ⟨b, o, e, rangeAt_below hc hb⟩
/-- What is wrong: a number, a key, a step, a chain. -/
def inE (n lo hi : Int) : Int := if n < lo ∨ hi < n then 3 else 0
def keyE (l : List UInt8) : Int := if ckE l ≠ 0 then ckE l else if l.length < 1 ∨ 256 < l.length then 5 else 0
def stE (s : Sp) : Int :=
  if s.k = 1 then inE s.n 0 25 else if s.k = 2 then (if inE s.n 1 4 ≠ 0 then inE s.n 1 4 else keyE s.key.data.toList)
  else if s.k = 3 then inE s.n 1 64 else if s.k = 4 then keyE s.key.data.toList else if s.k = 5 then matErr s.r s.L s.Z else if s.k = 6 then gE s.g else 1
/-- The first of them with which something is wrong, from m on. -/
def firE (l : Nat → Sp) : Nat → Option Nat
  | 0 => none
  | m + 1 => match firE l m with
    | some i => some i
    | none => if stE (l m) = 0 then none else some m
theorem firE_none {l : Nat → Sp} : ∀ {m : Nat}, firE l m = none → ∀ i, i < m → stE (l i) = 0
  | 0, _, i, hi => by omega
  | m + 1, h, i, hi => by
    unfold firE at h
    cases hm : firE l m with
    | some x => rw [hm] at h; cases h
    | none =>
      rw [hm] at h
      by_cases e : stE (l m) = 0
      · by_cases hi2 : i = m
        · rw [hi2]; exact e
        · exact firE_none hm i (by omega)
      · simp only [if_neg e] at h; cases h
theorem firE_all {l : Nat → Sp} : ∀ {m : Nat}, (∀ i, i < m → stE (l i) = 0) → firE l m = none
  | 0, _ => rfl
  | m + 1, h => by unfold firE; rw [firE_all (fun i hi => h i (by omega))]; simp only [if_pos (h m (by omega))]
theorem firE_some {l : Nat → Sp} : ∀ {m i : Nat}, firE l m = some i → i < m ∧ stE (l i) ≠ 0 ∧ ∀ j, j < i → stE (l j) = 0
  | 0, i, h => by cases h
  | m + 1, i, h => by
    unfold firE at h
    cases hm : firE l m with
    | some x => rw [hm] at h; cases h; obtain ⟨h1, h2⟩ := firE_some hm; exact ⟨by omega, h2⟩
    | none =>
      rw [hm] at h
      by_cases e : stE (l m) = 0
      · simp only [if_pos e] at h; cases h
      · simp only [if_neg e] at h; cases h; exact ⟨by omega, e, fun j hj => firE_none hm j hj⟩
theorem firE_of {l : Nat → Sp} {m i : Nat} (hi : i < m) (h0 : ∀ j, j < i → stE (l j) = 0) (h : stE (l i) ≠ 0) : firE l m = some i := by
  cases hm : firE l m with
  | none => exact absurd (firE_none hm i hi) h
  | some j =>
    obtain ⟨h1, h2, h3⟩ := firE_some hm
    by_cases hj : j < i
    · exact absurd (h0 j hj) h2
    · by_cases hji : i < j
      · exact absurd (h3 i hji) h
      · rw [show j = i by omega]
/-- What is wrong with a chain, and where. -/
def chE (n : Nat) (l : Nat → Sp) : Int := if 64 < n then 5 else ((firE l n).map fun i => stE (l i)).getD 0
def chA (n : Nat) (l : Nat → Sp) : Nat := if 64 < n then 0 else (firE l n).getD 0
theorem chE_zero {n : Nat} {l : Nat → Sp} (h : chE n l = 0) : n ≤ 64 ∧ ∀ i, i < n → stE (l i) = 0 := by
  unfold chE at h
  by_cases hn : 64 < n
  · rw [if_pos hn] at h; cases h
  · rw [if_neg hn] at h
    refine ⟨by omega, ?_⟩
    cases hm : firE l n with
    | none => exact firE_none hm
    | some i => rw [hm] at h; exact absurd h (firE_some hm).2.1
end Go.Proofs.YtkohhdkkbaifoaaGreatDoor

/-
  Contracts of script.outside, wrongKey, Wrong and checkChain.
-/
namespace Go.Proofs.YtkohhdkkbaifoaaGreatDoor
open Go.RowKit PK Vg

set_option maxRecDepth 100000 in
theorem out_ok (n lo hi : Int) (h1 : ¬ n < lo) (h2 : ¬ hi < n) (w : World) : Calls Tryz.prog 27 #[.int .i64 n, .int .i64 lo, .int .i64 hi] w fun e w' => e = .returned (.int .i64 0) ∧ w' = w := by
  go_enter Tryz.func27, Tryz.ntmps27
  go_wp2
  go_ret
  exact ⟨rfl, rfl⟩
set_option maxRecDepth 100000 in
theorem out_low (n lo hi : Int) (h1 : n < lo) (w : World) : Calls Tryz.prog 27 #[.int .i64 n, .int .i64 lo, .int .i64 hi] w fun e w' => e = .returned (.int .i64 3) ∧ w' = w := by
  go_enter Tryz.func27, Tryz.ntmps27
  go_wp2
  go_ret
  exact ⟨rfl, rfl⟩
set_option maxRecDepth 100000 in
theorem out_high (n lo hi : Int) (h1 : ¬ n < lo) (h2 : hi < n) (w : World) : Calls Tryz.prog 27 #[.int .i64 n, .int .i64 lo, .int .i64 hi] w fun e w' => e = .returned (.int .i64 3) ∧ w' = w := by
  go_enter Tryz.func27, Tryz.ntmps27
  go_wp2
  go_ret
  exact ⟨rfl, rfl⟩
theorem out_any (n lo hi : Int) (w : World) : Calls Tryz.prog 27 #[.int .i64 n, .int .i64 lo, .int .i64 hi] w fun e w' => e = .returned (.int .i64 (inE n lo hi)) ∧ w' = w := by
  unfold inE
  by_cases h1 : n < lo
  · rw [if_pos (.inl h1)]; exact out_low n lo hi h1 w
  · by_cases h2 : hi < n
    · rw [if_pos (.inr h2)]; exact out_high n lo hi h1 h2 w
    · rw [if_neg (fun h => h.elim h1 h2)]; exact out_ok n lo hi h1 h2 w
set_option maxRecDepth 100000 in
theorem wkey_any (s : ByteArray) (w : World) : Calls Tryz.prog 28 #[.string s] w fun e w' => e = .returned (.int .i64 (keyE s.data.toList)) ∧ Below w.heap.size w w' := by
  obtain ⟨X, hX⟩ : ∃ X, X = keyE s.data.toList := ⟨_, rfl⟩
  rw [← hX]
  have HX : Hid (X = keyE s.data.toList) := hX
  have hl := Pl.size_len s
  have HL : Hid (s.data.toList.length = s.size) := by rw [Hid, hl]
  have HC : Hid _ := check_all s w
  generalize hce : ckE s.data.toList = c at *
  generalize ckAt s.data.toList = ca at *
  have HCE : Hid (ckE s.data.toList = c) := hce
  clear hX hl hce
  go_enter Tryz.func28, Tryz.ntmps28
  go_wp2_with fail
  refine Calls.mono HC.out ?_
  rintro e V ⟨rfl, hb⟩
  have hbe := hb
  have HB : Hid (Below w.heap.size w (V.alloc (.cells #[.int .i64 c, .int .i64 ca] 35))) := hbe.alloc hbe.size _
  clear hb hbe
  by_cases hc0 : c = 0
  · subst hc0
    by_cases h1 : s.size < 1
    · have HE : Hid (X = 5) := by rw [Hid, HX.out]; unfold keyE; rw [if_neg (fun h => h HCE.out), if_pos (.inl (by rw [HL.out]; exact h1))]
      have h1' : (s.size : Int) < 1 := by omega
      go_wp2
      go_ret
      exact ⟨by rw [HE.out]; rfl, HB.out⟩
    · have h1' : ¬ (s.size : Int) < 1 := by omega
      by_cases h2 : 256 < s.size
      · have HE : Hid (X = 5) := by rw [Hid, HX.out]; unfold keyE; rw [if_neg (fun h => h HCE.out), if_pos (.inr (by rw [HL.out]; exact h2))]
        have h2' : 256 < (s.size : Int) := by omega
        go_wp2
        go_ret
        exact ⟨by rw [HE.out]; rfl, HB.out⟩
      · have HE : Hid (X = 0) := by rw [Hid, HX.out]; unfold keyE; rw [if_neg (fun h => h HCE.out), if_neg (by rw [HL.out]; omega)]
        have h2' : ¬ 256 < (s.size : Int) := by omega
        go_wp2
        go_ret
        exact ⟨by rw [HE.out]; rfl, HB.out⟩
  · have hc1 : (c != 0) = true := by simpa using hc0
    have HE : Hid (X = c) := by rw [Hid, HX.out]; unfold keyE; rw [if_pos (by rw [HCE.out]; exact hc0), HCE.out]
    clear hc0
    go_wp2
    go_ret
    exact ⟨by rw [HE.out]; rfl, HB.out⟩
theorem s_info_mac : (Tryz.prog.info? 29).map (·.size) = some 55 := by kernel_rfl
set_option maxRecDepth 100000 in
set_option maxHeartbeats 2000000 in
theorem sw_any (v : Value) (s : Sp) (w : World) (hv : SqAt w v s) : Calls Tryz.prog 9 #[v] w fun e w' => e = .returned (.int .i64 (stE s)) ∧ Below w.heap.size w w' := by
  obtain ⟨mv, a, b, c, rfl, hm, hw, hri, hst⟩ := hv
  obtain ⟨X, hX⟩ : ∃ X, X = stE s := ⟨_, rfl⟩
  rw [← hX]
  have HX : Hid (X = stE s) := hX
  clear hX
  obtain ⟨W, hW⟩ : ∃ W, W = w.alloc (.cells (spA s.k s.n s.key mv a b c s.g.rf s.g.pl) 31) := ⟨_, rfl⟩
  have hr0 : RowAt W w.heap.size 31 (spA s.k s.n s.key mv a b c s.g.rf s.g.pl) := by rw [hW]; exact RowAt.new w _ _
  have hbe : Below w.heap.size w W := by rw [hW]; exact (Below.refl _ w).alloc (Nat.le_refl _) _
  have c0 := hr0.cell (spA_0 s.k s.n s.key mv a b c s.g.rf s.g.pl)
  have c1 := hr0.cell (spA_1 s.k s.n s.key mv a b c s.g.rf s.g.pl)
  have c2 := hr0.cell (spA_2 s.k s.n s.key mv a b c s.g.rf s.g.pl)
  have c3 := hr0.cell (spA_3 s.k s.n s.key mv a b c s.g.rf s.g.pl)
  have hmid : W.rangeAt w.heap.size 4 (mac a b c s.g.rf s.g.pl).toList := row_mid hr0 4 _ (fun i v hv => by rw [spA_mac]; exact hv)
  have HM : Hid (MatAt W mv s.r s.L s.Z) := hm.below hbe
  have HG : Hid (MacAt W (.agg (mac a b c s.g.rf s.g.pl)) s.g) := ⟨a, b, c, rfl, hw.below hbe, hri.below hbe, hst.below hbe⟩
  obtain ⟨am, capm, R, rfl, _⟩ := hm
  have HR : Hid _ := hr0
  have HB : Hid _ := hbe
  clear hw hri hst hr0 hbe
  subst hW
  generalize spA s.k s.n s.key (.slice am s.r capm) a b c s.g.rf s.g.pl = CS at *
  generalize hmc : mac a b c s.g.rf s.g.pl = MC at *
  have HMS : Hid (MC.size = 55) := by rw [Hid, ← hmc]; exact mac_size _ _ _ _ _
  clear hmc
  go_enter Tryz.func9, Tryz.ntmps9
  by_cases k1 : s.k = 1
  · rw [k1] at c0
    have HE : Hid (X = inE s.n 0 25) := by rw [Hid, HX.out]; unfold stE; rw [if_pos k1]
    have HO : Hid _ := out_any s.n 0 25 (w.alloc (.cells CS 31))
    clear k1
    go_wp2_with fail
    refine Calls.mono HO.out ?_
    rintro e V ⟨rfl, rfl⟩
    go_wp2
    go_ret
    exact ⟨by rw [HE.out]; rfl, HB.out⟩
  by_cases k2 : s.k = 2
  · rw [k2] at c0
    have HO : Hid _ := out_any s.n 1 4 (w.alloc (.cells CS 31))
    have HK : Hid _ := wkey_any s.key (w.alloc (.cells CS 31))
    have HE : Hid (X = if inE s.n 1 4 ≠ 0 then inE s.n 1 4 else keyE s.key.data.toList) := by rw [Hid, HX.out]; unfold stE; rw [if_neg k1, if_pos k2]
    generalize keyE s.key.data.toList = y at *
    generalize hz : inE s.n 1 4 = z at *
    clear k1 k2
    go_wp2_with fail
    refine Calls.mono HO.out ?_
    rintro e V ⟨rfl, rfl⟩
    by_cases hz0 : z = 0
    · subst hz0
      have HE2 : Hid (X = y) := by rw [Hid, HE.out, if_neg (fun h => h rfl)]
      clear hz
      go_wp2_with fail
      refine Calls.mono HK.out ?_
      rintro e V2 ⟨rfl, hb⟩
      go_wp2
      go_ret
      exact ⟨by rw [HE2.out]; rfl, HB.out.trans (hb.mono HB.out.size)⟩
    · have hz1 : (z != 0) = true := by simpa using hz0
      have HE2 : Hid (X = z) := by rw [Hid, HE.out, if_pos hz0]
      clear hz hz0
      go_wp2
      go_ret
      exact ⟨by rw [HE2.out]; rfl, HB.out⟩
  by_cases k3 : s.k = 3
  · rw [k3] at c0
    have HE : Hid (X = inE s.n 1 64) := by rw [Hid, HX.out]; unfold stE; rw [if_neg k1, if_neg k2, if_pos k3]
    have HO : Hid _ := out_any s.n 1 64 (w.alloc (.cells CS 31))
    clear k1 k2 k3
    go_wp2_with fail
    refine Calls.mono HO.out ?_
    rintro e V ⟨rfl, rfl⟩
    go_wp2
    go_ret
    exact ⟨by rw [HE.out]; rfl, HB.out⟩
  by_cases k4 : s.k = 4
  · rw [k4] at c0
    have HE : Hid (X = keyE s.key.data.toList) := by rw [Hid, HX.out]; unfold stE; rw [if_neg k1, if_neg k2, if_neg k3, if_pos k4]
    have HO : Hid _ := wkey_any s.key (w.alloc (.cells CS 31))
    clear k1 k2 k3 k4
    go_wp2_with fail
    refine Calls.mono HO.out ?_
    rintro e V ⟨rfl, hb⟩
    go_wp2
    go_ret
    exact ⟨by rw [HE.out]; rfl, HB.out.trans (hb.mono HB.out.size)⟩
  by_cases k5 : s.k = 5
  · rw [k5] at c0
    have HE : Hid (X = matErr s.r s.L s.Z) := by rw [Hid, HX.out]; unfold stE; rw [if_neg k1, if_neg k2, if_neg k3, if_neg k4, if_pos k5]
    have HO : Hid _ := hwrong_any _ s.r s.L s.Z (w.alloc (.cells CS 31)) HM.out
    clear k1 k2 k3 k4 k5
    go_wp2_with fail
    refine Calls.mono HO.out ?_
    rintro e V ⟨rfl, rfl⟩
    go_wp2
    go_ret
    exact ⟨by rw [HE.out]; rfl, HB.out⟩
  by_cases k6 : s.k = 6
  · rw [k6] at c0
    have HE : Hid (X = gE s.g) := by rw [Hid, HX.out]; unfold stE; rw [if_neg k1, if_neg k2, if_neg k3, if_neg k4, if_neg k5, if_pos k6]
    have HO : Hid _ := gw_any _ s.g (w.alloc (.cells CS 31)) HG.out
    clear k1 k2 k3 k4 k5 k6
    go_wp2_with (first | refine wpList_load_arr rfl 29 _ rfl w.heap.size 4 rfl MC _ hmid Tryz.underlying29 rfl (by rw [HMS.out]; exact s_info_mac) ?_)
    refine Calls.mono HO.out ?_
    rintro e V ⟨rfl, hb⟩
    go_wp2
    go_ret
    exact ⟨by rw [HE.out]; rfl, HB.out.trans (hb.mono HB.out.size)⟩
  · have HE : Hid (X = 1) := by rw [Hid, HX.out]; unfold stE; rw [if_neg k1, if_neg k2, if_neg k3, if_neg k4, if_neg k5, if_neg k6]
    have e1 : (s.k == 1) = false := beq_false_of_ne k1
    have e2 : (s.k == 2) = false := beq_false_of_ne k2
    have e3 : (s.k == 3) = false := beq_false_of_ne k3
    have e4 : (s.k == 4) = false := beq_false_of_ne k4
    have e5 : (s.k == 5) = false := beq_false_of_ne k5
    have e6 : (s.k == 6) = false := beq_false_of_ne k6
    clear k1 k2 k3 k4 k5 k6
    go_wp2
    go_ret
    exact ⟨by rw [HE.out]; rfl, HB.out⟩
end Go.Proofs.YtkohhdkkbaifoaaGreatDoor
