/-
  Several texts, joined: Fd1, Fd2.
-/
import Derived.Test.YthfjkhmedpilnaaChTy
import Derived.Laws.AppendOwn
import Derived.Laws.AppendOwnNone
import Derived.WalkSpells
import Derived.Test.YthfjkhmedpilnaaJn24
/-
  Contracts of chart's windows, and of slices.Clone of numbers (chapter 9).
-/
namespace Go.Proofs.Ythfjkhmedpilnaa
open Go.RowKit PK Vg

/-- The letters that come N-th in m windows. -/
def dig (m N i : Nat) : Nat := N / 26 ^ (m - 1 - i) % 26
theorem dig_lt (m N i : Nat) : dig m N i < 26 := Nat.mod_lt _ (by decide)
/-- The last ones are told, from k on. -/
def digF (m N k : Nat) : Nat → Int := fun i => if k ≤ i then ((dig m N i : Nat) : Int) else 0
theorem digF_start (m N : Nat) : (ints m fun _ => 0) = ints m (digF m N m) := ints_ext fun i hi => by unfold digF; rw [if_neg (by omega)]
theorem digF_next (m N k : Nat) : ints m (upd (digF m N (k + 1)) k ((dig m N k : Nat) : Int)) = ints m (digF m N k) := ints_ext fun i hi => by
  unfold upd
  by_cases e : i = k
  · rw [if_pos e]
    unfold digF
    rw [if_pos (by omega), e]
  · rw [if_neg e]
    unfold digF
    by_cases e2 : k ≤ i
    · rw [if_pos e2, if_pos (by omega)]
    · rw [if_neg e2, if_neg (by omega)]
theorem digF_all (m N : Nat) : ints m (digF m N 0) = ints m fun i => ((dig m N i : Nat) : Int) := ints_ext fun i hi => by unfold digF; rw [if_pos (Nat.zero_le _)]
theorem f_made_tab (z : Value) (n : Nat) : madeCells #[z] n = tab n fun _ => z := by
  unfold madeCells tab
  apply Array.ext
  · simp
  · intro i h1 h2
    simp [Nat.mod_one]
theorem f_info_int : (Try.prog.info? 3).map (fun i => (i.zero, i.size, i.bytes)) = some (some (.int .i64 0), 1, 8) := by kernel_rfl
theorem f_info_parts {P : Program} {e : TypeId} {z : Value} {s b : Nat} (h : (P.info? e).map (fun i => (i.zero, i.size, i.bytes)) = some (some z, s, b)) : ∃ i, P.info? e = some i ∧ i.zero = some z ∧ i.size = s ∧ i.bytes = b := by
  obtain ⟨i, hi, hzz⟩ := Option.map_eq_some_iff.1 h
  simp only [Prod.mk.injEq] at hzz
  exact ⟨i, hi, hzz.1, hzz.2.1, hzz.2.2⟩
theorem pow26_le {m : Nat} (hm : m ≤ 4) : 26 ^ m ≤ 456976 := by
  rcases (by omega : m = 0 ∨ m = 1 ∨ m = 2 ∨ m = 3 ∨ m = 4) with rfl | rfl | rfl | rfl | rfl <;> decide
set_option maxRecDepth 100000 in
set_option maxHeartbeats 2000000 in
theorem pwin_any (m N : Nat) (hm : m ≤ 4) (hN : N < 26 ^ m) (w : World) : Calls Try.prog 79 #[.int .i64 (m : Nat), .int .i64 (N : Nat)] w fun e w' => ∃ g, e = .returned (.slice (some ⟨g, 0, none⟩) m m) ∧ RowAt w' g 3 (ints m fun i => ((dig m N i : Nat) : Int)) ∧ w.heap.size ≤ g ∧ Below w.heap.size w w' := by
  have hmk := run_make_row' (P := Try.prog) 23 3 (.int .i64 0) 8 Try.underlying23 f_info_int rfl .i64 .i64 m (by omega) (by omega)
  rw [f_made_tab] at hmk
  have h2 : RowAt (w.alloc (.cells (tab m fun _ => .int .i64 0) 3)) w.heap.size 3 (ints m fun _ => 0) := RowAt.new w _ _
  rw [digF_start m N] at h2
  have hb2 := (Below.refl w.heap.size w).alloc (Nat.le_refl _) (.cells (tab m fun _ => .int .i64 0) 3)
  have hNb : N < 456976 := Nat.lt_of_lt_of_le hN (pow26_le hm)
  clear hN
  go_enter Try.func79, Try.ntmps79
  go_upto_region 2 with fail
  generalize w.alloc (.cells (tab m fun _ => .int .i64 0) 3) = W2 at *
  clear hmk
  go_wp2_with fail
  go_loopw [1, 6] (fun n x W => ∃ k D : Nat, k ≤ m ∧ D ≤ N ∧ n = .int .i64 (D : Nat) ∧ x = .int .i64 ((k : Int) - 1) ∧ Hid (D = N / 26 ^ (m - k)) ∧ RowAt W w.heap.size 3 (ints m (digF m N k)) ∧ Below w.heap.size w W) (fun _ x _ => (intOf x + 1).toNat)
  case atStart => exact ⟨m, N, Nat.le_refl _, Nat.le_refl _, rfl, rfl, by rw [Hid, Nat.sub_self, Nat.pow_zero, Nat.div_one], h2, hb2⟩
  case round =>
    clear h2 hb2
    obtain ⟨k, D, hk, hD, rfl, rfl, HD, hro, hbe⟩ := hrel
    cases k with
    | zero =>
      rw [digF_all] at hro
      have HRO := (show Hid _ from hro)
      have HBE := (show Hid _ from hbe)
      clear hro hbe HD
      go_wp2
      go_ret
      exact ⟨w.heap.size, by first | rfl | trivial, HRO.out, Nat.le_refl _, HBE.out⟩
    | succ c =>
      have hcs : (((c + 1 : Nat) : Int)) - 1 = (c : Int) := by omega
      rw [hcs]
      have HCM : Hid (c < m) := hk
      have hcm : (c : Int) < (m : Int) := by omega
      have hcell := hro.cell (ints_get (digF m N (c + 1)) (i := c) hk)
      have hfz := hro.frozen c
      have hrem : ((D : Int)).tmod 26 = ((D % 26 : Nat) : Int) := by rw [Int.tmod_eq_emod_of_nonneg (by omega)]; push_cast; rfl
      have hrem2 : ((D : Int)) % 26 = ((D % 26 : Nat) : Int) := by push_cast; rfl
      have hquo : ((D : Int)).tdiv 26 = ((D / 26 : Nat) : Int) := by rw [Int.tdiv_eq_ediv_of_nonneg (by omega)]; push_cast; rfl
      have hquo2 : ((D : Int)) / 26 = ((D / 26 : Nat) : Int) := by push_cast; rfl
      have HDG : Hid (D % 26 = dig m N c) := by rw [Hid, HD.out]; unfold dig; rw [show m - (c + 1) = m - 1 - c by omega]
      have HDN : Hid (D / 26 = N / 26 ^ (m - c)) := by rw [Hid, HD.out, Nat.div_div_eq_div_mul, ← Nat.pow_succ, Nat.succ_eq_add_one, show m - (c + 1) + 1 = m - c by omega]
      have hdl : D / 26 ≤ D := Nat.div_le_self _ _
      have hml := Nat.mod_lt D (show 0 < 26 by decide)
      have HST := (show Hid _ from digF_next m N c)
      have HN : Hid (∀ x, x = D % 26 → RowAt (wr.setCell ⟨w.heap.size, c, none⟩ (.int .i64 ((x : Nat) : Int))) w.heap.size 3 (ints m (digF m N c)) ∧ Below w.heap.size w (wr.setCell ⟨w.heap.size, c, none⟩ (.int .i64 ((x : Nat) : Int)))) := fun x hx => by
        refine ⟨?_, hbe.setCell (p := ⟨w.heap.size, c, none⟩) (Nat.le_refl _) _⟩
        have h1 := hro.set c (.int .i64 ((x : Nat) : Int))
        rw [ints_set, hx, HDG.out, HST.out] at h1
        rw [hx, HDG.out]
        exact h1
      have HN2 := (show Hid _ from HN.out _ rfl)
      generalize digF m N (c + 1) c = oc at *
      generalize D % 26 = x at *
      generalize D / 26 = D2 at *
      clear hro hbe HD HN HST HDG hcs hk
      go_wp2
      go_roundw
      case rel => exact ⟨c, D2, by have := HCM.out; omega, by omega, by first | rfl | go_num, by go_num, HDN.out, HN2.out.1, HN2.out.2⟩
      case measure => simp [intOf]
/-- What the call owns is numbers. -/
theorem own_nums {w : World} {B n : Nat} {v : Value} {f : Nat → Int} (h : w.ownsRow B 3 1 v n (ints n f).toList) : NumsAt w v n f := by
  have hx := h
  rcases h.2 with ⟨rfl, h0⟩ | ⟨g, cap, cur, rfl, hbg, hg, hnc, hcm, hcs, htake⟩
  · exact ⟨none, 0, by rw [h0], by rw [h0]; decide, fun c hc => by omega⟩
  · refine ⟨some ⟨g, 0, none⟩, cap, rfl, by omega, fun c hc => ⟨g, 0, rfl, ?_⟩⟩
    have h1 : (ints n f).toList[c]? = some (.int .i64 (f c)) := by
      have ex : (ints n f).toList[c]? = (ints n f)[c]? := Array.getElem?_toList
      rw [ex, ints_get f hc]
    have := World.ownsRow.cells (g := g) hx rfl c _ h1
    have e : ((⟨g, 0, none⟩ : Addr).add c) = ⟨g, 0 + c, none⟩ := by unfold Addr.add; by_cases e0 : c = 0 <;> simp [e0]
    rw [e] at this
    exact this
theorem f_own_full {w : World} {g B n : Nat} {T : TypeId} {c : Array Value} (h : RowAt w g T c) (hB : B ≤ g) (hn : c.size = n) (hm : n ≤ maxLen) : w.ownsRow B T 1 (.slice (some ⟨g, 0, none⟩) n n) n c.toList :=
  ⟨by simp [hn], .inr ⟨g, n, c, rfl, hB, h, Nat.le_refl _, hm, by simp [hn], by rw [Nat.mul_one, ← hn, ← Array.length_toList, List.take_length]⟩⟩
theorem add_none (b o j : Nat) : ((⟨b, o, none⟩ : Addr).add j) = ⟨b, o + j, none⟩ := by unfold Addr.add; by_cases e0 : j = 0 <;> simp [e0]
set_option maxRecDepth 100000 in
set_option maxHeartbeats 2000000 in
theorem pclone_any (v : Value) (n : Nat) (f : Nat → Int) (hn : n * 8 ≤ 140737488355328) (w : World) (hv : NumsAt w v n f) : Calls Try.prog 35 #[v] w fun e w' => ∃ v', e = .returned v' ∧ NumsAt w' v' n f ∧ (∀ b o cp, v' = .slice (some ⟨b, o, none⟩) n cp → w.heap.size ≤ b) ∧ Below w.heap.size w w' := by
  obtain ⟨i0, hi0, hz0, hz1, hz2⟩ := f_info_parts f_info_int
  obtain ⟨a, cap, rfl, hmx, hc⟩ := hv
  unfold maxLen at hmx
  cases a with
  | none =>
    have h0 : n = 0 := by
      rcases Nat.eq_zero_or_pos n with h | h
      · exact h
      · obtain ⟨b, o, e, _⟩ := hc 0 h
        cases e
    subst h0
    clear hc
    have heq : ∀ W, (binOp .eql 23 (.slice none 0 cap) (.slice none 0 0)).run Try.prog W = .ok (.bool true) W := fun _ => rfl
    go_enter Try.func35, Try.ntmps35
    go_wp2
    go_ret
    exact ⟨_, rfl, ⟨none, 0, rfl, by decide, fun c hc => by omega⟩, fun b o cp e => (by cases e), Below.refl _ _⟩
  | some ad =>
    have hnews : ∀ W, Below w.heap.size w W → ∀ j u, (ints n f).toList[j]? = some u → W.cell? (ad.add j) = some u := fun W hb j u hu => by
      have ex : (ints n f).toList[j]? = (ints n f)[j]? := Array.getElem?_toList
      rw [ex] at hu
      have hj : j < n := by have := (Array.getElem?_eq_some_iff.1 hu).1; rwa [ints_size] at this
      rw [ints_get f hj] at hu
      obtain ⟨b, o, e, hcell⟩ := hc j hj
      cases e
      rw [add_none, ← hu]
      exact (hb.cell (p := ⟨b, o + j, none⟩) (cell_block hcell)).trans hcell
    have HNW := (show Hid _ from hnews)
    have hone : ∀ u ∈ (ints n f).toList, u.oneCell' = true := fun u hu => by
      have := ints_one n f
      rw [Array.all_eq_true_iff_forall_mem] at this
      exact this u (by simpa using hu)
    have HON := (show Hid _ from hone)
    have how : (w.alloc (.cells #[] 3)).ownsRow w.heap.size 3 1 (.slice (some ⟨w.heap.size, 0, none⟩) 0 0) 0 [] := f_own_full (RowAt.new w 3 #[]) (Nat.le_refl _) rfl (by decide)
    have hb1 := (Below.refl w.heap.size w).alloc (Nat.le_refl _) (.cells #[] 3)
    have heq : ∀ W, (binOp .eql 23 (.slice (some ad) n cap) (.slice none 0 0)).run Try.prog W = .ok (.bool false) W := fun _ => rfl
    clear hc hnews hone
    go_enter Try.func35, Try.ntmps35
    go_wp2_with (first | (at_builtin; refine wpList_append_own _ rfl _ _ 23 rfl w.heap.size 3 i0 (.int .i64 0) 1 8 Try.underlying23 hi0 hz0 hz1 hz2 rfl (by decide) _ _ _ rfl how ad n cap (ints n f).toList rfl (by rw [Array.length_toList, ints_size, Nat.mul_one]) (HNW.out _ hb1) HON.out (by unfold maxLen; omega) (by omega) (by simp) ?_; intro v' w1 hown' hgrow _))
    go_ret
    rw [Nat.zero_add, List.nil_append] at hown'
    refine ⟨v', rfl, own_nums hown', fun b o cp e => ?_, hb1.grown hgrow (by simp) (fun p hp => (World.ownsRow.lt how p hp).1)⟩
    rcases hown'.2 with ⟨e2, _⟩ | ⟨g, _, _, e2, hbg, _⟩
    · rw [e2] at e; cases e
    · rw [e2] at e; cases e; exact hbg
end Go.Proofs.Ythfjkhmedpilnaa

/-
  Contracts of slices.Clone of wheels, and of chart's standing (chapter 9).
-/
namespace Go.Proofs.Ythfjkhmedpilnaa
open Go.RowKit PK Vg

theorem mac_set2 (a b c c2 : Value) (rf pl : Nat → Int) : (mac a b c rf pl).setIfInBounds 2 c2 = mac a b c2 rf pl := by
  unfold mac
  rw [Array.append_assoc, Array.append_assoc, Array.setIfInBounds_append_left (by simp)]
  rfl
theorem mac_set1 (a b c c2 : Value) (rf pl : Nat → Int) : (mac a b c rf pl).setIfInBounds 1 c2 = mac a c2 c rf pl := by
  unfold mac
  rw [Array.append_assoc, Array.append_assoc, Array.setIfInBounds_append_left (by simp)]
  rfl
theorem mac_set0 (a b c c2 : Value) (rf pl : Nat → Int) : (mac a b c rf pl).setIfInBounds 0 c2 = mac c2 b c rf pl := by
  unfold mac
  rw [Array.append_assoc, Array.append_assoc, Array.setIfInBounds_append_left (by simp)]
  rfl
/-- The cells of wheels, one behind the other. -/
def whC (wi : Nat → Nat → Int) (R : Nat → Value) (i : Nat) : Value := if i % 27 < 26 then .int .i64 (wi (i / 27) (i % 27)) else R (i / 27)
theorem whC_whl (wi : Nat → Nat → Int) (R : Nat → Value) (r j : Nat) (hj : j < 27) : (whl (wi r) (R r))[j]? = some (whC wi R (r * 27 + j)) := by
  unfold whC
  rw [show (r * 27 + j) / 27 = r by omega, show (r * 27 + j) % 27 = j by omega]
  by_cases h : j < 26
  · rw [if_pos h, whl_get _ _ h]
  · rw [if_neg h, show j = 26 by omega, whl_last]
theorem whC_one {wi : Nat → Nat → Int} {R : Nat → Value} {n : Nat} (h : ∀ r, r < n → (R r).oneCell' = true) : ∀ u ∈ (tab (n * 27) (whC wi R)).toList, u.oneCell' = true := fun u hu => by
  simp [tab] at hu
  obtain ⟨i, hi, rfl⟩ := hu
  unfold whC
  by_cases h1 : i % 27 < 26
  · rw [if_pos h1]; rfl
  · rw [if_neg h1]; exact h _ (by omega)
theorem f_info_wheel : (Try.prog.info? 62).map (fun i => (i.zero, i.size, i.bytes)) = some (some (.agg (whl (fun _ => 0) (.slice none 0 0))), 27, 232) := by kernel_rfl
theorem f_size_wheel : (Try.prog.info? 62).map (·.size) = some 27 := by kernel_rfl
theorem f_zero_wheel : (Try.prog.info? 62).map (·.zero) = some (some (.agg (whl (fun _ => 0) (.slice none 0 0)))) := by kernel_rfl
theorem f_size_ints : (Try.prog.info? 23).map (·.size) = some 1 := by kernel_rfl
set_option maxRecDepth 100000 in
set_option maxHeartbeats 2000000 in
theorem pclw_any (b o n cap : Nat) (wi : Nat → Nat → Int) (R : Nat → Value) (hn : n ≤ 4) (hR : ∀ r, r < n → (R r).oneCell' = true) (w : World) (hc : ∀ r, r < n → w.rangeAt b (o + r * 27) (whl (wi r) (R r)).toList) :
    Calls Try.prog 94 #[.slice (some ⟨b, o, none⟩) n cap] w fun e w' => ∃ g cp cur, e = .returned (.slice (some ⟨g, 0, none⟩) n cp) ∧ RowAt w' g 62 cur ∧ (∀ i, i < n * 27 → cur[i]? = some (whC wi R i)) ∧ w.heap.size ≤ g ∧ Below w.heap.size w w' := by
  obtain ⟨i0, hi0, hz0, hz1, hz2⟩ := f_info_parts f_info_wheel
  have hlen : (tab (n * 27) (whC wi R)).toList.length = n * 27 := by rw [Array.length_toList, tab_size]
  have hget : ∀ j, j < n * 27 → (tab (n * 27) (whC wi R)).toList[j]? = some (whC wi R j) := fun j hj => by
    have ex : (tab (n * 27) (whC wi R)).toList[j]? = (tab (n * 27) (whC wi R))[j]? := Array.getElem?_toList
    rw [ex, tab_get _ hj]
  have hnews : ∀ W, Below w.heap.size w W → ∀ j u, (tab (n * 27) (whC wi R)).toList[j]? = some u → W.cell? ((⟨b, o, none⟩ : Addr).add j) = some u := fun W hb j u hu => by
    have hj : j < n * 27 := by have := (List.getElem?_eq_some_iff.1 hu).1; rwa [hlen] at this
    rw [hget j hj] at hu
    have h1 := hc (j / 27) (by omega) (j % 27) (whC wi R j) (by
      have ex : (whl (wi (j / 27)) (R (j / 27))).toList[j % 27]? = (whl (wi (j / 27)) (R (j / 27)))[j % 27]? := Array.getElem?_toList
      rw [ex, whC_whl _ _ _ _ (Nat.mod_lt _ (by decide)), show j / 27 * 27 + j % 27 = j by omega])
    rw [show o + j / 27 * 27 + j % 27 = o + j by omega] at h1
    rw [add_none, ← hu]
    exact (hb.cell (p := ⟨b, o + j, none⟩) (cell_block h1)).trans h1
  have HNW := (show Hid _ from hnews)
  have HON := (show Hid _ from whC_one (wi := wi) hR)
  have HGT := (show Hid _ from hget)
  have how : (w.alloc (.cells #[] 62)).ownsRow w.heap.size 62 27 (.slice (some ⟨w.heap.size, 0, none⟩) 0 0) 0 [] := ⟨by simp, .inr ⟨w.heap.size, 0, #[], rfl, Nat.le_refl _, RowAt.new w 62 #[], Nat.le_refl _, by decide, by simp, by simp⟩⟩
  have hb1 := (Below.refl w.heap.size w).alloc (Nat.le_refl _) (.cells #[] 62)
  have heq : ∀ W, (binOp .eql 22 (.slice (some ⟨b, o, none⟩) n cap) (.slice none 0 0)).run Try.prog W = .ok (.bool false) W := fun _ => rfl
  generalize (tab (n * 27) (whC wi R)).toList = L at *
  clear hc hnews hget hR
  go_enter Try.func94, Try.ntmps94
  go_wp2_with (first | (at_builtin; refine wpList_append_own _ rfl _ _ 22 rfl w.heap.size 62 i0 (.agg (whl (fun _ => 0) (.slice none 0 0))) 27 232 Try.underlying22 hi0 hz0 hz1 hz2 (whl_size _ _) (by decide) _ _ _ rfl how ⟨b, o, none⟩ n cap L rfl hlen (HNW.out _ hb1) HON.out (by unfold maxLen; omega) (by omega) (by simp) ?_; intro v' w1 hown' hgrow hnil))
  go_ret
  rw [Nat.zero_add, List.nil_append] at hown'
  have hbw := hb1.grown hgrow (by simp) (fun p hp => (World.ownsRow.lt how p hp).1)
  rcases hown'.2 with ⟨rfl, _⟩ | ⟨g, cp, cur, rfl, hbg, hg, hnc, hcm, hcs, htake⟩
  · exact absurd (hnil.1 rfl).1 (by intro e; cases e)
  · refine ⟨g, cp, cur, rfl, hg, fun i hi => ?_, hbg, hbw⟩
    have h1 := HGT.out i hi
    rw [← htake, List.getElem?_take_of_lt hi] at h1
    rw [← Array.getElem?_toList]
    exact h1
end Go.Proofs.Ythfjkhmedpilnaa
