/-
  Contracts of slices.Clone and of Open (chapter 16).
-/
import Derived.Test.YtlfghnngbljlhaaOfS
namespace Go.Proofs.Ytlfghnngbljlhaa
open Go.RowKit PK Pd

/-- What the call owns is numbers. -/
theorem own_nums {w : World} {B n : Nat} {T : TypeId} {v : Value} {f : Nat → Int} (h : w.ownsRow B T 1 v n (ints n f).toList) : NumsAt w v n f := by
  have hx := h
  rcases h.2 with ⟨rfl, h0⟩ | ⟨g, cap, cur, rfl, hbg, hg, hnc, hcm, hcs, htake⟩
  · exact ⟨none, 0, by rw [h0], by rw [h0]; decide, fun c hc => by omega⟩
  · refine ⟨some ⟨g, 0, none⟩, cap, rfl, by omega, fun c hc => ⟨g, 0, rfl, ?_⟩⟩
    have h1 : (ints n f).toList[c]? = some (.int .i64 (f c)) := by
      have ex : (ints n f).toList[c]? = (ints n f)[c]? := Array.getElem?_toList
      rw [ex, ints_get f hc]
    have := World.ownsRow.cells (g := g) hx rfl c _ h1
    have e : ((⟨g, 0, none⟩ : Addr).add c) = ⟨g, 0 + c, none⟩ := by unfold Addr.add; by_cases e0 : c = 0 <;> simp [e0]
    rw [e] at this
    exact this
theorem f_own_full {w : World} {g B n : Nat} {T : TypeId} {c : Array Value} (h : RowAt w g T c) (hB : B ≤ g) (hn : c.size = n) (hm : n ≤ maxLen) : w.ownsRow B T 1 (.slice (some ⟨g, 0, none⟩) n n) n c.toList :=
  ⟨by simp [hn], .inr ⟨g, n, c, rfl, hB, h, Nat.le_refl _, hm, by simp [hn], by rw [Nat.mul_one, ← hn, ← Array.length_toList, List.take_length]⟩⟩
theorem add_none (b o j : Nat) : ((⟨b, o, none⟩ : Addr).add j) = ⟨b, o + j, none⟩ := by unfold Addr.add; by_cases e0 : j = 0 <;> simp [e0]
theorem nums_list {w : World} {ad : Addr} {n cap : Nat} {f : Nat → Int} (hc : NumsAt w (.slice (some ad) n cap) n f) : ∀ W, Below w.heap.size w W → ∀ j u, (ints n f).toList[j]? = some u → W.cell? (ad.add j) = some u := fun W hb j u hu => by
  obtain ⟨a', c', e', _, hc⟩ := hc
  cases e'
  have ex : (ints n f).toList[j]? = (ints n f)[j]? := Array.getElem?_toList
  rw [ex] at hu
  have hj : j < n := by have := (Array.getElem?_eq_some_iff.1 hu).1; rwa [ints_size] at this
  rw [ints_get f hj] at hu
  obtain ⟨b, o, e, hcell⟩ := hc j hj
  cases e
  rw [add_none, ← hu]
  exact (hb.cell (p := ⟨b, o + j, none⟩) (cell_block hcell)).trans hcell
theorem ints_ones (n : Nat) (f : Nat → Int) : ∀ u ∈ (ints n f).toList, u.oneCell' = true := fun u hu => by
  have := ints_one n f
  rw [Array.all_eq_true_iff_forall_mem] at this
  exact this u (by simpa using hu)
theorem nums_none {w : World} {n cap : Nat} {f : Nat → Int} (hc : NumsAt w (.slice none n cap) n f) : n = 0 := by
  obtain ⟨a', c', e', _, hc⟩ := hc
  cases e'
  rcases Nat.eq_zero_or_pos n with h | h
  · exact h
  · obtain ⟨b, o, e, _⟩ := hc 0 h
    cases e
/-- It lies in a block that is there. -/
def Old (w : World) (v : Value) : Prop := ∀ b, v.ownBlock = some b → b < w.heap.size
set_option maxRecDepth 100000 in
set_option maxHeartbeats 2000000 in
theorem oclone_any (v : Value) (n : Nat) (f : Nat → Int) (hn : n * 8 ≤ 140737488355328) (w : World) (hv : NumsAt w v n f) : Calls Try.prog 21 #[v] w fun e w' => ∃ v', e = .returned v' ∧ NumsAt w' v' n f ∧ New w v' ∧ (∃ a c, v' = .slice a n c ∧ n ≤ c) ∧ Old w' v' ∧ Below w.heap.size w w' := by
  obtain ⟨i0, hi0, hz0, hz1, hz2⟩ := x_info_parts g_info_int
  obtain ⟨a, cap, rfl, hmx⟩ := hv.len
  unfold maxLen at hmx
  cases a with
  | none =>
    obtain rfl := nums_none hv
    clear hv
    have heq : ∀ W, (binOp .eql 22 (.slice none 0 cap) (.slice none 0 0)).run Try.prog W = .ok (.bool true) W := fun _ => rfl
    go_enter Try.func21, Try.ntmps21
    go_wp2
    go_ret
    exact ⟨_, rfl, nums_nil _ _, New.nil _, ⟨none, 0, rfl, Nat.le_refl _⟩, fun b e => (by cases e), Below.refl _ _⟩
  | some ad =>
    have HNW := (show Hid (∀ W, Below w.heap.size w W → ∀ j u, (ints n f).toList[j]? = some u → W.cell? (ad.add j) = some u) from nums_list hv)
    have HON := (show Hid (∀ u ∈ (ints n f).toList, u.oneCell' = true) from ints_ones n f)
    have how : (w.alloc (.cells #[] 3)).ownsRow w.heap.size 3 1 (.slice (some ⟨w.heap.size, 0, none⟩) 0 0) 0 [] := f_own_full (RowAt.new w 3 #[]) (Nat.le_refl _) rfl (by decide)
    have hb1 := (Below.refl w.heap.size w).alloc (Nat.le_refl _) (.cells #[] 3)
    have heq : ∀ W, (binOp .eql 22 (.slice (some ad) n cap) (.slice none 0 0)).run Try.prog W = .ok (.bool false) W := fun _ => rfl
    clear hv
    go_enter Try.func21, Try.ntmps21
    go_wp2_with (first | (at_builtin; refine wpList_append_own _ rfl _ _ 22 rfl w.heap.size 3 i0 (.int .i64 0) 1 8 Try.underlying22 hi0 hz0 hz1 hz2 rfl (by decide) _ _ _ rfl how ad n cap (ints n f).toList rfl (by rw [Array.length_toList, ints_size, Nat.mul_one]) (HNW.out _ hb1) HON.out (by unfold maxLen; omega) (by omega) (by simp) ?_; intro v' w1 hown' hgrow _))
    go_ret
    rw [Nat.zero_add, List.nil_append] at hown'
    refine ⟨v', rfl, own_nums hown', fun b e => (World.ownsRow.lt hown' b e).1, ?_, fun b e => (World.ownsRow.lt hown' b e).2, hb1.grown hgrow (by simp) (fun p hp => (World.ownsRow.lt how p hp).1)⟩
    rcases hown'.2 with ⟨rfl, e2⟩ | ⟨g, c, _, e2, hbg, _, hnc, _⟩
    · exact ⟨none, 0, by rw [e2], by omega⟩
    · exact ⟨_, c, e2, hnc⟩
/-- What Open comes to. -/
def OpenP (w w' : World) (q g : Nat) (n : Int) (P : Nat) (p : Nat → Int) (D : Nat) (d : Nat → Int) (lf : Int) (e : Ending) : Prop :=
  ((Oc.opE n P p D = 0 ∧ ∃ o vs, e = .returned (.tuple #[.pointer (some ⟨o, 0, none⟩), .int .i64 0]) ∧ OfAt w' q g o n vs P p D d lf false ∧ w.heap.size ≤ o ∧ New w vs ∧ Old w' vs) ∨ (Oc.opE n P p D ≠ 0 ∧ e = .returned (.tuple #[.pointer none, .int .i64 (Oc.opE n P p D)]))) ∧ Below w.heap.size w w'
set_option maxRecDepth 100000 in
set_option maxHeartbeats 4000000 in
theorem oopen_any {w : World} {q g D P : Nat} {d p : Nat → Int} {lf n : Int} {vp : Value} (h : DkAt w q g D d lf) (hp : NumsAt w vp P p) : Calls Try.prog 10 #[.int .i64 n, vp, .iface 42 (.pointer (some ⟨q, 0, none⟩))] w fun e w' => OpenP w w' q g n P p D d lf e := by
  have H := (show Hid _ from h)
  have HW : Hid (Calls Try.prog 20 #[.int .i64 n, .slice none 0 0, vp] w fun e w' => ∃ v, e = .returned (.tuple #[v, .int .i64 (txE n 0 P (fun _ => 0) p)]) ∧ Ans w' v (rl (txE n 0 P (fun _ => 0) p) 0) (wrF n (fun _ => 0) p) ∧ New w v ∧ Below w.heap.size w w') := pwr_new n _ vp 0 P _ _ w (nums_nil _ _) hp
  have HE : Hid (Oc.opE n P p D = if txE n 0 P (fun _ => 0) p ≠ 0 then txE n 0 P (fun _ => 0) p else if 65536 < P then 5 else if D < 2 then 4 else 0) := rfl
  have HS : Hid (∀ W, Below w.heap.size w W → Calls Try.prog 50 #[.pointer (some ⟨q, 0, none⟩)] W fun e w' => W = w' ∧ e = .returned (.int .i64 (D : Nat))) := fun W hb => dsize_any (h.below hb)
  have HC : Hid (∀ W, Below w.heap.size w W → P ≤ 65536 → Calls Try.prog 21 #[vp] W fun e w' => ∃ v', e = .returned v' ∧ NumsAt w' v' P p ∧ New W v' ∧ (∃ a c, v' = .slice a P c ∧ P ≤ c) ∧ Old w' v' ∧ Below W.heap.size W w') := fun W hb hP => oclone_any vp P p (by omega) W (hp.below hb)
  have heq : ∀ W, (binOp .eql 58 (.iface 42 (.pointer (some ⟨q, 0, none⟩))) .nilIface).run Try.prog W = .ok (.bool false) W := fun _ => rfl
  obtain ⟨a, cap, rfl, hm⟩ := hp.len
  unfold maxLen at hm
  generalize txE n 0 P (fun _ => 0) p = E at *
  clear h hp
  go_enter Try.func10, Try.ntmps10
  go_wp2_with fail
  refine HW.out.mono ?_
  rintro e W1 ⟨v, rfl, hv, _, hb1⟩
  obtain ⟨⟨av, cv, rfl, _⟩, _⟩ := hv
  clear HW
  by_cases hE : E = 0
  case neg =>
    have hE1 : (E != 0) = true := by simpa using hE
    have HB : Hid (Oc.opE n P p D = E) := by rw [Hid, HE.out, if_pos hE]
    have HZ : Hid (E ≠ 0) := hE
    clear hE HE
    go_wp2
    go_ret2
    exact ⟨.inr ⟨by rw [HB.out]; exact HZ.out, by rw [HB.out]; rfl⟩, hb1⟩
  subst hE
  have HE2 : Hid (Oc.opE n P p D = if 65536 < P then 5 else if D < 2 then 4 else 0) := HE.out
  clear HE
  by_cases hP : 65536 < P
  · have HB : Hid (Oc.opE n P p D = 5) := by rw [Hid, HE2.out, if_pos hP]
    have hP2 : (65536 : Int) < (P : Int) := by omega
    clear HE2
    go_wp2
    go_ret2
    exact ⟨.inr ⟨by rw [HB.out]; decide, by rw [HB.out]; rfl⟩, hb1⟩
  rw [if_neg hP] at HE2
  have hP2 : ¬ (65536 : Int) < (P : Int) := by omega
  go_wp2_with fail
  refine (HS.out _ hb1).mono ?_
  rintro e W2 ⟨rfl, rfl⟩
  clear HS
  by_cases hD : D < 2
  · have HB : Hid (Oc.opE n P p D = 4) := by rw [Hid, HE2.out, if_pos hD]
    have hD2 : (D : Int) < 2 := by omega
    clear HE2
    go_wp2
    go_ret2
    exact ⟨.inr ⟨by rw [HB.out]; decide, by rw [HB.out]; rfl⟩, hb1⟩
  rw [if_neg hD] at HE2
  have hD2 : ¬ (D : Int) < 2 := by omega
  go_wp2_with fail
  refine (HC.out _ hb1 (by omega)).mono ?_
  rintro e W3 ⟨v', rfl, hv, hnw, ⟨a', c', rfl, hcap⟩, hod, hb3⟩
  have hb4 := hb1.trans (hb3.mono hb1.size)
  have HV := (show Hid (NumsAt W3 (.slice a' P c') P p) from hv)
  clear HC hv
  go_wp2
  go_ret2
  refine ⟨.inl ⟨HE2.out, W3.heap.size, .slice a' P c', rfl, ?_, hb4.size, hnw.below hb1.size, fun b e => (by have := hod b e; simp; omega)⟩, hb4.alloc hb4.size _⟩
  have hd3 := H.out.below hb4
  have hl := H.out.lt
  have hl3 := hd3.lt
  have hs4 := hb4.size
  refine ⟨hd3.below ((Below.refl _ _).alloc (Nat.le_refl _) _), RowAt.new W3 _ _, HV.out.alloc _, by omega, by omega, fun h0 b hb => ?_, ⟨_, _, rfl, hcap⟩⟩
  obtain ⟨a2, c2, e2, _, h2⟩ := HV.out
  obtain ⟨b2, o2, e3, h3⟩ := h2 0 h0
  cases e2
  subst e3
  cases hb
  have h4 := cell_block h3
  have h5 := hnw b2 rfl
  have h6 := hb1.size
  simp at h4 ⊢
  omega
end Go.Proofs.Ytlfghnngbljlhaa
