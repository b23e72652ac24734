/-
  Several texts, joined: Fd4, Fd5, Fd6, Fd7, ChRAt, ChRCh, KRTy, ChRTy, Fd8, Fd9, FdA, ChSa, FdB, FdC, FdD.
-/
import Derived.Test.YtbbpbcmpemmgjaaFd3
import Derived.Test.YtbbpbcmpemmgjaaJn21
import Derived.Test.YtbbpbcmpemmgjaaJn23
import Derived.Test.YtbbpbcmpemmgjaaJn20
import Derived.Test.YtbbpbcmpemmgjaaORWr
import Derived.Test.YtbbpbcmpemmgjaaJn14
import Derived.Deep.QuietTactic
import Derived.BigQuiet
/-
  Contracts of slices.Equal, of chart's alike, and of the look of chart's Find (chapter 9).
-/
namespace Go.Proofs.Ytbbpbcmpemmgjaa
open Go.RowKit PK Vg

/-- Two rows of numbers are the same. -/
def smB (n m : Nat) (f g : Nat → Int) : Bool := decide (n = m) && (List.range n).all fun i => decide (f i = g i)
theorem smB_iff {n m : Nat} {f g : Nat → Int} : smB n m f g = true ↔ n = m ∧ ∀ i, i < n → f i = g i := by
  unfold smB
  simp [List.all_eq_true]
end Go.Proofs.Ytbbpbcmpemmgjaa

/-
  Contract of chart's behind, with the look of Find (chapter 9).
-/
namespace Go.Proofs.Ytbbpbcmpemmgjaa
open Go.RowKit PK Vg

/-- The machine with the letters that come N-th in its windows. -/
def gmN (g : Gm) (N : Nat) : Gm := { g with sl := g.n, st := fun i => ((dig g.n N i : Nat) : Int) }
theorem gmN_ok {g : Gm} (h : gE g = 0) (N : Nat) : gE (gmN g N) = 0 := by
  have hins : ins g.n (fun i => ((dig g.n N i : Nat) : Int)) = true := (ins_iff _ _).2 fun i _ => by have := dig_lt g.n N i; omega
  unfold gE at h ⊢
  show (if g.n < 1 ∨ 4 < g.n then 5 else if whE (gmN g N) g.n ≠ 0 then whE (gmN g N) g.n else if g.rl ≠ g.n then 8 else if ins g.rl g.ri = false then 3 else if g.n ≠ g.n then 8 else if ins g.n (fun i => ((dig g.n N i : Nat) : Int)) = false then 3 else if Pm.wrong g.rf ≠ 0 then Pm.wrong g.rf else if undo true g.rf = false then 1 else if Pm.wrong g.pl ≠ 0 then Pm.wrong g.pl else if undo false g.pl = false then 1 else 0) = (0 : Int)
  have hw : ∀ k, whE (gmN g N) k = whE g k := fun k => by
    induction k with
    | zero => rfl
    | succ k ih =>
      show (if whE (gmN g N) k ≠ 0 then whE (gmN g N) k else if Pm.wrong (g.wi k) ≠ 0 then Pm.wrong (g.wi k) else if ins (g.nl k) (g.no k) = true then 0 else 3) = _
      rw [ih]
      rfl
  rw [hw, hins, if_neg (c := g.n ≠ g.n) (fun e => e rfl), if_neg (c := true = false) (by decide)]
  by_cases h1 : g.n < 1 ∨ 4 < g.n
  · rw [if_pos h1] at h; cases h
  rw [if_neg h1] at h ⊢
  by_cases h2 : whE g g.n ≠ 0
  · rw [if_pos h2] at h; exact absurd h h2
  rw [if_neg h2] at h ⊢
  by_cases h3 : g.rl ≠ g.n
  · rw [if_pos h3] at h; cases h
  rw [if_neg h3] at h ⊢
  by_cases h4 : ins g.rl g.ri = false
  · rw [if_pos h4] at h; cases h
  rw [if_neg h4] at h ⊢
  by_cases h5 : g.sl ≠ g.n
  · rw [if_pos h5] at h; cases h
  rw [if_neg h5] at h
  by_cases h6 : ins g.sl g.st = false
  · rw [if_pos h6] at h; cases h
  rw [if_neg h6] at h
  exact h
theorem f_own_step {w w' : World} {B : Nat} {T : TypeId} {s n : Nat} {v : Value} {l : List Value} (h : w.ownsRow B T s v n l) (hb : Below w.heap.size w w') : w'.ownsRow B T s v n l := by
  obtain ⟨h1, h2⟩ := h
  refine ⟨h1, ?_⟩
  rcases h2 with h2 | ⟨g, cap, cur, e, hB, hg, h3⟩
  · exact .inl h2
  · exact .inr ⟨g, cap, cur, e, hB, (hb.block g (Array.getElem?_eq_some_iff.1 hg).1).trans hg, h3⟩
end Go.Proofs.Ytbbpbcmpemmgjaa

/-
  Contracts of chart's searchWrong, and of the document's Wrong (chapter 9).
-/
namespace Go.Proofs.Ytbbpbcmpemmgjaa
open Go.RowKit PK Vg

/-- What is wrong with a search. -/
def swE (g : Gm) (h : Int) : Int := if gE g ≠ 0 then gE g else if 3 < g.n then 4 else if h < 1 ∨ 16 < h then 3 else 0
theorem swE_zero {g : Gm} {h : Int} (e : swE g h = 0) : gE g = 0 ∧ g.n ≤ 3 ∧ 1 ≤ h ∧ h ≤ 16 := by
  unfold swE at e
  by_cases h1 : gE g = 0
  · rw [if_neg (fun e => e h1)] at e
    by_cases h2 : 3 < g.n
    · rw [if_pos h2] at e; cases e
    · rw [if_neg h2] at e
      by_cases h3 : h < 1 ∨ 16 < h
      · rw [if_pos h3] at e; cases e
      · omega
  · rw [if_pos h1] at e; exact absurd e h1
set_option maxRecDepth 100000 in
set_option maxHeartbeats 2000000 in
theorem psw_any (vm : Value) (g : Gm) (h : Int) (w : World) (hm : MacAt w vm g) : Calls Try.prog 48 #[vm, .int .i64 h] w fun e w' => e = .returned (.int .i64 (swE g h)) ∧ Below w.heap.size w w' := by
  have HC := (show Hid (∀ W, Below w.heap.size w W → Calls Try.prog 62 #[vm] W fun e w' => e = .returned (.int .i64 (gE g)) ∧ Below W.heap.size W w') from fun W hb => gw_any vm g W (hm.below hb))
  obtain ⟨a, b, c, rfl, hwh, _, _⟩ := hm
  obtain ⟨aw, cw, R, rfl, hmx, _, _⟩ := hwh
  unfold maxLen at hmx
  have hld := RowAt.new w 27 (mac (.slice aw g.n cw) b c g.rf g.pl)
  have hbe := (Below.refl w.heap.size w).alloc (Nat.le_refl _) (.cells (mac (.slice aw g.n cw) b c g.rf g.pl) 27)
  have HA0 := (show Hid ((mac (.slice aw g.n cw) b c g.rf g.pl)[0]? = some (.slice aw g.n cw)) from mac_0 _ _ _ _ _)
  have hA0s : (mac (.slice aw g.n cw) b c g.rf g.pl).size = 55 := mac_size _ _ _ _ _
  generalize mac (.slice aw g.n cw) b c g.rf g.pl = A0 at *
  go_enter Try.func48, Try.ntmps48
  go_upto_region 1 with fail
  generalize w.alloc (.cells A0 27) = W0 at *
  go_wp2_with (first | refine wpList_load_row rfl 27 _ rfl w.heap.size rfl 27 A0 (0, 0) _ hld Try.underlying27 rfl (by rw [hA0s]; exact v_info_mac) ?_)
  refine (HC.out _ hbe).mono ?_
  rintro e W1 ⟨rfl, hb⟩
  have hld1 := hld.below hb hld.lt
  have HB := (show Hid (Below w.heap.size w W1) from hbe.trans (hb.mono hbe.size))
  have c0 := hld1.cell HA0.out
  clear hb hld hbe HC hld1
  by_cases hz : gE g = 0
  case neg =>
    have hz2 : (gE g != 0) = true := by simpa using hz
    have HE : Hid (swE g h = gE g) := by unfold swE; rw [Hid, if_pos hz]
    generalize gE g = E at *
    clear hz c0
    go_wp2
    go_ret
    exact ⟨by rw [HE.out]; rfl, HB.out⟩
  rw [hz]
  by_cases h3 : 3 < g.n
  · have HE : Hid (swE g h = 4) := by unfold swE; rw [Hid, if_neg (fun e => e hz), if_pos h3]
    have h3i : (3 : Int) < (g.n : Int) := by omega
    clear hz
    generalize g.n = n at *
    clear h3
    go_wp2
    go_ret
    exact ⟨by rw [HE.out]; rfl, HB.out⟩
  have h3i : ¬ (3 : Int) < (g.n : Int) := by omega
  by_cases h4 : h < 1
  · have HE : Hid (swE g h = 3) := by unfold swE; rw [Hid, if_neg (fun e => e hz), if_neg h3, if_pos (.inl h4)]
    clear hz
    generalize g.n = n at *
    clear h3
    go_wp2
    go_ret
    exact ⟨by rw [HE.out]; rfl, HB.out⟩
  by_cases h5 : 16 < h
  · have HE : Hid (swE g h = 3) := by unfold swE; rw [Hid, if_neg (fun e => e hz), if_neg h3, if_pos (.inr h5)]
    clear hz
    generalize g.n = n at *
    clear h3
    go_wp2
    go_ret
    exact ⟨by rw [HE.out]; rfl, HB.out⟩
  have HE : Hid (swE g h = 0) := by unfold swE; rw [Hid, if_neg (fun e => e hz), if_neg h3, if_neg (by omega)]
  clear hz
  generalize g.n = n at *
  clear h3
  go_wp2
  go_ret
  exact ⟨by rw [HE.out]; rfl, HB.out⟩
end Go.Proofs.Ytbbpbcmpemmgjaa

/-
  Contract of the document's Windows (chapter 9).
-/
namespace Go.Proofs.Ytbbpbcmpemmgjaa
open Go.RowKit PK Vg

/-- Numbers that somebody owns. -/
def OwI (W : World) (u : Value) (m : Nat) (f : Nat → Int) : Prop := ∃ B, W.ownsRow B 3 1 u m (ints m f).toList
theorem OwI.below {W W' : World} {u : Value} {m : Nat} {f : Nat → Int} (h : OwI W u m f) (hb : Below W.heap.size W W') : OwI W' u m f := by
  obtain ⟨B, h⟩ := h
  exact ⟨B, f_own_step h hb⟩
theorem OwI.form {W : World} {u : Value} {m : Nat} {f : Nat → Int} (h : OwI W u m f) : (u = .slice none 0 0 ∧ m = 0) ∨ ∃ g c, u = .slice (some ⟨g, 0, none⟩) m c := by
  obtain ⟨B, h⟩ := h
  rcases h.2 with ⟨rfl, h0⟩ | ⟨g, cap, cur, rfl, _⟩
  · exact .inl ⟨rfl, h0⟩
  · exact .inr ⟨g, cap, rfl⟩
end Go.Proofs.Ytbbpbcmpemmgjaa

/-
  Contract of the document's At (chapter 9).
-/
namespace Go.Proofs.Ytbbpbcmpemmgjaa
open Go.RowKit PK Vg

end Go.Proofs.Ytbbpbcmpemmgjaa

/-
  Contract of the document's Chart (chapter 9).
-/
namespace Go.Proofs.Ytbbpbcmpemmgjaa
open Go.RowKit PK Vg

/-- One behind the other. -/
def two (f g : Nat → Nat) : Nat → Nat → Nat := fun r => if r = 0 then f else g
section
variable {w W W' : World} {a b c : Value} {rf pl : Nat → Int} {C : Nat → Nat → Nat} {k : Nat}
end
end Go.Proofs.Ytbbpbcmpemmgjaa

/-
  Contract of the document's Type (chapter 2).
-/
namespace Go.Proofs.Ytbbpbcmpemmgjaa
open Go.RowKit PK

end Go.Proofs.Ytbbpbcmpemmgjaa

/-
  Contract of the document's Types (chapter 9).
-/
namespace Go.Proofs.Ytbbpbcmpemmgjaa
open Go.RowKit PK Vg

section
variable {w W W' : World} {a b c : Value} {rf pl : Nat → Int} {P : Nat → Nat → Nat} {q k : Nat} {V : Nat → Value}
end
end Go.Proofs.Ytbbpbcmpemmgjaa

/-
  Contract of the document's Find (chapter 9).
-/
namespace Go.Proofs.Ytbbpbcmpemmgjaa
open Go.RowKit PK Vg

set_option maxRecDepth 100000 in
set_option maxHeartbeats 2000000 in
theorem rs9_any (u v : Value) (n k : Nat) (f g : Nat → Int) (w : World) (hu : NumsAt w u n f) (hv : NumsAt w v k g) :
    Calls Try.prog 12 #[u, v] w fun e w' => e = .returned (.bool (smB n k f g)) ∧ Below w.heap.size w w' := by
  obtain ⟨a, ca, rfl, hmx, hca⟩ := hu
  obtain ⟨b, cb, rfl, _, hcb⟩ := hv
  have HA := (show Hid (∀ c, c < n → ∃ b o, a = some ⟨b, o, none⟩ ∧ w.cell? ⟨b, o + c, none⟩ = some (.int .i64 (f c))) from hca)
  have HB := (show Hid (∀ c, c < k → ∃ b' o, b = some ⟨b', o, none⟩ ∧ w.cell? ⟨b', o + c, none⟩ = some (.int .i64 (g c))) from hcb)
  unfold maxLen at hmx
  clear hca hcb
  by_cases hnk : n = k
  case neg =>
    have h1 : (((n : Nat) : Int) != ((k : Nat) : Int)) = true := by simp; omega
    have HF : Hid (smB n k f g = false) := by
      cases hq : smB n k f g
      · rfl
      · exact absurd (smB_iff.1 hq).1 hnk
    clear hnk HA HB
    go_enter Try.func12, Try.ntmps12
    go_wp2
    go_ret
    exact ⟨by rw [HF.out]; rfl, Below.refl _ _⟩
  subst hnk
  have h1 : (((n : Nat) : Int) != ((n : Nat) : Int)) = false := by simp
  go_enter Try.func12, Try.ntmps12
  go_wp2_with fail
  go_loopw [13] (fun i W => ∃ m : Nat, m ≤ n ∧ i = .int .i64 m ∧ Below w.heap.size w W ∧ ∀ j, j < m → f j = g j) (fun i _ => ((n : Int) - intOf i).toNat)
  case atStart => exact ⟨0, by omega, rfl, Below.refl _ _, fun j hj => by omega⟩
  case round =>
    obtain ⟨m, hm, rfl, hb, hj⟩ := hrel
    by_cases hlt : m < n
    · obtain ⟨b1, o1, e1, h1'⟩ := HA.out m hlt
      obtain ⟨b2, o2, e2, h2'⟩ := HB.out m hlt
      subst e1 e2
      have c1 := (hb.cell (p := ⟨b1, o1 + m, none⟩) (cell_block h1')).trans h1'
      have c2 := (hb.cell (p := ⟨b2, o2 + m, none⟩) (cell_block h2')).trans h2'
      have HJ := (show Hid _ from hj)
      have HLT : Hid (m < n) := hlt
      have hlt2 : (m : Int) < (n : Int) := by omega
      have HX : Hid (∀ x y, x = f m → y = g m → (x = y ↔ f m = g m)) := fun x y h1 h2 => by rw [h1, h2]
      obtain ⟨x, hx⟩ : ∃ x, x = f m := ⟨_, rfl⟩
      obtain ⟨y, hy⟩ : ∃ y, y = g m := ⟨_, rfl⟩
      have HXY := (show Hid (x = y ↔ f m = g m) from HX.out x y hx hy)
      rw [← hx] at c1
      rw [← hy] at c2
      clear h1' h2' hj hx hy HX hlt
      by_cases hxy : x = y
      · have hxb : (x != y) = false := by simp [hxy]
        have HJ2 : Hid (∀ j, j < m + 1 → f j = g j) := fun j hj => by
          by_cases e : j = m
          · rw [e]; exact HXY.out.1 hxy
          · exact HJ.out j (by omega)
        clear hxy
        go_wp2_with fail
        go_quiet (fail)
        go_wp2
        go_roundw
        case rel => exact ⟨m + 1, HLT.out, by go_num, ⟨hb.os, hb.tape, hb.output, hb.size, hb.block⟩, HJ2.out⟩
        case measure => have := HLT.out; simp [intOf]; omega
      · have hxb : (x != y) = true := by simp [hxy]
        have HF : Hid (smB n n f g = false) := by
          cases hq : smB n n f g
          · rfl
          · exact absurd (HXY.out.2 ((smB_iff.1 hq).2 m HLT.out)) hxy
        clear hxy
        go_wp2_with fail
        go_quiet (fail)
        go_wp2
        go_ret
        exact ⟨by rw [HF.out]; rfl, ⟨hb.os, hb.tape, hb.output, hb.size, hb.block⟩⟩
    · have hnn : ¬ (m : Int) < (n : Int) := by omega
      have HT : Hid (smB n n f g = true) := smB_iff.2 ⟨rfl, fun i hi => hj i (by omega)⟩
      have HB' := (show Hid _ from hb)
      clear hj hb hlt
      go_wp2
      go_ret
      exact ⟨by rw [HT.out]; rfl, HB'.out⟩
end Go.Proofs.Ytbbpbcmpemmgjaa

/-
  What is found letter by letter, one behind the other, is what is found at all; lists as they lie.
-/
namespace Go.Proofs.Ytbbpbcmpemmgjaa
open Go.RowKit PK Vg
/-- The lists of the first k letters, one behind the other. -/
def cats (L : Nat → List Nat) : Nat → List Nat
  | 0 => []
  | k + 1 => cats L k ++ L k
end Go.Proofs.Ytbbpbcmpemmgjaa

/-
  What chart.Every does behind the last receive: the lists of the letters, one behind the other.
-/
namespace Go.Proofs.Ytbbpbcmpemmgjaa
open Go.RowKit PK Vg
end Go.Proofs.Ytbbpbcmpemmgjaa

/-
  Contracts of the document's Same and SameLists (chapter 9), of lists that are the same.
-/
namespace Go.Proofs.Ytbbpbcmpemmgjaa
open Go.RowKit PK Vg

set_option maxRecDepth 100000 in
set_option maxHeartbeats 2000000 in
theorem same9_ok (u v : Value) (n : Nat) (f : Nat → Int) (w : World) (hu : NumsAt w u n f) (hv : NumsAt w v n f) : Calls Try.prog 12 #[u, v] w fun e w' => e = .returned (.bool true) ∧ Below w.heap.size w w' := by
  obtain ⟨a, ca, rfl, hm, hca⟩ := hu
  obtain ⟨b, cb, rfl, _, hcb⟩ := hv
  unfold maxLen at hm
  have HA := (show Hid (∀ c, c < n → ∃ b o, a = some ⟨b, o, none⟩ ∧ w.cell? ⟨b, o + c, none⟩ = some (.int .i64 (f c))) from hca)
  have HB := (show Hid (∀ c, c < n → ∃ b' o, b = some ⟨b', o, none⟩ ∧ w.cell? ⟨b', o + c, none⟩ = some (.int .i64 (f c))) from hcb)
  have hne : ((n : Int) != (n : Int)) = false := by simp
  clear hca hcb
  go_enter Try.func12, Try.ntmps12
  go_wp2_with fail
  clear hne
  go_loopw [13] (fun i W => ∃ k : Nat, k ≤ n ∧ i = .int .i64 (k : Nat) ∧ Below w.heap.size w W) (fun i _ => ((n : Int) - intOf i).toNat)
  case atStart => exact ⟨0, by omega, rfl, Below.refl _ _⟩
  case round =>
    obtain ⟨k, hk, rfl, hbe⟩ := hrel
    by_cases hlt : k < n
    · have HLT : Hid (k < n) := hlt
      have hlt2 : (k : Int) < (n : Int) := by omega
      obtain ⟨b1, o1, rfl, h1⟩ := HA.out k hlt
      obtain ⟨b2, o2, rfl, h2⟩ := HB.out k hlt
      have c1 := (hbe.cell (p := ⟨b1, o1 + k, none⟩) (cell_block h1)).trans h1
      have c2 := (hbe.cell (p := ⟨b2, o2 + k, none⟩) (cell_block h2)).trans h2
      have HBE := (show Hid _ from hbe)
      generalize f k = x at *
      have hxx : (x != x) = false := by simp
      clear hbe h1 h2 hlt HA HB
      go_upto_region 6 with fail
      go_quiet (fail)
      go_wp2
      go_roundw
      case rel => exact ⟨k + 1, HLT.out, by go_num, HBE.out.trans ⟨rfl, rfl, rfl, Nat.le_refl _, fun _ _ => rfl⟩⟩
      case measure => have := HLT.out; simp [intOf]; omega
    · obtain rfl : k = n := by omega
      have hnn : ¬ ((k : Nat) : Int) < ((k : Nat) : Int) := by omega
      go_wp2
      go_ret
      exact ⟨rfl, hbe⟩
end Go.Proofs.Ytbbpbcmpemmgjaa

/-
  SameLists of what the program found and of what the document finds.
-/
namespace Go.Proofs.Ytbbpbcmpemmgjaa
open Go.RowKit PK Vg
end Go.Proofs.Ytbbpbcmpemmgjaa

/-
  What the law ChartFinds does behind the program's Find.
-/
namespace Go.Proofs.Ytbbpbcmpemmgjaa
open Go.RowKit PK Vg
theorem ops_from {P : Program} {ops : Array Oper} {Q : Exit → Act → World → Prop} {a : Act} {w : World} (k n : Nat) (hn : n = ops.size - k) (h : wpList P ops Q (ops.toList.drop k) a w) : wpOps P ops Q (List.range' k n) a w := by
  have e := wpOps_eq_wpList (P := P) (ops := ops) (Q := Q) (ops.toList.drop k) k (fun j => by simp [List.getElem?_drop])
  rw [show (ops.toList.drop k).length = n by simp [hn]] at e
  rw [e]
  exact h
end Go.Proofs.Ytbbpbcmpemmgjaa

/-
  From the join on to the law's end, alone.
-/
namespace Go.Proofs.Ytbbpbcmpemmgjaa
open Go.RowKit PK Vg Go.Conc
noncomputable def fB : Code := Try.f7.body.getD .skip
end Go.Proofs.Ytbbpbcmpemmgjaa
