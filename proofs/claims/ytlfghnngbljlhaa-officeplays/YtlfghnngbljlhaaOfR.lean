/-
  The document's office (chapter 16): Wrong, place, begin and put.
-/
import Derived.Test.YtlfghnngbljlhaaOfQ
import Derived.Deep.QuietTactic
import Derived.BigQuiet
import Derived.BigRegion
namespace Go.Proofs.Ytlfghnngbljlhaa
open Go.RowKit PK Pd

set_option maxRecDepth 100000 in
set_option maxHeartbeats 2000000 in
theorem rwrg_any (n : Int) (vp : Value) (P : Nat) (p : Nat → Int) (D : Nat) (w : World) (hp : NumsAt w vp P p) : Calls Try.prog 14 #[.int .i64 n, vp, .int .i64 (D : Nat)] w fun e w' => w = w' ∧ e = .returned (.int .i64 (Oc.opE n P p D)) := by
  have HT : Hid (Calls Try.prog 25 #[.int .i64 n, .slice none 0 0, vp] w fun e w' => w = w' ∧ e = .returned (.int .i64 (txE n 0 P (fun _ => 0) p))) := rtwo_any n _ vp 0 P _ _ w (nums_nil _ _) hp
  have HE : Hid (Oc.opE n P p D = if txE n 0 P (fun _ => 0) p ≠ 0 then txE n 0 P (fun _ => 0) p else if 65536 < P then 5 else if D < 2 then 4 else 0) := rfl
  obtain ⟨a, c, rfl, hm⟩ := hp.len
  unfold maxLen at hm
  generalize txE n 0 P (fun _ => 0) p = E at *
  clear hp
  go_enter Try.func14, Try.ntmps14
  go_wp2_with fail
  refine HT.out.mono ?_
  rintro e W1 ⟨rfl, rfl⟩
  clear HT
  by_cases hE : E = 0
  case neg =>
    have hE1 : (E != 0) = true := by simpa using hE
    have HB : Hid (Oc.opE n P p D = E) := by rw [Hid, HE.out, if_pos hE]
    clear hE HE
    go_wp2
    go_ret
    exact ⟨rfl, by rw [HB.out]; rfl⟩
  subst hE
  have HE2 : Hid (Oc.opE n P p D = if 65536 < P then 5 else if D < 2 then 4 else 0) := HE.out
  clear HE
  by_cases hP : 65536 < P
  · have HB : Hid (Oc.opE n P p D = 5) := by rw [Hid, HE2.out, if_pos hP]
    have hP2 : (65536 : Int) < (P : Int) := by omega
    clear HE2
    go_wp2
    go_ret
    exact ⟨rfl, by rw [HB.out]; rfl⟩
  rw [if_neg hP] at HE2
  have hP2 : ¬ (65536 : Int) < (P : Int) := by omega
  by_cases hD : D < 2
  · have HB : Hid (Oc.opE n P p D = 4) := by rw [Hid, HE2.out, if_pos hD]
    have hD2 : (D : Int) < 2 := by omega
    clear HE2
    go_wp2
    go_ret
    exact ⟨rfl, by rw [HB.out]; rfl⟩
  rw [if_neg hD] at HE2
  have hD2 : ¬ (D : Int) < 2 := by omega
  go_wp2
  go_ret
  exact ⟨rfl, by rw [HE2.out]; rfl⟩
set_option maxRecDepth 100000 in
set_option maxHeartbeats 2000000 in
theorem rplace_any (a : Option Addr) (P c : Nat) (hm : P ≤ maxLen) (x : Int) (w : World) : Calls Try.prog 16 #[.slice a P c, .int .i64 x] w fun e w' => w = w' ∧ e = .returned (.int .i64 (Oc.us P x : Nat)) := by
  unfold maxLen at hm
  have HU : Hid (Oc.us P x = if x < 0 ∨ (P : Int) < x then P else x.toNat) := rfl
  go_enter Try.func16, Try.ntmps16
  go_wp2_with fail
  go_loopw [8] (fun i W => ∃ k : Nat, k ≤ P ∧ i = .int .i64 (k : Nat) ∧ (∀ j : Nat, j < k → x ≠ j) ∧ w = W) (fun i _ => ((P : Int) - intOf i).toNat)
  case atStart => exact ⟨0, by omega, rfl, fun j hj => by omega, rfl⟩
  case round =>
    obtain ⟨k, hk, rfl, hno, rfl⟩ := hrel
    have HNO := (show Hid (∀ j : Nat, j < k → x ≠ j) from hno)
    clear hno
    by_cases hlt : k < P
    · have HLT : Hid (k < P) := hlt
      have hlt2 : (k : Int) < (P : Int) := by omega
      by_cases hx : x = (k : Int)
      · have hx2 : (x == (k : Int)) = true := by simp [hx]
        have HR : Hid (Oc.us P x = k) := by rw [Hid, HU.out, if_neg (by omega)]; omega
        clear hx
        go_wp2
        go_ret
        exact ⟨rfl, by rw [HR.out]; rfl⟩
      · have hx2 : (x == (k : Int)) = false := by simpa using hx
        have HN : Hid (∀ j : Nat, j < k + 1 → x ≠ j) := fun j hj => by
          by_cases e : j = k
          · rw [e]; exact hx
          · exact HNO.out j (by omega)
        clear hx
        go_wp2
        go_roundw
        case rel => exact ⟨k + 1, HLT.out, by go_num, HN.out, trivial⟩
        case measure => have := HLT.out; simp [intOf]; omega
    · obtain rfl : k = P := by omega
      have hnn : ¬ ((k : Nat) : Int) < ((k : Nat) : Int) := by omega
      have HR : Hid (Oc.us k x = k) := by
        rw [Hid, HU.out]
        by_cases h : x < 0 ∨ (k : Int) < x
        · rw [if_pos h]
        · rw [if_neg h]
          rcases Nat.lt_or_ge x.toNat k with h2 | h2
          · exact absurd (by omega) (HNO.out x.toNat h2)
          · omega
      clear hlt hk
      go_wp2
      go_ret
      exact ⟨rfl, by rw [HR.out]; rfl⟩
/-- The blocks of the document's office. -/
structure Bk where
  g : Nat
  bp : Nat
  bd : Nat
  be : Nat
  bs : Nat
  br : Nat
  bx : Nat
  bl : Nat
def Bk.l (b : Bk) : List Nat := [b.bp, b.g, b.bd, b.be, b.bs, b.br, b.bx, b.bl]
structure RoS (W : World) (b : Bk) (vp : Value) (D : Nat) (d : Nat → Int) (E se re : Int) (dd : Bool) (lf : Int) : Prop where
  ok : b.bp < b.g ∧ b.g < b.bd ∧ b.bd < b.be ∧ b.be < b.bs ∧ b.bs < b.br ∧ b.br < b.bx ∧ b.bx < b.bl
  rp : RowAt W b.bp 22 #[vp]
  rd : ∃ cap cur, RowAt W b.bd 23 #[.slice (some ⟨b.g, 0, none⟩) D cap] ∧ RowAt W b.g 2 cur ∧ (∀ i, i < D → cur[i]? = some (.int .i64 (d i))) ∧ D ≤ maxLen
  re' : RowAt W b.be 30 #[.int .i64 E]
  rs : RowAt W b.bs 3 #[.int .i64 se]
  rr : RowAt W b.br 3 #[.int .i64 re]
  rx : RowAt W b.bx 4 #[.bool dd]
  rl' : RowAt W b.bl 3 #[.int .i64 lf]
section
variable {W W' : World} {b : Bk} {vp : Value} {D : Nat} {d : Nat → Int} {E se re lf : Int} {dd : Bool} {l : List Nat}
theorem RoS.fr (h : RoS W b vp D d E se re dd lf) (hf : Fr l W W') (hl : ∀ x, x ∈ b.l → x ∉ l) : RoS W' b vp D d E se re dd lf := by
  obtain ⟨cap, cur, h1, h2, h3, h4⟩ := h.rd
  exact ⟨h.ok, hf.row h.rp (hl _ (by simp [Bk.l])), ⟨cap, cur, hf.row h1 (hl _ (by simp [Bk.l])), hf.row h2 (hl _ (by simp [Bk.l])), h3, h4⟩, hf.row h.re' (hl _ (by simp [Bk.l])), hf.row h.rs (hl _ (by simp [Bk.l])), hf.row h.rr (hl _ (by simp [Bk.l])), hf.row h.rx (hl _ (by simp [Bk.l])), hf.row h.rl' (hl _ (by simp [Bk.l]))⟩
theorem RoS.below (h : RoS W b vp D d E se re dd lf) (hb : Below W.heap.size W W') : RoS W' b vp D d E se re dd lf := h.fr (Fr.of_below [] hb) (fun _ _ => by simp)
theorem RoS.setS (h : RoS W b vp D d E se re dd lf) (v : Int) : RoS (W.setCell ⟨b.bs, 0, none⟩ (.int .i64 v)) b vp D d E v re dd lf := by
  obtain ⟨cap, cur, h1, h2, h3, h4⟩ := h.rd
  have o := h.ok
  exact ⟨o, h.rp.setOther _ _ (by simp; omega), ⟨cap, cur, h1.setOther _ _ (by simp; omega), h2.setOther _ _ (by simp; omega), h3, h4⟩, h.re'.setOther _ _ (by simp; omega), h.rs.set 0 _, h.rr.setOther _ _ (by simp; omega), h.rx.setOther _ _ (by simp; omega), h.rl'.setOther _ _ (by simp; omega)⟩
theorem RoS.setR (h : RoS W b vp D d E se re dd lf) (v : Int) : RoS (W.setCell ⟨b.br, 0, none⟩ (.int .i64 v)) b vp D d E se v dd lf := by
  obtain ⟨cap, cur, h1, h2, h3, h4⟩ := h.rd
  have o := h.ok
  exact ⟨o, h.rp.setOther _ _ (by simp; omega), ⟨cap, cur, h1.setOther _ _ (by simp; omega), h2.setOther _ _ (by simp; omega), h3, h4⟩, h.re'.setOther _ _ (by simp; omega), h.rs.setOther _ _ (by simp; omega), h.rr.set 0 _, h.rx.setOther _ _ (by simp; omega), h.rl'.setOther _ _ (by simp; omega)⟩
theorem RoS.setX (h : RoS W b vp D d E se re dd lf) (v : Bool) : RoS (W.setCell ⟨b.bx, 0, none⟩ (.bool v)) b vp D d E se re v lf := by
  obtain ⟨cap, cur, h1, h2, h3, h4⟩ := h.rd
  have o := h.ok
  exact ⟨o, h.rp.setOther _ _ (by simp; omega), ⟨cap, cur, h1.setOther _ _ (by simp; omega), h2.setOther _ _ (by simp; omega), h3, h4⟩, h.re'.setOther _ _ (by simp; omega), h.rs.setOther _ _ (by simp; omega), h.rr.setOther _ _ (by simp; omega), h.rx.set 0 _, h.rl'.setOther _ _ (by simp; omega)⟩
theorem RoS.setL (h : RoS W b vp D d E se re dd lf) (v : Int) : RoS (W.setCell ⟨b.bl, 0, none⟩ (.int .i64 v)) b vp D d E se re dd v := by
  obtain ⟨cap, cur, h1, h2, h3, h4⟩ := h.rd
  have o := h.ok
  exact ⟨o, h.rp.setOther _ _ (by simp; omega), ⟨cap, cur, h1.setOther _ _ (by simp; omega), h2.setOther _ _ (by simp; omega), h3, h4⟩, h.re'.setOther _ _ (by simp; omega), h.rs.setOther _ _ (by simp; omega), h.rr.setOther _ _ (by simp; omega), h.rx.setOther _ _ (by simp; omega), h.rl'.set 0 _⟩
theorem RoS.setW (h : RoS W b vp D d E se re dd lf) {i : Nat} (hi : i < D) (v : Int) : RoS (W.setCell ⟨b.g, i, none⟩ (.int .i64 v)) b vp D (upd d i v) E se re dd lf := by
  obtain ⟨cap, cur, h1, h2, h3, h4⟩ := h.rd
  have o := h.ok
  have hs : i < cur.size := (Array.getElem?_eq_some_iff.1 (h3 i hi)).1
  refine ⟨o, h.rp.setOther _ _ (by simp; omega), ⟨cap, _, h1.setOther _ _ (by simp; omega), h2.set i _, fun k hk => ?_, h4⟩, h.re'.setOther _ _ (by simp; omega), h.rs.setOther _ _ (by simp; omega), h.rr.setOther _ _ (by simp; omega), h.rx.setOther _ _ (by simp; omega), h.rl'.setOther _ _ (by simp; omega)⟩
  by_cases e : k = i
  · subst e
    rw [upd_same, Array.getElem?_setIfInBounds_self_of_lt hs]
  · rw [upd_other _ _ e, Array.getElem?_setIfInBounds_ne (fun x => e x.symm)]
    exact h3 k hk
end
/-- The same ahead of the power's box. -/
structure Ro7 (W : World) (b : Bk) (vp : Value) (D : Nat) (d : Nat → Int) (E se re : Int) (dd : Bool) : Prop where
  ok : b.bp < b.g ∧ b.g < b.bd ∧ b.bd < b.be ∧ b.be < b.bs ∧ b.bs < b.br ∧ b.br < b.bx
  rp : RowAt W b.bp 22 #[vp]
  rd : ∃ cap cur, RowAt W b.bd 23 #[.slice (some ⟨b.g, 0, none⟩) D cap] ∧ RowAt W b.g 2 cur ∧ (∀ i, i < D → cur[i]? = some (.int .i64 (d i))) ∧ D ≤ maxLen
  re' : RowAt W b.be 30 #[.int .i64 E]
  rs : RowAt W b.bs 3 #[.int .i64 se]
  rr : RowAt W b.br 3 #[.int .i64 re]
  rx : RowAt W b.bx 4 #[.bool dd]
section
variable {W W' : World} {b : Bk} {vp : Value} {D : Nat} {d : Nat → Int} {E se re lf : Int} {dd : Bool} {l : List Nat}
theorem RoS.seven (h : RoS W b vp D d E se re dd lf) : Ro7 W b vp D d E se re dd := by
  have o := h.ok
  exact ⟨by omega, h.rp, h.rd, h.re', h.rs, h.rr, h.rx⟩
theorem Ro7.all (h : Ro7 W b vp D d E se re dd) (hb : b.bx < b.bl) (hl : RowAt W b.bl 3 #[.int .i64 lf]) : RoS W b vp D d E se re dd lf := by
  have o := h.ok
  exact ⟨by omega, h.rp, h.rd, h.re', h.rs, h.rr, h.rx, hl⟩
theorem Ro7.below (h : Ro7 W b vp D d E se re dd) (hb : Below W.heap.size W W') : Ro7 W' b vp D d E se re dd := by
  obtain ⟨cap, cur, h1, h2, h3, h4⟩ := h.rd
  exact ⟨h.ok, h.rp.below hb h.rp.lt, ⟨cap, cur, h1.below hb h1.lt, h2.below hb h2.lt, h3, h4⟩, h.re'.below hb h.re'.lt, h.rs.below hb h.rs.lt, h.rr.below hb h.rr.lt, h.rx.below hb h.rx.lt⟩
theorem Ro7.setS (h : Ro7 W b vp D d E se re dd) (v : Int) : Ro7 (W.setCell ⟨b.bs, 0, none⟩ (.int .i64 v)) b vp D d E v re dd := by
  obtain ⟨cap, cur, h1, h2, h3, h4⟩ := h.rd
  have o := h.ok
  exact ⟨o, h.rp.setOther _ _ (by simp; omega), ⟨cap, cur, h1.setOther _ _ (by simp; omega), h2.setOther _ _ (by simp; omega), h3, h4⟩, h.re'.setOther _ _ (by simp; omega), h.rs.set 0 _, h.rr.setOther _ _ (by simp; omega), h.rx.setOther _ _ (by simp; omega)⟩
theorem Ro7.setR (h : Ro7 W b vp D d E se re dd) (v : Int) : Ro7 (W.setCell ⟨b.br, 0, none⟩ (.int .i64 v)) b vp D d E se v dd := by
  obtain ⟨cap, cur, h1, h2, h3, h4⟩ := h.rd
  have o := h.ok
  exact ⟨o, h.rp.setOther _ _ (by simp; omega), ⟨cap, cur, h1.setOther _ _ (by simp; omega), h2.setOther _ _ (by simp; omega), h3, h4⟩, h.re'.setOther _ _ (by simp; omega), h.rs.setOther _ _ (by simp; omega), h.rr.set 0 _, h.rx.setOther _ _ (by simp; omega)⟩
theorem Ro7.setX (h : Ro7 W b vp D d E se re dd) (v : Bool) : Ro7 (W.setCell ⟨b.bx, 0, none⟩ (.bool v)) b vp D d E se re v := by
  obtain ⟨cap, cur, h1, h2, h3, h4⟩ := h.rd
  have o := h.ok
  exact ⟨o, h.rp.setOther _ _ (by simp; omega), ⟨cap, cur, h1.setOther _ _ (by simp; omega), h2.setOther _ _ (by simp; omega), h3, h4⟩, h.re'.setOther _ _ (by simp; omega), h.rs.setOther _ _ (by simp; omega), h.rr.setOther _ _ (by simp; omega), h.rx.set 0 _⟩
end
def RPutP (w w' : World) (b : Bk) (vp : Value) (D : Nat) (d : Nat → Int) (E se re : Int) (dd : Bool) (lf : Int) (i : Nat) (v : Int) (e : Ending) : Prop :=
  Fr b.l w w' ∧ ((lf = 0 ∧ e = .returned (.bool false) ∧ RoS w' b vp D d E se re true lf) ∨ (lf ≠ 0 ∧ e = .returned (.bool true) ∧ RoS w' b vp D (upd d i v) E se re dd (Oc.low lf)))
set_option maxRecDepth 100000 in
set_option maxHeartbeats 2000000 in
theorem rput_any {w : World} {b : Bk} {vp : Value} {D : Nat} {d : Nat → Int} {E se re lf : Int} {dd : Bool} (h : RoS w b vp D d E se re dd lf) (i : Nat) (hi : i < D) (v : Int) : Calls Try.prog 17 #[.int .i64 (i : Nat), .int .i64 v, .pointer (some ⟨b.bl, 0, none⟩), .pointer (some ⟨b.bx, 0, none⟩), .pointer (some ⟨b.bd, 0, none⟩)] w fun e w' => RPutP w w' b vp D d E se re dd lf i v e := by
  have H := (show Hid (RoS w b vp D d E se re dd lf) from h)
  obtain ⟨cap, cur, h1, h2, h3, h4⟩ := h.rd
  have o := h.ok
  have c1 : w.cell? ⟨b.bl, 0, none⟩ = some (.int .i64 lf) := h.rl'.cell rfl
  have f1 := h.rl'.frozen 0
  have c2 : w.cell? ⟨b.bx, 0, none⟩ = some (.bool dd) := h.rx.cell rfl
  have f2 := h.rx.frozen 0
  have c3 : w.cell? ⟨b.bd, 0, none⟩ = some (.slice (some ⟨b.g, 0, none⟩) D cap) := h1.cell rfl
  have c4 : w.cell? ⟨b.g, i, none⟩ = some (.int .i64 (d i)) := h2.cell (h3 i hi)
  have f4 := h2.frozen i
  have hi2 : (i : Int) < (D : Int) := by omega
  have HI : Hid (i < D) := hi
  unfold maxLen at h4
  have ml : b.bl ∈ b.l := by simp [Bk.l]
  have mx : b.bx ∈ b.l := by simp [Bk.l]
  have mg : b.g ∈ b.l := by simp [Bk.l]
  have HML := (show Hid (b.bl ∈ b.l) from ml)
  have HMX := (show Hid (b.bx ∈ b.l) from mx)
  have HMG := (show Hid (b.g ∈ b.l) from mg)
  clear ml mx mg
  by_cases hl : lf = 0
  · have hl2 : (lf == 0) = true := by simp [hl]
    have HZ : Hid (lf = 0) := hl
    clear hl h h1 h2 h3 o
    go_enter Try.func17, Try.ntmps17
    go_wp2
    go_ret
    exact ⟨Fr.set _ _ 0 _ HMX.out, .inl ⟨HZ.out, rfl, H.out.setX true⟩⟩
  have hl2 : (lf == 0) = false := beq_false_of_ne hl
  have HL : Hid (lf ≠ 0) := hl
  by_cases hp : 0 < lf
  · have HW : Hid (Oc.low lf = wrap64 (lf - 1)) := by rw [Hid, Oc.low, if_pos hp]
    have hset := h.setL (wrap64 (lf - 1))
    obtain ⟨cap2, cur2, k1, k2, k3, _⟩ := hset.rd
    have c5 : (w.setCell ⟨b.bl, 0, none⟩ (.int .i64 (wrap64 (lf - 1)))).cell? ⟨b.bd, 0, none⟩ = some (.slice (some ⟨b.g, 0, none⟩) D cap2) := k1.cell rfl
    have c6 : (w.setCell ⟨b.bl, 0, none⟩ (.int .i64 (wrap64 (lf - 1)))).cell? ⟨b.g, i, none⟩ = some (.int .i64 (d i)) := k2.cell (k3 i hi)
    have f6 : (w.setCell ⟨b.bl, 0, none⟩ (.int .i64 (wrap64 (lf - 1)))).frozen? ⟨b.g, i, none⟩ = false := k2.frozen i
    clear h h1 h2 h3 o hl hset k1 k2 k3 hi
    go_enter Try.func17, Try.ntmps17
    go_wp2
    go_ret
    refine ⟨(Fr.set _ _ 0 _ HML.out).trans (Fr.set _ _ i _ HMG.out), .inr ⟨HL.out, rfl, ?_⟩⟩
    rw [HW.out]
    exact (H.out.setL _).setW HI.out v
  · have HW : Hid (Oc.low lf = lf) := by rw [Hid, Oc.low, if_neg hp]
    clear h h1 h2 h3 o hl hi
    go_enter Try.func17, Try.ntmps17
    go_wp2
    go_ret
    refine ⟨Fr.set _ _ i _ HMG.out, .inr ⟨HL.out, rfl, ?_⟩⟩
    rw [HW.out]
    exact H.out.setW HI.out v
end Go.Proofs.Ytlfghnngbljlhaa
