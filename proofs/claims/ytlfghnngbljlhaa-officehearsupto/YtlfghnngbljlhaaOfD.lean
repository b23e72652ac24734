/-
  Contracts of the disk's methods, of used, use and Left (chapter 16).
-/
import Derived.Test.YtlfghnngbljlhaaOfK
namespace Go.Proofs.Ytlfghnngbljlhaa
open Go.RowKit PK Pd

def PutP (w w' : World) (q g D : Nat) (d : Nat → Int) (i : Nat) (v lf : Int) (e : Ending) : Prop := (lf = 0 ∧ w = w' ∧ e = .returned (.bool false)) ∨ (lf ≠ 0 ∧ e = .returned (.bool true) ∧ DkAt w' q g D (upd d i v) (Oc.low lf) ∧ Fr [q, g] w w')
def UseP (w w' : World) (q g o : Nat) (n : Int) (vs : Value) (P : Nat) (p : Nat → Int) (D : Nat) (d : Nat → Int) (i : Nat) (v lf : Int) (dd : Bool) (e : Ending) : Prop := Fr [q, g, o] w w' ∧ ((lf = 0 ∧ e = .returned (.int .i64 11) ∧ OfAt w' q g o n vs P p D d lf true) ∨ (lf ≠ 0 ∧ e = .returned (.int .i64 0) ∧ OfAt w' q g o n vs P p D (upd d i v) (Oc.low lf) dd))
set_option maxRecDepth 100000 in
set_option maxHeartbeats 1000000 in
theorem dsize_any {w : World} {q g D : Nat} {d : Nat → Int} {lf : Int} (h : DkAt w q g D d lf) : Calls Try.prog 50 #[.pointer (some ⟨q, 0, none⟩)] w fun e w' => w = w' ∧ e = .returned (.int .i64 (D : Nat)) := by
  obtain ⟨⟨cap, cur, a, b, c, m⟩, e⟩ := h
  have c0 : w.cell? ⟨q, 0, none⟩ = some (.slice (some ⟨g, 0, none⟩) D cap) := a.cell rfl
  clear a b c e
  go_enter Try.func50, Try.ntmps50
  go_wp2
  go_ret
  exact ⟨rfl, rfl⟩
set_option maxRecDepth 100000 in
set_option maxHeartbeats 1000000 in
theorem dget_any {w : World} {q g D : Nat} {d : Nat → Int} {lf : Int} (h : DkAt w q g D d lf) (i : Nat) (hi : i < D) : Calls Try.prog 48 #[.pointer (some ⟨q, 0, none⟩), .int .i64 (i : Nat)] w fun e w' => w = w' ∧ e = .returned (.int .i64 (d i)) := by
  obtain ⟨⟨cap, cur, a, b, c, m⟩, e⟩ := h
  have c0 : w.cell? ⟨q, 0, none⟩ = some (.slice (some ⟨g, 0, none⟩) D cap) := a.cell rfl
  have c1 : w.cell? ⟨g, i, none⟩ = some (.int .i64 (d i)) := by exact b.cell (c i hi)
  have h1 : ¬ ((i : Nat) : Int) < 0 := by omega
  have h2 : ((i : Nat) : Int) < (D : Int) := by omega
  have h3 : ¬ (D : Int) ≤ ((i : Nat) : Int) := by omega
  generalize d i = x at *
  unfold maxLen at m
  clear a b c e
  go_enter Try.func48, Try.ntmps48
  go_wp2
  go_ret
  exact ⟨rfl, rfl⟩
set_option maxRecDepth 100000 in
set_option maxHeartbeats 2000000 in
theorem dput_any {w : World} {q g D : Nat} {d : Nat → Int} {lf : Int} (h : DkAt w q g D d lf) (i : Nat) (hi : i < D) (v : Int) : Calls Try.prog 49 #[.pointer (some ⟨q, 0, none⟩), .int .i64 (i : Nat), .int .i64 v] w fun e w' => PutP w w' q g D d i v lf e := by
  have H := (show Hid _ from h)
  obtain ⟨⟨cap, cur, a, b, c, m⟩, e⟩ := h
  have c0 : w.cell? ⟨q, 0, none⟩ = some (.slice (some ⟨g, 0, none⟩) D cap) := a.cell rfl
  have c2 : w.cell? ⟨q, 1, none⟩ = some (.int .i64 lf) := a.cell rfl
  have f2 := a.frozen 1
  have c1 : w.cell? ⟨g, i, none⟩ = some (.int .i64 (d i)) := by exact b.cell (c i hi)
  have f1 : w.frozen? ⟨g, i, none⟩ = false := b.frozen _
  have h1 : ¬ ((i : Nat) : Int) < 0 := by omega
  have h2 : ((i : Nat) : Int) < (D : Int) := by omega
  have h3 : ¬ (D : Int) ≤ ((i : Nat) : Int) := by omega
  have HI : Hid (i < D) := hi
  unfold maxLen at m
  by_cases hl : lf = 0
  · have hl2 : (lf == 0) = true := by simp [hl]
    have HZ : Hid (lf = 0) := hl
    clear a b c e hl
    go_enter Try.func49, Try.ntmps49
    go_wp2
    go_ret
    exact .inl ⟨HZ.out, rfl, rfl⟩
  have hl2 : (lf == 0) = false := beq_false_of_ne hl
  have HL : Hid (lf ≠ 0) := hl
  by_cases hp : 0 < lf
  · have HW : Hid (Oc.low lf = wrap64 (lf - 1)) := by rw [Hid, Oc.low, if_pos hp]
    have r1 := a.set 1 (.int .i64 (wrap64 (lf - 1)))
    have c3 : (w.setCell ⟨q, 1, none⟩ (.int .i64 (wrap64 (lf - 1)))).cell? ⟨q, 0, none⟩ = some (.slice (some ⟨g, 0, none⟩) D cap) := r1.cell rfl
    have r2 := b.setOther ⟨q, 1, none⟩ (.int .i64 (wrap64 (lf - 1))) (fun x => e x.symm)
    have c4 : (w.setCell ⟨q, 1, none⟩ (.int .i64 (wrap64 (lf - 1)))).cell? ⟨g, i, none⟩ = some (.int .i64 (d i)) := by exact r2.cell (c i hi)
    have f4 : (w.setCell ⟨q, 1, none⟩ (.int .i64 (wrap64 (lf - 1)))).frozen? ⟨g, i, none⟩ = false := r2.frozen _
    clear a b c e r1 r2 hl hi
    go_enter Try.func49, Try.ntmps49
    go_wp2
    go_ret
    refine .inr ⟨HL.out, rfl, ?_, ?_⟩
    · rw [HW.out]
      exact (H.out.left _).word HI.out v
    · exact (Fr.set [q, g] w 1 _ (by simp)).trans (Fr.set [q, g] _ i _ (by simp))
  · have HW : Hid (Oc.low lf = lf) := by rw [Hid, Oc.low, if_neg hp]
    clear a b c e hl hi
    go_enter Try.func49, Try.ntmps49
    go_wp2
    go_ret
    refine .inr ⟨HL.out, rfl, ?_, ?_⟩
    · rw [HW.out]
      exact H.out.word HI.out v
    · exact Fr.set [q, g] _ i _ (by simp)
set_option maxRecDepth 100000 in
set_option maxHeartbeats 2000000 in
theorem oused_any {w : World} {q g o D P : Nat} {d p : Nat → Int} {lf n : Int} {vs : Value} {dd : Bool} (h : OfAt w q g o n vs P p D d lf dd) (i : Nat) (hi : i < D) : Calls Try.prog 22 #[.pointer (some ⟨o, 0, none⟩), .int .i64 (i : Nat)] w fun e w' => w = w' ∧ e = .returned (.int .i64 (Oc.us P (d i) : Nat)) := by
  have HG : Hid (Calls Try.prog 48 #[.pointer (some ⟨q, 0, none⟩), .int .i64 (i : Nat)] w fun e w' => w = w' ∧ e = .returned (.int .i64 (d i))) := dget_any h.dk i hi
  obtain ⟨a, cs, rfl, hm, _⟩ := h.nums
  have c1 : w.cell? ⟨o, 1, none⟩ = some (.slice a P cs) := h.row.cell rfl
  have c2 : w.cell? ⟨o, 2, none⟩ = some (.iface 42 (.pointer (some ⟨q, 0, none⟩))) := h.row.cell rfl
  unfold maxLen at hm
  have HU : Hid (Oc.us P (d i) = if d i < 0 ∨ (P : Int) < d i then P else (d i).toNat) := rfl
  generalize d i = x at *
  clear h
  go_enter Try.func22, Try.ntmps22
  go_wp2_with fail
  refine HG.out.mono ?_
  rintro e W1 ⟨rfl, rfl⟩
  clear HG
  by_cases h1 : x < 0
  · go_wp2
    go_ret
    exact ⟨rfl, by rw [HU.out, if_pos (.inl h1)]; rfl⟩
  by_cases h2 : (P : Int) < x
  · go_wp2
    go_ret
    exact ⟨rfl, by rw [HU.out, if_pos (.inr h2)]; rfl⟩
  go_wp2
  go_ret
  exact ⟨rfl, by rw [HU.out, if_neg (by omega), Int.toNat_of_nonneg (by omega)]; rfl⟩
set_option maxRecDepth 100000 in
set_option maxHeartbeats 2000000 in
theorem ouse_any {w : World} {q g o D P : Nat} {d p : Nat → Int} {lf n : Int} {vs : Value} {dd : Bool} (h : OfAt w q g o n vs P p D d lf dd) (i : Nat) (hi : i < D) (v : Int) : Calls Try.prog 23 #[.pointer (some ⟨o, 0, none⟩), .int .i64 (i : Nat), .int .i64 v] w fun e w' => UseP w w' q g o n vs P p D d i v lf dd e := by
  have HG : Hid (Calls Try.prog 49 #[.pointer (some ⟨q, 0, none⟩), .int .i64 (i : Nat), .int .i64 v] w fun e w' => PutP w w' q g D d i v lf e) := dput_any h.dk i hi v
  have H := (show Hid _ from h)
  have c2 : w.cell? ⟨o, 2, none⟩ = some (.iface 42 (.pointer (some ⟨q, 0, none⟩))) := h.row.cell rfl
  have c3 : w.cell? ⟨o, 3, none⟩ = some (.bool dd) := h.row.cell rfl
  have f3 := h.row.frozen 3
  clear h
  go_enter Try.func23, Try.ntmps23
  go_wp2_with fail
  refine HG.out.mono ?_
  rintro e W1 (⟨hl, rfl, rfl⟩ | ⟨hl, rfl, hd, hf⟩)
  · have HL : Hid (lf = 0) := hl
    clear HG hl
    go_wp2
    go_ret
    exact ⟨Fr.set _ _ 3 _ (by simp), .inl ⟨HL.out, rfl, H.out.dies⟩⟩
  · have HL : Hid (lf ≠ 0) := hl
    have HO := (show Hid (OfAt W1 q g o n vs P p D (upd d i v) (Oc.low lf) dd) from H.out.disk hd hf)
    have HF : Hid (Fr [q, g, o] w W1) := hf.mono (fun k hk => by simp at hk ⊢; omega)
    clear HG hl hd hf c2 c3 f3
    go_wp2
    go_ret
    exact ⟨HF.out, .inr ⟨HL.out, rfl, HO.out⟩⟩
end Go.Proofs.Ytlfghnngbljlhaa
