/-
  RotorUndone, for any Write that writes what the document's writes.
-/
import Derived.Test.YtpdjfjmfnmocmaeOMa
namespace Go.Proofs.Ytpdjfjmfnmocmae
open Go.RowKit PK Vg

theorem rwS_ok {g : Gm} {l : List UInt8} (h : rwE g l = 0) : rwS g l = Om.wr (maOf g) (maOf g).st l := by unfold rwS; rw [if_neg (fun e => e h)]
/-- The machine in its variable, and a fault behind it. -/
structure FmAt (w W : World) (a b c : Value) (rf pl : Nat → Int) (q : Nat) (x y : Value) : Prop where
  mg : MgAt w W a b c rf pl
  f : RowAt W q 25 #[x, y]
  ne : w.heap.size < q
section
variable {w W W' : World} {a b c : Value} {rf pl : Nat → Int} {q : Nat} {x y : Value}
theorem FmAt.step (h : FmAt w W a b c rf pl q x y) (hb : Below W.heap.size W W') : FmAt w W' a b c rf pl q x y := ⟨h.mg.step hb, h.f.below hb h.f.lt, h.ne⟩
theorem FmAt.alloc (h : FmAt w W a b c rf pl q x y) (o : Obj) : FmAt w (W.alloc o) a b c rf pl q x y := h.step ((Below.refl _ _).alloc (Nat.le_refl _) o)
theorem FmAt.new (h : MgAt w W a b c rf pl) (x y : Value) : FmAt w (W.alloc (.cells #[x, y] 25)) a b c rf pl W.heap.size x y := ⟨h.alloc _, RowAt.new W _ _, h.lt⟩
theorem FmAt.set (h : FmAt w W a b c rf pl q x y) (u v : Value) : FmAt w ((W.setCell ⟨q, 0, none⟩ u).setCell ⟨q, 1, none⟩ v) a b c rf pl q u v := by
  have := h.ne
  exact ⟨⟨(h.mg.row.setOther _ _ (by simp; omega)).setOther _ _ (by simp; omega), (h.mg.below.setCell (p := ⟨q, 0, none⟩) (by simp; omega) _).setCell (p := ⟨q, 1, none⟩) (by simp; omega) _⟩, (h.f.set 0 u).set 1 v, h.ne⟩
theorem FmAt.draws (h : FmAt w W a b c rf pl q x y) (n : Nat) : FmAt w (W.drewN n) a b c rf pl q x y := ⟨⟨h.mg.row, h.mg.below.trans ⟨rfl, rfl, rfl, Nat.le_refl _, fun _ _ => rfl⟩⟩, h.f, h.ne⟩
end
end Go.Proofs.Ytpdjfjmfnmocmae
