/-
  Contract of the document's Write (chapter 8).
-/
import Derived.Test.YtpdjfjmfnmocmafORNo
namespace Go.Proofs.Ytpdjfjmfnmocmaf
open Go.RowKit PK Vg

/-- The machine and the result's variable. -/
structure WtAt (w W : World) (a b c : Value) (rf pl : Nat → Int) : Prop where
  mg : MgAt w W a b c rf pl
  res : RowAt W (w.heap.size + 1) 31 #[.int .i64 0, .int .i64 0]
theorem WtAt.new (w : World) (a b c : Value) (rf pl : Nat → Int) : WtAt w ((w.alloc (.cells (mac a b c rf pl) 27)).alloc (.cells #[.int .i64 0, .int .i64 0] 31)) a b c rf pl := by
  have h := RowAt.new (w.alloc (.cells (mac a b c rf pl) 27)) 31 #[.int .i64 0, .int .i64 0]
  rw [World.size_alloc] at h
  exact ⟨(MgAt.new w a b c rf pl).alloc _, h⟩
section
variable {w W W' : World} {a b c : Value} {rf pl : Nat → Int}
theorem WtAt.step (h : WtAt w W a b c rf pl) (hb : Below W.heap.size W W') : WtAt w W' a b c rf pl := ⟨h.mg.step hb, h.res.below hb h.res.lt⟩
theorem WtAt.alloc (h : WtAt w W a b c rf pl) (o : Obj) : WtAt w (W.alloc o) a b c rf pl := h.step ((Below.refl _ _).alloc (Nat.le_refl _) o)
theorem WtAt.drew (h : WtAt w W a b c rf pl) : WtAt w W.drew a b c rf pl := ⟨h.mg.drew, h.res⟩
theorem WtAt.done (h : WtAt w W a b c rf pl) (x y : Value) : Below w.heap.size w ((W.setCell ⟨w.heap.size + 1, 0, none⟩ x).setCell ⟨w.heap.size + 1, 1, none⟩ y) := (h.mg.below.setCell (p := ⟨w.heap.size + 1, 0, none⟩) (by simp) _).setCell (p := ⟨w.heap.size + 1, 1, none⟩) (by simp) _
theorem WtAt.load (h : WtAt w W a b c rf pl) : W.heap[w.heap.size]? = some (.cells (mac a b c rf pl) 27 (0, 0)) := h.mg.row
end
theorem run_index_u8 {P : Program} (t e : TypeId) (n : Nat) (hu : P.underlying t = some (.array n e)) (he : P.underlying e = some (.int .i64)) (hs : (P.info? e).map (·.size) = some 1) (f : Nat → Int) (k : Nat) (hk : k < n) (w : World) :
    (Instr.index t (.agg (ints n f)) (.int .u8 (k : Int))).run P w = .ok (.int .i64 (f k)) w := by
  cases hq : P.info? e with
  | none => simp [hq] at hs
  | some i =>
    have h1 : i.size = 1 := by simpa [hq] using hs
    have h2 : ((k : Int) < (n : Int)) := by omega
    simp [Instr.index, asIntOf, Sem.run_bind, run_underlying hu, part, isAgg, run_underlying he, sizeOf, typeInfo, hq, h1, hk, ints_get f hk]
theorem wr_snoc (M : Om.Ma) : ∀ (l : List UInt8) (at' : Nat → Nat) (x : UInt8), Om.wr M at' (l ++ [x]) = Om.wr M at' l ++ [ltr (Om.now M (Om.steps M at' (l.length + 1)) (num x))]
  | [], _, _ => rfl
  | a :: l, at', x => by
    show ltr _ :: Om.wr M (Om.step M at') (l ++ [x]) = ltr _ :: (Om.wr M (Om.step M at') l ++ _)
    rw [wr_snoc M l (Om.step M at') x, Om.steps_step]
    rfl
theorem wr_take {M : Om.Ma} {t : List UInt8} {k : Nat} (hk : k < t.length) (at' : Nat → Nat) : Om.wr M at' (t.take (k + 1)) = Om.wr M at' (t.take k) ++ [ltr (Om.now M (Om.steps M at' (k + 1)) (num (t.getD k 0)))] := by
  rw [List.take_succ_eq_append_getElem hk, wr_snoc, List.length_take, Nat.min_eq_left (by omega), getD_some hk]
/-- A slice of numbers that another block's growing leaves alone. -/
theorem nums_grown {W W' : World} {v : Value} {n : Nat} {f : Nat → Int} {r : Option Nat} (h : NumsAt W v n f) (hg : W.grownBy W' r) (hne : ∀ b, v.ownBlock = some b → some b ≠ r) : NumsAt W' v n f := by
  obtain ⟨a, cap, rfl, h2, h3⟩ := h
  refine ⟨a, cap, rfl, h2, fun c hc => ?_⟩
  obtain ⟨b, o, rfl, hcell⟩ := h3 c hc
  exact ⟨b, o, rfl, hg.cell hcell (hne b rfl)⟩
/-- What is held in the loop. -/
structure WlAt (w W : World) (a b c : Value) (rf pl : Nat → Int) (gb : Nat) (t : ByteArray) (v8 v9 : Value) (n : Nat) (at' : Nat → Nat) (l : List UInt8) : Prop where
  wt : WtAt w W a b c rf pl
  gb1 : w.heap.size + 1 < gb
  cells : ∀ k (hk : k < t.size), W.cell? ⟨gb, k, none⟩ = some (.int .u8 t[k].toNat)
  gb2 : gb < W.heap.size
  nums : NumsAt W v8 n fun i => (at' i : Nat)
  own : Kit.Owns W (gb + 1) 5 v9 l
theorem own_byte {w w' : World} {B : Nat} {v : Value} {l : List UInt8} (h : Kit.Owns w B 5 v l) (hb : Below w.heap.size w w') : Kit.Owns w' B 5 v l := own_step h hb
/-- What Write says. -/
def rwE (g : Gm) (t : List UInt8) : Int := if gE g ≠ 0 then gE g else ckE t
def rwAt (g : Gm) (t : List UInt8) : Int := if gE g ≠ 0 then 0 else ckAt t
end Go.Proofs.Ytpdjfjmfnmocmaf
