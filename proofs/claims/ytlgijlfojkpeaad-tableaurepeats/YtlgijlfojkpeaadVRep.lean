/-
  Pairs of numbers in slices; pieces of a text.
-/
import Derived.Test.YtlgijlfojkpeaadVRev
import Derived.Test.YtlgijlfojkpeaadVMap
import Derived.Maps.AppendAt
import Derived.Maps.OwnSet
import Derived.Carry
namespace Go.Proofs.Ytlgijlfojkpeaad
open Go.RowKit PK Vg

def pcs (t : List UInt8) (n i : Nat) : List UInt8 := (t.drop i).take n
theorem ext_pcs (t : ByteArray) (n a : Nat) : (t.extract a (a + n)).data.toList = pcs t.data.toList n a := by
  simp [pcs, ByteArray.data_extract, List.extract_eq_take_drop]
def prCells (l : List (Nat × Nat)) : List Value := l.flatMap fun p => [.int .i64 (p.1 : Nat), .int .i64 (p.2 : Nat)]
theorem prCells_length : ∀ l : List (Nat × Nat), (prCells l).length = l.length * 2
  | [] => rfl
  | p :: l => by
    show ([_, _] ++ prCells l).length = _
    rw [List.length_append, prCells_length l]
    simp; omega
theorem prCells_snoc (l : List (Nat × Nat)) (a b : Nat) : prCells (l ++ [(a, b)]) = prCells l ++ [.int .i64 (a : Nat), .int .i64 (b : Nat)] := by simp [prCells]
theorem prCells_at : ∀ (l : List (Nat × Nat)) (k : Nat), k < l.length → (prCells l)[k * 2]? = some (.int .i64 ((l.getD k (0, 0)).1 : Nat)) ∧ (prCells l)[k * 2 + 1]? = some (.int .i64 ((l.getD k (0, 0)).2 : Nat))
  | [], k, h => by simp at h
  | p :: l, 0, _ => ⟨rfl, rfl⟩
  | p :: l, k + 1, h => by
    have ih := prCells_at l k (by simpa using h)
    show ([_, _] ++ prCells l)[(k + 1) * 2]? = _ ∧ ([_, _] ++ prCells l)[(k + 1) * 2 + 1]? = _
    rw [List.getElem?_append_right (by simp; omega), List.getElem?_append_right (by simp; omega)]
    have e1 : (k + 1) * 2 - [Value.int .i64 (p.1 : Nat), Value.int .i64 (p.2 : Nat)].length = k * 2 := by simp; omega
    have e2 : (k + 1) * 2 + 1 - [Value.int .i64 (p.1 : Nat), Value.int .i64 (p.2 : Nat)].length = k * 2 + 1 := by simp; omega
    rw [e1, e2]
    simpa using ih
/-- The slice v owns the pairs l, in blocks from B on. -/
def OwnsP (w : World) (B : Nat) (v : Value) (l : List (Nat × Nat)) : Prop := w.ownsRow B 38 2 v l.length (prCells l)
theorem OwnsP.nil (w : World) (B : Nat) : OwnsP w B (.slice none 0 0) [] := World.ownsRow_nil w B _ 2
/-- v is a slice of n pairs: in w pair c is f c, g c. -/
def PairsAt (w : World) (v : Value) (n : Nat) (f g : Nat → Int) : Prop :=
  ∃ (a : Option Addr) (cap : Nat), v = .slice a n cap ∧ n ≤ maxLen ∧ ∀ c, c < n → ∃ b o, a = some ⟨b, o, none⟩ ∧ w.cell? ⟨b, o + c * 2, none⟩ = some (.int .i64 (f c)) ∧ w.cell? ⟨b, o + c * 2 + 1, none⟩ = some (.int .i64 (g c))
theorem PairsAt.below {w w' : World} {v : Value} {n : Nat} {f g : Nat → Int} (h : PairsAt w v n f g) (hb : Below w.heap.size w w') : PairsAt w' v n f g := by
  obtain ⟨a, cap, h1, h2, h3⟩ := h
  refine ⟨a, cap, h1, h2, fun c hc => ?_⟩
  obtain ⟨b, o, e, x, y⟩ := h3 c hc
  exact ⟨b, o, e, (hb.cell (p := ⟨b, o + c * 2, none⟩) (cell_block x)).trans x, (hb.cell (p := ⟨b, o + c * 2 + 1, none⟩) (cell_block y)).trans y⟩
theorem PairsAt.nil (w : World) (f g : Nat → Int) : PairsAt w (.slice none 0 0) 0 f g := ⟨none, 0, rfl, by decide, fun c hc => by omega⟩
theorem PairsAt.of_prs {w : World} {g n cap : Nat} {T : TypeId} {c : Array Value} {f h : Nat → Int} (hr : RowAt w g T c) (hn : n ≤ maxLen) (hp : Prs c n f h) : PairsAt w (.slice (some ⟨g, 0, none⟩) n cap) n f h :=
  ⟨_, _, rfl, hn, fun k hk => ⟨g, 0, rfl, by rw [Nat.zero_add]; exact hr.cell (hp k hk).1, by rw [Nat.zero_add]; exact hr.cell (hp k hk).2⟩⟩
theorem OwnsP.form {w : World} {B : Nat} {v : Value} {l : List (Nat × Nat)} (h : OwnsP w B v l) : (v = .slice none 0 0 ∧ l = []) ∨ ∃ g cap cur, v = .slice (some ⟨g, 0, none⟩) l.length cap ∧ B ≤ g ∧ RowAt w g 38 cur ∧ l.length ≤ maxLen ∧ Prs cur l.length (fun k => ((l.getD k (0, 0)).1 : Nat)) (fun k => ((l.getD k (0, 0)).2 : Nat)) := by
  rcases h.2 with ⟨rfl, h0⟩ | ⟨g, cap, cur, rfl, hbg, hg, hnc, hcm, hcs, htake⟩
  · exact .inl ⟨rfl, List.eq_nil_of_length_eq_zero h0⟩
  · refine .inr ⟨g, cap, cur, rfl, hbg, hg, by omega, fun k hk => ?_⟩
    have hat := prCells_at l k hk
    rw [← htake, List.getElem?_take_of_lt (by omega), List.getElem?_take_of_lt (by omega)] at hat
    simpa using hat
theorem OwnsP.pairs {w : World} {B : Nat} {v : Value} {l : List (Nat × Nat)} (h : OwnsP w B v l) : PairsAt w v l.length (fun k => ((l.getD k (0, 0)).1 : Nat)) (fun k => ((l.getD k (0, 0)).2 : Nat)) := by
  rcases h.form with ⟨rfl, rfl⟩ | ⟨g, cap, cur, rfl, _, hr, hm, hp⟩
  · exact PairsAt.nil _ _ _
  · exact PairsAt.of_prs hr hm hp
theorem v_info_rep : (Try.prog.info? 38).map (fun i => (i.zero, i.size, i.bytes)) = some (some (.agg #[.int .i64 0, .int .i64 0]), 2, 16) := by kernel_rfl
theorem v_info_parts {P : Program} {e : TypeId} {z : Value} {s b : Nat} (h : (P.info? e).map (fun i => (i.zero, i.size, i.bytes)) = some (some z, s, b)) : ∃ i, P.info? e = some i ∧ i.zero = some z ∧ i.size = s ∧ i.bytes = b := by
  obtain ⟨i, hi, hzz⟩ := Option.map_eq_some_iff.1 h
  simp only [Prod.mk.injEq] at hzz
  exact ⟨i, hi, hzz.1, hzz.2.1, hzz.2.2⟩
theorem cell_two_new (w : World) (x y : Value) (t : TypeId) : ∀ j u, [x, y][j]? = some u → (w.alloc (.cells #[x, y] t)).cell? ((⟨w.heap.size, 0, none⟩ : Addr).add j) = some u := by
  intro j u hj
  match j, hj with
  | 0, hj => simp at hj; subst hj; simp [Addr.add]
  | 1, hj => simp at hj; subst hj; simp [Addr.add]
theorem v_zero_int (w : World) : (zeroValue 3).run Try.prog w = .ok (.int .i64 0) w := by kernel_rfl
theorem v_keyed : Go.Maps.Keyed Try.prog 9 := Go.Maps.string_keyed Try.underlying9
/-- Where the list from the end is laid round. -/
theorem getD_reverse (l : List (Nat × Nat)) (k : Nat) (hk : k < l.length) : l.reverse.getD k (0, 0) = l.getD (l.length - 1 - k) (0, 0) := by
  simp only [List.getD_eq_getElem?_getD]
  rw [List.getElem?_reverse hk]
end Go.Proofs.Ytlgijlfojkpeaad
