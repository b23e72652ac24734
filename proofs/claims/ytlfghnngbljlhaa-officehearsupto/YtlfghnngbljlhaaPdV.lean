/-
  Contract of the document's Split (chapter 14).
-/
import Derived.Test.YtlfghnngbljlhaaPdU
namespace Go.Proofs.Ytlfghnngbljlhaa
open Go.RowKit PK Pd

theorem own_empty (w : World) (B : Nat) (h : B ≤ w.heap.size) : OwnsL (w.alloc (.cells #[] 3)) B (.slice (some ⟨w.heap.size, 0, none⟩) 0 0) [] := by
  refine ⟨rfl, .inr ⟨w.heap.size, 0, #[], rfl, h, RowAt.new w _ _, Nat.le_refl _, by decide, rfl, rfl⟩⟩
theorem nnums_ups (g : Nat → Nat) {m j : Nat} (h : j < m) : (nnums (ups g m))[j]? = some (.int .i64 ((g j : Nat) : Int)) := by simp [nnums, ups, h]
theorem cell_one_at (w : World) (T : TypeId) (v : Value) {B : Nat} (h : B = w.heap.size) : ∀ j u, ([v] : List Value)[j]? = some u → (w.alloc (.cells #[v] T)).cell? ((⟨B, 0, none⟩ : Addr).add j) = some u := by
  subst h
  exact cell_one_new' w T v
theorem own_both {W : World} {B : Nat} {v : Value} {L : List Nat} {k n : Nat} (hn : n = L.length) (h : W.ownsRow B 3 1 v (0 + n + 1) ([] ++ nnums L ++ [.int .i64 (k : Nat)])) : OwnsL W B v (L ++ [k]) := by
  unfold OwnsL
  rw [nnums_append, List.length_append]
  subst hn
  simpa [nnums] using h
theorem own_lone {W : World} {B : Nat} {v : Value} {k : Nat} (h : W.ownsRow B 3 1 v (0 + 1) ([] ++ [.int .i64 (k : Nat)])) : OwnsL W B v ([] ++ [k]) := h
end Go.Proofs.Ytlfghnngbljlhaa
