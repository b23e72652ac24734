/-
  Contract of the document's Known (chapter 8).
-/
import Derived.Test.YtpdjfjmfnmocmafOAl
namespace Go.Proofs.Ytpdjfjmfnmocmaf
open Go.RowKit PK Vg

def knC : Array Value := #[.string ⟨#[73]⟩, .string ⟨#[69, 75, 77, 70, 76, 71, 68, 81, 86, 90, 78, 84, 79, 87, 89, 72, 88, 85, 83, 80, 65, 73, 66, 82, 67, 74]⟩, .string ⟨#[81]⟩, .string ⟨#[73, 73]⟩, .string ⟨#[65, 74, 68, 75, 83, 73, 82, 85, 88, 66, 76, 72, 87, 84, 77, 67, 81, 71, 90, 78, 80, 89, 70, 86, 79, 69]⟩, .string ⟨#[69]⟩, .string ⟨#[73, 73, 73]⟩, .string ⟨#[66, 68, 70, 72, 74, 76, 67, 80, 82, 84, 88, 86, 90, 78, 89, 69, 73, 87, 71, 65, 75, 77, 85, 83, 81, 79]⟩, .string ⟨#[86]⟩, .string ⟨#[73, 86]⟩, .string ⟨#[69, 83, 79, 86, 80, 90, 74, 65, 89, 81, 85, 73, 82, 72, 88, 76, 78, 70, 84, 71, 75, 68, 67, 77, 87, 66]⟩, .string ⟨#[74]⟩, .string ⟨#[86]⟩, .string ⟨#[86, 90, 66, 82, 71, 73, 84, 89, 85, 80, 83, 68, 78, 72, 76, 88, 65, 87, 77, 74, 81, 79, 70, 69, 67, 75]⟩, .string ⟨#[90]⟩]
theorem built_whl (f : Nat → Int) (a : Option Addr) (n c : Nat) : Try.prog.built 44 [(0, .agg (ints 26 f)), (1, .slice a n c)] = some (whl f (.slice a n c)) := by kernel_rfl
theorem built_whl0 : Try.prog.built 44 [] = some (whl (fun _ => 0) (.slice none 0 0)) := by kernel_rfl
theorem kn_none {name : List UInt8} (h : ∀ i, i < 5 → (knT.getD i ([], [], 0)).1 ≠ name) : knI name = none := by
  unfold knI
  rw [List.find?_eq_none]
  intro x hx hb
  obtain ⟨i, hi, e⟩ := List.mem_iff_getElem.1 hx
  have h1 := h i hi
  rw [List.getD_eq_getElem?_getD, List.getElem?_eq_getElem hi, e] at h1
  exact h1 (eq_of_beq hb)
theorem nums_row {W : World} {v : Value} {n : Nat} {f : Nat → Int} (h : NumsAt W v n f) (g : Nat) (c : Array Value) (hne : v.ownBlock ≠ some g) : NumsAt (W.setRow g c) v n f := by
  obtain ⟨a, cap, rfl, h2, h3⟩ := h
  refine ⟨a, cap, rfl, h2, fun i hi => ?_⟩
  obtain ⟨b, o, rfl, hcell⟩ := h3 i hi
  exact ⟨b, o, rfl, (cell_setRow_other W g c ⟨b, o + i, none⟩ (fun e => hne (congrArg some e))).trans hcell⟩
theorem nums_one (W : World) (x : Nat) : NumsAt (W.alloc (.cells #[.int .i64 (x : Nat)] 3)) (.slice (some ⟨W.heap.size, 0, none⟩) 1 1) [x].length (fun i => (([x].getD i 0 : Nat) : Int)) :=
  ⟨_, 1, rfl, (by decide : 1 ≤ maxLen), fun c hc => ⟨W.heap.size, 0, rfl, by
    have hc0 : c = 0 := by simpa using hc
    subst hc0
    exact (RowAt.new W 3 #[.int .i64 (x : Nat)]).cell rfl⟩⟩
end Go.Proofs.Ytpdjfjmfnmocmaf
