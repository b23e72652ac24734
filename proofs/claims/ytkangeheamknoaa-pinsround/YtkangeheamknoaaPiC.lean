/-
  What Wrong, Stream, Write and Cycle must answer (chapter 12), and that the document's do.
-/
import Derived.Test.YtkangeheamknoaaPiSa
namespace Go.Proofs.Ytkangeheamknoaa
open Go.RowKit PK Dm

def PDWr (F : FuncId) : Prop := ∀ (v : Value) (D : Dr) (w : World), DrAt w v D → Calls Try.prog F #[v] w fun e w' => e = .returned (.int .i64 (dE D)) ∧ Below w.heap.size w w'
/-- How many numbers Stream tells. -/
def stN (D : Dr) (n : Int) : Nat := if stE D n = 0 then n.toNat else 0
def PDSt (F : FuncId) : Prop := ∀ (v : Value) (D : Dr) (n : Int) (w : World), DrAt w v D → Calls Try.prog F #[v, .int .i64 n] w fun e w' => ∃ v', e = .returned (.tuple #[v', .int .i64 (stE D n)]) ∧ NumsAt w' v' (stN D n) (fun i => (pushed D i : Nat)) ∧ Below w.heap.size w w'
def PDWt (F : FuncId) : Prop := ∀ (v : Value) (D : Dr) (t : ByteArray) (w : World), DrAt w v D → Calls Try.prog F #[v, .string t] w fun e w' => e = .returned (.tuple #[.string ⟨(dwS D t.data.toList).toArray⟩, .agg #[.int .i64 (dwE D t.data.toList), .int .i64 (dwAt D t.data.toList)]]) ∧ Below w.heap.size w w'
def PDCy (F : FuncId) : Prop := ∀ (v : Value) (D : Dr) (w : World), DrAt w v D → Calls Try.prog F #[v] w fun e w' => e = .returned (.tuple #[.int .i64 (cyN D : Nat), .int .i64 (cyE D)]) ∧ Below w.heap.size w w'
theorem stE_zero {D : Dr} {n : Int} (h : stE D n = 0) : dE D = 0 ∧ 0 ≤ n ∧ n ≤ 65536 := by
  unfold stE at h
  by_cases h1 : dE D = 0
  · rw [if_neg (fun e => e h1)] at h
    by_cases h2 : n < 0 ∨ 65536 < n
    · rw [if_pos h2] at h; cases h
    · exact ⟨h1, by omega, by omega⟩
  · rw [if_pos h1] at h; exact absurd h h1
theorem ref_dwr : PDWr 7 := rdw_any
theorem ref_dwt : PDWt 12 := rdt_any
theorem ref_dcy : PDCy 14 := rcy_any
theorem stL_get (D : Dr) {n i : Nat} (h : i < n) : (stL D n).getD i 0 = pushed D i := by
  unfold stL
  simp only [List.getD_eq_getElem?_getD, List.getElem?_map, List.getElem?_range h, Option.map_some, Option.getD_some]
theorem ref_dst : PDSt 9 := fun v D n w hd => by
  by_cases hE : stE D n = 0
  · obtain ⟨h1, h2, h3⟩ := stE_zero hE
    have hnn : n = ((n.toNat : Nat) : Int) := by omega
    have := rst_ok v D h1 n.toNat (by omega) w hd
    rw [← hnn] at this
    refine this.mono ?_
    rintro e w' ⟨v', h4, h5, h6⟩
    refine ⟨v', by rw [h4, hE], ?_, h6⟩
    have h7 := h5.nums
    rw [stL_len] at h7
    unfold stN
    rw [if_pos hE]
    exact h7.congr fun c hc => by rw [stL_get D hc]
  · refine (rst_bad v D n hE w hd).mono ?_
    rintro e w' ⟨h1, h2⟩
    refine ⟨_, h1, ?_, h2⟩
    unfold stN
    rw [if_neg hE]
    exact ⟨none, 0, rfl, by decide, fun c hc => by omega⟩
end Go.Proofs.Ytkangeheamknoaa
