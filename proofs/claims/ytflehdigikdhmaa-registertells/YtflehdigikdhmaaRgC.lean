/-
  What Run, Profile and Shortest must answer (chapter 11), and that the document's do.
-/
import Derived.Test.YtflehdigikdhmaaRgSa
namespace Go.Proofs.Ytflehdigikdhmaa
open Go.RowKit PK Rg

/-- A slice of n numbers. -/
def Ans (w : World) (v : Value) (n : Nat) (f : Nat → Int) : Prop := (∃ a cap, v = .slice a n cap ∧ n ≤ cap) ∧ NumsAt w v n f
theorem Ans.nil (w : World) (f : Nat → Int) : Ans w (.slice none 0 0) 0 f := ⟨⟨none, 0, rfl, Nat.le_refl _⟩, none, 0, rfl, by decide, fun c hc => by omega⟩
theorem Ans.below {w w' : World} {v : Value} {n : Nat} {f : Nat → Int} (h : Ans w v n f) (hb : Below w.heap.size w w') : Ans w' v n f := ⟨h.1, h.2.below hb⟩
theorem nums_ext {w : World} {v : Value} {n : Nat} {f g : Nat → Int} (h : NumsAt w v n f) (he : ∀ i, i < n → f i = g i) : NumsAt w v n g := by
  obtain ⟨a, cap, h1, h2, h3⟩ := h
  exact ⟨a, cap, h1, h2, fun c hc => by rw [← he c hc]; exact h3 c hc⟩
theorem OwnsL.ans {w : World} {B : Nat} {v : Value} {l : List Nat} (h : OwnsL w B v l) : Ans w v l.length (fun c => ((l.getD c 0 : Nat) : Int)) := by
  refine ⟨?_, h.nums⟩
  rcases h.2 with ⟨rfl, h0⟩ | ⟨g, cap, cur, rfl, _, _, hnc, _⟩
  · exact ⟨none, 0, by rw [h0], by omega⟩
  · exact ⟨_, cap, rfl, hnc⟩
/-- How many there are: none behind an error. -/
def rl (E : Int) (n : Nat) : Nat := if E = 0 then n else 0
/-- The bits as truths. -/
def sB (f : Nat → Int) : Nat → Bool := fun i => bt (f i).toNat
/-- What Run answers. -/
def runF (nt : Nat) (ft fs : Nat → Int) (n : Int) : Nat → Int := fun i => (((rgB (fun k => (ft k).toNat) (fun k => (fs k).toNat) nt n.toNat).getD i 0 : Nat) : Int)
def PRun (F : FuncId) : Prop := ∀ (vt vs : Value) (nt ns : Nat) (ft fs : Nat → Int) (n : Int) (w : World), Ans w vt nt ft → Ans w vs ns fs → Calls Try.prog F #[vt, vs, .int .i64 n] w fun e w' => ∃ v, e = .returned (.tuple #[v, .int .i64 (rrE nt ns ft fs n)]) ∧ Ans w' v (rl (rrE nt ns ft fs n) n.toNat) (runF nt ft fs n) ∧ Below w.heap.size w w'
def PProf (F : FuncId) : Prop := ∀ (v : Value) (n : Nat) (f : Nat → Int) (w : World), Ans w v n f → Calls Try.prog F #[v] w fun e w' => ∃ (v' : Value) (l : List Nat), e = .returned (.tuple #[v', .int .i64 (rsE n f)]) ∧ (rsE n f = 0 → ProfL (sB f) l n) ∧ Ans w' v' (rl (rsE n f) n) (fun i => ((l.getD i 0 : Nat) : Int)) ∧ Below w.heap.size w w'
def PShort (F : FuncId) : Prop := ∀ (v : Value) (n : Nat) (f : Nat → Int) (w : World), Ans w v n f → Calls Try.prog F #[v] w fun e w' => ∃ (v' : Value) (L : Nat) (x : Nat → Bool), e = .returned (.tuple #[v', .int .i64 (rsE n f)]) ∧ (rsE n f = 0 → Least (sB f) n L ∧ First (sB f) L n x) ∧ Ans w' v' (rl (rsE n f) L) (fun c => if x c = true then 1 else 0) ∧ Below w.heap.size w w'
theorem fair_nat {n : Nat} {f : Nat → Int} (h : frB n f = true) {i : Nat} (hi : i < n) : f i = ((f i).toNat : Int) ∧ (f i).toNat ≤ 1 := by
  rcases (frB_iff n f).1 h i hi with h1 | h1 <;> rw [h1] <;> exact ⟨rfl, by decide⟩
theorem rrE_zero {nt ns : Nat} {ft fs : Nat → Int} {n : Int} (h : rrE nt ns ft fs n = 0) : nt ≤ 256 ∧ ns = nt ∧ 0 ≤ n ∧ n ≤ 65536 ∧ frB nt ft = true ∧ frB ns fs = true := by
  unfold rrE at h
  by_cases h1 : 256 < nt ∨ ns ≠ nt
  · rw [if_pos h1] at h; cases h
  · rw [if_neg h1] at h
    by_cases h2 : n < 0 ∨ 65536 < n ∨ frB nt ft = false ∨ frB ns fs = false
    · rw [if_pos h2] at h; cases h
    · have h3 : frB nt ft = true := by
        cases hq : frB nt ft
        · exact absurd (.inr (.inr (.inl hq))) h2
        · rfl
      have h4 : frB ns fs = true := by
        cases hq : frB ns fs
        · exact absurd (.inr (.inr (.inr hq))) h2
        · rfl
      exact ⟨by omega, by omega, by omega, by omega, h3, h4⟩
theorem rsE_zero {n : Nat} {f : Nat → Int} (h : rsE n f = 0) : n ≤ 256 ∧ frB n f = true := by
  unfold rsE at h
  by_cases h1 : 256 < n
  · rw [if_pos h1] at h; cases h
  · rw [if_neg h1] at h
    cases hq : frB n f
    · rw [if_pos hq] at h; cases h
    · exact ⟨by omega, rfl⟩
theorem ref_run : PRun 8 := fun vt vs nt ns ft fs n w ht hs => by
  by_cases hE : rrE nt ns ft fs n = 0
  · obtain ⟨h1, rfl, h3, h4, h5, h6⟩ := rrE_zero hE
    have hnn : n = ((n.toNat : Nat) : Int) := by omega
    have := rrun_ok vt vs ns h1 (fun k => (ft k).toNat) (fun k => (fs k).toNat) (fun k hk => (fair_nat h5 hk).2) (fun k hk => (fair_nat h6 hk).2) n.toNat (by omega) w (nums_ext ht.2 fun i hi => (fair_nat h5 hi).1) (nums_ext hs.2 fun i hi => (fair_nat h6 hi).1)
    rw [← hnn] at this
    refine this.mono ?_
    rintro e w' ⟨v, h7, h8, h9⟩
    refine ⟨v, by rw [h7, hE], ?_, h9⟩
    have h10 := h8.ans
    rw [rgB_len] at h10
    rw [hE]
    exact h10
  · refine (rrun_bad vt vs nt ns ft fs n hE w ht.2 hs.2).mono ?_
    rintro e w' ⟨h1, h2⟩
    refine ⟨_, h1, ?_, h2⟩
    unfold rl
    rw [if_neg hE]
    exact Ans.nil _ _
theorem ref_prof : PProf 11 := fun v n f w hv => by
  by_cases hE : rsE n f = 0
  · obtain ⟨h1, h2⟩ := rsE_zero hE
    obtain ⟨⟨a, cap, rfl, hcap⟩, hv2⟩ := hv
    refine (rprof_ok a n cap hcap h1 (fun k => (f k).toNat) (fun k hk => (fair_nat h2 hk).2) w (nums_ext hv2 fun i hi => (fair_nat h2 hi).1)).mono ?_
    rintro e w' ⟨v', l, h3, h4, h5, h6⟩
    refine ⟨v', l, by rw [h3, hE], fun _ => h5, ?_, h6⟩
    have h10 := h4.ans
    rw [h5.1] at h10
    rw [hE]
    exact h10
  · refine (rprof_bad v n f hE w hv.2).mono ?_
    rintro e w' ⟨h1, h2⟩
    refine ⟨_, [], h1, fun h => absurd h hE, ?_, h2⟩
    unfold rl
    rw [if_neg hE]
    exact Ans.nil _ _
theorem least_le {s : Nat → Bool} {n L : Nat} (h : Least s n L) : L ≤ n := h.le
theorem ref_short : PShort 13 := fun v n f w hv => by
  by_cases hE : rsE n f = 0
  · obtain ⟨h1, h2⟩ := rsE_zero hE
    refine (rshort_ok v n h1 (fun k => (f k).toNat) (fun k hk => (fair_nat h2 hk).2) w (nums_ext hv.2 fun i hi => (fair_nat h2 hi).1)).mono ?_
    rintro e w' ⟨v', L, x, h3, h4, h5, h6, h7, h8⟩
    refine ⟨v', L, x, by rw [h3, hE], fun _ => ⟨h6, h7⟩, ?_, h8⟩
    rw [hE]
    exact ⟨h4, h5⟩
  · refine (rshort_bad v n f hE w hv.2).mono ?_
    rintro e w' ⟨h1, h2⟩
    refine ⟨_, 0, fun _ => false, h1, fun h => absurd h hE, ?_, h2⟩
    unfold rl
    rw [if_neg hE]
    exact Ans.nil _ _
theorem First.unique {s : Nat → Bool} {L n : Nat} {x y : Nat → Bool} (hx : First s L n x) (hy : First s L n y) : ∀ j, j < L → x j = y j := by
  intro j
  induction j using Nat.strongRecOn with
  | _ j ih =>
    intro hj
    by_cases e : x j = y j
    · exact e
    · have h1 := hx.2 y hy.1 j hj (fun c hc => (ih c hc (by omega)).symm) (fun h => e h.symm)
      have h2 := hy.2 x hx.1 j hj (fun c hc => ih c hc (by omega)) e
      rw [h1.1] at h2
      cases h2.2
theorem ProfL.unique {s : Nat → Bool} {m : Nat} {l k : List Nat} (h1 : ProfL s l m) (h2 : ProfL s k m) {i : Nat} (hi : i < m) : l.getD i 0 = k.getD i 0 := (h1.2 i hi).unique (h2.2 i hi)
end Go.Proofs.Ytflehdigikdhmaa
