/-
  What the program and the document answer is one, of any 26 numbers.
-/
import Derived.Test.YtlgjgppojdamiaaPSameA
import Derived.Test.YtlgjgppojdamiaaPConj
import Derived.Test.YtlgjgppojdamiaaPThenB
import Derived.Test.YtlgjgppojdamiaaRThen
import Derived.Test.YtlgjgppojdamiaaRType
import Derived.Test.YtlgjgppojdamiaaRPrint2
import Derived.Test.YtlgjgppojdamiaaRBetween
import Derived.Test.YtlgjgppojdamiaaPLoc
namespace Go.Proofs.Ytlgjgppojdamiaa
open Go.RowKit PK

theorem one_bad (f : Nat → Int) : Pm.firstBad (fun _ => f) 1 = Pm.wrong f := Pm.firstBad_succ (fun _ => f) 0 rfl
/-- Two right ones, or a fault of the two. -/
theorem pair_cases (f g : Nat → Int) : (∃ p q, Pm.IsPerm p ∧ Pm.IsPerm q ∧ ints 26 f = ints 26 (Pm.up p) ∧ ints 26 g = ints 26 (Pm.up q)) ∨ (Pm.firstBad (pair f g) 2 != 0) = true := by
  by_cases h0 : Pm.wrong f = 0
  · by_cases h1 : Pm.wrong g = 0
    · obtain ⟨p, hp, hp'⟩ := (Pm.wrong_zero f).1 h0
      obtain ⟨q, hq, hq'⟩ := (Pm.wrong_zero g).1 h1
      exact .inl ⟨p, q, hp, hq, ints_ext hp', ints_ext hq'⟩
    · exact .inr (by rw [pair_bad, if_neg (by simp [h0])]; simpa using h1)
  · exact .inr (by rw [pair_bad, if_pos h0]; simpa using h0)
theorem one_cases (f : Nat → Int) : (∃ p, Pm.IsPerm p ∧ ints 26 f = ints 26 (Pm.up p)) ∨ (Pm.wrong f != 0) = true := by
  by_cases h0 : Pm.wrong f = 0
  · obtain ⟨p, hp, hp'⟩ := (Pm.wrong_zero f).1 h0
    exact .inl ⟨p, hp, ints_ext hp'⟩
  · exact .inr (by simpa using h0)
/-- Both functions answer this array and this errno, of two arrays. -/
def Both2 (m n : Nat) (f g : Nat → Int) (X : Nat → Int) (E : Int) : Prop := ∀ k, (k = m ∨ k = n) → ∀ W, Calls Try.prog k #[.agg (ints 26 f), .agg (ints 26 g)] W fun e w' => e = .returned (.tuple #[.agg (ints 26 X), .int .i64 E]) ∧ Below W.heap.size W w'
def Both1 (m n : Nat) (f : Nat → Int) (X : Nat → Int) (E : Int) : Prop := ∀ k, (k = m ∨ k = n) → ∀ W, Calls Try.prog k #[.agg (ints 26 f)] W fun e w' => e = .returned (.tuple #[.agg (ints 26 X), .int .i64 E]) ∧ Below W.heap.size W w'
def BothS (m n : Nat) (f : Nat → Int) (s : ByteArray) (E : Int) : Prop := ∀ k, (k = m ∨ k = n) → ∀ W, Calls Try.prog k #[.agg (ints 26 f)] W fun e w' => e = .returned (.tuple #[.string s, .int .i64 E]) ∧ Below W.heap.size W w'
def BothL (m n : Nat) (f : Nat → Int) (l : List Nat) (E : Int) : Prop := ∀ k, (k = m ∨ k = n) → ∀ W, Calls Try.prog k #[.agg (ints 26 f)] W fun e w' => ∃ v, e = .returned (.tuple #[v, .int .i64 E]) ∧ OwnsN w' W.heap.size v l ∧ Below W.heap.size W w'
theorem then_both (f g : Nat → Int) : ∃ X E, Both2 20 21 f g X E := by
  rcases pair_cases f g with ⟨p, q, hp, hq, h1, h2⟩ | h
  · refine ⟨Pm.up (fun i => q (p i)), 0, ?_⟩
    · rintro k (rfl | rfl) W <;> rw [h1, h2]
      · exact then_ok p q hp hq W
      · exact rthen_ok p q hp hq W
  · refine ⟨fun _ => 0, Pm.firstBad (pair f g) 2, ?_⟩
    · rintro k (rfl | rfl) W
      · exact then_bad f g _ h rfl W
      · exact rthen_bad f g _ h rfl W
theorem conj_both (f g : Nat → Int) : ∃ X E, Both2 24 25 f g X E := by
  rcases pair_cases f g with ⟨p, q, hp, hq, h1, h2⟩ | h
  · refine ⟨Pm.up (Pm.conj p q), 0, ?_⟩
    · rintro k (rfl | rfl) W <;> rw [h1, h2]
      · exact conj_ok p q hp hq W
      · exact rconj_ok p q hp hq W
  · refine ⟨fun _ => 0, Pm.firstBad (pair f g) 2, ?_⟩
    · rintro k (rfl | rfl) W
      · exact conj_bad f g _ h rfl W
      · exact rconj_bad f g _ h rfl W
theorem between_both (f g : Nat → Int) : ∃ X E, Both2 31 32 f g X E := by
  rcases pair_cases f g with ⟨p, q, hp, hq, h1, h2⟩ | h
  · refine ⟨(outB (betw p q)).1, (outB (betw p q)).2, ?_⟩
    · rintro k (rfl | rfl) W <;> rw [h1, h2]
      · exact between_ok p q hp hq W
      · exact rbetween_ok p q hp hq W
  · refine ⟨fun _ => 0, Pm.firstBad (pair f g) 2, ?_⟩
    · rintro k (rfl | rfl) W
      · exact between_bad f g _ h rfl W
      · exact rbetween_bad f g _ h rfl W
theorem back_both (f : Nat → Int) : ∃ X E, Both1 22 23 f X E := by
  rcases one_cases f with ⟨p, hp, h1⟩ | h
  · refine ⟨Pm.up (Pm.inv p), 0, ?_⟩
    · rintro k (rfl | rfl) W <;> rw [h1]
      · exact back_ok p hp W
      · exact rback_ok p hp W
  · refine ⟨fun _ => 0, Pm.wrong f, ?_⟩
    · rintro k (rfl | rfl) W
      · exact back_bad f _ h (one_bad f) W
      · exact rback_bad f _ h rfl W
theorem print_both (f : Nat → Int) : ∃ s E, BothS 29 30 f s E := by
  rcases one_cases f with ⟨p, hp, h1⟩ | h
  · refine ⟨⟨(wrAll (Pm.cycs p 26)).toArray⟩, 0, ?_⟩
    · rintro k (rfl | rfl) W <;> rw [h1]
      · exact print_ok p hp W
      · exact rprint_ok p hp W
  · refine ⟨⟨#[]⟩, Pm.wrong f, ?_⟩
    · rintro k (rfl | rfl) W
      · exact print_bad' f _ h (one_bad f) W
      · exact rprint_bad f _ h rfl W
theorem type_both (f : Nat → Int) : ∃ l E, l.length ≤ 1000000 ∧ BothL 26 27 f l E := by
  rcases one_cases f with ⟨p, hp, h1⟩ | h
  · refine ⟨typeOf p, 0, type_len p, ?_⟩
    rintro k (rfl | rfl) W <;> rw [h1]
    · exact type_ok p hp W
    · exact rtype_ok p hp W
  · refine ⟨[], Pm.wrong f, by simp, ?_⟩
    rintro k (rfl | rfl) W
    · refine (type_bad f _ h (one_bad f) W).mono ?_
      rintro e w' ⟨rfl, hb⟩
      exact ⟨_, rfl, World.ownsRow_nil _ _ _ _, hb⟩
    · refine (rtype_bad f _ h rfl W).mono ?_
      rintro e w' ⟨rfl, hb⟩
      exact ⟨_, rfl, World.ownsRow_nil _ _ _ _, hb⟩
end Go.Proofs.Ytlgjgppojdamiaa
