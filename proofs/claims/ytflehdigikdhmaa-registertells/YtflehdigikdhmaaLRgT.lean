/-
  RegisterTells, out of what Run, Profile and Shortest answer.
-/
import Derived.Test.YtflehdigikdhmaaRgC
namespace Go.Proofs.Ytflehdigikdhmaa
open Go.RowKit PK Rg

theorem ans_same {W : World} {u v : Value} {n m : Nat} {f g : Nat → Int} (hu : Ans W u n f) (hv : Ans W v m g) (hnm : n = m) (h : ∀ i, i < n → f i = g i) : Calls Try.prog 9 #[u, v] W fun e w' => e = .returned (.bool true) ∧ Below W.heap.size W w' := by
  have := rsm_any u v n m f g W hu.2 hv.2
  rw [smB_iff.2 ⟨hnm, h⟩] at this
  exact this
set_option maxRecDepth 100000 in
set_option maxHeartbeats 4000000 in
theorem registertells_of (P7 : PRun 7) (P10 : PProf 10) (P12 : PShort 12) (vt vs vb : Value) (nt ns nb : Nat) (ft fs fb : Nat → Int) (n : Int) (w : World) (ht : Ans w vt nt ft) (hs : Ans w vs ns fs) (hbt : Ans w vb nb fb) : Calls Try.prog 3 #[vt, vs, .int .i64 n, vb] w fun e w' => e = .returned (.bool true) ∧ Below w.heap.size w w' := by
  have H7 := (show Hid (∀ W, Below w.heap.size w W → Calls Try.prog 7 #[vt, vs, .int .i64 n] W fun e w' => ∃ v, e = .returned (.tuple #[v, .int .i64 (rrE nt ns ft fs n)]) ∧ Ans w' v (rl (rrE nt ns ft fs n) n.toNat) (runF nt ft fs n) ∧ Below W.heap.size W w') from fun W hb => P7 vt vs nt ns ft fs n W (ht.below hb) (hs.below hb))
  have H8 := (show Hid (∀ W, Below w.heap.size w W → Calls Try.prog 8 #[vt, vs, .int .i64 n] W fun e w' => ∃ v, e = .returned (.tuple #[v, .int .i64 (rrE nt ns ft fs n)]) ∧ Ans w' v (rl (rrE nt ns ft fs n) n.toNat) (runF nt ft fs n) ∧ Below W.heap.size W w') from fun W hb => ref_run vt vs nt ns ft fs n W (ht.below hb) (hs.below hb))
  have H10 := (show Hid (∀ W, Below w.heap.size w W → Calls Try.prog 10 #[vb] W fun e w' => ∃ (v' : Value) (l : List Nat), e = .returned (.tuple #[v', .int .i64 (rsE nb fb)]) ∧ (rsE nb fb = 0 → ProfL (sB fb) l nb) ∧ Ans w' v' (rl (rsE nb fb) nb) (fun i => ((l.getD i 0 : Nat) : Int)) ∧ Below W.heap.size W w') from fun W hb => P10 vb nb fb W (hbt.below hb))
  have H11 := (show Hid (∀ W, Below w.heap.size w W → Calls Try.prog 11 #[vb] W fun e w' => ∃ (v' : Value) (l : List Nat), e = .returned (.tuple #[v', .int .i64 (rsE nb fb)]) ∧ (rsE nb fb = 0 → ProfL (sB fb) l nb) ∧ Ans w' v' (rl (rsE nb fb) nb) (fun i => ((l.getD i 0 : Nat) : Int)) ∧ Below W.heap.size W w') from fun W hb => ref_prof vb nb fb W (hbt.below hb))
  have H12 := (show Hid (∀ W, Below w.heap.size w W → Calls Try.prog 12 #[vb] W fun e w' => ∃ (v' : Value) (L : Nat) (x : Nat → Bool), e = .returned (.tuple #[v', .int .i64 (rsE nb fb)]) ∧ (rsE nb fb = 0 → Least (sB fb) nb L ∧ First (sB fb) L nb x) ∧ Ans w' v' (rl (rsE nb fb) L) (fun c => if x c = true then 1 else 0) ∧ Below W.heap.size W w') from fun W hb => P12 vb nb fb W (hbt.below hb))
  have H13 := (show Hid (∀ W, Below w.heap.size w W → Calls Try.prog 13 #[vb] W fun e w' => ∃ (v' : Value) (L : Nat) (x : Nat → Bool), e = .returned (.tuple #[v', .int .i64 (rsE nb fb)]) ∧ (rsE nb fb = 0 → Least (sB fb) nb L ∧ First (sB fb) L nb x) ∧ Ans w' v' (rl (rsE nb fb) L) (fun c => if x c = true then 1 else 0) ∧ Below W.heap.size W w') from fun W hb => ref_short vb nb fb W (hbt.below hb))
  generalize rrE nt ns ft fs n = E at *
  generalize rsE nb fb = D at *
  clear P7 P10 P12 ht hs hbt
  go_enter Try.func3, Try.ntmps3
  go_wp2_with fail
  refine (H7.out _ (Below.refl _ _)).mono ?_
  rintro e W1 ⟨v1, rfl, ha1, hb1⟩
  have HA1 := (show Hid (Ans W1 v1 (rl E n.toNat) (runF nt ft fs n)) from ha1)
  have HB1 := (show Hid (Below w.heap.size w W1) from hb1)
  clear ha1 hb1 H7
  go_wp2_with fail
  refine (H8.out _ HB1.out).mono ?_
  rintro e W2 ⟨v2, rfl, ha2, hb2⟩
  have HS := (show Hid (Calls Try.prog 9 #[v1, v2] W2 fun e w' => e = .returned (.bool true) ∧ Below W2.heap.size W2 w') from ans_same (HA1.out.below hb2) ha2 rfl fun _ _ => rfl)
  have HB2 := (show Hid (Below w.heap.size w W2) from HB1.out.trans (hb2.mono HB1.out.size))
  clear ha2 hb2 H8 HA1 HB1
  go_wp2_with fail
  refine Calls.mono HS.out ?_
  rintro e W3 ⟨rfl, hb3⟩
  have HB3 := (show Hid (Below w.heap.size w W3) from HB2.out.trans (hb3.mono HB2.out.size))
  have hee : (E != E) = false := by simp
  clear hb3 HS HB2
  go_wp2_with fail
  refine (H10.out _ HB3.out).mono ?_
  rintro e W4 ⟨v4, l4, rfl, hl4, ha4, hb4⟩
  have HL4 := (show Hid (D = 0 → ProfL (sB fb) l4 nb) from hl4)
  have HA4 := (show Hid (Ans W4 v4 (rl D nb) fun i => ((l4.getD i 0 : Nat) : Int)) from ha4)
  have HB4 := (show Hid (Below w.heap.size w W4) from HB3.out.trans (hb4.mono HB3.out.size))
  clear hl4 ha4 hb4 H10 HB3 hee
  go_wp2_with fail
  refine (H11.out _ HB4.out).mono ?_
  rintro e W5 ⟨v5, l5, rfl, hl5, ha5, hb5⟩
  have HS := (show Hid (Calls Try.prog 9 #[v4, v5] W5 fun e w' => e = .returned (.bool true) ∧ Below W5.heap.size W5 w') from ans_same (HA4.out.below hb5) ha5 rfl fun i hi => by
    unfold rl at hi
    by_cases h0 : D = 0
    · rw [if_pos h0] at hi
      show ((l4.getD i 0 : Nat) : Int) = ((l5.getD i 0 : Nat) : Int)
      rw [(HL4.out h0).unique (hl5 h0) hi]
    · rw [if_neg h0] at hi; omega)
  have HB5 := (show Hid (Below w.heap.size w W5) from HB4.out.trans (hb5.mono HB4.out.size))
  clear hl5 ha5 hb5 H11 HA4 HB4 HL4
  go_wp2_with fail
  refine Calls.mono HS.out ?_
  rintro e W6 ⟨rfl, hb6⟩
  have HB6 := (show Hid (Below w.heap.size w W6) from HB5.out.trans (hb6.mono HB5.out.size))
  have hdd : (D != D) = false := by simp
  clear hb6 HS HB5
  go_wp2_with fail
  refine (H12.out _ HB6.out).mono ?_
  rintro e W7 ⟨v7, L7, x7, rfl, hl7, ha7, hb7⟩
  have HL7 := (show Hid (D = 0 → Least (sB fb) nb L7 ∧ First (sB fb) L7 nb x7) from hl7)
  have HA7 := (show Hid (Ans W7 v7 (rl D L7) fun c => if x7 c = true then 1 else 0) from ha7)
  have HB7 := (show Hid (Below w.heap.size w W7) from HB6.out.trans (hb7.mono HB6.out.size))
  clear hl7 ha7 hb7 H12 HB6
  go_wp2_with fail
  refine (H13.out _ HB7.out).mono ?_
  rintro e W8 ⟨v8, L8, x8, rfl, hl8, ha8, hb8⟩
  have HS := (show Hid (Calls Try.prog 9 #[v7, v8] W8 fun e w' => e = .returned (.bool true) ∧ Below W8.heap.size W8 w') from by
    by_cases h0 : D = 0
    · obtain ⟨h1, h2⟩ := HL7.out h0
      obtain ⟨h3, h4⟩ := hl8 h0
      obtain rfl := h1.unique h3
      refine ans_same (HA7.out.below hb8) ha8 rfl fun i hi => ?_
      unfold rl at hi
      rw [if_pos h0] at hi
      show (if x7 i = true then (1 : Int) else 0) = if x8 i = true then 1 else 0
      rw [h2.unique h4 i hi]
    · have e0 : ∀ L, rl D L = 0 := fun L => by unfold rl; rw [if_neg h0]
      exact ans_same (HA7.out.below hb8) ha8 (by rw [e0, e0]) fun i hi => by rw [e0] at hi; omega)
  have HB8 := (show Hid (Below w.heap.size w W8) from HB7.out.trans (hb8.mono HB7.out.size))
  clear hl8 ha8 hb8 H13 HA7 HB7 HL7
  go_wp2_with fail
  refine Calls.mono HS.out ?_
  rintro e W9 ⟨rfl, hb9⟩
  have HB9 := (show Hid (Below w.heap.size w W9) from HB8.out.trans (hb9.mono HB8.out.size))
  clear hb9 HS HB8
  go_wp2
  go_ret
  exact ⟨by simp, HB9.out⟩
end Go.Proofs.Ytflehdigikdhmaa
