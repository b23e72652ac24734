/-
  Contract of the document's Same (chapter 11).
-/
import Derived.Test.YtlfghnngbljlhaaPdV
namespace Go.Proofs.Ytlfghnngbljlhaa
open Go.RowKit PK

/-- Two rows of numbers are the same. -/
def smB (n m : Nat) (f g : Nat → Int) : Bool := decide (n = m) && (List.range n).all fun i => decide (f i = g i)
theorem smB_iff {n m : Nat} {f g : Nat → Int} : smB n m f g = true ↔ n = m ∧ ∀ i, i < n → f i = g i := by
  unfold smB
  simp [List.all_eq_true]
set_option maxRecDepth 100000 in
set_option maxHeartbeats 2000000 in
theorem rsm_any (u v : Value) (n k : Nat) (f g : Nat → Int) (w : World) (hu : NumsAt w u n f) (hv : NumsAt w v k g) :
    Calls Try.prog 8 #[u, v] w fun e w' => e = .returned (.bool (smB n k f g)) ∧ Below w.heap.size w w' := by
  obtain ⟨a, ca, rfl, hmx, hca⟩ := hu
  obtain ⟨b, cb, rfl, _, hcb⟩ := hv
  have HA := (show Hid (∀ c, c < n → ∃ b o, a = some ⟨b, o, none⟩ ∧ w.cell? ⟨b, o + c, none⟩ = some (.int .i64 (f c))) from hca)
  have HB := (show Hid (∀ c, c < k → ∃ b' o, b = some ⟨b', o, none⟩ ∧ w.cell? ⟨b', o + c, none⟩ = some (.int .i64 (g c))) from hcb)
  unfold maxLen at hmx
  clear hca hcb
  by_cases hnk : n = k
  case neg =>
    have h1 : (((n : Nat) : Int) != ((k : Nat) : Int)) = true := by simp; omega
    have HF : Hid (smB n k f g = false) := by
      cases hq : smB n k f g
      · rfl
      · exact absurd (smB_iff.1 hq).1 hnk
    clear hnk HA HB
    go_enter Try.func8, Try.ntmps8
    go_wp2
    go_ret
    exact ⟨by rw [HF.out]; rfl, Below.refl _ _⟩
  subst hnk
  have h1 : (((n : Nat) : Int) != ((n : Nat) : Int)) = false := by simp
  go_enter Try.func8, Try.ntmps8
  go_wp2_with fail
  go_loopw [13] (fun i W => ∃ m : Nat, m ≤ n ∧ i = .int .i64 m ∧ Below w.heap.size w W ∧ ∀ j, j < m → f j = g j) (fun i _ => ((n : Int) - intOf i).toNat)
  case atStart => exact ⟨0, by omega, rfl, Below.refl _ _, fun j hj => by omega⟩
  case round =>
    obtain ⟨m, hm, rfl, hb, hj⟩ := hrel
    by_cases hlt : m < n
    · obtain ⟨b1, o1, e1, h1'⟩ := HA.out m hlt
      obtain ⟨b2, o2, e2, h2'⟩ := HB.out m hlt
      subst e1 e2
      have c1 := (hb.cell (p := ⟨b1, o1 + m, none⟩) (cell_block h1')).trans h1'
      have c2 := (hb.cell (p := ⟨b2, o2 + m, none⟩) (cell_block h2')).trans h2'
      have HJ := (show Hid _ from hj)
      have HLT : Hid (m < n) := hlt
      have hlt2 : (m : Int) < (n : Int) := by omega
      have HX : Hid (∀ x y, x = f m → y = g m → (x = y ↔ f m = g m)) := fun x y h1 h2 => by rw [h1, h2]
      obtain ⟨x, hx⟩ : ∃ x, x = f m := ⟨_, rfl⟩
      obtain ⟨y, hy⟩ : ∃ y, y = g m := ⟨_, rfl⟩
      have HXY := (show Hid (x = y ↔ f m = g m) from HX.out x y hx hy)
      rw [← hx] at c1
      rw [← hy] at c2
      clear h1' h2' hj hx hy HX hlt
      by_cases hxy : x = y
      · have hxb : (x != y) = false := by simp [hxy]
        have HJ2 : Hid (∀ j, j < m + 1 → f j = g j) := fun j hj => by
          by_cases e : j = m
          · rw [e]; exact HXY.out.1 hxy
          · exact HJ.out j (by omega)
        clear hxy
        go_wp2_with fail
        go_quiet (fail)
        go_wp2
        go_roundw
        case rel => exact ⟨m + 1, HLT.out, by go_num, ⟨hb.os, hb.tape, hb.output, hb.size, hb.block⟩, HJ2.out⟩
        case measure => have := HLT.out; simp [intOf]; omega
      · have hxb : (x != y) = true := by simp [hxy]
        have HF : Hid (smB n n f g = false) := by
          cases hq : smB n n f g
          · rfl
          · exact absurd (HXY.out.2 ((smB_iff.1 hq).2 m HLT.out)) hxy
        clear hxy
        go_wp2_with fail
        go_quiet (fail)
        go_wp2
        go_ret
        exact ⟨by rw [HF.out]; rfl, ⟨hb.os, hb.tape, hb.output, hb.size, hb.block⟩⟩
    · have hnn : ¬ (m : Int) < (n : Int) := by omega
      have HT : Hid (smB n n f g = true) := smB_iff.2 ⟨rfl, fun i hi => hj i (by omega)⟩
      have HB' := (show Hid _ from hb)
      clear hj hb hlt
      go_wp2
      go_ret
      exact ⟨by rw [HT.out]; rfl, HB'.out⟩
end Go.Proofs.Ytlfghnngbljlhaa
