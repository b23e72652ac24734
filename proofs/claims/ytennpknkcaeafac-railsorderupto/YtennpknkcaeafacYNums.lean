/-
  Slices of numbers that a call owns; contract of the document's Same.
-/
import Derived.Test.YtennpknkcaeafacYWrong
import Derived.Test.YtennpknkcaeafacRMath
import Derived.Deep.QuietTactic
import Derived.BigQuiet
import Derived.Lib.OthersKept
import Derived.Lib.SmallJoins
import Derived.Maps.AppendAt
import Derived.Laws.AppendOwnNone
namespace Go.Proofs.Ytennpknkcaeafac
open Go.RowKit PK Sm

def nnums (l : List Nat) : List Value := l.map fun i => Value.int .i64 (i : Nat)
theorem nnums_length (l : List Nat) : (nnums l).length = l.length := by simp [nnums]
theorem nnums_append (l m : List Nat) : nnums (l ++ m) = nnums l ++ nnums m := by simp [nnums]
theorem nnums_one (l : List Nat) : ∀ u ∈ nnums l, u.oneCell' = true := fun u hu => by
  simp [nnums] at hu
  obtain ⟨i, _, rfl⟩ := hu
  rfl
/-- The slice v owns the numbers l, in blocks from B on. -/
def OwnsL (w : World) (B : Nat) (v : Value) (l : List Nat) : Prop := w.ownsRow B 3 1 v l.length (nnums l)
theorem OwnsL.nil (w : World) (B : Nat) : OwnsL w B (.slice none 0 0) [] := World.ownsRow_nil w B _ 1
theorem OwnsL.below {w w' : World} {B : Nat} {v : Value} {l : List Nat} (h : OwnsL w B v l) (hb : Below w.heap.size w w') : OwnsL w' B v l :=
  ⟨h.1, h.2.imp id fun ⟨g, cap, cur, a, b, c, d⟩ => ⟨g, cap, cur, a, b, (hb.block g (Array.getElem?_eq_some_iff.1 c).1).trans c, d⟩⟩
theorem OwnsL.form {w : World} {B : Nat} {v : Value} {l : List Nat} (h : OwnsL w B v l) : ∃ a c, v = .slice a l.length c := by
  rcases h.2 with ⟨rfl, h0⟩ | ⟨g', cap, cur, rfl, _⟩
  · exact ⟨none, 0, by rw [h0]⟩
  · exact ⟨_, _, rfl⟩
theorem OwnsL.nums {w : World} {B : Nat} {v : Value} {l : List Nat} (h : OwnsL w B v l) : NumsAt w v l.length (fun c => ((l.getD c 0 : Nat) : Int)) := by
  have hx := h
  rcases h.2 with ⟨rfl, h0⟩ | ⟨g, cap, cur, rfl, hbg, hg, hnc, hcm, hcs, htake⟩
  · exact ⟨none, 0, by rw [h0], by rw [h0]; decide, fun c hc => by omega⟩
  · refine ⟨some ⟨g, 0, none⟩, cap, rfl, by omega, fun c hc => ⟨g, 0, rfl, ?_⟩⟩
    have h1 : (nnums l)[c]? = some (.int .i64 ((l.getD c 0 : Nat) : Int)) := by simp [nnums, List.getD, hc]
    have := World.ownsRow.cells (g := g) hx rfl c _ h1
    have e : ((⟨g, 0, none⟩ : Addr).add c) = ⟨g, 0 + c, none⟩ := by unfold Addr.add; by_cases e0 : c = 0 <;> simp [e0]
    rw [e] at this
    exact this
theorem y_info_parts {P : Program} {e : TypeId} {z : Value} {b : Nat} (h : (P.info? e).map (fun i => (i.zero, i.size, i.bytes)) = some (some z, 1, b)) : ∃ i, P.info? e = some i ∧ i.zero = some z ∧ i.size = 1 ∧ i.bytes = b := by
  obtain ⟨i, hi, hzz⟩ := Option.map_eq_some_iff.1 h
  simp only [Prod.mk.injEq] at hzz
  exact ⟨i, hi, hzz.1, hzz.2.1, hzz.2.2⟩
set_option maxRecDepth 100000 in
set_option maxHeartbeats 1000000 in
theorem same_ok (u v : Value) (n : Nat) (hn : n ≤ 1048576) (f g : Nat → Int) (hfg : ∀ i, i < n → f i = g i) (w : World) (hu : NumsAt w u n f) (hv : NumsAt w v n g) :
    Calls Try.prog 10 #[u, v] w fun e w' => e = .returned (.bool true) ∧ Below w.heap.size w w' := by
  obtain ⟨a, ca, rfl, _, hca⟩ := hu
  obtain ⟨b, cb, rfl, _, hcb⟩ := hv
  have HA := (show Hid (∀ c, c < n → ∃ b o, a = some ⟨b, o, none⟩ ∧ w.cell? ⟨b, o + c, none⟩ = some (.int .i64 (f c))) from hca)
  have HB := (show Hid (∀ c, c < n → ∃ b' o, b = some ⟨b', o, none⟩ ∧ w.cell? ⟨b', o + c, none⟩ = some (.int .i64 (f c))) from fun c hc => by rw [hfg c hc]; exact hcb c hc)
  clear hca hcb hfg
  go_enter Try.func10, Try.ntmps10
  go_wp2
  go_loopw [13] (fun i W => ∃ m : Nat, m ≤ n ∧ i = .int .i64 m ∧ Below w.heap.size w W) (fun i _ => ((n : Int) - intOf i).toNat)
  case atStart => exact ⟨0, by omega, rfl, Below.refl _ _⟩
  case round =>
    obtain ⟨m, hm, rfl, hb⟩ := hrel
    by_cases hlt : m < n
    · obtain ⟨b1, o1, e1, h1⟩ := HA.out m hlt
      obtain ⟨b2, o2, e2, h2⟩ := HB.out m hlt
      subst e1 e2
      have c1 := (hb.cell (cell_block h1)).trans h1
      have c2 := (hb.cell (cell_block h2)).trans h2
      generalize f m = x at *
      clear h1 h2
      go_wp2_with fail
      go_quiet (fail)
      go_wp2
      go_roundw
      case rel => exact ⟨m + 1, by omega, by go_num, ⟨hb.os, hb.tape, hb.output, hb.size, hb.block⟩⟩
      case measure => simp [intOf] <;> omega
    · go_wp2
      go_ret
      exact ⟨rfl, hb⟩
end Go.Proofs.Ytennpknkcaeafac
