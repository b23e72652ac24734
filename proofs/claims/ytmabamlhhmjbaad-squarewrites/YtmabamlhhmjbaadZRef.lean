/-
  Contracts of the document's Has, place, Filler and Laid.
-/
import Derived.Test.YtmabamlhhmjbaadZMv
namespace Go.Proofs.Ytmabamlhhmjbaad
open Go.RowKit PK Vg Zq

/-- v is a slice of the bytes l. -/
def BtsAt (w : World) (v : Value) (l : List UInt8) : Prop :=
  ∃ (a : Option Addr) (cap : Nat), v = .slice a l.length cap ∧ ∀ j, j < l.length → ∃ b o, a = some ⟨b, o, none⟩ ∧ w.cell? ⟨b, o + j, none⟩ = some (.int .u8 (l.getD j 0).toNat)
theorem BtsAt.below {w w' : World} {v : Value} {l : List UInt8} (h : BtsAt w v l) (hb : Below w.heap.size w w') : BtsAt w' v l := by
  obtain ⟨a, cap, h1, h3⟩ := h
  refine ⟨a, cap, h1, fun c hc => ?_⟩
  obtain ⟨b, o, e, hcell⟩ := h3 c hc
  exact ⟨b, o, e, (hb.cell (p := ⟨b, o + c, none⟩) (cell_block hcell)).trans hcell⟩
theorem BtsAt.form {w : World} {v : Value} {l : List UInt8} (h : BtsAt w v l) (hn : 0 < l.length) : ∃ b o cap, v = .slice (some ⟨b, o, none⟩) l.length cap ∧ ∀ j, j < l.length → w.cell? ⟨b, o + j, none⟩ = some (.int .u8 (l.getD j 0).toNat) := by
  obtain ⟨a, cap, h1, h3⟩ := h
  obtain ⟨b, o, e, _⟩ := h3 0 hn
  subst e
  refine ⟨b, o, cap, h1, fun j hj => ?_⟩
  obtain ⟨b', o', e', hcell⟩ := h3 j hj
  cases e'
  exact hcell
theorem BtsAt.of_own {w : World} {B : Nat} {e : TypeId} {v : Value} {l : List UInt8} (h : Kit.Owns w B e v l) : BtsAt w v l := by
  by_cases h0 : 0 < l.length
  · obtain ⟨g, cap, rfl, hc⟩ := own_form h rfl h0
    exact ⟨_, cap, rfl, fun j hj => ⟨g, 0, rfl, by rw [Nat.zero_add]; exact hc j hj⟩⟩
  · have : l = [] := List.eq_nil_of_length_eq_zero (by omega)
    subst this
    rcases h.2 with ⟨rfl, _⟩ | ⟨g, cap, cur, rfl, _⟩
    · exact ⟨_, 0, rfl, fun j hj => by simp at hj⟩
    · exact ⟨_, cap, rfl, fun j hj => by simp at hj⟩
theorem mem_getD {l : List UInt8} {c : UInt8} : c ∈ l ↔ ∃ j, j < l.length ∧ l.getD j 0 = c := by
  constructor
  · intro h
    obtain ⟨j, hj, e⟩ := List.getElem_of_mem h
    exact ⟨j, hj, by rw [getD_some hj]; exact e⟩
  · rintro ⟨j, hj, e⟩
    rw [← e, getD_some hj]
    exact List.getElem_mem _
theorem u8_beq (a b : UInt8) : ((a.toNat : Int) == (b.toNat : Int)) = decide (a = b) := by
  by_cases h : a = b
  · subst h; simp
  · have : a.toNat ≠ b.toNat := fun e => h (UInt8.toNat_inj.1 e)
    simp [h]; omega
set_option maxRecDepth 100000 in
set_option maxHeartbeats 1000000 in
theorem has_any (v : Value) (l : List UInt8) (hl : l.length ≤ 1000000) (c : UInt8) (w : World) (h : BtsAt w v l) : Calls Try.prog 51 #[v, .int .u8 c.toNat] w fun e w' => e = .returned (.bool (decide (c ∈ l))) ∧ w = w' := by
  by_cases h0 : 0 < l.length
  · obtain ⟨b, o, cap, rfl, hc⟩ := h.form h0
    have HC : Hid (∀ j, j < l.length → w.cell? ⟨b, o + j, none⟩ = some (.int .u8 (l.getD j 0).toNat)) := hc
    clear hc h
    generalize hD : decide (c ∈ l) = D
    have HD : Hid (decide (c ∈ l) = D) := hD
    clear hD h0
    go_enter Try.func51, Try.ntmps51
    go_wp2_with fail
    go_loopw [9] (fun i W => ∃ k : Nat, k ≤ l.length ∧ i = .int .i64 (k : Nat) ∧ Hid (∀ j, j < k → l.getD j 0 ≠ c) ∧ w = W) (fun i _ => ((l.length : Int) - intOf i).toNat)
    case atStart => exact ⟨0, by omega, rfl, fun j hj => by omega, rfl⟩
    case round =>
      obtain ⟨k, hk, rfl, HA, rfl⟩ := hrel
      by_cases hlt : k < l.length
      · have hlt2 : (k : Int) < (l.length : Int) := by omega
        have hck := HC.out k hlt
        by_cases hx : l.getD k 0 = c
        · have HT : Hid (D = true) := by rw [Hid, ← HD.out]; simpa using mem_getD.2 ⟨k, hlt, hx⟩
          rw [hx] at hck
          go_wp2
          go_ret
          exact ⟨by rw [HT.out]; rfl, rfl⟩
        · have hne := u8_beq (l.getD k 0) c
          rw [decide_eq_false hx] at hne
          have HN : Hid (∀ j, j < k + 1 → l.getD j 0 ≠ c) := fun j hj => by
            by_cases e : j = k
            · rw [e]; exact hx
            · exact HA.out j (by omega)
          generalize l.getD k 0 = x at *
          clear hx
          go_wp2_with fail
          go_roundw
          case rel => exact ⟨k + 1, by omega, by go_num, HN.out, by first | rfl | trivial⟩
          case measure => simp [intOf]; omega
      · have HT : Hid (D = false) := by
          rw [Hid, ← HD.out]
          refine decide_eq_false fun hm => ?_
          obtain ⟨j, hj, e⟩ := mem_getD.1 hm
          exact HA.out j (by omega) e
        go_wp2
        go_ret
        exact ⟨by rw [HT.out]; rfl, rfl⟩
  · have e : l = [] := List.eq_nil_of_length_eq_zero (by omega)
    subst e
    obtain ⟨a, cap, rfl, _⟩ := h
    go_enter Try.func51, Try.ntmps51
    go_wp2_with fail
    refine wp_loop_rounds 1 ?_
    rw [rounds_succ]
    go_wp2
    go_ret
    exact ⟨rfl, rfl⟩
set_option maxRecDepth 100000 in
set_option maxHeartbeats 1000000 in
theorem place_any (v : Value) (l : List UInt8) (hl : l.length ≤ 1000000) (c : UInt8) (hm : c ∈ l) (w : World) (h : BtsAt w v l) : Calls Try.prog 53 #[v, .int .u8 c.toNat] w fun e w' => e = .returned (.tuple #[.int .i64 ((at' l c / 5 : Nat) : Int), .int .i64 ((at' l c % 5 : Nat) : Int)]) ∧ w = w' := by
  have hat := Zq.at_lt hm
  have hag := at_get hm
  obtain ⟨b, o, cap, rfl, hc⟩ := h.form (by omega)
  have HC : Hid (∀ j, j < l.length → w.cell? ⟨b, o + j, none⟩ = some (.int .u8 (l.getD j 0).toNat)) := hc
  have HF : Hid (∀ j, j < at' l c → l.getD j 0 ≠ c) := fun j hj e => by
    rw [getD_some (by omega)] at e
    have := List.not_of_lt_findIdx hj
    simp at this
    exact this (by simpa using e)
  have HG : Hid (l.getD (at' l c) 0 = c) := hag
  clear hc h hag hm
  generalize at' l c = A at *
  have HR : Hid (Ending.returned (.tuple #[.int .i64 ((A / 5 : Nat) : Int), .int .i64 ((A % 5 : Nat) : Int)]) = Ending.returned (.tuple #[.int .i64 ((A / 5 : Nat) : Int), .int .i64 ((A % 5 : Nat) : Int)])) := rfl
  go_enter Try.func53, Try.ntmps53
  go_wp2_with fail
  go_loopw [10] (fun i W => ∃ k : Nat, k ≤ A ∧ i = .int .i64 (k : Nat) ∧ w = W) (fun i _ => ((l.length : Int) - intOf i).toNat)
  case atStart => exact ⟨0, by omega, rfl, rfl⟩
  case round =>
    obtain ⟨k, hk, rfl, rfl⟩ := hrel
    have hlt : k < l.length := by omega
    have hlt2 : (k : Int) < (l.length : Int) := by omega
    have hck := HC.out k hlt
    by_cases hx : k = A
    · subst hx
      rw [HG.out] at hck
      go_wp2
      exact bodyPost_ret (v := .tuple #[.int .i64 ((k / 5 : Nat) : Int), .int .i64 ((k % 5 : Nat) : Int)]) (by simp [results, Try.results53, go_sem]) rfl ⟨rfl, rfl⟩
    · have hne := u8_beq (l.getD k 0) c
      rw [decide_eq_false (HF.out k (by omega))] at hne
      generalize l.getD k 0 = x at *
      go_wp2_with fail
      go_roundw
      case rel => exact ⟨k + 1, by omega, by go_num, by first | rfl | trivial⟩
      case measure => simp [intOf]; omega
set_option maxHeartbeats 400000 in
theorem rfiller_any (c : UInt8) (w : World) : Calls Try.prog 41 #[.int .u8 c.toNat] w fun e w' => e = .returned (.string ⟨#[fil c]⟩) ∧ w = w' := by
  unfold fil
  by_cases h : c = 88
  · subst h
    rw [if_pos rfl]
    go_enter Try.func41, Try.ntmps41
    go_wp2
    go_ret
    exact ⟨rfl, rfl⟩
  · rw [if_neg h]
    have h1 : ((c.toNat : Int) == 88) = false := by have := u8_eq (c := c) (n := 88) (by omega); rw [show ((88 : Nat) : Int) = 88 from rfl] at this; rw [this]; simpa using h
    clear h
    go_enter Try.func41, Try.ntmps41
    go_wp2
    go_ret
    exact ⟨rfl, rfl⟩
end Go.Proofs.Ytmabamlhhmjbaad
