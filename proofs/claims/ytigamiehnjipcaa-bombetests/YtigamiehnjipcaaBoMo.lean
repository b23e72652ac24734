/-
  Contract of (*menu).most.
-/
import Derived.Test.YtigamiehnjipcaaBoMe
namespace Go.Proofs.Ytigamiehnjipcaa
open Go.RowKit PK Vg

/-- A menu that is there. -/
def MnAt (W : World) (G : Nat) (L : Nat → List (Nat × Nat)) : Prop := ∃ vals, RowAt W G 116 (tab 26 vals) ∧ ∀ c, c < 26 → LinksAt W (vals c) (L c)
theorem MnAt.below {W W' : World} {G : Nat} {L : Nat → List (Nat × Nat)} (h : MnAt W G L) (hb : Below W.heap.size W W') : MnAt W' G L := by
  obtain ⟨vals, h1, h2⟩ := h
  exact ⟨vals, h1.below hb h1.lt, fun c hc => (h2 c hc).below hb⟩
theorem OnM.at {W : World} {G : Nat} {vals : Nat → Value} {L : Nat → List (Nat × Nat)} (h : OnM W G vals L) : MnAt W G L := ⟨vals, h.row, fun c hc => links_of (h.own c hc)⟩
theorem most_step_lt (f : Nat → Nat) {k : Nat} (hk : k < 26) : Bo.most f k < 26 := by
  rcases Bo.most_lt f k with h | h <;> omega
set_option maxRecDepth 100000 in
set_option maxHeartbeats 4000000 in
theorem bmost_any (G : Nat) (L : Nat → List (Nat × Nat)) (w : World) (hm : MnAt w G L) : Calls Try.prog 68 #[.pointer (some ⟨G, 0, none⟩)] w fun e w' => e = .returned (.int .i64 (Bo.most (fun c => (L c).length) 26 : Nat)) ∧ Below w.heap.size w w' := by
  obtain ⟨vals, hrow, hlk⟩ := hm
  have HLK := (show Hid _ from hlk)
  clear hlk
  obtain ⟨f, hf⟩ : ∃ f, f = fun c => (L c).length := ⟨_, rfl⟩
  have HF : Hid (∀ c, f c = (L c).length) := by rw [hf]; exact fun c => rfl
  rw [← hf]
  clear hf
  have HSUC := (show Hid (∀ k, Bo.most f (k + 1) = if f (Bo.most f k) < f k then k else Bo.most f k) from fun k => rfl)
  have HLT26 := (show Hid (∀ k, k < 26 → Bo.most f k < 26) from fun k hk => most_step_lt f hk)
  go_enter Try.func68, Try.ntmps68
  go_wp2_with fail
  go_loopw [3, 5] (fun o x W => ∃ k : Nat, k ≤ 26 ∧ x = .int .i64 (k : Nat) ∧ o = .int .i64 (Bo.most f k : Nat) ∧ Below w.heap.size w W) (fun _ x _ => ((26 : Int) - intOf x).toNat)
  case atStart => exact ⟨0, by omega, rfl, rfl, Below.refl _ _⟩
  case round =>
    obtain ⟨k, hk, rfl, rfl, hbe⟩ := hrel
    by_cases hlt : k < 26
    · have HLT : Hid (k < 26) := hlt
      have hlt2 : (k : Int) < 26 := by omega
      have hc0 := HLT26.out k hlt
      have hs := HSUC.out k
      obtain ⟨o, ho⟩ : ∃ o, o = Bo.most f k := ⟨_, rfl⟩
      rw [← ho] at hc0 hs ⊢
      have ho2 : (o : Int) < 26 := by omega
      obtain ⟨a1, c1, e1, _⟩ := HLK.out k hlt
      obtain ⟨a2, c2, e2, _⟩ := HLK.out o hc0
      rw [← HF.out] at e1 e2
      have hr := hrow.below hbe hrow.lt
      have d1 := hr.cell (tab_get vals hlt)
      have d2 := hr.cell (tab_get vals hc0)
      rw [e1] at d1
      rw [e2] at d2
      have HBE := (show Hid _ from hbe)
      clear hlt ho e1 e2 hbe hr
      generalize f k = x at *
      generalize f o = y at *
      by_cases hxy : y < x
      · have hxy2 : (y : Int) < (x : Int) := by omega
        have HM : Hid (Bo.most f (k + 1) = k) := by rw [Hid, hs, if_pos hxy]
        clear hs hxy
        go_upto_region 5 with fail
        go_quiet (fail)
        go_wp2
        go_roundw
        case rel => exact ⟨k + 1, HLT.out, by go_num, by rw [HM.out], HBE.out.trans ⟨rfl, rfl, rfl, Nat.le_refl _, fun _ _ => rfl⟩⟩
        case measure => have := HLT.out; simp [intOf]; omega
      · have hxy2 : ¬ (y : Int) < (x : Int) := by omega
        have HM : Hid (Bo.most f (k + 1) = o) := by rw [Hid, hs, if_neg hxy]
        clear hs hxy
        go_upto_region 5 with fail
        go_quiet (fail)
        go_wp2
        go_roundw
        case rel => exact ⟨k + 1, HLT.out, by go_num, by rw [HM.out], HBE.out.trans ⟨rfl, rfl, rfl, Nat.le_refl _, fun _ _ => rfl⟩⟩
        case measure => have := HLT.out; simp [intOf]; omega
    · obtain rfl : k = 26 := by omega
      have HBE := (show Hid _ from hbe)
      clear hlt hbe
      go_wp2
      go_ret
      exact ⟨rfl, HBE.out⟩
end Go.Proofs.Ytigamiehnjipcaa
