/-
  Contract of the document's Press (chapter 8), of any machine.
-/
import Derived.Test.YtpdjfjmfnmocmaeORPr
namespace Go.Proofs.Ytpdjfjmfnmocmae
open Go.RowKit PK Vg

set_option maxRecDepth 100000 in
set_option maxHeartbeats 1000000 in
theorem rpress_bad (a b c vk : Value) (rf pl : Nat → Int) (E : Int) (hE : (E != 0) = true) (w : World) (HW : Hid (∀ W, Below w.heap.size w W → Calls Try.prog 24 #[.agg (mac a b c rf pl)] W fun e w' => e = .returned (.int .i64 E) ∧ Below W.heap.size W w')) : Calls Try.prog 26 #[.agg (mac a b c rf pl), vk] w fun e w' => e = .returned (.tuple #[.slice none 0 0, .int .i64 E]) ∧ Below w.heap.size w w' := by
  have h0 := MgAt.new w a b c rf pl
  go_enter Try.func26, Try.ntmps26
  go_wp2_with (first | refine wpList_load_row rfl 52 _ rfl w.heap.size rfl 52 (mac a b c rf pl) (0, 0) _ h0.row Try.underlying52 rfl (by rw [mac_size]; exact v_info_mac) ?_)
  refine (HW.out _ h0.below).mono ?_
  rintro e W1 ⟨rfl, hb⟩
  have hbe := (h0.step hb).below
  clear hb h0 HW
  go_wp2
  go_ret2
  exact ⟨rfl, hbe⟩
/-- How many keys are pressed. -/
def prM (g : Gm) (m : Nat) : Nat := if gE g = 0 then m else 0
theorem rpress_any (vm vk : Value) (g : Gm) (m : Nat) (hmm : m ≤ 1000000000) (ks : Nat → Int) (w : World) (hm : MacAt w vm g) (hk : NumsAt w vk m ks) : Calls Try.prog 26 #[vm, vk] w fun e w' => ∃ v, e = .returned (.tuple #[v, .int .i64 (gE g)]) ∧ PrsAt w' v (prM g m) g.n (prL (maOf g) ks) (prE ks) (fun i => pst (maOf g) ks (i + 1)) (fun i => Om.now (maOf g) (pst (maOf g) ks (i + 1))) ∧ Below w.heap.size w w' := by
  have HW := fun W (hb : Below w.heap.size w W) => rgw_any vm g W (hm.below hb)
  unfold prM
  by_cases hg : gE g = 0
  · rw [hg] at HW
    rw [if_pos hg, hg]
    obtain ⟨hM, hmm2⟩ := ok_maOf hg
    exact rpress_ok (maOf g) hM vm vk m hmm ks w (hmm2 w vm hm) hk HW
  · rw [if_neg hg]
    obtain ⟨a, b, c, rfl, _⟩ := hm
    refine (rpress_bad a b c vk g.rf g.pl _ (by simpa using hg) w HW).mono ?_
    rintro e w' ⟨rfl, hb⟩
    exact ⟨_, rfl, ⟨none, 0, fun _ => .slice none 0 0, rfl, by decide, fun i hi => by omega, fun i hi => by omega⟩, hb⟩
end Go.Proofs.Ytpdjfjmfnmocmae
