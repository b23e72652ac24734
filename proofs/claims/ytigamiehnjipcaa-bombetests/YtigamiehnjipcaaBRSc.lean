/-
  Contract of the document's Scramblers (chapter 10).
-/
import Derived.Test.YtigamiehnjipcaaBoUn
import Derived.Test.YtigamiehnjipcaaBoFo
import Derived.Test.YtigamiehnjipcaaJn12
import Derived.Test.YtigamiehnjipcaaOPl
namespace Go.Proofs.Ytigamiehnjipcaa
open Go.RowKit PK Vg

theorem flat_snoc (S : Nat → Nat → Nat) (j : Nat) : (ints (j * 26) (flat S)).toList ++ (ints 26 (Pm.up (S j))).toList = (ints ((j + 1) * 26) (flat S)).toList := by
  rw [← Array.toList_append]
  refine congrArg Array.toList ?_
  apply Array.ext_getElem?
  intro i
  by_cases h1 : i < j * 26
  · rw [Array.getElem?_append_left (by rw [ints_size]; exact h1), ints_get _ h1, ints_get _ (by omega)]
  · rw [Array.getElem?_append_right (by rw [ints_size]; omega), ints_size]
    by_cases h2 : i < (j + 1) * 26
    · rw [ints_get _ (by omega), ints_get _ h2]
      unfold flat Pm.up
      rw [show i / 26 = j by omega, show i % 26 = i - j * 26 by omega]
    · rw [Array.getElem?_eq_none (by rw [ints_size]; omega), Array.getElem?_eq_none (by rw [ints_size]; omega)]
theorem keys_of_own {W : World} {B k : Nat} {v : Value} {S : Nat → Nat → Nat} (h : W.ownsRow B 25 26 v k (ints (k * 26) (flat S)).toList) (hk : k ≠ 0) : KeysAt W v k S := by
  rcases h.2 with ⟨_, h0⟩ | ⟨g, cap, cur, rfl, hB, hg, hnc, hcm, hcs, htake⟩
  · exact absurd h0 hk
  · refine ⟨g, cap, rfl, fun i c hi hc => ?_⟩
    refine RowAt.cell (w := W) (b := g) (T := 25) hg ?_
    have h2 : (ints (k * 26) (flat S)).toList[i * 26 + c]? = some (.int .i64 (S i c : Nat)) := by
      rw [Array.getElem?_toList, ints_get _ (by omega)]
      unfold flat
      rw [show (i * 26 + c) / 26 = i by omega, show (i * 26 + c) % 26 = c by omega]
    rw [← htake, List.getElem?_take_of_lt (by omega)] at h2
    simpa using h2
/-- What Scramblers holds. -/
structure ScS (w W : World) (a b c v : Value) (rf pl : Nat → Int) (j : Nat) (S : Nat → Nat → Nat) : Prop where
  mg : MgAt w W a b c rf pl
  own : W.ownsRow (w.heap.size + 1) 25 26 v j (ints (j * 26) (flat S)).toList
set_option maxRecDepth 100000 in
set_option maxHeartbeats 4000000 in
theorem rscr_run (S : Nat → Nat → Nat) (n : Nat) (hn : n ≤ 65536) (a b c : Value) (rf pl : Nat → Int) (w : World) (HAT : Hid (∀ W (k : Nat) (z : Int), z = ((k + 1 : Nat) : Int) → k < n → Below w.heap.size w W → Calls Try.prog 32 #[.agg (mac a b c rf (Pm.up fun i => i)), .int .i64 z] W fun e w' => e = .returned (.agg (ints 26 (Pm.up (S k)))) ∧ Below W.heap.size W w')) : Calls Try.prog 25 #[.agg (mac a b c rf pl), .int .i64 (n : Nat)] w fun e w' => ∃ v, e = .returned v ∧ w'.ownsRow (w.heap.size + 1) 25 26 v n (ints (n * 26) (flat S)).toList ∧ Below w.heap.size w w' := by
  obtain ⟨i0, hi0, hz0, hz1, hz2⟩ := x_info_parts b_info_perm
  have h0 := MgAt.new w a b c rf pl
  have HS := (show Hid (∀ W, Calls Try.prog 52 #[.int .i64 0] W fun e w' => e = .returned (.agg (ints 26 (Pm.up fun i => i))) ∧ Below W.heap.size W w') from fun W => by
    have := rturned_any 0 (by decide) (by decide) W
    rw [ints_ext (g := Pm.up fun i => i) fun i hi => by show ((i : Int) + 0) % 26 = ((i : Nat) : Int); omega] at this
    exact this)
  go_enter Try.func25, Try.ntmps25
  go_wp2_with fail
  refine (HS.out _).mono ?_
  rintro e W1 ⟨rfl, hb⟩
  have h1 := h0.step hb
  clear hb h0 HS
  have hth := there_row h1.row (o := 29) (n := 26) (by rw [mac_size]; decide)
  go_upto_region 2 with (first | refine wpList_store_mid rfl 25 _ _ rfl w.heap.size 29 (ints 26 (Pm.up fun i => i)) rfl rfl (by rw [ints_size]; exact hth) (by rw [ints_size]; exact info_perm) (ints_one _ _) ?_)
  have h2 : MgAt w (W1.setCells w.heap.size 29 (ints 26 (Pm.up fun i => i)).toList) a b c rf (Pm.up fun i => i) := by
    refine ⟨?_, below_setCells (Nat.le_refl _) h1.below⟩
    have := row_setCells (l := (ints 26 (Pm.up fun i => i)).toList) (o := 29) h1.row
    rw [mac_plugs] at this
    exact this
  generalize W1.setCells w.heap.size 29 (ints 26 (Pm.up fun i => i)).toList = V1 at *
  clear h1 hth
  go_wp2_with fail
  go_loopw [5, 6] (fun o i W => ∃ (j : Nat) (v : Value), j ≤ n ∧ i = .int .i64 ((j : Int) + 1) ∧ v = o ∧ ScS w W a b c v rf (Pm.up fun i => i) j S) (fun _ i _ => ((n : Int) + 1 - intOf i).toNat)
  case atStart => exact ⟨0, _, by omega, rfl, rfl, h2, World.ownsRow_nil _ _ _ _⟩
  case round =>
    clear h2
    obtain ⟨j, v, hj, rfl, rfl, hg⟩ := hrel
    by_cases hlt : j < n
    · have HLT : Hid (j < n) := hlt
      have hlt2 : (j : Int) + 1 ≤ (n : Int) := by omega
      have hmr := hg.mg.row
      have HG := (show Hid _ from hg)
      clear hg hlt
      go_wp2_with (first | refine wpList_load_row rfl 27 _ rfl w.heap.size rfl 27 (mac a b c rf (Pm.up fun i => i)) (0, 0) _ hmr Try.underlying27 rfl (by rw [mac_size]; exact v_info_mac) ?_)
      refine (HAT.out _ j _ (by omega) HLT.out HG.out.mg.below).mono ?_
      rintro e X ⟨rfl, hb⟩
      have hmX := HG.out.mg.step hb
      have hown := own_step HG.out.own hb
      have hlX := hmX.lt
      clear hb hmr HG
      go_wp2_with (first | refine wpList_build1 rfl 57 25 _ rfl 26 (Pm.up (S j)) rfl (by decide) Try.underlying57 zero_perm (by decide) ?_ | (at_builtin; refine wpList_append_own _ rfl _ _ 57 rfl (w.heap.size + 1) 25 i0 (.agg (ints 26 fun _ => 0)) 26 208 Try.underlying57 hi0 hz0 hz1 hz2 (ints_size _ _) (by decide) _ _ _ rfl (World.ownsRow.alloc hown _) ⟨X.heap.size, 0, none⟩ 1 1 (ints 26 (Pm.up (S j))).toList rfl (by rw [Array.length_toList, ints_size]) (fun q u hu => by rw [Addr.add_mid, Nat.zero_add]; exact (RowAt.new X 25 (ints 26 (Pm.up (S j)))).cell (by rw [← Array.getElem?_toList]; exact hu)) (fun u hu => all_one78 hu) (by unfold maxLen; omega) (by omega) (by simp; omega) ?_; intro v' w5 hown5 hgrow5 _))
      have HNX : Hid (ScS w w5 a b c v' rf (Pm.up fun i => i) (j + 1) S) := by
        have ha := hmX.alloc (.cells (ints 26 (Pm.up (S j))) 25)
        refine ⟨⟨(hgrow5.block w.heap.size (by simp; omega) (fun e => by have := (World.ownsRow.lt hown _ e.symm).1; omega)).trans ha.row, ha.below.grown hgrow5 ha.below.size (fun q hq => by have := (World.ownsRow.lt hown q hq).1; omega)⟩, ?_⟩
        rw [← flat_snoc]
        exact hown5
      go_roundw
      case rel => exact ⟨j + 1, v', HLT.out, by go_num, rfl, HNX.out⟩
      case measure => have := HLT.out; simp [intOf]; omega
    · obtain rfl : j = n := by omega
      have hnn : ¬ (j : Int) + 1 ≤ (j : Int) := by omega
      have HOWN := (show Hid _ from hg.own)
      have HBE := (show Hid _ from hg.mg.below)
      clear hg hlt
      go_wp2
      go_ret
      exact ⟨v, rfl, HOWN.out, HBE.out⟩
theorem rscr_any (vm : Value) (g : Gm) (hg : gE g = 0) (n : Nat) (hn : n ≤ 1000) (w : World) (hm : MacAt w vm g) : Calls Try.prog 25 #[vm, .int .i64 (n : Nat)] w fun e w' => ∃ v, e = .returned v ∧ w'.ownsRow (w.heap.size + 1) 25 26 v n (ints (n * 26) (flat (chE (Om.unplugged (maOf g))))).toList ∧ Below w.heap.size w w' := by
  have hbg := gE_bare hg
  obtain ⟨hM, hgo⟩ := ok_maOf hbg
  obtain ⟨a, b, c, rfl, m1, m2, m3⟩ := hm
  have HA := fun W (hb : Below w.heap.size w W) => hgo W (.agg (mac a b c g.rf (Pm.up fun i => i))) ⟨a, b, c, rfl, m1.below hb, m2.below hb, m3.below hb⟩
  refine rscr_run (chE (Om.unplugged (maOf g))) n (by omega) a b c g.rf g.pl w (fun W k z hz hk hb => ?_)
  subst hz
  exact rat_any (maOf (bare g)) hM _ (k + 1) (by omega) W (HA W hb)
end Go.Proofs.Ytigamiehnjipcaa
