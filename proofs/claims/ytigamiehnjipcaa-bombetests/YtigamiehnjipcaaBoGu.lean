/-
  Contracts of bombe.guesses and bombe.Test.
-/
import Derived.Test.YtigamiehnjipcaaJn6
import Derived.Test.YtigamiehnjipcaaBoFo
import Derived.Test.YtigamiehnjipcaaBoUn
import Derived.Test.YtigamiehnjipcaaBoWr
namespace Go.Proofs.Ytigamiehnjipcaa
open Go.RowKit PK Vg

set_option maxRecDepth 100000 in
set_option maxHeartbeats 8000000 in
theorem guesses_run (m : Bo.Mn) (hm : m.Ok) (hk32 : m.k ≤ 32) (A : Nat) (hA : A = Bo.most (fun c => (Bo.ml m c m.k).length) 26) (ok : Nat → Bool) (pr : Nat → Nat → Int) (hres : ∀ b, b < 26 → Bo.Res m A b (ok b) (pr b)) (a b c : Value) (rf pl : Nat → Int) (G : Nat) (w : World) (hmn : MnAt w G (fun c => Bo.ml m c m.k))
    (HU : Hid (∀ W, Below w.heap.size w W → Calls Try.prog 67 #[.agg (mac a b c rf pl), .int .i64 (m.k : Nat)] W fun e w' => ∃ q7, e = .returned (.slice (some ⟨q7, 0, none⟩) m.k m.k) ∧ W.heap.size ≤ q7 ∧ RowAt w' q7 25 (ints (m.k * 26) (flat m.s)) ∧ Below W.heap.size W w')) : Calls Try.prog 43 #[.agg (mac a b c rf pl), .pointer (some ⟨G, 0, none⟩), .int .i64 (m.k : Nat)] w fun e w' => ∃ v B, e = .returned v ∧ w.heap.size ≤ B ∧ OwnsG w' B v (fun b => gsF A b (pr b)) (okTo ok 26) ∧ Below w.heap.size w w' := by
  obtain ⟨i0, hi0, hz0, hz1, hz2⟩ := x_info_parts b_info_guess
  have h0 := MgAt.new w a b c rf pl
  have hA26 : A < 26 := by rw [hA]; exact Bo.most_26 _
  have HMO := (show Hid (∀ W, Below w.heap.size w W → Calls Try.prog 68 #[.pointer (some ⟨G, 0, none⟩)] W fun e w' => e = .returned (.int .i64 (A : Nat)) ∧ Below W.heap.size W w') from fun W hb => by rw [hA]; exact bmost_any G _ W (hmn.below hb))
  have HFO := (show Hid (∀ W, Below w.heap.size w W → ∀ vk, KeysAt W vk m.k m.s → ∀ k, k < 26 → ∀ W', Below W.heap.size W W' → Calls Try.prog 69 #[.pointer (some ⟨G, 0, none⟩), vk, .int .i64 (A : Nat), .int .i64 (k : Nat)] W' fun e w' => e = .returned (.tuple #[.agg (ints 26 (pr k)), .bool (ok k)]) ∧ Below W'.heap.size W' w') from fun W hb vk hvk k hk W' hb' => follow_any m hm hk32 A k hA26 hk (ok k) (pr k) (hres k hk) G vk W' (hmn.below (hb.trans (hb'.mono hb.size))) (hvk.below hb'))
  clear hmn hA hres hm
  go_enter Try.func43, Try.ntmps43
  go_wp2_with (first | refine wpList_load_row rfl 27 _ rfl w.heap.size rfl 27 (mac a b c rf pl) (0, 0) _ h0.row Try.underlying27 rfl (by rw [mac_size]; exact v_info_mac) ?_)
  refine (HU.out _ h0.below).mono ?_
  rintro e W1 ⟨q7, rfl, hq7, hkr, hb⟩
  have hbw1 := h0.below.trans (hb.mono h0.below.size)
  clear hb h0 HU hq7
  go_wp2_with fail
  refine (HMO.out _ hbw1).mono ?_
  rintro e V ⟨rfl, hb⟩
  have hbv := hbw1.trans (hb.mono hbw1.size)
  have HFV := (show Hid (∀ k, k < 26 → ∀ W', Below V.heap.size V W' → Calls Try.prog 69 #[.pointer (some ⟨G, 0, none⟩), .slice (some ⟨q7, 0, none⟩) m.k m.k, .int .i64 (A : Nat), .int .i64 (k : Nat)] W' fun e w' => e = .returned (.tuple #[.agg (ints 26 (pr k)), .bool (ok k)]) ∧ Below W'.heap.size W' w') from HFO.out V hbv _ (keys_of_row (hkr.below hb hkr.lt)))
  have HVW := (show Hid _ from hbv)
  clear hb hbw1 hbv hkr HFO HMO
  go_wp2_with fail
  go_loopw [9, 18] (fun o i W => ∃ (k : Nat) (v : Value), k ≤ 26 ∧ i = .int .i64 (k : Nat) ∧ v = o ∧ OwnsG W V.heap.size v (fun b => gsF A b (pr b)) (okTo ok k) ∧ Below V.heap.size V W) (fun _ i _ => ((26 : Int) - intOf i).toNat)
  case atStart => exact ⟨0, _, by omega, rfl, rfl, World.ownsRow_nil _ _ _ _, Below.refl _ _⟩
  case round =>
    obtain ⟨k, v, hk, rfl, rfl, hown, hbe⟩ := hrel
    have HLN : Hid ((okTo ok k).length ≤ 26) := by have := ok_len ok k; rw [Hid]; omega
    by_cases hlt : k < 26
    case neg =>
      obtain rfl : k = 26 := by omega
      have HBE := (show Hid _ from hbe)
      have HOWN := (show Hid _ from hown)
      clear hlt hown hbe
      go_wp2
      go_ret
      exact ⟨v, V.heap.size, rfl, HVW.out.size, HOWN.out, HVW.out.trans (HBE.out.mono HVW.out.size)⟩
    have HLT : Hid (k < 26) := hlt
    have hlt2 : (k : Int) < 26 := by omega
    have HFK := (show Hid _ from HFV.out k hlt)
    have HBE := (show Hid _ from hbe)
    have HOWN := (show Hid _ from hown)
    have hzX := hbe.size
    clear hlt hown hbe
    go_wp2_with fail
    refine (HFK.out _ HBE.out).mono ?_
    rintro e W3 ⟨rfl, hb⟩
    have hown3 := own_step HOWN.out hb
    have hbe3 := HBE.out.trans (hb.mono HBE.out.size)
    clear hb HBE HOWN HFK
    have hz26 := o_zero v_zero_perm
    cases hok : ok k
    · have HOK := (show Hid (okTo ok (k + 1) = okTo ok k) from ok_no hok)
      have HOW : Hid (OwnsG ((W3.alloc (.cells (ints 26 fun _ => 0) 25)).setRow W3.heap.size (ints 26 (pr k))) V.heap.size v (fun b => gsF A b (pr b)) (okTo ok k)) := own_step hown3 (Below.setRow ((Below.refl W3.heap.size W3).alloc (Nat.le_refl _) (.cells (ints 26 fun _ => 0) 25)) W3.heap.size (Nat.le_refl _) (ints 26 (pr k)))
      have HBB : Hid (Below V.heap.size V ((W3.alloc (.cells (ints 26 fun _ => 0) 25)).setRow W3.heap.size (ints 26 (pr k)))) := Below.setRow (hbe3.alloc hbe3.size _) _ hbe3.size _
      clear hown3 hbe3 hok
      go_wp2_with (first | refine wpList_store_row rfl 25 _ _ rfl W3.heap.size (ints 26 (pr k)) rfl rfl 25 _ (RowAt.new W3 _ _) (by rw [ints_size]; exact info_perm) (by simp only [ints_size]) (ints_one _ _) ?_)
      go_roundw
      case rel => exact ⟨k + 1, v, HLT.out, by go_num, rfl, by rw [HOK.out]; exact HOW.out, HBB.out⟩
      case measure => have := HLT.out; simp [intOf]; omega
    · have HOK := (show Hid (okTo ok (k + 1) = okTo ok k ++ [k]) from ok_yes hok)
      clear hok
      go_upto_region 8 with (first | refine wpList_store_row rfl 25 _ _ rfl W3.heap.size (ints 26 (pr k)) rfl rfl 25 _ (RowAt.new W3 _ _) (by rw [ints_size]; exact info_perm) (by simp only [ints_size]) (ints_one _ _) ?_)
      have hr11 := (RowAt.new W3 25 (ints 26 fun _ => 0)).row (ints 26 (pr k))
      have hbx := Below.setRow ((Below.refl W3.heap.size W3).alloc (Nat.le_refl _) (.cells (ints 26 fun _ => 0) 25)) W3.heap.size (Nat.le_refl _) (ints 26 (pr k))
      have hownX := own_step hown3 hbx
      have hbeX := hbe3.trans (hbx.mono hbe3.size)
      generalize (W3.alloc (.cells (ints 26 fun _ => 0) 25)).setRow W3.heap.size (ints 26 (pr k)) = X at *
      obtain ⟨q11, hq⟩ : ∃ x, x = W3.heap.size := ⟨_, rfl⟩
      rw [← hq] at hr11 ⊢
      have hzX := hbeX.size
      clear hq hbx hown3 hbe3 hz26
      go_wp2_with (first | refine wpList_load_row rfl 25 _ rfl q11 rfl 25 (ints 26 (pr k)) (0, 0) _ hr11 Try.underlying25 rfl (by rw [ints_size]; exact info_perm) ?_ | refine wpList_buildA rfl 54 [(0, .tmp 31), (1, .tmp 32), (2, .tmp 33)] rfl [(0, .int .i64 (A : Nat)), (1, .int .i64 (k : Nat)), (2, .agg (ints 26 (pr k)))] rfl _ (built_guess A k (pr k)) ?_ | refine wpList_build1 rfl 47 54 _ rfl 28 (gsF A k (pr k)) rfl (by decide) Try.underlying47 b_zero_guess (by decide) ?_ | (at_builtin; refine wpList_append_own _ rfl _ _ 47 rfl V.heap.size 54 i0 (.agg (ints 28 fun _ => 0)) 28 224 Try.underlying47 hi0 hz0 hz1 hz2 (ints_size _ _) (by decide) _ _ _ rfl (World.ownsRow.alloc hownX _) ⟨X.heap.size, 0, none⟩ 1 1 (ints 28 (gsF A k (pr k))).toList rfl (by rw [Array.length_toList, ints_size]) (fun q u hu => by rw [Addr.add_mid, Nat.zero_add]; exact (RowAt.new X 54 (ints 28 (gsF A k (pr k)))).cell (by rw [← Array.getElem?_toList]; exact hu)) (fun u hu => all_one78 hu) (by have := HLN.out; unfold maxLen; omega) (by have := HLN.out; omega) (by simp; omega) ?_; intro v' w5 hown5 hgrow5 _))
      have HNX : Hid (OwnsG w5 V.heap.size v' (fun b => gsF A b (pr b)) (okTo ok k ++ [k])) := by
        rw [Hid, OwnsG, ← gl_snoc, List.length_append]
        exact hown5
      have HBN : Hid (Below V.heap.size V w5) := (hbeX.alloc hbeX.size _).grown hgrow5 (by simp; omega) (fun j hj => (World.ownsRow.lt hownX j hj).1)
      go_roundw
      case rel => exact ⟨k + 1, v', HLT.out, by go_num, rfl, by rw [HOK.out]; exact HNX.out, HBN.out⟩
      case measure => have := HLT.out; simp [intOf]; omega

theorem menu_of {cr te : ByteArray} {g : Gm} {S : Nat → Nat → Nat} (h : bwE g cr.data.toList te.data.toList = 0) : MenuOf ⟨cr.size, fun i => num (cr.data.toList.getD i 0), fun i => num (te.data.toList.getD i 0), S⟩ cr te := by
  obtain ⟨_, h2, h3, h4, h5, h6, _⟩ := bwE_zero h
  have s1 := Pl.size_len cr
  have s2 := Pl.size_len te
  have one : ∀ s : ByteArray, ckE s.data.toList = 0 → ∀ i, i < s.size → num (s.data.toList.getD i 0) < 26 ∧ ∀ h : i < s.size, (s[i].toNat : Int) = (num (s.data.toList.getD i 0) : Int) + 65 := fun s hs i hi => by
    rcases ck_cases s.data.toList with ⟨_, _, _, e4⟩ | e1
    · have hx := (ls_of e4).at (getD_size hi)
      refine ⟨num_lt hx, fun _ => ?_⟩
      rw [← getD_byte s i hi]
      unfold num
      omega
    · rw [hs] at e1; cases e1
  exact ⟨rfl, by omega, by omega, fun i hi => one cr h2 i hi, fun i hi => one te h3 i (by have h7 : i < cr.size := hi; omega)⟩
/-- The menu of a machine, a crib and what it became. -/
def mnu (g : Gm) (cr te : ByteArray) : Bo.Mn := ⟨cr.size, fun i => num (cr.data.toList.getD i 0), fun i => num (te.data.toList.getD i 0), chE (Om.unplugged (maOf g))⟩
theorem mnu_ok {g : Gm} {cr te : ByteArray} (h : bwE g cr.data.toList te.data.toList = 0) : (mnu g cr te).Ok ∧ (mnu g cr te).k ≤ 32 := by
  have hm := menu_of (S := chE (Om.unplugged (maOf g))) h
  have hM := Om.ok_unplugged (ok_maOf (bwE_zero h).1).1
  exact ⟨⟨fun i hi => (hm.x i hi).1, fun i hi => (hm.y i hi).1, fun i _ c hc => (Om.now_perm hM _).lt _ hc⟩, hm.le⟩
/-- What Test says. -/
structure Tst (g : Gm) (cr te : ByteArray) (A : Nat) (ok : Nat → Bool) (pr : Nat → Nat → Int) : Prop where
  e : bwE g cr.data.toList te.data.toList = 0
  a : A = Bo.most (fun c => (Bo.ml (mnu g cr te) c (mnu g cr te).k).length) 26
  res : ∀ b, b < 26 → Bo.Res (mnu g cr te) A b (ok b) (pr b)
end Go.Proofs.Ytigamiehnjipcaa
