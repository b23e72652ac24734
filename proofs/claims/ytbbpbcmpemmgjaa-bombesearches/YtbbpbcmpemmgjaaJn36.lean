/-
  Several texts, joined: BGEq, LBAl, LBSo, BRGu.
-/
import Derived.Test.YtbbpbcmpemmgjaaJn29
import Derived.Test.YtbbpbcmpemmgjaaJn31
import Derived.Test.YtbbpbcmpemmgjaaJn34
import Derived.Test.YtbbpbcmpemmgjaaJn35
import Derived.Test.YtbbpbcmpemmgjaaBRCl
/-
  '==' between a guess and itself.
-/
namespace Go.Proofs.Ytbbpbcmpemmgjaa
open Go.RowKit PK Vg

theorem guess_held : (Try.prog).stoodInHeld 53 = false := by kernel_rfl
theorem eqg_gen (a b : Nat) (p : Nat → Int) (w : World) (d : Nat) : (Op.equalIn (d + 3) 53 (.agg (ints 28 (gsF a b p))) (.agg (ints 28 (gsF a b p)))).run Try.prog w = .ok true w := by
  have hs : (sizeOf 25).run Try.prog w = .ok 26 w := by
    obtain ⟨i, hi, hz⟩ := Option.map_eq_some_iff.1 info_perm
    simp [sizeOf, typeInfo, hi, hz]
  have e0 : ∀ z : Int, (Op.equalIn (d + 2) 3 (.int .i64 z) (.int .i64 z)).run Try.prog w = .ok true w := fun z => by
    rw [Op.equalIn]
    simp [Sem.run_bind, run_underlying Try.underlying3]
  have e2 : (Op.equalIn (d + 2) 25 (.agg (ints 26 p)) (.agg (ints 26 p))).run Try.prog w = .ok true w := by
    have := run_equalIn_ints (P := Try.prog) w d 25 3 26 Try.underlying25 Try.underlying3 info_int p p
    rw [eqI_refl] at this
    exact this
  have c0 : (ints 28 (gsF a b p))[0]? = some (.int .i64 (a : Nat)) := ints_get (gsF a b p) (by decide)
  have c1 : (ints 28 (gsF a b p))[1]? = some (.int .i64 (b : Nat)) := ints_get (gsF a b p) (by decide)
  have c2' : ((ints 28 (gsF a b p)).extract 2 28) = ints 26 p := by
    apply Array.ext_getElem?
    intro j
    by_cases hj : j < 26
    · rw [ints_get _ hj, Array.getElem?_extract, if_pos (by rw [ints_size]; omega), ints_get _ (by omega)]
      unfold gsF
      rw [if_neg (by omega), if_neg (by omega), show 2 + j - 2 = j by omega]
    · rw [Array.getElem?_eq_none (by simp [ints_size]; omega), Array.getElem?_eq_none (by simp [ints_size]; omega)]
  have hh := guess_held
  generalize ints 28 (gsF a b p) = cs at *
  generalize ints 26 p = c2 at *
  have hS : Try.prog.underlying 53 = some (.struct (Try.prog.fieldsOf 53)) := by kernel_rfl
  rw [run_equalIn_struct w (d + 2) 53 _ _ hS hh]
  simp only [Program.fieldsOf, Try.underlying53]
  clear hS hh
  go_simp
theorem run_eq_guess (a b : Nat) (p : Nat → Int) (w : World) : (Op.equalIn 10000 53 (.agg (ints 28 (gsF a b p))) (.agg (ints 28 (gsF a b p)))).run Try.prog w = .ok true w := eqg_gen a b p w 9997
end Go.Proofs.Ytbbpbcmpemmgjaa

/-
  Contract of law10.alive.
-/
namespace Go.Proofs.Ytbbpbcmpemmgjaa
open Go.RowKit PK Vg

end Go.Proofs.Ytbbpbcmpemmgjaa

/-
  BombeSound, over the contracts of Test and of the document's Scramblers.
-/
namespace Go.Proofs.Ytbbpbcmpemmgjaa
open Go.RowKit PK Vg

theorem tst_exists {g : Gm} {cr te : ByteArray} (h : bwE g cr.data.toList te.data.toList = 0) : ∃ A ok pr, Tst g cr te A ok pr := by
  obtain ⟨hm, _⟩ := mnu_ok h
  have hA := Bo.most_26 (fun c => (Bo.ml (mnu g cr te) c (mnu g cr te).k).length)
  have h1 : ∀ b : Nat, ∃ q : Bool × (Nat → Int), b < 26 → Bo.Res (mnu g cr te) (Bo.most (fun c => (Bo.ml (mnu g cr te) c (mnu g cr te).k).length) 26) b q.1 q.2 := fun b => by
    by_cases hb : b < 26
    · obtain ⟨o, p, hp⟩ := Bo.res_exists hm hA hb
      exact ⟨(o, p), fun _ => hp⟩
    · exact ⟨(false, fun _ => 0), fun h => absurd h hb⟩
  obtain ⟨q, hq⟩ := Classical.skolem.1 h1
  exact ⟨_, fun b => (q b).1, fun b => (q b).2, h, rfl, hq⟩
end Go.Proofs.Ytbbpbcmpemmgjaa

/-
  Contracts of the document's Guesses, Test and Same (chapter 10).
-/
namespace Go.Proofs.Ytbbpbcmpemmgjaa
open Go.RowKit PK Vg

set_option maxRecDepth 100000 in
set_option maxHeartbeats 8000000 in
theorem rguesses_run (m : Bo.Mn) (A : Nat) (ok : Nat → Bool) (pr : Nat → Nat → Int) (a b c : Value) (rf pl : Nat → Int) (cr te : ByteArray) (w : World)
    (HU : Hid (∀ W, Below w.heap.size w W → Calls Try.prog 71 #[.agg (mac a b c rf pl), .int .i64 (cr.size : Nat)] W fun e w' => ∃ v, e = .returned v ∧ KeysAt w' v m.k m.s ∧ Below W.heap.size W w'))
    (HMO : Hid (∀ W, Calls Try.prog 72 #[.string cr, .string te] W fun e w' => e = .returned (.int .i64 (A : Nat)) ∧ Below W.heap.size W w'))
    (HFO : Hid (∀ W vk, KeysAt W vk m.k m.s → ∀ k, k < 26 → Calls Try.prog 73 #[vk, .string cr, .string te, .int .i64 (A : Nat), .int .i64 (k : Nat)] W fun e w' => e = .returned (.tuple #[.agg (ints 26 (pr k)), .bool (ok k)]) ∧ Below W.heap.size W w')) : Calls Try.prog 37 #[.agg (mac a b c rf pl), .string cr, .string te] w fun e w' => ∃ v B, e = .returned v ∧ w.heap.size ≤ B ∧ OwnsG w' B v (fun b => gsF A b (pr b)) (okTo ok 26) ∧ Below w.heap.size w w' := by
  obtain ⟨i0, hi0, hz0, hz1, hz2⟩ := x_info_parts b_info_guess
  have h0 := MgAt.new w a b c rf pl
  go_enter Try.func37, Try.ntmps37
  go_wp2_with (first | refine wpList_load_row rfl 27 _ rfl w.heap.size rfl 27 (mac a b c rf pl) (0, 0) _ h0.row Try.underlying27 rfl (by rw [mac_size]; exact v_info_mac) ?_)
  refine (HU.out _ h0.below).mono ?_
  rintro e W1 ⟨vk, rfl, hks, hb⟩
  have hbw1 := h0.below.trans (hb.mono h0.below.size)
  obtain ⟨gk, ck, rfl, hkc⟩ := hks
  have HKS := (show Hid (KeysAt W1 (.slice (some ⟨gk, 0, none⟩) m.k ck) m.k m.s) from ⟨gk, ck, rfl, hkc⟩)
  clear hb h0 HU hkc
  go_wp2_with fail
  refine (HMO.out _).mono ?_
  rintro e V ⟨rfl, hb⟩
  have hbv := hbw1.trans (hb.mono hbw1.size)
  have HKV := (show Hid _ from KeysAt.below HKS.out hb)
  have HFV := (show Hid (∀ k, k < 26 → ∀ W', Below V.heap.size V W' → Calls Try.prog 73 #[.slice (some ⟨gk, 0, none⟩) m.k ck, .string cr, .string te, .int .i64 (A : Nat), .int .i64 (k : Nat)] W' fun e w' => e = .returned (.tuple #[.agg (ints 26 (pr k)), .bool (ok k)]) ∧ Below W'.heap.size W' w') from fun k hk W' hb' => HFO.out W' _ (KeysAt.below HKV.out hb') k hk)
  have HVW := (show Hid _ from hbv)
  clear hb hbw1 hbv HFO HMO HKS HKV
  go_wp2_with fail
  go_loopw [9, 10] (fun o i W => ∃ (k : Nat) (v : Value), k ≤ 26 ∧ i = .int .i64 (k : Nat) ∧ v = o ∧ OwnsG W V.heap.size v (fun b => gsF A b (pr b)) (okTo ok k) ∧ Below V.heap.size V W) (fun _ i _ => ((26 : Int) - intOf i).toNat)
  case atStart => exact ⟨0, _, by omega, rfl, rfl, World.ownsRow_nil _ _ _ _, Below.refl _ _⟩
  case round =>
    obtain ⟨k, v, hk, rfl, rfl, hown, hbe⟩ := hrel
    have HLN : Hid ((okTo ok k).length ≤ 26) := by have := ok_len ok k; rw [Hid]; omega
    by_cases hlt : k < 26
    case neg =>
      obtain rfl : k = 26 := by omega
      have HBE := (show Hid _ from hbe)
      have HOWN := (show Hid _ from hown)
      clear hlt hown hbe
      go_wp2
      go_ret
      exact ⟨v, V.heap.size, rfl, HVW.out.size, HOWN.out, HVW.out.trans (HBE.out.mono HVW.out.size)⟩
    have HLT : Hid (k < 26) := hlt
    have hlt2 : (k : Int) < 26 := by omega
    have HFK := (show Hid _ from HFV.out k hlt)
    have HBE := (show Hid _ from hbe)
    have HOWN := (show Hid _ from hown)
    have hzX := hbe.size
    clear hlt hown hbe
    go_wp2_with fail
    refine (HFK.out _ HBE.out).mono ?_
    rintro e W3 ⟨rfl, hb⟩
    have hown3 := own_step HOWN.out hb
    have hbe3 := HBE.out.trans (hb.mono HBE.out.size)
    clear hb HBE HOWN HFK
    have hz26 := o_zero v_zero_perm
    cases hok : ok k
    · have HOK := (show Hid (okTo ok (k + 1) = okTo ok k) from ok_no hok)
      have HOW : Hid (OwnsG ((W3.alloc (.cells (ints 26 fun _ => 0) 25)).setRow W3.heap.size (ints 26 (pr k))) V.heap.size v (fun b => gsF A b (pr b)) (okTo ok k)) := own_step hown3 (Below.setRow ((Below.refl W3.heap.size W3).alloc (Nat.le_refl _) (.cells (ints 26 fun _ => 0) 25)) W3.heap.size (Nat.le_refl _) (ints 26 (pr k)))
      have HBB : Hid (Below V.heap.size V ((W3.alloc (.cells (ints 26 fun _ => 0) 25)).setRow W3.heap.size (ints 26 (pr k)))) := Below.setRow (hbe3.alloc hbe3.size _) _ hbe3.size _
      clear hown3 hbe3 hok
      go_wp2_with (first | refine wpList_store_row rfl 25 _ _ rfl W3.heap.size (ints 26 (pr k)) rfl rfl 25 _ (RowAt.new W3 _ _) (by rw [ints_size]; exact info_perm) (by simp only [ints_size]) (ints_one _ _) ?_)
      go_roundw
      case rel => exact ⟨k + 1, v, HLT.out, by go_num, rfl, by rw [HOK.out]; exact HOW.out, HBB.out⟩
      case measure => have := HLT.out; simp [intOf]; omega
    · have HOK := (show Hid (okTo ok (k + 1) = okTo ok k ++ [k]) from ok_yes hok)
      clear hok
      go_upto_region 9 with (first | refine wpList_store_row rfl 25 _ _ rfl W3.heap.size (ints 26 (pr k)) rfl rfl 25 _ (RowAt.new W3 _ _) (by rw [ints_size]; exact info_perm) (by simp only [ints_size]) (ints_one _ _) ?_)
      have hr11 := (RowAt.new W3 25 (ints 26 fun _ => 0)).row (ints 26 (pr k))
      have hbx := Below.setRow ((Below.refl W3.heap.size W3).alloc (Nat.le_refl _) (.cells (ints 26 fun _ => 0) 25)) W3.heap.size (Nat.le_refl _) (ints 26 (pr k))
      have hownX := own_step hown3 hbx
      have hbeX := hbe3.trans (hbx.mono hbe3.size)
      generalize (W3.alloc (.cells (ints 26 fun _ => 0) 25)).setRow W3.heap.size (ints 26 (pr k)) = X at *
      obtain ⟨q11, hq⟩ : ∃ x, x = W3.heap.size := ⟨_, rfl⟩
      rw [← hq] at hr11 ⊢
      have hzX := hbeX.size
      clear hq hbx hown3 hbe3 hz26
      go_wp2_with (first | refine wpList_load_row rfl 25 _ rfl q11 rfl 25 (ints 26 (pr k)) (0, 0) _ hr11 Try.underlying25 rfl (by rw [ints_size]; exact info_perm) ?_ | refine wpList_buildA rfl 53 [(0, .tmp 35), (1, .tmp 36), (2, .tmp 37)] rfl [(0, .int .i64 (A : Nat)), (1, .int .i64 (k : Nat)), (2, .agg (ints 26 (pr k)))] rfl _ (built_guess A k (pr k)) ?_ | refine wpList_build1 rfl 49 53 _ rfl 28 (gsF A k (pr k)) rfl (by decide) Try.underlying49 b_zero_guess (by decide) ?_ | (at_builtin; refine wpList_append_own _ rfl _ _ 49 rfl V.heap.size 53 i0 (.agg (ints 28 fun _ => 0)) 28 224 Try.underlying49 hi0 hz0 hz1 hz2 (ints_size _ _) (by decide) _ _ _ rfl (World.ownsRow.alloc hownX _) ⟨X.heap.size, 0, none⟩ 1 1 (ints 28 (gsF A k (pr k))).toList rfl (by rw [Array.length_toList, ints_size]) (fun q u hu => by rw [Addr.add_mid, Nat.zero_add]; exact (RowAt.new X 53 (ints 28 (gsF A k (pr k)))).cell (by rw [← Array.getElem?_toList]; exact hu)) (fun u hu => all_one78 hu) (by have := HLN.out; unfold maxLen; omega) (by have := HLN.out; omega) (by simp; omega) ?_; intro v' w5 hown5 hgrow5 _))
      have HNX : Hid (OwnsG w5 V.heap.size v' (fun b => gsF A b (pr b)) (okTo ok k ++ [k])) := by
        rw [Hid, OwnsG, ← gl_snoc, List.length_append]
        exact hown5
      have HBN : Hid (Below V.heap.size V w5) := (hbeX.alloc hbeX.size _).grown hgrow5 (by simp; omega) (fun j hj => (World.ownsRow.lt hownX j hj).1)
      go_roundw
      case rel => exact ⟨k + 1, v', HLT.out, by go_num, rfl, by rw [HOK.out]; exact HNX.out, HBN.out⟩
      case measure => have := HLT.out; simp [intOf]; omega

set_option maxRecDepth 100000 in
set_option maxHeartbeats 4000000 in
theorem bsame_ok (u v : Value) (A : Nat) (pr : Nat → Nat → Int) (L : List Nat) (hL : L.length ≤ 1000) (w : World) (hu : GsAt w u (fun b => gsF A b (pr b)) L) (hv : GsAt w v (fun b => gsF A b (pr b)) L) : Calls Try.prog 38 #[u, v] w fun e w' => e = .returned (.bool true) ∧ Below w.heap.size w w' := by
  obtain ⟨a1, c1, rfl, h1⟩ := hu
  obtain ⟨a2, c2, rfl, h2⟩ := hv
  have H1 := (show Hid (∀ j, j < L.length → ∃ b, a1 = some ⟨b, 0, none⟩ ∧ w.rangeAt b (j * 28) (ints 28 (gsF A (L.getD j 0) (pr (L.getD j 0)))).toList) from h1)
  have H2 := (show Hid (∀ j, j < L.length → ∃ b, a2 = some ⟨b, 0, none⟩ ∧ w.rangeAt b (j * 28) (ints 28 (gsF A (L.getD j 0) (pr (L.getD j 0)))).toList) from h2)
  have hll : (((L.length : Nat) : Int) != ((L.length : Nat) : Int)) = false := by simp
  clear h1 h2
  go_enter Try.func38, Try.ntmps38
  go_wp2_with fail
  clear hll
  go_loopw [13] (fun i W => ∃ j : Nat, j ≤ L.length ∧ i = .int .i64 (j : Nat) ∧ Below w.heap.size w W) (fun i _ => ((L.length : Int) - intOf i).toNat)
  case atStart => exact ⟨0, by omega, rfl, Below.refl _ _⟩
  case round =>
    obtain ⟨j, hj, rfl, hbe⟩ := hrel
    have HBE := (show Hid _ from hbe)
    by_cases hlt : j < L.length
    · have HLT : Hid (j < L.length) := hlt
      have hlt2 : (j : Int) < (L.length : Int) := by omega
      obtain ⟨b1, rfl, r1⟩ := H1.out j hlt
      obtain ⟨b2, rfl, r2⟩ := H2.out j hlt
      obtain ⟨B, hB⟩ : ∃ B, B = L.getD j 0 := ⟨_, rfl⟩
      rw [← hB] at r1 r2
      obtain ⟨p, hp⟩ : ∃ p, p = pr B := ⟨_, rfl⟩
      rw [← hp] at r1 r2
      have hS0 : Below w.heap.size w wr.drew := hbe.drew
      have R1 := (show Hid (∀ W, Below w.heap.size w W → W.rangeAt b1 (j * 28) (ints 28 (gsF A B p)).toList) from fun W hb i v hv => (hb.cell (p := ⟨b1, j * 28 + i, none⟩) (cell_block (r1 i v hv))).trans (r1 i v hv))
      have R2 := (show Hid (∀ W, Below w.heap.size w W → W.rangeAt b2 (j * 28) (ints 28 (gsF A B p)).toList) from fun W hb i v hv => (hb.cell (p := ⟨b2, j * 28 + i, none⟩) (cell_block (r2 i v hv))).trans (r2 i v hv))
      clear hB hp r1 r2 hlt hbe
      go_upto_region 6 with fail
      refine wp_region_noPanic ?_
      refine wp_region_held_drew (S := fun W => Below w.heap.size w W) (by kernel_rfl) hS0 (fun hS => ?_)
      clear hS0
      obtain ⟨U, hU⟩ : ∃ x, x = wr.drew := ⟨_, rfl⟩
      rw [← hU] at hS ⊢
      clear hU
      refine vtake 0 16 (.slice (some ⟨b1, 0, none⟩) L.length c1) rfl rfl (by kernel_rfl) (by kernel_rfl) (by kernel_rfl) (fun _ _ _ _ h => h) (by rfl) (fun W hW => by clear hS hW; go_simp) hS ?_
      simp only [List.setIfInBounds_toArray, List.set_cons_succ, List.set_cons_zero]
      refine vtake 1 17 (.int .i64 (j : Nat)) rfl rfl (by kernel_rfl) (by kernel_rfl) (by kernel_rfl) (fun _ _ _ _ h => h) (by rfl) (fun W hW => by clear hS hW; go_simp) hS ?_
      simp only [List.setIfInBounds_toArray, List.set_cons_succ, List.set_cons_zero]
      refine vtake 2 18 (.pointer (some ⟨b1, j * 28, none⟩)) rfl rfl (by kernel_rfl) (by kernel_rfl) (by kernel_rfl) (fun _ _ _ _ h => h) (by rfl) (fun W hW => by clear hS hW; go_simp) hS ?_
      simp only [List.setIfInBounds_toArray, List.set_cons_succ, List.set_cons_zero]
      refine vtake 3 19 (.agg (ints 28 (gsF A B p))) rfl rfl (by kernel_rfl) (by kernel_rfl) (by kernel_rfl) (fun _ _ _ _ h => h) (by rfl) (fun W hW => by have u := run_loadAt_mid (P := Try.prog) W b1 (j * 28) 53 (ints 28 (gsF A B p)).toList _ (R1.out W hW) Try.underlying53 rfl (by rw [Array.length_toList, ints_size]; exact b_size_guess); clear hS hW; simp [execOp, Act.eval, u]) hS ?_
      simp only [List.setIfInBounds_toArray, List.set_cons_succ, List.set_cons_zero]
      refine vtake 4 20 (.slice (some ⟨b2, 0, none⟩) L.length c2) rfl rfl (by kernel_rfl) (by kernel_rfl) (by kernel_rfl) (fun _ _ _ _ h => h) (by rfl) (fun W hW => by clear hS hW; go_simp) hS ?_
      simp only [List.setIfInBounds_toArray, List.set_cons_succ, List.set_cons_zero]
      refine vtake 5 21 (.int .i64 (j : Nat)) rfl rfl (by kernel_rfl) (by kernel_rfl) (by kernel_rfl) (fun _ _ _ _ h => h) (by rfl) (fun W hW => by clear hS hW; go_simp) hS ?_
      simp only [List.setIfInBounds_toArray, List.set_cons_succ, List.set_cons_zero]
      refine vtake 6 22 (.pointer (some ⟨b2, j * 28, none⟩)) rfl rfl (by kernel_rfl) (by kernel_rfl) (by kernel_rfl) (fun _ _ _ _ h => h) (by rfl) (fun W hW => by clear hS hW; go_simp) hS ?_
      simp only [List.setIfInBounds_toArray, List.set_cons_succ, List.set_cons_zero]
      refine vtake 7 23 (.agg (ints 28 (gsF A B p))) rfl rfl (by kernel_rfl) (by kernel_rfl) (by kernel_rfl) (fun _ _ _ _ h => h) (by rfl) (fun W hW => by have u := run_loadAt_mid (P := Try.prog) W b2 (j * 28) 53 (ints 28 (gsF A B p)).toList _ (R2.out W hW) Try.underlying53 rfl (by rw [Array.length_toList, ints_size]; exact b_size_guess); clear hS hW; simp [execOp, Act.eval, u]) hS ?_
      simp only [List.setIfInBounds_toArray, List.set_cons_succ, List.set_cons_zero]
      refine vtake 8 24 (.bool false) rfl rfl (by kernel_rfl) (by kernel_rfl) (by kernel_rfl) (fun _ _ _ _ h => h) (by rfl) (fun W hW => by have u := run_eq_guess A B p; clear hS hW; go_simp) hS ?_
      simp only [List.setIfInBounds_toArray, List.set_cons_succ, List.set_cons_zero]
      refine wpAnyH_done (by kernel_rfl) ?_ _
      refine NoPanic.normal ?_
      have HX := (show Hid _ from hS)
      clear hS
      go_wp2_with fail
      go_roundw
      case rel => exact ⟨j + 1, HLT.out, by go_num, HX.out⟩
      case measure => have := HLT.out; simp [intOf]; omega
    · obtain rfl : j = L.length := by omega
      have hnn : ¬ ((L.length : Nat) : Int) < ((L.length : Nat) : Int) := by omega
      clear hlt hbe
      go_wp2
      go_ret
      exact ⟨rfl, HBE.out⟩
end Go.Proofs.Ytbbpbcmpemmgjaa
