/-
  Several texts, joined: BGEq, LBAl, LBSo, BRGu, FgE.
-/
import Derived.Test.YtbbpbcmpemmgjaaJn29
import Derived.Test.YtbbpbcmpemmgjaaJn31
import Derived.Test.YtbbpbcmpemmgjaaJn34
import Derived.Test.YtbbpbcmpemmgjaaJn35
import Derived.Test.YtbbpbcmpemmgjaaBRCl
import Derived.Test.YtbbpbcmpemmgjaaFgC
/-
  '==' between a guess and itself.
-/
namespace Go.Proofs.Ytbbpbcmpemmgjaa
open Go.RowKit PK Vg

theorem guess_held : (Try.prog).stoodInHeld 53 = false := by kernel_rfl
theorem eqg_gen (a b : Nat) (p : Nat → Int) (w : World) (d : Nat) : (Op.equalIn (d + 3) 53 (.agg (ints 28 (gsF a b p))) (.agg (ints 28 (gsF a b p)))).run Try.prog w = .ok true w := by
  have hs : (sizeOf 25).run Try.prog w = .ok 26 w := by
    obtain ⟨i, hi, hz⟩ := Option.map_eq_some_iff.1 info_perm
    simp [sizeOf, typeInfo, hi, hz]
  have e0 : ∀ z : Int, (Op.equalIn (d + 2) 3 (.int .i64 z) (.int .i64 z)).run Try.prog w = .ok true w := fun z => by
    rw [Op.equalIn]
    simp [Sem.run_bind, run_underlying Try.underlying3]
  have e2 : (Op.equalIn (d + 2) 25 (.agg (ints 26 p)) (.agg (ints 26 p))).run Try.prog w = .ok true w := by
    have := run_equalIn_ints (P := Try.prog) w d 25 3 26 Try.underlying25 Try.underlying3 info_int p p
    rw [eqI_refl] at this
    exact this
  have c0 : (ints 28 (gsF a b p))[0]? = some (.int .i64 (a : Nat)) := ints_get (gsF a b p) (by decide)
  have c1 : (ints 28 (gsF a b p))[1]? = some (.int .i64 (b : Nat)) := ints_get (gsF a b p) (by decide)
  have c2' : ((ints 28 (gsF a b p)).extract 2 28) = ints 26 p := by
    apply Array.ext_getElem?
    intro j
    by_cases hj : j < 26
    · rw [ints_get _ hj, Array.getElem?_extract, if_pos (by rw [ints_size]; omega), ints_get _ (by omega)]
      unfold gsF
      rw [if_neg (by omega), if_neg (by omega), show 2 + j - 2 = j by omega]
    · rw [Array.getElem?_eq_none (by simp [ints_size]; omega), Array.getElem?_eq_none (by simp [ints_size]; omega)]
  have hh := guess_held
  generalize ints 28 (gsF a b p) = cs at *
  generalize ints 26 p = c2 at *
  have hS : Try.prog.underlying 53 = some (.struct (Try.prog.fieldsOf 53)) := by kernel_rfl
  rw [run_equalIn_struct w (d + 2) 53 _ _ hS hh]
  simp only [Program.fieldsOf, Try.underlying53]
  clear hS hh
  go_simp
theorem run_eq_guess (a b : Nat) (p : Nat → Int) (w : World) : (Op.equalIn 10000 53 (.agg (ints 28 (gsF a b p))) (.agg (ints 28 (gsF a b p)))).run Try.prog w = .ok true w := eqg_gen a b p w 9997
end Go.Proofs.Ytbbpbcmpemmgjaa

/-
  Contract of law10.alive.
-/
namespace Go.Proofs.Ytbbpbcmpemmgjaa
open Go.RowKit PK Vg

end Go.Proofs.Ytbbpbcmpemmgjaa

/-
  BombeSound, over the contracts of Test and of the document's Scramblers.
-/
namespace Go.Proofs.Ytbbpbcmpemmgjaa
open Go.RowKit PK Vg

theorem tst_exists {g : Gm} {cr te : ByteArray} (h : bwE g cr.data.toList te.data.toList = 0) : ∃ A ok pr, Tst g cr te A ok pr := by
  obtain ⟨hm, _⟩ := mnu_ok h
  have hA := Bo.most_26 (fun c => (Bo.ml (mnu g cr te) c (mnu g cr te).k).length)
  have h1 : ∀ b : Nat, ∃ q : Bool × (Nat → Int), b < 26 → Bo.Res (mnu g cr te) (Bo.most (fun c => (Bo.ml (mnu g cr te) c (mnu g cr te).k).length) 26) b q.1 q.2 := fun b => by
    by_cases hb : b < 26
    · obtain ⟨o, p, hp⟩ := Bo.res_exists hm hA hb
      exact ⟨(o, p), fun _ => hp⟩
    · exact ⟨(false, fun _ => 0), fun h => absurd h hb⟩
  obtain ⟨q, hq⟩ := Classical.skolem.1 h1
  exact ⟨_, fun b => (q b).1, fun b => (q b).2, h, rfl, hq⟩
end Go.Proofs.Ytbbpbcmpemmgjaa

/-
  Contracts of the document's Guesses, Test and Same (chapter 10).
-/
namespace Go.Proofs.Ytbbpbcmpemmgjaa
open Go.RowKit PK Vg

set_option maxRecDepth 100000 in
set_option maxHeartbeats 8000000 in
theorem rguesses_run (m : Bo.Mn) (A : Nat) (ok : Nat → Bool) (pr : Nat → Nat → Int) (a b c : Value) (rf pl : Nat → Int) (cr te : ByteArray) (w : World)
    (HU : Hid (∀ W, Below w.heap.size w W → Calls Try.prog 71 #[.agg (mac a b c rf pl), .int .i64 (cr.size : Nat)] W fun e w' => ∃ v, e = .returned v ∧ KeysAt w' v m.k m.s ∧ Below W.heap.size W w'))
    (HMO : Hid (∀ W, Calls Try.prog 72 #[.string cr, .string te] W fun e w' => e = .returned (.int .i64 (A : Nat)) ∧ Below W.heap.size W w'))
    (HFO : Hid (∀ W vk, KeysAt W vk m.k m.s → ∀ k, k < 26 → Calls Try.prog 73 #[vk, .string cr, .string te, .int .i64 (A : Nat), .int .i64 (k : Nat)] W fun e w' => e = .returned (.tuple #[.agg (ints 26 (pr k)), .bool (ok k)]) ∧ Below W.heap.size W w')) : Calls Try.prog 37 #[.agg (mac a b c rf pl), .string cr, .string te] w fun e w' => ∃ v B, e = .returned v ∧ w.heap.size ≤ B ∧ OwnsG w' B v (fun b => gsF A b (pr b)) (okTo ok 26) ∧ Below w.heap.size w w' := by
  obtain ⟨i0, hi0, hz0, hz1, hz2⟩ := x_info_parts b_info_guess
  have h0 := MgAt.new w a b c rf pl
  go_enter Try.func37, Try.ntmps37
  go_wp2_with (first | refine wpList_load_row rfl 27 _ rfl w.heap.size rfl 27 (mac a b c rf pl) (0, 0) _ h0.row Try.underlying27 rfl (by rw [mac_size]; exact v_info_mac) ?_)
  refine (HU.out _ h0.below).mono ?_
  rintro e W1 ⟨vk, rfl, hks, hb⟩
  have hbw1 := h0.below.trans (hb.mono h0.below.size)
  obtain ⟨gk, ck, rfl, hkc⟩ := hks
  have HKS := (show Hid (KeysAt W1 (.slice (some ⟨gk, 0, none⟩) m.k ck) m.k m.s) from ⟨gk, ck, rfl, hkc⟩)
  clear hb h0 HU hkc
  go_wp2_with fail
  refine (HMO.out _).mono ?_
  rintro e V ⟨rfl, hb⟩
  have hbv := hbw1.trans (hb.mono hbw1.size)
  have HKV := (show Hid _ from KeysAt.below HKS.out hb)
  have HFV := (show Hid (∀ k, k < 26 → ∀ W', Below V.heap.size V W' → Calls Try.prog 73 #[.slice (some ⟨gk, 0, none⟩) m.k ck, .string cr, .string te, .int .i64 (A : Nat), .int .i64 (k : Nat)] W' fun e w' => e = .returned (.tuple #[.agg (ints 26 (pr k)), .bool (ok k)]) ∧ Below W'.heap.size W' w') from fun k hk W' hb' => HFO.out W' _ (KeysAt.below HKV.out hb') k hk)
  have HVW := (show Hid _ from hbv)
  clear hb hbw1 hbv HFO HMO HKS HKV
  go_wp2_with fail
  go_loopw [9, 10] (fun o i W => ∃ (k : Nat) (v : Value), k ≤ 26 ∧ i = .int .i64 (k : Nat) ∧ v = o ∧ OwnsG W V.heap.size v (fun b => gsF A b (pr b)) (okTo ok k) ∧ Below V.heap.size V W) (fun _ i _ => ((26 : Int) - intOf i).toNat)
  case atStart => exact ⟨0, _, by omega, rfl, rfl, World.ownsRow_nil _ _ _ _, Below.refl _ _⟩
  case round =>
    obtain ⟨k, v, hk, rfl, rfl, hown, hbe⟩ := hrel
    have HLN : Hid ((okTo ok k).length ≤ 26) := by have := ok_len ok k; rw [Hid]; omega
    by_cases hlt : k < 26
    case neg =>
      obtain rfl : k = 26 := by omega
      have HBE := (show Hid _ from hbe)
      have HOWN := (show Hid _ from hown)
      clear hlt hown hbe
      go_wp2
      go_ret
      exact ⟨v, V.heap.size, rfl, HVW.out.size, HOWN.out, HVW.out.trans (HBE.out.mono HVW.out.size)⟩
    have HLT : Hid (k < 26) := hlt
    have hlt2 : (k : Int) < 26 := by omega
    have HFK := (show Hid _ from HFV.out k hlt)
    have HBE := (show Hid _ from hbe)
    have HOWN := (show Hid _ from hown)
    have hzX := hbe.size
    clear hlt hown hbe
    go_wp2_with fail
    refine (HFK.out _ HBE.out).mono ?_
    rintro e W3 ⟨rfl, hb⟩
    have hown3 := own_step HOWN.out hb
    have hbe3 := HBE.out.trans (hb.mono HBE.out.size)
    clear hb HBE HOWN HFK
    have hz26 := o_zero v_zero_perm
    cases hok : ok k
    · have HOK := (show Hid (okTo ok (k + 1) = okTo ok k) from ok_no hok)
      have HOW : Hid (OwnsG ((W3.alloc (.cells (ints 26 fun _ => 0) 25)).setRow W3.heap.size (ints 26 (pr k))) V.heap.size v (fun b => gsF A b (pr b)) (okTo ok k)) := own_step hown3 (Below.setRow ((Below.refl W3.heap.size W3).alloc (Nat.le_refl _) (.cells (ints 26 fun _ => 0) 25)) W3.heap.size (Nat.le_refl _) (ints 26 (pr k)))
      have HBB : Hid (Below V.heap.size V ((W3.alloc (.cells (ints 26 fun _ => 0) 25)).setRow W3.heap.size (ints 26 (pr k)))) := Below.setRow (hbe3.alloc hbe3.size _) _ hbe3.size _
      clear hown3 hbe3 hok
      go_wp2_with (first | refine wpList_store_row rfl 25 _ _ rfl W3.heap.size (ints 26 (pr k)) rfl rfl 25 _ (RowAt.new W3 _ _) (by rw [ints_size]; exact info_perm) (by simp only [ints_size]) (ints_one _ _) ?_)
      go_roundw
      case rel => exact ⟨k + 1, v, HLT.out, by go_num, rfl, by rw [HOK.out]; exact HOW.out, HBB.out⟩
      case measure => have := HLT.out; simp [intOf]; omega
    · have HOK := (show Hid (okTo ok (k + 1) = okTo ok k ++ [k]) from ok_yes hok)
      clear hok
      go_upto_region 9 with (first | refine wpList_store_row rfl 25 _ _ rfl W3.heap.size (ints 26 (pr k)) rfl rfl 25 _ (RowAt.new W3 _ _) (by rw [ints_size]; exact info_perm) (by simp only [ints_size]) (ints_one _ _) ?_)
      have hr11 := (RowAt.new W3 25 (ints 26 fun _ => 0)).row (ints 26 (pr k))
      have hbx := Below.setRow ((Below.refl W3.heap.size W3).alloc (Nat.le_refl _) (.cells (ints 26 fun _ => 0) 25)) W3.heap.size (Nat.le_refl _) (ints 26 (pr k))
      have hownX := own_step hown3 hbx
      have hbeX := hbe3.trans (hbx.mono hbe3.size)
      generalize (W3.alloc (.cells (ints 26 fun _ => 0) 25)).setRow W3.heap.size (ints 26 (pr k)) = X at *
      obtain ⟨q11, hq⟩ : ∃ x, x = W3.heap.size := ⟨_, rfl⟩
      rw [← hq] at hr11 ⊢
      have hzX := hbeX.size
      clear hq hbx hown3 hbe3 hz26
      go_wp2_with (first | refine wpList_load_row rfl 25 _ rfl q11 rfl 25 (ints 26 (pr k)) (0, 0) _ hr11 Try.underlying25 rfl (by rw [ints_size]; exact info_perm) ?_ | refine wpList_buildA rfl 53 [(0, .tmp 35), (1, .tmp 36), (2, .tmp 37)] rfl [(0, .int .i64 (A : Nat)), (1, .int .i64 (k : Nat)), (2, .agg (ints 26 (pr k)))] rfl _ (built_guess A k (pr k)) ?_ | refine wpList_build1 rfl 49 53 _ rfl 28 (gsF A k (pr k)) rfl (by decide) Try.underlying49 b_zero_guess (by decide) ?_ | (at_builtin; refine wpList_append_own _ rfl _ _ 49 rfl V.heap.size 53 i0 (.agg (ints 28 fun _ => 0)) 28 224 Try.underlying49 hi0 hz0 hz1 hz2 (ints_size _ _) (by decide) _ _ _ rfl (World.ownsRow.alloc hownX _) ⟨X.heap.size, 0, none⟩ 1 1 (ints 28 (gsF A k (pr k))).toList rfl (by rw [Array.length_toList, ints_size]) (fun q u hu => by rw [Addr.add_mid, Nat.zero_add]; exact (RowAt.new X 53 (ints 28 (gsF A k (pr k)))).cell (by rw [← Array.getElem?_toList]; exact hu)) (fun u hu => all_one78 hu) (by have := HLN.out; unfold maxLen; omega) (by have := HLN.out; omega) (by simp; omega) ?_; intro v' w5 hown5 hgrow5 _))
      have HNX : Hid (OwnsG w5 V.heap.size v' (fun b => gsF A b (pr b)) (okTo ok k ++ [k])) := by
        rw [Hid, OwnsG, ← gl_snoc, List.length_append]
        exact hown5
      have HBN : Hid (Below V.heap.size V w5) := (hbeX.alloc hbeX.size _).grown hgrow5 (by simp; omega) (fun j hj => (World.ownsRow.lt hownX j hj).1)
      go_roundw
      case rel => exact ⟨k + 1, v', HLT.out, by go_num, rfl, by rw [HOK.out]; exact HNX.out, HBN.out⟩
      case measure => have := HLT.out; simp [intOf]; omega

set_option maxRecDepth 100000 in
set_option maxHeartbeats 4000000 in
theorem bsame_ok (u v : Value) (A : Nat) (pr : Nat → Nat → Int) (L : List Nat) (hL : L.length ≤ 1000) (w : World) (hu : GsAt w u (fun b => gsF A b (pr b)) L) (hv : GsAt w v (fun b => gsF A b (pr b)) L) : Calls Try.prog 38 #[u, v] w fun e w' => e = .returned (.bool true) ∧ Below w.heap.size w w' := by
  obtain ⟨a1, c1, rfl, h1⟩ := hu
  obtain ⟨a2, c2, rfl, h2⟩ := hv
  have H1 := (show Hid (∀ j, j < L.length → ∃ b, a1 = some ⟨b, 0, none⟩ ∧ w.rangeAt b (j * 28) (ints 28 (gsF A (L.getD j 0) (pr (L.getD j 0)))).toList) from h1)
  have H2 := (show Hid (∀ j, j < L.length → ∃ b, a2 = some ⟨b, 0, none⟩ ∧ w.rangeAt b (j * 28) (ints 28 (gsF A (L.getD j 0) (pr (L.getD j 0)))).toList) from h2)
  have hll : (((L.length : Nat) : Int) != ((L.length : Nat) : Int)) = false := by simp
  clear h1 h2
  go_enter Try.func38, Try.ntmps38
  go_wp2_with fail
  clear hll
  go_loopw [13] (fun i W => ∃ j : Nat, j ≤ L.length ∧ i = .int .i64 (j : Nat) ∧ Below w.heap.size w W) (fun i _ => ((L.length : Int) - intOf i).toNat)
  case atStart => exact ⟨0, by omega, rfl, Below.refl _ _⟩
  case round =>
    obtain ⟨j, hj, rfl, hbe⟩ := hrel
    have HBE := (show Hid _ from hbe)
    by_cases hlt : j < L.length
    · have HLT : Hid (j < L.length) := hlt
      have hlt2 : (j : Int) < (L.length : Int) := by omega
      obtain ⟨b1, rfl, r1⟩ := H1.out j hlt
      obtain ⟨b2, rfl, r2⟩ := H2.out j hlt
      obtain ⟨B, hB⟩ : ∃ B, B = L.getD j 0 := ⟨_, rfl⟩
      rw [← hB] at r1 r2
      obtain ⟨p, hp⟩ : ∃ p, p = pr B := ⟨_, rfl⟩
      rw [← hp] at r1 r2
      have hS0 : Below w.heap.size w wr.drew := hbe.drew
      have R1 := (show Hid (∀ W, Below w.heap.size w W → W.rangeAt b1 (j * 28) (ints 28 (gsF A B p)).toList) from fun W hb i v hv => (hb.cell (p := ⟨b1, j * 28 + i, none⟩) (cell_block (r1 i v hv))).trans (r1 i v hv))
      have R2 := (show Hid (∀ W, Below w.heap.size w W → W.rangeAt b2 (j * 28) (ints 28 (gsF A B p)).toList) from fun W hb i v hv => (hb.cell (p := ⟨b2, j * 28 + i, none⟩) (cell_block (r2 i v hv))).trans (r2 i v hv))
      clear hB hp r1 r2 hlt hbe
      go_upto_region 6 with fail
      refine wp_region_noPanic ?_
      refine wp_region_held_drew (S := fun W => Below w.heap.size w W) (by kernel_rfl) hS0 (fun hS => ?_)
      clear hS0
      obtain ⟨U, hU⟩ : ∃ x, x = wr.drew := ⟨_, rfl⟩
      rw [← hU] at hS ⊢
      clear hU
      refine vtake 0 16 (.slice (some ⟨b1, 0, none⟩) L.length c1) rfl rfl (by kernel_rfl) (by kernel_rfl) (by kernel_rfl) (fun _ _ _ _ h => h) (by rfl) (fun W hW => by clear hS hW; go_simp) hS ?_
      simp only [List.setIfInBounds_toArray, List.set_cons_succ, List.set_cons_zero]
      refine vtake 1 17 (.int .i64 (j : Nat)) rfl rfl (by kernel_rfl) (by kernel_rfl) (by kernel_rfl) (fun _ _ _ _ h => h) (by rfl) (fun W hW => by clear hS hW; go_simp) hS ?_
      simp only [List.setIfInBounds_toArray, List.set_cons_succ, List.set_cons_zero]
      refine vtake 2 18 (.pointer (some ⟨b1, j * 28, none⟩)) rfl rfl (by kernel_rfl) (by kernel_rfl) (by kernel_rfl) (fun _ _ _ _ h => h) (by rfl) (fun W hW => by clear hS hW; go_simp) hS ?_
      simp only [List.setIfInBounds_toArray, List.set_cons_succ, List.set_cons_zero]
      refine vtake 3 19 (.agg (ints 28 (gsF A B p))) rfl rfl (by kernel_rfl) (by kernel_rfl) (by kernel_rfl) (fun _ _ _ _ h => h) (by rfl) (fun W hW => by have u := run_loadAt_mid (P := Try.prog) W b1 (j * 28) 53 (ints 28 (gsF A B p)).toList _ (R1.out W hW) Try.underlying53 rfl (by rw [Array.length_toList, ints_size]; exact b_size_guess); clear hS hW; simp [execOp, Act.eval, u]) hS ?_
      simp only [List.setIfInBounds_toArray, List.set_cons_succ, List.set_cons_zero]
      refine vtake 4 20 (.slice (some ⟨b2, 0, none⟩) L.length c2) rfl rfl (by kernel_rfl) (by kernel_rfl) (by kernel_rfl) (fun _ _ _ _ h => h) (by rfl) (fun W hW => by clear hS hW; go_simp) hS ?_
      simp only [List.setIfInBounds_toArray, List.set_cons_succ, List.set_cons_zero]
      refine vtake 5 21 (.int .i64 (j : Nat)) rfl rfl (by kernel_rfl) (by kernel_rfl) (by kernel_rfl) (fun _ _ _ _ h => h) (by rfl) (fun W hW => by clear hS hW; go_simp) hS ?_
      simp only [List.setIfInBounds_toArray, List.set_cons_succ, List.set_cons_zero]
      refine vtake 6 22 (.pointer (some ⟨b2, j * 28, none⟩)) rfl rfl (by kernel_rfl) (by kernel_rfl) (by kernel_rfl) (fun _ _ _ _ h => h) (by rfl) (fun W hW => by clear hS hW; go_simp) hS ?_
      simp only [List.setIfInBounds_toArray, List.set_cons_succ, List.set_cons_zero]
      refine vtake 7 23 (.agg (ints 28 (gsF A B p))) rfl rfl (by kernel_rfl) (by kernel_rfl) (by kernel_rfl) (fun _ _ _ _ h => h) (by rfl) (fun W hW => by have u := run_loadAt_mid (P := Try.prog) W b2 (j * 28) 53 (ints 28 (gsF A B p)).toList _ (R2.out W hW) Try.underlying53 rfl (by rw [Array.length_toList, ints_size]; exact b_size_guess); clear hS hW; simp [execOp, Act.eval, u]) hS ?_
      simp only [List.setIfInBounds_toArray, List.set_cons_succ, List.set_cons_zero]
      refine vtake 8 24 (.bool false) rfl rfl (by kernel_rfl) (by kernel_rfl) (by kernel_rfl) (fun _ _ _ _ h => h) (by rfl) (fun W hW => by have u := run_eq_guess A B p; clear hS hW; go_simp) hS ?_
      simp only [List.setIfInBounds_toArray, List.set_cons_succ, List.set_cons_zero]
      refine wpAnyH_done (by kernel_rfl) ?_ _
      refine NoPanic.normal ?_
      have HX := (show Hid _ from hS)
      clear hS
      go_wp2_with fail
      go_roundw
      case rel => exact ⟨j + 1, HLT.out, by go_num, HX.out⟩
      case measure => have := HLT.out; simp [intOf]; omega
    · obtain rfl : j = L.length := by omega
      have hnn : ¬ ((L.length : Nat) : Int) < ((L.length : Nat) : Int) := by omega
      clear hlt hbe
      go_wp2
      go_ret
      exact ⟨rfl, HBE.out⟩
end Go.Proofs.Ytbbpbcmpemmgjaa

/-
  Contract of the document's Search (chapter 10).
-/
namespace Go.Proofs.Ytbbpbcmpemmgjaa
open Go.RowKit PK Vg

theorem rgs_any (vm : Value) (g : Gm) (cr te : ByteArray) (A : Nat) (ok : Nat → Bool) (pr : Nat → Nat → Int) (ht : Tst g cr te A ok pr) (w : World) (hm : MacAt w vm g) : Calls Try.prog 37 #[vm, .string cr, .string te] w fun e w' => ∃ v B, e = .returned v ∧ w.heap.size ≤ B ∧ OwnsG w' B v (fun b => gsF A b (pr b)) (okTo ok 26) ∧ Below w.heap.size w w' := by
  obtain ⟨hmo, hk32⟩ := mnu_ok ht.e
  obtain ⟨hg0, hc1, hc2, hk1, _, _, _⟩ := bwE_zero ht.e
  have hmu := menu_of (S := chE (Om.unplugged (maOf g))) ht.e
  have s1 := Pl.size_len cr
  have HU := fun W (hb : Below w.heap.size w W) => rscr_any vm g hg0 cr.size (by have := hmu.le; omega) W (hm.below hb)
  have hA : A < 26 := by rw [ht.a]; exact Bo.most_26 _
  have hls : ∀ s : ByteArray, ckE s.data.toList = 0 → Ls s.data.toList := fun s hs => by
    rcases ck_cases s.data.toList with ⟨_, _, _, e4⟩ | e1
    · exact ls_of e4
    · rw [hs] at e1; cases e1
  have HMO := fun W => rmost_any cr te (hls cr hc1) (hls te hc2) hmu.le (by have := hmu.le; have := hmu.sz; omega) W
  have hAe : Bo.most (fun c => cl cr.data.toList c cr.size + cl te.data.toList c te.size) 26 = A := by
    rw [ht.a]
    refine Bo.most_congr 26 fun c _ => ?_
    have h1 := ml_cl cr.data.toList te.data.toList cr.size (chE (Om.unplugged (maOf g))) c cr.size
    rw [hmu.sz]
    exact h1.symm
  rw [hAe] at HMO
  obtain ⟨a, b, c, rfl, _⟩ := hm
  refine rguesses_run (mnu g cr te) A ok pr a b c g.rf g.pl cr te w (fun W hb => (HU W hb).mono ?_) HMO (fun W' vk hvk k hk => rclosed_any (mnu g cr te) hmo cr te hmu A k hA hk (ok k) (pr k) (ht.res k hk) vk W' hvk)
  rintro e w' ⟨v, h1, h2, h3⟩
  exact ⟨v, h1, keys_of_own h2 (by have h7 : cr.size ≠ 0 := (by omega); exact h7), h3⟩
set_option maxRecDepth 100000 in
set_option maxHeartbeats 4000000 in
theorem rsearch_bad1 (vm : Value) (g : Gm) (cr te : ByteArray) (h : Int) (hE : bwE g cr.data.toList te.data.toList ≠ 0) (w : World) (hm : MacAt w vm g) : Calls Try.prog 14 #[vm, .string cr, .string te, .int .i64 h] w fun e w' => e = .returned (.tuple #[.slice none 0 0, .int .i64 (bwE g cr.data.toList te.data.toList)]) ∧ Below w.heap.size w w' := by
  have HC := (show Hid (∀ W, Below w.heap.size w W → Calls Try.prog 36 #[vm, .string cr, .string te] W fun e w' => e = .returned (.int .i64 (bwE g cr.data.toList te.data.toList)) ∧ Below W.heap.size W w') from fun W hb => brwrong_any vm g cr te W (hm.below hb))
  obtain ⟨a, b, c, rfl, _⟩ := hm
  have h0 := MgAt.new w a b c g.rf g.pl
  have hA0s : (mac a b c g.rf g.pl).size = 55 := mac_size _ _ _ _ _
  have hz2 : (bwE g cr.data.toList te.data.toList != 0) = true := by simpa using hE
  obtain ⟨E, hEE⟩ : ∃ E, E = bwE g cr.data.toList te.data.toList := ⟨_, rfl⟩
  rw [← hEE] at HC hz2 ⊢
  clear hE hEE
  have hr0 := h0.row
  have hb0 := h0.below
  clear h0
  generalize mac a b c g.rf g.pl = A0 at *
  go_enter Try.func14, Try.ntmps14
  go_upto_region 1 with fail
  generalize w.alloc (.cells A0 27) = W0 at *
  go_wp2_with (first | refine wpList_load_row rfl 27 _ rfl w.heap.size rfl 27 A0 (0, 0) _ hr0 Try.underlying27 rfl (by rw [hA0s]; exact v_info_mac) ?_)
  refine (HC.out _ hb0).mono ?_
  rintro e W1 ⟨rfl, hb⟩
  have HB := (show Hid _ from hb0.trans (hb.mono hb0.size))
  clear hb hr0 hb0 HC
  go_wp2
  go_ret2
  exact ⟨rfl, HB.out⟩
set_option maxRecDepth 100000 in
set_option maxHeartbeats 4000000 in
theorem rsearch_bad2 (vm : Value) (g : Gm) (cr te : ByteArray) (h : Int) (hE : bwE g cr.data.toList te.data.toList = 0) (hS : swE g h ≠ 0) (w : World) (hm : MacAt w vm g) : Calls Try.prog 14 #[vm, .string cr, .string te, .int .i64 h] w fun e w' => e = .returned (.tuple #[.slice none 0 0, .int .i64 (swE g h)]) ∧ Below w.heap.size w w' := by
  have HC := (show Hid (∀ W, Below w.heap.size w W → Calls Try.prog 36 #[vm, .string cr, .string te] W fun e w' => e = .returned (.int .i64 0) ∧ Below W.heap.size W w') from fun W hb => by have := brwrong_any vm g cr te W (hm.below hb); rw [hE] at this; exact this)
  have HD := (show Hid (∀ W, Below w.heap.size w W → Calls Try.prog 22 #[vm, .int .i64 h] W fun e w' => e = .returned (.int .i64 (swE g h)) ∧ Below W.heap.size W w') from fun W hb => rsw_any vm g h W (hm.below hb))
  obtain ⟨a, b, c, rfl, _⟩ := hm
  have h0 := MgAt.new w a b c g.rf g.pl
  have hA0s : (mac a b c g.rf g.pl).size = 55 := mac_size _ _ _ _ _
  have hz2 : (swE g h != 0) = true := by simpa using hS
  obtain ⟨E, hEE⟩ : ∃ E, E = swE g h := ⟨_, rfl⟩
  rw [← hEE] at HD hz2 ⊢
  clear hE hEE hS
  have hr0 := h0.row
  have hb0 := h0.below
  clear h0
  generalize mac a b c g.rf g.pl = A0 at *
  go_enter Try.func14, Try.ntmps14
  go_upto_region 1 with fail
  generalize w.alloc (.cells A0 27) = W0 at *
  go_wp2_with (first | refine wpList_load_row rfl 27 _ rfl w.heap.size rfl 27 A0 (0, 0) _ hr0 Try.underlying27 rfl (by rw [hA0s]; exact v_info_mac) ?_)
  refine (HC.out _ hb0).mono ?_
  rintro e W1 ⟨rfl, hb⟩
  have hr1 := hr0.below hb hr0.lt
  have hb1 := hb0.trans (hb.mono hb0.size)
  clear hb hr0 hb0 HC
  go_wp2_with (first | refine wpList_load_row rfl 27 _ rfl w.heap.size rfl 27 A0 (0, 0) _ hr1 Try.underlying27 rfl (by rw [hA0s]; exact v_info_mac) ?_)
  refine (HD.out _ hb1).mono ?_
  rintro e W2 ⟨rfl, hb⟩
  have HB := (show Hid _ from hb1.trans (hb.mono hb1.size))
  clear hb hr1 hb1 HD
  go_wp2
  go_ret2
  exact ⟨rfl, HB.out⟩
set_option maxRecDepth 100000 in
set_option maxHeartbeats 8000000 in
theorem rsearch_ok (vm : Value) (g : Gm) (cr te : ByteArray) (h : Int) (hW : bwE g cr.data.toList te.data.toList = 0) (hE : swE g h = 0) (hl : Hl) (hln : hl.n = g.n) (w : World) (hm : MacAt w vm g)
    (HGU : Hid (∀ N vm' W, Below w.heap.size w W → MacAt W vm' (gmN g N) → Calls Try.prog 37 #[vm', .string cr, .string te] W fun e w' => ∃ v B, e = .returned v ∧ OwnsG w' B v (hl.gs N) (hl.lg N) ∧ Below W.heap.size W w')) :
    Calls Try.prog 14 #[vm, .string cr, .string te, .int .i64 h] w fun e w' => ∃ v, e = .returned (.tuple #[v, .int .i64 0]) ∧ HsO w' w.heap.size v (hl.fnd (26 ^ g.n)) hl ∧ Below w.heap.size w w' := by
  obtain ⟨i0, hi0, hz0, hz1, hz2⟩ := f_info_parts h_all_halt
  obtain ⟨hgE, hn3, _, _⟩ := swE_zero hE
  have HC := (show Hid (∀ W, Below w.heap.size w W → Calls Try.prog 36 #[vm, .string cr, .string te] W fun e w' => e = .returned (.int .i64 0) ∧ Below W.heap.size W w') from fun W hb => by have := brwrong_any vm g cr te W (hm.below hb); rw [hW] at this; exact this)
  have HD := (show Hid (∀ W, Below w.heap.size w W → Calls Try.prog 22 #[vm, .int .i64 h] W fun e w' => e = .returned (.int .i64 0) ∧ Below W.heap.size W w') from fun W hb => by have := rsw_any vm g h W (hm.below hb); rw [hE] at this; exact this)
  have HWI := (show Hid (∀ W, Calls Try.prog 23 #[.int .i64 (g.n : Nat)] W fun e w' => ∃ v, e = .returned v ∧ LsO w' W.heap.size v (List.range (26 ^ g.n)) g.n ∧ Below W.heap.size W w') from fun W => rwin_any g.n hn3 W)
  obtain ⟨a, b, c, rfl, hwh, hri, hst⟩ := hm
  have HTY := (show Hid (∀ N at' W, Below w.heap.size w W → NumsAt W at' g.n (fun i => ((dig g.n N i : Nat) : Int)) → Calls Try.prog 37 #[.agg (mac a b at' g.rf g.pl), .string cr, .string te] W fun e w' => ∃ v B, e = .returned v ∧ OwnsG w' B v (hl.gs N) (hl.lg N) ∧ Below W.heap.size W w') from fun N at' W hb hat => HGU.out N _ W hb ⟨a, b, at', rfl, hwh.below hb, hri.below hb, hat⟩)
  obtain ⟨aw, cw, R, rfl, hmx, _, _⟩ := hwh
  obtain ⟨ac, cc, rfl, _, _⟩ := hst
  have h0r := (MgAt.new w (.slice aw g.n cw) b (.slice ac g.sl cc) g.rf g.pl).row
  have h0b := (MgAt.new w (.slice aw g.n cw) b (.slice ac g.sl cc) g.rf g.pl).below
  have HM2 := (show Hid (∀ x, (mac (.slice aw g.n cw) b (.slice ac g.sl cc) g.rf g.pl).setIfInBounds 2 x = mac (.slice aw g.n cw) b x g.rf g.pl) from fun x => mac_set2 _ _ _ _ _ _)
  have HM0 := (show Hid ((mac (.slice aw g.n cw) b (.slice ac g.sl cc) g.rf g.pl)[0]? = some (.slice aw g.n cw)) from mac_0 _ _ _ _ _)
  have HMC := (show Hid ((mac (.slice aw g.n cw) b (.slice ac g.sl cc) g.rf g.pl)[2]? = some (.slice ac g.sl cc)) from mac_2 _ _ _ _ _)
  have hA0s : (mac (.slice aw g.n cw) b (.slice ac g.sl cc) g.rf g.pl).size = 55 := mac_size _ _ _ _ _
  have hbo : b.oneCell' = true := by obtain ⟨x, y, e, _⟩ := hri; rw [e]; rfl
  have hA0o : (mac (.slice aw g.n cw) b (.slice ac g.sl cc) g.rf g.pl).all (·.oneCell') = true := mac_one rfl hbo rfl
  have HMS := (show Hid (∀ x, (mac (.slice aw g.n cw) b x g.rf g.pl).size = 55) from fun x => mac_size _ _ _ _ _)
  obtain ⟨MM, hMM⟩ : ∃ MM : Value → Array Value, MM = fun x => mac (.slice aw g.n cw) b x g.rf g.pl := ⟨_, rfl⟩
  have hMMx : ∀ x, mac (.slice aw g.n cw) b x g.rf g.pl = MM x := fun x => by rw [hMM]
  rw [hMMx] at h0r h0b HM0 HMC hA0s hA0o ⊢
  simp only [hMMx] at HM2 HMS HTY HC HD
  obtain ⟨A0, hA0⟩ : ∃ A0, A0 = MM (.slice ac g.sl cc) := ⟨_, rfl⟩
  rw [← hA0] at h0r h0b HM0 HMC hA0s hA0o ⊢
  simp only [← hA0] at HM2 HC HD
  have HLN := (show Hid (hl.n = g.n) from hln)
  have hpw := pow26_le (m := g.n) (by omega)
  clear hA0 hMMx hMM hri hgE hE hbo hmx hW hln HGU
  generalize hDD : 26 ^ g.n = D at *
  clear hDD
  go_enter Try.func14, Try.ntmps14
  go_upto_region 1 with fail
  generalize w.alloc (.cells A0 27) = W0 at *
  go_wp2_with (first | refine wpList_load_row rfl 27 _ rfl w.heap.size rfl 27 A0 (0, 0) _ h0r Try.underlying27 rfl (by rw [hA0s]; exact v_info_mac) ?_)
  refine (HC.out _ h0b).mono ?_
  rintro e W1 ⟨rfl, hb⟩
  have h1r := h0r.below hb h0r.lt
  have h1b := h0b.trans (hb.mono h0b.size)
  clear hb h0r h0b HC
  go_wp2_with (first | refine wpList_load_row rfl 27 _ rfl w.heap.size rfl 27 A0 (0, 0) _ h1r Try.underlying27 rfl (by rw [hA0s]; exact v_info_mac) ?_)
  refine (HD.out _ h1b).mono ?_
  rintro e W1' ⟨rfl, hb⟩
  have h2r := h1r.below hb h1r.lt
  have h2b := h1b.trans (hb.mono h1b.size)
  clear hb h1r h1b HD
  have c0 := h2r.cell HM0.out
  go_wp2_with fail
  refine (HWI.out _).mono ?_
  rintro e W2 ⟨v1, rfl, hls, hb⟩
  have h3r := h2r.below hb h2r.lt
  have h3b := h2b.trans (hb.mono h2b.size)
  obtain ⟨a1, c1, hv1⟩ := hls.len
  rw [List.length_range] at hv1
  have HLS := (show Hid (∀ W, Below W2.heap.size W2 W → LsO W W1'.heap.size v1 (List.range D) g.n) from fun W hb => hls.below hb)
  subst hv1
  have hsz2 := h3r.lt
  have HR2 := (show Hid (RowAt W2 w.heap.size 27 A0) from h3r)
  have HB2 := (show Hid (Below w.heap.size w W2) from h3b)
  clear hb hls HWI c0 h2r h2b h3r h3b
  go_wp2_with fail
  go_loopw [12, 35] (fun o x W => ∃ (j : Nat) (u : Value), j ≤ D ∧ x = .int .i64 (j : Nat) ∧ u = o ∧ HsO W W2.heap.size u (hl.fnd j) hl ∧ Below W2.heap.size W2 W) (fun _ x _ => ((D : Int) - intOf x).toNat)
  case atStart => exact ⟨0, _, by omega, rfl, rfl, HsO.nil _ _ _, Below.refl _ _⟩
  case round =>
    obtain ⟨j, u, hj, rfl, rfl, hlo, hbw⟩ := hrel
    by_cases hlt : j < D
    case neg =>
      obtain rfl : j = D := by omega
      have hnn : ¬ ((j : Nat) : Int) < ((j : Nat) : Int) := by omega
      have HF := (show Hid (HsO wr w.heap.size u (hl.fnd j) hl) from HsO.mono hlo (Nat.le_of_lt hsz2))
      have HBE := (show Hid (Below w.heap.size w wr) from HB2.out.trans (hbw.mono HB2.out.size))
      clear hlo hbw hlt HLS
      go_wp2
      go_ret2
      exact ⟨u, by first | rfl | trivial, HF.out, HBE.out⟩
    have HLT : Hid (j < D) := hlt
    have hlt2 : (j : Int) < (D : Int) := by omega
    obtain ⟨g1, cc1, ul, ev, hcl, hoi⟩ := (HLS.out W2 (Below.refl _ _)).at_ (i := j) (by rw [List.length_range]; exact hlt)
    rw [List.length_range] at ev
    cases ev
    have hgd : (List.range D).getD j 0 = j := by simp [List.getD, hlt]
    rw [hgd] at hoi
    have HUL := (show Hid (∀ W, Below W2.heap.size W2 W → OwI W ul g.n fun i => ((dig g.n j i : Nat) : Int)) from fun W hb => hoi.below hb)
    have hcell := (hbw.cell (p := ⟨g1, j, none⟩) (cell_block hcl)).trans hcl
    obtain ⟨al, cl, rfl⟩ : ∃ al cl, ul = .slice al g.n cl := by
      rcases hoi.form with ⟨e, e2⟩ | ⟨x, y, e⟩
      · exact ⟨none, 0, by rw [e, e2]⟩
      · exact ⟨_, _, e⟩
    have HLO := (show Hid (HsO wr W2.heap.size u (hl.fnd j) hl) from hlo)
    have HBW := (show Hid (Below W2.heap.size W2 wr) from hbw)
    have hlen := hl.fnd_len j
    have HNX := (show Hid _ from hl.fnd_succ j)
    have HTJ := (show Hid _ from HTY.out j (.slice al g.n cl))
    have hld := RowAt.below HR2.out hbw (RowAt.lt HR2.out)
    have HMSx := (show Hid _ from HMS.out (.slice al g.n cl))
    clear hlt hgd hoi hcl hlo hbw HLS
    go_upto_region 11 with fail
    have hzm := o_zero v_zero_mac
    go_upto_region 12 with (first | refine wpList_load_row rfl 27 _ rfl w.heap.size rfl 27 A0 (0, 0) _ hld Try.underlying27 rfl (by rw [hA0s]; exact v_info_mac) ?_ | refine wpList_store_row rfl 27 _ _ rfl wr.heap.size A0 rfl rfl 27 _ (RowAt.new wr _ _) (by rw [hA0s]; exact v_info_mac) (by rw [hA0s, mac_size]) hA0o ?_)
    clear hzm
    have hb8 := Below.setRow ((Below.refl wr.heap.size wr).alloc (Nat.le_refl _) (.cells (mac (.slice none 0 0) (.slice none 0 0) (.slice none 0 0) (fun _ => 0) (fun _ => 0)) 27)) wr.heap.size (Nat.le_refl _) A0
    have hq := (RowAt.new wr 27 (mac (.slice none 0 0) (.slice none 0 0) (.slice none 0 0) (fun _ => 0) (fun _ => 0))).row A0
    generalize (wr.alloc (.cells (mac (.slice none 0 0) (.slice none 0 0) (.slice none 0 0) (fun _ => 0) (fun _ => 0)) 27)).setRow wr.heap.size A0 = X1 at *
    have c2 := hq.cell HMC.out
    have f2 := hq.frozen 2
    have hq2 := hq.set 2 (.slice al g.n cl)
    rw [HM2.out] at hq2
    have hb9 := hb8.setCell (p := ⟨wr.heap.size, 2, none⟩) (Nat.le_refl _) (.slice al g.n cl)
    have HQ2 := (show Hid _ from hq2)
    have HB9 := (show Hid _ from hb9)
    clear hq hb8 hld hq2 hb9
    go_upto_region 13 with fail
    have hq2 : RowAt (X1.setCell ⟨wr.heap.size, 2, none⟩ (.slice al g.n cl)) wr.heap.size 27 (MM (.slice al g.n cl)) := HQ2.out
    have hb9 : Below wr.heap.size wr (X1.setCell ⟨wr.heap.size, 2, none⟩ (.slice al g.n cl)) := HB9.out
    have hl2 := HsO.below HLO.out hb9
    have hbw2 := HBW.out.trans (hb9.mono HBW.out.size)
    generalize X1.setCell ⟨wr.heap.size, 2, none⟩ (.slice al g.n cl) = X2 at *
    clear c2 f2 HQ2 HB9 HLO HBW hb9
    have HCT := (show Hid _ from HTJ.out X2 (HB2.out.trans (hbw2.mono HB2.out.size)) (HUL.out X2 hbw2).nums)
    obtain ⟨A1, hA1⟩ : ∃ A1, A1 = MM (.slice al g.n cl) := ⟨_, rfl⟩
    rw [← hA1] at hq2 HCT HMSx
    have hA1s : A1.size = 55 := HMSx.out
    clear hA1 HTJ HMSx
    go_wp2_with (first | refine wpList_load_row rfl 27 _ rfl wr.heap.size rfl 27 A1 (0, 0) _ hq2 Try.underlying27 rfl (by rw [hA1s]; exact v_info_mac) ?_)
    refine Calls.mono HCT.out ?_
    rintro e X3 ⟨ug, B, rfl, hov, hb⟩
    obtain ⟨au, cu, rfl⟩ := own_formG hov
    have hl3 := HsO.below hl2 hb
    have hbw3 := hbw2.trans (hb.mono hbw2.size)
    have HBW3 := (show Hid (Below W2.heap.size W2 X3) from hbw3)
    have hsz3 := hbw3.size
    clear hb hl2 hbw2 HCT hq2 hbw3
    by_cases hp : 0 < (hl.lg j).length
    · have hp2 : (0 : Int) < ((hl.lg j).length : Int) := by omega
      have HNX2 : Hid (hl.fnd (j + 1) = hl.fnd j ++ [j]) := by
        have h1 := HNX.out
        rw [if_pos (show hl.p j = true from decide_eq_true hp)] at h1
        exact h1
      have HNW : Hid (HltO X3 (.slice al g.n cl) (.slice au (hl.lg j).length cu) hl j) := ⟨by rw [HLN.out]; exact HUL.out X3 HBW3.out, B, hov⟩
      obtain ⟨vs, hown, hvs⟩ := hl3
      have HVS := (show Hid _ from hvs)
      clear HNX hvs hp hov HUL HTY
      generalize (hl.lg j).length = lq at *
      go_wp2_with (first | refine wpList_buildA rfl 51 [(0, .tmp 50), (1, .tmp 51)] rfl [(0, .slice al g.n cl), (1, .slice au lq cu)] rfl _ (built_halt _ _ _ _ _ _) ?_ | refine wpList_build1c rfl 40 51 _ rfl 2 #[.slice none 0 0, .slice none 0 0] #[.slice al g.n cl, .slice au lq cu] rfl (by decide) (by decide) Try.underlying40 rfl rfl h_zs_halt ?_ | (at_builtin; refine wpList_append_own _ rfl _ _ 40 rfl W2.heap.size 51 i0 (.agg #[.slice none 0 0, .slice none 0 0]) 2 48 Try.underlying40 hi0 hz0 hz1 hz2 rfl (by decide) _ _ _ rfl (World.ownsRow.alloc hown _) ⟨X3.heap.size, 0, none⟩ 1 1 [.slice al g.n cl, .slice au lq cu] rfl rfl (cell_two_new _ _ _ _) (fun u hu => by simp at hu; rcases hu with rfl | rfl <;> rfl) (by unfold maxLen; omega) (by omega) (by simp; omega) ?_; intro v' w1 hown' hgrow _))
      go_roundw
      case rel =>
        have hoa := World.ownsRow.alloc hown (.cells #[.slice al g.n cl, .slice au lq cu] 51)
        have hbA : Below X3.heap.size X3 (X3.alloc (.cells #[.slice al g.n cl, .slice au lq cu] 51)) := (Below.refl _ _).alloc (Nat.le_refl _) _
        refine ⟨j + 1, v', HLT.out, by go_num, by first | rfl | trivial, ?_, ?_⟩
        · rw [HNX2.out]
          refine HsO.more hoa (fun kk N e => ?_) (HNW.out.below hbA) hown' hgrow
          obtain ⟨x1, x2, e1, e2, e3⟩ := HVS.out kk N e
          exact ⟨x1, x2, e1, e2, e3.below hbA⟩
        · exact (HBW3.out.alloc HBW3.out.size _).grown hgrow (by simp; omega) (fun p hp => (World.ownsRow.lt hoa p hp).1)
      case measure => have := HLT.out; simp [intOf]; omega
    · have hp2 : ¬ (0 : Int) < ((hl.lg j).length : Int) := by omega
      have HNX2 : Hid (hl.fnd (j + 1) = hl.fnd j) := by
        have h1 := HNX.out
        rw [if_neg (show ¬ hl.p j = true from fun e => hp (of_decide_eq_true e)), List.append_nil] at h1
        exact h1
      have HL3 := (show Hid _ from hl3)
      clear HNX hp hov HUL HTY hl3
      generalize (hl.lg j).length = lq at *
      go_wp2
      go_roundw
      case rel => exact ⟨j + 1, u, HLT.out, by go_num, by first | rfl | trivial, by rw [HNX2.out]; exact HL3.out, HBW3.out⟩
      case measure => have := HLT.out; simp [intOf]; omega
end Go.Proofs.Ytbbpbcmpemmgjaa
