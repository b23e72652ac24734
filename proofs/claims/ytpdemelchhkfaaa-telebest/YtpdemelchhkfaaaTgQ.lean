/-
  The closure of TeleBest: how often places fit, counted one by one; alone.
-/
import Derived.Test.YtpdemelchhkfaaaJn27
import Derived.Test.YtpdemelchhkfaaaTgB
namespace Go.Proofs.Ytpdemelchhkfaaa
open Go.RowKit PK Tl
theorem tb_info : (Try.prog.info? 33).map (fun i => (i.zero, i.size)) = some (some (.agg #[.slice none 0 0, .int .i64 0]), 2) := by kernel_rfl
theorem tb_zero : (Try.prog.info? 33).map (·.zero) = some (some (.agg #[.slice none 0 0, .int .i64 0])) := by kernel_rfl
theorem tb_size : (Try.prog.info? 33).map (·.size) = some 2 := by kernel_rfl
theorem run_build_tb (a b c d : Value) (w : World) (_ : a.oneCell' = true) (_ : b.oneCell' = true) (_ : c.oneCell' = true) (_ : d.oneCell' = true) : (Instr.buildSlice 34 2 #[(0, .agg #[a, b]), (1, .agg #[c, d])]).run Try.prog w = .ok (.slice (some ⟨w.heap.size, 0, none⟩) 2 2) (w.alloc (.cells #[a, b, c, d] 33)) := by
  cases hq : Try.prog.info? 33 with
  | none => have := tb_info; rw [hq] at this; cases this
  | some i =>
    have h1 := tb_info
    rw [hq] at h1
    simp only [Option.map_some, Option.some.injEq, Prod.mk.injEq] at h1
    simp [Instr.buildSlice, run_underlying Try.underlying34, sizeOf, typeInfo, hq, h1.1, h1.2, zeroValue, go_sem]
theorem odd_ev (f : Nat → Nat) (p : Nat → Bool) (la : Nat) (q : Nat → Bool) (lb x y i z4 z3 : Nat) (h0 : f i < 32) (h1 : f (i + 1) < 32) (e4 : (f i ^^^ f (i + 1)) / 16 % 2 = z4) (e3 : (f i ^^^ f (i + 1)) / 8 % 2 = z3) : (((((z4 : Nat) : Int) != ((z3 : Nat) : Int)) != (p ((x + i) % la) != p ((x + (i + 1)) % la))) != (q ((y + i) % lb) != q ((y + (i + 1)) % lb))) = !(ev f p la q lb x y i) := by
  have key : ∀ a b : Fin 32, (((a.1 ^^^ b.1) / 16 % 2 : Nat) : Int) = (((a.1 / 16 + b.1 / 16) % 2 : Nat) : Int) ∧ (((a.1 ^^^ b.1) / 8 % 2 : Nat) : Int) = (((a.1 / 8 + b.1 / 8) % 2 : Nat) : Int) := by decide +kernel
  obtain ⟨k4, k3⟩ := key ⟨f i, h0⟩ ⟨f (i + 1), h1⟩
  rw [← e4, ← e3, k4, k3]
  unfold ev evS
  have e : ∀ A B C D P1 P2 Q1 Q2 : Nat, (A + B + C + D + P1 + P2 + Q1 + Q2) % 2 = ((A + B) % 2 + (C + D) % 2 + P1 + P2 + Q1 + Q2) % 2 := fun A B C D P1 P2 Q1 Q2 => by omega
  rw [e]
  unfold pnN
  rcases Nat.mod_two_eq_zero_or_one (f i / 16 + f (i + 1) / 16) with ha | ha <;> rcases Nat.mod_two_eq_zero_or_one (f i / 8 + f (i + 1) / 8) with hb | hb <;> rw [ha, hb] <;> cases p ((x + i) % la) <;> cases p ((x + (i + 1)) % la) <;> cases q ((y + i) % lb) <;> cases q ((y + (i + 1)) % lb) <;> rfl
theorem bits_one (z k : Nat) (h : z < 32) : bits .and .i64 ((z : Int) / (k : Nat)) 1 = ((z / k % 2 : Nat) : Int) := by
  have e : ((z : Int) / (k : Nat)) = ((z / k : Nat) : Int) := by push_cast; rfl
  rw [e]
  have hle : z / k < 32 := Nat.lt_of_le_of_lt (Nat.div_le_self _ _) h
  have key : ∀ u : Fin 32, bits .and .i64 ((u.1 : Nat) : Int) 1 = ((u.1 % 2 : Nat) : Int) := by decide +kernel
  exact key ⟨z / k, hle⟩
noncomputable def fcB : Code := Try.f10.body.getD .skip
noncomputable def fcIn : Code := match fcB with | .seq _ (.seq _ (.seq (.seq _ (.block _ (.loop (.seq _ (.seq (.block _ (.seq _ (.seq c _))) _))))) _)) => c | _ => .skip
set_option maxRecDepth 100000 in
set_option maxHeartbeats 4000000 in
/-- The two wheels of a letter. -/
theorem fc_in (dT dA dB la lb x y b1 o1 k1 b2 o2 k2 i : Nat) (p q : Nat → Bool) (D E : Bool) (ha : 1 ≤ la ∧ la ≤ 47) (hb : 1 ≤ lb ∧ lb ≤ 47) (hx : x < 47) (hy : y < 47) (hi2 : i < 65537) (w wr : World) (hbe : Below w.heap.size w wr) (h1 : ∀ c, c < la → w.cell? ⟨b1, o1 + c, none⟩ = some (.bool (p c))) (h2 : ∀ c, c < lb → w.cell? ⟨b2, o2 + c, none⟩ = some (.bool (q c))) (HAA : w.cell? ⟨dA, 0, none⟩ = some (.slice (some ⟨b1, o1, none⟩) la k1)) (HBB : w.cell? ⟨dB, 0, none⟩ = some (.slice (some ⟨b2, o2, none⟩) lb k2)) (hE : ((D != (p ((x + i) % la) != p ((x + (i + 1)) % la))) != (q ((y + i) % lb) != q ((y + (i + 1)) % lb))) = !E) {v5 v6 v7 v8 v11 v12 v13 v14 v15 v16 v17 v18 v19 v20 v21 v22 v23 v24 v25 v26 v27 v28 v29 v30 v31 v32 v33 v34 v35 v36 v37 v38 v39 v40 v41 v42 v43 v44 v45 v46 v47 v48 v49 v50 v51 v52 v53 v54 v55 v56 v57 v58 v59 v60 v61 v62 v63 v64 v65 v66 v67 v68 v69 v70 v71 v72 v73 v74 v75 v76 v77 v78 v79 v80 v81 v82 v83 v84 v85 v86 v87 v88 v89 v90 : Value} (Q : Exit → Act → World → Prop)
    (hQ : ∀ (e12 e45 e46 e47 e48 e49 e50 e51 e52 e53 e54 e55 e56 e57 e58 e59 e60 e61 e62 e63 e64 e65 e66 e67 e68 e69 e70 e71 e72 e73 e74 e75 e76 e77 e78 e79 e80 e81 e82 e83 e84 e85 : Value) (W : World), Below w.heap.size w W → Q .normal ⟨#[.int .i64 (x : Nat), .int .i64 (y : Nat), .pointer (some ⟨dT, 0, none⟩), .pointer (some ⟨dA, 0, none⟩), .pointer (some ⟨dB, 0, none⟩), v5, v6, v7, v8, .int .i64 (i : Nat), .bool (! E), v11, e12, v13, v14, v15, v16, v17, v18, v19, v20, v21, v22, v23, v24, v25, v26, v27, v28, v29, v30, v31, v32, v33, v34, v35, v36, v37, v38, v39, v40, v41, v42, v43, v44, e45, e46, e47, e48, e49, e50, e51, e52, e53, e54, e55, e56, e57, e58, e59, e60, e61, e62, e63, e64, e65, e66, e67, e68, e69, e70, e71, e72, e73, e74, e75, e76, e77, e78, e79, e80, e81, e82, e83, e84, e85, v86, v87, v88, v89, v90], []⟩ W) : fcIn.wp Try.prog Q ⟨#[.int .i64 (x : Nat), .int .i64 (y : Nat), .pointer (some ⟨dT, 0, none⟩), .pointer (some ⟨dA, 0, none⟩), .pointer (some ⟨dB, 0, none⟩), v5, v6, v7, v8, .int .i64 (i : Nat), .bool D, v11, v12, v13, v14, v15, v16, v17, v18, v19, v20, v21, v22, v23, v24, v25, v26, v27, v28, v29, v30, v31, v32, v33, v34, v35, v36, v37, v38, v39, v40, v41, v42, v43, v44, v45, v46, v47, v48, v49, v50, v51, v52, v53, v54, v55, v56, v57, v58, v59, v60, v61, v62, v63, v64, v65, v66, v67, v68, v69, v70, v71, v72, v73, v74, v75, v76, v77, v78, v79, v80, v81, v82, v83, v84, v85, v86, v87, v88, v89, v90], []⟩ wr := by
  have cA := (hbe.cell (p := ⟨dA, 0, none⟩) (cell_block HAA)).trans HAA
  have cB := (hbe.cell (p := ⟨dB, 0, none⟩) (cell_block HBB)).trans HBB
  have P1 := (show Hid (∀ c W, c < la → Below w.heap.size w W → W.cell? ⟨b1, o1 + c, none⟩ = some (.bool (p c))) from fun c W hc hW => (hW.cell (p := ⟨b1, o1 + c, none⟩) (cell_block (h1 c hc))).trans (h1 c hc))
  have P2 := (show Hid (∀ c W, c < lb → Below w.heap.size w W → W.cell? ⟨b2, o2 + c, none⟩ = some (.bool (q c))) from fun c W hc hW => (hW.cell (p := ⟨b2, o2 + c, none⟩) (cell_block (h2 c hc))).trans (h2 c hc))
  have HBE := (show Hid (Below w.heap.size w wr) from hbe)
  have HQ := (show Hid (∀ (e12 e45 e46 e47 e48 e49 e50 e51 e52 e53 e54 e55 e56 e57 e58 e59 e60 e61 e62 e63 e64 e65 e66 e67 e68 e69 e70 e71 e72 e73 e74 e75 e76 e77 e78 e79 e80 e81 e82 e83 e84 e85 : Value) (W : World), Below w.heap.size w W → Q .normal ⟨#[.int .i64 (x : Nat), .int .i64 (y : Nat), .pointer (some ⟨dT, 0, none⟩), .pointer (some ⟨dA, 0, none⟩), .pointer (some ⟨dB, 0, none⟩), v5, v6, v7, v8, .int .i64 (i : Nat), .bool (! E), v11, e12, v13, v14, v15, v16, v17, v18, v19, v20, v21, v22, v23, v24, v25, v26, v27, v28, v29, v30, v31, v32, v33, v34, v35, v36, v37, v38, v39, v40, v41, v42, v43, v44, e45, e46, e47, e48, e49, e50, e51, e52, e53, e54, e55, e56, e57, e58, e59, e60, e61, e62, e63, e64, e65, e66, e67, e68, e69, e70, e71, e72, e73, e74, e75, e76, e77, e78, e79, e80, e81, e82, e83, e84, e85, v86, v87, v88, v89, v90], []⟩ W) from hQ)
  have HE := (show Hid (((D != (p ((x + i) % la) != p ((x + (i + 1)) % la))) != (q ((y + i) % lb) != q ((y + (i + 1)) % lb))) = !E) from hE)
  have hz := tf_zero (P := Try.prog) tb_zero
  have hbt := fun W => run_build_tb (.slice (some ⟨b1, o1, none⟩) la k1) (.int .i64 (x : Nat)) (.slice (some ⟨b2, o2, none⟩) lb k2) (.int .i64 (y : Nat)) W rfl rfl rfl rfl
  clear hbe h1 h2 HAA HBB hQ hE
  simp only [fcIn, fcB, Try.f10, Option.getD_some]
  go_wp2_with fail
  have hr5 : RowAt (wr.alloc (.cells #[.slice (some ⟨b1, o1, none⟩) la k1, .int .i64 (x : Nat), .slice (some ⟨b2, o2, none⟩) lb k2, .int .i64 (y : Nat)] 33)) wr.heap.size 33 #[.slice (some ⟨b1, o1, none⟩) la k1, .int .i64 (x : Nat), .slice (some ⟨b2, o2, none⟩) lb k2, .int .i64 (y : Nat)] := RowAt.new wr 33 #[.slice (some ⟨b1, o1, none⟩) la k1, .int .i64 (x : Nat), .slice (some ⟨b2, o2, none⟩) lb k2, .int .i64 (y : Nat)]
  have hb5 : Below w.heap.size w (wr.alloc (.cells #[.slice (some ⟨b1, o1, none⟩) la k1, .int .i64 (x : Nat), .slice (some ⟨b2, o2, none⟩) lb k2, .int .i64 (y : Nat)] 33)) := HBE.out.alloc HBE.out.size _
  have hcw : w.heap.size ≤ wr.heap.size := HBE.out.size
  generalize wr.alloc (.cells #[.slice (some ⟨b1, o1, none⟩) la k1, .int .i64 (x : Nat), .slice (some ⟨b2, o2, none⟩) lb k2, .int .i64 (y : Nat)] 33) = W5 at *
  generalize wr.heap.size = hs at *
  have HB5 := (show Hid (Below w.heap.size w W5) from hb5)
  have H5 := (show Hid (RowAt W5 hs 33 #[.slice (some ⟨b1, o1, none⟩) la k1, .int .i64 (x : Nat), .slice (some ⟨b2, o2, none⟩) lb k2, .int .i64 (y : Nat)]) from hr5)
  obtain ⟨od, ho0, hoS⟩ : ∃ od : Nat → Bool, od 0 = D ∧ (od 1 = (od 0 != (p ((x + i) % la) != p ((x + (i + 1)) % la))) ∧ od 2 = (od 1 != (q ((y + i) % lb) != q ((y + (i + 1)) % lb)))) := ⟨fun j => if j = 0 then D else if j = 1 then (D != (p ((x + i) % la) != p ((x + (i + 1)) % la))) else ((D != (p ((x + i) % la) != p ((x + (i + 1)) % la))) != (q ((y + i) % lb) != q ((y + (i + 1)) % lb))), rfl, rfl, rfl⟩
  have HOS := (show Hid (od 1 = (od 0 != (p ((x + i) % la) != p ((x + (i + 1)) % la))) ∧ od 2 = (od 1 != (q ((y + i) % lb) != q ((y + (i + 1)) % lb)))) from hoS)
  have HOE : Hid (od 2 = !E) := by rw [Hid, hoS.2, hoS.1, ho0]; exact HE.out
  rw [← ho0]
  clear hb5 hr5 ho0 hoS HE cA cB hbt HBE
  go_loopw [53, 10] (fun j d W => ∃ k : Nat, k ≤ 2 ∧ j = .int .i64 (k : Nat) ∧ d = .bool (od k) ∧ Below W5.heap.size W5 W) (fun j _ _ => (2 - intOf j).toNat)
  case atStart => exact ⟨0, by omega, rfl, rfl, Below.refl _ W5⟩
  case round =>
    obtain ⟨k, hk, rfl, rfl, hbk⟩ := hrel
    have H6 := (show Hid (RowAt wr hs 33 #[.slice (some ⟨b1, o1, none⟩) la k1, .int .i64 (x : Nat), .slice (some ⟨b2, o2, none⟩) lb k2, .int .i64 (y : Nat)]) from H5.out.below hbk H5.out.lt)
    have HB6 := (show Hid (Below w.heap.size w wr) from HB5.out.trans (hbk.mono HB5.out.size))
    have HBK := (show Hid (Below W5.heap.size W5 wr) from hbk)
    have hlW := hbk.size
    clear hbk
    by_cases hlt5 : k < 2
    case neg =>
      obtain rfl : k = 2 := by omega
      clear hk
      go_wp2
      rw [HOE.out]
      exact HQ.out _ _ _ _ _ _ _ _ _ _ _ _ _ _ _ _ _ _ _ _ _ _ _ _ _ _ _ _ _ _ _ _ _ _ _ _ _ _ _ _ _ _ _ HB6.out
    have hlt6 : (k : Int) < 2 := by omega
    obtain ⟨bb, ob, kb, lw, xw, pw, c0, c1, P3, hl1, hl2, hxw, HO⟩ : ∃ (bb ob kb lw xw : Nat) (pw : Nat → Bool), wr.cell? ⟨hs, k * 2, none⟩ = some (.slice (some ⟨bb, ob, none⟩) lw kb) ∧ wr.cell? ⟨hs, k * 2 + 1, none⟩ = some (.int .i64 (xw : Nat)) ∧ Hid (∀ c W, c < lw → Below w.heap.size w W → W.cell? ⟨bb, ob + c, none⟩ = some (.bool (pw c))) ∧ 1 ≤ lw ∧ lw ≤ 47 ∧ xw < 47 ∧ Hid (od (k + 1) = (od k != (pw ((xw + i) % lw) != pw ((xw + (i + 1)) % lw)))) := by
      rcases (by omega : k = 0 ∨ k = 1) with rfl | rfl
      · exact ⟨b1, o1, k1, la, x, p, H6.out.cell (i := 0) rfl, H6.out.cell (i := 1) rfl, P1, ha.1, ha.2, hx, HOS.out.1⟩
      · exact ⟨b2, o2, k2, lb, y, q, H6.out.cell (i := 2) rfl, H6.out.cell (i := 3) rfl, P2, hb.1, hb.2, hy, HOS.out.2⟩
    have hm1 : ((xw : Int) + (i : Int)).tmod (lw : Int) = (((xw + i) % lw : Nat) : Int) := by rw [Int.tmod_eq_emod_of_nonneg (by omega)]; push_cast; rfl
    have hm2 : ((xw : Int) + (i : Int) + 1).tmod (lw : Int) = (((xw + (i + 1)) % lw : Nat) : Int) := by rw [Int.tmod_eq_emod_of_nonneg (by omega)]; push_cast; rw [Int.add_assoc]
    have r1 : (xw + i) % lw < lw := Nat.mod_lt _ (by omega)
    have r2 : (xw + (i + 1)) % lw < lw := Nat.mod_lt _ (by omega)
    generalize (xw + i) % lw = m1 at *
    generalize (xw + (i + 1)) % lw = m2 at *
    have hlw0 : ¬ lw = 0 := by omega
    clear HOS P1 P2 HOE
    go_upto_region 9 with fail
    have hr7 := RowAt.new wr 33 #[.slice (some ⟨bb, ob, none⟩) lw kb, .int .i64 (xw : Nat)]
    have hb7 : Below w.heap.size w (wr.alloc (.cells #[.slice (some ⟨bb, ob, none⟩) lw kb, .int .i64 (xw : Nat)] 33)) := HB6.out.alloc HB6.out.size _
    have hb8 : Below W5.heap.size W5 (wr.alloc (.cells #[.slice (some ⟨bb, ob, none⟩) lw kb, .int .i64 (xw : Nat)] 33)) := HBK.out.alloc hlW _
    clear HBK H6 HB6 hlW c0 c1
    generalize wr.alloc (.cells #[.slice (some ⟨bb, ob, none⟩) lw kb, .int .i64 (xw : Nat)] 33) = W7 at *
    generalize wr.heap.size = g7 at *
    have f0 := hr7.cell (i := 0) rfl
    have f1 := hr7.cell (i := 1) rfl
    have q1 := P3.out m1 W7 r1 hb7
    have q2 := P3.out m2 W7 r2 hb7
    have HB8 := (show Hid (Below W5.heap.size W5 W7) from hb8)
    obtain ⟨C1, hC1⟩ : ∃ C, C = pw m1 := ⟨_, rfl⟩
    obtain ⟨C2, hC2⟩ : ∃ C, C = pw m2 := ⟨_, rfl⟩
    rw [← hC1] at q1 HO
    rw [← hC2] at q2 HO
    have HL : Hid (∀ W, Below W7.heap.size W7 W → W.cell? ⟨g7, 0, none⟩ = some (.slice (some ⟨bb, ob, none⟩) lw kb) ∧ W.cell? ⟨g7, 1, none⟩ = some (.int .i64 (xw : Nat)) ∧ W.cell? ⟨bb, ob + m1, none⟩ = some (.bool C1) ∧ W.cell? ⟨bb, ob + m2, none⟩ = some (.bool C2)) := fun W hW => ⟨(hW.cell (p := ⟨g7, 0, none⟩) (cell_block f0)).trans f0, (hW.cell (p := ⟨g7, 1, none⟩) (cell_block f1)).trans f1, (hW.cell (p := ⟨bb, ob + m1, none⟩) (cell_block q1)).trans q1, (hW.cell (p := ⟨bb, ob + m2, none⟩) (cell_block q2)).trans q2⟩
    clear hC1 hC2 hr7 hb7 hb8 P3 ha hb hx hy hz f0 f1 q1 q2
    refine wp_region_noPanic ?_
    refine wp_region_held_drew (S := fun W => Below W7.heap.size W7 W) (by kernel_rfl) (Below.refl _ W7).drew (fun hS => ?_)
    obtain ⟨U, hU⟩ : ∃ x, x = W7.drew := ⟨_, rfl⟩
    rw [← hU] at hS ⊢
    clear hU
    refine vtake 0 57 (.pointer (some ⟨g7, 0, none⟩)) rfl rfl (by kernel_rfl) (by kernel_rfl) (by kernel_rfl) (fun _ _ _ _ h => h) (by rfl) (fun W hW => by clear hS hW; go_simp) hS ?_
    simp only [List.setIfInBounds_toArray, List.set_cons_succ, List.set_cons_zero]
    refine vtake 1 58 (.slice (some ⟨bb, ob, none⟩) lw kb) rfl rfl (by kernel_rfl) (by kernel_rfl) (by kernel_rfl) (fun _ _ _ _ h => h) (by rfl) (fun W hW => by obtain ⟨e1, e2, e3, e4⟩ := HL.out W hW; clear hS hW; go_simp) hS ?_
    simp only [List.setIfInBounds_toArray, List.set_cons_succ, List.set_cons_zero]
    refine vtake 2 59 (.pointer (some ⟨g7, 1, none⟩)) rfl rfl (by kernel_rfl) (by kernel_rfl) (by kernel_rfl) (fun _ _ _ _ h => h) (by rfl) (fun W hW => by clear hS hW; go_simp) hS ?_
    simp only [List.setIfInBounds_toArray, List.set_cons_succ, List.set_cons_zero]
    refine vtake 3 60 (.int .i64 (xw : Nat)) rfl rfl (by kernel_rfl) (by kernel_rfl) (by kernel_rfl) (fun _ _ _ _ h => h) (by rfl) (fun W hW => by obtain ⟨e1, e2, e3, e4⟩ := HL.out W hW; clear hS hW; go_simp) hS ?_
    simp only [List.setIfInBounds_toArray, List.set_cons_succ, List.set_cons_zero]
    refine vtake 4 61 (.int .i64 (i : Nat)) rfl rfl (by kernel_rfl) (by kernel_rfl) (by kernel_rfl) (fun _ _ _ _ h => h) (by rfl) (fun W hW => by clear hS hW; go_simp) hS ?_
    simp only [List.setIfInBounds_toArray, List.set_cons_succ, List.set_cons_zero]
    refine vtake 5 62 (.int .i64 ((xw : Int) + (i : Int))) rfl rfl (by kernel_rfl) (by kernel_rfl) (by kernel_rfl) (fun _ _ _ _ h => h) (by rfl) (fun W hW => by have u1 : IntKind.i64.wrap ((xw : Int) + (i : Int)) = (xw : Int) + (i : Int) := (by rw [IntKind.wrap_i64]; omega); clear hS hW; go_simp) hS ?_
    simp only [List.setIfInBounds_toArray, List.set_cons_succ, List.set_cons_zero]
    refine vtake 6 63 (.pointer (some ⟨g7, 0, none⟩)) rfl rfl (by kernel_rfl) (by kernel_rfl) (by kernel_rfl) (fun _ _ _ _ h => h) (by rfl) (fun W hW => by clear hS hW; go_simp) hS ?_
    simp only [List.setIfInBounds_toArray, List.set_cons_succ, List.set_cons_zero]
    refine vtake 7 64 (.slice (some ⟨bb, ob, none⟩) lw kb) rfl rfl (by kernel_rfl) (by kernel_rfl) (by kernel_rfl) (fun _ _ _ _ h => h) (by rfl) (fun W hW => by obtain ⟨e1, e2, e3, e4⟩ := HL.out W hW; clear hS hW; go_simp) hS ?_
    simp only [List.setIfInBounds_toArray, List.set_cons_succ, List.set_cons_zero]
    refine vtake 8 65 (.int .i64 (lw : Nat)) rfl rfl (by kernel_rfl) (by kernel_rfl) (by kernel_rfl) (fun _ _ _ _ h => h) (by rfl) (fun W hW => by clear hS hW; go_simp) hS ?_
    simp only [List.setIfInBounds_toArray, List.set_cons_succ, List.set_cons_zero]
    refine vtake 9 66 (.int .i64 (m1 : Nat)) rfl rfl (by kernel_rfl) (by kernel_rfl) (by kernel_rfl) (fun _ _ _ _ h => h) (by rfl) (fun W hW => by clear hS hW; go_simp) hS ?_
    simp only [List.setIfInBounds_toArray, List.set_cons_succ, List.set_cons_zero]
    refine vtake 10 67 (.pointer (some ⟨bb, ob + m1, none⟩)) rfl rfl (by kernel_rfl) (by kernel_rfl) (by kernel_rfl) (fun _ _ _ _ h => h) (by rfl) (fun W hW => by clear hS hW; go_simp) hS ?_
    simp only [List.setIfInBounds_toArray, List.set_cons_succ, List.set_cons_zero]
    refine vtake 11 68 (.bool C1) rfl rfl (by kernel_rfl) (by kernel_rfl) (by kernel_rfl) (fun _ _ _ _ h => h) (by rfl) (fun W hW => by obtain ⟨e1, e2, e3, e4⟩ := HL.out W hW; clear hS hW; go_simp) hS ?_
    simp only [List.setIfInBounds_toArray, List.set_cons_succ, List.set_cons_zero]
    refine vtake 12 69 (.pointer (some ⟨g7, 0, none⟩)) rfl rfl (by kernel_rfl) (by kernel_rfl) (by kernel_rfl) (fun _ _ _ _ h => h) (by rfl) (fun W hW => by clear hS hW; go_simp) hS ?_
    simp only [List.setIfInBounds_toArray, List.set_cons_succ, List.set_cons_zero]
    refine vtake 13 70 (.slice (some ⟨bb, ob, none⟩) lw kb) rfl rfl (by kernel_rfl) (by kernel_rfl) (by kernel_rfl) (fun _ _ _ _ h => h) (by rfl) (fun W hW => by obtain ⟨e1, e2, e3, e4⟩ := HL.out W hW; clear hS hW; go_simp) hS ?_
    simp only [List.setIfInBounds_toArray, List.set_cons_succ, List.set_cons_zero]
    refine vtake 14 71 (.pointer (some ⟨g7, 1, none⟩)) rfl rfl (by kernel_rfl) (by kernel_rfl) (by kernel_rfl) (fun _ _ _ _ h => h) (by rfl) (fun W hW => by clear hS hW; go_simp) hS ?_
    simp only [List.setIfInBounds_toArray, List.set_cons_succ, List.set_cons_zero]
    refine vtake 15 72 (.int .i64 (xw : Nat)) rfl rfl (by kernel_rfl) (by kernel_rfl) (by kernel_rfl) (fun _ _ _ _ h => h) (by rfl) (fun W hW => by obtain ⟨e1, e2, e3, e4⟩ := HL.out W hW; clear hS hW; go_simp) hS ?_
    simp only [List.setIfInBounds_toArray, List.set_cons_succ, List.set_cons_zero]
    refine vtake 16 73 (.int .i64 (i : Nat)) rfl rfl (by kernel_rfl) (by kernel_rfl) (by kernel_rfl) (fun _ _ _ _ h => h) (by rfl) (fun W hW => by clear hS hW; go_simp) hS ?_
    simp only [List.setIfInBounds_toArray, List.set_cons_succ, List.set_cons_zero]
    refine vtake 17 74 (.int .i64 ((xw : Int) + (i : Int))) rfl rfl (by kernel_rfl) (by kernel_rfl) (by kernel_rfl) (fun _ _ _ _ h => h) (by rfl) (fun W hW => by have u1 : IntKind.i64.wrap ((xw : Int) + (i : Int)) = (xw : Int) + (i : Int) := (by rw [IntKind.wrap_i64]; omega); clear hS hW; go_simp) hS ?_
    simp only [List.setIfInBounds_toArray, List.set_cons_succ, List.set_cons_zero]
    refine vtake 18 75 (.int .i64 ((xw : Int) + (i : Int) + 1)) rfl rfl (by kernel_rfl) (by kernel_rfl) (by kernel_rfl) (fun _ _ _ _ h => h) (by rfl) (fun W hW => by have u1 : IntKind.i64.wrap ((xw : Int) + (i : Int) + 1) = (xw : Int) + (i : Int) + 1 := (by rw [IntKind.wrap_i64]; omega); clear hS hW; go_simp) hS ?_
    simp only [List.setIfInBounds_toArray, List.set_cons_succ, List.set_cons_zero]
    refine vtake 19 76 (.pointer (some ⟨g7, 0, none⟩)) rfl rfl (by kernel_rfl) (by kernel_rfl) (by kernel_rfl) (fun _ _ _ _ h => h) (by rfl) (fun W hW => by clear hS hW; go_simp) hS ?_
    simp only [List.setIfInBounds_toArray, List.set_cons_succ, List.set_cons_zero]
    refine vtake 20 77 (.slice (some ⟨bb, ob, none⟩) lw kb) rfl rfl (by kernel_rfl) (by kernel_rfl) (by kernel_rfl) (fun _ _ _ _ h => h) (by rfl) (fun W hW => by obtain ⟨e1, e2, e3, e4⟩ := HL.out W hW; clear hS hW; go_simp) hS ?_
    simp only [List.setIfInBounds_toArray, List.set_cons_succ, List.set_cons_zero]
    refine vtake 21 78 (.int .i64 (lw : Nat)) rfl rfl (by kernel_rfl) (by kernel_rfl) (by kernel_rfl) (fun _ _ _ _ h => h) (by rfl) (fun W hW => by clear hS hW; go_simp) hS ?_
    simp only [List.setIfInBounds_toArray, List.set_cons_succ, List.set_cons_zero]
    refine vtake 22 79 (.int .i64 (m2 : Nat)) rfl rfl (by kernel_rfl) (by kernel_rfl) (by kernel_rfl) (fun _ _ _ _ h => h) (by rfl) (fun W hW => by clear hS hW; go_simp) hS ?_
    simp only [List.setIfInBounds_toArray, List.set_cons_succ, List.set_cons_zero]
    refine vtake 23 80 (.pointer (some ⟨bb, ob + m2, none⟩)) rfl rfl (by kernel_rfl) (by kernel_rfl) (by kernel_rfl) (fun _ _ _ _ h => h) (by rfl) (fun W hW => by clear hS hW; go_simp) hS ?_
    simp only [List.setIfInBounds_toArray, List.set_cons_succ, List.set_cons_zero]
    refine vtake 24 81 (.bool C2) rfl rfl (by kernel_rfl) (by kernel_rfl) (by kernel_rfl) (fun _ _ _ _ h => h) (by rfl) (fun W hW => by obtain ⟨e1, e2, e3, e4⟩ := HL.out W hW; clear hS hW; go_simp) hS ?_
    simp only [List.setIfInBounds_toArray, List.set_cons_succ, List.set_cons_zero]
    refine vtake 25 82 (.bool (C1 != C2)) rfl rfl (by kernel_rfl) (by kernel_rfl) (by kernel_rfl) (fun _ _ _ _ h => h) (by rfl) (fun W hW => by clear hS hW; go_simp; cases C1 <;> cases C2 <;> rfl) hS ?_
    simp only [List.setIfInBounds_toArray, List.set_cons_succ, List.set_cons_zero]
    refine wpAnyH_done (by kernel_rfl) ?_ _
    refine NoPanic.normal ?_
    have HS := (show Hid (Below W5.heap.size W5 U) from HB8.out.trans (hS.mono HB8.out.size))
    clear hS HL
    cases hcc : (C1 != C2) with
    | true =>
      have HO2 : Hid (od (k + 1) = !(od k)) := by rw [Hid, HO.out, hcc]; cases od k <;> rfl
      clear HO
      go_wp2
      all_goals go_roundw
      case rel => exact ⟨k + 1, by omega, by go_num, by rw [HO2.out], HS.out⟩
      case measure => simp [intOf]; omega
    | false =>
      have HO2 : Hid (od (k + 1) = od k) := by rw [Hid, HO.out, hcc]; cases od k <;> rfl
      clear HO
      go_wp2
      all_goals go_roundw
      case rel => exact ⟨k + 1, by omega, by go_num, by rw [HO2.out], HS.out⟩
      case measure => simp [intOf]; omega
set_option maxRecDepth 100000 in
set_option maxHeartbeats 8000000 in
theorem pfc_any (dT dA dB n la lb x y b1 o1 k1 b2 o2 k2 : Nat) (v : Value) (f : Nat → Nat) (p q : Nat → Bool) (hn : n ≤ 65536) (hf : ∀ i, i < n → f i < 32) (ha : 1 ≤ la ∧ la ≤ 47) (hb : 1 ≤ lb ∧ lb ≤ 47) (hx : x < 47) (hy : y < 47) (w : World) (hv : NumsAt w v n (fun i => (f i : Int))) (h1 : ∀ c, c < la → w.cell? ⟨b1, o1 + c, none⟩ = some (.bool (p c))) (h2 : ∀ c, c < lb → w.cell? ⟨b2, o2 + c, none⟩ = some (.bool (q c))) (cT : w.cell? ⟨dT, 0, none⟩ = some v) (cA : w.cell? ⟨dA, 0, none⟩ = some (.slice (some ⟨b1, o1, none⟩) la k1)) (cB : w.cell? ⟨dB, 0, none⟩ = some (.slice (some ⟨b2, o2, none⟩) lb k2)) :
    Calls Try.prog 10 #[.int .i64 (x : Nat), .int .i64 (y : Nat), .pointer (some ⟨dT, 0, none⟩), .pointer (some ⟨dA, 0, none⟩), .pointer (some ⟨dB, 0, none⟩)] w fun e w' => e = .returned (.int .i64 (cntN f n p la q lb x y : Nat)) ∧ Below w.heap.size w w' := by
  obtain ⟨a, cap, rfl, _, hca⟩ := hv
  have HA := (show Hid (∀ c, c < n → ∃ b o, a = some ⟨b, o, none⟩ ∧ w.cell? ⟨b, o + c, none⟩ = some (.int .i64 (f c : Int))) from hca)
  have HF := (show Hid (∀ i, i < n → f i < 32) from hf)
  have HP1 := (show Hid (∀ c, c < la → w.cell? ⟨b1, o1 + c, none⟩ = some (.bool (p c))) from h1)
  have HP2 := (show Hid (∀ c, c < lb → w.cell? ⟨b2, o2 + c, none⟩ = some (.bool (q c))) from h2)
  have HC : Hid (∀ m, m + 1 = n ∨ (m = 0 ∧ n = 0) → Tf.cn (ev f p la q lb x y) m = cntN f n p la q lb x y) := fun m h => by unfold cntN; congr 1; omega
  have HT := (show Hid (w.cell? ⟨dT, 0, none⟩ = some (.slice a n cap)) from cT)
  have HAA := (show Hid (w.cell? ⟨dA, 0, none⟩ = some (.slice (some ⟨b1, o1, none⟩) la k1)) from cA)
  have HBB := (show Hid (w.cell? ⟨dB, 0, none⟩ = some (.slice (some ⟨b2, o2, none⟩) lb k2)) from cB)
  clear hca hf h1 h2 cT cA cB
  go_enter Try.func10, Try.ntmps10
  go_wp2_with fail
  go_loopw [9, 8] (fun i c W => ∃ m : Nat, (m + 1 ≤ n ∨ (m = 0 ∧ n = 0)) ∧ i = .int .i64 (m : Nat) ∧ c = .int .i64 (Tf.cn (ev f p la q lb x y) m : Nat) ∧ Below w.heap.size w W) (fun i _ _ => ((n : Int) - intOf i).toNat)
  case atStart => exact ⟨0, by omega, rfl, rfl, Below.refl _ w⟩
  case round =>
    obtain ⟨i, hi, rfl, rfl, hbe⟩ := hrel
    have hi2 : i < 65537 := by omega
    have cT := (hbe.cell (p := ⟨dT, 0, none⟩) (cell_block HT.out)).trans HT.out
    have hwi : IntKind.i64.wrap ((i : Int) + 1) = (i : Int) + 1 := by rw [IntKind.wrap_i64]; omega
    by_cases hlt : i + 1 < n
    case neg =>
      have HE := (show Hid (Tf.cn (ev f p la q lb x y) i = cntN f n p la q lb x y) from HC.out i (by omega))
      have HBE := (show Hid (Below w.heap.size w wr) from hbe)
      have hnn : ¬ ((i : Nat) : Int) + 1 < ((n : Nat) : Int) := by omega
      clear hbe hi
      go_wp2
      go_ret
      exact ⟨by rw [HE.out]; rfl, HBE.out⟩
    have HLT : Hid (i + 1 < n) := hlt
    have hlt2 : (i : Int) + 1 < (n : Int) := by omega
    have hlt3 : (i : Int) < (n : Int) := by omega
    have hge : ¬ (i : Int) + 1 < 0 := by omega
    obtain ⟨b, o, e0, c0⟩ := HA.out i (by omega)
    obtain ⟨b', o', e1, c1⟩ := HA.out (i + 1) hlt
    subst e0
    cases e1
    have d0 := (hbe.cell (p := ⟨b, o + i, none⟩) (cell_block c0)).trans c0
    have d1 := (hbe.cell (p := ⟨b, o + (i + 1), none⟩) (cell_block c1)).trans c1
    have hx0 := HF.out i (by omega)
    have hx1 := HF.out (i + 1) hlt
    have hxl : f i ^^^ f (i + 1) < 32 := Nat.xor_lt_two_pow (n := 5) hx0 hx1
    have hbx := bits_xor (a := f i) (b := f (i + 1)) (by omega) (by omega)
    have HBE := (show Hid (Below w.heap.size w wr) from hbe)
    have hs4 : bits .and .i64 (((f i ^^^ f (i + 1) : Nat) : Int) / 16) 1 = (((f i ^^^ f (i + 1)) / 16 % 2 : Nat) : Int) := bits_one _ 16 (by omega)
    have hs3 : bits .and .i64 (((f i ^^^ f (i + 1) : Nat) : Int) / 8) 1 = (((f i ^^^ f (i + 1)) / 8 % 2 : Nat) : Int) := bits_one _ 8 (by omega)
    have HL : Hid (∀ W, Below wr.heap.size wr W → W.cell? ⟨dT, 0, none⟩ = some (.slice (some ⟨b, o, none⟩) n cap) ∧ W.cell? ⟨b, o + i, none⟩ = some (.int .i64 (f i : Int)) ∧ W.cell? ⟨b, o + (i + 1), none⟩ = some (.int .i64 (f (i + 1) : Int))) := fun W hW => ⟨(hW.cell (p := ⟨dT, 0, none⟩) (cell_block cT)).trans cT, (hW.cell (p := ⟨b, o + i, none⟩) (cell_block d0)).trans d0, (hW.cell (p := ⟨b, o + (i + 1), none⟩) (cell_block d1)).trans d1⟩
    clear hbe c0 c1 hi
    go_upto_region 5 with fail
    generalize hz16 : (f i ^^^ f (i + 1)) / 16 % 2 = z4 at *
    generalize hz8 : (f i ^^^ f (i + 1)) / 8 % 2 = z3 at *
    clear cT d0 d1
    refine wp_region_noPanic ?_
    refine wp_region_held_drew (S := fun W => Below wr.heap.size wr W) (by kernel_rfl) (Below.refl _ wr).drew (fun hS => ?_)
    obtain ⟨U, hU⟩ : ∃ x, x = wr.drew := ⟨_, rfl⟩
    rw [← hU] at hS ⊢
    clear hU
    refine vtake 0 20 (.slice (some ⟨b, o, none⟩) n cap) rfl rfl (by kernel_rfl) (by kernel_rfl) (by kernel_rfl) (fun _ _ _ _ h => h) (by rfl) (fun W hW => by obtain ⟨e1, e2, e3⟩ := HL.out W hW; clear hS hW; go_simp) hS ?_
    simp only [List.setIfInBounds_toArray, List.set_cons_succ, List.set_cons_zero]
    refine vtake 1 21 (.int .i64 (i : Nat)) rfl rfl (by kernel_rfl) (by kernel_rfl) (by kernel_rfl) (fun _ _ _ _ h => h) (by rfl) (fun W hW => by clear hS hW; go_simp) hS ?_
    simp only [List.setIfInBounds_toArray, List.set_cons_succ, List.set_cons_zero]
    refine vtake 2 22 (.pointer (some ⟨b, o + i, none⟩)) rfl rfl (by kernel_rfl) (by kernel_rfl) (by kernel_rfl) (fun _ _ _ _ h => h) (by rfl) (fun W hW => by clear hS hW; go_simp) hS ?_
    simp only [List.setIfInBounds_toArray, List.set_cons_succ, List.set_cons_zero]
    refine vtake 3 23 (.int .i64 (f i : Nat)) rfl rfl (by kernel_rfl) (by kernel_rfl) (by kernel_rfl) (fun _ _ _ _ h => h) (by rfl) (fun W hW => by obtain ⟨e1, e2, e3⟩ := HL.out W hW; clear hS hW; go_simp) hS ?_
    simp only [List.setIfInBounds_toArray, List.set_cons_succ, List.set_cons_zero]
    refine vtake 4 24 (.slice (some ⟨b, o, none⟩) n cap) rfl rfl (by kernel_rfl) (by kernel_rfl) (by kernel_rfl) (fun _ _ _ _ h => h) (by rfl) (fun W hW => by obtain ⟨e1, e2, e3⟩ := HL.out W hW; clear hS hW; go_simp) hS ?_
    simp only [List.setIfInBounds_toArray, List.set_cons_succ, List.set_cons_zero]
    refine vtake 5 25 (.int .i64 (i : Nat)) rfl rfl (by kernel_rfl) (by kernel_rfl) (by kernel_rfl) (fun _ _ _ _ h => h) (by rfl) (fun W hW => by clear hS hW; go_simp) hS ?_
    simp only [List.setIfInBounds_toArray, List.set_cons_succ, List.set_cons_zero]
    refine vtake 6 26 (.int .i64 ((i : Int) + 1)) rfl rfl (by kernel_rfl) (by kernel_rfl) (by kernel_rfl) (fun _ _ _ _ h => h) (by rfl) (fun W hW => by clear hS hW; go_simp) hS ?_
    simp only [List.setIfInBounds_toArray, List.set_cons_succ, List.set_cons_zero]
    refine vtake 7 27 (.pointer (some ⟨b, o + (i + 1), none⟩)) rfl rfl (by kernel_rfl) (by kernel_rfl) (by kernel_rfl) (fun _ _ _ _ h => h) (by rfl) (fun W hW => by clear hS hW; go_simp) hS ?_
    simp only [List.setIfInBounds_toArray, List.set_cons_succ, List.set_cons_zero]
    refine vtake 8 28 (.int .i64 (f (i + 1) : Nat)) rfl rfl (by kernel_rfl) (by kernel_rfl) (by kernel_rfl) (fun _ _ _ _ h => h) (by rfl) (fun W hW => by obtain ⟨e1, e2, e3⟩ := HL.out W hW; clear hS hW; go_simp) hS ?_
    simp only [List.setIfInBounds_toArray, List.set_cons_succ, List.set_cons_zero]
    refine vtake 9 29 (.int .i64 ((f i ^^^ f (i + 1) : Nat) : Int)) rfl rfl (by kernel_rfl) (by kernel_rfl) (by kernel_rfl) (fun _ _ _ _ h => h) (by rfl) (fun W hW => by clear hS hW; go_simp) hS ?_
    simp only [List.setIfInBounds_toArray, List.set_cons_succ, List.set_cons_zero]
    refine vtake 10 30 (.int .i64 (((f i ^^^ f (i + 1) : Nat) : Int) / 16)) rfl rfl (by kernel_rfl) (by kernel_rfl) (by kernel_rfl) (fun _ _ _ _ h => h) (by rfl) (fun W hW => by clear hS hW; go_simp) hS ?_
    simp only [List.setIfInBounds_toArray, List.set_cons_succ, List.set_cons_zero]
    refine vtake 11 31 (.int .i64 (z4 : Nat)) rfl rfl (by kernel_rfl) (by kernel_rfl) (by kernel_rfl) (fun _ _ _ _ h => h) (by rfl) (fun W hW => by clear hS hW; go_simp) hS ?_
    simp only [List.setIfInBounds_toArray, List.set_cons_succ, List.set_cons_zero]
    refine vtake 12 32 (.slice (some ⟨b, o, none⟩) n cap) rfl rfl (by kernel_rfl) (by kernel_rfl) (by kernel_rfl) (fun _ _ _ _ h => h) (by rfl) (fun W hW => by obtain ⟨e1, e2, e3⟩ := HL.out W hW; clear hS hW; go_simp) hS ?_
    simp only [List.setIfInBounds_toArray, List.set_cons_succ, List.set_cons_zero]
    refine vtake 13 33 (.int .i64 (i : Nat)) rfl rfl (by kernel_rfl) (by kernel_rfl) (by kernel_rfl) (fun _ _ _ _ h => h) (by rfl) (fun W hW => by clear hS hW; go_simp) hS ?_
    simp only [List.setIfInBounds_toArray, List.set_cons_succ, List.set_cons_zero]
    refine vtake 14 34 (.pointer (some ⟨b, o + i, none⟩)) rfl rfl (by kernel_rfl) (by kernel_rfl) (by kernel_rfl) (fun _ _ _ _ h => h) (by rfl) (fun W hW => by clear hS hW; go_simp) hS ?_
    simp only [List.setIfInBounds_toArray, List.set_cons_succ, List.set_cons_zero]
    refine vtake 15 35 (.int .i64 (f i : Nat)) rfl rfl (by kernel_rfl) (by kernel_rfl) (by kernel_rfl) (fun _ _ _ _ h => h) (by rfl) (fun W hW => by obtain ⟨e1, e2, e3⟩ := HL.out W hW; clear hS hW; go_simp) hS ?_
    simp only [List.setIfInBounds_toArray, List.set_cons_succ, List.set_cons_zero]
    refine vtake 16 36 (.slice (some ⟨b, o, none⟩) n cap) rfl rfl (by kernel_rfl) (by kernel_rfl) (by kernel_rfl) (fun _ _ _ _ h => h) (by rfl) (fun W hW => by obtain ⟨e1, e2, e3⟩ := HL.out W hW; clear hS hW; go_simp) hS ?_
    simp only [List.setIfInBounds_toArray, List.set_cons_succ, List.set_cons_zero]
    refine vtake 17 37 (.int .i64 (i : Nat)) rfl rfl (by kernel_rfl) (by kernel_rfl) (by kernel_rfl) (fun _ _ _ _ h => h) (by rfl) (fun W hW => by clear hS hW; go_simp) hS ?_
    simp only [List.setIfInBounds_toArray, List.set_cons_succ, List.set_cons_zero]
    refine vtake 18 38 (.int .i64 ((i : Int) + 1)) rfl rfl (by kernel_rfl) (by kernel_rfl) (by kernel_rfl) (fun _ _ _ _ h => h) (by rfl) (fun W hW => by clear hS hW; go_simp) hS ?_
    simp only [List.setIfInBounds_toArray, List.set_cons_succ, List.set_cons_zero]
    refine vtake 19 39 (.pointer (some ⟨b, o + (i + 1), none⟩)) rfl rfl (by kernel_rfl) (by kernel_rfl) (by kernel_rfl) (fun _ _ _ _ h => h) (by rfl) (fun W hW => by clear hS hW; go_simp) hS ?_
    simp only [List.setIfInBounds_toArray, List.set_cons_succ, List.set_cons_zero]
    refine vtake 20 40 (.int .i64 (f (i + 1) : Nat)) rfl rfl (by kernel_rfl) (by kernel_rfl) (by kernel_rfl) (fun _ _ _ _ h => h) (by rfl) (fun W hW => by obtain ⟨e1, e2, e3⟩ := HL.out W hW; clear hS hW; go_simp) hS ?_
    simp only [List.setIfInBounds_toArray, List.set_cons_succ, List.set_cons_zero]
    refine vtake 21 41 (.int .i64 ((f i ^^^ f (i + 1) : Nat) : Int)) rfl rfl (by kernel_rfl) (by kernel_rfl) (by kernel_rfl) (fun _ _ _ _ h => h) (by rfl) (fun W hW => by clear hS hW; go_simp) hS ?_
    simp only [List.setIfInBounds_toArray, List.set_cons_succ, List.set_cons_zero]
    refine vtake 22 42 (.int .i64 (((f i ^^^ f (i + 1) : Nat) : Int) / 8)) rfl rfl (by kernel_rfl) (by kernel_rfl) (by kernel_rfl) (fun _ _ _ _ h => h) (by rfl) (fun W hW => by clear hS hW; go_simp) hS ?_
    simp only [List.setIfInBounds_toArray, List.set_cons_succ, List.set_cons_zero]
    refine vtake 23 43 (.int .i64 (z3 : Nat)) rfl rfl (by kernel_rfl) (by kernel_rfl) (by kernel_rfl) (fun _ _ _ _ h => h) (by rfl) (fun W hW => by clear hS hW; go_simp) hS ?_
    simp only [List.setIfInBounds_toArray, List.set_cons_succ, List.set_cons_zero]
    refine vtake 24 44 (.bool (((z4 : Nat) : Int) != ((z3 : Nat) : Int))) rfl rfl (by kernel_rfl) (by kernel_rfl) (by kernel_rfl) (fun _ _ _ _ h => h) (by rfl) (fun W hW => by clear hS hW; go_simp) hS ?_
    simp only [List.setIfInBounds_toArray, List.set_cons_succ, List.set_cons_zero]
    refine vtake 25 10 (.bool (((z4 : Nat) : Int) != ((z3 : Nat) : Int))) rfl rfl (by kernel_rfl) (by kernel_rfl) (by kernel_rfl) (fun _ _ _ _ h => h) (by rfl) (fun W hW => by clear hS hW; go_simp) hS ?_
    simp only [List.setIfInBounds_toArray, List.set_cons_succ, List.set_cons_zero]
    refine wpAnyH_done (by kernel_rfl) ?_ _
    refine NoPanic.normal ?_
    have HU := (show Hid (Below w.heap.size w U) from HBE.out.trans (hS.mono HBE.out.size))
    clear hS HL
    rename_i K hK
    refine hK _ _ (wp_seq ?_)
    clear hK
    refine fc_in dT dA dB la lb x y b1 o1 k1 b2 o2 k2 i p q (((z4 : Nat) : Int) != ((z3 : Nat) : Int)) (ev f p la q lb x y i) ha hb hx hy hi2 w _ HU.out HP1.out HP2.out HAA.out HBB.out (odd_ev f p la q lb x y i z4 z3 hx0 hx1 hz16 hz8) _ ?_
    intros
    rename_i W' hW'
    have HW := (show Hid (Below w.heap.size w W') from hW')
    have HN : Hid (Tf.cn (ev f p la q lb x y) (i + 1) = Tf.cn (ev f p la q lb x y) i + if ev f p la q lb x y i = true then 1 else 0) := rfl
    have HM : Hid (Tf.cn (ev f p la q lb x y) i ≤ 65537) := Nat.le_trans (Tf.cn_le _ _) (by omega)
    generalize Tf.cn (ev f p la q lb x y) i = N at *
    generalize ev f p la q lb x y i = E at *
    clear hW' hz16 hz8 hs4 hs3 hxl hbx hx0 hx1 HC HF HA HP1 HP2 HT HAA HBB HBE HU ha hb hx hy
    have hM := HM.out
    cases E with
    | true =>
      have HN2 : Hid (Tf.cn (ev f p la q lb x y) (i + 1) = N + 1) := HN.out
      clear HN HM
      go_wp2
      exact ⟨⟨i + 1, .inl HLT.out, by go_num, by rw [HN2.out]; go_num, HW.out⟩, by have := HLT.out; simp [intOf]; omega⟩
    | false =>
      have HN2 : Hid (Tf.cn (ev f p la q lb x y) (i + 1) = N) := HN.out
      clear HN HM
      go_wp2
      exact ⟨⟨i + 1, .inl HLT.out, by go_num, by rw [HN2.out], HW.out⟩, by have := HLT.out; simp [intOf]; omega⟩
end Go.Proofs.Ytpdemelchhkfaaa
