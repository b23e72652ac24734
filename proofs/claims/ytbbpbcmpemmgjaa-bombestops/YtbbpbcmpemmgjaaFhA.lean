/-
  BombeStops behind its second call of Search, alone.
-/
import Derived.Test.YtbbpbcmpemmgjaaJn37
import Derived.Test.YtbbpbcmpemmgjaaJn38
namespace Go.Proofs.Ytbbpbcmpemmgjaa
open Go.RowKit PK Vg
noncomputable def nB : Code := Try.f6.body.getD .skip
noncomputable def nT1 : Code := match nB with | .seq _ r => r | _ => .skip
noncomputable def nO1 : Array Oper := match nT1 with | .seq (.seq (.region _ o _) _) _ => o | _ => #[]
noncomputable def nC1 : Code := match nT1 with | .seq (.seq _ c) _ => c | _ => .skip
noncomputable def nT3 : Code := match nT1 with | .seq _ r => r | _ => .skip
noncomputable def nO3 : Array Oper := match nT3 with | .seq (.region _ o _) _ => o | _ => #[]
noncomputable def nT4 : Code := match nT3 with | .seq _ r => r | _ => .skip
noncomputable def nT6 : Code := match nT4 with | .seq _ r => r | _ => .skip
noncomputable def nO6 : Array Oper := match nT6 with | .seq (.region _ o _) _ => o | _ => #[]
noncomputable def nT7 : Code := match nT6 with | .seq _ r => r | _ => .skip
noncomputable def nO7 : Array Oper := match nT7 with | .seq (.region _ o _) _ => o | _ => #[]
noncomputable def nT8 : Code := match nT7 with | .seq _ r => r | _ => .skip
theorem h_zero_guess : (Try.prog.info? 53).map (·.zero) = some (some (.agg (ints 28 fun _ => 0))) := by kernel_rfl
theorem dig_inj {n N M : Nat} (hn : n = 1 ∨ n = 2) (hN : N < 26 ^ n) (hM : M < 26 ^ n) (h : ∀ i, i < n → dig n N i = dig n M i) : N = M := by
  rcases hn with rfl | rfl
  · have h0 := h 0 (by decide)
    unfold dig at h0
    simp at h0
    omega
  · have h0 := h 0 (by decide)
    have h1 := h 1 (by decide)
    unfold dig at h0 h1
    simp at h0 h1
    omega
/-- What stands at the own windows: its plugs are told. -/
structure OwnG (g : Gm) (hl : Hl) (N0 A PA : Nat) (pr : Nat → Nat → Int) (L : List Nat) : Prop where
  gs : hl.gs N0 = fun b => gsF A b (pr b)
  lg : hl.lg N0 = L
  a : A < 26
  pl : g.pl A = (PA : Nat)
  at_ : ∃ j, j < L.length ∧ L.getD j 0 = PA
  len : L.length ≤ 26
theorem own_guess {g : Gm} {hl : Hl} {cr te : ByteArray} (hBm : BmS g hl cr te) {N0 : Nat} (hN0 : gmN g N0 = g) (hE : rwE g cr.data.toList = 0) (hte : te = ⟨(rwS g cr.data.toList).toArray⟩) : ∃ A PA pr L, OwnG g hl N0 A PA pr L := by
  obtain ⟨A, ok, pr, ht, e1, e2⟩ := hBm.t N0
  rw [hN0] at ht
  obtain ⟨hg0, _, _, hnum⟩ := comp_facts hE hte
  obtain ⟨hmo, _⟩ := mnu_ok ht.e
  obtain ⟨hM, _⟩ := ok_maOf hg0
  have s1 := Pl.size_len cr
  have hA : A < 26 := by rw [ht.a]; exact Bo.most_26 _
  have hky : ∀ i, i < (mnu g cr te).k → (mnu g cr te).y i = chE (maOf g) i ((mnu g cr te).x i) := fun i hi => hnum i (by have : i < cr.size := hi; omega)
  have hpA := hM.pl.lt A hA
  have hpr := plugs_res hM hmo (fun i => rfl) hky hA (ht.res _ hpA)
  exact ⟨A, (maOf g).pl A, pr, okTo ok 26, e1, e2, hA, (perm_toNat (gE_zero hg0).2.2.2.2.2.1).2 A hA, ok_at hpA hpr.1, ok_len ok 26⟩
set_option maxRecDepth 100000 in
set_option maxHeartbeats 8000000 in
theorem stops_rest (v0 v1 v2 v3 v5 v6 v7 v8 v9 v10 v13 v14 v15 v16 v17 v18 v19 v20 v21 v22 v23 v24 v25 v26 v27 v28 v29 v30 v31 v32 v33 v34 v35 v36 v37 v38 v39 v40 v41 v42 v43 v44 v45 v46 v47 v48 v49 v50 v51 v52 v53 v54 v55 v56 v57 v58 v59 v60 v61 v62 v63 v64 v66 v67 v68 v69 v70 v71 v72 v73 v74 v75 v76 v77 v78 v79 v80 v81 v82 v83 v84 v85 v86 v87 v88 v89 v90 v91 v92 v93 v94 v95 v96 v97 v98 v99 v100 v101 v102 v103 v104 v105 v106 v107 v108 v109 v110 v111 v112 : Value) (bM : Nat) (a b c u1 u2 : Value) (g : Gm) (cr te : ByteArray) (hl : Hl) (hBm : BmS g hl cr te) (N0 A PA : Nat) (pr : Nat → Nat → Int) (LG : List Nat) (hO : OwnG g hl N0 A PA pr LG) (hN0 : gmN g N0 = g) (hN1 : N0 < 26 ^ g.n) (hgE : gE g = 0) (hn2 : g.n ≤ 2) (TM : TypeId) (fM : Nat × Nat) (w : World) (hM : w.heap[bM]? = some (.cells (mac a b c g.rf g.pl) TM fM)) (hm : MacAt w (.agg (mac a b c g.rf g.pl)) g) (hu1 : HsA w u1 (hl.fnd (26 ^ g.n)) hl) (hu2 : HsA w u2 (hl.fnd (26 ^ g.n)) hl) :
    wpOps Try.prog nO7 (Exit.then (nT8.wp Try.prog (bodyPost Try.prog Try.f6 (Cs.PostE fun v _ => v = .bool true))) (bodyPost Try.prog Try.f6 (Cs.PostE fun v _ => v = .bool true))) (List.range' 5 5) ⟨#[v0, v1, v2, v3, .pointer (some ⟨bM, 0, none⟩), v5, v6, v7, v8, v9, v10, u1, .int .i64 0, v13, v14, v15, v16, v17, v18, v19, v20, v21, v22, v23, v24, v25, v26, v27, v28, v29, v30, v31, v32, v33, v34, v35, v36, v37, v38, v39, v40, v41, v42, v43, v44, v45, v46, v47, v48, v49, v50, v51, v52, v53, v54, v55, v56, v57, v58, v59, v60, v61, v62, v63, v64, .tuple #[u2, .int .i64 0], v66, v67, v68, v69, v70, v71, v72, v73, v74, v75, v76, v77, v78, v79, v80, v81, v82, v83, v84, v85, v86, v87, v88, v89, v90, v91, v92, v93, v94, v95, v96, v97, v98, v99, v100, v101, v102, v103, v104, v105, v106, v107, v108, v109, v110, v111, v112], []⟩ w := by
  obtain ⟨hn1, hsl, _⟩ := gE_slB hgE
  have hlen := fnd_small (hl := hl) (g := g) (by omega)
  have HS := (show Hid (∀ W, Below w.heap.size w W → Calls Try.prog 15 #[u1, u2] W fun e w' => e = .returned (.bool true) ∧ Below W.heap.size W w') from fun W hb => samehalts_ok u1 u2 _ hlen hl W (hu1.below hb).r (hu2.below hb).r (fun N x y W hx hy => bms_same hBm N x y W hx hy))
  have HRW := (show Hid (∀ W, Below w.heap.size w W → Calls Try.prog 18 #[.agg (mac a b c g.rf g.pl)] W fun e w' => e = .returned (.int .i64 0) ∧ Below W.heap.size W w') from fun W hb => by have := rgw_any _ g W (hm.below hb); rw [hgE] at this; exact this)
  have hln := hBm.n
  obtain ⟨j0, hj0, hjv⟩ : ∃ j, j < (hl.fnd (26 ^ g.n)).length ∧ (hl.fnd (26 ^ g.n)).getD j 0 = N0 := by
    have hp : hl.p N0 = true := by
      obtain ⟨j, hj, _⟩ := hO.at_
      exact decide_eq_true (by rw [hO.lg]; omega)
    have hmem : N0 ∈ hl.fnd (26 ^ g.n) := by
      unfold Hl.fnd
      rw [List.mem_filter]
      exact ⟨by simpa using hN1, hp⟩
    obtain ⟨j, hj, e⟩ := List.mem_iff_getElem.1 hmem
    exact ⟨j, hj, by rw [List.getD_eq_getElem?_getD, List.getElem?_eq_getElem hj, e]; rfl⟩
  -- the first list
  obtain ⟨ab, ao, ac, rfl, hA1⟩ := hu1.r.nth (by omega)
  have HA := (show Hid _ from hA1)
  have HLT26 := (show Hid (∀ i, i < (hl.fnd (26 ^ g.n)).length → (hl.fnd (26 ^ g.n)).getD i 0 < 26 ^ g.n) from fun i hi => by
    have : (hl.fnd (26 ^ g.n))[i]? = some ((hl.fnd (26 ^ g.n)).getD i 0) := by rw [List.getElem?_eq_getElem hi]; simp [List.getD, List.getElem?_eq_getElem hi]
    exact (hl.p_of_fnd this).2)
  have HOWN := (show Hid (∀ N, N < 26 ^ g.n → smB g.n g.sl (fun j => ((dig g.n N j : Nat) : Int)) g.st = true → N = N0) from fun N hN e => by
    have e2 := (smB_iff.1 e).2
    refine dig_inj (by omega) hN hN1 fun i hi => ?_
    have h3 := e2 i hi
    have h4 : g.st i = (((dig g.n N0 i : Nat) : Int)) := by
      have := congrArg Gm.st hN0
      rw [← this]
      rfl
    rw [h4] at h3
    have h5 : ((dig g.n N i : Nat) : Int) = ((dig g.n N0 i : Nat) : Int) := h3
    omega)
  have HYES := (show Hid (smB g.n g.sl (fun j => ((dig g.n N0 j : Nat) : Int)) g.st = true) from smB_iff.2 ⟨hsl.symm, fun i _ => by
    have h4 : g.st i = (((dig g.n N0 i : Nat) : Int)) := by
      have := congrArg Gm.st hN0
      rw [← this]
      rfl
    exact h4.symm⟩)
  have HSM := (show Hid (∀ N us W, Below w.heap.size w W → (NumsAt W us g.n fun j => ((dig g.n N j : Nat) : Int)) → Calls Try.prog 12 #[us, c] W fun e w' => e = .returned (.bool (smB g.n g.sl (fun j => ((dig g.n N j : Nat) : Int)) g.st)) ∧ Below W.heap.size W w') from fun N us W hb hus => by
    obtain ⟨a', b', c', e0, _, _, hst⟩ := hm
    obtain rfl : c = c' := by
      have h1 := congrArg (fun v => match v with | .agg x => x[2]? | _ => none) e0
      simp only [mac_2] at h1
      exact Option.some.inj h1
    exact rs9_any us c g.n g.sl _ g.st W hus (hst.below hb))
  have hbl : bM < w.heap.size := (Array.getElem?_eq_some_iff.1 hM).1
  have HMR := (show Hid (∀ W, Below w.heap.size w W → W.heap[bM]? = some (.cells (mac a b c g.rf g.pl) TM fM)) from fun W hb => (hb.block bM hbl).trans hM)
  have HMC := (show Hid ((mac a b c g.rf g.pl)[2]? = some c) from mac_2 _ _ _ _ _)
  have HMP := (show Hid ((mac a b c g.rf g.pl)[29 + A]? = some (.int .i64 (PA : Nat))) from by have := mac_pl a b c g.rf g.pl hO.a; rw [hO.pl] at this; exact this)
  obtain ⟨ac2, cc2, hc2⟩ : ∃ x y, c = .slice x g.sl y := by
    obtain ⟨a', b', c', e0, _, _, hst⟩ := hm
    obtain rfl : c = c' := by
      have h1 := congrArg (fun v => match v with | .agg x => x[2]? | _ => none) e0
      simp only [mac_2] at h1
      exact Option.some.inj h1
    obtain ⟨x, y, e, _⟩ := hst
    exact ⟨x, y, e⟩
  subst hc2
  have hA0s : (mac a b (.slice ac2 g.sl cc2) g.rf g.pl).size = 55 := mac_size _ _ _ _ _
  generalize mac a b (.slice ac2 g.sl cc2) g.rf g.pl = A0 at *
  obtain ⟨hgs, hlg, hAl, _, hex, hl26⟩ := hO
  have HGS := (show Hid _ from hgs)
  have HLG := (show Hid _ from hlg)
  have HEX := (show Hid _ from hex)
  rw [hln] at HA
  generalize hl.fnd (26 ^ g.n) = L at *
  have HJ0 := (show Hid (j0 < L.length ∧ L.getD j0 0 = N0) from ⟨hj0, hjv⟩)
  clear hm hu1 hu2 hM hBm hA1 hj0 hjv hgs hlg hex hN0 hN1 hgE hsl
  refine ops_from 5 5 rfl ?_
  simp only [nO7, nT8, nT7, nT6, nT4, nT3, nT1, nB, Try.f6, Option.getD_some, List.drop]
  go_wp2_with fail
  refine (HS.out _ (Below.refl _ _)).mono ?_
  rintro e W1 ⟨rfl, hb1⟩
  have HB1 := (show Hid (Below w.heap.size w W1) from hb1)
  clear HS hb1
  go_wp2_with fail
  go_loopw [83] (fun i W => ∃ k : Nat, k ≤ L.length ∧ i = .int .i64 (k : Nat) ∧ (∀ j, j < k → L.getD j 0 ≠ N0) ∧ Below w.heap.size w W) (fun i _ => ((L.length : Int) - intOf i).toNat)
  case atStart => exact ⟨0, by omega, rfl, fun j hj => absurd hj (Nat.not_lt_zero j), HB1.out⟩
  case round =>
    clear HB1
    obtain ⟨k, hk, rfl, hno, hbe⟩ := hrel
    by_cases hlt : k < L.length
    case neg => exact absurd HJ0.out.2 (hno j0 (by have := HJ0.out.1; omega))
    have HLT : Hid (k < L.length) := hlt
    have hlt2 : (k : Int) < (L.length : Int) := by omega
    obtain ⟨x1, y1, z1, t1, e1, f1, n1⟩ := HA.out k hlt
    have hNlt := HLT26.out k hlt
    have HNO := (show Hid (∀ j, j < k → L.getD j 0 ≠ N0) from hno)
    have HKN : Hid (∀ N, N = L.getD k 0 → N ≠ N0 → ∀ j, j < k + 1 → L.getD j 0 ≠ N0) := fun N hN hne j hj => by
      by_cases e : j = k
      · rw [e, ← hN]; exact hne
      · exact HNO.out j (by omega)
    obtain ⟨N, hN⟩ : ∃ N, N = L.getD k 0 := ⟨_, rfl⟩
    have HKN2 := (show Hid _ from HKN.out N hN)
    rw [← hN] at f1 n1 hNlt
    have e1w := (hbe.cell (cell_block e1)).trans e1
    have f1w := (hbe.cell (cell_block f1)).trans f1
    have HN1 := (show Hid (HltN w (.slice x1 g.n y1) (.slice z1 (hl.lg N).length t1) hl N) from n1)
    have HBE := (show Hid (Below w.heap.size w wr) from hbe)
    have HOWNN := (show Hid _ from HOWN.out N hNlt)
    have HYESN : Hid (N = N0 → smB g.n g.sl (fun j => ((dig g.n N j : Nat) : Int)) g.st = true) := fun e => by rw [e]; exact HYES.out
    clear hlt hno e1 f1 n1 hN hbe HKN hNlt
    obtain ⟨lq, hlq⟩ : ∃ lq, lq = (hl.lg N).length := ⟨_, rfl⟩
    have HLQ := (show Hid _ from hlq)
    rw [← hlq] at f1w HN1
    clear hlq
    have hzh := o_zero h_zero_halt
    obtain ⟨X, hX⟩ : ∃ X : Array Value, X = #[.slice x1 g.n y1, .slice z1 lq t1] := ⟨_, rfl⟩
    have hXs : X.size = 2 := by rw [hX]; rfl
    have hXo : X.all (·.oneCell') = true := by rw [hX]; simp [Value.oneCell']
    have HX0 : Hid (X[0]? = some (.slice x1 g.n y1)) := by rw [Hid, hX]; rfl
    have HX1 : Hid (X[1]? = some (.slice z1 lq t1)) := by rw [Hid, hX]; rfl
    have HRNG : Hid (wr.rangeAt ab (ao + k * 2) X.toList) := by
      intro i v hv
      rw [hX] at hv
      match i, hv with
      | 0, hv => simp at hv; subst hv; exact e1w
      | 1, hv => simp at hv; subst hv; exact f1w
      | i + 2, hv => simp at hv
    clear hX
    clear e1w f1w
    go_upto_region 15 with (first | refine wpList_load_mid rfl 51 _ rfl ab (ao + k * 2) rfl X.toList _ HRNG.out Try.underlying51 rfl (by rw [Array.length_toList, hXs]; exact h_size_halt) ?_ | refine wpList_store_row rfl 51 _ _ rfl wr.heap.size X rfl rfl 51 _ (RowAt.new wr _ _) (by rw [hXs]; exact h_size_halt) (by rw [hXs]; rfl) hXo ?_)
    have hq := (RowAt.new wr 51 #[.slice none 0 0, .slice none 0 0]).row X
    have hb8 := Below.setRow ((Below.refl wr.heap.size wr).alloc (Nat.le_refl _) (.cells #[.slice none 0 0, .slice none 0 0] 51)) wr.heap.size (Nat.le_refl _) X
    obtain ⟨W2, hW2⟩ : ∃ W2, W2 = (wr.alloc (.cells #[.slice none 0 0, .slice none 0 0] 51)).setRow wr.heap.size X := ⟨_, rfl⟩
    rw [← hW2] at hq hb8 ⊢
    clear hW2
    have hbw2 := HBE.out.trans (hb8.mono HBE.out.size)
    have c0 := hq.cell HX0.out
    have cm : W2.cell? ⟨bM, 2, none⟩ = some (.slice ac2 g.sl cc2) := by rw [cell_of_row _ _ _ _ _ _ (HMR.out W2 hbw2)]; exact HMC.out
    have hus : NumsAt W2 (.slice x1 g.n y1) g.n fun j => ((dig g.n N j : Nat) : Int) := by
      have h1 := HN1.out.1
      rw [hln] at h1
      exact h1.below hbw2
    have HSC := (show Hid (Calls Try.prog 12 #[.slice x1 g.n y1, .slice ac2 g.sl cc2] W2 fun e w' => e = .returned (.bool (smB g.n g.sl (fun j => ((dig g.n N j : Nat) : Int)) g.st)) ∧ Below W2.heap.size W2 w') from HSM.out N (.slice x1 g.n y1) W2 hbw2 hus)
    obtain ⟨qh, hqh⟩ : ∃ qh, qh = wr.heap.size := ⟨_, rfl⟩
    rw [← hqh] at hq c0 ⊢
    have HUG := (show Hid (GsAt w (.slice z1 lq t1) (hl.gs N) (hl.lg N)) from HN1.out.2)
    clear hb8 hzh hXo hus hqh HRNG HBE HN1
    go_wp2_with fail
    refine HSC.out.mono ?_
    rintro e W3 ⟨rfl, hb3⟩
    have hbw3 := hbw2.trans (hb3.mono hbw2.size)
    have hq3 := hq.below hb3 hq.lt
    clear hb3 hbw2 hq c0 cm HSC
    obtain ⟨y, hy⟩ : ∃ y, y = smB g.n g.sl (fun j => ((dig g.n N j : Nat) : Int)) g.st := ⟨_, rfl⟩
    rw [← hy] at HOWNN HYESN ⊢
    clear hy
    have HB3 := (show Hid (Below w.heap.size w W3) from hbw3)
    cases y
    · have hne : N ≠ N0 := fun e => by
        have := HYESN.out e
        cases this
      have HNN := (show Hid _ from HKN2.out hne)
      clear hq3 hbw3
      go_wp2
      go_roundw
      case rel => exact ⟨k + 1, HLT.out, by go_num, HNN.out, HB3.out⟩
      case measure => have := HLT.out; simp [intOf]; omega
    obtain rfl : N = N0 := HOWNN.out rfl
    have hlqL : lq = LG.length := by rw [HLQ.out, HLG.out]
    subst hlqL
    have HGA : Hid (GsAt w (.slice z1 LG.length t1) (fun b => gsF A b (pr b)) LG) := by
      have h1 := HUG.out
      rw [HGS.out, HLG.out] at h1
      exact h1
    have c1 := hq3.cell HX1.out
    clear HUG HLQ HKN2 HOWNN HYESN HNO hq3 hbw3
    go_wp2_with fail
    clear c1
    go_loopw [96] (fun i W => ∃ m : Nat, m ≤ LG.length ∧ i = .int .i64 (m : Nat) ∧ (∀ j, j < m → LG.getD j 0 ≠ PA) ∧ Below w.heap.size w W) (fun i _ => ((LG.length : Int) - intOf i).toNat)
    case atStart => exact ⟨0, by omega, rfl, fun j hj => absurd hj (Nat.not_lt_zero j), HB3.out⟩
    case round =>
      clear HB3
      obtain ⟨m, hmm, rfl, hno, hbe⟩ := hrel
      by_cases hml : m < LG.length
      case neg =>
        obtain ⟨j, hj, e⟩ := HEX.out
        exact absurd e (hno j (by omega))
      have HML : Hid (m < LG.length) := hml
      have hml2 : (m : Int) < (LG.length : Int) := by omega
      obtain ⟨zb, tb, ez, hz⟩ := HGA.out
      cases ez
      obtain ⟨gb, rfl, hrg⟩ := hz m hml
      obtain ⟨bb, hbb⟩ : ∃ bb, bb = LG.getD m 0 := ⟨_, rfl⟩
      have HNN : Hid (bb ≠ PA → ∀ j, j < m + 1 → LG.getD j 0 ≠ PA) := fun hne j hj => by
        by_cases e : j = m
        · rw [e, ← hbb]; exact hne
        · exact hno j (by omega)
      rw [← hbb] at hrg
      have HRG : Hid (wr.rangeAt gb (m * 28) (ints 28 (gsF A bb (pr bb))).toList) := fun i v hv => (hbe.cell (cell_block (hrg i v hv))).trans (hrg i v hv)
      have HG0 : Hid ((ints 28 (gsF A bb (pr bb)))[0]? = some (.int .i64 (A : Nat))) := ints_get (gsF A bb (pr bb)) (by decide)
      have HG1 : Hid ((ints 28 (gsF A bb (pr bb)))[1]? = some (.int .i64 (bb : Nat))) := ints_get (gsF A bb (pr bb)) (by decide)
      have hGs : (ints 28 (gsF A bb (pr bb))).size = 28 := ints_size _ _
      have hGo : (ints 28 (gsF A bb (pr bb))).all (·.oneCell') = true := ints_one _ _
      obtain ⟨G28, hG28⟩ : ∃ G28, G28 = ints 28 (gsF A bb (pr bb)) := ⟨_, rfl⟩
      rw [← hG28] at HRG HG0 HG1 hGs hGo
      clear hG28
      have HBE := (show Hid (Below w.heap.size w wr) from hbe)
      clear hml hno hbb hrg hbe hz
      have hzg := o_zero h_zero_guess
      go_upto_region 19 with (first | refine wpList_load_mid rfl 53 _ rfl gb (m * 28) rfl G28.toList _ HRG.out Try.underlying53 rfl (by rw [Array.length_toList, hGs]; exact b_size_guess) ?_ | refine wpList_store_row rfl 53 _ _ rfl wr.heap.size G28 rfl rfl 53 _ (RowAt.new wr _ _) (by rw [hGs]; exact b_size_guess) (by rw [hGs, ints_size]) hGo ?_)
      have hr := (RowAt.new wr 53 (ints 28 fun _ => 0)).row G28
      have hb8 := Below.setRow ((Below.refl wr.heap.size wr).alloc (Nat.le_refl _) (.cells (ints 28 fun _ => 0) 53)) wr.heap.size (Nat.le_refl _) G28
      obtain ⟨W4, hW4⟩ : ∃ W4, W4 = (wr.alloc (.cells (ints 28 fun _ => 0) 53)).setRow wr.heap.size G28 := ⟨_, rfl⟩
      rw [← hW4] at hr hb8 ⊢
      clear hW4
      have hbw4 := HBE.out.trans (hb8.mono HBE.out.size)
      obtain ⟨qg, hqg⟩ : ∃ qg, qg = wr.heap.size := ⟨_, rfl⟩
      rw [← hqg] at hr ⊢
      have HPL := (show Hid (∀ W, Below w.heap.size w W → W.cell? ⟨bM, 29 + A, none⟩ = some (.int .i64 (PA : Nat))) from fun W hb => by rw [cell_of_row _ _ _ _ _ _ (HMR.out W hb)]; exact HMP.out)
      clear hb8 hzg hqg HRG HBE hGo
      refine wp_region_noPanic ?_
      refine wp_region_held_drew (S := fun W => RowAt W qg 53 G28 ∧ Below w.heap.size w W) (by kernel_rfl) ⟨hr, hbw4.drew⟩ (fun hS => ?_)
      obtain ⟨Z, hZ⟩ : ∃ x, x = W4.drew := ⟨_, rfl⟩
      rw [← hZ] at hS ⊢
      clear hZ hr hbw4
      refine vtake 0 100 (.pointer (some ⟨qg, 0, none⟩)) rfl rfl (by kernel_rfl) (by kernel_rfl) (by kernel_rfl) (fun _ _ _ _ h => h) (by rfl) (fun W hW => by clear hS hW; go_simp) hS ?_
      simp only [List.setIfInBounds_toArray, List.set_cons_succ, List.set_cons_zero]
      refine vtake 1 101 (.int .i64 (A : Nat)) rfl rfl (by kernel_rfl) (by kernel_rfl) (by kernel_rfl) (fun _ _ _ _ h => h) (by rfl) (fun W hW => by have u := hW.1.cell (i := 0) (v := .int .i64 (A : Nat)) HG0.out; clear hS hW; go_simp) hS ?_
      simp only [List.setIfInBounds_toArray, List.set_cons_succ, List.set_cons_zero]
      refine vtake 2 102 (.pointer (some ⟨bM, 29, none⟩)) rfl rfl (by kernel_rfl) (by kernel_rfl) (by kernel_rfl) (fun _ _ _ _ h => h) (by rfl) (fun W hW => by clear hS hW; go_simp) hS ?_
      simp only [List.setIfInBounds_toArray, List.set_cons_succ, List.set_cons_zero]
      refine vtake 3 103 (.pointer (some ⟨bM, 29 + A, none⟩)) rfl rfl (by kernel_rfl) (by kernel_rfl) (by kernel_rfl) (fun _ _ _ _ h => h) (by rfl) (fun W hW => by have u1 : ¬ (26 : Int) ≤ (A : Int) := (by omega); clear hS hW; go_simp) hS ?_
      simp only [List.setIfInBounds_toArray, List.set_cons_succ, List.set_cons_zero]
      refine vtake 4 104 (.int .i64 (PA : Nat)) rfl rfl (by kernel_rfl) (by kernel_rfl) (by kernel_rfl) (fun _ _ _ _ h => h) (by rfl) (fun W hW => by have u := HPL.out W hW.2; clear hS hW; go_simp) hS ?_
      simp only [List.setIfInBounds_toArray, List.set_cons_succ, List.set_cons_zero]
      refine vtake 5 105 (.pointer (some ⟨qg, 1, none⟩)) rfl rfl (by kernel_rfl) (by kernel_rfl) (by kernel_rfl) (fun _ _ _ _ h => h) (by rfl) (fun W hW => by clear hS hW; go_simp) hS ?_
      simp only [List.setIfInBounds_toArray, List.set_cons_succ, List.set_cons_zero]
      refine vtake 6 106 (.int .i64 (bb : Nat)) rfl rfl (by kernel_rfl) (by kernel_rfl) (by kernel_rfl) (fun _ _ _ _ h => h) (by rfl) (fun W hW => by have u := hW.1.cell (i := 1) (v := .int .i64 (bb : Nat)) HG1.out; clear hS hW; go_simp) hS ?_
      simp only [List.setIfInBounds_toArray, List.set_cons_succ, List.set_cons_zero]
      by_cases hpb : PA = bb
      · have hpbI : ((PA : Nat) : Int) = ((bb : Nat) : Int) := by rw [hpb]
        refine vtake 7 107 (.bool true) rfl rfl (by kernel_rfl) (by kernel_rfl) (by kernel_rfl) (fun _ _ _ _ h => h) (by rfl) (fun W hW => by have u : ((PA : Nat) : Int) = ((bb : Nat) : Int) := hpbI; clear hS hW; go_simp) hS ?_
        simp only [List.setIfInBounds_toArray, List.set_cons_succ, List.set_cons_zero]
        refine wpAnyH_done (by kernel_rfl) ?_ _
        refine NoPanic.normal ?_
        have hmr := HMR.out Z hS.2
        have HCW := (show Hid (Calls Try.prog 18 #[.agg A0] Z fun e w' => e = .returned (.int .i64 0) ∧ Below Z.heap.size Z w') from HRW.out Z hS.2)
        clear hS
        go_wp2_with (first | refine wpList_load_row rfl 27 _ rfl bM rfl TM A0 fM _ hmr Try.underlying27 rfl (by rw [hA0s]; exact v_info_mac) ?_)
        refine HCW.out.mono ?_
        rintro e W5 ⟨rfl, hb5⟩
        clear hb5 HCW hmr
        go_wp2_with fail
        refine ⟨rfl, .bool true, ?_, _, rfl, rfl⟩
        simp [results, Array.mapM_eq_mapM_toList, List.mapM_cons]
      · have hpbI : ¬ ((PA : Nat) : Int) = ((bb : Nat) : Int) := by omega
        refine vtake 7 107 (.bool false) rfl rfl (by kernel_rfl) (by kernel_rfl) (by kernel_rfl) (fun _ _ _ _ h => h) (by rfl) (fun W hW => by have u : ¬ ((PA : Nat) : Int) = ((bb : Nat) : Int) := hpbI; clear hS hW; go_simp) hS ?_
        simp only [List.setIfInBounds_toArray, List.set_cons_succ, List.set_cons_zero]
        refine wpAnyH_done (by kernel_rfl) ?_ _
        refine NoPanic.normal ?_
        have HNX := (show Hid _ from HNN.out (fun e => hpb e.symm))
        have HS5 := (show Hid _ from hS.2)
        clear hS
        go_wp2_with fail
        go_roundw
        case rel => exact ⟨m + 1, HML.out, by go_num, HNX.out, HS5.out⟩
        case measure => have := HML.out; simp [intOf]; omega
end Go.Proofs.Ytbbpbcmpemmgjaa
