/-
  Several texts, joined: FfB, FfC.
-/
import Derived.Test.YthfjkhmedpilnaaFfA
/-
  ChartSearch's own walk between its two calls of Find, in company.
-/
namespace Go.Proofs.Ythfjkhmedpilnaa
open Go.RowKit PK Vg Go.Conc Cs
set_option maxRecDepth 100000 in
set_option maxHeartbeats 8000000 in
theorem search_d (A : Array Value) (hA : A.size = 55) (x y z u1 v4 v5 v9 v10 v11 v12 v13 v14 v15 v16 v17 v18 v19 v20 v21 v22 v23 v24 v25 v26 v27 v28 v29 v30 v31 v32 v33 v34 v35 v36 v37 v38 v39 v40 v41 v42 v43 v44 v45 v46 v47 v48 v49 v50 v51 v52 v54 v55 v56 v57 v58 v59 v60 v61 v62 v63 v64 v65 v66 v67 v68 v69 v70 v71 v72 v73 v74 v75 v76 v77 v78 v79 v80 v81 v82 v83 v84 v85 v86 v87 v88 v89 v90 v91 v92 v93 v94 v95 v96 v97 v98 v99 v100 v101 v102 v103 v104 v105 : Value) (n k bM bT : Nat) (cs : List Frame) (H : Array Obj) (o : Os) (out : Array (Nat × ByteArray)) (w : World) (hI : HI H o out w) (hM : H[bM]? = some (.cells A 27 (0, 0))) (hT : H[bT]? = some (.cells #[x, y, z] 28 (0, 0))) : ∃ mu, Goes Try.prog true AtRel DW (fun g w' => ∃ v : Nat → Value, g = G ((base 7).at ⟨#[.agg A, .agg #[x, y, z], .int .i64 (k : Nat), undef, undef, undef, undef, undef, undef, undef, undef, undef, undef, undef], []⟩ [.code fB]) ((base 4).at ⟨#[.agg A, .int .i64 (n : Nat), .int .i64 (k : Nat), .pointer (some ⟨bM, 0, none⟩), v 4, v 5, .bool false, .pointer (some ⟨bT, 0, none⟩), .int .i64 0, u1, v 10, v 11, v 12, v 13, v 14, v 15, v 16, v 17, v 18, v 19, v 20, v 21, v 22, v 23, v 24, v 25, v 26, v 27, v 28, v 29, v 30, v 31, v 32, v 33, v 34, v 35, v 36, v 37, v 38, v 39, v 40, v 41, v 42, v 43, v 44, v 45, v 46, v 47, v 48, v 49, v 50, v 51, v 52, v 53, v 54, v 55, v 56, .agg A, .agg #[x, y, z], .int .i64 (k : Nat), v 60, v 61, v 62, v 63, v 64, v 65, v 66, v 67, v 68, v 69, v 70, v 71, v 72, v 73, v 74, v 75, v 76, v 77, v 78, v 79, v 80, v 81, v 82, v 83, v 84, v 85, v 86, v 87, v 88, v 89, v 90, v 91, v 92, v 93, v 94, v 95, v 96, v 97, v 98, v 99, v 100, v 101, v 102, v 103, v 104, v 105], []⟩ [.inRegion sO7 (3 :: List.range' 4 5), .code sT8] :: cs) ∧ HI H o out w') mu (G ((base 4).at ⟨#[.agg A, .int .i64 (n : Nat), .int .i64 (k : Nat), .pointer (some ⟨bM, 0, none⟩), v4, v5, .bool false, .pointer (some ⟨bT, 0, none⟩), .int .i64 0, v9, v10, v11, v12, v13, v14, v15, v16, v17, v18, v19, v20, v21, v22, v23, v24, v25, v26, v27, v28, v29, v30, v31, v32, v33, v34, v35, v36, v37, v38, v39, v40, v41, v42, v43, v44, v45, v46, v47, v48, v49, v50, v51, v52, .tuple #[u1, .int .i64 0], v54, v55, v56, v57, v58, v59, v60, v61, v62, v63, v64, v65, v66, v67, v68, v69, v70, v71, v72, v73, v74, v75, v76, v77, v78, v79, v80, v81, v82, v83, v84, v85, v86, v87, v88, v89, v90, v91, v92, v93, v94, v95, v96, v97, v98, v99, v100, v101, v102, v103, v104, v105], []⟩ [.inRegion sO6 [4, 5, 6, 7, 8], .code sT7]) cs) w := by
  have hiA : (Try.prog.info? 27).map (·.size) = some A.size := by rw [hA]; exact v_info_mac
  have hiB : (Try.prog.info? 28).map (·.size) = some #[x, y, z].size := f_size_sl3
  refine ⟨60, ?_⟩
  simp only [sO6, sT7, sT6, sT4, sT3, sT1, sB, Try.f4, Option.getD_some]
  refine gstep hI rfl (fun w₁ h₁ => ?_)
  refine goes_oper_k rfl rfl (by decide) (fun K hK => ?_)
  go_simp
  refine hK _ _ ⟨⟨by simp, fun e he => ?_⟩, ?_⟩
  · have hm := mem_listed he
    simp [go_sem] at hm
  clear hK K hI
  have hI := h₁
  clear h₁
  refine gstep hI rfl (fun w₁ h₁ => ?_)
  refine goes_oper_k rfl rfl (by decide) (fun K hK => ?_)
  go_simp
  refine hK _ _ ⟨⟨by simp, fun e he => ?_⟩, ?_⟩
  · have hm := mem_listed he
    simp [go_sem] at hm
  clear hK K hI
  have hI := h₁
  clear h₁
  refine gstep hI rfl (fun w₁ h₁ => ?_)
  refine goes_oper_k rfl rfl (by decide) (fun K hK => ?_)
  go_simp
  refine hK _ _ ⟨⟨by simp, fun e he => ?_⟩, ?_⟩
  · have hm := mem_listed he
    simp [go_sem] at hm
  clear hK K hI
  have hI := h₁
  clear h₁
  refine gstep hI rfl (fun w₁ h₁ => ?_)
  refine goes_oper_k rfl rfl (by decide) (fun K hK => ?_)
  go_simp
  refine hK _ _ ⟨⟨by simp, fun e he => ?_⟩, ?_⟩
  · have hm := mem_listed he
    simp [go_sem] at hm
  clear hK K hI
  have hI := h₁
  clear h₁
  refine gstep hI rfl (fun w₁ h₁ => ?_)
  refine goes_oper_k rfl rfl (by decide) (fun K hK => ?_)
  go_simp
  refine hK _ _ ⟨⟨by simp, fun e he => ?_⟩, ?_⟩
  · have hm := mem_listed he
    simp [go_sem] at hm
  clear hK K hI
  have hI := h₁
  clear h₁
  repeat (refine gstep hI rfl (fun w₁ h₁ => ?_); walk_rw; refine ⟨dw_same _, ?_⟩; clear hI; have hI := h₁; clear h₁)
  refine gstep hI rfl (fun w₁ h₁ => ?_)
  have hWr := show w₁.heap[bM]? = some (.cells A 27 (0, 0)) from by rw [h₁.1]; exact hM
  rw [stepG_value (v := .agg A) (w' := w₁) rfl rfl (by decide) (run_exec_load rfl rfl (ld_row hWr Try.underlying27 rfl hiA))]
  simp only [goes_go]
  refine ⟨⟨Nat.le_refl _, fun e he => ev_row hWr Try.underlying27 rfl hiA e (by have hm := mem_listed he; rw [events_exec_load rfl rfl] at hm; exact hm)⟩, ?_⟩
  clear hWr hI
  have hI := h₁
  clear h₁
  refine gstep hI rfl (fun w₁ h₁ => ?_)
  have hWr := show w₁.heap[bT]? = some (.cells #[x, y, z] 28 (0, 0)) from by rw [h₁.1]; exact hT
  rw [stepG_value (v := .agg #[x, y, z]) (w' := w₁) rfl rfl (by decide) (run_exec_load rfl rfl (ld_row hWr Try.underlying28 rfl hiB))]
  simp only [goes_go]
  refine ⟨⟨Nat.le_refl _, fun e he => ev_row hWr Try.underlying28 rfl hiB e (by have hm := mem_listed he; rw [events_exec_load rfl rfl] at hm; exact hm)⟩, ?_⟩
  clear hWr hI
  have hI := h₁
  clear h₁
  refine gstep hI rfl (fun w₁ h₁ => ?_)
  refine goes_oper_k rfl rfl (by decide) (fun K hK => ?_)
  go_simp
  refine hK _ _ ⟨⟨by simp, fun e he => ?_⟩, ?_⟩
  · have hm := mem_listed he
    simp [go_sem] at hm
  clear hK K hI
  have hI := h₁
  clear h₁
  refine gstep hI rfl (fun w₁ h₁ => ?_)
  refine goes_call rfl rfl (by decide) rfl Try.func7 (by kernel_rfl) rfl ?_
  refine ⟨dw_same _, ?_⟩
  exact Goes.stop fun w₂ h₂ => by
    obtain ⟨d, rfl⟩ := h₂
    have e1 : ∀ (a : Act), a.eval (.tmp 57) = .agg A → a.eval (.tmp 58) = .agg #[x, y, z] → a.eval (.tmp 59) = .int .i64 (k : Nat) → (#[Operand.tmp 57, .tmp 58, .tmp 59].map a.eval ++ Array.replicate (Try.f7.ntmps - (#[Operand.tmp 57, .tmp 58, .tmp 59].map a.eval).size) undef) = #[.agg A, .agg #[x, y, z], .int .i64 (k : Nat), undef, undef, undef, undef, undef, undef, undef, undef, undef, undef, undef] := fun a k1 k2 k3 => by
      simp [k1, k2, k3, Array.replicate, List.replicate]
    rw [e1 _ rfl rfl rfl]
    exact ⟨fun i => ([undef, undef, undef, undef, _, _, undef, undef, undef, undef, _, _, _, _, _, _, _, _, _, _, _, _, _, _, _, _, _, _, _, _, _, _, _, _, _, _, _, _, _, _, _, _, _, _, _, _, _, _, _, _, _, _, _, _, _, _, _, undef, undef, undef, _, _, _, _, _, _, _, _, _, _, _, _, _, _, _, _, _, _, _, _, _, _, _, _, _, _, _, _, _, _, _, _, _, _, _, _, _, _, _, _, _, _, _, _, _, _] : List Value).getD i undef, rfl, h₁⟩
end Go.Proofs.Ythfjkhmedpilnaa

/-
  ChartSearch's own walk behind its second call of Find, alone.
-/
namespace Go.Proofs.Ythfjkhmedpilnaa
open Go.RowKit PK Vg
/-- How many numbers the types of a machine's charts are, and which. -/
def tyM (g : Gm) (i : Nat) : Nat := (typeOf (chC (maOf g) i)).length
def tyF (g : Gm) (i q : Nat) : Int := (((typeOf (chC (maOf g) i)).getD q 0 : Nat) : Int)
theorem smB_refl (n : Nat) (f : Nat → Int) : smB n n f f = true := smB_iff.2 ⟨rfl, fun _ _ => rfl⟩
theorem alTo_iff {n m : Nat → Nat} {f g : Nat → Nat → Int} : ∀ {k : Nat}, alTo n m f g k = true → ∀ i, i < k → smB (n i) (m i) (f i) (g i) = true
  | 0, _, i, hi => by omega
  | k + 1, h, i, hi => by
    have h' : (alTo n m f g k && smB (n k) (m k) (f k) (g k)) = true := h
    rw [Bool.and_eq_true] at h'
    by_cases e : i = k
    · rw [e]; exact h'.2
    · exact alTo_iff h'.1 i (by omega)
theorem alTo_refl (n : Nat → Nat) (f : Nat → Nat → Int) : ∀ k, alTo n n f f k = true
  | 0 => rfl
  | k + 1 => by show (alTo n n f f k && smB (n k) (n k) (f k) (f k)) = true; rw [alTo_refl n f k, smB_refl]; rfl
theorem hit_types {g : Gm} {m : Nat → Nat} {fb : Nat → Nat → Int} {N : Nat} (h : hitN g m fb N = true) {W : World} {V : Nat → Value} (hV : TysAt W V 3 (chC (maOf (gmN g N)))) : TsAt W V m fb := fun i hi => by
  unfold hitN hitB at h
  obtain ⟨e1, e2⟩ := smB_iff.1 (alTo_iff h i hi)
  have := hV i hi
  rw [← e1]
  exact this.congr e2
theorem hit_own {g : Gm} {N : Nat} (h : gmN g N = g) : hitN g (tyM g) (tyF g) N = true := by
  unfold hitN
  rw [h]
  exact alTo_refl (tyM g) (tyF g) 3
/-- Among the first k of a list the machine's own windows stand. -/
def hasTo (g : Gm) (L : List Nat) (k : Nat) : Bool := (List.range k).any fun i => smB g.n g.sl (fun j => ((dig g.n (L.getD i 0) j : Nat) : Int)) g.st
theorem hasTo_succ (g : Gm) (L : List Nat) (k : Nat) : hasTo g L (k + 1) = (hasTo g L k || smB g.n g.sl (fun j => ((dig g.n (L.getD k 0) j : Nat) : Int)) g.st) := by
  unfold hasTo
  rw [List.range_succ, List.any_append]
  simp
theorem has_all {g : Gm} {N : Nat} (h : gmN g N = g) {L : List Nat} (hN : N ∈ L) : hasTo g L L.length = true := by
  obtain ⟨i, hi, e⟩ := List.mem_iff_getElem.1 hN
  unfold hasTo
  rw [List.any_eq_true]
  refine ⟨i, List.mem_range.2 hi, smB_iff.2 ⟨?_, fun j _ => ?_⟩⟩
  · have := congrArg Gm.sl h
    exact this
  · have e2 : L.getD i 0 = N := by simp [List.getD, List.getElem?_eq_getElem hi, e]
    rw [e2]
    have := congrFun (congrArg Gm.st h) j
    exact this
/-- What Types said of the windows found. -/
structure SrS (w W : World) (q : Nat) (V : Nat → Value) (m : Nat → Nat) (fb : Nat → Nat → Int) : Prop where
  below : Below w.heap.size w W
  row : RowAt W q 28 (tab 3 V)
  ts : TsAt W V m fb
section
variable {w W W' : World} {q : Nat} {V : Nat → Value} {m : Nat → Nat} {fb : Nat → Nat → Int}
theorem SrS.step (h : SrS w W q V m fb) (hb : Below W.heap.size W W') : SrS w W' q V m fb := ⟨h.below.trans (hb.mono h.below.size), h.row.below hb h.row.lt, h.ts.below hb⟩
theorem SrS.drew (h : SrS w W q V m fb) : SrS w W.drew q V m fb := ⟨h.below.trans ⟨rfl, rfl, rfl, Nat.le_refl _, fun _ _ => rfl⟩, h.row, h.ts⟩
end
theorem f_slice_sl3 (b : Nat) (W : World) : (Instr.sliceAt 28 (.pointer (some ⟨b, 0, none⟩)) none none none).run Try.prog W = .ok (.slice (some ⟨b, 0, none⟩) 3 3) W := by
  simp [Instr.sliceAt, Sem.run_bind, go_sem, run_underlying Try.underlying28]
theorem lists_sr {w W : World} {q : Nat} {V : Nat → Value} {m : Nat → Nat} {fb : Nat → Nat → Int} (h : SrS w W q V m fb) : ListsAt W (.slice (some ⟨q, 0, none⟩) 3 3) 3 V m fb := by
  refine ⟨q, 0, 3, rfl, fun i hi => ⟨?_, h.ts i hi⟩⟩
  rw [Nat.zero_add]
  exact h.row.cell (tab_get V hi)
theorem lists_heap {W : World} {q : Nat} {T : TypeId} {fr : Nat × Nat} {V : Nat → Value} {m : Nat → Nat} {fb : Nat → Nat → Int} (h : W.heap[q]? = some (.cells (tab 3 V) T fr)) (ht : TsAt W V m fb) : ListsAt W (.slice (some ⟨q, 0, none⟩) 3 3) 3 V m fb := by
  refine ⟨q, 0, 3, rfl, fun i hi => ⟨?_, ht i hi⟩⟩
  rw [cell_of_row _ _ _ _ _ _ h, Nat.zero_add]
  exact tab_get V hi
set_option maxRecDepth 100000 in
set_option maxHeartbeats 8000000 in
theorem search_rest (v0 v1 v2 v4 v5 v10 v11 v12 v13 v14 v15 v16 v17 v18 v19 v20 v21 v22 v23 v24 v25 v26 v27 v28 v29 v30 v31 v32 v33 v34 v35 v36 v37 v38 v39 v40 v41 v42 v43 v44 v45 v46 v47 v48 v49 v50 v51 v52 v53 v54 v55 v56 v57 v58 v59 v61 v62 v63 v64 v65 v66 v67 v68 v69 v70 v71 v72 v73 v74 v75 v76 v77 v78 v79 v80 v81 v82 v83 v84 v85 v86 v87 v88 v89 v90 v91 v92 v93 v94 v95 v96 v97 v98 v99 v100 v101 v102 v103 v104 v105 : Value) (bM bT : Nat) (a b c u1 u2 : Value) (g : Gm) (N0 : Nat) (hN0 : gmN g N0 = g) (hN1 : N0 < 26 ^ g.n) (U : Nat → Value) (hgE : gE g = 0) (hn2 : g.n ≤ 2) (TM TT : TypeId) (fM fT : Nat × Nat) (w : World) (hM : w.heap[bM]? = some (.cells (mac a b c g.rf g.pl) TM fM)) (hT : w.heap[bT]? = some (.cells (tab 3 U) TT fT)) (hm : MacAt w (.agg (mac a b c g.rf g.pl)) g) (hU : TsAt w U (tyM g) (tyF g)) (hu1 : LsA w u1 (fndTo g (tyM g) (tyF g) (26 ^ g.n)) g.n) (hu2 : LsA w u2 (fndTo g (tyM g) (tyF g) (26 ^ g.n)) g.n) :
    wpOps Try.prog sO7 (Exit.then (sT8.wp Try.prog (bodyPost Try.prog Try.f4 (Cs.PostE fun v _ => v = .bool true))) (bodyPost Try.prog Try.f4 (Cs.PostE fun v _ => v = .bool true))) (List.range' 4 5) ⟨#[v0, v1, v2, .pointer (some ⟨bM, 0, none⟩), v4, v5, .bool false, .pointer (some ⟨bT, 0, none⟩), .int .i64 0, u1, v10, v11, v12, v13, v14, v15, v16, v17, v18, v19, v20, v21, v22, v23, v24, v25, v26, v27, v28, v29, v30, v31, v32, v33, v34, v35, v36, v37, v38, v39, v40, v41, v42, v43, v44, v45, v46, v47, v48, v49, v50, v51, v52, v53, v54, v55, v56, v57, v58, v59, .tuple #[u2, .int .i64 0], v61, v62, v63, v64, v65, v66, v67, v68, v69, v70, v71, v72, v73, v74, v75, v76, v77, v78, v79, v80, v81, v82, v83, v84, v85, v86, v87, v88, v89, v90, v91, v92, v93, v94, v95, v96, v97, v98, v99, v100, v101, v102, v103, v104, v105], []⟩ w := by
  have hmem : N0 ∈ fndTo g (tyM g) (tyF g) (26 ^ g.n) := List.mem_filter.2 ⟨List.mem_range.2 hN1, hit_own hN0⟩
  have hlen : (fndTo g (tyM g) (tyF g) (26 ^ g.n)).length ≤ 1000000 := by
    refine Nat.le_trans (fndTo_len _ _ _ _) ?_
    rcases (by omega : g.n = 0 ∨ g.n = 1 ∨ g.n = 2) with h | h | h <;> rw [h] <;> decide
  have hpos := List.length_pos_of_mem hmem
  have HHIT : Hid (∀ N, N ∈ fndTo g (tyM g) (tyF g) (26 ^ g.n) → hitN g (tyM g) (tyF g) N = true) := fun N hN => (List.mem_filter.1 hN).2
  have HALL : Hid (hasTo g (fndTo g (tyM g) (tyF g) (26 ^ g.n)) (fndTo g (tyM g) (tyF g) (26 ^ g.n)).length = true) := has_all hN0 hmem
  obtain ⟨V1, hV1⟩ := lists_of_a hu1 hpos
  obtain ⟨V2, hV2⟩ := lists_of_a hu2 hpos
  clear hu1 hu2 hmem
  generalize fndTo g (tyM g) (tyF g) (26 ^ g.n) = L at *
  have HSL := (show Hid (∀ W, Below w.heap.size w W → Calls Try.prog 9 #[u1, u2] W fun e w' => e = .returned (.bool true) ∧ Below W.heap.size W w') from fun W hb => samelists_ok u1 u2 L.length hlen V1 V2 _ _ W (hV1.below hb) (hV2.below hb))
  have HLT := (show Hid (∀ W, Below w.heap.size w W → ListsAt W (.slice (some ⟨bT, 0, none⟩) 3 3) 3 U (tyM g) (tyF g)) from fun W hb => (lists_heap hT hU).below hb)
  clear hV2 hN1
  obtain ⟨b1, o1, c1, rfl, hC1⟩ := hV1
  have HC1 := (show Hid (∀ i, i < L.length → w.cell? ⟨b1, o1 + i, none⟩ = some (V1 i) ∧ NumsAt w (V1 i) g.n fun j => ((dig g.n (L.getD i 0) j : Nat) : Int)) from hC1)
  obtain ⟨a', b', c', he, hwh, hri, hst⟩ := hm
  have hinj : a = a' ∧ b = b' ∧ c = c' := by
    have h0 : mac a b c g.rf g.pl = mac a' b' c' g.rf g.pl := Value.agg.inj he
    refine ⟨?_, ?_, ?_⟩
    · have h1 : (mac a b c g.rf g.pl)[0]? = (mac a' b' c' g.rf g.pl)[0]? := congrArg (fun x : Array Value => x[0]?) h0
      rw [mac_0, mac_0] at h1
      exact Option.some.inj h1
    · have h1 : (mac a b c g.rf g.pl)[1]? = (mac a' b' c' g.rf g.pl)[1]? := congrArg (fun x : Array Value => x[1]?) h0
      rw [mac_1, mac_1] at h1
      exact Option.some.inj h1
    · have h1 : (mac a b c g.rf g.pl)[2]? = (mac a' b' c' g.rf g.pl)[2]? := congrArg (fun x : Array Value => x[2]?) h0
      rw [mac_2, mac_2] at h1
      exact Option.some.inj h1
  obtain ⟨rfl, rfl, rfl⟩ := hinj
  have HTY := (show Hid (∀ N at' W, N ∈ L → Below w.heap.size w W → NumsAt W at' g.n (fun i => ((dig g.n N i : Nat) : Int)) → Calls Try.prog 11 #[.agg (mac a b at' g.rf g.pl)] W fun e w' => ∃ V, e = .returned (.tuple #[.agg (tab 3 V), .int .i64 0]) ∧ TsAt w' V (tyM g) (tyF g) ∧ Below W.heap.size W w') from fun N at' W hN hb hat => by
    refine (types_any _ (gmN g N) W ⟨a, b, at', rfl, hwh.below hb, hri.below hb, hat⟩).mono ?_
    rintro e w' (⟨h, _⟩ | ⟨_, V, h1, h2, h3⟩)
    · exact absurd (gmN_ok hgE N) h
    · exact ⟨V, by rw [h1, sl3_all], hit_types (HHIT.out N hN) h2, h3⟩)
  have HSA := (show Hid (∀ W u n f, Below w.heap.size w W → NumsAt W u n f → Calls Try.prog 12 #[u, c] W fun e w' => e = .returned (.bool (smB n g.sl f g.st)) ∧ Below W.heap.size W w') from fun W u n f hb hu => rs9_any u c n g.sl f g.st W hu (hst.below hb))
  have hbo : b.oneCell' = true := by obtain ⟨x, y, e, _⟩ := hri; rw [e]; rfl
  have hco : c.oneCell' = true := by obtain ⟨x, y, e, _⟩ := hst; rw [e]; rfl
  have hao : a.oneCell' = true := by obtain ⟨x, y, z, e, _⟩ := hwh; rw [e]; rfl
  have hA0o : (mac a b c g.rf g.pl).all (·.oneCell') = true := mac_one hao hbo hco
  obtain ⟨ac, cc, rfl, _, _⟩ := hst
  have HM2 := (show Hid (∀ x, (mac a b (.slice ac g.sl cc) g.rf g.pl).setIfInBounds 2 x = mac a b x g.rf g.pl) from fun x => mac_set2 _ _ _ _ _ _)
  have HMC := (show Hid ((mac a b (.slice ac g.sl cc) g.rf g.pl)[2]? = some (.slice ac g.sl cc)) from mac_2 _ _ _ _ _)
  have hA0s : (mac a b (.slice ac g.sl cc) g.rf g.pl).size = 55 := mac_size _ _ _ _ _
  have HMS := (show Hid (∀ x, (mac a b x g.rf g.pl).size = 55) from fun x => mac_size _ _ _ _ _)
  have HROW := (show Hid (∀ W, Below w.heap.size w W → W.heap[bM]? = some (.cells (mac a b (.slice ac g.sl cc) g.rf g.pl) TM fM)) from fun W hb => (hb.block bM (heap_lt hM)).trans hM)
  obtain ⟨MM, hMM⟩ : ∃ MM : Value → Array Value, MM = fun x => mac a b x g.rf g.pl := ⟨_, rfl⟩
  have hMMx : ∀ x, mac a b x g.rf g.pl = MM x := fun x => by rw [hMM]
  rw [hMMx] at HMC hA0s hA0o hM
  simp only [hMMx] at HM2 HMS HTY HROW
  obtain ⟨A0, hA0⟩ : ∃ A0, A0 = MM (.slice ac g.sl cc) := ⟨_, rfl⟩
  rw [← hA0] at HMC hA0s hA0o hM
  simp only [← hA0] at HM2 HROW
  have HCC := (show Hid (∀ W, Below w.heap.size w W → W.cell? ⟨bM, 2, none⟩ = some (.slice ac g.sl cc)) from fun W hb => by rw [cell_of_row _ _ _ _ _ _ (HROW.out W hb)]; exact HMC.out)
  have HSU := (show Hid (∀ k, hasTo g L (k + 1) = (hasTo g L k || smB g.n g.sl (fun j => ((dig g.n (L.getD k 0) j : Nat) : Int)) g.st)) from hasTo_succ g L)
  have HZ : Hid (hasTo g L 0 = false) := rfl
  generalize tyM g = tm at *
  generalize tyF g = tf at *
  generalize hasTo g L = hs at *
  clear hA0 hMMx hMM hri hwh he hC1 hgE hN0 hT hU hbo hco hao HHIT hM
  have HBE : Hid (Below w.heap.size w w) := Below.refl _ _
  refine ops_from 4 5 rfl ?_
  simp only [sO7, sT8, sT7, sT6, sT4, sT3, sT1, sB, Try.f4, Option.getD_some, List.drop]
  go_wp2_with fail
  refine (HSL.out _ (Below.refl _ _)).mono ?_
  rintro e W1 ⟨rfl, hb⟩
  have hb1 := hb
  clear hb HSL HBE
  go_wp2_with fail
  go_loopw [12, 77] (fun o x W => ∃ k : Nat, k ≤ L.length ∧ x = .int .i64 (k : Nat) ∧ o = .bool (hs k) ∧ Below w.heap.size w W) (fun _ x _ => ((L.length : Int) - intOf x).toNat)
  case atStart => exact ⟨0, by omega, rfl, by rw [HZ.out], hb1⟩
  case round =>
    clear hb1
    obtain ⟨k, hk, rfl, rfl, hbw⟩ := hrel
    by_cases hlt : k < L.length
    case neg =>
      obtain rfl : k = L.length := by omega
      have hnn : ¬ ((L.length : Nat) : Int) < ((L.length : Nat) : Int) := by omega
      rw [HALL.out]
      clear hlt hbw
      go_wp2
      refine ⟨rfl, .bool true, ?_, _, rfl, rfl⟩
      simp [results, Array.mapM_eq_mapM_toList, List.mapM_cons]
    have HLTk : Hid (k < L.length) := hlt
    have hlt2 : (k : Int) < (L.length : Int) := by omega
    obtain ⟨hc1, hn1⟩ := HC1.out k hlt
    have hcell := (hbw.cell (p := ⟨b1, o1 + k, none⟩) (cell_block hc1)).trans hc1
    obtain ⟨al, cl, hal⟩ : ∃ al cl, V1 k = .slice al g.n cl := by obtain ⟨x, y, e, _⟩ := hn1; exact ⟨x, y, e⟩
    rw [hal] at hcell hn1
    have hmem : L.getD k 0 ∈ L := by
      have : L.getD k 0 = L[k] := by rw [List.getD_eq_getElem?_getD, List.getElem?_eq_getElem hlt]; rfl
      rw [this]; exact List.getElem_mem hlt
    have HNV := (show Hid (∀ W, Below w.heap.size w W → NumsAt W (.slice al g.n cl) g.n fun j => ((dig g.n (L.getD k 0) j : Nat) : Int)) from fun W hb => hn1.below hb)
    have HTK := (show Hid _ from fun W hb => HTY.out (L.getD k 0) (.slice al g.n cl) W hmem hb (HNV.out W hb))
    have HSK := (show Hid _ from fun W hb => HSA.out W (.slice al g.n cl) g.n _ hb (HNV.out W hb))
    have HSUk := (show Hid _ from HSU.out k)
    have HBW := (show Hid (Below w.heap.size w wr) from hbw)
    have hcc := HCC.out wr hbw
    clear hlt hc1 hn1 hal hmem HNV hbw
    generalize smB g.n g.sl (fun j => ((dig g.n (L.getD k 0) j : Nat) : Int)) g.st = sk at *
    go_upto_region 14 with fail
    go_cut [12] from 78 to 104 (fun o W => o = .bool (hs (k + 1)) ∧ Below w.heap.size w W)
    case first =>
      clear HTK
      cases hh : hs k
      · rw [hh, Bool.false_or] at HSUk
        clear hh
        go_wp2_with fail
        refine (HSK.out _ HBW.out).mono ?_
        rintro e W2 ⟨rfl, hb⟩
        have HB2 : Hid (Below w.heap.size w W2) := HBW.out.trans (hb.mono HBW.out.size)
        clear hb HSK HBW hcc hcell
        go_wp2_with fail
        go_meet
        exact ⟨by rw [HSUk.out], HB2.out⟩
      · rw [hh, Bool.true_or] at HSUk
        clear hh HSK hcc hcell
        go_wp2_with fail
        go_meet
        exact ⟨by rw [HSUk.out], HBW.out⟩
    case rest =>
      obtain ⟨rfl, hbw⟩ := hcut
      have hld := HROW.out _ hbw
      have HBW := (show Hid (Below w.heap.size w wc) from hbw)
      clear hcc hcell HSK HSUk hbw HROW HCC HC1 HSA HSU
      have hzm := o_zero v_zero_mac
      go_upto_region 16 with (first | refine wpList_load_row rfl 27 _ rfl bM rfl TM A0 fM _ hld Try.underlying27 rfl (by rw [hA0s]; exact v_info_mac) ?_ | refine wpList_store_row rfl 27 _ _ rfl wc.heap.size A0 rfl rfl 27 _ (RowAt.new wc _ _) (by rw [hA0s]; exact v_info_mac) (by rw [hA0s, mac_size]) hA0o ?_)
      clear hzm
      have hb8 := Below.setRow ((Below.refl wc.heap.size wc).alloc (Nat.le_refl _) (.cells (mac (.slice none 0 0) (.slice none 0 0) (.slice none 0 0) (fun _ => 0) (fun _ => 0)) 27)) wc.heap.size (Nat.le_refl _) A0
      have hq := (RowAt.new wc 27 (mac (.slice none 0 0) (.slice none 0 0) (.slice none 0 0) (fun _ => 0) (fun _ => 0))).row A0
      generalize (wc.alloc (.cells (mac (.slice none 0 0) (.slice none 0 0) (.slice none 0 0) (fun _ => 0) (fun _ => 0)) 27)).setRow wc.heap.size A0 = X1 at *
      have c2 := hq.cell HMC.out
      have f2 := hq.frozen 2
      have hq2 := hq.set 2 (.slice al g.n cl)
      rw [HM2.out] at hq2
      have hb9 := hb8.setCell (p := ⟨wc.heap.size, 2, none⟩) (Nat.le_refl _) (.slice al g.n cl)
      have HQ2 := (show Hid _ from hq2)
      have HB9 := (show Hid _ from hb9)
      have HMSx := (show Hid _ from HMS.out (.slice al g.n cl))
      clear hq hb8 hld hq2 hb9
      go_upto_region 17 with fail
      have hq2 : RowAt (X1.setCell ⟨wc.heap.size, 2, none⟩ (.slice al g.n cl)) wc.heap.size 27 (MM (.slice al g.n cl)) := HQ2.out
      have hb9 : Below wc.heap.size wc (X1.setCell ⟨wc.heap.size, 2, none⟩ (.slice al g.n cl)) := HB9.out
      have hbw2 := HBW.out.trans (hb9.mono HBW.out.size)
      generalize X1.setCell ⟨wc.heap.size, 2, none⟩ (.slice al g.n cl) = X2 at *
      clear c2 f2 HQ2 HB9 HBW hb9
      have HCT := (show Hid _ from HTK.out X2 hbw2)
      obtain ⟨A1, hA1⟩ : ∃ A1, A1 = MM (.slice al g.n cl) := ⟨_, rfl⟩
      rw [← hA1] at hq2 HCT HMSx
      have hA1s : A1.size = 55 := HMSx.out
      clear hA1 HTK HMSx
      go_wp2_with (first | refine wpList_load_row rfl 27 _ rfl wc.heap.size rfl 27 A1 (0, 0) _ hq2 Try.underlying27 rfl (by rw [hA1s]; exact v_info_mac) ?_)
      refine Calls.mono HCT.out ?_
      rintro e X3 ⟨V, rfl, hV, hb⟩
      have hbw3 := hbw2.trans (hb.mono hbw2.size)
      have htabo := tab3_one fun i hi => by
        obtain ⟨x, y, e, _⟩ := hV i hi
        show (V i).oneCell' = true
        rw [e]; rfl
      clear hb hbw2 HCT hq2
      have hz3 := o_zero f_zero_sl3
      go_upto_region 18 with (first | refine wpList_store_row rfl 28 _ _ rfl X3.heap.size (tab 3 V) rfl rfl 28 _ (RowAt.new X3 _ _) (by rw [tab_size]; exact f_size_sl3) (by simp only [tab_size]) htabo ?_)
      clear hz3
      have hb4 := Below.setRow ((Below.refl X3.heap.size X3).alloc (Nat.le_refl _) (.cells (tab 3 fun _ => .slice none 0 0) 28)) X3.heap.size (Nat.le_refl _) (tab 3 V)
      have hS0 : SrS w ((X3.alloc (.cells (tab 3 fun _ => .slice none 0 0) 28)).setRow X3.heap.size (tab 3 V)) X3.heap.size V tm tf := ⟨hbw3.trans (hb4.mono hbw3.size), (RowAt.new X3 28 (tab 3 fun _ => .slice none 0 0)).row (tab 3 V), hV.below hb4⟩
      generalize (X3.alloc (.cells (tab 3 fun _ => .slice none 0 0) 28)).setRow X3.heap.size (tab 3 V) = X4 at *
      generalize X3.heap.size = q4 at *
      clear hb4 hbw3 hV htabo
      refine wp_region_noPanic ?_
      refine wp_region_held_drew (S := fun W => SrS w W q4 V tm tf) (by kernel_rfl) hS0.drew (fun hS => ?_)
      obtain ⟨Z, hZ⟩ : ∃ x, x = X4.drew := ⟨_, rfl⟩
      rw [← hZ] at hS ⊢
      clear hZ hS0
      refine vtake 0 96 (.int .i64 0) rfl rfl (by kernel_rfl) (by kernel_rfl) (by kernel_rfl) (fun _ _ _ _ h => h) (by rfl) (fun W hW => by clear hS hW; go_simp) hS ?_
      simp only [List.setIfInBounds_toArray, List.set_cons_succ, List.set_cons_zero]
      refine vtake 1 97 (.bool false) rfl rfl (by kernel_rfl) (by kernel_rfl) (by kernel_rfl) (fun _ _ _ _ h => h) (by rfl) (fun W hW => by clear hS hW; go_simp) hS ?_
      simp only [List.setIfInBounds_toArray, List.set_cons_succ, List.set_cons_zero]
      refine vtake 2 98 (.bool false) rfl rfl (by kernel_rfl) (by kernel_rfl) (by kernel_rfl) (fun _ _ _ _ h => h) (by rfl) (fun W hW => by clear hS hW; go_simp) hS ?_
      simp only [List.setIfInBounds_toArray, List.set_cons_succ, List.set_cons_zero]
      refine vtake 3 99 (.slice (some ⟨bT, 0, none⟩) 3 3) rfl rfl (by kernel_rfl) (by kernel_rfl) (by kernel_rfl) (fun _ _ _ _ h => h) (by rfl) (fun W hW => by have u := f_slice_sl3 bT W; clear hS hW; simp [execOp, Act.eval, u]) hS ?_
      simp only [List.setIfInBounds_toArray, List.set_cons_succ, List.set_cons_zero]
      refine vtake 4 100 (.slice (some ⟨q4, 0, none⟩) 3 3) rfl rfl (by kernel_rfl) (by kernel_rfl) (by kernel_rfl) (fun _ _ _ _ h => h) (by rfl) (fun W hW => by have u := f_slice_sl3 q4 W; clear hS hW; simp [execOp, Act.eval, u]) hS ?_
      simp only [List.setIfInBounds_toArray, List.set_cons_succ, List.set_cons_zero]
      refine wpAnyH_ready (rs := [5]) (by kernel_rfl) (by simp) ?_
      refine AllReadyH.cons (o := _) rfl (fun K hK => ?_) AllReadyH.nil
      rw [if_pos (by rfl)]
      go_simp
      refine Calls.mono (samelists_ok _ _ 3 (by decide) U V tm tf _ (HLT.out _ hS.below) (lists_sr hS)) ?_
      rintro e Y ⟨rfl, hb8⟩
      refine hK.out _ _ (hS.step hb8) (fun hS1 => ?_)
      clear hK hS K hb8
      have hS := hS1
      clear hS1
      refine vtake 6 102 (.bool false) rfl rfl (by kernel_rfl) (by kernel_rfl) (by kernel_rfl) (fun _ _ _ _ h => h) (by rfl) (fun W hW => by clear hS hW; go_simp) hS ?_
      simp only [List.setIfInBounds_toArray, List.set_cons_succ, List.set_cons_zero]
      refine vtake 7 103 (.bool false) rfl rfl (by kernel_rfl) (by kernel_rfl) (by kernel_rfl) (fun _ _ _ _ h => h) (by rfl) (fun W hW => by clear hS hW; go_simp) hS ?_
      simp only [List.setIfInBounds_toArray, List.set_cons_succ, List.set_cons_zero]
      refine wpAnyH_done (by kernel_rfl) ?_ _
      refine NoPanic.normal ?_
      have HB7 := (show Hid (Below w.heap.size w Y) from hS.below)
      clear hS
      go_wp2
      go_roundw
      case rel => exact ⟨k + 1, HLTk.out, by go_num, rfl, HB7.out⟩
      case measure => have := HLTk.out; simp [intOf]; omega
end Go.Proofs.Ythfjkhmedpilnaa
