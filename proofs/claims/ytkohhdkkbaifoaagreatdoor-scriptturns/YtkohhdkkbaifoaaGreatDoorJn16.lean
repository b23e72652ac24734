/-
  Several texts, joined: OBack, RoTu, ORSt, ORNo, ORWt, OMa, LOUnd, OPlug.
-/
import Derived.Test.YtkohhdkkbaifoaaGreatDoorJn15
import Derived.Test.YtkohhdkkbaifoaaGreatDoorJn5
import Derived.RegionTactic
/-
  Contract of perm.Back.
-/
namespace Go.Proofs.YtkohhdkkbaifoaaGreatDoor
open Go.RowKit PK

theorem firstWrong_any (fs : Nat → Nat → Int) (n : Nat) (hn : n ≤ 2) (b : Nat) (w : World) (hbw : b < w.heap.size) (hr : ∀ k, k < n → w.rangeAt b (k * 26) (ints 26 (fs k)).toList) :
    Calls Tryz.prog 194 #[.slice (some ⟨b, 0, none⟩) n n] w fun e w' => e = .returned (.int .i64 (Pm.firstBad fs n)) ∧ Below w.heap.size w w' := by
  have HR : Hid (∀ k, k < n → w.rangeAt b (k * 26) (ints 26 (fs k)).toList) := hr
  clear hr
  go_enter Tryz.func194, Tryz.ntmps194
  go_wp2
  go_loopw [8] (fun i W => ∃ k : Nat, k ≤ n ∧ i = .int .i64 k ∧ Hid (Pm.firstBad fs k = 0) ∧ Below w.heap.size w W) (fun i _ => (n - intOf i).toNat)
  case atStart => exact ⟨0, by omega, rfl, rfl, Below.refl _ _⟩
  case round =>
    obtain ⟨k, hk, rfl, HN, hb⟩ := hrel
    have hsz := hb.size
    by_cases hlt : k < n
    · have HC : Hid (wr.rangeAt b (k * 26) (ints 26 (fs k)).toList) := Below.rangeAt hb (HR.out k hlt) hbw
      have hX : Pm.wrong (fs k) = 0 ∨ (Pm.wrong (fs k) != 0) = true := by by_cases e : Pm.wrong (fs k) = 0 <;> simp [e]
      obtain ⟨x, hx⟩ : ∃ x, x = Pm.wrong (fs k) := ⟨_, rfl⟩
      rw [← hx] at hX
      have HX : Hid (x = Pm.wrong (fs k)) := hx
      clear hx
      have hcall : ∀ W : World, Calls Tryz.prog 114 #[.agg (ints 26 (fs k))] W fun e w' => e = .returned (.int .i64 x) ∧ Below W.heap.size W w' := fun W => by rw [HX.out]; exact wrong_any (fs k) W
      have HL : Hid (∀ W : World, Calls Tryz.prog 114 #[.agg (ints 26 (fs k))] W fun e w' => e = .returned (.int .i64 x) ∧ Below W.heap.size W w') := hcall
      clear hcall
      rcases hX with rfl | hX
      · go_wp2_with (first
          | refine wpList_load_mid rfl 27 _ rfl b (k * 26) rfl (ints 26 (fs k)).toList _ HC.out Tryz.underlying27 rfl (by rw [Array.length_toList, ints_size]; exact info_perm) ?_
          | (refine wpList_store_row rfl 27 _ _ rfl wr.heap.size (ints 26 (fs k)) rfl rfl 27 _ (RowAt.new wr _ _) (by rw [ints_size]; exact info_perm) (by rw [ints_size]; rfl) (ints_one _ _) ?_; rw [World.setRow_alloc_new])
          | refine wpList_load_row rfl 27 _ rfl wr.heap.size rfl 27 (ints 26 (fs k)) (0, 0) _ (RowAt.new wr _ _) Tryz.underlying27 rfl (by rw [ints_size]; exact info_perm) ?_
          | (go_at_call 114; refine (HL.out _).mono ?_; rintro e w1 ⟨rfl, hb1⟩))
        go_roundw
        case rel => exact ⟨k + 1, by omega, by go_num, by rw [Hid, Pm.firstBad_succ fs k HN.out]; exact HX.out.symm, (hb.alloc hsz _).trans (hb1.mono (by simp; omega))⟩
        case measure => simp [intOf]; omega
      · go_wp2_with (first
          | refine wpList_load_mid rfl 27 _ rfl b (k * 26) rfl (ints 26 (fs k)).toList _ HC.out Tryz.underlying27 rfl (by rw [Array.length_toList, ints_size]; exact info_perm) ?_
          | (refine wpList_store_row rfl 27 _ _ rfl wr.heap.size (ints 26 (fs k)) rfl rfl 27 _ (RowAt.new wr _ _) (by rw [ints_size]; exact info_perm) (by rw [ints_size]; rfl) (ints_one _ _) ?_; rw [World.setRow_alloc_new])
          | refine wpList_load_row rfl 27 _ rfl wr.heap.size rfl 27 (ints 26 (fs k)) (0, 0) _ (RowAt.new wr _ _) Tryz.underlying27 rfl (by rw [ints_size]; exact info_perm) ?_
          | (go_at_call 114; refine (HL.out _).mono ?_; rintro e w1 ⟨rfl, hb1⟩))
        go_ret
        exact ⟨ret_int (HX.out.trans (Pm.firstBad_stop fs k n HN.out (by rw [← HX.out]; simpa using hX) hlt).symm), (hb.alloc hsz _).trans (hb1.mono (by simp; omega))⟩
    · have HK : Hid (k = n) := by rw [Hid]; omega
      go_wp2
      go_ret
      exact ⟨ret_int (by rw [← HK.out]; exact HN.out.symm), hb⟩
theorem zero_perm : (Tryz.prog.info? 27).map (fun i => (i.zero, i.size)) = some (some (.agg (ints 26 fun _ => 0)), 26) := by kernel_rfl
theorem fill_perm (p : Nat → Nat) (hp : Pm.IsPerm p) (v : Nat → Int) : ints 26 (fill p v 26) = ints 26 fun j => v (Pm.inv p j) := ints_ext fun j hj => by
  have h := hp.inv_spec j hj
  have := fill_at p v hp.inj 26 (Nat.le_refl _) (Pm.inv p j) h.1
  rw [h.2] at this
  exact this
theorem fill_back (p : Nat → Nat) (hp : Pm.IsPerm p) : ints 26 (fill p (Pm.up fun i => i) 26) = ints 26 (Pm.up (Pm.inv p)) := fill_perm p hp _
theorem one_ok (p : Nat → Nat) (hp : Pm.IsPerm p) : Pm.firstBad (fun _ => Pm.up p) 1 = 0 := (Pm.firstBad_succ (fun _ => Pm.up p) 0 rfl).trans (Pm.wrong_up p hp)
theorem back1_any (p : Nat → Nat) (i : Nat) (hi : i < 26) (bp : Nat) (w : World) (hrp : RowAt w bp 27 (ints 26 (Pm.up p))) :
    Calls Tryz.prog 240 #[.int .i64 (i : Int), .pointer (some ⟨bp, 0, none⟩)] w fun e w' => e = .returned (.tuple #[.int .i64 (p i : Nat), .int .i64 (i : Int)]) ∧ Below w.heap.size w w' := by
  have hc1 := hrp.cell (ints_get (Pm.up p) hi)
  simp only [Pm.up] at hc1
  clear hrp
  go_enter Tryz.func240, Tryz.ntmps240
  go_wp2
  go_ret2
  exact ⟨rfl, rfl, rfl, rfl, Nat.le_refl _, fun _ _ => rfl⟩
theorem back_ok (p : Nat → Nat) (hp : Pm.IsPerm p) (w : World) :
    Calls Tryz.prog 216 #[.agg (ints 26 (Pm.up p))] w fun e w' => e = .returned (.tuple #[.agg (ints 26 (Pm.up (Pm.inv p))), .int .i64 0]) ∧ Below w.heap.size w w' := by
  have H0 : Hid (Pm.firstBad (fun _ => Pm.up p) 1 = 0) := one_ok p hp
  have hmf : ∀ (fn : Fn) (first cap : Array Value) (w : World), (Instr.makeFunc fn first cap).run Tryz.prog w = .ok (.func fn first cap) w := fun _ _ _ _ => rfl
  go_enter Tryz.func216, Tryz.ntmps216
  go_wp2_with (first
    | refine wpList_load_row rfl 27 _ rfl w.heap.size rfl 27 (ints 26 (Pm.up p)) (0, 0) _ ((RowAt.new w _ _).alloc _) Tryz.underlying27 rfl (by rw [ints_size]; exact info_perm) ?_
    | refine wpList_build1 rfl 200 27 _ rfl 26 (Pm.up p) rfl (by decide) Tryz.underlying200 zero_perm (by decide) ?_)
  rw [zero26]
  refine (firstWrong_any (fun _ => Pm.up p) 1 (by decide) _ _ (by simp) (range_one (RowAt.newAt (by simp)))).mono ?_
  rintro e W1 ⟨rfl, hb0⟩
  obtain ⟨r1, r3, hb1, hs1⟩ := after1 hb0
  clear hb0
  rw [H0.out]
  go_wp2_with fail
  refine (taking_any 240 #[.pointer (some ⟨w.heap.size, 0, none⟩)] p (Pm.up fun i => i) hp.lt _ (by intro args W; go_simp) (fun i hi W hW => back1_any p i hi _ W (r1.below hW (by omega)))).mono ?_
  rintro e W2 ⟨rfl, hb2⟩
  rw [fill_back p hp]
  have hs2 := hb2.size
  have hrow := r3.below hb2 (by omega)
  go_wp2_with (refine wpList_store_row rfl 27 _ _ rfl (w.heap.size + 1) (ints 26 (Pm.up (Pm.inv p))) rfl rfl 27 _ hrow (by rw [ints_size]; exact info_perm) (by simp only [ints_size]) (ints_one _ _) ?_)
  exact bodyPost_ret (v := .tuple #[.agg (ints 26 (Pm.up (Pm.inv p))), .int .i64 0]) (results_cell_tmp2 rfl _ _ (w.heap.size + 1) 27 _ (0, 0) _ _ rfl rfl (hrow.row _) Tryz.underlying27 rfl (by rw [ints_size]; exact info_perm)) rfl ⟨rfl, Below.setRow (hb1.trans (hb2.mono (by omega))) _ (by omega) _⟩
end Go.Proofs.YtkohhdkkbaifoaaGreatDoor

/-
  Contract of rotor.turning.
-/
namespace Go.Proofs.YtkohhdkkbaifoaaGreatDoor
open Go.RowKit PK Vg

def nof : Nat → Bool := fun _ => false
def noz : Nat → Nat := fun _ => 0
theorem v_info_wl : (Tryz.prog.info? 188).map (·.size) = some 80 := by kernel_rfl
theorem v_zero_wl : (Tryz.prog.info? 188).map (·.zero) = some (some (.agg (wlA noz noz nof 0 0))) := by kernel_rfl
theorem built_wl (p q : Nat → Nat) (r s : Nat) : Tryz.prog.built 188 [(0, .agg (ints 26 (Pm.up p))), (1, .agg (ints 26 (Pm.up q))), (3, .int .i64 (r : Nat)), (4, .int .i64 (s : Nat))] = some (wlA p q nof r s) := by kernel_rfl
section
variable {P : Program}
theorem wpList_buildA {ops : Array Oper} {rest : List Oper} {op : Oper} {a : Act} {w : World} {Q : Exit → Act → World → Prop} (hgd : op.guard = none) (t : TypeId) (xs : List (Nat × Operand)) (ho : op.op = .build t xs.toArray) (vs : List (Nat × Value)) (hv : xs.map (fun x => (x.1, a.eval x.2)) = vs)
    (cells : Array Value) (hb : P.built t vs = some cells) (h : wpList P ops Q rest (a.put op.dst (.agg cells)) w) : wpList P ops Q (op :: rest) a w :=
  wpList_plain hgd fun _ hK => by
    unfold Oper.wp execOp
    have hm : xs.toArray.map (fun (i, x) => (i, a.eval x)) = vs.toArray := by rw [← hv]; simp
    simp only [ho, Sem.run_bind, hm, run_build w t vs.toArray cells hb, Result.andThen_ok]
    exact hK _ _ h
end
theorem take_no {l : List Nat} {k : Nat} (h : k < l.length) : upd (fun c => (l.take k).contains c) (l.getD k 0) true = fun c => (l.take (k + 1)).contains c := by
  funext c
  rw [List.take_succ_eq_append_getElem h]
  have e : l.getD k 0 = l[k] := by simp [List.getD, h]
  rw [e]
  unfold upd
  by_cases h1 : c = l[k]
  · rw [if_pos h1, eq_comm, List.contains_iff_mem, List.mem_append, List.mem_singleton]
    exact .inr h1
  · rw [if_neg h1, Bool.eq_iff_iff, List.contains_iff_mem, List.contains_iff_mem, List.mem_append, List.mem_singleton]
    exact ⟨.inl, fun h => h.resolve_right h1⟩
theorem wlA_at {p b : Nat → Nat} {no : Nat → Bool} {ri at' k : Nat} (hk : k < 26) : (wlA p b no ri at')[52 + k]? = some (.bool (no k)) := by
  unfold wlA
  rw [tab_get _ (by omega)]
  unfold wcl
  rw [if_neg (by omega), if_neg (by omega), if_pos (by omega), show 52 + k - 52 = k by omega]
structure TnAt (w W : World) (u : Nat → Int) (v : Value) (q : Nat) (A : Array Value) : Prop where
  par : RowAt W w.heap.size 97 (whl u v)
  res : RowAt W (w.heap.size + 1) 188 (wlA noz noz nof 0 0)
  out : RowAt W q 188 A
  lt : w.heap.size + 1 < q
  below : Below w.heap.size w W
set_option maxRecDepth 100000 in
set_option maxHeartbeats 4000000 in
theorem turning_any (p : Nat → Nat) (hp : Pm.IsPerm p) (v : Value) (l : List Nat) (hl : ∀ k, k ∈ l → k < 26) (ri st : Nat) (w : World) (hv : NumsAt w v l.length fun k => (l.getD k 0 : Nat)) : Calls Tryz.prog 176 #[.agg (whl (Pm.up p) v), .int .i64 (ri : Nat), .int .i64 (st : Nat)] w fun e w' => e = .returned (.agg (wlA p (Pm.inv p) (fun c => l.contains c) ri st)) ∧ Below w.heap.size w w' := by
  have hr := RowAt.new w 97 (whl (Pm.up p) v)
  have hmid := mid_wi (hr.alloc (.cells (wlA noz noz nof 0 0) 188))
  have hz80 := o_zero v_zero_wl
  have hz26 := o_zero v_zero_perm
  have HV := (show Hid (NumsAt w v l.length fun k => (l.getD k 0 : Nat)) from hv)
  have HL := (show Hid (∀ k, k < l.length → l.getD k 0 < 26) from fun k hk => hl _ (by rw [List.getD_eq_getElem?_getD, List.getElem?_eq_getElem hk]; exact List.getElem_mem _))
  clear hl hv
  have h1 : RowAt ((w.alloc (.cells (whl (Pm.up p) v) 97)).alloc (.cells (wlA noz noz nof 0 0) 188)) w.heap.size 97 (whl (Pm.up p) v) := hr.alloc _
  have h2 : RowAt ((w.alloc (.cells (whl (Pm.up p) v) 97)).alloc (.cells (wlA noz noz nof 0 0) 188)) (w.heap.size + 1) 188 (wlA noz noz nof 0 0) := by
    have := RowAt.new (w.alloc (.cells (whl (Pm.up p) v) 97)) 188 (wlA noz noz nof 0 0)
    rw [World.size_alloc] at this
    exact this
  have hb0 : Below w.heap.size w ((w.alloc (.cells (whl (Pm.up p) v) 97)).alloc (.cells (wlA noz noz nof 0 0) 188)) := ((Below.refl _ w).alloc (Nat.le_refl _) _).alloc (by simp) _
  go_enter Tryz.func176, Tryz.ntmps176
  go_upto_region 1 with fail
  clear hr
  generalize (w.alloc (.cells (whl (Pm.up p) v) 97)).alloc (.cells (wlA noz noz nof 0 0) 188) = W0 at *
  go_wp2_with (first | refine wpList_load_arr rfl 27 _ rfl w.heap.size 0 rfl (ints 26 (Pm.up p)) _ hmid Tryz.underlying27 rfl (by rw [ints_size]; exact info_perm) ?_)
  refine (back_ok p hp _).mono ?_
  rintro e V ⟨rfl, hb⟩
  have k1 := h1.below hb h1.lt
  have k2 := h2.below hb h2.lt
  have kb := hb0.trans (hb.mono hb0.size)
  have kl := k2.lt
  clear hb h1 h2 hb0 hmid
  go_upto_region 2 with (first | refine wpList_store_row rfl 27 _ _ rfl V.heap.size (ints 26 (Pm.up (Pm.inv p))) rfl rfl 27 _ (RowAt.new V _ _) (by rw [ints_size]; exact info_perm) (by simp only [ints_size]) (ints_one _ _) ?_)
  have j1 := (k1.alloc (.cells (ints 26 fun _ => 0) 27)).rowOther V.heap.size (ints 26 (Pm.up (Pm.inv p))) (by omega)
  have j2 := (k2.alloc (.cells (ints 26 fun _ => 0) 27)).rowOther V.heap.size (ints 26 (Pm.up (Pm.inv p))) (by omega)
  have j3 := (RowAt.new V 27 (ints 26 fun _ => 0)).row (ints 26 (Pm.up (Pm.inv p)))
  have jb := Below.setRow (kb.alloc kb.size (.cells (ints 26 fun _ => 0) 27)) V.heap.size kb.size (ints 26 (Pm.up (Pm.inv p)))
  generalize (V.alloc (.cells (ints 26 fun _ => 0) 27)).setRow V.heap.size (ints 26 (Pm.up (Pm.inv p))) = U at *
  obtain ⟨q7, hq7⟩ : ∃ q, q = V.heap.size := ⟨_, rfl⟩
  rw [← hq7] at j3 kl ⊢
  clear hq7 k1 k2 kb hz26
  have hmid := mid_wi j1
  have jl := j3.lt
  go_upto_region 3 with (first | refine wpList_buildA rfl 188 [(0, .tmp 19), (1, .tmp 20), (3, .tmp 21), (4, .tmp 22)] rfl [(0, .agg (ints 26 (Pm.up p))), (1, .agg (ints 26 (Pm.up (Pm.inv p)))), (3, .int .i64 (ri : Nat)), (4, .int .i64 (st : Nat))] rfl _ (built_wl p (Pm.inv p) ri st) ?_ | refine wpList_load_arr rfl 27 _ rfl w.heap.size 0 rfl (ints 26 (Pm.up p)) _ hmid Tryz.underlying27 rfl (by rw [ints_size]; exact info_perm) ?_ | refine wpList_load_row rfl 27 _ rfl q7 rfl 27 (ints 26 (Pm.up (Pm.inv p))) (0, 0) _ j3 Tryz.underlying27 rfl (by rw [ints_size]; exact info_perm) ?_ | refine wpList_store_row rfl 188 _ _ rfl U.heap.size (wlA p (Pm.inv p) nof ri st) rfl rfl 188 _ (RowAt.new U _ _) (by rw [wlA_size]; exact v_info_wl) (by simp only [wlA_size]) (wlA_one _ _ _ _ _) ?_)
  have hg : TnAt w ((U.alloc (.cells (wlA noz noz nof 0 0) 188)).setRow U.heap.size (wlA p (Pm.inv p) nof ri st)) (Pm.up p) v U.heap.size (wlA p (Pm.inv p) nof ri st) :=
    ⟨(j1.alloc _).rowOther _ _ (by omega), (j2.alloc _).rowOther _ _ (by omega), (RowAt.new U _ _).row _, by omega, Below.setRow (jb.alloc jb.size _) _ jb.size _⟩
  generalize (U.alloc (.cells (wlA noz noz nof 0 0) 188)).setRow U.heap.size (wlA p (Pm.inv p) nof ri st) = X at *
  obtain ⟨q, hq⟩ : ∃ q, q = U.heap.size := ⟨_, rfl⟩
  rw [← hq] at hg ⊢
  clear hq j1 j2 j3 jb hmid hz80 kl jl
  have hvl := hg.par.cell (whl_last (Pm.up p) v)
  obtain ⟨av, cv, rfl, hmv, hcv⟩ := HV.out
  have HC := (show Hid (∀ c, c < l.length → ∃ b o, av = some ⟨b, o, none⟩ ∧ w.cell? ⟨b, o + c, none⟩ = some (.int .i64 (l.getD c 0 : Nat))) from hcv)
  unfold maxLen at hmv
  clear HV hcv
  go_wp2_with fail
  clear hvl
  go_loopw [27] (fun i W => ∃ k : Nat, k ≤ l.length ∧ i = .int .i64 (k : Nat) ∧ TnAt w W (Pm.up p) (.slice av l.length cv) q (wlA p (Pm.inv p) (fun c => (l.take k).contains c) ri st)) (fun i _ => ((l.length : Int) - intOf i).toNat)
  case atStart => exact ⟨0, by omega, rfl, hg⟩
  case round =>
    clear hg
    obtain ⟨k, hk, rfl, hg⟩ := hrel
    by_cases hlt : k < l.length
    · have HLT : Hid (k < l.length) := hlt
      obtain ⟨b, o, rfl, hc0⟩ := HC.out k hlt
      have hc1 := (hg.below.cell (p := ⟨b, o + k, none⟩) (cell_block hc0)).trans hc0
      have hx := HL.out k hlt
      have HT := (show Hid _ from take_no hlt)
      generalize l.getD k 0 = x at *
      have hck := hg.out.cell (wlA_at (p := p) (b := Pm.inv p) (no := fun c => (l.take k).contains c) (ri := ri) (at' := st) hx)
      have hfk := hg.out.frozen (52 + x)
      have HNX : Hid (TnAt w (wr.setCell ⟨q, 52 + x, none⟩ (.bool true)) (Pm.up p) (.slice (some ⟨b, o, none⟩) l.length cv) q (wlA p (Pm.inv p) (fun c => (l.take (k + 1)).contains c) ri st)) := by
        have hlq := hg.lt
        refine ⟨hg.par.setOther _ _ (by show w.heap.size ≠ q; omega), hg.res.setOther _ _ (by show w.heap.size + 1 ≠ q; omega), ?_, hg.lt, hg.below.setCell (p := ⟨q, 52 + x, none⟩) (by show w.heap.size ≤ q; omega) _⟩
        have := hg.out.set (52 + x) (.bool true)
        rw [wlA_no _ _ _ _ _ hx, HT.out] at this
        exact this
      clear hg hc0 HC
      go_wp2
      go_roundw
      case rel => exact ⟨k + 1, HLT.out, by go_num, HNX.out⟩
      case measure => have := HLT.out; simp [intOf]; omega
    · obtain rfl : k = l.length := by omega
      have hnl : ¬ ((l.length : Nat) : Int) < ((l.length : Nat) : Int) := by omega
      have ho := hg.out
      rw [List.take_length] at ho
      have hres := hg.res
      have hbe := hg.below
      obtain ⟨AA, hAA⟩ : ∃ AA, AA = wlA p (Pm.inv p) (fun c => l.contains c) ri st := ⟨_, rfl⟩
      have hsz : AA.size = 80 := by rw [hAA, wlA_size]
      have hone : AA.all (·.oneCell') = true := by rw [hAA]; exact wlA_one _ _ _ _ _
      rw [← hAA] at ho
      have HAA := (show Hid _ from hAA)
      clear hg HC hAA
      go_wp2_with (first | refine wpList_load_row rfl 188 _ rfl q rfl 188 AA (0, 0) _ ho Tryz.underlying188 rfl (by rw [hsz]; exact v_info_wl) ?_ | refine wpList_store_row rfl 188 _ _ rfl (w.heap.size + 1) AA rfl rfl 188 _ hres (by rw [hsz]; exact v_info_wl) (by simp only [wlA_size, hsz]) hone ?_)
      exact bodyPost_ret (v := .agg AA) (o_results1 Tryz.results176 _ _ _ _ _ _ _ rfl (hres.row _) Tryz.underlying188 rfl (by rw [hsz]; exact v_info_wl)) rfl ⟨by rw [HAA.out]; simp only [List.contains_eq_mem], Below.setRow hbe _ (Nat.le_succ _) _⟩
end Go.Proofs.YtkohhdkkbaifoaaGreatDoor

/-
  Contract of the document's Stepped (chapter 8).
-/
namespace Go.Proofs.YtkohhdkkbaifoaaGreatDoor
open Go.RowKit PK

section
variable {P : Program} {ops : Array Oper} {Q : Exit → Act → World → Prop} {md : Region.Mode} {S : World → Prop}
end
theorem own_step {w w' : World} {B : Nat} {T : TypeId} {s n : Nat} {v : Value} {l : List Value} (h : w.ownsRow B T s v n l) (hb : Below w.heap.size w w') : w'.ownsRow B T s v n l := by
  obtain ⟨h1, h2⟩ := h
  refine ⟨h1, ?_⟩
  rcases h2 with h2 | ⟨g, cap, cur, e, hB, hg, h3⟩
  · exact .inl h2
  · exact .inr ⟨g, cap, cur, e, hB, (hb.block g (Array.getElem?_eq_some_iff.1 hg).1).trans hg, h3⟩
end Go.Proofs.YtkohhdkkbaifoaaGreatDoor

/-
  Contract of the document's Now (chapter 8).
-/
namespace Go.Proofs.YtkohhdkkbaifoaaGreatDoor
open Go.RowKit PK

section
variable {P : Program}
end
section
variable {w W W' : World} {a b c : Value} {rf pl : Nat → Int}
end
section
variable {w W W' : World} {a b c v : Value} {rf pl : Nat → Int} {m : Nat} {P : Nat → Nat → Nat}
end
end Go.Proofs.YtkohhdkkbaifoaaGreatDoor

/-
  Contract of the document's Write (chapter 8).
-/
namespace Go.Proofs.YtkohhdkkbaifoaaGreatDoor
open Go.RowKit PK Vg

/-- The machine and the result's variable. -/
structure WtAt (w W : World) (a b c : Value) (rf pl : Nat → Int) : Prop where
  mg : MgAt w W a b c rf pl
  res : RowAt W (w.heap.size + 1) 35 #[.int .i64 0, .int .i64 0]
theorem WtAt.new (w : World) (a b c : Value) (rf pl : Nat → Int) : WtAt w ((w.alloc (.cells (mac a b c rf pl) 29)).alloc (.cells #[.int .i64 0, .int .i64 0] 35)) a b c rf pl := by
  have h := RowAt.new (w.alloc (.cells (mac a b c rf pl) 29)) 35 #[.int .i64 0, .int .i64 0]
  rw [World.size_alloc] at h
  exact ⟨(MgAt.new w a b c rf pl).alloc _, h⟩
section
variable {w W W' : World} {a b c : Value} {rf pl : Nat → Int}
theorem WtAt.step (h : WtAt w W a b c rf pl) (hb : Below W.heap.size W W') : WtAt w W' a b c rf pl := ⟨h.mg.step hb, h.res.below hb h.res.lt⟩
theorem WtAt.alloc (h : WtAt w W a b c rf pl) (o : Obj) : WtAt w (W.alloc o) a b c rf pl := h.step ((Below.refl _ _).alloc (Nat.le_refl _) o)
theorem WtAt.done (h : WtAt w W a b c rf pl) (x y : Value) : Below w.heap.size w ((W.setCell ⟨w.heap.size + 1, 0, none⟩ x).setCell ⟨w.heap.size + 1, 1, none⟩ y) := (h.mg.below.setCell (p := ⟨w.heap.size + 1, 0, none⟩) (by simp) _).setCell (p := ⟨w.heap.size + 1, 1, none⟩) (by simp) _
theorem WtAt.load (h : WtAt w W a b c rf pl) : W.heap[w.heap.size]? = some (.cells (mac a b c rf pl) 29 (0, 0)) := h.mg.row
end
theorem wr_snoc (M : Om.Ma) : ∀ (l : List UInt8) (at' : Nat → Nat) (x : UInt8), Om.wr M at' (l ++ [x]) = Om.wr M at' l ++ [ltr (Om.now M (Om.steps M at' (l.length + 1)) (Vg.num x))]
  | [], _, _ => rfl
  | a :: l, at', x => by
    show ltr _ :: Om.wr M (Om.step M at') (l ++ [x]) = ltr _ :: (Om.wr M (Om.step M at') l ++ _)
    rw [wr_snoc M l (Om.step M at') x, Om.steps_step]
    rfl
theorem wr_take {M : Om.Ma} {t : List UInt8} {k : Nat} (hk : k < t.length) (at' : Nat → Nat) : Om.wr M at' (t.take (k + 1)) = Om.wr M at' (t.take k) ++ [ltr (Om.now M (Om.steps M at' (k + 1)) (Vg.num (t.getD k 0)))] := by
  rw [List.take_succ_eq_append_getElem hk, wr_snoc, List.length_take, Nat.min_eq_left (by omega), getD_some hk]
theorem own_byte {w w' : World} {B : Nat} {v : Value} {l : List UInt8} (h : Kit.Owns w B 5 v l) (hb : Below w.heap.size w w') : Kit.Owns w' B 5 v l := own_step h hb
/-- What Write says. -/
def rwE (g : Gm) (t : List UInt8) : Int := if gE g ≠ 0 then gE g else ckE t
def rwAt (g : Gm) (t : List UInt8) : Int := if gE g ≠ 0 then 0 else ckAt t
end Go.Proofs.YtkohhdkkbaifoaaGreatDoor

/-
  The machine that a given one is.
-/
namespace Go.Proofs.YtkohhdkkbaifoaaGreatDoor
open Go.RowKit PK Vg

def maOf (g : Gm) : Om.Ma := ⟨g.n, fun r c => (g.wi r c).toNat, fun r => (List.range (g.nl r)).map fun k => (g.no r k).toNat, fun i => (g.ri i).toNat, fun i => (g.st i).toNat, fun c => (g.rf c).toNat, fun c => (g.pl c).toNat⟩
theorem perm_toNat {f : Nat → Int} (h : Pm.wrong f = 0) : Pm.IsPerm (fun c => (f c).toNat) ∧ ∀ i, i < 26 → f i = (((f i).toNat : Nat) : Int) := by
  obtain ⟨p, hp, e⟩ := (Pm.wrong_zero f).1 h
  have e2 : ∀ i, i < 26 → (f i).toNat = p i := fun i hi => by rw [e i hi]; rfl
  refine ⟨⟨fun i hi => by show (f i).toNat < 26; rw [e2 i hi]; exact hp.lt i hi, fun i j hi hj h => ?_⟩, fun i hi => by rw [e i hi]; rfl⟩
  have h' : (f i).toNat = (f j).toNat := h
  rw [e2 i hi, e2 j hj] at h'
  exact hp.inj i j hi hj h'
theorem ok_maOf {g : Gm} (h : gE g = 0) : Om.Ok (maOf g) ∧ ∀ W v, MacAt W v g → MacAt W v (gOf (maOf g)) := by
  obtain ⟨⟨h1, h2⟩, h3, ⟨h4, h5⟩, ⟨h6, h7⟩, ⟨h8, h9⟩, h10, h11⟩ := gE_zero h
  have hw := whE_zero g g.n h3
  rw [ins_iff] at h5 h7
  rw [undo_iff] at h9 h11
  obtain ⟨hrf, erf⟩ := perm_toNat h8
  obtain ⟨hpl, epl⟩ := perm_toNat h10
  have hwi : ∀ r, r < g.n → Pm.IsPerm (fun c => (g.wi r c).toNat) ∧ ∀ i, i < 26 → g.wi r i = (((g.wi r i).toNat : Nat) : Int) := fun r hr => perm_toNat (hw r hr).1
  have hno : ∀ r, r < g.n → ∀ k, k < g.nl r → 0 ≤ g.no r k ∧ g.no r k ≤ 25 := fun r hr => (ins_iff _ _).1 (hw r hr).2
  refine ⟨⟨h1, h2, fun i hi => (hwi i hi).1, fun i hi k hk => ?_, fun i hi => ?_, fun i hi => ?_, hrf, fun c hc => ?_, fun c hc => ?_, hpl, fun c hc => ?_⟩, ?_⟩
  · obtain ⟨q, hq, rfl⟩ := List.mem_map.1 hk
    have := hno i hi q (by simpa using hq)
    omega
  · have := h5 i (by rw [h4]; exact hi); show (g.ri i).toNat < 26; omega
  · have := h7 i (by rw [h6]; exact hi); show (g.st i).toNat < 26; omega
  · have := (h9 c hc).1
    show (g.rf (g.rf c).toNat).toNat = c
    omega
  · have := (h9 c hc).2 rfl
    have e := erf c hc
    show (g.rf c).toNat ≠ c
    omega
  · have := (h11 c hc).1
    show (g.pl (g.pl c).toNat).toNat = c
    omega
  · rintro W v ⟨a, b, c, e, k1, k2, k3⟩
    refine ⟨a, b, c, by rw [e, mac_ext erf epl]; rfl, ?_, ?_, ?_⟩
    · obtain ⟨a', cap, R, q1, q2, q3, q4⟩ := k1
      refine ⟨a', cap, R, q1, q2, fun r hr => ?_, fun r hr => ?_⟩
      · obtain ⟨b', o', e1, e2⟩ := q3 r hr
        rw [whl_ext (hwi r hr).2] at e2
        exact ⟨b', o', e1, e2⟩
      · have := q4 r hr
        show NumsAt W (R r) ((List.range (g.nl r)).map fun k => (g.no r k).toNat).length _
        rw [List.length_map, List.length_range]
        refine nums_ext this fun k hk => ?_
        have h0 := hno r hr k hk
        show g.no r k = (((List.range (g.nl r)).map fun k => (g.no r k).toNat).getD k 0 : Nat)
        simp [List.getD_eq_getElem?_getD, hk]
        omega
    · rw [h4] at k2
      exact nums_ext k2 fun i hi => by
        have := h5 i (by rw [h4]; exact hi)
        show g.ri i = ((g.ri i).toNat : Int)
        omega
    · rw [h6] at k3
      exact nums_ext k3 fun i hi => by
        have := h7 i (by rw [h6]; exact hi)
        show g.st i = ((g.st i).toNat : Int)
        omega
/-- What Write writes. -/
def rwS (g : Gm) (t : List UInt8) : List UInt8 := if rwE g t ≠ 0 then [] else Om.wr (maOf g) (maOf g).st t
end Go.Proofs.YtkohhdkkbaifoaaGreatDoor

/-
  RotorUndone, for any Write that writes what the document's writes.
-/
namespace Go.Proofs.YtkohhdkkbaifoaaGreatDoor
open Go.RowKit PK Vg

section
variable {w W W' : World} {a b c : Value} {rf pl : Nat → Int} {q : Nat} {x y : Value}
end
end Go.Proofs.YtkohhdkkbaifoaaGreatDoor

/-
  Contract of the law's plugged; a store into the midst of a machine.
-/
namespace Go.Proofs.YtkohhdkkbaifoaaGreatDoor
open Go.RowKit PK Vg

def setMany (c : Array Value) : Nat → List Value → Array Value
  | _, [] => c
  | o, v :: l => setMany (c.setIfInBounds o v) (o + 1) l
theorem row_setCells {T : TypeId} {g : Nat} : ∀ {l : List Value} {o : Nat} {w : World} {c : Array Value}, RowAt w g T c → RowAt (w.setCells g o l) g T (setMany c o l)
  | [], _, _, _, h => h
  | v :: l, o, _, _, h => row_setCells (l := l) (h.set o v)
theorem setMany_size : ∀ (l : List Value) (o : Nat) (c : Array Value), (setMany c o l).size = c.size
  | [], _, _ => rfl
  | v :: l, o, c => by show (setMany (c.setIfInBounds o v) (o + 1) l).size = _; rw [setMany_size]; simp
theorem setMany_get : ∀ (l : List Value) (o : Nat) (c : Array Value) (i : Nat), o + l.length ≤ c.size → (setMany c o l)[i]? = if o ≤ i ∧ i < o + l.length then l[i - o]? else c[i]?
  | [], o, c, i, _ => by show c[i]? = _; rw [if_neg (by rintro ⟨h1, h2⟩; simp at h2; omega)]
  | v :: l, o, c, i, h => by
    show (setMany (c.setIfInBounds o v) (o + 1) l)[i]? = _
    have h' : o + 1 + l.length ≤ c.size := by simp at h; omega
    rw [setMany_get l (o + 1) (c.setIfInBounds o v) i (by simpa using h')]
    by_cases e : i = o
    · subst e
      rw [if_neg (by omega), if_pos ⟨by omega, by simp⟩, Nat.sub_self]
      have hi : i < c.size := by simp at h; omega
      simp [hi]
    · by_cases e2 : o + 1 ≤ i ∧ i < o + 1 + l.length
      · rw [if_pos e2, if_pos ⟨by omega, by simp; omega⟩]
        rw [show i - o = (i - (o + 1)) + 1 by omega]
        simp
      · rw [if_neg e2, if_neg (by simp; omega), Array.getElem?_setIfInBounds_ne (by omega)]
theorem mac_plugs (a b c : Value) (rf pl pl2 : Nat → Int) : setMany (mac a b c rf pl) 29 (ints 26 pl2).toList = mac a b c rf pl2 := by
  apply Array.ext_getElem?
  intro i
  have hl : (ints 26 pl2).toList.length = 26 := by rw [Array.length_toList, ints_size]
  rw [setMany_get _ _ _ _ (by rw [hl, mac_size]; decide), hl]
  by_cases h : 29 ≤ i ∧ i < 29 + 26
  · rw [if_pos h, Array.getElem?_toList, ints_get _ (by omega)]
    obtain ⟨j, rfl⟩ : ∃ j, i = 29 + j := ⟨i - 29, by omega⟩
    rw [mac_pl _ _ _ _ _ (by omega), show 29 + j - 29 = j by omega]
  · rw [if_neg h]
    by_cases h2 : i < 29
    · have key : ∀ q : Nat → Int, (mac a b c rf q)[i]? = (#[a, b, c] ++ ints 26 rf)[i]? := fun q => by
        unfold mac
        rw [Array.getElem?_append, if_pos (by simp [ints_size]; omega)]
      rw [key, key]
    · rw [Array.getElem?_eq_none (by rw [mac_size]; omega), Array.getElem?_eq_none (by rw [mac_size]; omega)]
theorem below_setCells {B g : Nat} (hg : B ≤ g) : ∀ {l : List Value} {o : Nat} {w W : World}, Below B w W → Below B w (W.setCells g o l)
  | [], _, _, _, h => h
  | v :: l, o, _, _, h => below_setCells hg (l := l) (h.setCell (p := ⟨g, o, none⟩) hg v)
theorem row_setCells_other {T : TypeId} {g q : Nat} (hne : q ≠ g) : ∀ {l : List Value} {o : Nat} {w : World} {c : Array Value}, RowAt w q T c → RowAt (w.setCells g o l) q T c
  | [], _, _, _, h => h
  | v :: l, o, _, _, h => row_setCells_other hne (l := l) (h.setOther ⟨g, o, none⟩ v hne)
theorem there_row {w : World} {g : Nat} {T : TypeId} {c : Array Value} (h : RowAt w g T c) {o n : Nat} (hn : o + n ≤ c.size) : w.there g o n := fun j hj => by
  refine ⟨?_, h.frozen _⟩
  rw [h.cell (i := o + j) (v := c[o + j]'(by omega)) (by simp)]
  rfl
end Go.Proofs.YtkohhdkkbaifoaaGreatDoor
