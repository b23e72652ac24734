/-
  Contract of rotor.turning.
-/
import Derived.Test.YtigamiehnjipcaaRoKit
import Derived.Test.YtigamiehnjipcaaORWr
import Derived.Test.YtigamiehnjipcaaOPl
import Derived.Test.YtigamiehnjipcaaJn5
import Derived.RegionTactic
namespace Go.Proofs.Ytigamiehnjipcaa
open Go.RowKit PK Vg

def nof : Nat → Bool := fun _ => false
def noz : Nat → Nat := fun _ => 0
theorem v_info_wl : (Try.prog.info? 89).map (·.size) = some 80 := by kernel_rfl
theorem v_zero_wl : (Try.prog.info? 89).map (·.zero) = some (some (.agg (wlA noz noz nof 0 0))) := by kernel_rfl
theorem built_wl (p q : Nat → Nat) (r s : Nat) : Try.prog.built 89 [(0, .agg (ints 26 (Pm.up p))), (1, .agg (ints 26 (Pm.up q))), (3, .int .i64 (r : Nat)), (4, .int .i64 (s : Nat))] = some (wlA p q nof r s) := by kernel_rfl
section
variable {P : Program}
theorem wpList_buildA {ops : Array Oper} {rest : List Oper} {op : Oper} {a : Act} {w : World} {Q : Exit → Act → World → Prop} (hgd : op.guard = none) (t : TypeId) (xs : List (Nat × Operand)) (ho : op.op = .build t xs.toArray) (vs : List (Nat × Value)) (hv : xs.map (fun x => (x.1, a.eval x.2)) = vs)
    (cells : Array Value) (hb : P.built t vs = some cells) (h : wpList P ops Q rest (a.put op.dst (.agg cells)) w) : wpList P ops Q (op :: rest) a w :=
  wpList_plain hgd fun _ hK => by
    unfold Oper.wp execOp
    have hm : xs.toArray.map (fun (i, x) => (i, a.eval x)) = vs.toArray := by rw [← hv]; simp
    simp only [ho, Sem.run_bind, hm, run_build w t vs.toArray cells hb, Result.andThen_ok]
    exact hK _ _ h
end
theorem take_no {l : List Nat} {k : Nat} (h : k < l.length) : upd (fun c => (l.take k).contains c) (l.getD k 0) true = fun c => (l.take (k + 1)).contains c := by
  funext c
  rw [List.take_succ_eq_append_getElem h]
  have e : l.getD k 0 = l[k] := by simp [List.getD, h]
  rw [e]
  unfold upd
  by_cases h1 : c = l[k]
  · rw [if_pos h1, eq_comm, List.contains_iff_mem, List.mem_append, List.mem_singleton]
    exact .inr h1
  · rw [if_neg h1, Bool.eq_iff_iff, List.contains_iff_mem, List.contains_iff_mem, List.mem_append, List.mem_singleton]
    exact ⟨.inl, fun h => h.resolve_right h1⟩
theorem wlA_at {p b : Nat → Nat} {no : Nat → Bool} {ri at' k : Nat} (hk : k < 26) : (wlA p b no ri at')[52 + k]? = some (.bool (no k)) := by
  unfold wlA
  rw [tab_get _ (by omega)]
  unfold wcl
  rw [if_neg (by omega), if_neg (by omega), if_pos (by omega), show 52 + k - 52 = k by omega]
structure TnAt (w W : World) (u : Nat → Int) (v : Value) (q : Nat) (A : Array Value) : Prop where
  par : RowAt W w.heap.size 94 (whl u v)
  res : RowAt W (w.heap.size + 1) 89 (wlA noz noz nof 0 0)
  out : RowAt W q 89 A
  lt : w.heap.size + 1 < q
  below : Below w.heap.size w W
set_option maxRecDepth 100000 in
set_option maxHeartbeats 4000000 in
theorem turning_any (p : Nat → Nat) (hp : Pm.IsPerm p) (v : Value) (l : List Nat) (hl : ∀ k, k ∈ l → k < 26) (ri st : Nat) (w : World) (hv : NumsAt w v l.length fun k => (l.getD k 0 : Nat)) : Calls Try.prog 53 #[.agg (whl (Pm.up p) v), .int .i64 (ri : Nat), .int .i64 (st : Nat)] w fun e w' => e = .returned (.agg (wlA p (Pm.inv p) (fun c => l.contains c) ri st)) ∧ Below w.heap.size w w' := by
  have hr := RowAt.new w 94 (whl (Pm.up p) v)
  have hmid := mid_wi (hr.alloc (.cells (wlA noz noz nof 0 0) 89))
  have hz80 := o_zero v_zero_wl
  have hz26 := o_zero v_zero_perm
  have HV := (show Hid (NumsAt w v l.length fun k => (l.getD k 0 : Nat)) from hv)
  have HL := (show Hid (∀ k, k < l.length → l.getD k 0 < 26) from fun k hk => hl _ (by rw [List.getD_eq_getElem?_getD, List.getElem?_eq_getElem hk]; exact List.getElem_mem _))
  clear hl hv
  have h1 : RowAt ((w.alloc (.cells (whl (Pm.up p) v) 94)).alloc (.cells (wlA noz noz nof 0 0) 89)) w.heap.size 94 (whl (Pm.up p) v) := hr.alloc _
  have h2 : RowAt ((w.alloc (.cells (whl (Pm.up p) v) 94)).alloc (.cells (wlA noz noz nof 0 0) 89)) (w.heap.size + 1) 89 (wlA noz noz nof 0 0) := by
    have := RowAt.new (w.alloc (.cells (whl (Pm.up p) v) 94)) 89 (wlA noz noz nof 0 0)
    rw [World.size_alloc] at this
    exact this
  have hb0 : Below w.heap.size w ((w.alloc (.cells (whl (Pm.up p) v) 94)).alloc (.cells (wlA noz noz nof 0 0) 89)) := ((Below.refl _ w).alloc (Nat.le_refl _) _).alloc (by simp) _
  go_enter Try.func53, Try.ntmps53
  go_upto_region 1 with fail
  clear hr
  generalize (w.alloc (.cells (whl (Pm.up p) v) 94)).alloc (.cells (wlA noz noz nof 0 0) 89) = W0 at *
  go_wp2_with (first | refine wpList_load_arr rfl 25 _ rfl w.heap.size 0 rfl (ints 26 (Pm.up p)) _ hmid Try.underlying25 rfl (by rw [ints_size]; exact info_perm) ?_)
  refine (back_ok p hp _).mono ?_
  rintro e V ⟨rfl, hb⟩
  have k1 := h1.below hb h1.lt
  have k2 := h2.below hb h2.lt
  have kb := hb0.trans (hb.mono hb0.size)
  have kl := k2.lt
  clear hb h1 h2 hb0 hmid
  go_upto_region 2 with (first | refine wpList_store_row rfl 25 _ _ rfl V.heap.size (ints 26 (Pm.up (Pm.inv p))) rfl rfl 25 _ (RowAt.new V _ _) (by rw [ints_size]; exact info_perm) (by simp only [ints_size]) (ints_one _ _) ?_)
  have j1 := (k1.alloc (.cells (ints 26 fun _ => 0) 25)).rowOther V.heap.size (ints 26 (Pm.up (Pm.inv p))) (by omega)
  have j2 := (k2.alloc (.cells (ints 26 fun _ => 0) 25)).rowOther V.heap.size (ints 26 (Pm.up (Pm.inv p))) (by omega)
  have j3 := (RowAt.new V 25 (ints 26 fun _ => 0)).row (ints 26 (Pm.up (Pm.inv p)))
  have jb := Below.setRow (kb.alloc kb.size (.cells (ints 26 fun _ => 0) 25)) V.heap.size kb.size (ints 26 (Pm.up (Pm.inv p)))
  generalize (V.alloc (.cells (ints 26 fun _ => 0) 25)).setRow V.heap.size (ints 26 (Pm.up (Pm.inv p))) = U at *
  obtain ⟨q7, hq7⟩ : ∃ q, q = V.heap.size := ⟨_, rfl⟩
  rw [← hq7] at j3 kl ⊢
  clear hq7 k1 k2 kb hz26
  have hmid := mid_wi j1
  have jl := j3.lt
  go_upto_region 3 with (first | refine wpList_buildA rfl 89 [(0, .tmp 19), (1, .tmp 20), (3, .tmp 21), (4, .tmp 22)] rfl [(0, .agg (ints 26 (Pm.up p))), (1, .agg (ints 26 (Pm.up (Pm.inv p)))), (3, .int .i64 (ri : Nat)), (4, .int .i64 (st : Nat))] rfl _ (built_wl p (Pm.inv p) ri st) ?_ | refine wpList_load_arr rfl 25 _ rfl w.heap.size 0 rfl (ints 26 (Pm.up p)) _ hmid Try.underlying25 rfl (by rw [ints_size]; exact info_perm) ?_ | refine wpList_load_row rfl 25 _ rfl q7 rfl 25 (ints 26 (Pm.up (Pm.inv p))) (0, 0) _ j3 Try.underlying25 rfl (by rw [ints_size]; exact info_perm) ?_ | refine wpList_store_row rfl 89 _ _ rfl U.heap.size (wlA p (Pm.inv p) nof ri st) rfl rfl 89 _ (RowAt.new U _ _) (by rw [wlA_size]; exact v_info_wl) (by simp only [wlA_size]) (wlA_one _ _ _ _ _) ?_)
  have hg : TnAt w ((U.alloc (.cells (wlA noz noz nof 0 0) 89)).setRow U.heap.size (wlA p (Pm.inv p) nof ri st)) (Pm.up p) v U.heap.size (wlA p (Pm.inv p) nof ri st) :=
    ⟨(j1.alloc _).rowOther _ _ (by omega), (j2.alloc _).rowOther _ _ (by omega), (RowAt.new U _ _).row _, by omega, Below.setRow (jb.alloc jb.size _) _ jb.size _⟩
  generalize (U.alloc (.cells (wlA noz noz nof 0 0) 89)).setRow U.heap.size (wlA p (Pm.inv p) nof ri st) = X at *
  obtain ⟨q, hq⟩ : ∃ q, q = U.heap.size := ⟨_, rfl⟩
  rw [← hq] at hg ⊢
  clear hq j1 j2 j3 jb hmid hz80 kl jl
  have hvl := hg.par.cell (whl_last (Pm.up p) v)
  obtain ⟨av, cv, rfl, hmv, hcv⟩ := HV.out
  have HC := (show Hid (∀ c, c < l.length → ∃ b o, av = some ⟨b, o, none⟩ ∧ w.cell? ⟨b, o + c, none⟩ = some (.int .i64 (l.getD c 0 : Nat))) from hcv)
  unfold maxLen at hmv
  clear HV hcv
  go_wp2_with fail
  clear hvl
  go_loopw [27] (fun i W => ∃ k : Nat, k ≤ l.length ∧ i = .int .i64 (k : Nat) ∧ TnAt w W (Pm.up p) (.slice av l.length cv) q (wlA p (Pm.inv p) (fun c => (l.take k).contains c) ri st)) (fun i _ => ((l.length : Int) - intOf i).toNat)
  case atStart => exact ⟨0, by omega, rfl, hg⟩
  case round =>
    clear hg
    obtain ⟨k, hk, rfl, hg⟩ := hrel
    by_cases hlt : k < l.length
    · have HLT : Hid (k < l.length) := hlt
      obtain ⟨b, o, rfl, hc0⟩ := HC.out k hlt
      have hc1 := (hg.below.cell (p := ⟨b, o + k, none⟩) (cell_block hc0)).trans hc0
      have hx := HL.out k hlt
      have HT := (show Hid _ from take_no hlt)
      generalize l.getD k 0 = x at *
      have hck := hg.out.cell (wlA_at (p := p) (b := Pm.inv p) (no := fun c => (l.take k).contains c) (ri := ri) (at' := st) hx)
      have hfk := hg.out.frozen (52 + x)
      have HNX : Hid (TnAt w (wr.setCell ⟨q, 52 + x, none⟩ (.bool true)) (Pm.up p) (.slice (some ⟨b, o, none⟩) l.length cv) q (wlA p (Pm.inv p) (fun c => (l.take (k + 1)).contains c) ri st)) := by
        have hlq := hg.lt
        refine ⟨hg.par.setOther _ _ (by show w.heap.size ≠ q; omega), hg.res.setOther _ _ (by show w.heap.size + 1 ≠ q; omega), ?_, hg.lt, hg.below.setCell (p := ⟨q, 52 + x, none⟩) (by show w.heap.size ≤ q; omega) _⟩
        have := hg.out.set (52 + x) (.bool true)
        rw [wlA_no _ _ _ _ _ hx, HT.out] at this
        exact this
      clear hg hc0 HC
      go_wp2
      go_roundw
      case rel => exact ⟨k + 1, HLT.out, by go_num, HNX.out⟩
      case measure => have := HLT.out; simp [intOf]; omega
    · obtain rfl : k = l.length := by omega
      have hnl : ¬ ((l.length : Nat) : Int) < ((l.length : Nat) : Int) := by omega
      have ho := hg.out
      rw [List.take_length] at ho
      have hres := hg.res
      have hbe := hg.below
      obtain ⟨AA, hAA⟩ : ∃ AA, AA = wlA p (Pm.inv p) (fun c => l.contains c) ri st := ⟨_, rfl⟩
      have hsz : AA.size = 80 := by rw [hAA, wlA_size]
      have hone : AA.all (·.oneCell') = true := by rw [hAA]; exact wlA_one _ _ _ _ _
      rw [← hAA] at ho
      have HAA := (show Hid _ from hAA)
      clear hg HC hAA
      go_wp2_with (first | refine wpList_load_row rfl 89 _ rfl q rfl 89 AA (0, 0) _ ho Try.underlying89 rfl (by rw [hsz]; exact v_info_wl) ?_ | refine wpList_store_row rfl 89 _ _ rfl (w.heap.size + 1) AA rfl rfl 89 _ hres (by rw [hsz]; exact v_info_wl) (by simp only [wlA_size, hsz]) hone ?_)
      exact bodyPost_ret (v := .agg AA) (o_results1 Try.results53 _ _ _ _ _ _ _ rfl (hres.row _) Try.underlying89 rfl (by rw [hsz]; exact v_info_wl)) rfl ⟨by rw [HAA.out]; simp only [List.contains_eq_mem], Below.setRow hbe _ (Nat.le_succ _) _⟩
end Go.Proofs.Ytigamiehnjipcaa
