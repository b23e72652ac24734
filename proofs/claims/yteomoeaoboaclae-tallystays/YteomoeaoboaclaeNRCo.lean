/-
  Contract of the document's Counts (chapter 7).
-/
import Derived.Test.YteomoeaoboaclaeNRef
namespace Go.Proofs.Yteomoeaoboaclae
open Go.RowKit PK Vg Tl

theorem v_info_cts : (Try.prog.info? 22).map (·.size) = some 26 := by kernel_rfl
theorem v_zero_cts : (Try.prog.info? 22).map (·.zero) = some (some (.agg (ints 26 fun _ => 0))) := by kernel_rfl
theorem run_zero' {P : Program} {t : TypeId} {z : Value} (h : (P.info? t).map (·.zero) = some (some z)) (w : World) : (zeroValue t).run P w = .ok z w := by
  cases hi : P.info? t with
  | none => simp [hi] at h
  | some i =>
    have h2 : i.zero = some z := by simpa [hi] using h
    simp [zeroValue, typeInfo, hi, h2]
/-- The result's variables and the array that is filled. -/
structure CtAt (w W : World) (f : Nat → Int) : Prop where
  r : RowAt W w.heap.size 22 (ints 26 fun _ => 0)
  e : RowAt W (w.heap.size + 1) 25 #[.int .i64 0, .int .i64 0]
  o : RowAt W (w.heap.size + 1 + 1) 22 (ints 26 f)
  below : Below w.heap.size w W
theorem CtAt.new (w : World) : CtAt w (((w.alloc (.cells (ints 26 fun _ => 0) 22)).alloc (.cells #[.int .i64 0, .int .i64 0] 25)).alloc (.cells (ints 26 fun _ => 0) 22)) fun _ => 0 := by
  have h2 := (RowAt.new (w.alloc (.cells (ints 26 fun _ => 0) 22)) 25 #[.int .i64 0, .int .i64 0]).alloc (.cells (ints 26 fun _ => 0) 22)
  have h3 := RowAt.new ((w.alloc (.cells (ints 26 fun _ => 0) 22)).alloc (.cells #[.int .i64 0, .int .i64 0] 25)) 22 (ints 26 fun _ => 0)
  simp only [World.size_alloc] at h2 h3
  exact ⟨((RowAt.new w _ _).alloc _).alloc _, h2, h3, (((Below.refl _ w).alloc (Nat.le_refl _) _).alloc (by simp only [World.size_alloc]; omega) _).alloc (by simp only [World.size_alloc]; omega) _⟩
theorem CtAt.step {w W W' : World} {f : Nat → Int} (h : CtAt w W f) (hb : Below W.heap.size W W') : CtAt w W' f := ⟨h.r.below hb h.r.lt, h.e.below hb h.e.lt, h.o.below hb h.o.lt, h.below.trans (hb.mono h.below.size)⟩
theorem CtAt.alloc {w W : World} {f : Nat → Int} (h : CtAt w W f) (o : Obj) : CtAt w (W.alloc o) f := ⟨h.r.alloc o, h.e.alloc o, h.o.alloc o, h.below.alloc h.below.size o⟩
theorem CtAt.set {w W : World} {f : Nat → Int} (h : CtAt w W f) (i : Nat) (v : Int) : CtAt w (W.setCell ⟨w.heap.size + 1 + 1, i, none⟩ (.int .i64 v)) (upd f i v) := by
  refine ⟨h.r.setOther _ _ (by simp; omega), h.e.setOther _ _ (by simp), ?_, h.below.setCell (p := ⟨w.heap.size + 1 + 1, i, none⟩) (by simp; omega) _⟩
  have := h.o.set i (.int .i64 v)
  rw [ints_set] at this
  exact this
theorem results_cells2' {P : Program} {fn : Func} {p q : Tmp} {ty ty2 : TypeId} (h : fn.results = #[.cell p ty, .cell q ty2]) (tmps : Array Value) (w : World) (g g2 : Nat) (t t2 : TypeId) (cs cs2 : Array Value) (fr fr2 : Nat × Nat) (d d2 : TypeDesc)
    (hp : tmps.getD p undef = .pointer (some ⟨g, 0, none⟩)) (hq : tmps.getD q undef = .pointer (some ⟨g2, 0, none⟩)) (hg : w.heap[g]? = some (.cells cs t fr)) (hg2 : w.heap[g2]? = some (.cells cs2 t2 fr2))
    (hu : P.underlying ty = some d) (hd : (match d with | .struct _ | .array _ _ => true | _ => false) = true) (hi : (P.info? ty).map (·.size) = some cs.size)
    (hu2 : P.underlying ty2 = some d2) (hd2 : (match d2 with | .struct _ | .array _ _ => true | _ => false) = true) (hi2 : (P.info? ty2).map (·.size) = some cs2.size) :
    (results fn tmps).run P w = .ok (.tuple #[.agg cs, .agg cs2]) w := results_cells2 h tmps w g g2 t t2 cs cs2 fr fr2 d d2 hp hq hg hg2 hu hd hi hu2 hd2 hi2
set_option maxRecDepth 100000 in
set_option maxHeartbeats 2000000 in
theorem rct_ok (t : ByteArray) (ht : Ls t.data.toList) (hs : t.size ≤ 65536) (HT : Hid (∀ W, Calls Try.prog 23 #[.string t] W fun e w' => e = .returned (.agg #[.int .i64 0, .int .i64 0]) ∧ Below W.heap.size W w')) (w : World) : Calls Try.prog 8 #[.string t] w fun e w' => e = .returned (.tuple #[.agg (ints 26 fun c => (cnt t.data.toList c : Nat)), .agg #[.int .i64 0, .int .i64 0]]) ∧ Below w.heap.size w w' := by
  have HIN := (show Hid (∀ c W, Calls Try.prog 24 #[.string t, .int .i64 (c : Nat)] W fun e w' => e = .returned (.int .i64 (cnt t.data.toList c : Nat)) ∧ W = w') from fun c W => in_any t ht (by omega) c W)
  have hz22 := run_zero' v_zero_cts
  go_enter Try.func8, Try.ntmps8
  go_wp2_with fail
  refine (HT.out _).mono ?_
  rintro e W1 ⟨rfl, hb⟩
  have h2 := ((CtAt.new w).step hb).alloc (.cells #[.int .i64 0, .int .i64 0] 25)
  clear hb HT hz22
  go_wp2_with fail
  go_loopw [14] (fun i V => ∃ k : Nat, k ≤ 26 ∧ i = .int .i64 (k : Nat) ∧ CtAt w V fun c => if c < k then (cnt t.data.toList c : Nat) else 0) (fun i _ => ((26 : Int) - intOf i).toNat)
  case atStart => exact ⟨0, by omega, rfl, by simpa using h2⟩
  case round =>
    clear h2
    obtain ⟨k, hk, rfl, hg⟩ := hrel
    by_cases hlt : k < 26
    · have hlt2 : (k : Int) < 26 := by omega
      have HI2 := (show Hid _ from HIN.out k)
      have hck := hg.o.cell (ints_get (fun c => if c < k then ((cnt t.data.toList c : Nat) : Int) else 0) hlt)
      have hfk := hg.o.frozen k
      have HNX : Hid (CtAt w (wr.setCell ⟨w.heap.size + 1 + 1, k, none⟩ (.int .i64 (cnt t.data.toList k : Nat))) fun c => if c < k + 1 then ((cnt t.data.toList c : Nat) : Int) else 0) := by
        have h := hg.set k ((cnt t.data.toList k : Nat) : Int)
        have e : upd (fun c => if c < k then ((cnt t.data.toList c : Nat) : Int) else 0) k ((cnt t.data.toList k : Nat) : Int) = fun c => if c < k + 1 then ((cnt t.data.toList c : Nat) : Int) else 0 := by
          funext c
          unfold upd
          by_cases h1 : c = k
          · rw [if_pos h1, if_pos (by omega), h1]
          · rw [if_neg h1]
            by_cases h2 : c < k
            · simp only [if_pos h2, if_pos (show c < k + 1 by omega)]
            · simp only [if_neg h2, if_neg (show ¬ c < k + 1 by omega)]
        rw [e] at h
        exact h
      clear hg
      generalize cnt t.data.toList k = N at *
      go_wp2_with fail
      refine (HI2.out _).mono ?_
      rintro e V1 ⟨rfl, rfl⟩
      go_wp2_with fail
      go_roundw
      case rel => exact ⟨k + 1, by omega, by go_num, HNX.out⟩
      case measure => simp [intOf]; omega
    · obtain rfl : k = 26 := by omega
      have ho : RowAt wr (w.heap.size + 1 + 1) 22 (ints 26 fun c => (cnt t.data.toList c : Nat)) := by
        have := hg.o
        rw [ints_ext (g := fun c => ((cnt t.data.toList c : Nat) : Int)) fun c hc => by rw [if_pos hc]] at this
        exact this
      have hr := hg.r
      have he := hg.e
      have hbe := hg.below
      clear hg
      obtain ⟨N, hN⟩ : ∃ N, N = fun c => ((cnt t.data.toList c : Nat) : Int) := ⟨_, rfl⟩
      rw [← hN] at ho
      have HN : Hid (N = fun c => ((cnt t.data.toList c : Nat) : Int)) := hN
      clear hN
      go_wp2_with (first | refine wpList_load_row rfl 22 _ rfl (w.heap.size + 1 + 1) rfl 22 (ints 26 N) (0, 0) _ ho Try.underlying22 rfl (by rw [ints_size]; exact v_info_cts) ?_ | refine wpList_store_row rfl 22 _ _ rfl w.heap.size (ints 26 N) rfl rfl 22 _ hr (by rw [ints_size]; exact v_info_cts) (by simp only [ints_size]) (ints_one _ _) ?_ | refine wpList_store_row rfl 25 _ _ rfl (w.heap.size + 1) #[.int .i64 0, .int .i64 0] rfl rfl 25 _ (he.rowOther _ _ (by omega)) v_info_fault rfl (two_one _ _) ?_)
      refine bodyPost_ret (v := .tuple #[.agg (ints 26 N), .agg #[.int .i64 0, .int .i64 0]]) (results_cells2 Try.results8 _ _ _ _ _ _ _ _ _ _ _ _ rfl rfl ((hr.row _).rowOther (w.heap.size + 1) _ (by omega)) ((he.rowOther w.heap.size _ (by omega)).row _) Try.underlying22 rfl (by rw [ints_size]; exact v_info_cts) Try.underlying25 rfl v_info_fault) rfl ⟨by rw [HN.out], ?_⟩
      exact Below.setRow (Below.setRow hbe _ (Nat.le_refl _) _) _ (by omega) _
set_option maxRecDepth 100000 in
set_option maxHeartbeats 2000000 in
theorem rct_bad (t : ByteArray) (E A : Int) (hE : (E != 0) = true) (HT : Hid (∀ W, Calls Try.prog 23 #[.string t] W fun e w' => e = .returned (.agg #[.int .i64 E, .int .i64 A]) ∧ Below W.heap.size W w')) (w : World) : Calls Try.prog 8 #[.string t] w fun e w' => e = .returned (.tuple #[.agg (ints 26 fun _ => 0), .agg #[.int .i64 E, .int .i64 A]]) ∧ Below w.heap.size w w' := by
  have hz22 := run_zero' v_zero_cts
  go_enter Try.func8, Try.ntmps8
  go_wp2_with fail
  refine (HT.out _).mono ?_
  rintro e W1 ⟨rfl, hb⟩
  have hl1 : w.heap.size + 3 ≤ W1.heap.size := by have := hb.size; simpa using this
  have h2 := ((CtAt.new w).step hb).alloc (.cells #[.int .i64 E, .int .i64 A] 25)
  clear hb HT hz22
  go_wp2_with fail
  refine wp_region_noPanic ?_
  refine wp_region_held_drew (S := fun W => (∃ f, RowAt W w.heap.size 22 (ints 26 f)) ∧ (∃ c0 c1, RowAt W (w.heap.size + 1) 25 #[c0, c1]) ∧ RowAt W (w.heap.size + 1 + 1) 22 (ints 26 fun _ => 0) ∧ RowAt W W1.heap.size 25 #[.int .i64 E, .int .i64 A] ∧ Below w.heap.size w W) (by kernel_rfl) ⟨⟨_, h2.r⟩, ⟨_, _, h2.e⟩, h2.o, RowAt.new W1 _ _, h2.below.drew⟩ (fun hS => ?_)
  refine vtake 0 12 (.agg (ints 26 fun _ => 0)) rfl rfl (by kernel_rfl) (by kernel_rfl) (by kernel_rfl) (fun _ _ _ _ h => h) (by rfl) (fun W hW => by have u := run_loadVar_row (P := Try.prog) W (w.heap.size + 1 + 1) 22 22 (ints 26 fun _ => 0) (0, 0) _ hW.2.2.1 Try.underlying22 rfl (by rw [ints_size]; exact v_info_cts); clear hS hW; simp [execOp, Act.eval, Instr.loadAt, Instr.sureAddr, u]) hS ?_
  simp only [List.setIfInBounds_toArray, List.set_cons_succ, List.set_cons_zero]
  refine vtake 1 13 (.agg #[.int .i64 E, .int .i64 A]) rfl rfl (by kernel_rfl) (by kernel_rfl) (by kernel_rfl) (fun _ _ _ _ h => h) (by rfl) (fun W hW => by have h1 := hW.2.2.2.1.cell (i := 0) rfl; have h2 := hW.2.2.2.1.cell (i := 1) rfl; clear hS hW; go_simp) hS ?_
  simp only [List.setIfInBounds_toArray, List.set_cons_succ, List.set_cons_zero]
  obtain ⟨f0, hr0⟩ := hS.1
  refine wpAnyH_ready (rs := [2]) (by kernel_rfl) (by simp) ?_
  refine AllReadyH.cons (o := _) rfl (fun K hK => ?_) AllReadyH.nil
  rw [if_pos (by rfl)]
  refine wp_store_row 22 _ _ rfl w.heap.size (ints 26 fun _ => 0) rfl rfl 22 _ hr0 (by rw [ints_size]; exact v_info_cts) (by simp only [ints_size]) (ints_one _ _) ?_
  obtain ⟨c0, c1, hc⟩ := hS.2.1
  refine hK.out _ _ ⟨⟨_, hr0.row _⟩, ⟨_, _, hc.rowOther _ _ (by omega)⟩, hS.2.2.1.rowOther _ _ (by omega), hS.2.2.2.1.rowOther _ _ (by omega), Below.setRow hS.2.2.2.2 _ (Nat.le_refl _) _⟩ (fun hS1 => ?_)
  have hr1 := hr0.row (ints 26 fun _ => 0)
  clear hK hS hc K
  have hS := hS1
  clear hS1
  obtain ⟨c0, c1, hc⟩ := hS.2.1
  refine wpAnyH_ready (rs := [3]) (by kernel_rfl) (by simp) ?_
  refine AllReadyH.cons (o := _) rfl (fun K hK => ?_) AllReadyH.nil
  rw [if_pos (by rfl)]
  refine wp_store_row 25 _ _ rfl (w.heap.size + 1) #[.int .i64 E, .int .i64 A] rfl rfl 25 _ hc v_info_fault rfl (two_one _ _) ?_
  refine hK.out _ _ ⟨⟨_, hr1.rowOther _ _ (by omega)⟩, ⟨_, _, hc.row _⟩, hS.2.2.1.rowOther _ _ (by omega), hS.2.2.2.1.rowOther _ _ (by omega), Below.setRow hS.2.2.2.2 _ (by omega) _⟩ (fun hS1 => ?_)
  have hr2 := hr1.rowOther (w.heap.size + 1) #[.int .i64 E, .int .i64 A] (by omega)
  have hc2 := hc.row #[.int .i64 E, .int .i64 A]
  clear hK hS K
  refine wpAnyH_done (by kernel_rfl) ?_ _
  refine NoPanic.normal ?_
  go_wp2
  exact bodyPost_ret (v := .tuple #[.agg (ints 26 fun _ => 0), .agg #[.int .i64 E, .int .i64 A]]) (results_cells2 Try.results8 _ _ _ _ _ _ _ _ _ _ _ _ rfl rfl hr2 hc2 Try.underlying22 rfl (by rw [ints_size]; exact v_info_cts) Try.underlying25 rfl v_info_fault) rfl ⟨rfl, hS1.2.2.2.2⟩
/-- What Counts says. -/
def ctS (t : List UInt8) (c : Nat) : Int := if ckE t ≠ 0 then 0 else (cnt t c : Nat)
theorem rct_any (t : ByteArray) (w : World) : Calls Try.prog 8 #[.string t] w fun e w' => e = .returned (.tuple #[.agg (ints 26 (ctS t.data.toList)), .agg #[.int .i64 (ckE t.data.toList), .int .i64 (ckAt t.data.toList)]]) ∧ Below w.heap.size w w' := by
  rcases ck_cases t.data.toList with ⟨e1, e2, e3, e4⟩ | e1
  · rw [e1, e2, ints_ext (g := fun c => ((cnt t.data.toList c : Nat) : Int)) fun c _ => by unfold ctS; rw [if_neg (fun h => h e1)]]
    exact rct_ok t (ls_of e4) (by rw [Pl.size_len]; exact e3) (fun W => by have := rcheck_all t W; rw [e1, e2] at this; exact this) w
  · rw [ints_ext (g := fun _ => 0) fun c _ => by unfold ctS; rw [if_pos (by simpa using e1)]]
    exact rct_bad t _ _ e1 (fun W => rcheck_all t W) w
end Go.Proofs.Yteomoeaoboaclae
