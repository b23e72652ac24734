/-
  Contract of tally.counted: how often each letter stands in a column.
-/
import Derived.Test.YteomoeaoboaclaeTMath
import Derived.Test.YteomoeaoboaclaeNRCo
namespace Go.Proofs.Yteomoeaoboaclae
open Go.RowKit PK Vg Tl

theorem results_cell1 {P : Program} {fn : Func} {p : Tmp} {ty : TypeId} (h : fn.results = #[.cell p ty]) (tmps : Array Value) (w : World) (g : Nat) (t : TypeId) (cs : Array Value) (fr : Nat × Nat) (d : TypeDesc)
    (hp : tmps.getD p undef = .pointer (some ⟨g, 0, none⟩)) (hg : w.heap[g]? = some (.cells cs t fr))
    (hu : P.underlying ty = some d) (hd : (match d with | .struct _ | .array _ _ => true | _ => false) = true) (hi : (P.info? ty).map (·.size) = some cs.size) :
    (results fn tmps).run P w = .ok (.agg cs) w := by
  have hp' : tmps[p]?.getD undef = .pointer (some ⟨g, 0, none⟩) := by simpa using hp
  simp [results, h, hp', asAddr, run_loadVar_row w g t ty cs fr d hg hu hd hi]
theorem v_size_int : (Try.prog.info? 3).map (·.size) = some 1 := by kernel_rfl
theorem run_index_cts (f : Nat → Int) (k : Nat) (hk : k < 26) (w : World) : (Instr.index 22 (.agg (ints 26 f)) (.int .i64 (k : Int))).run Try.prog w = .ok (.int .i64 (f k)) w := by
  obtain ⟨i, hi, h1⟩ := Option.map_eq_some_iff.1 v_size_int
  have h2 : ((k : Int) < 26) := by omega
  simp [Instr.index, asIntOf, Sem.run_bind, run_underlying Try.underlying22, part, isAgg, run_underlying Try.underlying3, sizeOf, typeInfo, hi, h1, hk, ints_get f hk]
/-- The result's variable and the array that is filled. -/
structure CnAt (w W : World) (f : Nat → Int) : Prop where
  r : RowAt W w.heap.size 22 (ints 26 fun _ => 0)
  o : RowAt W (w.heap.size + 1) 22 (ints 26 f)
  below : Below w.heap.size w W
theorem CnAt.new (w : World) : CnAt w ((w.alloc (.cells (ints 26 fun _ => 0) 22)).alloc (.cells (ints 26 fun _ => 0) 22)) fun _ => 0 := by
  have h3 := RowAt.new (w.alloc (.cells (ints 26 fun _ => 0) 22)) 22 (ints 26 fun _ => 0)
  simp only [World.size_alloc] at h3
  exact ⟨(RowAt.new w _ _).alloc _, h3, ((Below.refl _ w).alloc (Nat.le_refl _) _).alloc (by simp only [World.size_alloc]; omega) _⟩
theorem CnAt.set {w W : World} {f : Nat → Int} (h : CnAt w W f) (i : Nat) (v : Int) : CnAt w (W.setCell ⟨w.heap.size + 1, i, none⟩ (.int .i64 v)) (upd f i v) := by
  refine ⟨h.r.setOther _ _ (by simp), ?_, h.below.setCell (p := ⟨w.heap.size + 1, i, none⟩) (by simp) _⟩
  have := h.o.set i (.int .i64 v)
  rw [ints_set] at this
  exact this
set_option maxRecDepth 100000 in
set_option maxHeartbeats 2000000 in
theorem tcn_any (t : ByteArray) (ht : Ls t.data.toList) (hs : t.size ≤ 65536) (c n : Nat) (hc : c < n) (hn : n ≤ 64) (w : World) : Calls Try.prog 22 #[.string t, .int .i64 (c : Nat), .int .i64 (n : Nat)] w fun e w' => e = .returned (.agg (ints 26 fun k => (cnt (col t.data.toList n c) k : Nat))) ∧ Below w.heap.size w w' := by
  have hz22 := run_zero' v_zero_cts
  have HALL : Hid (colTo t.data.toList n c t.size = col t.data.toList n c) := by rw [Hid, Pl.size_len]; rfl
  have HST : Hid (colTo t.data.toList n c (min c t.size) = []) := colTo_first _ hc _ (by omega)
  have HNX : Hid (∀ i, i % n = c → i < t.size → colTo t.data.toList n c (min (i + n) t.size) = colTo t.data.toList n c (min i t.size) ++ [t.data.toList.getD i 0]) := fun i h1 h2 => by
    rw [colTo_next _ (by omega) h1 h2, Nat.min_eq_left (by omega)]
  have HLE : Hid (∀ k q, cnt (colTo t.data.toList n c (min k t.size)) q ≤ 65536) := fun k q => Nat.le_trans (cnt_le _ _) (Nat.le_trans (colTo_le _ _ _ _) (by omega))
  go_enter Try.func22, Try.ntmps22
  go_wp2_with fail
  have h2 := CnAt.new w
  clear hz22
  go_loopw [8] (fun i V => ∃ k : Nat, k < t.size + 64 + 64 ∧ k % n = c ∧ i = .int .i64 (k : Nat) ∧ CnAt w V fun q => (cnt (colTo t.data.toList n c (min k t.size)) q : Nat)) (fun i _ => ((t.size : Int) - intOf i).toNat)
  case atStart => exact ⟨c, by omega, Nat.mod_eq_of_lt hc, rfl, by rw [HST.out]; exact h2⟩
  case round =>
    clear h2
    obtain ⟨k, hk, hkm, rfl, hg⟩ := hrel
    by_cases hlt : k < t.size
    · have hlt2 : (k : Int) < (t.size : Int) := by omega
      have hxl := ht.at (getD_size hlt)
      have hix := (getD_byte t k hlt).symm
      have HN := (show Hid _ from HNX.out k hkm hlt)
      have hnum := num_lt hxl
      have hle := HLE.out k (num (t.data.toList.getD k 0))
      have hkm2 : (k + n) % n = c := by rw [Nat.add_mod_right]; exact hkm
      generalize t.data.toList.getD k 0 = x at *
      generalize colTo t.data.toList n c (min k t.size) = l at *
      have hx1 : (65 : Int) ≤ x.toNat := by omega
      have hx2 : (x.toNat : Int) ≤ 90 := by omega
      have hx3 : (x.toNat : Int) - 65 = ((num x : Nat) : Int) := by unfold num; omega
      have hck := hg.o.cell (ints_get (fun q => ((cnt l q : Nat) : Int)) hnum)
      have hfk := hg.o.frozen (num x)
      have HSET : Hid (CnAt w (wr.setCell ⟨w.heap.size + 1, num x, none⟩ (.int .i64 ((cnt l (num x) : Nat) + 1 : Int))) fun q => ((cnt (l ++ [x]) q : Nat) : Int)) := by
        have h := hg.set (num x) ((cnt l (num x) : Nat) + 1 : Int)
        have e : upd (fun q => ((cnt l q : Nat) : Int)) (num x) ((cnt l (num x) : Nat) + 1 : Int) = fun q => ((cnt (l ++ [x]) q : Nat) : Int) := by
          funext q
          unfold upd
          rw [cnt_append, cnt_one]
          by_cases h1 : q = num x
          · rw [if_pos h1, if_pos h1.symm, h1]; omega
          · rw [if_neg h1, if_neg (fun e => h1 e.symm)]; rfl
        rw [e] at h
        exact h
      clear hg
      generalize cnt l (num x) = C at *
      generalize num x = nx at *
      go_wp2_with fail
      go_roundw
      case rel => exact ⟨k + n, by omega, hkm2, by go_num, by rw [HN.out]; exact HSET.out⟩
      case measure => simp [intOf]; omega
    · have HMN : Hid (min k t.size = t.size) := Nat.min_eq_right (by omega)
      have ho : RowAt wr (w.heap.size + 1) 22 (ints 26 fun q => (cnt (col t.data.toList n c) q : Nat)) := by
        have := hg.o
        rw [HMN.out, HALL.out] at this
        exact this
      have hr := hg.r
      have hbe := hg.below
      clear hg
      obtain ⟨N, hN⟩ : ∃ N, N = fun q => ((cnt (col t.data.toList n c) q : Nat) : Int) := ⟨_, rfl⟩
      rw [← hN] at ho
      have HN : Hid (N = fun q => ((cnt (col t.data.toList n c) q : Nat) : Int)) := hN
      clear hN
      have hlt2 : ¬ (k : Int) < (t.size : Int) := by omega
      go_wp2_with (first | refine wpList_load_row rfl 22 _ rfl (w.heap.size + 1) rfl 22 (ints 26 N) (0, 0) _ ho Try.underlying22 rfl (by rw [ints_size]; exact v_info_cts) ?_ | refine wpList_store_row rfl 22 _ _ rfl w.heap.size (ints 26 N) rfl rfl 22 _ hr (by rw [ints_size]; exact v_info_cts) (by simp only [ints_size]) (ints_one _ _) ?_)
      refine bodyPost_ret (v := .agg (ints 26 N)) (results_cell1 Try.results22 _ _ _ _ _ _ _ rfl (hr.row _) Try.underlying22 rfl (by rw [ints_size]; exact v_info_cts)) rfl ⟨by rw [HN.out], ?_⟩
      exact Below.setRow hbe _ (Nat.le_refl _) _
end Go.Proofs.Yteomoeaoboaclae
