/-
  Several texts, joined: TSm, NRCo, TCn.
-/
import Derived.Test.YtkohhdkkbaifoaaGreatDoorJn32
/-
  Contracts of tally's small functions: pairs, divisor, greater, wrong.
-/
namespace Go.Proofs.YtkohhdkkbaifoaaGreatDoor
open Go.RowKit PK Vg Tl

set_option maxRecDepth 100000 in
set_option maxHeartbeats 1000000 in
theorem tpairs_any (n : Nat) (h : n ≤ 65536) (w : World) : Calls Tryz.prog 113 #[.int .i64 (n : Nat)] w fun e w' => e = .returned (.int .i64 (hp n : Nat)) ∧ w = w' := by
  have h1 := wrap_mul h
  have h2 := wrap_half h
  have hm := mul_bound h
  have HH : Hid (((n * (n - 1) : Nat) : Int) / 2 = ((hp n : Nat) : Int)) := by unfold hp; rw [Hid, Int.natCast_ediv]; rfl
  generalize n * (n - 1) = M at *
  go_enter Tryz.func113, Tryz.ntmps113
  go_wp2
  go_ret
  exact ⟨by rw [← HH.out]; rfl, rfl⟩
set_option maxRecDepth 100000 in
set_option maxHeartbeats 1000000 in
theorem tdiv_any (U D : Nat) (hU : U ≤ 4294967296) (hD : D ≤ 4294967296) (w : World) : Calls Tryz.prog 64 #[.int .i64 (U : Nat), .int .i64 (D : Nat)] w fun e w' => e = .returned (.int .i64 (Nat.gcd U D : Nat)) ∧ Below w.heap.size w w' := by
  go_enter Tryz.func64, Tryz.ntmps64
  go_wp2_with fail
  go_loopw [0, 1] (fun a b W => ∃ x y : Nat, a = .int .i64 (x : Nat) ∧ b = .int .i64 (y : Nat) ∧ x ≤ 4294967296 ∧ y ≤ 4294967296 ∧ Hid (Nat.gcd x y = Nat.gcd U D) ∧ Below w.heap.size w W) (fun _ b _ => (intOf b).toNat)
  case atStart => exact ⟨U, D, rfl, rfl, hU, hD, rfl, Below.refl _ _⟩
  case round =>
    obtain ⟨x, y, rfl, rfl, hx, hy, HG, hbv⟩ := hrel
    by_cases hlt : 0 < y
    · have hy0 : ((y : Int) != 0) = true := by simp; omega
      have hy1 : ((y : Int) == 0) = false := beq_false_of_ne (by omega)
      have hy2 : (y : Int) ≠ 0 := by omega
      have hml := Nat.mod_lt x hlt
      have HG2 : Hid (Nat.gcd y (x % y) = Nat.gcd U D) := by rw [Hid, ← HG.out, Nat.gcd_comm x y, ← gcd_step y x, Nat.gcd_comm]
      have hmod : (x : Int) % (y : Int) = ((x % y : Nat) : Int) := by omega
      have HTM : Hid ((x : Int).tmod (y : Int) = ((x % y : Nat) : Int)) := by rw [Hid, Int.tmod_eq_emod_of_nonneg (by omega), hmod]
      clear hmod
      go_wp2_with fail
      go_region
      all_goals (try go_wp2)
      go_roundw
      case rel => exact ⟨y, x % y, rfl, by first | rfl | rw [HTM.out], hy, by omega, HG2.out, hbv.drew⟩
      case measure => simp [intOf]; omega
    · obtain rfl : y = 0 := by omega
      have HY : Hid (x = Nat.gcd U D) := by rw [Hid, ← HG.out, Nat.gcd_zero_right]
      go_wp2
      go_ret
      exact ⟨by rw [← HY.out]; rfl, hbv⟩
set_option maxRecDepth 100000 in
set_option maxHeartbeats 1000000 in
theorem twrong_run (t : ByteArray) (n E A X Y : Int) (HX : Hid (X = if E ≠ 0 then E else if n < 1 ∨ 64 < n then 3 else 0)) (HY : Hid (Y = if E ≠ 0 then A else 0)) (HT : Hid (∀ W, Calls Tryz.prog 38 #[.string t] W fun e w' => e = .returned (.agg #[.int .i64 E, .int .i64 A]) ∧ Below W.heap.size W w')) (w : World) : Calls Tryz.prog 62 #[.string t, .int .i64 n] w fun e w' => e = .returned (.agg #[.int .i64 X, .int .i64 Y]) ∧ Below w.heap.size w w' := by
  go_enter Tryz.func62, Tryz.ntmps62
  go_wp2_with fail
  refine (HT.out _).mono ?_
  rintro e W1 ⟨rfl, hb⟩
  have hb1 : Below (w.heap.size + 1) (w.alloc (.cells #[.int .i64 0, .int .i64 0] 35)) W1 := by simpa using hb
  have hz := hb1.size
  simp at hz
  have hb2 := hb1.alloc (by omega) (.cells #[.int .i64 E, .int .i64 A] 35)
  clear hb HT hb1
  obtain ⟨c0, c1, f0, f1, hsz⟩ := Kit.two_cells hb2
  by_cases hE : E = 0
  · have hE2 : (E != 0) = false := by simp [hE]
    have HY2 : Hid (Y = 0) := by rw [Hid, HY.out, if_neg (fun h => h hE)]
    by_cases hn : n < 1 ∨ 64 < n
    · have HX2 : Hid (X = 3) := by rw [Hid, HX.out, if_neg (fun h => h hE), if_pos hn]
      clear hE
      have q := Kit.read_two (.int .i64 3) (.int .i64 0) c0 c1
      by_cases h1 : n < 1
      · go_wp2
        exact bodyPost_ret (v := .agg #[.int .i64 3, .int .i64 0]) (by simp [results, Tryz.results62, go_sem, q.1, q.2]) rfl ⟨by rw [HX2.out, HY2.out], Kit.below_two hb2 _ _⟩
      · have h3 : 64 < n := by omega
        clear hn
        go_wp2
        exact bodyPost_ret (v := .agg #[.int .i64 3, .int .i64 0]) (by simp [results, Tryz.results62, go_sem, q.1, q.2]) rfl ⟨by rw [HX2.out, HY2.out], Kit.below_two hb2 _ _⟩
    · have HX2 : Hid (X = 0) := by rw [Hid, HX.out, if_neg (fun h => h hE), if_neg hn]
      clear hE
      have q := Kit.read_two (.int .i64 0) (.int .i64 0) c0 c1
      have h1 : ¬ n < 1 := by omega
      have h3 : ¬ 64 < n := by omega
      clear hn
      go_wp2
      exact bodyPost_ret (v := .agg #[.int .i64 0, .int .i64 0]) (by simp [results, Tryz.results62, go_sem, q.1, q.2]) rfl ⟨by rw [HX2.out, HY2.out], Kit.below_two hb2 _ _⟩
  · have hE2 : (E != 0) = true := by simp [hE]
    have HX2 : Hid (X = E) := by rw [Hid, HX.out, if_pos hE]
    have HY2 : Hid (Y = A) := by rw [Hid, HY.out, if_pos hE]
    have q := Kit.read_two (.int .i64 E) (.int .i64 A) c0 c1
    clear hE
    go_wp2
    exact bodyPost_ret (v := .agg #[.int .i64 E, .int .i64 A]) (by simp [results, Tryz.results62, go_sem, q.1, q.2]) rfl ⟨by rw [HX2.out, HY2.out], Kit.below_two hb2 _ _⟩
/-- What wrong says. -/
def wnE (t : List UInt8) (n : Int) : Int := if ckE t ≠ 0 then ckE t else if n < 1 ∨ 64 < n then 3 else 0
theorem twrong_any (t : ByteArray) (n : Int) (w : World) : Calls Tryz.prog 62 #[.string t, .int .i64 n] w fun e w' => e = .returned (.agg #[.int .i64 (wnE t.data.toList n), .int .i64 (ixAt t.data.toList)]) ∧ Below w.heap.size w w' := twrong_run t n _ _ _ _ rfl rfl (fun W => check_all t W) w
end Go.Proofs.YtkohhdkkbaifoaaGreatDoor

/-
  Contract of the document's Counts (chapter 7).
-/
namespace Go.Proofs.YtkohhdkkbaifoaaGreatDoor
open Go.RowKit PK Vg Tl

theorem v_info_cts : (Tryz.prog.info? 26).map (·.size) = some 26 := by kernel_rfl
theorem v_zero_cts : (Tryz.prog.info? 26).map (·.zero) = some (some (.agg (ints 26 fun _ => 0))) := by kernel_rfl
theorem run_zero' {P : Program} {t : TypeId} {z : Value} (h : (P.info? t).map (·.zero) = some (some z)) (w : World) : (zeroValue t).run P w = .ok z w := by
  cases hi : P.info? t with
  | none => simp [hi] at h
  | some i =>
    have h2 : i.zero = some z := by simpa [hi] using h
    simp [zeroValue, typeInfo, hi, h2]
end Go.Proofs.YtkohhdkkbaifoaaGreatDoor

/-
  Contract of tally.counted: how often each letter stands in a column.
-/
namespace Go.Proofs.YtkohhdkkbaifoaaGreatDoor
open Go.RowKit PK Vg Tl

theorem results_cell1 {P : Program} {fn : Func} {p : Tmp} {ty : TypeId} (h : fn.results = #[.cell p ty]) (tmps : Array Value) (w : World) (g : Nat) (t : TypeId) (cs : Array Value) (fr : Nat × Nat) (d : TypeDesc)
    (hp : tmps.getD p undef = .pointer (some ⟨g, 0, none⟩)) (hg : w.heap[g]? = some (.cells cs t fr))
    (hu : P.underlying ty = some d) (hd : (match d with | .struct _ | .array _ _ => true | _ => false) = true) (hi : (P.info? ty).map (·.size) = some cs.size) :
    (results fn tmps).run P w = .ok (.agg cs) w := by
  have hp' : tmps[p]?.getD undef = .pointer (some ⟨g, 0, none⟩) := by simpa using hp
  simp [results, h, hp', asAddr, run_loadVar_row w g t ty cs fr d hg hu hd hi]
theorem v_size_int : (Tryz.prog.info? 3).map (·.size) = some 1 := by kernel_rfl
theorem run_index_cts (f : Nat → Int) (k : Nat) (hk : k < 26) (w : World) : (Instr.index 26 (.agg (ints 26 f)) (.int .i64 (k : Int))).run Tryz.prog w = .ok (.int .i64 (f k)) w := by
  obtain ⟨i, hi, h1⟩ := Option.map_eq_some_iff.1 v_size_int
  have h2 : ((k : Int) < 26) := by omega
  simp [Instr.index, asIntOf, Sem.run_bind, run_underlying Tryz.underlying26, part, isAgg, run_underlying Tryz.underlying3, sizeOf, typeInfo, hi, h1, hk, ints_get f hk]
/-- The result's variable and the array that is filled. -/
structure CnAt (w W : World) (f : Nat → Int) : Prop where
  r : RowAt W w.heap.size 26 (ints 26 fun _ => 0)
  o : RowAt W (w.heap.size + 1) 26 (ints 26 f)
  below : Below w.heap.size w W
theorem CnAt.new (w : World) : CnAt w ((w.alloc (.cells (ints 26 fun _ => 0) 26)).alloc (.cells (ints 26 fun _ => 0) 26)) fun _ => 0 := by
  have h3 := RowAt.new (w.alloc (.cells (ints 26 fun _ => 0) 26)) 26 (ints 26 fun _ => 0)
  simp only [World.size_alloc] at h3
  exact ⟨(RowAt.new w _ _).alloc _, h3, ((Below.refl _ w).alloc (Nat.le_refl _) _).alloc (by simp only [World.size_alloc]; omega) _⟩
theorem CnAt.set {w W : World} {f : Nat → Int} (h : CnAt w W f) (i : Nat) (v : Int) : CnAt w (W.setCell ⟨w.heap.size + 1, i, none⟩ (.int .i64 v)) (upd f i v) := by
  refine ⟨h.r.setOther _ _ (by simp), ?_, h.below.setCell (p := ⟨w.heap.size + 1, i, none⟩) (by simp) _⟩
  have := h.o.set i (.int .i64 v)
  rw [ints_set] at this
  exact this
set_option maxRecDepth 100000 in
set_option maxHeartbeats 2000000 in
theorem tcn_any (t : ByteArray) (ht : Ls t.data.toList) (hs : t.size ≤ 65536) (c n : Nat) (hc : c < n) (hn : n ≤ 64) (w : World) : Calls Tryz.prog 112 #[.string t, .int .i64 (c : Nat), .int .i64 (n : Nat)] w fun e w' => e = .returned (.agg (ints 26 fun k => (cnt (col t.data.toList n c) k : Nat))) ∧ Below w.heap.size w w' := by
  have hz22 := run_zero' v_zero_cts
  have HALL : Hid (colTo t.data.toList n c t.size = col t.data.toList n c) := by rw [Hid, Pl.size_len]; rfl
  have HST : Hid (colTo t.data.toList n c (min c t.size) = []) := colTo_first _ hc _ (by omega)
  have HNX : Hid (∀ i, i % n = c → i < t.size → colTo t.data.toList n c (min (i + n) t.size) = colTo t.data.toList n c (min i t.size) ++ [t.data.toList.getD i 0]) := fun i h1 h2 => by
    rw [colTo_next _ (by omega) h1 h2, Nat.min_eq_left (by omega)]
  have HLE : Hid (∀ k q, cnt (colTo t.data.toList n c (min k t.size)) q ≤ 65536) := fun k q => Nat.le_trans (cnt_le _ _) (Nat.le_trans (colTo_le _ _ _ _) (by omega))
  go_enter Tryz.func112, Tryz.ntmps112
  go_wp2_with fail
  have h2 := CnAt.new w
  clear hz22
  go_loopw [8] (fun i V => ∃ k : Nat, k < t.size + 64 + 64 ∧ k % n = c ∧ i = .int .i64 (k : Nat) ∧ CnAt w V fun q => (cnt (colTo t.data.toList n c (min k t.size)) q : Nat)) (fun i _ => ((t.size : Int) - intOf i).toNat)
  case atStart => exact ⟨c, by omega, Nat.mod_eq_of_lt hc, rfl, by rw [HST.out]; exact h2⟩
  case round =>
    clear h2
    obtain ⟨k, hk, hkm, rfl, hg⟩ := hrel
    by_cases hlt : k < t.size
    · have hlt2 : (k : Int) < (t.size : Int) := by omega
      have hxl := ht.at (getD_size hlt)
      have hix := (getD_byte t k hlt).symm
      have HN := (show Hid _ from HNX.out k hkm hlt)
      have hnum := num_lt hxl
      have hle := HLE.out k (Vg.num (t.data.toList.getD k 0))
      have hkm2 : (k + n) % n = c := by rw [Nat.add_mod_right]; exact hkm
      generalize t.data.toList.getD k 0 = x at *
      generalize colTo t.data.toList n c (min k t.size) = l at *
      have hx1 : (65 : Int) ≤ x.toNat := by omega
      have hx2 : (x.toNat : Int) ≤ 90 := by omega
      have hx3 : (x.toNat : Int) - 65 = ((Vg.num x : Nat) : Int) := by unfold Vg.num; omega
      have hck := hg.o.cell (ints_get (fun q => ((cnt l q : Nat) : Int)) hnum)
      have hfk := hg.o.frozen (Vg.num x)
      have HSET : Hid (CnAt w (wr.setCell ⟨w.heap.size + 1, Vg.num x, none⟩ (.int .i64 ((cnt l (Vg.num x) : Nat) + 1 : Int))) fun q => ((cnt (l ++ [x]) q : Nat) : Int)) := by
        have h := hg.set (Vg.num x) ((cnt l (Vg.num x) : Nat) + 1 : Int)
        have e : upd (fun q => ((cnt l q : Nat) : Int)) (Vg.num x) ((cnt l (Vg.num x) : Nat) + 1 : Int) = fun q => ((cnt (l ++ [x]) q : Nat) : Int) := by
          funext q
          unfold upd
          rw [cnt_append, cnt_one]
          by_cases h1 : q = Vg.num x
          · rw [if_pos h1, if_pos h1.symm, h1]; omega
          · rw [if_neg h1, if_neg (fun e => h1 e.symm)]; rfl
        rw [e] at h
        exact h
      clear hg
      generalize cnt l (Vg.num x) = C at *
      generalize Vg.num x = nx at *
      go_wp2_with fail
      go_roundw
      case rel => exact ⟨k + n, by omega, hkm2, by go_num, by rw [HN.out]; exact HSET.out⟩
      case measure => simp [intOf]; omega
    · have HMN : Hid (min k t.size = t.size) := Nat.min_eq_right (by omega)
      have ho : RowAt wr (w.heap.size + 1) 26 (ints 26 fun q => (cnt (col t.data.toList n c) q : Nat)) := by
        have := hg.o
        rw [HMN.out, HALL.out] at this
        exact this
      have hr := hg.r
      have hbe := hg.below
      clear hg
      obtain ⟨N, hN⟩ : ∃ N, N = fun q => ((cnt (col t.data.toList n c) q : Nat) : Int) := ⟨_, rfl⟩
      rw [← hN] at ho
      have HN : Hid (N = fun q => ((cnt (col t.data.toList n c) q : Nat) : Int)) := hN
      clear hN
      have hlt2 : ¬ (k : Int) < (t.size : Int) := by omega
      go_wp2_with (first | refine wpList_load_row rfl 26 _ rfl (w.heap.size + 1) rfl 26 (ints 26 N) (0, 0) _ ho Tryz.underlying26 rfl (by rw [ints_size]; exact v_info_cts) ?_ | refine wpList_store_row rfl 26 _ _ rfl w.heap.size (ints 26 N) rfl rfl 26 _ hr (by rw [ints_size]; exact v_info_cts) (by simp only [ints_size]) (ints_one _ _) ?_)
      refine bodyPost_ret (v := .agg (ints 26 N)) (results_cell1 Tryz.results112 _ _ _ _ _ _ _ rfl (hr.row _) Tryz.underlying26 rfl (by rw [ints_size]; exact v_info_cts)) rfl ⟨by rw [HN.out], ?_⟩
      exact Below.setRow hbe _ (Nat.le_refl _) _
end Go.Proofs.YtkohhdkkbaifoaaGreatDoor
