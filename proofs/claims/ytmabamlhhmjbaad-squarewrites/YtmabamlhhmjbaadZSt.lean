/-
  Contract of square.Sheet.
-/
import Derived.Test.YtmabamlhhmjbaadZSh
import Derived.Test.YtmabamlhhmjbaadZPr
import Derived.Test.YtmabamlhhmjbaadZMv
namespace Go.Proofs.Ytmabamlhhmjbaad
open Go.RowKit PK Vg Zq

theorem run_loadVar_part {P : Program} (w : World) (g : Nat) (t ty : TypeId) (cs : Array Value) (l : List Value) (d : TypeDesc) (hg : RowAt w g t cs) (hl : ∀ (j : Nat) (v : Value), l[j]? = some v → cs[j]? = some v)
    (hu : P.underlying ty = some d) (hd : (match d with | .struct _ | .array _ _ => true | _ => false) = true) (hi : (P.info? ty).map (·.size) = some l.length) :
    (loadVar ty ⟨g, 0, none⟩).run P w = .ok (.agg l.toArray) w := by
  have hc : (loadCells ⟨g, 0, none⟩ l.length).run P w = .ok l.toArray w :=
    run_loadCells_list (P := P) w ⟨g, 0, none⟩ l (fun j v hv => by rw [addr_add]; exact hg.cell (hl j v hv))
  cases hq : P.info? ty with
  | none => simp [hq] at hi
  | some i =>
    have hs : i.size = l.length := by simpa [hq] using hi
    have hagg : (isAgg ty).run P w = .ok true w := by
      unfold isAgg
      rw [Sem.run_bind, run_underlying hu w]
      cases d <;> simp_all
    simp [loadVar, Sem.run_bind, hagg, sizeOf, typeInfo, hq, hs, hc]
theorem wpList_load_part {P : Program} {ops : Array Oper} {rest : List Oper} {o : Oper} {a : Act} {w : World} {Q : Exit → Act → World → Prop} (hgd : o.guard = none) (ty : TypeId) (x : Operand) (ho : o.op = .load ty x) (g : Nat) (hx : a.eval x = .pointer (some ⟨g, 0, none⟩)) (t : TypeId) (cs : Array Value) (l : List Value) (d : TypeDesc) (hg : RowAt w g t cs) (hl : ∀ (j : Nat) (v : Value), l[j]? = some v → cs[j]? = some v)
    (hu : P.underlying ty = some d) (hd : (match d with | .struct _ | .array _ _ => true | _ => false) = true) (hi : (P.info? ty).map (·.size) = some l.length) (h : wpList P ops Q rest (a.put o.dst (.agg l.toArray)) w) : wpList P ops Q (o :: rest) a w :=
  wpList_plain hgd fun _ hK => by
    unfold Oper.wp execOp
    simp only [ho, hx, Instr.loadAt, Instr.sureAddr, Sem.run_bind, Sem.run_pure, Result.andThen_ok, run_loadVar_part w g t ty cs l d hg hl hu hd hi]
    exact hK _ _ h
/-- The k-th five letters. -/
def seg (L : List UInt8) (k : Nat) : List UInt8 := (List.range 5).map fun j => L.getD (k * 5 + j) 0
theorem seg_length (L : List UInt8) (k : Nat) : (seg L k).length = 5 := by simp [seg]
theorem seg_next {L : List UInt8} (hl : L.length = 25) {k : Nat} (hk : k < 5) : L.take (5 * (k + 1)) = L.take (5 * k) ++ seg L k := by
  refine ext_getD ?_ fun i hi => ?_
  · rw [List.length_append, seg_length, List.length_take, List.length_take]; omega
  · rw [List.length_take] at hi
    have e1 : (L.take (5 * (k + 1))).getD i 0 = L.getD i 0 := by simp only [List.getD_eq_getElem?_getD]; rw [List.getElem?_take_of_lt (by omega)]
    rw [e1]
    by_cases h : i < 5 * k
    · rw [getD_append_left (by rw [List.length_take]; omega)]
      simp only [List.getD_eq_getElem?_getD]; rw [List.getElem?_take_of_lt h]
    · rw [getD_append_right (by rw [List.length_take]; omega), List.length_take, show min (5 * k) L.length = 5 * k by omega]
      unfold seg
      rw [getD_map (by omega), show k * 5 + (i - 5 * k) = i by omega]
theorem tab_cells (l : List UInt8) (n : Nat) (g : Nat → UInt8) (h : l = (List.range n).map g) : (byts n g) = (Lib.byteCells l).toArray := by
  subst h
  unfold byts tab Lib.byteCells
  simp
def sheet25 (L : List UInt8) : List Value := (List.range 25).map fun i => .int .u8 (L.getD i 0).toNat
theorem sheet25_ok (L : List UInt8) : ∀ (j : Nat) (v : Value), (sheet25 L)[j]? = some v → (shV L)[j]? = some v := fun j v hv => by
  have hj : j < 25 := by
    have := (List.getElem?_eq_some_iff.1 hv).1
    simpa [sheet25] using this
  rw [shV_at L hj]
  simpa [sheet25, hj] using hv
theorem cells_size (l : List UInt8) : (Lib.byteCells l).toArray.size = l.length := by simp [Lib.byteCells]
theorem cells_ones' (l : List UInt8) : ∀ u ∈ Lib.byteCells l, u.oneCell' = true := fun u hu => by
  simp [Lib.byteCells] at hu
  obtain ⟨a, _, rfl⟩ := hu
  rfl
theorem cells_ones (l : List UInt8) : (Lib.byteCells l).toArray.all (·.oneCell') = true := by
  rw [Array.all_eq_true_iff_forall_mem]
  intro v hv
  exact cells_ones' l v (by simpa using hv)
theorem cells_app (a b : List UInt8) : Lib.byteCells (a ++ b) = Lib.byteCells a ++ Lib.byteCells b := by simp [Lib.byteCells]
theorem v_size_rows : (Try.prog.info? 61).map (·.size) = some 25 := by kernel_rfl
theorem v_size_row5 : (Try.prog.info? 60).map (·.size) = some 5 := by kernel_rfl
theorem v_zero_row5 : (Try.prog.info? 60).map (·.zero) = some (some (.agg (byts 5 fun _ => 0))) := by kernel_rfl
theorem byts_one (n : Nat) (g : Nat → UInt8) : (byts n g).all (·.oneCell') = true := by
  rw [Array.all_eq_true_iff_forall_mem]
  intro v hv
  simp [byts, tab] at hv
  obtain ⟨i, _, rfl⟩ := hv
  rfl
theorem run_index_row (L : List UInt8) (k : Nat) (hk : k < 5) (w : World) : (Instr.index 61 (.agg (sheet25 L).toArray) (.int .i64 (k : Int))).run Try.prog w = .ok (.agg (byts 5 fun j => L.getD (k * 5 + j) 0)) w := by
  have h2 : ((k : Int) < 5) := by omega
  have hs : (sizeOf 60).run Try.prog w = .ok 5 w := by
    obtain ⟨i, hi, hz⟩ := Option.map_eq_some_iff.1 v_size_row5
    simp [sizeOf, typeInfo, hi, hz]
  have he : (sheet25 L).toArray.extract (k * 5) (k * 5 + 5) = byts 5 fun j => L.getD (k * 5 + j) 0 := by
    apply Array.ext_getElem?
    intro j
    by_cases hj : j < 5
    · rw [byts_get _ hj, Array.getElem?_extract, if_pos (by simp [sheet25]; omega)]
      have h25 : k * 5 + j < 25 := by omega
      simp [sheet25, h25]
    · rw [Array.getElem?_eq_none (by simp [sheet25]; omega), Array.getElem?_eq_none (by simp [byts, tab_size]; omega)]
  have hp : (part 60 (sheet25 L).toArray (k * 5)).run Try.prog w = .ok (.agg (byts 5 fun j => L.getD (k * 5 + j) 0)) w := by
    unfold part isAgg
    simp only [Sem.run_bind, run_underlying Try.underlying60, Result.andThen_ok, Sem.run_pure, if_true, hs, he]
  generalize (sheet25 L).toArray = cs at *
  generalize (byts 5 fun j => L.getD (k * 5 + j) 0) = cs2 at *
  simp [Instr.index, asIntOf, Sem.run_bind, run_underlying Try.underlying61, hs, hk, hp]
set_option maxRecDepth 100000 in
set_option maxHeartbeats 4000000 in
theorem zst_bad (key : ByteArray) (E A : Int) (hE : (E != 0) = true) (HT : Hid (∀ W, Calls Try.prog 27 #[.string key] W fun e w' => e = .returned (.agg #[.int .i64 E, .int .i64 A]) ∧ Below W.heap.size W w')) (w : World) : Calls Try.prog 18 #[.string key] w fun e w' => e = .returned (.tuple #[.string ⟨#[]⟩, .agg #[.int .i64 E, .int .i64 A]]) ∧ Below w.heap.size w w' := by
  go_enter Try.func18, Try.ntmps18
  go_wp2_with fail
  refine (HT.out _).mono ?_
  rintro e W1 ⟨rfl, hb⟩
  have hb1 : Below (w.heap.size + 1) (w.alloc (.cells #[.int .i64 0, .int .i64 0] 25)) W1 := by simpa using hb
  have hz := hb1.size
  simp at hz
  have hb2 := hb1.alloc (by omega) (.cells #[.int .i64 E, .int .i64 A] 25)
  clear hb
  obtain ⟨c0, c1, f0, f1, hsz⟩ := Kit.two_cells hb2
  clear HT hb1
  go_wp2_with fail
  go_region
  all_goals (try go_wp2)
  have q := Kit.read_two (.int .i64 E) (.int .i64 A) c0 c1
  refine bodyPost_ret (v := .tuple #[.string ⟨#[]⟩, .agg #[.int .i64 E, .int .i64 A]]) (by simp [results, Try.results18, go_sem, q.1, q.2]) rfl ⟨rfl, ?_⟩
  exact (Kit.below_two hb2 _ _).drew
set_option maxRecDepth 100000 in
set_option maxHeartbeats 4000000 in
theorem zst_ok (key : ByteArray) (L : List UInt8) (hL : L.length = 25) (HT : Hid (∀ W, Calls Try.prog 27 #[.string key] W fun e w' => e = .returned (.agg #[.int .i64 0, .int .i64 0]) ∧ Below W.heap.size W w')) (HS : Hid (∀ W, Calls Try.prog 37 #[.string key] W fun e w' => e = .returned (.agg (shV L)) ∧ Below W.heap.size W w')) (w : World) : Calls Try.prog 18 #[.string key] w fun e w' => e = .returned (.tuple #[.string ⟨L.toArray⟩, .agg #[.int .i64 0, .int .i64 0]]) ∧ Below w.heap.size w w' := by
  obtain ⟨i0, hi0, hz0, hz1, hz2⟩ := x_info_parts v_info_byte
  have hz66 := run_zero v_zero_sheet
  have hz60 := run_zero v_zero_row5
  have HL : Hid (L.length = 25) := hL
  clear hL
  go_enter Try.func18, Try.ntmps18
  go_wp2_with fail
  refine (HT.out _).mono ?_
  rintro e W1 ⟨rfl, hb⟩
  have hb1 : Below (w.heap.size + 1) (w.alloc (.cells #[.int .i64 0, .int .i64 0] 25)) W1 := by simpa using hb
  have hz := hb1.size
  simp at hz
  have hb2 := hb1.alloc (by omega) (.cells #[.int .i64 0, .int .i64 0] 25)
  clear hb HT hb1
  go_wp2_with fail
  refine (HS.out _).mono ?_
  rintro e X6 ⟨rfl, hc⟩
  have hb6 := (hb2.trans (hc.mono (by have := hb2.size; simp at this ⊢ <;> omega))).alloc (by have := hb2.size; have := hc.size; simp at * <;> omega) (.cells (shV L) 66)
  clear hc hb2 HS
  obtain ⟨V, hV⟩ : ∃ V, V = X6.alloc (.cells (shV L) 66) := ⟨_, rfl⟩
  have hVs : w.heap.size + 1 ≤ V.heap.size := by have := hb6.size; rw [hV]; simpa using this
  have HVs : Hid (V.heap.size = X6.heap.size + 1) := by rw [hV]; simp [Hid]
  have rV : RowAt V X6.heap.size 66 (shV L) := by rw [hV]; exact RowAt.new X6 _ _
  rw [← hV] at hb6
  go_wp2_with (first | (refine wpList_store_row rfl 66 _ _ rfl X6.heap.size (shV L) rfl rfl 66 _ (RowAt.new X6 66 (shV [])) (by rw [shV_size]; exact v_size_sheet) (by rw [shV_size, shV_size]) (shV_one _) ?_; rw [World.setRow_alloc_new, ← hV]) | (at_make; refine wpList_make_own _ rfl _ _ 43 rfl V.heap.size 5 i0 (.int .u8 0) 1 Try.underlying43 hi0 hz0 hz1 _ _ _ 25 rfl rfl rfl (by rw [hz2]; omega) (by unfold maxLen; omega) (Nat.le_refl _) ?_; intro w1 hown1 hgrow1; have rw1 := row_grownBy rV hgrow1 (by simp)) | refine wpList_load_part rfl 61 _ rfl X6.heap.size rfl 66 (shV L) (sheet25 L) _ rw1 (sheet25_ok L) Try.underlying61 rfl (by rw [show (sheet25 L).length = 25 by simp [sheet25]]; exact v_size_rows) ?_)
  have hown0 : Kit.Owns w1 V.heap.size 5 (.slice (some ⟨X6.heap.size + 1, 0, none⟩) 0 25) (L.take (5 * 0)) := by rw [HVs.out] at hown1 ⊢; simpa [Kit.Owns, Lib.byteCells] using hown1
  have hb0 : Below V.heap.size V w1 := (Below.refl _ _).grown hgrow1 (Nat.le_refl _) (fun k hk => by cases hk)
  clear hown1 hgrow1 hV rw1 rV hz66
  generalize hcs : (sheet25 L).toArray = cs
  go_loopw [6, 20] (fun o i W => ∃ (k : Nat) (v : Value), k ≤ 5 ∧ i = .int .i64 (k : Nat) ∧ v = o ∧ Kit.Owns W V.heap.size 5 v (L.take (5 * k)) ∧ Below V.heap.size V W) (fun _ i _ => ((5 : Int) - intOf i).toNat)
  case atStart => exact ⟨0, _, by omega, rfl, rfl, hown0, hb0⟩
  case round =>
    clear hown0 hb0
    obtain ⟨k, v, hk, rfl, rfl, hown, hbv⟩ := hrel
    have hzv := hbv.size
    by_cases hlt : k < 5
    · have hlt2 : (k : Int) < 5 := by omega
      have hidx := run_index_row L k hlt
      rw [hcs] at hidx
      have HSG : Hid ((byts 5 fun j => L.getD (k * 5 + j) 0) = (Lib.byteCells (seg L k)).toArray) := tab_cells (seg L k) 5 _ rfl
      rw [HSG.out] at hidx
      have HNX : Hid (L.take (5 * (k + 1)) = L.take (5 * k) ++ seg L k) := seg_next HL.out hlt
      have HSL : Hid ((seg L k).length = 5) := seg_length L k
      have HTL : Hid ((L.take (5 * k)).length = 5 * k) := by rw [Hid, List.length_take]; have := HL.out; omega
      generalize seg L k = sg at *
      go_wp2_with (first | (refine wpList_store_row rfl 60 _ _ rfl wr.heap.size (Lib.byteCells sg).toArray rfl rfl 60 _ (RowAt.new wr 60 (byts 5 fun _ => 0)) (by rw [cells_size, HSL.out]; exact v_size_row5) (by rw [cells_size, HSL.out]; rfl) (cells_ones _) ?_; rw [World.setRow_alloc_new]) | (at_builtin; refine wpList_append_own _ rfl _ _ 43 rfl V.heap.size 5 i0 (.int .u8 0) 1 1 Try.underlying43 hi0 hz0 hz1 hz2 rfl (by decide) _ _ _ rfl (World.ownsRow.alloc hown _) ⟨wr.heap.size, 0, none⟩ 5 5 (Lib.byteCells sg) rfl (by rw [Lib.byteCells_length, HSL.out]) (cells_new wr (Lib.byteCells sg).toArray 60) (cells_ones' sg) (by have := HTL.out; unfold maxLen; omega) (by have := HTL.out; omega) (by simp; omega) ?_; intro v5 w5 hown5 hgrow5 _))
      have hbY := (hbv.alloc (by omega) (.cells (Lib.byteCells sg).toArray 60)).grown hgrow5 (by simp; omega) (fun k hk => (World.ownsRow.lt hown k hk).1)
      go_roundw
      case rel =>
        refine ⟨k + 1, _, by omega, by go_num, rfl, ?_, hbY⟩
        rw [HNX.out]
        unfold Kit.Owns
        rw [cells_app, List.length_append, HSL.out]
        exact hown5
      case measure => simp [intOf]; omega
    · obtain rfl : k = 5 := by omega
      have hst := Kit.run_string_of_own (P := Try.prog) wr 43 9 5 Try.underlying43 Try.underlying5 Try.underlying9 hown
      rw [List.take_of_length_le (by rw [HL.out]; omega)] at hst
      have hbw := hb6.trans (hbv.mono hVs)
      obtain ⟨c0, c1, f0, f1, hsz⟩ := Kit.two_cells hbw
      clear hown
      go_wp2
      have q := Kit.read_two (.int .i64 0) (.int .i64 0) c0 c1
      refine bodyPost_ret (v := .tuple #[.string ⟨L.toArray⟩, .agg #[.int .i64 0, .int .i64 0]]) (by simp [results, Try.results18, go_sem, q.1, q.2]) rfl ⟨rfl, ?_⟩
      exact Kit.below_two hbw _ _
/-- What Sheet says. -/
def stE (key : List UInt8) : Int := ckE key
def stS (key : List UInt8) : List UInt8 := if ckE key ≠ 0 then [] else laid key
theorem zst_any (key : ByteArray) (w : World) : Calls Try.prog 18 #[.string key] w fun e w' => e = .returned (.tuple #[.string ⟨(stS key.data.toList).toArray⟩, .agg #[.int .i64 (ckE key.data.toList), .int .i64 (ckAt key.data.toList)]]) ∧ Below w.heap.size w w' := by
  unfold stS
  rcases ck_cases key.data.toList with ⟨e1, e2, e3, e4⟩ | e1
  · have h0 : ¬ ckE key.data.toList ≠ 0 := fun h => h e1
    rw [if_neg h0, e1, e2]
    exact zst_ok key _ (laid_length (ls_of e4)) (fun W => by have := check_all key W; rw [e1, e2] at this; exact this) (fun W => sheet_any key (by rw [Pl.size_len]; exact e3) (ls_of e4) W) w
  · have h0 : ckE key.data.toList ≠ 0 := by simpa using e1
    rw [if_pos h0]
    exact zst_bad key _ _ e1 (fun W => check_all key W) w
end Go.Proofs.Ytmabamlhhmjbaad
