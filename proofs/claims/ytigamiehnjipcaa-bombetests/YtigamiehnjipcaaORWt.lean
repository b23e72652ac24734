/-
  Contract of the document's Write (chapter 8).
-/
import Derived.Test.YtigamiehnjipcaaORNo
namespace Go.Proofs.Ytigamiehnjipcaa
open Go.RowKit PK Vg

/-- The machine and the result's variable. -/
structure WtAt (w W : World) (a b c : Value) (rf pl : Nat → Int) : Prop where
  mg : MgAt w W a b c rf pl
  res : RowAt W (w.heap.size + 1) 39 #[.int .i64 0, .int .i64 0]
theorem WtAt.new (w : World) (a b c : Value) (rf pl : Nat → Int) : WtAt w ((w.alloc (.cells (mac a b c rf pl) 27)).alloc (.cells #[.int .i64 0, .int .i64 0] 39)) a b c rf pl := by
  have h := RowAt.new (w.alloc (.cells (mac a b c rf pl) 27)) 39 #[.int .i64 0, .int .i64 0]
  rw [World.size_alloc] at h
  exact ⟨(MgAt.new w a b c rf pl).alloc _, h⟩
section
variable {w W W' : World} {a b c : Value} {rf pl : Nat → Int}
theorem WtAt.step (h : WtAt w W a b c rf pl) (hb : Below W.heap.size W W') : WtAt w W' a b c rf pl := ⟨h.mg.step hb, h.res.below hb h.res.lt⟩
theorem WtAt.alloc (h : WtAt w W a b c rf pl) (o : Obj) : WtAt w (W.alloc o) a b c rf pl := h.step ((Below.refl _ _).alloc (Nat.le_refl _) o)
theorem WtAt.drew (h : WtAt w W a b c rf pl) : WtAt w W.drew a b c rf pl := ⟨h.mg.drew, h.res⟩
theorem WtAt.done (h : WtAt w W a b c rf pl) (x y : Value) : Below w.heap.size w ((W.setCell ⟨w.heap.size + 1, 0, none⟩ x).setCell ⟨w.heap.size + 1, 1, none⟩ y) := (h.mg.below.setCell (p := ⟨w.heap.size + 1, 0, none⟩) (by simp) _).setCell (p := ⟨w.heap.size + 1, 1, none⟩) (by simp) _
theorem WtAt.load (h : WtAt w W a b c rf pl) : W.heap[w.heap.size]? = some (.cells (mac a b c rf pl) 27 (0, 0)) := h.mg.row
end
set_option maxRecDepth 100000 in
set_option maxHeartbeats 2000000 in
theorem rwt_bad (a b c : Value) (rf pl : Nat → Int) (t : ByteArray) (E : Int) (hE : (E != 0) = true) (w : World) (HW : Hid (∀ W, Below w.heap.size w W → Calls Try.prog 30 #[.agg (mac a b c rf pl)] W fun e w' => e = .returned (.int .i64 E) ∧ Below W.heap.size W w')) : Calls Try.prog 38 #[.agg (mac a b c rf pl), .string t] w fun e w' => e = .returned (.tuple #[.string ByteArray.empty, .agg #[.int .i64 E, .int .i64 0]]) ∧ Below w.heap.size w w' := by
  have h0 := WtAt.new w a b c rf pl
  go_enter Try.func38, Try.ntmps38
  go_wp2_with (first | refine wpList_load_row rfl 27 _ rfl w.heap.size rfl 27 (mac a b c rf pl) (0, 0) _ h0.load Try.underlying27 rfl (by rw [mac_size]; exact v_info_mac) ?_)
  refine (HW.out _ h0.mg.below).mono ?_
  rintro e W1 ⟨rfl, hb⟩
  have h1 := h0.step hb
  have c0 := h1.res.cell (i := 0) rfl
  have c1 := h1.res.cell (i := 1) rfl
  have f0 := h1.res.frozen 0
  have f1 := h1.res.frozen 1
  clear hb h0 HW
  go_wp2
  have q := Kit.read_two (.int .i64 E) (.int .i64 0) c0 c1
  exact bodyPost_ret (v := .tuple #[.string ByteArray.empty, .agg #[.int .i64 E, .int .i64 0]]) (by simp [results, Try.results38, go_sem, q.1, q.2]; rfl) rfl ⟨rfl, h1.done _ _⟩
set_option maxRecDepth 100000 in
set_option maxHeartbeats 2000000 in
theorem rwt_text (a b c : Value) (rf pl : Nat → Int) (t : ByteArray) (E A : Int) (hE : (E != 0) = true) (w : World) (HW : Hid (∀ W, Below w.heap.size w W → Calls Try.prog 30 #[.agg (mac a b c rf pl)] W fun e w' => e = .returned (.int .i64 0) ∧ Below W.heap.size W w')) (HT : Hid (∀ W, Calls Try.prog 37 #[.string t] W fun e w' => e = .returned (.agg #[.int .i64 E, .int .i64 A]) ∧ Below W.heap.size W w')) : Calls Try.prog 38 #[.agg (mac a b c rf pl), .string t] w fun e w' => e = .returned (.tuple #[.string ByteArray.empty, .agg #[.int .i64 E, .int .i64 A]]) ∧ Below w.heap.size w w' := by
  have h0 := WtAt.new w a b c rf pl
  go_enter Try.func38, Try.ntmps38
  go_wp2_with (first | refine wpList_load_row rfl 27 _ rfl w.heap.size rfl 27 (mac a b c rf pl) (0, 0) _ h0.load Try.underlying27 rfl (by rw [mac_size]; exact v_info_mac) ?_)
  refine (HW.out _ h0.mg.below).mono ?_
  rintro e W1 ⟨rfl, hb⟩
  have h1 := h0.step hb
  clear hb h0 HW
  go_wp2_with fail
  refine (HT.out _).mono ?_
  rintro e W2 ⟨rfl, hb⟩
  have h2 := (h1.step hb).alloc (.cells #[.int .i64 E, .int .i64 A] 39)
  have c0 := h2.res.cell (i := 0) rfl
  have c1 := h2.res.cell (i := 1) rfl
  have f0 := h2.res.frozen 0
  have f1 := h2.res.frozen 1
  clear hb h1 HT
  go_wp2_with fail
  go_region
  all_goals (try go_wp2)
  have q := Kit.read_two (.int .i64 E) (.int .i64 A) c0 c1
  exact bodyPost_ret (v := .tuple #[.string ByteArray.empty, .agg #[.int .i64 E, .int .i64 A]]) (by simp [results, Try.results38, go_sem, q.1, q.2]; rfl) rfl ⟨rfl, (h2.done _ _).drew⟩
theorem run_index_u8 {P : Program} (t e : TypeId) (n : Nat) (hu : P.underlying t = some (.array n e)) (he : P.underlying e = some (.int .i64)) (hs : (P.info? e).map (·.size) = some 1) (f : Nat → Int) (k : Nat) (hk : k < n) (w : World) :
    (Instr.index t (.agg (ints n f)) (.int .u8 (k : Int))).run P w = .ok (.int .i64 (f k)) w := by
  cases hq : P.info? e with
  | none => simp [hq] at hs
  | some i =>
    have h1 : i.size = 1 := by simpa [hq] using hs
    have h2 : ((k : Int) < (n : Int)) := by omega
    simp [Instr.index, asIntOf, Sem.run_bind, run_underlying hu, part, isAgg, run_underlying he, sizeOf, typeInfo, hq, h1, hk, ints_get f hk]
theorem wr_snoc (M : Om.Ma) : ∀ (l : List UInt8) (at' : Nat → Nat) (x : UInt8), Om.wr M at' (l ++ [x]) = Om.wr M at' l ++ [ltr (Om.now M (Om.steps M at' (l.length + 1)) (num x))]
  | [], _, _ => rfl
  | a :: l, at', x => by
    show ltr _ :: Om.wr M (Om.step M at') (l ++ [x]) = ltr _ :: (Om.wr M (Om.step M at') l ++ _)
    rw [wr_snoc M l (Om.step M at') x, Om.steps_step]
    rfl
theorem wr_take {M : Om.Ma} {t : List UInt8} {k : Nat} (hk : k < t.length) (at' : Nat → Nat) : Om.wr M at' (t.take (k + 1)) = Om.wr M at' (t.take k) ++ [ltr (Om.now M (Om.steps M at' (k + 1)) (num (t.getD k 0)))] := by
  rw [List.take_succ_eq_append_getElem hk, wr_snoc, List.length_take, Nat.min_eq_left (by omega), getD_some hk]
/-- A slice of numbers that another block's growing leaves alone. -/
theorem nums_grown {W W' : World} {v : Value} {n : Nat} {f : Nat → Int} {r : Option Nat} (h : NumsAt W v n f) (hg : W.grownBy W' r) (hne : ∀ b, v.ownBlock = some b → some b ≠ r) : NumsAt W' v n f := by
  obtain ⟨a, cap, rfl, h2, h3⟩ := h
  refine ⟨a, cap, rfl, h2, fun c hc => ?_⟩
  obtain ⟨b, o, rfl, hcell⟩ := h3 c hc
  exact ⟨b, o, rfl, hg.cell hcell (hne b rfl)⟩
/-- What is held in the loop. -/
structure WlAt (w W : World) (a b c : Value) (rf pl : Nat → Int) (gb : Nat) (t : ByteArray) (v8 v9 : Value) (n : Nat) (at' : Nat → Nat) (l : List UInt8) : Prop where
  wt : WtAt w W a b c rf pl
  gb1 : w.heap.size + 1 < gb
  cells : ∀ k (hk : k < t.size), W.cell? ⟨gb, k, none⟩ = some (.int .u8 t[k].toNat)
  gb2 : gb < W.heap.size
  nums : NumsAt W v8 n fun i => (at' i : Nat)
  own : Kit.Owns W (gb + 1) 5 v9 l
theorem own_byte {w w' : World} {B : Nat} {v : Value} {l : List UInt8} (h : Kit.Owns w B 5 v l) (hb : Below w.heap.size w w') : Kit.Owns w' B 5 v l := own_step h hb
set_option maxRecDepth 100000 in
set_option maxHeartbeats 4000000 in
theorem rwt_ok (M : Om.Ma) (hM : Om.Ok M) (vm : Value) (t : ByteArray) (ht : Ls t.data.toList) (hs : t.size ≤ 65536) (w : World) (hm : MacAt w vm (gOf M)) (HW : Hid (∀ W, Below w.heap.size w W → Calls Try.prog 30 #[vm] W fun e w' => e = .returned (.int .i64 0) ∧ Below W.heap.size W w')) (HT : Hid (∀ W, Calls Try.prog 37 #[.string t] W fun e w' => e = .returned (.agg #[.int .i64 0, .int .i64 0]) ∧ Below W.heap.size W w')) : Calls Try.prog 38 #[vm, .string t] w fun e w' => e = .returned (.tuple #[.string ⟨(Om.wr M M.st t.data.toList).toArray⟩, .agg #[.int .i64 0, .int .i64 0]]) ∧ Below w.heap.size w w' := by
  obtain ⟨i0, hi0, hz0, hz1, hz2⟩ := x_info_parts v_info_byte
  have HST := (show Hid (∀ W va at', Om.In26 M at' → Below w.heap.size w W → NumsAt W va M.n (fun i => (at' i : Nat)) → Calls Try.prog 58 #[vm, va] W fun e w' => ∃ v, e = .returned v ∧ NumsAt w' v M.n (fun i => (Om.step M at' i : Nat)) ∧ Below W.heap.size W w' ∧ ∀ b, v.ownBlock = some b → W.heap.size ≤ b) from fun W va at' h1 h2 h3 => rstep_any M hM vm va at' h1 W (hm.below h2) h3)
  have HNW := (show Hid (∀ W va at', Om.In26 M at' → Below w.heap.size w W → NumsAt W va M.n (fun i => (at' i : Nat)) → Calls Try.prog 59 #[vm, va] W fun e w' => e = .returned (.agg (ints 26 (Pm.up (Om.now M at')))) ∧ Below W.heap.size W w') from fun W va at' h1 h2 h3 => rnow_any M hM vm va at' h1 W (hm.below h2) h3)
  have HIN := (show Hid (∀ k, Om.In26 M (Om.steps M M.st k)) from fun k => Om.In26.steps (fun i hi => hM.st i hi) k)
  have HNP := (show Hid (∀ k c, c < 26 → Om.now M (Om.steps M M.st k) c < 26) from fun k c hc => (Om.now_perm hM _).lt c hc)
  obtain ⟨a, b, c, rfl, hwh, hri, hst⟩ := hm
  have HSS := (show Hid (NumsAt w c M.n fun i => (M.st i : Nat)) from hst)
  have h0 := WtAt.new w a b c (Pm.up M.rf) (Pm.up M.pl)
  have hcv := fun w => Lib.run_convert_string_bytes (P := Try.prog) w 9 59 5 t Try.underlying9 Try.underlying59 Try.underlying5
  clear hwh hri hst hM
  go_enter Try.func38, Try.ntmps38
  go_wp2_with (first | refine wpList_load_row rfl 27 _ rfl w.heap.size rfl 27 (mac a b c (Pm.up M.rf) (Pm.up M.pl)) (0, 0) _ h0.load Try.underlying27 rfl (by rw [mac_size]; exact v_info_mac) ?_)
  refine (HW.out _ h0.mg.below).mono ?_
  rintro e W1 ⟨rfl, hb⟩
  have h1 := h0.step hb
  clear hb h0 HW
  go_wp2_with fail
  refine (HT.out _).mono ?_
  rintro e W2 ⟨rfl, hb⟩
  have h2 := (h1.step hb).alloc (.cells #[.int .i64 0, .int .i64 0] 39)
  have hc2 := h2.mg.c2
  clear hb h1 HT
  go_upto_region 9 with fail
  obtain ⟨V, hV⟩ : ∃ V, V = W2.alloc (.cells #[.int .i64 0, .int .i64 0] 39) := ⟨_, rfl⟩
  rw [← hV] at h2 hc2 ⊢
  clear hV
  have hbB : Below V.heap.size V (Lib.bytesWorld V 5 t) := below_bytes V (Nat.le_refl _) 5 t
  have HC : ∀ k (hk : k < t.size), (Lib.bytesWorld V 5 t).cell? ⟨V.heap.size, k, none⟩ = some (.int .u8 t[k].toNat) := fun k hk => bytes_cell V 5 t k hk
  have hsz := Lib.bytesWorld_size V 5 t
  have hl := h2.res.lt
  have hg0 : WlAt w (Lib.bytesWorld V 5 t) a b c (Pm.up M.rf) (Pm.up M.pl) V.heap.size t c (.slice none 0 0) M.n (Om.steps M M.st 0) (Om.wr M M.st (t.data.toList.take 0)) := ⟨h2.step hbB, by omega, HC, by omega, HSS.out.below (h2.step hbB).mg.below, Kit.Owns.nil _ _ _⟩
  clear hsz HC hbB hl
  go_wp2_with fail
  generalize Lib.bytesWorld V 5 t = V2 at *
  obtain ⟨gb, hgb⟩ : ∃ gb, gb = V.heap.size := ⟨_, rfl⟩
  rw [← hgb] at hg0 ⊢
  clear hgb h2 hc2 hcv
  go_loopw [29, 8, 9] (fun i x y W => ∃ (k : Nat) (v8 v9 : Value), k ≤ t.size ∧ i = .int .i64 (k : Nat) ∧ v8 = x ∧ v9 = y ∧ WlAt w W a b c (Pm.up M.rf) (Pm.up M.pl) gb t v8 v9 M.n (Om.steps M M.st k) (Om.wr M M.st (t.data.toList.take k))) (fun i _ _ _ => ((t.size : Int) - intOf i).toNat)
  case atStart => exact ⟨0, _, _, by omega, rfl, rfl, rfl, hg0⟩
  case round =>
    clear hg0
    obtain ⟨k, v8, v9, hk, rfl, rfl, rfl, hg⟩ := hrel
    by_cases hlt : k < t.size
    · have hlt2 : (k : Int) < (t.size : Int) := by omega
      have hcell := hg.cells k hlt
      have hxl := ht.at (getD_size hlt)
      have hnum := num_lt hxl
      have hby : t[k] = t.data.toList.getD k 0 := (getD_byte t k hlt).symm
      rw [hby] at hcell
      have HWT := (show Hid _ from wr_take (M := M) (getD_size hlt) M.st)
      have HNB := (show Hid _ from HNP.out (k + 1) _ hnum)
      have HSTK := (show Hid (Om.step M (Om.steps M M.st k) = Om.steps M M.st (k + 1)) from rfl)
      have HI1 := (show Hid _ from HIN.out k)
      have HI2 := (show Hid _ from HIN.out (k + 1))
      have HLL : Hid ((Om.wr M M.st (t.data.toList.take k)).length ≤ k) := by rw [Hid, Om.wr_length, List.length_take]; omega
      generalize t.data.toList.getD k 0 = x at *
      have hx1 : (65 : Int) ≤ x.toNat := by omega
      have hx2 : (x.toNat : Int) ≤ 90 := by omega
      have hx3 : (x.toNat : Int) - 65 = ((num x : Nat) : Int) := by unfold num; omega
      clear hby hxl
      go_wp2_with (first | refine wpList_load_row rfl 27 _ rfl w.heap.size rfl 27 (mac a b c (Pm.up M.rf) (Pm.up M.pl)) (0, 0) _ hg.wt.load Try.underlying27 rfl (by rw [mac_size]; exact v_info_mac) ?_)
      refine (HST.out _ v8 _ HI1.out hg.wt.mg.below hg.nums).mono ?_
      rintro e W3 ⟨v, rfl, hnums, hb, hfr⟩
      rw [HSTK.out] at hnums
      have hg2 : WlAt w W3 a b c (Pm.up M.rf) (Pm.up M.pl) gb t v v9 M.n (Om.steps M M.st (k + 1)) (Om.wr M M.st (t.data.toList.take k)) := ⟨hg.wt.step hb, hg.gb1, fun j hj => (hb.cell (p := ⟨gb, j, none⟩) hg.gb2).trans (hg.cells j hj), by have := hb.size; have := hg.gb2; omega, hnums, own_byte hg.own hb⟩
      have HFR : Hid (∀ q, v.ownBlock = some q → some q ≠ v9.ownBlock) := fun q hq e => by
        have h1 := hfr q hq
        have h2 := (World.ownsRow.lt hg.own q e.symm).2
        omega
      clear hb hg hnums hfr hcell
      go_wp2_with (first | refine wpList_load_row rfl 27 _ rfl w.heap.size rfl 27 (mac a b c (Pm.up M.rf) (Pm.up M.pl)) (0, 0) _ hg2.wt.load Try.underlying27 rfl (by rw [mac_size]; exact v_info_mac) ?_)
      refine (HNW.out _ v _ HI2.out hg2.wt.mg.below hg2.nums).mono ?_
      rintro e W4 ⟨rfl, hb⟩
      have hg3 : WlAt w W4 a b c (Pm.up M.rf) (Pm.up M.pl) gb t v v9 M.n (Om.steps M M.st (k + 1)) (Om.wr M M.st (t.data.toList.take k)) := ⟨hg2.wt.step hb, hg2.gb1, fun j hj => (hb.cell (p := ⟨gb, j, none⟩) hg2.gb2).trans (hg2.cells j hj), by have := hb.size; have := hg2.gb2; omega, hg2.nums.below hb, own_byte hg2.own hb⟩
      have hix := run_index_u8 (P := Try.prog) 25 3 26 Try.underlying25 Try.underlying3 info_int (Pm.up (Om.now M (Om.steps M M.st (k + 1)))) (num x) hnum
      have HUP : Hid (Pm.up (Om.now M (Om.steps M M.st (k + 1))) (num x) = ((Om.now M (Om.steps M M.st (k + 1)) (num x) : Nat) : Int)) := rfl
      rw [HUP.out] at hix
      have hlt4 := hg3.gb2
      clear hb hg2 HUP
      obtain ⟨z, hz⟩ : ∃ z, z = Om.now M (Om.steps M M.st (k + 1)) (num x) := ⟨_, rfl⟩
      rw [← hz] at hix HNB HWT
      have hz26 := HNB.out
      have hzw : IntKind.u8.wrap (65 + (z : Int)) = ((ltr z).toNat : Int) := by rw [ltr_toNat hz26]; rw [show (65 : Int) + (z : Int) = ((65 + z : Nat) : Int) by omega]; simp [IntKind.wrap, IntKind.bits, IntKind.signed]; omega
      clear hz
      generalize num x = nx at *
      go_wp2_with (first | (at_builtin; refine wpList_append_own _ rfl _ _ 59 rfl (gb + 1) 5 i0 (.int .u8 0) 1 1 Try.underlying59 hi0 hz0 hz1 hz2 rfl (by decide) _ _ _ rfl (World.ownsRow.alloc hg3.own _) ⟨W4.heap.size, 0, none⟩ 1 1 [.int .u8 ((ltr z).toNat : Int)] rfl rfl (cell_one_new _ _ _) (fun u hu => by simp at hu; subst hu; rfl) (by have := HLL.out; unfold maxLen; omega) (by have := HLL.out; omega) (by simp; omega) ?_; intro v5 w5 hown5 hgrow5 _))
      have HG4 : WlAt w w5 a b c (Pm.up M.rf) (Pm.up M.pl) gb t v v5 M.n (Om.steps M M.st (k + 1)) (Om.wr M M.st (t.data.toList.take (k + 1))) := by
        have hq := hg3.gb1
        have hal := hg3.wt.alloc (.cells #[.int .u8 ((ltr z).toNat : Int)] 5)
        have hne : ∀ q, q ≤ gb → some q ≠ v9.ownBlock := fun q hq e => by have := (World.ownsRow.lt hg3.own q e.symm).1; omega
        refine ⟨⟨⟨(hgrow5.block w.heap.size (by simp; omega) (hne _ (by omega))).trans hal.mg.row, hal.mg.below.grown hgrow5 (by simp; omega) (fun q hq => by have := (World.ownsRow.lt hg3.own q hq).1; omega)⟩, (hgrow5.block (w.heap.size + 1) (by simp; omega) (hne _ (by omega))).trans hal.res⟩, hg3.gb1, fun j hj => ?_, ?_, ?_, ?_⟩
        · have h1 := hg3.cells j hj
          have h2 : (W4.alloc (.cells #[.int .u8 ((ltr z).toNat : Int)] 5)).cell? ⟨gb, j, none⟩ = some (.int .u8 t[j].toNat) := by rw [← h1]; exact World.cell?_alloc_lt _ _ _ hg3.gb2
          exact hgrow5.cell h2 (hne gb (Nat.le_refl _))
        · have := hgrow5.size
          simp at this
          omega
        · exact nums_grown (hg3.nums.alloc _) hgrow5 HFR.out
        · rw [HWT.out]
          unfold Kit.Owns
          rw [← v_cells_byte, List.length_append]
          exact hown5
      clear hg3 hown5 hgrow5
      go_roundw
      case rel => exact ⟨k + 1, v, v5, by omega, by go_num, rfl, rfl, HG4⟩
      case measure => simp [intOf]; omega
    · obtain rfl : k = t.size := by omega
      have hnlt : ¬ (t.size : Int) < (t.size : Int) := by omega
      have hown := hg.own
      rw [Pl.size_len, List.take_length] at hown
      have hst := Kit.run_string_of_own (P := Try.prog) wr 59 9 5 Try.underlying59 Try.underlying5 Try.underlying9 hown
      have c0 := hg.wt.res.cell (i := 0) rfl
      have c1 := hg.wt.res.cell (i := 1) rfl
      have f0 := hg.wt.res.frozen 0
      have f1 := hg.wt.res.frozen 1
      have hwt := hg.wt
      clear hown hg
      go_wp2
      have q := Kit.read_two (.int .i64 0) (.int .i64 0) c0 c1
      exact bodyPost_ret (v := .tuple #[.string ⟨(Om.wr M M.st t.data.toList).toArray⟩, .agg #[.int .i64 0, .int .i64 0]]) (by simp [results, Try.results38, go_sem, q.1, q.2]) rfl ⟨rfl, hwt.done _ _⟩
/-- What Write says. -/
def rwE (g : Gm) (t : List UInt8) : Int := if gE g ≠ 0 then gE g else ckE t
def rwAt (g : Gm) (t : List UInt8) : Int := if gE g ≠ 0 then 0 else ckAt t
theorem rwt_any (vm : Value) (g : Gm) (t : ByteArray) (w : World) (hm : MacAt w vm g) : (gE g = 0 ∧ ckE t.data.toList = 0 ∧ ∃ M, Om.Ok M ∧ MacAt w vm (gOf M) ∧ Calls Try.prog 38 #[vm, .string t] w fun e w' => e = .returned (.tuple #[.string ⟨(Om.wr M M.st t.data.toList).toArray⟩, .agg #[.int .i64 0, .int .i64 0]]) ∧ Below w.heap.size w w') ∨ (rwE g t.data.toList != 0) = true ∧ Calls Try.prog 38 #[vm, .string t] w fun e w' => e = .returned (.tuple #[.string ByteArray.empty, .agg #[.int .i64 (rwE g t.data.toList), .int .i64 (rwAt g t.data.toList)]]) ∧ Below w.heap.size w w' := by
  have HW := fun W (hb : Below w.heap.size w W) => rgw_any vm g W (hm.below hb)
  unfold rwE rwAt
  by_cases hg : gE g = 0
  · rw [hg] at HW
    rw [if_neg (fun h => h hg), if_neg (fun h => h hg)]
    rcases ck_cases t.data.toList with ⟨e1, e2, e3, e4⟩ | e1
    · obtain ⟨M, hM, hmm⟩ := ok_of hg
      refine .inl ⟨hg, e1, M, hM, hmm w vm hm, rwt_ok M hM vm t (ls_of e4) (by rw [Pl.size_len]; exact e3) w (hmm w vm hm) HW (fun W => by have := rcheck_all t W; rw [e1, e2] at this; exact this)⟩
    · obtain ⟨a, b, c, rfl, _⟩ := hm
      exact .inr ⟨e1, rwt_text a b c g.rf g.pl t _ _ e1 w HW (fun W => rcheck_all t W)⟩
  · rw [if_pos hg, if_pos hg]
    obtain ⟨a, b, c, rfl, _⟩ := hm
    exact .inr ⟨by simpa using hg, rwt_bad a b c g.rf g.pl t _ (by simpa using hg) w HW⟩
end Go.Proofs.Ytigamiehnjipcaa
