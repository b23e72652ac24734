/-
  Contract of the document's Write (chapter 12).
-/
import Derived.Test.YtkangeheamknoaaPiCy
import Derived.Test.YtkangeheamknoaaUCheck
namespace Go.Proofs.Ytkangeheamknoaa
open Go.RowKit PK Dm

/-- The drum and the result's variable. -/
structure DwAt (w W : World) (a b : Value) : Prop where
  dg : DgAt w W a b
  res : RowAt W (w.heap.size + 1) 33 #[.int .i64 0, .int .i64 0]
theorem DwAt.new (w : World) (a b : Value) : DwAt w ((w.alloc (.cells #[a, b] 25)).alloc (.cells #[.int .i64 0, .int .i64 0] 33)) a b := by
  have h := RowAt.new (w.alloc (.cells #[a, b] 25)) 33 #[.int .i64 0, .int .i64 0]
  rw [World.size_alloc] at h
  exact ⟨(DgAt.new w a b).alloc _, h⟩
section
variable {w W W' : World} {a b : Value}
theorem DwAt.step (h : DwAt w W a b) (hb : Below W.heap.size W W') : DwAt w W' a b := ⟨h.dg.step hb, h.res.below hb h.res.lt⟩
theorem DwAt.alloc (h : DwAt w W a b) (o : Obj) : DwAt w (W.alloc o) a b := h.step ((Below.refl _ _).alloc (Nat.le_refl _) o)
theorem DwAt.done (h : DwAt w W a b) (x y : Value) : Below w.heap.size w ((W.setCell ⟨w.heap.size + 1, 0, none⟩ x).setCell ⟨w.heap.size + 1, 1, none⟩ y) := (h.dg.below.setCell (p := ⟨w.heap.size + 1, 0, none⟩) (by simp) _).setCell (p := ⟨w.heap.size + 1, 1, none⟩) (by simp) _
end
set_option maxRecDepth 100000 in
set_option maxHeartbeats 2000000 in
theorem rdt_bad (a b : Value) (t : ByteArray) (E : Int) (hE : (E != 0) = true) (w : World) (HW : Hid (∀ W, Below w.heap.size w W → Calls Try.prog 7 #[.agg #[a, b]] W fun e w' => e = .returned (.int .i64 E) ∧ Below W.heap.size W w')) : Calls Try.prog 12 #[.agg #[a, b], .string t] w fun e w' => e = .returned (.tuple #[.string ByteArray.empty, .agg #[.int .i64 E, .int .i64 0]]) ∧ Below w.heap.size w w' := by
  have h0 := DwAt.new w a b
  go_enter Try.func12, Try.ntmps12
  go_wp2_with (first | refine wpList_load_row rfl 25 _ rfl w.heap.size rfl 25 #[a, b] (0, 0) _ h0.dg.row Try.underlying25 rfl v_info_drum ?_)
  refine (HW.out _ h0.dg.below).mono ?_
  rintro e W1 ⟨rfl, hb⟩
  have h1 := h0.step hb
  have c0 := h1.res.cell (i := 0) rfl
  have c1 := h1.res.cell (i := 1) rfl
  have f0 := h1.res.frozen 0
  have f1 := h1.res.frozen 1
  clear hb h0 HW
  go_wp2
  have q := Kit.read_two (.int .i64 E) (.int .i64 0) c0 c1
  exact bodyPost_ret (v := .tuple #[.string ByteArray.empty, .agg #[.int .i64 E, .int .i64 0]]) (by simp [results, Try.results12, go_sem, q.1, q.2]; rfl) rfl ⟨rfl, h1.done _ _⟩
set_option maxRecDepth 100000 in
set_option maxHeartbeats 2000000 in
theorem rdt_text (a b : Value) (t : ByteArray) (E A : Int) (hE : (E != 0) = true) (w : World) (HW : Hid (∀ W, Below w.heap.size w W → Calls Try.prog 7 #[.agg #[a, b]] W fun e w' => e = .returned (.int .i64 0) ∧ Below W.heap.size W w')) (HT : Hid (∀ W, Calls Try.prog 20 #[.string t] W fun e w' => e = .returned (.agg #[.int .i64 E, .int .i64 A]) ∧ Below W.heap.size W w')) : Calls Try.prog 12 #[.agg #[a, b], .string t] w fun e w' => e = .returned (.tuple #[.string ByteArray.empty, .agg #[.int .i64 E, .int .i64 A]]) ∧ Below w.heap.size w w' := by
  have h0 := DwAt.new w a b
  go_enter Try.func12, Try.ntmps12
  go_wp2_with (first | refine wpList_load_row rfl 25 _ rfl w.heap.size rfl 25 #[a, b] (0, 0) _ h0.dg.row Try.underlying25 rfl v_info_drum ?_)
  refine (HW.out _ h0.dg.below).mono ?_
  rintro e W1 ⟨rfl, hb⟩
  have h1 := h0.step hb
  clear hb h0 HW
  go_wp2_with fail
  refine (HT.out _).mono ?_
  rintro e W2 ⟨rfl, hb⟩
  have h2 := (h1.step hb).alloc (.cells #[.int .i64 E, .int .i64 A] 33)
  have c0 := h2.res.cell (i := 0) rfl
  have c1 := h2.res.cell (i := 1) rfl
  have f0 := h2.res.frozen 0
  have f1 := h2.res.frozen 1
  clear hb h1 HT
  go_wp2_with fail
  go_region
  all_goals (try go_wp2)
  have q := Kit.read_two (.int .i64 E) (.int .i64 A) c0 c1
  exact bodyPost_ret (v := .tuple #[.string ByteArray.empty, .agg #[.int .i64 E, .int .i64 A]]) (by simp [results, Try.results12, go_sem, q.1, q.2]; rfl) rfl ⟨rfl, (h2.done _ _).drew⟩
theorem ls_of {l : List UInt8} (h : Pl.Lets l) : Vg.Ls l := fun c hc => by
  have := h c hc
  simp [Pl.isL] at this
  omega
theorem v_info_byte : (Try.prog.info? 5).map (fun i => (i.zero, i.size, i.bytes)) = some (some (.int .u8 0), 1, 1) := by kernel_rfl
theorem v_cells_byte (acc : List UInt8) (b : UInt8) : Lib.byteCells acc ++ [.int .u8 (b.toNat : Int)] = Lib.byteCells (acc ++ [b]) := by simp [Lib.byteCells]
theorem getD_size {s : ByteArray} {i : Nat} (hi : i < s.size) : i < s.data.toList.length := by have := Pl.size_len s; omega
/-- What is held in the loop. -/
structure DlAt (w W : World) (a b : Value) (gb : Nat) (t : ByteArray) (v8 : Value) (l : List UInt8) : Prop where
  wt : DwAt w W a b
  gb1 : w.heap.size + 1 < gb
  cells : ∀ k (hk : k < t.size), W.cell? ⟨gb, k, none⟩ = some (.int .u8 t[k].toNat)
  gb2 : gb < W.heap.size
  own : Kit.Owns W (gb + 1) 5 v8 l
theorem own_byte {w w' : World} {B : Nat} {v : Value} {l : List UInt8} (h : Kit.Owns w B 5 v l) (hb : Below w.heap.size w w') : Kit.Owns w' B 5 v l := own_step h hb
set_option maxRecDepth 100000 in
set_option maxHeartbeats 4000000 in
theorem rdt_ok (v : Value) (D : Dr) (hz : dE D = 0) (t : ByteArray) (ht : Vg.Ls t.data.toList) (hs : t.size ≤ 65536) (w : World) (hd : DrAt w v D) (HT : Hid (∀ W, Calls Try.prog 20 #[.string t] W fun e w' => e = .returned (.agg #[.int .i64 0, .int .i64 0]) ∧ Below W.heap.size W w')) : Calls Try.prog 12 #[v, .string t] w fun e w' => e = .returned (.tuple #[.string ⟨(wr D t.data.toList).toArray⟩, .agg #[.int .i64 0, .int .i64 0]]) ∧ Below w.heap.size w w' := by
  obtain ⟨i0, hi0, hz0, hz1, hz2⟩ := x_info_parts v_info_byte
  obtain ⟨e1, e2, e3, e4⟩ := dE_zero hz
  have HW := (show Hid (∀ W, Below w.heap.size w W → Calls Try.prog 7 #[v] W fun e w' => e = .returned (.int .i64 0) ∧ Below W.heap.size W w') from fun W hb => by have := rdw_any v D W (hd.below hb); rw [hz] at this; exact this)
  have HP := (show Hid (∀ i W, i ≤ 65536 → Below w.heap.size w W → Calls Try.prog 17 #[v, .int .i64 (i : Nat)] W fun e w' => e = .returned (.int .i64 (pushed D i : Nat)) ∧ Below W.heap.size W w') from fun i W hi hb => rpu_any v D e4 e2 e3 i hi W (hd.below hb))
  have HPL := (show Hid (∀ i, pushed D i ≤ 27) from fun i => Nat.le_trans (pushed_le D i) e3)
  have HLE : Hid (∀ k, (wrN D t.data.toList k).length = k) := fun k => wrN_len D t.data.toList k
  have HSU : Hid (∀ k, wrN D t.data.toList (k + 1) = wrN D t.data.toList k ++ [enc (pushed D k) (t.data.toList.getD k 0)]) := fun k => wrN_succ D t.data.toList k
  have HAL : Hid (wrN D t.data.toList t.size = wr D t.data.toList) := by unfold wr; rw [Hid, Pl.size_len]
  obtain ⟨a, b, rfl, _, _⟩ := hd
  have h0 := DwAt.new w a b
  have hcv := fun w => Lib.run_convert_string_bytes (P := Try.prog) w 9 50 5 t Try.underlying9 Try.underlying50 Try.underlying5
  clear e1 e2 e3 e4 hz
  go_enter Try.func12, Try.ntmps12
  go_wp2_with (first | refine wpList_load_row rfl 25 _ rfl w.heap.size rfl 25 #[a, b] (0, 0) _ h0.dg.row Try.underlying25 rfl v_info_drum ?_)
  refine (HW.out _ h0.dg.below).mono ?_
  rintro e W1 ⟨rfl, hb⟩
  have h1 := h0.step hb
  clear hb h0 HW
  go_wp2_with fail
  refine (HT.out _).mono ?_
  rintro e W2 ⟨rfl, hb⟩
  have h2 := (h1.step hb).alloc (.cells #[.int .i64 0, .int .i64 0] 33)
  clear hb h1 HT
  go_upto_region 8 with fail
  obtain ⟨V, hV⟩ : ∃ V, V = W2.alloc (.cells #[.int .i64 0, .int .i64 0] 33) := ⟨_, rfl⟩
  rw [← hV] at h2 ⊢
  clear hV
  have hbB : Below V.heap.size V (Lib.bytesWorld V 5 t) := below_bytes V (Nat.le_refl _) 5 t
  have HC : ∀ k (hk : k < t.size), (Lib.bytesWorld V 5 t).cell? ⟨V.heap.size, k, none⟩ = some (.int .u8 t[k].toNat) := fun k hk => bytes_cell V 5 t k hk
  have hsz := Lib.bytesWorld_size V 5 t
  have hl := h2.res.lt
  have hg0 : DlAt w (Lib.bytesWorld V 5 t) a b V.heap.size t (.slice none 0 0) (wrN D t.data.toList 0) := ⟨h2.step hbB, by omega, HC, by omega, Kit.Owns.nil _ _ _⟩
  clear hsz HC hbB hl
  go_wp2_with fail
  generalize Lib.bytesWorld V 5 t = V2 at *
  obtain ⟨gb, hgb⟩ : ∃ gb, gb = V.heap.size := ⟨_, rfl⟩
  rw [← hgb] at hg0 ⊢
  clear hgb h2 hcv
  go_loopw [26, 8] (fun i x W => ∃ (k : Nat) (v8 : Value), k ≤ t.size ∧ i = .int .i64 (k : Nat) ∧ v8 = x ∧ DlAt w W a b gb t v8 (wrN D t.data.toList k)) (fun i _ _ => ((t.size : Int) - intOf i).toNat)
  case atStart => exact ⟨0, _, by omega, rfl, rfl, hg0⟩
  case round =>
    clear hg0
    obtain ⟨k, v8, hk, rfl, rfl, hg⟩ := hrel
    by_cases hlt : k < t.size
    · have hlt2 : (k : Int) < (t.size : Int) := by omega
      have HLT : Hid (k < t.size) := hlt
      have hxl := ls_get ht (getD_size hlt)
      have hby := getD_byte t k hlt
      have hcell : wr.cell? ⟨gb, k, none⟩ = some (.int .u8 (t.data.toList.getD k 0).toNat) := by rw [hby]; exact hg.cells k hlt
      have HWT := (show Hid _ from HSU.out k)
      have HLL := (show Hid _ from HLE.out k)
      have hpl := HPL.out k
      have HCA := (show Hid _ from HP.out k wr (by omega) hg.wt.dg.below)
      generalize t.data.toList.getD k 0 = x at *
      generalize pushed D k = p at *
      have hx1 : (65 : Int) ≤ x.toNat := by omega
      have hx2 : (x.toNat : Int) ≤ 90 := by omega
      have HET := (show Hid _ from enc_toNat p x)
      clear hby hlt
      go_wp2_with (first | refine wpList_load_row rfl 25 _ rfl w.heap.size rfl 25 #[a, b] (0, 0) _ hg.wt.dg.row Try.underlying25 rfl v_info_drum ?_)
      refine Calls.mono HCA.out ?_
      rintro e W4 ⟨rfl, hb⟩
      have hg3 : DlAt w W4 a b gb t v8 (wrN D t.data.toList k) := ⟨hg.wt.step hb, hg.gb1, fun j hj => (hb.cell (p := ⟨gb, j, none⟩) hg.gb2).trans (hg.cells j hj), by have := hb.size; have := hg.gb2; omega, own_byte hg.own hb⟩
      have hlt4 := hg3.gb2
      obtain ⟨z, hz⟩ : ∃ z, z = (enc p x).toNat := ⟨_, rfl⟩
      have hz3 : z = 65 + (90 - x.toNat + p) % 26 := hz.trans HET.out
      have hzw : (65 : Int) + ((90 : Int) - (x.toNat : Int) + (p : Int)) % 26 = (z : Int) := by omega
      have hzt : (65 : Int) + ((90 : Int) - (x.toNat : Int) + (p : Int)).tmod 26 = (z : Int) := by rw [Int.tmod_eq_emod_of_nonneg (by omega)]; omega
      have hz8 : z ≤ 90 := by omega
      have HZ := (show Hid _ from hz)
      clear hb hg hcell HCA hz hz3
      go_wp2_with (first | (at_builtin; refine wpList_append_own _ rfl _ _ 50 rfl (gb + 1) 5 i0 (.int .u8 0) 1 1 Try.underlying50 hi0 hz0 hz1 hz2 rfl (by decide) _ _ _ rfl (World.ownsRow.alloc hg3.own _) ⟨W4.heap.size, 0, none⟩ 1 1 [.int .u8 (z : Int)] rfl rfl (cell_one_new _ _ _) (fun u hu => by simp at hu; subst hu; rfl) (by have := HLL.out; unfold maxLen; omega) (by have := HLL.out; omega) (by simp; omega) ?_; intro v5 w5 hown5 hgrow5 _))
      have HG4 : DlAt w w5 a b gb t v5 (wrN D t.data.toList (k + 1)) := by
        have hq := hg3.gb1
        have hal := hg3.wt.alloc (.cells #[.int .u8 (z : Int)] 5)
        have hne : ∀ q, q ≤ gb → some q ≠ v8.ownBlock := fun q hq e => by have := (World.ownsRow.lt hg3.own q e.symm).1; omega
        refine ⟨⟨⟨(hgrow5.block w.heap.size (by simp; omega) (hne _ (by omega))).trans hal.dg.row, hal.dg.below.grown hgrow5 (by simp; omega) (fun q hq => by have := (World.ownsRow.lt hg3.own q hq).1; omega)⟩, (hgrow5.block (w.heap.size + 1) (by simp; omega) (hne _ (by omega))).trans hal.res⟩, hg3.gb1, fun j hj => ?_, ?_, ?_⟩
        · have h1 := hg3.cells j hj
          have h2 : (W4.alloc (.cells #[.int .u8 (z : Int)] 5)).cell? ⟨gb, j, none⟩ = some (.int .u8 t[j].toNat) := by rw [← h1]; exact World.cell?_alloc_lt _ _ _ hg3.gb2
          exact hgrow5.cell h2 (hne gb (Nat.le_refl _))
        · have := hgrow5.size
          simp at this
          omega
        · rw [HWT.out]
          unfold Kit.Owns
          rw [← v_cells_byte, List.length_append, ← HZ.out]
          exact hown5
      clear hg3 hown5 hgrow5
      go_roundw
      case rel => exact ⟨k + 1, v5, HLT.out, by go_num, rfl, HG4⟩
      case measure => have := HLT.out; simp [intOf]; omega
    · obtain rfl : k = t.size := by omega
      have hnlt : ¬ (t.size : Int) < (t.size : Int) := by omega
      have hown := hg.own
      rw [HAL.out] at hown
      have hst := Kit.run_string_of_own (P := Try.prog) wr 50 9 5 Try.underlying50 Try.underlying5 Try.underlying9 hown
      have c0 := hg.wt.res.cell (i := 0) rfl
      have c1 := hg.wt.res.cell (i := 1) rfl
      have f0 := hg.wt.res.frozen 0
      have f1 := hg.wt.res.frozen 1
      have hwt := hg.wt
      clear hown hg hlt
      go_wp2
      have q := Kit.read_two (.int .i64 0) (.int .i64 0) c0 c1
      exact bodyPost_ret (v := .tuple #[.string ⟨(Dm.wr D t.data.toList).toArray⟩, .agg #[.int .i64 0, .int .i64 0]]) (by simp [results, Try.results12, go_sem, q.1, q.2]) rfl ⟨rfl, hwt.done _ _⟩
/-- What Write says. -/
def dwE (D : Dr) (t : List UInt8) : Int := if dE D ≠ 0 then dE D else ckE t
def dwAt (D : Dr) (t : List UInt8) : Int := if dE D ≠ 0 then 0 else ckAt t
def dwS (D : Dr) (t : List UInt8) : List UInt8 := if dwE D t ≠ 0 then [] else wr D t
theorem rdt_any (v : Value) (D : Dr) (t : ByteArray) (w : World) (hd : DrAt w v D) : Calls Try.prog 12 #[v, .string t] w fun e w' => e = .returned (.tuple #[.string ⟨(dwS D t.data.toList).toArray⟩, .agg #[.int .i64 (dwE D t.data.toList), .int .i64 (dwAt D t.data.toList)]]) ∧ Below w.heap.size w w' := by
  have HW := fun W (hb : Below w.heap.size w W) => rdw_any v D W (hd.below hb)
  unfold dwS
  by_cases hg : dE D = 0
  · rw [hg] at HW
    have e : dwE D t.data.toList = ckE t.data.toList := by unfold dwE; rw [if_neg (fun h => h hg)]
    have e' : dwAt D t.data.toList = ckAt t.data.toList := by unfold dwAt; rw [if_neg (fun h => h hg)]
    rcases ck_cases t.data.toList with ⟨e1, e2, e3, e4⟩ | e1
    · rw [e, e', e1, e2, if_neg (by decide)]
      exact rdt_ok v D hg t (ls_of e4) (by rw [Pl.size_len]; exact e3) w hd (fun W => by have := rcheck_all t W; rw [e1, e2] at this; exact this)
    · obtain ⟨a, b, rfl, _⟩ := hd
      rw [e, e', if_pos (by simpa using e1)]
      exact rdt_text a b t _ _ e1 w HW (fun W => rcheck_all t W)
  · have e : dwE D t.data.toList = dE D := by unfold dwE; rw [if_pos hg]
    have e' : dwAt D t.data.toList = 0 := by unfold dwAt; rw [if_pos hg]
    obtain ⟨a, b, rfl, _⟩ := hd
    rw [e, e', if_pos hg]
    exact rdt_bad a b t _ (by simpa using hg) w HW
end Go.Proofs.Ytkangeheamknoaa
