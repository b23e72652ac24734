/-
  Contract of pins' Write (chapter 12).
-/
import Derived.Test.YtkangeheamknoaaPiP5
namespace Go.Proofs.Ytkangeheamknoaa
open Go.RowKit PK Dm

def byts (n : Nat) (g : Nat → UInt8) : Array Value := tab n fun i => .int .u8 (g i).toNat
theorem byts_set (n : Nat) (g : Nat → UInt8) (i : Nat) (b : UInt8) : (byts n g).setIfInBounds i (.int .u8 b.toNat) = byts n (upd g i b) := by
  unfold byts
  rw [tab_set]
  exact tab_ext fun j _ => by by_cases e : j = i <;> simp [upd, e]
theorem byts_get {n : Nat} (g : Nat → UInt8) {i : Nat} (h : i < n) : (byts n g)[i]? = some (.int .u8 (g i).toNat) := tab_get _ h
theorem byts_new (n : Nat) : (tab n fun _ => .int .u8 0) = byts n fun _ => 0 := rfl
/-- What has been written of l, and nought behind it. -/
def upTo (l : List UInt8) : Nat → UInt8 := fun i => l.getD i 0
theorem upTo_nil : upTo [] = fun _ => 0 := by funext i; simp [upTo]
theorem upTo_snoc (l : List UInt8) (b : UInt8) : upd (upTo l) l.length b = upTo (l ++ [b]) := by
  funext i
  unfold upd upTo
  by_cases h : i = l.length
  · rw [if_pos h, h]; simp [List.getD]
  · rw [if_neg h]
    simp only [List.getD_eq_getElem?_getD]
    by_cases h2 : i < l.length
    · rw [List.getElem?_append_left h2]
    · rw [List.getElem?_eq_none (by omega), List.getElem?_eq_none (by simp; omega)]
theorem byts_all (l : List UInt8) : byts l.length (upTo l) = (Lib.byteCells l).toArray := by
  unfold byts tab Lib.byteCells
  congr 1
  apply List.ext_getElem
  · simp
  · intro i h1 h2
    simp at h1
    simp [upTo, List.getD, h1]
theorem run_string_of_row {P : Program} (w : World) (src dst e : TypeId) (hs : P.underlying src = some (.slice e)) (he : P.underlying e = some (.int .u8)) (hd : P.underlying dst = some .string)
    {g n cap : Nat} {T : TypeId} {l : List UInt8} (hn : l.length = n) (h : RowAt w g T (Lib.byteCells l).toArray) : (convert src dst (.slice (some ⟨g, 0, none⟩) n cap)).run P w = .ok (.string ⟨l.toArray⟩) w := by
  subst hn
  rw [run_convert_bytes_string w src dst e _ _ _ hs he hd]
  have hl := run_loadCells_list (P := P) (w := w) ⟨g, 0, none⟩ (Lib.byteCells l) (fun j v hv => by
    have e : ((⟨g, 0, none⟩ : Addr).add j) = ⟨g, j, none⟩ := by unfold Addr.add; by_cases e0 : j = 0 <;> simp [e0]
    rw [e]
    exact h.cell (by simpa using hv))
  rw [Lib.byteCells_length] at hl
  have e1 : Lib.byteCells l = (l.map fun b => (b.toNat : Int)).map (Value.int .u8) := by simp [Lib.byteCells]
  rw [e1] at hl
  rw [run_bytesToString w _ _ _ _ hl, Kit.foldl_push]
  simp
theorem row_next {W : World} {go n : Nat} {T : TypeId} {l : List UInt8} (h : RowAt W go T (byts n (upTo l))) (b : UInt8) : RowAt (W.setCell ⟨go, l.length, none⟩ (.int .u8 b.toNat)) go T (byts n (upTo (l ++ [b]))) := by
  have := h.set l.length (.int .u8 b.toNat)
  rw [byts_set, upTo_snoc] at this
  exact this
set_option maxRecDepth 100000 in
set_option maxHeartbeats 2000000 in
theorem pwt_bad (a b : Value) (t : ByteArray) (E : Int) (hE : (E != 0) = true) (w : World) (HW : Hid (∀ W, Below w.heap.size w W → Calls Try.prog 6 #[.agg #[a, b]] W fun e w' => e = .returned (.int .i64 E) ∧ Below W.heap.size W w')) : Calls Try.prog 11 #[.agg #[a, b], .string t] w fun e w' => e = .returned (.tuple #[.string ByteArray.empty, .agg #[.int .i64 E, .int .i64 0]]) ∧ Below w.heap.size w w' := by
  have h0 := DwAt.new w a b
  go_enter Try.func11, Try.ntmps11
  go_wp2_with (first | refine wpList_load_row rfl 25 _ rfl w.heap.size rfl 25 #[a, b] (0, 0) _ h0.dg.row Try.underlying25 rfl v_info_drum ?_)
  refine (HW.out _ h0.dg.below).mono ?_
  rintro e W1 ⟨rfl, hb⟩
  have h1 := h0.step hb
  have c0 := h1.res.cell (i := 0) rfl
  have c1 := h1.res.cell (i := 1) rfl
  have f0 := h1.res.frozen 0
  have f1 := h1.res.frozen 1
  clear hb h0 HW
  go_wp2
  have q := Kit.read_two (.int .i64 E) (.int .i64 0) c0 c1
  exact bodyPost_ret (v := .tuple #[.string ByteArray.empty, .agg #[.int .i64 E, .int .i64 0]]) (by simp [results, Try.results11, go_sem, q.1, q.2]; rfl) rfl ⟨rfl, h1.done _ _⟩
set_option maxRecDepth 100000 in
set_option maxHeartbeats 2000000 in
theorem pwt_text (a b : Value) (t : ByteArray) (E A : Int) (hE : (E != 0) = true) (w : World) (HW : Hid (∀ W, Below w.heap.size w W → Calls Try.prog 6 #[.agg #[a, b]] W fun e w' => e = .returned (.int .i64 0) ∧ Below W.heap.size W w')) (HT : Hid (∀ W, Calls Try.prog 18 #[.string t] W fun e w' => e = .returned (.agg #[.int .i64 E, .int .i64 A]) ∧ Below W.heap.size W w')) : Calls Try.prog 11 #[.agg #[a, b], .string t] w fun e w' => e = .returned (.tuple #[.string ByteArray.empty, .agg #[.int .i64 E, .int .i64 A]]) ∧ Below w.heap.size w w' := by
  have h0 := DwAt.new w a b
  go_enter Try.func11, Try.ntmps11
  go_wp2_with (first | refine wpList_load_row rfl 25 _ rfl w.heap.size rfl 25 #[a, b] (0, 0) _ h0.dg.row Try.underlying25 rfl v_info_drum ?_)
  refine (HW.out _ h0.dg.below).mono ?_
  rintro e W1 ⟨rfl, hb⟩
  have h1 := h0.step hb
  clear hb h0 HW
  go_wp2_with fail
  refine (HT.out _).mono ?_
  rintro e W2 ⟨rfl, hb⟩
  have h2 := (h1.step hb).alloc (.cells #[.int .i64 E, .int .i64 A] 33)
  have c0 := h2.res.cell (i := 0) rfl
  have c1 := h2.res.cell (i := 1) rfl
  have f0 := h2.res.frozen 0
  have f1 := h2.res.frozen 1
  clear hb h1 HT
  go_wp2_with fail
  go_region
  all_goals (try go_wp2)
  have q := Kit.read_two (.int .i64 E) (.int .i64 A) c0 c1
  exact bodyPost_ret (v := .tuple #[.string ByteArray.empty, .agg #[.int .i64 E, .int .i64 A]]) (by simp [results, Try.results11, go_sem, q.1, q.2]; rfl) rfl ⟨rfl, (h2.done _ _).drew⟩
set_option maxRecDepth 100000 in
set_option maxHeartbeats 4000000 in
theorem pwt_ok (v : Value) (D : Dr) (hz : dE D = 0) (t : ByteArray) (ht : Vg.Ls t.data.toList) (hs : t.size ≤ 65536) (w : World) (hd : DrAt w v D) (HT : Hid (∀ W, Calls Try.prog 18 #[.string t] W fun e w' => e = .returned (.agg #[.int .i64 0, .int .i64 0]) ∧ Below W.heap.size W w')) : Calls Try.prog 11 #[v, .string t] w fun e w' => e = .returned (.tuple #[.string ⟨(wr D t.data.toList).toArray⟩, .agg #[.int .i64 0, .int .i64 0]]) ∧ Below w.heap.size w w' := by
  have HW := (show Hid (∀ W, Below w.heap.size w W → Calls Try.prog 6 #[v] W fun e w' => e = .returned (.int .i64 0) ∧ Below W.heap.size W w') from fun W hb => by have := ppi_wrong v D W (hd.below hb); rw [hz] at this; exact this)
  have HPL := (show Hid (∀ i, pushed D i ≤ 27) from fun i => Nat.le_trans (pushed_le D i) (dE_zero hz).2.2.1)
  have HLE : Hid (∀ k, (wrN D t.data.toList k).length = k) := fun k => wrN_len D t.data.toList k
  have HSU : Hid (∀ k, wrN D t.data.toList (k + 1) = wrN D t.data.toList k ++ [enc (pushed D k) (t.data.toList.getD k 0)]) := fun k => wrN_succ D t.data.toList k
  have HAL : Hid (wrN D t.data.toList t.size = wr D t.data.toList) := by unfold wr; rw [Hid, Pl.size_len]
  obtain ⟨a, b, rfl, hwh, hbr⟩ := hd
  have HNX := (show Hid (∀ i W g, i ≤ 65536 → WkAt w W g a b i → Calls Try.prog 16 #[.pointer (some ⟨g, 0, none⟩)] W fun e w' => e = .returned (.int .i64 (pushed D i : Nat)) ∧ ∃ V, Below W.heap.size W V ∧ w' = V.setCell ⟨g, 2, none⟩ (.int .i64 ((i + 1 : Nat) : Int))) from fun i W g hi hW => pnx_any D hz a b g i hi W hW.row (hwh.below hW.below) (hbr.below hW.below))
  have hmk := run_make_row' (P := Try.prog) 50 5 (.int .u8 0) 1 Try.underlying50 v_info_byte rfl .i64 .i64 t.size (by omega) (by omega)
  rw [p_made_tab, byts_new] at hmk
  obtain ⟨aw, cw, R, rfl, _⟩ := hwh
  obtain ⟨ab, cb, rfl, _⟩ := hbr
  generalize D.nw = nw at *
  generalize D.nb = nb at *
  have h0 := DwAt.new w (.slice aw nw cw) (.slice ab nb cb)
  have HS0 : Hid ((byts t.size fun _ => 0) = byts t.size (upTo (wrN D t.data.toList 0))) := by rw [Hid, show wrN D t.data.toList 0 = [] from rfl, upTo_nil]
  clear hz
  go_enter Try.func11, Try.ntmps11
  go_wp2_with (first | refine wpList_load_row rfl 25 _ rfl w.heap.size rfl 25 #[.slice aw nw cw, .slice ab nb cb] (0, 0) _ h0.dg.row Try.underlying25 rfl v_info_drum ?_)
  refine (HW.out _ h0.dg.below).mono ?_
  rintro e W1 ⟨rfl, hb⟩
  have h1 := h0.step hb
  clear hb h0 HW
  go_wp2_with fail
  refine (HT.out _).mono ?_
  rintro e W2 ⟨rfl, hb⟩
  have h2 := (h1.step hb).alloc (.cells #[.int .i64 0, .int .i64 0] 33)
  clear hb h1 HT
  go_upto_region 7 with fail
  generalize W2.alloc (.cells #[.int .i64 0, .int .i64 0] 33) = V0 at *
  go_upto_region 8 with fail
  have h3 := h2.alloc (.cells (byts t.size fun _ => 0) 5)
  have hr3 : RowAt (V0.alloc (.cells (byts t.size fun _ => 0) 5)) V0.heap.size 5 (byts t.size fun _ => 0) := RowAt.new V0 _ _
  have hzo := h2.res.lt
  generalize V0.alloc (.cells (byts t.size fun _ => 0) 5) = V1 at *
  generalize V0.heap.size = go at *
  rw [HS0.out] at hr3
  clear hmk h2 HS0
  go_upto_region 9 with (first | refine wpList_load_row rfl 25 _ rfl w.heap.size rfl 25 #[.slice aw nw cw, .slice ab nb cb] (0, 0) _ h3.dg.row Try.underlying25 rfl v_info_drum ?_)
  have hw4 : WkAt w (V1.alloc (.cells #[.slice aw nw cw, .slice ab nb cb, .int .i64 ((0 : Nat) : Int)] 46)) V1.heap.size (.slice aw nw cw) (.slice ab nb cb) 0 := ⟨RowAt.new V1 _ _, h3.dg.below.alloc h3.dg.below.size _⟩
  have hr4 := hr3.alloc (.cells #[.slice aw nw cw, .slice ab nb cb, .int .i64 ((0 : Nat) : Int)] 46)
  have hf4 := h3.res.alloc (.cells #[.slice aw nw cw, .slice ab nb cb, .int .i64 ((0 : Nat) : Int)] 46)
  have hgo := hr3.lt
  have hzw := h3.dg.below.size
  rw [show ((0 : Nat) : Int) = 0 from rfl] at hw4 hr4 hf4
  generalize V1.alloc (.cells #[.slice aw nw cw, .slice ab nb cb, .int .i64 0] 46) = V2 at *
  generalize V1.heap.size = gw at *
  clear h3 hr3
  go_wp2_with fail
  go_loopw [30] (fun x W => ∃ k : Nat, k ≤ t.size ∧ x = .int .i64 (k : Nat) ∧ RowAt W go 5 (byts t.size (upTo (wrN D t.data.toList k))) ∧ WkAt w W gw (.slice aw nw cw) (.slice ab nb cb) k ∧ RowAt W (w.heap.size + 1) 33 #[.int .i64 0, .int .i64 0]) (fun x _ => ((t.size : Int) - intOf x).toNat)
  case atStart => exact ⟨0, by omega, rfl, hr4, hw4, hf4⟩
  case round =>
    clear hr4 hw4 hf4
    obtain ⟨k, hk, rfl, hro, hwk, hre⟩ := hrel
    by_cases hlt : k < t.size
    case neg =>
      obtain rfl : k = t.size := by omega
      have hnlt : ¬ (t.size : Int) < (t.size : Int) := by omega
      have hl2 : (wrN D t.data.toList t.size).length = t.size := HLE.out _
      have hro2 : RowAt wr go 5 (Lib.byteCells (wrN D t.data.toList t.size)).toArray := by
        rw [← byts_all, hl2]; exact hro
      have hst := run_string_of_row (P := Try.prog) wr 50 9 5 Try.underlying50 Try.underlying5 Try.underlying9 (cap := t.size) hl2 hro2
      rw [HAL.out] at hst
      have c0 := hre.cell (i := 0) rfl
      have c1 := hre.cell (i := 1) rfl
      have f0 := hre.frozen 0
      have f1 := hre.frozen 1
      have HBE := (show Hid _ from (hwk.below.setCell (p := ⟨w.heap.size + 1, 0, none⟩) (by simp) (.int .i64 0)).setCell (p := ⟨w.heap.size + 1, 1, none⟩) (by simp) (.int .i64 0))
      obtain ⟨T, hT⟩ : ∃ T, T = (⟨(Dm.wr D t.data.toList).toArray⟩ : ByteArray) := ⟨_, rfl⟩
      rw [← hT] at hst
      have HTT := (show Hid _ from hT)
      clear hro hwk hre hlt hl2 hro2 hT
      go_wp2
      have q := Kit.read_two (.int .i64 0) (.int .i64 0) c0 c1
      exact bodyPost_ret (v := .tuple #[.string T, .agg #[.int .i64 0, .int .i64 0]]) (by simp [results, Try.results11, go_sem, q.1, q.2]) rfl ⟨by rw [HTT.out], HBE.out⟩
    have HLT : Hid (k < t.size) := hlt
    have hlt2 : (k : Int) < (t.size : Int) := by omega
    have HCA := (show Hid _ from HNX.out k wr.drew gw (by omega) ⟨hwk.row, hwk.below.drew⟩)
    have HST := (show Hid _ from HSU.out k)
    have hxl := ls_get ht (getD_size hlt)
    have hpl := HPL.out k
    have HTU := (show Hid (∀ W, _) from fun W => ptu_any (t.data.toList.getD k 0) hxl (pushed D k) hpl W)
    have HWK := (show Hid (WkAt w wr.drew gw (.slice aw nw cw) (.slice ab nb cb) k) from ⟨hwk.row, hwk.below.drew⟩)
    have HRO := (show Hid (RowAt wr.drew go 5 (byts t.size (upTo (wrN D t.data.toList k)))) from hro)
    have HRE := (show Hid (RowAt wr (w.heap.size + 1) 33 #[.int .i64 0, .int .i64 0]) from hre)
    have HNG := (show Hid (∀ W, RowAt W go 5 (byts t.size (upTo (wrN D t.data.toList k))) → W.cell? ⟨go, k, none⟩ = some (.int .u8 (upTo (wrN D t.data.toList k) k).toNat)) from fun W h => h.cell (byts_get (upTo (wrN D t.data.toList k)) hlt))
    have hby := getD_byte t k hlt
    obtain ⟨p, hp⟩ : ∃ p, p = pushed D k := ⟨_, rfl⟩
    rw [← hp] at HCA HST HTU
    obtain ⟨z, hz⟩ : ∃ z, z = enc p (t.data.toList.getD k 0) := ⟨_, rfl⟩
    rw [← hz] at HST HTU
    rw [hby] at HTU
    clear hro hwk hre hp hz hxl hpl hby
    go_wp2_with fail
    refine wp_region_noPanic ?_
    refine wp_region_held_drew (S := fun W => True) (by kernel_rfl) trivial (fun hS => ?_)
    refine vtake 0 33 (.slice (some ⟨go, 0, none⟩) t.size t.size) rfl rfl (by kernel_rfl) (by kernel_rfl) (by kernel_rfl) (fun _ _ _ _ h => h) (by rfl) (fun W hW => by clear hS hW; go_simp) hS ?_
    simp only [List.setIfInBounds_toArray, List.set_cons_succ, List.set_cons_zero]
    refine vtake 1 34 (.int .i64 (k : Nat)) rfl rfl (by kernel_rfl) (by kernel_rfl) (by kernel_rfl) (fun _ _ _ _ h => h) (by rfl) (fun W hW => by clear hS hW; go_simp) hS ?_
    simp only [List.setIfInBounds_toArray, List.set_cons_succ, List.set_cons_zero]
    refine vtake 2 35 (.string t) rfl rfl (by kernel_rfl) (by kernel_rfl) (by kernel_rfl) (fun _ _ _ _ h => h) (by rfl) (fun W hW => by clear hS hW; go_simp) hS ?_
    simp only [List.setIfInBounds_toArray, List.set_cons_succ, List.set_cons_zero]
    refine vtake 3 36 (.int .i64 (k : Nat)) rfl rfl (by kernel_rfl) (by kernel_rfl) (by kernel_rfl) (fun _ _ _ _ h => h) (by rfl) (fun W hW => by clear hS hW; go_simp) hS ?_
    simp only [List.setIfInBounds_toArray, List.set_cons_succ, List.set_cons_zero]
    refine vtake 4 37 (.int .u8 (t[k].toNat : Nat)) rfl rfl (by kernel_rfl) (by kernel_rfl) (by kernel_rfl) (fun _ _ _ _ h => h) (by rfl) (fun W hW => by clear hS hW; (first | (go_simp; done) | (go_simp; rfl))) hS ?_
    simp only [List.setIfInBounds_toArray, List.set_cons_succ, List.set_cons_zero]
    refine wpAnyH_ready (rs := [5]) (by kernel_rfl) (by simp) ?_
    refine AllReadyH.cons (o := _) rfl (fun K hK => ?_) AllReadyH.nil
    rw [if_pos (by rfl)]
    go_simp
    refine Calls.mono (HCA.out) ?_
    rintro e Y ⟨rfl, V, hb, rfl⟩
    refine hK.out _ _ (trivial) (fun hS1 => ?_)
    clear hK hS K
    have hS := hS1
    clear hS1
    obtain ⟨hwk2, hro2⟩ := WkAt.nextOf (W := wr.drew) HWK.out HRO.out (by omega) (by omega) hb
    have hre2 : RowAt (V.setCell ⟨gw, 2, none⟩ (.int .i64 ((k + 1 : Nat) : Int))) (w.heap.size + 1) 33 #[.int .i64 0, .int .i64 0] := ((show RowAt wr.drew _ _ _ from HRE.out).below hb (show RowAt wr.drew _ _ _ from HRE.out).lt).setOther _ _ (by show w.heap.size + 1 ≠ gw; omega)
    generalize V.setCell ⟨gw, 2, none⟩ (.int .i64 ((k + 1 : Nat) : Int)) = Y at *
    refine wpAnyH_ready (rs := [6]) (by kernel_rfl) (by simp) ?_
    refine AllReadyH.cons (o := _) rfl (fun K hK => ?_) AllReadyH.nil
    rw [if_pos (by rfl)]
    go_simp
    refine Calls.mono (HTU.out _) ?_
    rintro e Y ⟨rfl, rfl⟩
    refine hK.out _ _ (trivial) (fun hS1 => ?_)
    clear hK hS K
    have hS := hS1
    clear hS1
    refine vtake 7 40 (.pointer (some ⟨go, k, none⟩)) rfl rfl (by kernel_rfl) (by kernel_rfl) (by kernel_rfl) (fun _ _ _ _ h => h) (by rfl) (fun W hW => by clear hS hW; go_simp) hS ?_
    simp only [List.setIfInBounds_toArray, List.set_cons_succ, List.set_cons_zero]
    have hcell := HNG.out Y hro2
    have hfz := hro2.frozen k
    have HN : Hid (RowAt (Y.setCell ⟨go, k, none⟩ (.int .u8 (z.toNat : Nat))) go 5 (byts t.size (upTo (wrN D t.data.toList (k + 1)))) ∧ WkAt w (Y.setCell ⟨go, k, none⟩ (.int .u8 (z.toNat : Nat))) gw (.slice aw nw cw) (.slice ab nb cb) (k + 1) ∧ RowAt (Y.setCell ⟨go, k, none⟩ (.int .u8 (z.toNat : Nat))) (w.heap.size + 1) 33 #[.int .i64 0, .int .i64 0]) := by
      refine ⟨?_, ⟨hwk2.row.setOther _ _ (by show gw ≠ go; omega), hwk2.below.setCell (p := ⟨go, k, none⟩) (by show w.heap.size ≤ go; omega) _⟩, hre2.setOther _ _ (by show w.heap.size + 1 ≠ go; omega)⟩
      have h1 := row_next hro2 z
      rw [HLE.out k, ← HST.out] at h1
      exact h1
    refine wpAnyH_ready (rs := [8]) (by kernel_rfl) (by simp) ?_
    refine AllReadyH.cons (o := _) rfl (fun K hK => ?_) AllReadyH.nil
    rw [if_pos (by rfl)]
    go_simp
    refine hK.out _ _ (trivial) (fun hS1 => ?_)
    clear hK hS K
    have hS := hS1
    clear hS1
    refine wpAnyH_done (by kernel_rfl) ?_ _
    refine NoPanic.normal ?_
    clear hcell hfz hwk2 hro2 hre2 HCA HST HTU HWK HRO HRE HNG
    go_wp2_with fail
    go_roundw
    case rel => exact ⟨k + 1, HLT.out, by go_num, HN.out⟩
    case measure => have := HLT.out; simp [intOf]; omega
theorem ppi_write : PDWt 11 := fun v D t w hd => by
  have HW := fun W (hb : Below w.heap.size w W) => ppi_wrong v D W (hd.below hb)
  unfold dwS
  by_cases hg : dE D = 0
  · rw [hg] at HW
    have e : dwE D t.data.toList = ckE t.data.toList := by unfold dwE; rw [if_neg (fun h => h hg)]
    have e' : dwAt D t.data.toList = ckAt t.data.toList := by unfold dwAt; rw [if_neg (fun h => h hg)]
    rcases ck_cases t.data.toList with ⟨e1, e2, e3, e4⟩ | e1
    · rw [e, e', e1, e2, if_neg (by decide)]
      exact pwt_ok v D hg t (ls_of e4) (by rw [Pl.size_len]; exact e3) w hd (fun W => by have := check_all t W; rw [e1, e2] at this; exact this)
    · obtain ⟨a, b, rfl, _⟩ := hd
      rw [e, e', if_pos (by simpa using e1)]
      exact pwt_text a b t _ _ e1 w HW (fun W => check_all t W)
  · have e : dwE D t.data.toList = dE D := by unfold dwE; rw [if_pos hg]
    have e' : dwAt D t.data.toList = 0 := by unfold dwAt; rw [if_pos hg]
    obtain ⟨a, b, rfl, _⟩ := hd
    rw [e, e', if_pos hg]
    exact pwt_bad a b t _ (by simpa using hg) w HW
end Go.Proofs.Ytkangeheamknoaa
