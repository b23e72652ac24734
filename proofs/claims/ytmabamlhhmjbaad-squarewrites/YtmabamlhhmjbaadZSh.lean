/-
  Contract of square.sheetOf.
-/
import Derived.Test.YtmabamlhhmjbaadZPl
namespace Go.Proofs.Ytmabamlhhmjbaad
open Go.RowKit PK Vg Zq

theorem run_zero {P : Program} {t : TypeId} {z : Value} (h : (P.info? t).map (·.zero) = some (some z)) (w : World) : (zeroValue t).run P w = .ok z w := by
  cases hi : P.info? t with
  | none => simp [hi] at h
  | some i =>
    have h2 : i.zero = some z := by simpa [hi] using h
    simp [zeroValue, typeInfo, hi, h2]
theorem v_zero_sheet : (Try.prog.info? 66).map (·.zero) = some (some (.agg (shV []))) := by kernel_rfl
theorem v_size_sheet : (Try.prog.info? 66).map (·.size) = some 77 := by kernel_rfl
theorem cat_abc (key : ByteArray) : (key ++ (⟨#[65, 66, 67, 68, 69, 70, 71, 72, 73, 74, 75, 76, 77, 78, 79, 80, 81, 82, 83, 84, 85, 86, 87, 88, 89, 90]⟩ : ByteArray)).data.toList = key.data.toList ++ alpha26 := cat_list _ _
/-- The variables of the call, the bytes it goes through. -/
structure ShAt (w W : World) (B : ByteArray) (L : List UInt8) : Prop where
  res : RowAt W w.heap.size 66 (shV [])
  sheet : RowAt W (w.heap.size + 1) 66 (shV L)
  known : RowAt W (w.heap.size + 1 + 1) 75 (bools 26 (knF L))
  plain : PlainAt W (w.heap.size + 1 + 1 + 1) B
  below : Below w.heap.size w W
theorem shV_one (L : List UInt8) : (shV L).all (·.oneCell') = true := by
  rw [Array.all_eq_true_iff_forall_mem]
  intro v hv
  simp [shV, tab] at hv
  obtain ⟨i, _, rfl⟩ := hv
  unfold shF
  split
  · rfl
  · split <;> rfl
theorem shV_some (L : List UInt8) {i : Nat} (h : i < 77) : ∃ v, (shV L)[i]? = some v := ⟨_, tab_get _ h⟩
theorem results_cell1 {P : Program} {fn : Func} {p : Tmp} {ty : TypeId} (h : fn.results = #[.cell p ty]) (tmps : Array Value) (w : World) (g : Nat) (t : TypeId) (cs : Array Value) (fr : Nat × Nat) (d : TypeDesc)
    (hp : tmps.getD p undef = .pointer (some ⟨g, 0, none⟩)) (hg : w.heap[g]? = some (.cells cs t fr))
    (hu : P.underlying ty = some d) (hd : (match d with | .struct _ | .array _ _ => true | _ => false) = true) (hi : (P.info? ty).map (·.size) = some cs.size) :
    (results fn tmps).run P w = .ok (.agg cs) w := by
  have hp' : tmps[p]?.getD undef = .pointer (some ⟨g, 0, none⟩) := by simpa using hp
  simp [results, h, hp', asAddr, run_loadVar_row w g t ty cs fr d hg hu hd hi]
/-- One more letter is laid: what the stores find, and what they leave. -/
theorem ShAt.next {w W : World} {B : ByteArray} {L : List UInt8} (h : ShAt w W B L) {c : UInt8} (hc : 65 ≤ c.toNat ∧ c.toNat ≤ 90) (hn : c ∉ L) (hl : L.length < 25) (W1 W2 W3 W4 : World)
    (e1 : W1 = W.setCell ⟨w.heap.size + 1 + 1, num c, none⟩ (.bool true)) (e2 : W2 = W1.setCell ⟨w.heap.size + 1, L.length / 5 * 5 + L.length % 5, none⟩ (.int .u8 c.toNat))
    (e3 : W3 = W2.setCell ⟨w.heap.size + 1, 25 + num c * 2, none⟩ (.int .i64 ((L.length : Int) / 5))) (e4 : W4 = W3.setCell ⟨w.heap.size + 1, 25 + num c * 2 + 1, none⟩ (.int .i64 ((L.length : Int) % 5))) :
    ((∃ v, W1.cell? ⟨w.heap.size + 1, L.length / 5 * 5 + L.length % 5, none⟩ = some v) ∧ W1.frozen? ⟨w.heap.size + 1, L.length / 5 * 5 + L.length % 5, none⟩ = false) ∧
    ((∃ v, W2.cell? ⟨w.heap.size + 1, 25 + num c * 2, none⟩ = some v) ∧ W2.frozen? ⟨w.heap.size + 1, 25 + num c * 2, none⟩ = false) ∧
    ((∃ v, W3.cell? ⟨w.heap.size + 1, 25 + num c * 2 + 1, none⟩ = some v) ∧ W3.frozen? ⟨w.heap.size + 1, 25 + num c * 2 + 1, none⟩ = false) ∧ ShAt w W4 B (L ++ [c]) := by
  have hnc := num_lt hc
  have el : L.length / 5 * 5 + L.length % 5 = L.length := by omega
  have er : 25 + num c * 2 = 25 + 2 * num c := by omega
  have r1 : RowAt W1 (w.heap.size + 1) 66 (shV L) := by rw [e1]; exact h.sheet.setOther _ _ (by simp)
  have r2 := r1.set (L.length / 5 * 5 + L.length % 5) (.int .u8 c.toNat)
  rw [← e2] at r2
  have r3 := r2.set (25 + num c * 2) (.int .i64 ((L.length : Int) / 5))
  rw [← e3] at r3
  have r4 := r3.set (25 + num c * 2 + 1) (.int .i64 ((L.length : Int) % 5))
  rw [← e4] at r4
  have g2 : ∀ i, i < 77 → ∃ v, ((shV L).setIfInBounds (L.length / 5 * 5 + L.length % 5) (.int .u8 c.toNat))[i]? = some v := fun i hi => ⟨_, Array.getElem?_eq_getElem (by rw [Array.size_setIfInBounds, shV_size]; exact hi)⟩
  have g3 : ∀ i, i < 77 → ∃ v, (((shV L).setIfInBounds (L.length / 5 * 5 + L.length % 5) (.int .u8 c.toNat)).setIfInBounds (25 + num c * 2) (.int .i64 ((L.length : Int) / 5)))[i]? = some v := fun i hi => ⟨_, Array.getElem?_eq_getElem (by rw [Array.size_setIfInBounds, Array.size_setIfInBounds, shV_size]; exact hi)⟩
  refine ⟨⟨?_, r1.frozen _⟩, ⟨?_, r2.frozen _⟩, ⟨?_, r3.frozen _⟩, ?_⟩
  · obtain ⟨v, hv⟩ := shV_some L (i := L.length / 5 * 5 + L.length % 5) (by omega)
    exact ⟨v, r1.cell hv⟩
  · obtain ⟨v, hv⟩ := g2 (25 + num c * 2) (by omega)
    exact ⟨v, r2.cell hv⟩
  · obtain ⟨v, hv⟩ := g3 (25 + num c * 2 + 1) (by omega)
    exact ⟨v, r3.cell hv⟩
  · refine ⟨?_, ?_, ?_, ?_, ?_⟩
    · rw [e4, e3, e2, e1]
      exact (((h.res.setOther _ _ (by simp; omega)).setOther _ _ (by simp)).setOther _ _ (by simp)).setOther _ _ (by simp)
    · have hs := shV_step hc hn hl
      rw [el, er] at r4
      rw [← hs]
      exact r4
    · have hk := h.known.set (num c) (.bool true)
      rw [bools_set, ← kn_step hc, ← e1] at hk
      rw [e4, e3, e2]
      exact ((hk.setOther _ _ (by simp)).setOther _ _ (by simp)).setOther _ _ (by simp)
    · rw [e4, e3, e2, e1]
      exact (((h.plain.setCell _ _ (by simp)).setCell _ _ (by simp; omega)).setCell _ _ (by simp; omega)).setCell _ _ (by simp; omega)
    · rw [e4, e3, e2, e1]
      exact (((h.below.setCell (by simp; omega) _).setCell (by simp) _).setCell (by simp) _).setCell (by simp) _
theorem sheet_start (w : World) (B : ByteArray) : ShAt w (Lib.bytesWorld (((w.alloc (.cells (shV []) 66)).alloc (.cells (shV []) 66)).alloc (.cells (bools 26 fun _ => false) 75)) 5 B) B [] := by
  have hb := bytes_below (((w.alloc (.cells (shV []) 66)).alloc (.cells (shV []) 66)).alloc (.cells (bools 26 fun _ => false) 75)) 5 B
  have hp := bytes_plain (((w.alloc (.cells (shV []) 66)).alloc (.cells (shV []) 66)).alloc (.cells (bools 26 fun _ => false) 75)) 5 B
  have h1 : RowAt (((w.alloc (.cells (shV []) 66)).alloc (.cells (shV []) 66)).alloc (.cells (bools 26 fun _ => false) 75)) w.heap.size 66 (shV []) := ((RowAt.new w _ _).alloc _).alloc _
  have h2 := (RowAt.new (w.alloc (.cells (shV []) 66)) 66 (shV [])).alloc (.cells (bools 26 fun _ => false) 75)
  have h3 := RowAt.new ((w.alloc (.cells (shV []) 66)).alloc (.cells (shV []) 66)) 75 (bools 26 fun _ => false)
  simp only [World.size_alloc] at h2 h3 hp hb
  have e : (bools 26 fun _ => false) = bools 26 (knF []) := bools_ext fun i _ => by simp [knF]
  refine ⟨h1.below (by simpa using hb) (by omega), h2.below hb (by omega), ?_, hp, ?_⟩
  · rw [← e]; exact h3.below hb (by omega)
  · refine Below.trans ?_ (hb.mono (by omega))
    exact (((Below.refl _ w).alloc (Nat.le_refl _) _).alloc (by simp only [World.size_alloc]; omega) _).alloc (by simp only [World.size_alloc]; omega) _
set_option maxRecDepth 100000 in
set_option maxHeartbeats 4000000 in
theorem sheet_any (key : ByteArray) (hs : key.size ≤ 65536) (hk : Ls key.data.toList) (w : World) : Calls Try.prog 37 #[.string key] w fun e w' => e = .returned (.agg (shV (laid key.data.toList))) ∧ Below w.heap.size w w' := by
  have hz66 := run_zero v_zero_sheet
  obtain ⟨B, hB⟩ : ∃ B : ByteArray, B = key ++ (⟨#[65, 66, 67, 68, 69, 70, 71, 72, 73, 74, 75, 76, 77, 78, 79, 80, 81, 82, 83, 84, 85, 86, 87, 88, 89, 90]⟩ : ByteArray) := ⟨_, rfl⟩
  have hcv := fun w => Lib.run_convert_string_bytes (P := Try.prog) w 9 43 5 B Try.underlying9 Try.underlying43 Try.underlying5
  have hBl : B.data.toList = key.data.toList ++ alpha26 := by rw [hB]; exact cat_abc key
  have hBs : B.size = key.size + 26 := by rw [hB, cat_size]; rfl
  have HL : Hid (Ls B.data.toList) := by rw [hBl]; exact ls_append hk alpha26_ls
  have HLA : Hid (lay B.data.toList B.size = laid key.data.toList) := by rw [Pl.size_len, Hid, lay_all, hBl, laid26]
  have HB : Hid (B = key ++ (⟨#[65, 66, 67, 68, 69, 70, 71, 72, 73, 74, 75, 76, 77, 78, 79, 80, 81, 82, 83, 84, 85, 86, 87, 88, 89, 90]⟩ : ByteArray)) := hB
  have hBs2 : B.size ≤ 65562 := by omega
  clear hB hBl hBs
  go_enter Try.func37, Try.ntmps37
  go_wp2_with (first | (refine wpList_cat rfl _ _ _ _ rfl _ _ rfl rfl (by show key.size + 26 ≤ _; omega) ?_; rw [← HB.out]))
  rw [none26]
  obtain ⟨V, hV⟩ : ∃ V, V = Lib.bytesWorld (((w.alloc (.cells (shV []) 66)).alloc (.cells (shV []) 66)).alloc (.cells (bools 26 fun _ => false) 75)) 5 B := ⟨_, rfl⟩
  have hv := sheet_start w B
  rw [← hV] at hv
  rw [← hV]
  clear hV hcv hz66
  go_loopw [5, 12] (fun n i W => ∃ m : Nat, m ≤ B.size ∧ i = .int .i64 m ∧ n = .int .i64 ((lay B.data.toList m).length : Nat) ∧ ShAt w W B (lay B.data.toList m)) (fun _ i _ => ((B.size : Int) - intOf i).toNat)
  case atStart => exact ⟨0, by omega, rfl, rfl, hv⟩
  case round =>
    clear hv
    obtain ⟨m, hm, rfl, rfl, hA⟩ := hrel
    by_cases hlt : m < B.size
    · have hlt2 : (m : Int) < (B.size : Int) := by omega
      have hcl := HL.out.at (getD_size hlt)
      have hjl := jI_ok hcl
      have hnl := num_lt hjl.1
      have hpm := hA.plain m hlt
      have hcn := hA.known.cell (bools_get (knF (lay B.data.toList m)) hnl)
      have HW := (show Hid (∀ W, Calls Try.prog 39 #[.int .u8 (B.data.toList.getD m 0).toNat] W fun e w' => e = .returned (.int .u8 (jI (B.data.toList.getD m 0)).toNat) ∧ W = w') from written_any _)
      have HN := (show Hid (∀ W, Calls Try.prog 50 #[.int .u8 (jI (B.data.toList.getD m 0)).toNat] W fun e w' => e = .returned (.int .i64 (num (jI (B.data.toList.getD m 0)) : Nat)) ∧ W = w') from number_any _ hjl.1)
      have HST := (show Hid (lay B.data.toList (m + 1) = addN (lay B.data.toList m) (jI (B.data.toList.getD m 0))) from lay_succ _ (getD_size hlt))
      have HLT := (show Hid (jI (B.data.toList.getD m 0) ∉ lay B.data.toList m → (lay B.data.toList m).length < 25) from lay_lt HL.out (getD_size hlt))
      generalize B.data.toList.getD m 0 = b at *
      generalize jI b = c at *
      by_cases hin : c ∈ lay B.data.toList m
      · have hkn : knF (lay B.data.toList m) (num c) = true := by unfold knF; rw [ltr_num hjl.1]; simpa using hin
        have HIN : Hid (c ∈ lay B.data.toList m) := hin
        rw [hkn] at hcn
        clear hin hkn
        go_wp2_with (first | (go_at_call 39; refine (HW.out _).mono ?_; rintro e W1 ⟨rfl, rfl⟩) | (go_at_call 50; refine (HN.out _).mono ?_; rintro e W1 ⟨rfl, rfl⟩))
        go_roundw
        case rel =>
          have HE : lay B.data.toList (m + 1) = lay B.data.toList m := by rw [HST.out, addN_in HIN.out]
          exact ⟨m + 1, by omega, by go_num, by rw [HE], by rw [HE]; exact hA⟩
        case measure => simp [intOf]; omega
      · have hkn : knF (lay B.data.toList m) (num c) = false := by unfold knF; rw [ltr_num hjl.1]; simpa using hin
        have HE : Hid (lay B.data.toList (m + 1) = lay B.data.toList m ++ [c]) := by rw [Hid, HST.out, addN_out hin]
        have HIN : Hid (c ∉ lay B.data.toList m) := hin
        have hl25 := HLT.out hin
        rw [hkn] at hcn
        clear hin hkn HST
        generalize lay B.data.toList m = L at *
        have hfk := hA.known.frozen (num c)
        have a1 : L.length / 5 < 5 := by omega
        have a2 : L.length % 5 < 5 := by omega
        obtain ⟨⟨⟨x1, c1⟩, f1⟩, ⟨⟨x2, c2⟩, f2⟩, ⟨⟨x3, c3⟩, f3⟩, hnx⟩ := hA.next hjl.1 HIN.out hl25 _ _ _ _ rfl rfl rfl rfl
        have HNX : Hid (_) := hnx
        clear hnx hA
        go_wp2_with (first | (go_at_call 39; refine (HW.out _).mono ?_; rintro e W1 ⟨rfl, rfl⟩) | (go_at_call 50; refine (HN.out _).mono ?_; rintro e W1 ⟨rfl, rfl⟩))
        go_roundw
        case rel => exact ⟨m + 1, by omega, by go_num, by rw [HE.out, List.length_append]; go_num, by rw [HE.out]; exact HNX.out⟩
        case measure => simp [intOf]; omega
    · obtain rfl : m = B.size := by omega
      rw [HLA.out] at hA
      have hres := hA.res
      have hsh := hA.sheet
      have hbe := hA.below
      clear hA
      go_wp2_with (first | refine wpList_load_row rfl 66 _ rfl (w.heap.size + 1) rfl 66 (shV (laid key.data.toList)) (0, 0) _ hsh Try.underlying66 rfl (by rw [shV_size]; exact v_size_sheet) ?_ | refine wpList_store_row rfl 66 _ _ rfl w.heap.size (shV (laid key.data.toList)) rfl rfl 66 _ hres (by rw [shV_size]; exact v_size_sheet) (by rw [shV_size, shV_size]) (shV_one _) ?_)
      refine bodyPost_ret (v := .agg (shV (laid key.data.toList))) (results_cell1 Try.results37 _ _ _ _ _ _ _ rfl (hres.row _) Try.underlying66 rfl (by rw [shV_size]; exact v_size_sheet)) rfl ⟨rfl, ?_⟩
      exact Below.setRow hbe _ (Nat.le_refl _) _
end Go.Proofs.Ytmabamlhhmjbaad
