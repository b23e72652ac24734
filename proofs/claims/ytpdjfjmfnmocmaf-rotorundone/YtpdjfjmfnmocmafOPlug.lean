/-
  Contract of the law's plugged; a store into the midst of a machine.
-/
import Derived.Test.YtpdjfjmfnmocmafLOUnd
import Derived.Test.YtpdjfjmfnmocmafOSame
namespace Go.Proofs.Ytpdjfjmfnmocmaf
open Go.RowKit PK Vg

def setMany (c : Array Value) : Nat → List Value → Array Value
  | _, [] => c
  | o, v :: l => setMany (c.setIfInBounds o v) (o + 1) l
theorem row_setCells {T : TypeId} {g : Nat} : ∀ {l : List Value} {o : Nat} {w : World} {c : Array Value}, RowAt w g T c → RowAt (w.setCells g o l) g T (setMany c o l)
  | [], _, _, _, h => h
  | v :: l, o, _, _, h => row_setCells (l := l) (h.set o v)
theorem setMany_size : ∀ (l : List Value) (o : Nat) (c : Array Value), (setMany c o l).size = c.size
  | [], _, _ => rfl
  | v :: l, o, c => by show (setMany (c.setIfInBounds o v) (o + 1) l).size = _; rw [setMany_size]; simp
theorem setMany_get : ∀ (l : List Value) (o : Nat) (c : Array Value) (i : Nat), o + l.length ≤ c.size → (setMany c o l)[i]? = if o ≤ i ∧ i < o + l.length then l[i - o]? else c[i]?
  | [], o, c, i, _ => by show c[i]? = _; rw [if_neg (by rintro ⟨h1, h2⟩; simp at h2; omega)]
  | v :: l, o, c, i, h => by
    show (setMany (c.setIfInBounds o v) (o + 1) l)[i]? = _
    have h' : o + 1 + l.length ≤ c.size := by simp at h; omega
    rw [setMany_get l (o + 1) (c.setIfInBounds o v) i (by simpa using h')]
    by_cases e : i = o
    · subst e
      rw [if_neg (by omega), if_pos ⟨by omega, by simp⟩, Nat.sub_self]
      have hi : i < c.size := by simp at h; omega
      simp [hi]
    · by_cases e2 : o + 1 ≤ i ∧ i < o + 1 + l.length
      · rw [if_pos e2, if_pos ⟨by omega, by simp; omega⟩]
        rw [show i - o = (i - (o + 1)) + 1 by omega]
        simp
      · rw [if_neg e2, if_neg (by simp; omega), Array.getElem?_setIfInBounds_ne (by omega)]
theorem mac_plugs (a b c : Value) (rf pl pl2 : Nat → Int) : setMany (mac a b c rf pl) 29 (ints 26 pl2).toList = mac a b c rf pl2 := by
  apply Array.ext_getElem?
  intro i
  have hl : (ints 26 pl2).toList.length = 26 := by rw [Array.length_toList, ints_size]
  rw [setMany_get _ _ _ _ (by rw [hl, mac_size]; decide), hl]
  by_cases h : 29 ≤ i ∧ i < 29 + 26
  · rw [if_pos h, Array.getElem?_toList, ints_get _ (by omega)]
    obtain ⟨j, rfl⟩ : ∃ j, i = 29 + j := ⟨i - 29, by omega⟩
    rw [mac_pl _ _ _ _ _ (by omega), show 29 + j - 29 = j by omega]
  · rw [if_neg h]
    by_cases h2 : i < 29
    · have key : ∀ q : Nat → Int, (mac a b c rf q)[i]? = (#[a, b, c] ++ ints 26 rf)[i]? := fun q => by
        unfold mac
        rw [Array.getElem?_append, if_pos (by simp [ints_size]; omega)]
      rw [key, key]
    · rw [Array.getElem?_eq_none (by rw [mac_size]; omega), Array.getElem?_eq_none (by rw [mac_size]; omega)]
theorem below_setCells {B g : Nat} (hg : B ≤ g) : ∀ {l : List Value} {o : Nat} {w W : World}, Below B w W → Below B w (W.setCells g o l)
  | [], _, _, _, h => h
  | v :: l, o, _, _, h => below_setCells hg (l := l) (h.setCell (p := ⟨g, o, none⟩) hg v)
theorem row_setCells_other {T : TypeId} {g q : Nat} (hne : q ≠ g) : ∀ {l : List Value} {o : Nat} {w : World} {c : Array Value}, RowAt w q T c → RowAt (w.setCells g o l) q T c
  | [], _, _, _, h => h
  | v :: l, o, _, _, h => row_setCells_other hne (l := l) (h.setOther ⟨g, o, none⟩ v hne)
theorem there_row {w : World} {g : Nat} {T : TypeId} {c : Array Value} (h : RowAt w g T c) {o n : Nat} (hn : o + n ≤ c.size) : w.there g o n := fun j hj => by
  refine ⟨?_, h.frozen _⟩
  rw [h.cell (i := o + j) (v := c[o + j]'(by omega)) (by simp)]
  rfl
/-- What is held in plugged's loop. -/
structure PgAt (w W : World) (p : Nat → Nat) (gb : Nat) (t : ByteArray) (v9 : Value) (l : List UInt8) : Prop where
  row : RowAt W w.heap.size 25 (ints 26 (Pm.up p))
  below : Below w.heap.size w W
  gb1 : w.heap.size < gb
  cells : ∀ k (hk : k < t.size), W.cell? ⟨gb, k, none⟩ = some (.int .u8 t[k].toNat)
  gb2 : gb < W.heap.size
  own : Kit.Owns W (gb + 1) 5 v9 l
theorem plug_take (p : Nat → Nat) {l : List UInt8} {k : Nat} (hk : k < l.length) : Om.plug p (l.take (k + 1)) = Om.plug p (l.take k) ++ [ltr (p (num (l.getD k 0)))] := by
  unfold Om.plug
  rw [List.take_succ_eq_append_getElem hk, List.map_append, getD_some hk]
  rfl
set_option maxRecDepth 100000 in
set_option maxHeartbeats 4000000 in
theorem plugged_any (p : Nat → Nat) (hp : ∀ c, c < 26 → p c < 26) (t : ByteArray) (ht : Ls t.data.toList) (hs : t.size ≤ 65536) (w : World) : Calls Try.prog 9 #[.agg (ints 26 (Pm.up p)), .string t] w fun e w' => e = .returned (.string ⟨(Om.plug p t.data.toList).toArray⟩) ∧ Below w.heap.size w w' := by
  obtain ⟨i0, hi0, hz0, hz1, hz2⟩ := x_info_parts v_info_byte
  have HP := (show Hid (∀ c, c < 26 → p c < 26) from hp)
  have hcv := fun w => Lib.run_convert_string_bytes (P := Try.prog) w 9 34 5 t Try.underlying9 Try.underlying34 Try.underlying5
  have hr0 := RowAt.new w 25 (ints 26 (Pm.up p))
  have hb0 : Below w.heap.size w (w.alloc (.cells (ints 26 (Pm.up p)) 25)) := (Below.refl _ w).alloc (Nat.le_refl _) _
  go_enter Try.func9, Try.ntmps9
  go_upto_region 2 with fail
  obtain ⟨V, hV⟩ : ∃ V, V = w.alloc (.cells (ints 26 (Pm.up p)) 25) := ⟨_, rfl⟩
  rw [← hV] at hr0 hb0 ⊢
  clear hV
  have hbB : Below V.heap.size V (Lib.bytesWorld V 5 t) := below_bytes V (Nat.le_refl _) 5 t
  have hsz := Lib.bytesWorld_size V 5 t
  have hg0 : PgAt w (Lib.bytesWorld V 5 t) p V.heap.size t (.slice none 0 0) (Om.plug p (t.data.toList.take 0)) := ⟨hr0.below hbB hr0.lt, hb0.trans (hbB.mono hb0.size), hr0.lt, fun k hk => bytes_cell V 5 t k hk, by omega, Kit.Owns.nil _ _ _⟩
  clear hbB hsz hr0 hb0
  go_wp2_with fail
  generalize Lib.bytesWorld V 5 t = V2 at *
  obtain ⟨gb, hgb⟩ : ∃ gb, gb = V.heap.size := ⟨_, rfl⟩
  rw [← hgb] at hg0 ⊢
  clear hgb hcv
  go_loopw [11, 5] (fun i y W => ∃ (k : Nat) (v9 : Value), k ≤ t.size ∧ i = .int .i64 (k : Nat) ∧ v9 = y ∧ PgAt w W p gb t v9 (Om.plug p (t.data.toList.take k))) (fun i _ _ => ((t.size : Int) - intOf i).toNat)
  case atStart => exact ⟨0, _, by omega, rfl, rfl, hg0⟩
  case round =>
    clear hg0
    obtain ⟨k, v9, hk, rfl, rfl, hg⟩ := hrel
    by_cases hlt : k < t.size
    · have hlt2 : (k : Int) < (t.size : Int) := by omega
      have hcell := hg.cells k hlt
      have hxl := ht.at (getD_size hlt)
      have hnum := num_lt hxl
      have hby : t[k] = t.data.toList.getD k 0 := (getD_byte t k hlt).symm
      rw [hby] at hcell
      have HWT := (show Hid _ from plug_take p (getD_size hlt))
      have HLL : Hid ((Om.plug p (t.data.toList.take k)).length ≤ k) := by rw [Hid]; unfold Om.plug; rw [List.length_map, List.length_take]; omega
      generalize t.data.toList.getD k 0 = x at *
      have hx1 : (65 : Int) ≤ x.toNat := by omega
      have hx2 : (x.toNat : Int) ≤ 90 := by omega
      have hx3 : (x.toNat : Int) - 65 = ((num x : Nat) : Int) := by unfold num; omega
      have hcp := hg.row.cell (ints_get (Pm.up p) hnum)
      have HUP : Hid (Pm.up p (num x) = ((p (num x) : Nat) : Int)) := rfl
      rw [HUP.out] at hcp
      obtain ⟨z, hz⟩ : ∃ z, z = p (num x) := ⟨_, rfl⟩
      have hz26 := HP.out _ hnum
      rw [← hz] at hcp HWT hz26
      have hzw : IntKind.u8.wrap (65 + (z : Int)) = ((ltr z).toNat : Int) := by rw [ltr_toNat hz26]; rw [show (65 : Int) + (z : Int) = ((65 + z : Nat) : Int) by omega]; simp [IntKind.wrap, IntKind.bits, IntKind.signed]; omega
      have hlt4 := hg.gb2
      clear hby hxl hz HUP
      generalize num x = nx at *
      go_wp2_with (first | (at_builtin; refine wpList_append_own _ rfl _ _ 34 rfl (gb + 1) 5 i0 (.int .u8 0) 1 1 Try.underlying34 hi0 hz0 hz1 hz2 rfl (by decide) _ _ _ rfl (World.ownsRow.alloc hg.own _) ⟨wr.heap.size, 0, none⟩ 1 1 [.int .u8 ((ltr z).toNat : Int)] rfl rfl (cell_one_new _ _ _) (fun u hu => by simp at hu; subst hu; rfl) (by have := HLL.out; unfold maxLen; omega) (by have := HLL.out; omega) (by simp; omega) ?_; intro v5 w5 hown5 hgrow5 _))
      have HG4 : PgAt w w5 p gb t v5 (Om.plug p (t.data.toList.take (k + 1))) := by
        have hq := hg.gb1
        have hne : ∀ q, q ≤ gb → some q ≠ v9.ownBlock := fun q hq e => by have := (World.ownsRow.lt hg.own q e.symm).1; omega
        refine ⟨(hgrow5.block w.heap.size (by simp; omega) (hne _ (by omega))).trans (hg.row.alloc _), (hg.below.alloc hg.below.size _).grown hgrow5 (by simp; omega) (fun q hq => by have := (World.ownsRow.lt hg.own q hq).1; omega), hg.gb1, fun j hj => ?_, ?_, ?_⟩
        · have h1 := hg.cells j hj
          have h2 : (wr.alloc (.cells #[.int .u8 ((ltr z).toNat : Int)] 5)).cell? ⟨gb, j, none⟩ = some (.int .u8 t[j].toNat) := by rw [← h1]; exact World.cell?_alloc_lt _ _ _ hg.gb2
          exact hgrow5.cell h2 (hne gb (Nat.le_refl _))
        · have := hgrow5.size
          simp at this
          omega
        · rw [HWT.out]
          unfold Kit.Owns
          rw [← v_cells_byte, List.length_append]
          exact hown5
      clear hg hown5 hgrow5
      go_roundw
      case rel => exact ⟨k + 1, v5, by omega, by go_num, rfl, HG4⟩
      case measure => simp [intOf]; omega
    · obtain rfl : k = t.size := by omega
      have hnlt : ¬ (t.size : Int) < (t.size : Int) := by omega
      have hown := hg.own
      rw [Pl.size_len, List.take_length] at hown
      have hst := Kit.run_string_of_own (P := Try.prog) wr 34 9 5 Try.underlying34 Try.underlying5 Try.underlying9 hown
      have hbe := hg.below
      clear hown hg
      go_wp2
      go_ret
      exact ⟨rfl, hbe⟩
end Go.Proofs.Ytpdjfjmfnmocmaf
