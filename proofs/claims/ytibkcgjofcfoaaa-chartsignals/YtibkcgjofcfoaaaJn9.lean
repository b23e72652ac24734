/-
  Several texts, joined: ORKn, OAl.
-/
import Derived.Test.YtibkcgjofcfoaaaJn5
import Derived.Test.YtibkcgjofcfoaaaJn4
/-
  Contracts of the document's Spelt, Known and Mirror (chapter 8).
-/
namespace Go.Proofs.Ytibkcgjofcfoaaa
open Go.RowKit PK Vg

theorem o_decode (s : ByteArray) (pos : Nat) (hp : pos < s.size) (hl : Ls s.data.toList) : Utf8.decode s pos = ((s.data.toList.getD pos 0).toNat, 1) := by
  have hp' : pos < s.data.toList.length := by rw [← Pl.size_len]; exact hp
  rw [Pl.decode_eq, List.drop_eq_getElem_cons hp']
  have hm : s.data.toList[pos] ∈ s.data.toList := List.getElem_mem _
  have := hl _ hm
  rw [Pl.decL_low _ _ (by omega)]
  simp [List.getD, List.getElem?_eq_getElem hp']
/-- What a text of letters spells. -/
def spl (l : List UInt8) (i : Nat) : Int := if i < l.length then ((num (l.getD i 0) : Nat) : Int) else 0
structure SpAt (w W : World) (s : ByteArray) (pos : Nat) (f : Nat → Int) : Prop where
  r : RowAt W w.heap.size 25 (ints 26 fun _ => 0)
  o : RowAt W (w.heap.size + 1) 25 (ints 26 f)
  it : W.heap[w.heap.size + 1 + 1]? = some (.stringIter s pos)
  below : Below w.heap.size w W
set_option maxRecDepth 100000 in
set_option maxHeartbeats 1000000 in
theorem rspelt_any (s : ByteArray) (hl : Ls s.data.toList) (hs : s.size ≤ 26) (w : World) : Calls Try.prog 70 #[.string s] w fun e w' => e = .returned (.agg (ints 26 (spl s.data.toList))) ∧ Below w.heap.size w w' := by
  have hz26 := o_zero v_zero_perm
  have h0 := TuAt.new w
  have HL := (show Hid (Ls s.data.toList) from hl)
  have hslen := Pl.size_len s
  go_enter Try.func70, Try.ntmps70
  go_wp2_with fail
  clear hz26
  go_loopw [4] (fun _ W => ∃ pos : Nat, pos ≤ s.size ∧ SpAt w W s pos fun c => if c < pos then ((num (s.data.toList.getD c 0) : Nat) : Int) else 0) (fun _ W => s.size - W.iterPos (w.heap.size + 1 + 1))
  case atStart =>
    refine ⟨0, by omega, h0.r.alloc _, ?_, ?_, h0.below.alloc h0.below.size _⟩
    · have e : (ints 26 fun c => if c < 0 then ((num (s.data.toList.getD c 0) : Nat) : Int) else 0) = ints 26 fun _ => 0 := ints_ext fun c _ => by rw [if_neg (by omega)]
      rw [e]
      exact h0.o.alloc _
    · have := World.iter_heap ((w.alloc (.cells (ints 26 fun _ => 0) 25)).alloc (.cells (ints 26 fun _ => 0) 25)) s 0
      simp only [World.size_alloc] at this
      exact this
  case round =>
    clear h0
    obtain ⟨pos, hps, hg⟩ := hrel
    have hk := hg.it
    have hmu : Hid (wr.iterPos (w.heap.size + 1 + 1) = pos) := iterPos_of hk
    by_cases hp : pos < s.size
    · have hnext0 : ∀ ty, (Instr.next (.pointer (some ⟨w.heap.size + 1 + 1, 0, none⟩)) true ty).run Try.prog wr = _ := fun ty => Lib.run_next_any_at wr (w.heap.size + 1 + 1) s pos ty hk hp
      rw [o_decode s pos hp HL.out] at hnext0
      have hxl := HL.out.at (getD_size hp)
      have hnum := num_lt hxl
      have hbi : Below w.heap.size w (wr.iterAt (w.heap.size + 1 + 1) s (pos + 1)) := Lib.below_iterAt hg.below (by omega) s _
      have hk1 := Lib.iterAt_heap wr (w.heap.size + 1 + 1) s pos (pos + 1) hk
      have hr1 : RowAt (wr.iterAt (w.heap.size + 1 + 1) s (pos + 1)) w.heap.size 25 (ints 26 fun _ => 0) := (Lib.iterAt_other wr (w.heap.size + 1 + 1) w.heap.size s (pos + 1) (by omega)).trans hg.r
      have ho1 : RowAt (wr.iterAt (w.heap.size + 1 + 1) s (pos + 1)) (w.heap.size + 1) 25 (ints 26 fun c => if c < pos then ((num (s.data.toList.getD c 0) : Nat) : Int) else 0) := (Lib.iterAt_other wr (w.heap.size + 1 + 1) (w.heap.size + 1) s (pos + 1) (by omega)).trans hg.o
      have HNX : Hid (∀ i, i < 26 → upd (fun c => if c < pos then ((num (s.data.toList.getD c 0) : Nat) : Int) else 0) pos ((num (s.data.toList.getD pos 0) : Nat) : Int) i = if i < pos + 1 then ((num (s.data.toList.getD i 0) : Nat) : Int) else 0) := fun i _ => by
        unfold upd
        by_cases e : i = pos
        · rw [if_pos e, if_pos (by omega), e]
        · rw [if_neg e]
          show (if i < pos then ((num (s.data.toList.getD i 0) : Nat) : Int) else 0) = _
          by_cases e2 : i < pos
          · rw [if_pos e2, if_pos (by omega)]
          · rw [if_neg e2, if_neg (by omega)]
      have hp26 : pos < 26 := by omega
      have hck := ho1.cell (ints_get (fun c => if c < pos then ((num (s.data.toList.getD c 0) : Nat) : Int) else 0) hp26)
      have hfk := ho1.frozen pos
      generalize wr.iterAt (w.heap.size + 1 + 1) s (pos + 1) = Y at *
      clear hg hk
      have hx3 : (((s.data.toList.getD pos 0).toNat : Nat) : Int) - 65 = ((num (s.data.toList.getD pos 0) : Nat) : Int) := by unfold num; omega
      have HX3 := (show Hid _ from hx3)
      have hx1 : (65 : Int) ≤ ((s.data.toList.getD pos 0).toNat : Int) := by omega
      have hx2 : ((s.data.toList.getD pos 0).toNat : Int) ≤ 90 := by omega
      have hs2 := ho1.set pos (.int .i64 ((num (s.data.toList.getD pos 0) : Nat) : Int))
      rw [ints_set, ints_ext HNX.out] at hs2
      have HG : Hid (SpAt w (Y.setCell ⟨w.heap.size + 1, pos, none⟩ (.int .i64 ((num (s.data.toList.getD pos 0) : Nat) : Int))) s (pos + 1) fun c => if c < pos + 1 then ((num (s.data.toList.getD c 0) : Nat) : Int) else 0) := ⟨hr1.setOther _ _ (by simp), hs2, (heap_setCell_other Y ⟨w.heap.size + 1, pos, none⟩ (w.heap.size + 1 + 1) _ (by simp)).trans hk1, hbi.setCell (p := ⟨w.heap.size + 1, pos, none⟩) (by simp) _⟩
      clear hs2 hr1 ho1 hbi hk1
      generalize (s.data.toList.getD pos 0).toNat = x at *
      generalize num (s.data.toList.getD pos 0) = nx at *
      have hnext := hnext0
      clear hnext0
      go_wp2
      go_roundw
      case rel => exact ⟨pos + 1, by omega, HG.out⟩
      case measure => rw [hmu.out, iterPos_of HG.out.it]; omega
    · have hnext : ∀ ty, (Instr.next (.pointer (some ⟨w.heap.size + 1 + 1, 0, none⟩)) true ty).run Try.prog wr = _ := fun ty => Lib.run_next_end_at wr (w.heap.size + 1 + 1) s pos ty hk hp
      obtain rfl : pos = s.size := by omega
      have hr := hg.r
      have ho : RowAt wr (w.heap.size + 1) 25 (ints 26 (spl s.data.toList)) := by
        have := hg.o
        rw [hslen] at this
        exact this
      have hbe := hg.below
      clear hg hk
      go_wp2_with (first | refine wpList_load_row rfl 25 _ rfl (w.heap.size + 1) rfl 25 (ints 26 (spl s.data.toList)) (0, 0) _ ho Try.underlying25 rfl (by rw [ints_size]; exact info_perm) ?_ | refine wpList_store_row rfl 25 _ _ rfl w.heap.size (ints 26 (spl s.data.toList)) rfl rfl 25 _ hr (by rw [ints_size]; exact info_perm) (by simp only [ints_size]) (ints_one _ _) ?_)
      exact bodyPost_ret (v := .agg (ints 26 (spl s.data.toList))) (o_results1 Try.results70 _ _ _ _ _ _ _ rfl (hr.row _) Try.underlying25 rfl (by rw [ints_size]; exact info_perm)) rfl ⟨rfl, Below.setRow hbe _ (Nat.le_refl _) _⟩
def miB : List UInt8 := [89, 82, 85, 72, 81, 83, 76, 68, 80, 88, 78, 71, 79, 75, 77, 73, 69, 66, 70, 90, 67, 87, 86, 74, 65, 84]
def miC : List UInt8 := [70, 86, 80, 74, 73, 65, 79, 89, 69, 68, 82, 90, 88, 87, 71, 67, 84, 75, 85, 81, 83, 66, 78, 77, 72, 76]
/-- What Mirror says. -/
def miP (name : List UInt8) : Nat → Int := if name = [66] then spl miB else if name = [67] then spl miC else fun _ => 0
def miE (name : List UInt8) : Int := if name = [66] ∨ name = [67] then 0 else 7
theorem ls_dec {l : List UInt8} (h : (l.all fun c => decide (65 ≤ c.toNat ∧ c.toNat ≤ 90)) = true) : Ls l := fun c hc => by
  have := List.all_eq_true.1 h c hc
  simpa using this
theorem name_eq (A : List UInt8) (t : ByteArray) : (t.toList == A) = decide (t.data.toList = A) := by
  rw [ba_toList]
  by_cases h : t.data.toList = A
  · rw [decide_eq_true h, h]; simp
  · rw [decide_eq_false h]; exact beq_false_of_ne h
set_option maxRecDepth 100000 in
set_option maxHeartbeats 1000000 in
theorem rmirror_any (name : ByteArray) (w : World) : Calls Try.prog 46 #[.string name] w fun e w' => e = .returned (.tuple #[.agg (ints 26 (miP name.data.toList)), .int .i64 (miE name.data.toList)]) ∧ Below w.heap.size w w' := by
  have hz26 := o_zero v_zero_perm
  have hr0 := RowAt.new w 25 (ints 26 fun _ => 0)
  have hb0 : Below w.heap.size w (w.alloc (.cells (ints 26 fun _ => 0) 25)) := (Below.refl _ w).alloc (Nat.le_refl _) _
  have hB := (show Hid (∀ W, Calls Try.prog 70 #[.string ⟨#[89, 82, 85, 72, 81, 83, 76, 68, 80, 88, 78, 71, 79, 75, 77, 73, 69, 66, 70, 90, 67, 87, 86, 74, 65, 84]⟩] W fun e w' => e = .returned (.agg (ints 26 (spl miB))) ∧ Below W.heap.size W w') from fun W => rspelt_any ⟨miB.toArray⟩ (ls_dec (by decide)) (by decide) W)
  have hC := (show Hid (∀ W, Calls Try.prog 70 #[.string ⟨#[70, 86, 80, 74, 73, 65, 79, 89, 69, 68, 82, 90, 88, 87, 71, 67, 84, 75, 85, 81, 83, 66, 78, 77, 72, 76]⟩] W fun e w' => e = .returned (.agg (ints 26 (spl miC))) ∧ Below W.heap.size W w') from fun W => rspelt_any ⟨miC.toArray⟩ (ls_dec (by decide)) (by decide) W)
  have q1 := name_eq [66] name
  have q2 := name_eq [67] name
  by_cases h1 : name.data.toList = [66]
  · have HP : Hid (miP name.data.toList = spl miB) := by unfold miP; rw [Hid, if_pos h1]
    have HE : Hid (miE name.data.toList = 0) := by unfold miE; rw [Hid, if_pos (.inl h1)]
    rw [decide_eq_true h1] at q1
    clear h1 q2 hC
    go_enter Try.func46, Try.ntmps46
    go_wp2_with fail
    refine (hB.out _).mono ?_
    rintro e W1 ⟨rfl, hb⟩
    have hr1 := hr0.below hb hr0.lt
    have hb1 := hb0.trans (hb.mono hb0.size)
    clear hb hB hr0 hb0
    go_wp2_with (first | refine wpList_store_row rfl 25 _ _ rfl w.heap.size (ints 26 (spl miB)) rfl rfl 25 _ hr1 (by rw [ints_size]; exact info_perm) (by simp only [ints_size]) (ints_one _ _) ?_)
    exact bodyPost_ret (v := .tuple #[.agg (ints 26 (spl miB)), .int .i64 0]) (results_cell_tmp2 rfl _ _ w.heap.size 25 _ (0, 0) _ _ rfl rfl (hr1.row _) Try.underlying25 rfl (by rw [ints_size]; exact info_perm)) rfl ⟨by rw [HP.out, HE.out], Below.setRow hb1 _ (Nat.le_refl _) _⟩
  · rw [decide_eq_false h1] at q1
    by_cases h2 : name.data.toList = [67]
    · have HP : Hid (miP name.data.toList = spl miC) := by unfold miP; rw [Hid, if_neg h1, if_pos h2]
      have HE : Hid (miE name.data.toList = 0) := by unfold miE; rw [Hid, if_pos (.inr h2)]
      rw [decide_eq_true h2] at q2
      clear h1 h2 hB
      go_enter Try.func46, Try.ntmps46
      go_wp2_with fail
      refine (hC.out _).mono ?_
      rintro e W1 ⟨rfl, hb⟩
      have hr1 := hr0.below hb hr0.lt
      have hb1 := hb0.trans (hb.mono hb0.size)
      clear hb hC hr0 hb0
      go_wp2_with (first | refine wpList_store_row rfl 25 _ _ rfl w.heap.size (ints 26 (spl miC)) rfl rfl 25 _ hr1 (by rw [ints_size]; exact info_perm) (by simp only [ints_size]) (ints_one _ _) ?_)
      exact bodyPost_ret (v := .tuple #[.agg (ints 26 (spl miC)), .int .i64 0]) (results_cell_tmp2 rfl _ _ w.heap.size 25 _ (0, 0) _ _ rfl rfl (hr1.row _) Try.underlying25 rfl (by rw [ints_size]; exact info_perm)) rfl ⟨by rw [HP.out, HE.out], Below.setRow hb1 _ (Nat.le_refl _) _⟩
    · have HP : Hid (miP name.data.toList = fun _ => 0) := by unfold miP; rw [Hid, if_neg h1, if_neg h2]
      have HE : Hid (miE name.data.toList = 7) := by unfold miE; rw [Hid, if_neg (fun h => h.elim h1 h2)]
      rw [decide_eq_false h2] at q2
      clear h1 h2 hB hC
      have hr1 := hr0
      go_enter Try.func46, Try.ntmps46
      go_wp2_with (first | refine wpList_build0 rfl 25 rfl _ built_perm ?_ | refine wpList_store_row rfl 25 _ _ rfl w.heap.size (ints 26 fun _ => 0) rfl rfl 25 _ hr1 (by rw [ints_size]; exact info_perm) (by simp only [ints_size]) (ints_one _ _) ?_)
      exact bodyPost_ret (v := .tuple #[.agg (ints 26 fun _ => 0), .int .i64 7]) (results_cell_tmp2 rfl _ _ w.heap.size 25 _ (0, 0) _ _ rfl rfl (hr1.row _) Try.underlying25 rfl (by rw [ints_size]; exact info_perm)) rfl ⟨by rw [HP.out, HE.out], Below.setRow hb0 _ (Nat.le_refl _) _⟩
end Go.Proofs.Ytibkcgjofcfoaaa

/-
  The machine that alive asks: I, II, III, mirror B.
-/
namespace Go.Proofs.Ytibkcgjofcfoaaa
open Go.RowKit PK Vg

def kw1 : List UInt8 := [69, 75, 77, 70, 76, 71, 68, 81, 86, 90, 78, 84, 79, 87, 89, 72, 88, 85, 83, 80, 65, 73, 66, 82, 67, 74]
def kw2 : List UInt8 := [65, 74, 68, 75, 83, 73, 82, 85, 88, 66, 76, 72, 87, 84, 77, 67, 81, 71, 90, 78, 80, 89, 70, 86, 79, 69]
def kw3 : List UInt8 := [66, 68, 70, 72, 74, 76, 67, 80, 82, 84, 88, 86, 90, 78, 89, 69, 73, 87, 71, 65, 75, 77, 85, 83, 81, 79]
def kw4 : List UInt8 := [69, 83, 79, 86, 80, 90, 74, 65, 89, 81, 85, 73, 82, 72, 88, 76, 78, 70, 84, 71, 75, 68, 67, 77, 87, 66]
def kw5 : List UInt8 := [86, 90, 66, 82, 71, 73, 84, 89, 85, 80, 83, 68, 78, 72, 76, 88, 65, 87, 77, 74, 81, 79, 70, 69, 67, 75]
/-- What Known says of a name: what the letters go to, and the notch. -/
def knT : List (List UInt8 × List UInt8 × Nat) := [([73], kw1, 16), ([73, 73], kw2, 4), ([73, 73, 73], kw3, 21), ([73, 86], kw4, 9), ([86], kw5, 25)]
def knI (name : List UInt8) : Option (List UInt8 × List UInt8 × Nat) := knT.find? fun x => x.1 == name
def knW (name : List UInt8) : Nat → Int := match knI name with
  | some x => spl x.2.1
  | none => fun _ => 0
def knN (name : List UInt8) : List Nat := match knI name with
  | some x => [x.2.2]
  | none => []
def knE (name : List UInt8) : Int := match knI name with
  | some _ => 0
  | none => 7
def gAl : Gm := ⟨3, fun r => if r = 0 then spl kw1 else if r = 1 then spl kw2 else spl kw3, fun _ => 1, fun r _ => if r = 0 then 16 else if r = 1 then 4 else 21, 3, fun _ => 0, 3, fun _ => 0, spl miB, Pm.up fun i => i⟩
set_option maxRecDepth 100000 in
theorem al_gE : gE gAl = 0 := by decide +kernel
set_option maxRecDepth 100000 in
theorem al_wr : Om.wr (maOf gAl) (maOf gAl).st [65, 65, 65, 65, 65] = [66, 68, 90, 71, 79] := by decide +kernel
end Go.Proofs.Ytibkcgjofcfoaaa
