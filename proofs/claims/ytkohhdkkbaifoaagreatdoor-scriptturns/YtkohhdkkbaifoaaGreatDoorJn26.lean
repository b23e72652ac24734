/-
  Several texts, joined: PrA, PrB, PrC, LdT, PrD, PrE.
-/
import Derived.Test.YtkohhdkkbaifoaaGreatDoorJn25
import Derived.Shelf.Strconv.Itoa3
import Derived.Shelf.Strings.OnBuilder
import Derived.Shelf.Lay
import Derived.Ground.NamesProg
import Derived.Lib.Agree
import Derived.Test.YtkohhdkkbaifoaaGreatDoorJn23
import Derived.Test.YtkohhdkkbaifoaaGreatDoorJn24
import Derived.Shelf.Slices.Equal
import Derived.Shelf.Slices.Empties2
import Derived.Test.YtkohhdkkbaifoaaGreatDoorJn22
import Derived.Test.YtkohhdkkbaifoaaGreatDoorJn19
import Derived.Test.YtkohhdkkbaifoaaGreatDoorJn14
/-
  For script.Print: strconv.Itoa and strings.Join out of the shelf; nameOf.
-/
namespace Go.Proofs.YtkohhdkkbaifoaaGreatDoor
open Go.Shelf Go.RowKit PK

shelf_lay Lays.n171 Nm 171 at Tryz as Tryz.laysItoa
theorem fItoa : Tryz.laysItoa_ren.f 171 = 98 := by kernel_rfl
theorem itoa_any (i : Nat) (hi : i < 100) (w : World) : Calls Tryz.prog 98 #[.int .i64 (i : Nat)] w fun e w' => e = .returned (.string ⟨(Lib.decDigits i).toArray⟩) ∧ w' = w := by
  have h := Any.strconv_Itoa_small Tryz.laysItoa i hi w
  rw [fItoa] at h
  exact h
shelf_lay Lays.n156 Nm 156 at Tryz as Tryz.laysJoin
theorem extraJoin : Builder.Extra Tryz.prog Tryz.laysJoin_ren where
  sizeBuilder := by kernel_rfl
  liesBuilder := by kernel_rfl
  t5 := by kernel_rfl
  a5 := fun _ => by kernel_rfl
  z5 := fun _ => by kernel_rfl
  v5 := fun _ => by kernel_rfl
  infoByte := by kernel_rfl
  cellsByte := by kernel_rfl
  sizeByte := by kernel_rfl
  neB5 := by decide
theorem fJoin : Tryz.laysJoin_ren.f 156 = 49 := by kernel_rfl
theorem join_any (bk o c : Nat) (xs : List ByteArray) (sep : ByteArray) (w : World) (hcells : ∀ (j : Nat) x, xs[j]? = some x → w.cell? ⟨bk, o + j, none⟩ = some (.string x)) (hbk : bk < w.heap.size) (hN : xs.length ≤ 140737488355328) (hcap : xs.length ≤ c) (hlen : (Lib.join (xs.map (·.data.toList)) sep.data.toList).length ≤ 140737488355328) :
    Calls Tryz.prog 49 #[.slice (some ⟨bk, o, none⟩) xs.length c, .string sep] w fun e w' => e = .returned (.string ⟨(Lib.join (xs.map (·.data.toList)) sep.data.toList).toArray⟩) ∧ Below w.heap.size w w' := by
  have h := Any.strings_Join Tryz.laysJoin extraJoin bk o c xs sep w hcells hbk hN hcap hlen
  rw [fJoin] at h
  exact h
/-- With which word a step begins. -/
def nmO (s : Sp) : ByteArray := if s.k = 2 then tbN s.n.toNat else nmN s.k.toNat
set_option maxRecDepth 100000 in
set_option maxHeartbeats 1000000 in
theorem nameOf_any (s : Sp) (hs : stE s = 0) (CS : Array Value) (w : World) (hc : SqAt w (.agg CS) s) (hn : NmAt w) : Calls Tryz.prog 97 #[.agg CS] w fun e w' => e = .returned (.string (nmO s)) ∧ Below w.heap.size w w' := by
  obtain ⟨mv, a, b, c, h1, -⟩ := hc
  have hCS := Value.agg.inj h1
  clear h1
  have hb1 : Below w.heap.size w (w.alloc (.cells CS 31)) := (Below.refl _ w).alloc (Nat.le_refl _) _
  have hr := RowAt.new w 31 CS
  have c0 : (w.alloc (.cells CS 31)).cell? ⟨w.heap.size, 0, none⟩ = some (.int .i64 s.k) := RowAt.cell hr (by rw [hCS]; exact spA_0 _ _ _ _ _ _ _ _ _)
  have c1 : (w.alloc (.cells CS 31)).cell? ⟨w.heap.size, 1, none⟩ = some (.int .i64 s.n) := RowAt.cell hr (by rw [hCS]; exact spA_1 _ _ _ _ _ _ _ _ _)
  have hk := st_kinds hs
  have hn1 := hn.below hb1
  have HB : Hid _ := hb1
  by_cases h2 : s.k = 2
  · obtain ⟨⟨n1, n2⟩, _⟩ := st_tab hs h2
    have HO : Hid (nmO s = tbN s.n.toNat) := by rw [Hid]; unfold nmO; rw [if_pos h2]
    have ct : (w.alloc (.cells CS 31)).cell? ⟨0, s.n.toNat, none⟩ = some (.string (tbN s.n.toNat)) := by
      have := hn1.tb s.n.toNat (.string (tbN s.n.toNat)) (by unfold tbA; rw [Array.getElem?_toList, tab_get _ (by omega)])
      rw [Nat.zero_add] at this
      exact this
    rw [h2] at c0
    obtain ⟨m, hm⟩ : ∃ m : Nat, s.n = m := ⟨s.n.toNat, by omega⟩
    rw [hm] at c1 ct n1 n2 HO
    rw [Int.toNat_natCast] at ct HO
    generalize nmO s = NO at *
    clear hk hs hCS hr hn hn1 h2 hb1 hm
    go_enter Tryz.func97, Tryz.ntmps97
    go_wp2
    go_ret
    exact ⟨by rw [HO.out]; rfl, HB.out⟩
  · have HO : Hid (nmO s = nmN s.k.toNat) := by rw [Hid]; unfold nmO; rw [if_neg h2]
    obtain ⟨m, hm⟩ : ∃ m : Nat, s.k = m := ⟨s.k.toNat, by omega⟩
    have hm7 : m < 7 := by omega
    have ct : (w.alloc (.cells CS 31)).cell? ⟨1, m, none⟩ = some (.string (nmN m)) := by
      have := hn1.kn m (.string (nmN m)) (by unfold nmA; rw [Array.getElem?_toList, tab_get _ hm7])
      rw [Nat.zero_add] at this
      exact this
    have hb2 : ((m : Int) == 2) = false := beq_false_of_ne (by omega)
    rw [hm] at c0 HO
    rw [Int.toNat_natCast] at HO
    generalize nmO s = NO at *
    have hm7i : (m : Int) < 7 := by omega
    clear hk hs hCS hr hn hn1 h2 hb1 hm
    go_enter Tryz.func97, Tryz.ntmps97
    go_wp2
    go_ret
    exact ⟨by rw [HO.out]; rfl, HB.out⟩
end Go.Proofs.YtkohhdkkbaifoaaGreatDoor

/-
  For script.Print: slices.Equal of numbers; the names of wheels and of reflectors.
-/
namespace Go.Proofs.YtkohhdkkbaifoaaGreatDoor
open Go.Shelf Go.RowKit PK Vg

shelf_lay Lays.n111 Nm 111 at Tryz as Tryz.laysEqual
theorem fEqual : Tryz.laysEqual_ren.f 111 = 192 := by kernel_rfl
/-- Are two rows of numbers the same? -/
def numsEq (n m : Nat) (f g : Nat → Int) : Bool := decide (n = m) && eqI n f g
theorem numsEq_lists (n : Nat) (f g : Nat → Int) : (((List.range n).map f).take n == ((List.range n).map g).take n) = eqI n f g := by
  rw [List.take_of_length_le (by simp), List.take_of_length_le (by simp)]
  unfold eqI
  rw [Bool.eq_iff_iff]
  simp [List.map_inj_left]
theorem equal_any (v1 v2 : Value) (n m : Nat) (f g : Nat → Int) (w : World) (h1 : NumsAt w v1 n f) (h2 : NumsAt w v2 m g) : Calls Tryz.prog 192 #[v1, v2] w fun e w' => e = .returned (.bool (numsEq n m f g)) ∧ Below w.heap.size w w' := by
  obtain ⟨a1, c1, rfl, m1, k1⟩ := h1
  obtain ⟨a2, c2, rfl, m2, k2⟩ := h2
  unfold maxLen at m1 m2
  unfold numsEq
  by_cases hnm : n = m
  · subst hnm
    rw [show decide (n = n) = true by simp, Bool.true_and]
    by_cases h0 : n = 0
    · subst h0
      have h := Any.slices_Equal_int_empty Tryz.laysEqual a1 a2 c1 0 c2 w (by omega)
      rw [fEqual] at h
      exact h.mono fun e w' ⟨he, hw⟩ => ⟨he, by rw [hw]; exact Below.refl _ _⟩
    · obtain ⟨b1, o1, rfl, _⟩ := k1 0 (by omega)
      obtain ⟨b2, o2, rfl, _⟩ := k2 0 (by omega)
      have h := Any.slices_Equal_int Tryz.laysEqual b1 o1 n c1 b2 o2 n c2 ((List.range n).map f) ((List.range n).map g) w (by simp) (by simp) (by omega) (by omega) (fun j hj => by
          simp at hj
          obtain ⟨b, o, e, hc⟩ := k1 j hj
          cases e
          rw [hc]
          simp [List.getD, hj]) (fun j hj => by
          simp at hj
          obtain ⟨b, o, e, hc⟩ := k2 j hj
          cases e
          rw [hc]
          simp [List.getD, hj])
      rw [fEqual] at h
      refine h.mono fun e w' ⟨he, q, hw⟩ => ⟨?_, ?_⟩
      · rw [he, numsEq_lists]
      · rw [hw]; exact below_drewN (Below.refl _ _) q
  · have h := Any.slices_Equal_int_lens Tryz.laysEqual a1 a2 n c1 m c2 w hnm
    rw [fEqual] at h
    refine h.mono fun e w' ⟨he, hw⟩ => ⟨?_, by rw [hw]; exact Below.refl _ _⟩
    rw [he, show decide (n = m) = false by simpa using hnm]
    rfl
end Go.Proofs.YtkohhdkkbaifoaaGreatDoor

/-
  For script.Print: the names of reflectors and of wheels.
-/
namespace Go.Proofs.YtkohhdkkbaifoaaGreatDoor
open Go.RowKit PK Vg

theorem run_eql_perm (f g : Nat → Int) (w : World) : (Op.equalIn 10000 27 (.agg (ints 26 f)) (.agg (ints 26 g))).run Tryz.prog w = .ok (eqI 26 f g) w := run_equalIn_ints (P := Tryz.prog) w 9998 27 3 26 Tryz.underlying27 Tryz.underlying3 info_int f g
/-- The names of old. -/
def whN : Nat → ByteArray := fun i => [⟨#[73]⟩, ⟨#[73, 73]⟩, ⟨#[73, 73, 73]⟩, ⟨#[73, 86]⟩, ⟨#[86]⟩].getD i ⟨#[]⟩
def whA : Array Value := tab 5 fun i => .string (whN i)
def mrN : Nat → ByteArray := fun i => [⟨#[66]⟩, ⟨#[67]⟩].getD i ⟨#[]⟩
def mrA : Array Value := tab 2 fun i => .string (mrN i)
structure OldAt (w : World) : Prop where
  wh : w.rangeAt 2 0 whA.toList
  mr : w.rangeAt 3 0 mrA.toList
theorem OldAt.below {w w' : World} (h : OldAt w) (hb : Below w.heap.size w w') : OldAt w' := ⟨rangeAt_below h.wh hb, rangeAt_below h.mr hb⟩
/-- The first of n that has it. -/
def fstB (p : Nat → Bool) : Nat → Option Nat
  | 0 => none
  | m + 1 => match fstB p m with
    | some i => some i
    | none => if p m = true then some m else none
theorem fstB_none {p : Nat → Bool} : ∀ {m : Nat}, (∀ j, j < m → p j = false) → fstB p m = none
  | 0, _ => rfl
  | m + 1, h => by
    unfold fstB
    rw [fstB_none (fun j hj => h j (by omega))]
    simp only
    rw [if_neg (by rw [h m (by omega)]; decide)]
theorem fstB_of {p : Nat → Bool} {m : Nat} (h0 : ∀ j, j < m → p j = false) (h : p m = true) : ∀ {n : Nat}, m < n → fstB p n = some m
  | n + 1, hn => by
    unfold fstB
    by_cases e : m = n
    · subst e
      rw [fstB_none h0]
      simp only
      rw [if_pos h]
    · rw [fstB_of h0 h (n := n) (by omega)]
def mrF (f : Nat → Int) : Option Nat := fstB (fun i => eqI 26 f (miP (mrN i).data.toList)) 2
set_option maxRecDepth 100000 in
set_option maxHeartbeats 2000000 in
theorem mirrorName_any (f : Nat → Int) (w : World) (ho : OldAt w) : Calls Tryz.prog 155 #[.agg (ints 26 f)] w fun e w' => (∀ i, mrF f = some i → e = .returned (.tuple #[.string (mrN i), .int .i64 0])) ∧ (mrF f = none → e = .returned (.tuple #[.string ⟨#[]⟩, .int .i64 7])) ∧ Below w.heap.size w w' := by
  obtain ⟨W, hW⟩ : ∃ W, W = w.alloc (.cells (ints 26 f) 27) := ⟨_, rfl⟩
  have hb1 : Below w.heap.size w W := by rw [hW]; exact (Below.refl _ w).alloc (Nat.le_refl _) _
  have hq1 : RowAt W w.heap.size 27 (ints 26 f) := by rw [hW]; exact RowAt.new w _ _
  have hmr := rangeAt_below ho.mr hb1
  have HF : Hid (mrF f = fstB (fun i => eqI 26 f (miP (mrN i).data.toList)) 2) := rfl
  have HB : Hid (Below w.heap.size w W) := hb1
  have HQ : Hid (RowAt W w.heap.size 27 (ints 26 f)) := hq1
  have hz26 := o_zero v_zero_perm
  have hms : mrA.size = 2 := tab_size _ _
  go_enter Tryz.func155, Tryz.ntmps155
  go_upto_region 1 with fail
  rw [← hW]
  clear hW hb1 hq1 ho
  go_wp2_with (refine wpList_load_arr rfl 208 _ rfl 3 0 rfl mrA _ hmr Tryz.underlying208 rfl (by rw [hms]; kernel_rfl) ?_)
  have HIX : Hid (∀ m X, m < 2 → (Instr.index 208 (.agg mrA) (.int .i64 (m : Nat))).run Tryz.prog X = .ok (.string (mrN m)) X) := fun m X hm => run_index_strs 208 9 2 Tryz.underlying208 Tryz.underlying9 str_info mrN m hm X
  generalize mrA = KA at *
  go_loopw [9] (fun i X => ∃ m : Nat, m ≤ 2 ∧ i = .int .i64 (m : Nat) ∧ Hid (∀ j, j < m → eqI 26 f (miP (mrN j).data.toList) = false) ∧ Hid (Below W.heap.size W X)) (fun i _ => ((2 : Int) - intOf i).toNat)
  case atStart => exact ⟨0, by omega, rfl, fun j hj => by omega, Below.refl _ _⟩
  case round =>
    obtain ⟨m, hm, rfl, HJ, HBX⟩ := hrel
    by_cases hlt : m < 2
    · have hix2 := HIX.out m wr hlt
      have HLT : Hid (m < 2) := hlt
      have hlt2 : (m : Int) < 2 := by omega
      have HMI : Hid _ := mirror_any (mrN m) wr
      have HQ2 : Hid (RowAt wr w.heap.size 27 (ints 26 f)) := RowAt.below HQ.out HBX.out (RowAt.lt HQ.out)
      have HNM : Hid (∀ g, eqI 26 f (miP (mrN m).data.toList) = g → (g = true → mrF f = some m) ∧ (g = false → ∀ j, j < m + 1 → eqI 26 f (miP (mrN j).data.toList) = false)) := fun g hg => by
        refine ⟨fun e => by rw [HF.out, fstB_of HJ.out (by rw [hg, e]) HLT.out], fun e j hj => ?_⟩
        by_cases ej : j = m
        · rw [ej, hg, e]
        · exact HJ.out j (by omega)
      generalize miP (mrN m).data.toList = MP at *
      generalize miE (mrN m).data.toList = ME at *
      clear hlt HJ
      go_wp2_with fail
      refine Calls.mono HMI.out ?_
      rintro e V ⟨rfl, hb⟩
      have hr1 := RowAt.below HQ2.out hb (RowAt.lt HQ2.out)
      obtain ⟨X, hX⟩ : ∃ X, X = (V.alloc (.cells (ints 26 fun _ => 0) 27)).setRow V.heap.size (ints 26 MP) := ⟨_, rfl⟩
      have hX2 : RowAt X V.heap.size 27 (ints 26 MP) := by rw [hX]; exact (RowAt.new V _ _).row _
      have hXb : Below V.heap.size V X := by rw [hX]; exact PK.Below.setRow ((Below.refl _ V).alloc (Nat.le_refl _) _) V.heap.size (Nat.le_refl _) _
      have hX1 : RowAt X w.heap.size 27 (ints 26 f) := RowAt.below hr1 hXb (RowAt.lt hr1)
      have hbw := HBX.out.trans (hb.mono HBX.out.size)
      have HBB : Hid (Below W.heap.size W X) := hbw.trans (hXb.mono hbw.size)
      have hql := run_eql_perm f MP X
      clear hr1 hXb hbw hb HQ2 HMI HBX
      by_cases hg : eqI 26 f MP = true
      · have HY : Hid (mrF f = some m) := (HNM.out _ rfl).1 hg
        rw [hg] at hql
        clear hg HNM HF
        go_upto_region 5 with (first | refine wpList_store_row rfl 27 _ _ rfl V.heap.size (ints 26 MP) rfl rfl 27 _ (RowAt.new V _ _) (by rw [ints_size]; exact info_perm) (by rw [ints_size, ints_size]) (ints_one _ _) ?_)
        rw [← hX]
        clear hX
        go_wp2_with (first | refine wpList_load_row rfl 27 _ rfl w.heap.size rfl 27 (ints 26 f) (0, 0) _ hX1 Tryz.underlying27 rfl (by rw [ints_size]; exact info_perm) ?_ | refine wpList_load_row rfl 27 _ rfl V.heap.size rfl 27 (ints 26 MP) (0, 0) _ hX2 Tryz.underlying27 rfl (by rw [ints_size]; exact info_perm) ?_)
        go_ret2
        exact ⟨fun i hi => (by rw [HY.out] at hi; cases hi; rfl), fun h => (by rw [HY.out] at h; cases h), HB.out.trans (HBB.out.mono HB.out.size)⟩
      · have hg2 : eqI 26 f MP = false := by simpa using hg
        have HN : Hid _ := (HNM.out _ rfl).2 hg2
        rw [hg2] at hql
        clear hg hg2 HNM
        go_upto_region 5 with (first | refine wpList_store_row rfl 27 _ _ rfl V.heap.size (ints 26 MP) rfl rfl 27 _ (RowAt.new V _ _) (by rw [ints_size]; exact info_perm) (by rw [ints_size, ints_size]) (ints_one _ _) ?_)
        rw [← hX]
        clear hX
        go_wp2_with (first | refine wpList_load_row rfl 27 _ rfl w.heap.size rfl 27 (ints 26 f) (0, 0) _ hX1 Tryz.underlying27 rfl (by rw [ints_size]; exact info_perm) ?_ | refine wpList_load_row rfl 27 _ rfl V.heap.size rfl 27 (ints 26 MP) (0, 0) _ hX2 Tryz.underlying27 rfl (by rw [ints_size]; exact info_perm) ?_)
        go_roundw
        case rel => exact ⟨m + 1, HLT.out, by go_num, HN, HBB⟩
        case measure => have := HLT.out; simp [intOf] <;> omega
    · have HN : Hid (mrF f = none) := by rw [Hid, HF.out, fstB_none (fun j hj => HJ.out j (by omega))]
      have hln : ¬ (m : Int) < 2 := by omega
      have HBB : Hid (Below w.heap.size w wr) := HB.out.trans (HBX.out.mono HB.out.size)
      clear HJ HF HIX hlt
      go_wp2
      go_ret2
      exact ⟨fun i hi => (by rw [HN.out] at hi; cases hi), fun _ => rfl, HBB.out⟩
end Go.Proofs.YtkohhdkkbaifoaaGreatDoor

/-
  The listed package variables of ScriptTurns and ScriptRuns: the names of wheels and reflectors besides.
-/
namespace Go.Proofs.YtkohhdkkbaifoaaGreatDoor
open Go.RowKit PK

theorem g_whe : Tryz.prog.globalNamed "blackroom/script.wheels" = some 2 := by kernel_rfl
theorem g_mir : Tryz.prog.globalNamed "blackroom/script.mirrors" = some 3 := by kernel_rfl
theorem gt_whe : (Tryz.prog.globals[2]?).map (·.type) = some 170 := by kernel_rfl
theorem gt_mir : (Tryz.prog.globals[3]?).map (·.type) = some 208 := by kernel_rfl
theorem laid_whe {r : List (String × DataW Unit)} {W : World} (h : laidMet Tryz.prog (("blackroom/script.wheels", Rows.laid_blackroom_script_wheels) :: r) W) : W.rangeAt 2 0 whA.toList := by
  have := laid_range (bs := [[73], [73, 73], [73, 73, 73], [73, 86], [86]]) h g_whe gt_whe Tryz.underlying170 rfl
  rw [show whA.toList = List.map (fun b : List UInt8 => Value.string ⟨b.toArray⟩) [[73], [73, 73], [73, 73, 73], [73, 86], [86]] by kernel_rfl]
  exact this
theorem laid_mir {r : List (String × DataW Unit)} {W : World} (h : laidMet Tryz.prog (("blackroom/script.mirrors", Rows.laid_blackroom_script_mirrors) :: r) W) : W.rangeAt 3 0 mrA.toList := by
  have := laid_range (bs := [[66], [67]]) h g_mir gt_mir Tryz.underlying208 rfl
  rw [show mrA.toList = List.map (fun b : List UInt8 => Value.string ⟨b.toArray⟩) [[66], [67]] by kernel_rfl]
  exact this
theorem laid_allT {W : World} (h : laidMetH Tryz.prog Rows.scriptTurnsRow.laid W) : NmAt W ∧ ErAt W ∧ OldAt W := by
  rw [MakeChecks.laidMetH_plain _ _ _ (by kernel_rfl)] at h
  have h5 := h.tail.tail.tail.tail
  have h7 := h5.tail.tail
  have h9 := h7.tail.tail
  exact ⟨⟨laid_kinds h7, laid_tabl h7.tail⟩, laid_erra h5, ⟨laid_whe h9, laid_mir h9.tail⟩⟩
theorem laid_startT (os : Os) (args : Array Value) : laidMetH Tryz.prog Rows.scriptTurnsRow.laid ((World.laidAll Tryz.prog os Rows.scriptTurnsRow.laid).forCall (fun _ _ => 0) ⟨#[], args, []⟩).memory := by
  rw [MakeChecks.laidMetH_plain _ _ _ (by kernel_rfl)]
  exact laidMet_laidAll _ (by kernel_rfl) (by kernel_rfl)
end Go.Proofs.YtkohhdkkbaifoaaGreatDoor

/-
  For script.Print: the names of wheels.
-/
namespace Go.Proofs.YtkohhdkkbaifoaaGreatDoor
open Go.RowKit PK Vg

theorem whl_range {W : World} {b : Nat} {T : TypeId} {f : Nat → Int} {R : Value} (h : RowAt W b T (whl f R)) : W.rangeAt b 0 (ints 26 f).toList := fun j v hv => by
  rw [Array.getElem?_toList] at hv
  have hj : j < 26 := by
    have := (Array.getElem?_eq_some_iff.1 hv).1
    rw [ints_size] at this
    exact this
  rw [ints_get _ hj] at hv
  cases hv
  rw [Nat.zero_add]
  exact RowAt.cell h (whl_get f R hj)
/-- Is it the wheel of that name? -/
def whB (wi : Nat → Int) (nl : Nat) (no : Nat → Int) (i : Nat) : Bool := eqI 26 wi (knW (whN i).data.toList) && numsEq nl (knN (whN i).data.toList).length no (fun j => (((knN (whN i).data.toList).getD j 0 : Nat) : Int))
def whF (wi : Nat → Int) (nl : Nat) (no : Nat → Int) : Option Nat := fstB (whB wi nl no) 5
set_option maxRecDepth 100000 in
set_option maxHeartbeats 4000000 in
theorem wheelName_any (wi : Nat → Int) (R : Value) (nl : Nat) (no : Nat → Int) (w : World) (hR : NumsAt w R nl no) (ho : OldAt w) : Calls Tryz.prog 154 #[.agg (whl wi R)] w fun e w' => (∀ i, whF wi nl no = some i → e = .returned (.tuple #[.string (whN i), .int .i64 0])) ∧ (whF wi nl no = none → e = .returned (.tuple #[.string ⟨#[]⟩, .int .i64 7])) ∧ Below w.heap.size w w' := by
  obtain ⟨CS, hCS⟩ : ∃ CS, CS = whl wi R := ⟨_, rfl⟩
  rw [← hCS]
  obtain ⟨W, hW⟩ : ∃ W, W = w.alloc (.cells CS 97) := ⟨_, rfl⟩
  have hb1 : Below w.heap.size w W := by rw [hW]; exact (Below.refl _ w).alloc (Nat.le_refl _) _
  have hq1 : RowAt W w.heap.size 97 CS := by rw [hW]; exact RowAt.new w _ _
  have hwh := rangeAt_below ho.wh hb1
  have HF : Hid (whF wi nl no = fstB (whB wi nl no) 5) := rfl
  have HB : Hid (Below w.heap.size w W) := hb1
  have HQ : Hid (RowAt W w.heap.size 97 CS) := hq1
  have HCS : Hid (CS = whl wi R) := hCS
  have HR : Hid (NumsAt W R nl no) := hR.below hb1
  obtain ⟨ra, rc, rfl, -⟩ := id hR
  have hz27 := o_zero v_zero_whl
  have hws : whA.size = 5 := tab_size _ _
  clear hCS hR
  go_enter Tryz.func154, Tryz.ntmps154
  go_upto_region 1 with fail
  rw [← hW]
  clear hW hb1 hq1 ho
  go_wp2_with (refine wpList_load_arr rfl 170 _ rfl 2 0 rfl whA _ hwh Tryz.underlying170 rfl (by rw [hws]; kernel_rfl) ?_)
  have HIX : Hid (∀ m X, m < 5 → (Instr.index 170 (.agg whA) (.int .i64 (m : Nat))).run Tryz.prog X = .ok (.string (whN m)) X) := fun m X hm => run_index_strs 170 9 5 Tryz.underlying170 Tryz.underlying9 str_info whN m hm X
  generalize whA = KA at *
  go_loopw [9] (fun i X => ∃ m : Nat, m ≤ 5 ∧ i = .int .i64 (m : Nat) ∧ Hid (∀ j, j < m → whB wi nl no j = false) ∧ Hid (Below W.heap.size W X)) (fun i _ => ((5 : Int) - intOf i).toNat)
  case atStart => exact ⟨0, by omega, rfl, fun j hj => by omega, Below.refl _ _⟩
  case round =>
    obtain ⟨m, hm, rfl, HJ, HBX⟩ := hrel
    by_cases hlt : m < 5
    · have hix2 := HIX.out m wr hlt
      have HLT : Hid (m < 5) := hlt
      have hlt2 : (m : Int) < 5 := by omega
      have HKN : Hid _ := known_new (whN m) wr
      have HQ2 : Hid (RowAt wr w.heap.size 97 CS) := RowAt.below HQ.out HBX.out (RowAt.lt HQ.out)
      have HR2 : Hid (NumsAt wr (.slice ra nl rc) nl no) := HR.out.below HBX.out
      have HNM : Hid (∀ g, whB wi nl no m = g → (g = true → whF wi nl no = some m) ∧ (g = false → ∀ j, j < m + 1 → whB wi nl no j = false)) := fun g hg => by
        refine ⟨fun e => by rw [HF.out, fstB_of HJ.out (by rw [hg, e]) HLT.out], fun e j hj => ?_⟩
        by_cases ej : j = m
        · rw [ej, hg, e]
        · exact HJ.out j (by omega)
      have HWB : Hid (whB wi nl no m = (eqI 26 wi (knW (whN m).data.toList) && numsEq nl (knN (whN m).data.toList).length no (fun j => (((knN (whN m).data.toList).getD j 0 : Nat) : Int)))) := rfl
      generalize knW (whN m).data.toList = KW at *
      generalize knN (whN m).data.toList = KN at *
      generalize knE (whN m).data.toList = KE at *
      clear hlt HJ
      go_wp2_with fail
      refine Calls.mono HKN.out ?_
      rintro e V ⟨Q, rfl, hq, -, hb⟩
      obtain ⟨qa, qc, rfl, -⟩ := id hq
      have hr1 := RowAt.below HQ2.out hb (RowAt.lt HQ2.out)
      have HSZ : Hid ((whl KW (.slice qa KN.length qc)).size = 27) := whl_size _ _
      have HONE : Hid ((whl KW (.slice qa KN.length qc)).all (·.oneCell') = true) := whl_one rfl
      obtain ⟨OS, hOS⟩ : ∃ OS, OS = whl KW (.slice qa KN.length qc) := ⟨_, rfl⟩
      rw [← hOS] at HSZ HONE ⊢
      obtain ⟨X, hX⟩ : ∃ X, X = (V.alloc (.cells (whl (fun _ => 0) (.slice none 0 0)) 97)).setRow V.heap.size OS := ⟨_, rfl⟩
      have hX2 : RowAt X V.heap.size 97 OS := by rw [hX]; exact (RowAt.new V _ _).row _
      have hXb : Below V.heap.size V X := by rw [hX]; exact PK.Below.setRow ((Below.refl _ V).alloc (Nat.le_refl _) _) V.heap.size (Nat.le_refl _) _
      have hX1 : RowAt X w.heap.size 97 CS := RowAt.below hr1 hXb (RowAt.lt hr1)
      have hbw := HBX.out.trans (hb.mono HBX.out.size)
      have HBB : Hid (Below W.heap.size W X) := hbw.trans (hXb.mono hbw.size)
      have HN1 : Hid (NumsAt X (.slice ra nl rc) nl no) := (HR2.out.below hb).below hXb
      have HN2 : Hid (NumsAt X (.slice qa KN.length qc) KN.length (fun j => ((KN.getD j 0 : Nat) : Int))) := hq.below hXb
      have HEQ : Hid _ := equal_any _ _ nl KN.length no (fun j => ((KN.getD j 0 : Nat) : Int)) X HN1.out HN2.out
      have r1 : X.rangeAt w.heap.size 0 (ints 26 wi).toList := whl_range (by rw [← HCS.out]; exact hX1)
      have r2 : X.rangeAt V.heap.size 0 (ints 26 KW).toList := whl_range (by rw [← hOS]; exact hX2)
      have d1 : X.cell? ⟨w.heap.size, 26, none⟩ = some (.slice ra nl rc) := RowAt.cell hX1 (by rw [HCS.out]; exact whl_last _ _)
      have d2 : X.cell? ⟨V.heap.size, 26, none⟩ = some (.slice qa KN.length qc) := RowAt.cell hX2 (by rw [hOS]; exact whl_last _ _)
      have hql := run_eql_perm wi KW X
      clear hr1 hXb hbw hb HQ2 HR2 HKN HBX hq hX1 hX2 hOS
      go_upto_region 5 with (first | refine wpList_store_row rfl 97 _ _ rfl V.heap.size OS rfl rfl 97 _ (RowAt.new V _ _) (by rw [HSZ.out]; exact v_info_whl) (by rw [HSZ.out, whl_size]) HONE.out ?_)
      rw [← hX]
      clear hX
      by_cases hg : eqI 26 wi KW = true
      · rw [hg] at hql
        rw [hg, Bool.true_and] at HWB
        clear hg
        go_wp2_with (first | refine wpList_load_arr rfl 27 _ rfl w.heap.size 0 rfl (ints 26 wi) _ r1 Tryz.underlying27 rfl (by rw [ints_size]; exact info_perm) ?_ | refine wpList_load_arr rfl 27 _ rfl V.heap.size 0 rfl (ints 26 KW) _ r2 Tryz.underlying27 rfl (by rw [ints_size]; exact info_perm) ?_)
        refine Calls.mono HEQ.out ?_
        rintro e V2 ⟨rfl, hb2⟩
        have HB3 : Hid (Below W.heap.size W V2) := HBB.out.trans (hb2.mono HBB.out.size)
        rw [← HWB.out]
        clear HEQ hb2 r1 r2 d1 d2 hql HN1 HN2
        by_cases hg2 : whB wi nl no m = true
        · have HY : Hid (whF wi nl no = some m) := (HNM.out _ rfl).1 hg2
          rw [hg2]
          clear hg2 HNM HWB HF
          go_wp2
          go_ret2
          exact ⟨fun i hi => (by rw [HY.out] at hi; cases hi; rfl), fun h => (by rw [HY.out] at h; cases h), HB.out.trans (HB3.out.mono HB.out.size)⟩
        · have hg3 : whB wi nl no m = false := by simpa using hg2
          have HN : Hid _ := (HNM.out _ rfl).2 hg3
          rw [hg3]
          clear hg2 hg3 HNM HWB
          go_wp2
          go_roundw
          case rel => exact ⟨m + 1, HLT.out, by go_num, HN, HB3⟩
          case measure => have := HLT.out; simp [intOf] <;> omega
      · have hg2 : eqI 26 wi KW = false := by simpa using hg
        rw [hg2] at hql
        have HN : Hid _ := (HNM.out _ rfl).2 (by rw [HWB.out, hg2]; rfl)
        clear hg hg2 HNM HWB HEQ
        go_wp2_with (first | refine wpList_load_arr rfl 27 _ rfl w.heap.size 0 rfl (ints 26 wi) _ r1 Tryz.underlying27 rfl (by rw [ints_size]; exact info_perm) ?_ | refine wpList_load_arr rfl 27 _ rfl V.heap.size 0 rfl (ints 26 KW) _ r2 Tryz.underlying27 rfl (by rw [ints_size]; exact info_perm) ?_)
        go_roundw
        case rel => exact ⟨m + 1, HLT.out, by go_num, HN, HBB⟩
        case measure => have := HLT.out; simp [intOf] <;> omega
    · have HN : Hid (whF wi nl no = none) := by rw [Hid, HF.out, fstB_none (fun j hj => HJ.out j (by omega))]
      have hln : ¬ (m : Int) < 5 := by omega
      have HBB : Hid (Below w.heap.size w wr) := HB.out.trans (HBX.out.mono HB.out.size)
      clear HJ HF HIX hlt
      go_wp2
      go_ret2
      exact ⟨fun i hi => (by rw [HN.out] at hi; cases hi), fun _ => rfl, HBB.out⟩
end Go.Proofs.YtkohhdkkbaifoaaGreatDoor

/-
  For script.Print: numbers of letters written as letters.
-/
namespace Go.Proofs.YtkohhdkkbaifoaaGreatDoor
open Go.RowKit PK Vg

def sptL (n : Nat) (f : Nat → Int) : List UInt8 := (List.range n).map fun i => ltr (f i).toNat
def sptB (f : Nat → Int) (m : Nat) : Nat → UInt8 := fun i => if i < m then ltr (f i).toNat else 0
theorem sptB_step (f : Nat → Int) (m : Nat) : upd (sptB f m) m (ltr (f m).toNat) = sptB f (m + 1) := by
  funext i
  unfold upd sptB
  by_cases h : i = m
  · rw [if_pos h, if_pos (by omega), h]
  · rw [if_neg h]
    by_cases h2 : i < m
    · rw [if_pos h2, if_pos (by omega)]
    · rw [if_neg h2, if_neg (by omega)]
theorem sptL_length (n : Nat) (f : Nat → Int) : (sptL n f).length = n := by simp [sptL]
theorem sptB_all (n : Nat) (f : Nat → Int) : bytsY n (sptB f n) = (Lib.byteCells (sptL n f)).toArray := by
  unfold bytsY tab Lib.byteCells sptL
  congr 1
  rw [List.map_map]
  apply List.ext_getElem
  · simp
  · intro i h1 h2
    have h3 : i < n := by simpa using h1
    simp [sptB, h3]
set_option maxRecDepth 100000 in
set_option maxHeartbeats 1000000 in
theorem spelt_any (v : Value) (n : Nat) (f : Nat → Int) (hn : n ≤ 65536) (hf : ∀ i, i < n → 0 ≤ f i ∧ f i < 26) (w : World) (hv : NumsAt w v n f) : Calls Tryz.prog 156 #[v] w fun e w' => e = .returned (.string ⟨(sptL n f).toArray⟩) ∧ Below w.heap.size w w' := by
  have HV : Hid (NumsAt w v n f) := hv
  obtain ⟨a, cap, rfl, -⟩ := id hv
  have hmk := run_make_row' (P := Tryz.prog) 87 5 (.int .u8 0) 1 Tryz.underlying87 y_info_byte rfl .i64 .i64 n (by omega) (by omega)
  rw [y_made_tab, byts_newY] at hmk
  have HFF : Hid _ := hf
  clear hf hv
  go_enter Tryz.func156, Tryz.ntmps156
  go_wp2_with fail
  go_loopw [11] (fun i W => ∃ m : Nat, m ≤ n ∧ i = .int .i64 m ∧ RowAt W w.heap.size 5 (bytsY n (sptB f m)) ∧ Hid (Below w.heap.size w W)) (fun i _ => ((n : Int) - intOf i).toNat)
  case atStart => exact ⟨0, by omega, rfl, RowAt.new w _ _, (Below.refl _ _).alloc (Nat.le_refl _) _⟩
  case round =>
    obtain ⟨m, hm, rfl, ro, HB⟩ := hrel
    by_cases hlt : m < n
    · have hfm := HFF.out m hlt
      obtain ⟨vb, vo, rfl, hc⟩ : ∃ vb vo, a = some ⟨vb, vo, none⟩ ∧ wr.cell? ⟨vb, vo + m, none⟩ = some (.int .i64 (f m)) := by
        obtain ⟨_, _, e, _, h⟩ := HV.out.below HB.out
        cases e
        obtain ⟨b, o, e, hc⟩ := h m hlt
        exact ⟨b, o, e, hc⟩
      have hcx := ro.cell (byts_getY (sptB f m) hlt)
      have hfx := ro.frozen m
      have ro2 : RowAt (wr.setCell ⟨w.heap.size, m, none⟩ (.int .u8 (ltr (f m).toNat).toNat)) w.heap.size 5 (bytsY n (sptB f (m + 1))) := by
        have := ro.set m (.int .u8 (ltr (f m).toNat).toNat)
        rw [byts_setY, sptB_step] at this
        exact this
      have HBB : Hid (Below w.heap.size w (wr.setCell ⟨w.heap.size, m, none⟩ (.int .u8 (ltr (f m).toNat).toNat))) := HB.out.setCell (p := ⟨w.heap.size, m, none⟩) (by simp) _
      have HLT : Hid _ := let17_any (f m).toNat (by omega) wr
      rw [Int.toNat_of_nonneg hfm.1] at HLT
      generalize ltr (f m).toNat = C at *
      generalize f m = x at *
      have hmi : (m : Int) < (n : Int) := by omega
      clear ro HB
      go_wp2_with fail
      refine Calls.mono HLT.out ?_
      rintro e V ⟨rfl, rfl⟩
      go_wp2_with fail
      go_roundw
      case rel => exact ⟨m + 1, by omega, by go_num, ro2, HBB⟩
      case measure => simp [intOf]; omega
    · obtain rfl : m = n := by omega
      have ro2 : RowAt wr w.heap.size 5 (Lib.byteCells (sptL m f)).toArray := by
        rw [← sptB_all]
        exact ro
      have hst := run_string_of_rowY (P := Tryz.prog) wr 87 9 5 Tryz.underlying87 Tryz.underlying5 Tryz.underlying9 (cap := m) (sptL_length m f) ro2
      clear ro
      go_wp2
      go_ret
      exact ⟨rfl, HB.out⟩
end Go.Proofs.YtkohhdkkbaifoaaGreatDoor
