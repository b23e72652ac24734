/-
  Several texts, joined: ScR, LdA.
-/
import Derived.Test.YtkohhdkkbaifoaaGreatDoorScQ
import Derived.Test.YtkohhdkkbaifoaaGreatDoorRows
import Derived.Stop.LaidErr
import Derived.LaidLaws
import Derived.Lay
import Derived.LaidMore
import Derived.MakeChecks
import Derived.LaidHandle
/-
  Names of steps: script.named.
-/
namespace Go.Proofs.YtkohhdkkbaifoaaGreatDoor
open Go.RowKit PK Vg

theorem run_index_strs {P : Program} (t e : TypeId) (n : Nat) (hu : P.underlying t = some (.array n e)) (he : P.underlying e = some .string) (hs : (P.info? e).map (·.size) = some 1) (f : Nat → ByteArray) (k : Nat) (hk : k < n) (w : World) :
    (Instr.index t (.agg (tab n fun i => .string (f i))) (.int .i64 (k : Int))).run P w = .ok (.string (f k)) w := by
  cases hq : P.info? e with
  | none => simp [hq] at hs
  | some i =>
    have h1 : i.size = 1 := by simpa [hq] using hs
    have h2 : ((k : Int) < (n : Int)) := by omega
    simp [Instr.index, asIntOf, Sem.run_bind, run_underlying hu, part, isAgg, run_underlying he, sizeOf, typeInfo, hq, h1, hk, tab_get (fun i => Value.string (f i)) hk]
theorem str_info : (Tryz.prog.info? 9).map (·.size) = some 1 := by kernel_rfl
/-- The names of the steps by their kinds; of the tableaux. -/
def nmN : Nat → ByteArray
  | 1 => ⟨#[109, 111, 118, 101]⟩
  | 3 => ⟨#[114, 97, 105, 108]⟩
  | 4 => ⟨#[99, 111, 108, 117, 109, 110, 115]⟩
  | 5 => ⟨#[104, 105, 108, 108]⟩
  | 6 => ⟨#[114, 111, 116, 111, 114]⟩
  | _ => ⟨#[]⟩
def tbN : Nat → ByteArray
  | 1 => ⟨#[118, 105, 103, 101, 110, 101, 114, 101]⟩
  | 2 => ⟨#[98, 101, 97, 117, 102, 111, 114, 116]⟩
  | 3 => ⟨#[118, 97, 114, 105, 97, 110, 116]⟩
  | 4 => ⟨#[97, 117, 116, 111, 107, 101, 121]⟩
  | _ => ⟨#[]⟩
def nmA : Array Value := tab 7 fun i => .string (nmN i)
def tbA : Array Value := tab 5 fun i => .string (tbN i)
/-- The two tables lie there. -/
structure NmAt (w : World) : Prop where
  kn : w.rangeAt 1 0 nmA.toList
  tb : w.rangeAt 0 0 tbA.toList
theorem NmAt.below {w w' : World} (h : NmAt w) (hb : Below w.heap.size w w') : NmAt w' := ⟨rangeAt_below h.kn hb, rangeAt_below h.tb hb⟩
/-- The first of n names that is this one. -/
def fstN (f : Nat → ByteArray) (s : ByteArray) : Nat → Option Nat
  | 0 => none
  | m + 1 => match fstN f s m with
    | some i => some i
    | none => if f m = s then some m else none
theorem fstN_none {f : Nat → ByteArray} {s : ByteArray} : ∀ {m : Nat}, (∀ j, j < m → f j ≠ s) → fstN f s m = none
  | 0, _ => rfl
  | m + 1, h => by unfold fstN; rw [fstN_none (fun j hj => h j (by omega))]; simp only [if_neg (h m (by omega))]
theorem fstN_of {f : Nat → ByteArray} {s : ByteArray} {k : Nat} (h0 : ∀ j, j < k → f j ≠ s) (h : f k = s) : ∀ {m : Nat}, k < m → fstN f s m = some k
  | 0, hk => by omega
  | m + 1, hk => by
    unfold fstN
    by_cases e : k = m
    · subst e; rw [fstN_none h0]; simp only [if_pos h]
    · rw [fstN_of h0 h (m := m) (by omega)]
/-- What a word names: a kind, and the tableau's. -/
def nmK (s : ByteArray) : Option (Nat × Nat) := match fstN nmN s 7 with
  | some k => some (k, 0)
  | none => (fstN tbN s 5).map fun n => (2, n)
/-- A step of a kind, as far as its name tells. -/
def stA (k n : Nat) : Array Value := spA k n ⟨#[]⟩ (.slice none 0 0) (.slice none 0 0) (.slice none 0 0) (.slice none 0 0) (fun _ => 0) (fun _ => 0)
theorem stA_size (k n : Nat) : (stA k n).size = 59 := spA_size _ _ _ _ _ _ _ _ _
theorem stA_one (k n : Nat) : (stA k n).all (·.oneCell') = true := spA_one rfl rfl rfl rfl
theorem built_k (k : Int) : Tryz.prog.built 31 [(0, .int .i64 k)] = some (spA k 0 ⟨#[]⟩ (.slice none 0 0) (.slice none 0 0) (.slice none 0 0) (.slice none 0 0) (fun _ => 0) (fun _ => 0)) := by kernel_rfl
theorem built_kn (k n : Int) : Tryz.prog.built 31 [(0, .int .i64 k), (1, .int .i64 n)] = some (spA k n ⟨#[]⟩ (.slice none 0 0) (.slice none 0 0) (.slice none 0 0) (.slice none 0 0) (fun _ => 0) (fun _ => 0)) := by kernel_rfl
theorem built_0 : Tryz.prog.built 31 [] = some (spA 0 0 ⟨#[]⟩ (.slice none 0 0) (.slice none 0 0) (.slice none 0 0) (.slice none 0 0) (fun _ => 0) (fun _ => 0)) := by kernel_rfl
theorem wpList_bA {P : Program} {ops : Array Oper} {rest : List Oper} {op : Oper} {a : Act} {w : World} {Q : Exit → Act → World → Prop} (hgd : op.guard = none) (t : TypeId) (xs : List (Nat × Operand)) (ho : op.op = .build t xs.toArray) (vs : List (Nat × Value)) (hv : xs.map (fun x => (x.1, a.eval x.2)) = vs)
    (cells : Array Value) (hb : P.built t vs = some cells) (h : wpList P ops Q rest (a.put op.dst (.agg cells)) w) : wpList P ops Q (op :: rest) a w := by
  refine wpList_build hgd t xs.toArray ho ?_ ?_
  · simp only [List.map_toArray]
    rw [show (List.map (fun x : Nat × Operand => (x.1, a.eval x.2)) xs) = vs from hv]
    simp [hb]
  · simp only [List.map_toArray]
    rw [show (List.map (fun x : Nat × Operand => (x.1, a.eval x.2)) xs) = vs from hv]
    simp only [hb, Option.getD_some]
    exact h
set_option maxRecDepth 100000 in
set_option maxHeartbeats 2000000 in
theorem named_any (s : ByteArray) (w : World) (hn : NmAt w) : Calls Tryz.prog 160 #[.string s] w fun e w' => (∀ k n, nmK s = some (k, n) → e = .returned (.tuple #[.agg (stA k n), .bool true])) ∧ (nmK s = none → e = .returned (.tuple #[.agg (stA 0 0), .bool false])) ∧ Below w.heap.size w w' := by
  obtain ⟨W, hW⟩ : ∃ W, W = w.alloc (.cells (spA 0 0 ⟨#[]⟩ (.slice none 0 0) (.slice none 0 0) (.slice none 0 0) (.slice none 0 0) (fun _ => 0) (fun _ => 0)) 31) := ⟨_, rfl⟩
  have hb1 : Below w.heap.size w W := by rw [hW]; exact (Below.refl _ w).alloc (Nat.le_refl _) _
  have hq1 : RowAt W w.heap.size 31 (spA 0 0 ⟨#[]⟩ (.slice none 0 0) (.slice none 0 0) (.slice none 0 0) (.slice none 0 0) (fun _ => 0) (fun _ => 0)) := by rw [hW]; exact RowAt.new w _ _
  have hkn := rangeAt_below hn.kn hb1
  have htb := rangeAt_below hn.tb hb1
  have HK : Hid (nmK s = match fstN nmN s 7 with | some k => some (k, 0) | none => (fstN tbN s 5).map fun n => (2, n)) := rfl
  have HB : Hid (Below w.heap.size w W) := hb1
  have HQ : Hid (RowAt W w.heap.size 31 (spA 0 0 ⟨#[]⟩ (.slice none 0 0) (.slice none 0 0) (.slice none 0 0) (.slice none 0 0) (fun _ => 0) (fun _ => 0))) := hq1
  have hz59 := o_zero s_zero
  go_enter Tryz.func160, Tryz.ntmps160
  go_upto_region 1 with fail
  rw [← hW]
  clear hW hb1 hq1 hz59 hn
  have hks : nmA.size = 7 := tab_size _ _
  have hts : tbA.size = 5 := tab_size _ _
  go_wp2_with (refine wpList_load_arr rfl 171 _ rfl 1 0 rfl nmA _ hkn Tryz.underlying171 rfl (by rw [hks]; kernel_rfl) ?_)
  have HIX : Hid (∀ m X, m < 7 → (Instr.index 171 (.agg nmA) (.int .i64 (m : Nat))).run Tryz.prog X = .ok (.string (nmN m)) X) := fun m X hm => run_index_strs 171 9 7 Tryz.underlying171 Tryz.underlying9 str_info nmN m hm X
  have HIT : Hid (∀ m X, m < 5 → (Instr.index 170 (.agg tbA) (.int .i64 (m : Nat))).run Tryz.prog X = .ok (.string (tbN m)) X) := fun m X hm => run_index_strs 170 9 5 Tryz.underlying170 Tryz.underlying9 str_info tbN m hm X
  generalize nmA = KA at *
  go_loopw [9] (fun i X => ∃ m : Nat, m ≤ 7 ∧ i = .int .i64 (m : Nat) ∧ Hid (∀ j, j < m → nmN j ≠ s) ∧ X = W) (fun i _ => ((7 : Int) - intOf i).toNat)
  case atStart => exact ⟨0, by omega, rfl, fun j hj => by omega, rfl⟩
  case round =>
    obtain ⟨m, hm, rfl, HJ, rfl⟩ := hrel
    by_cases hlt : m < 7
    · have hix := HIX.out m
      have hix2 := hix wr hlt
      have HLT : Hid (m < 7) := hlt
      have hlt2 : (m : Int) < 7 := by omega
      clear hix
      by_cases he : nmN m = s
      · have heq : ((nmN m).toList == s.toList) = true := ba_eq he
        have HF : Hid (nmK s = some (m, 0)) := by rw [Hid, HK.out, fstN_of HJ.out he hlt]
        generalize nmN m = NM at *
        have HQ2 := HQ.out
        clear he HJ HK
        go_wp2_with (first | refine wpList_bA rfl 31 [(0, _)] rfl [(0, .int .i64 (m : Nat))] rfl _ (built_k (m : Nat)) ?_ | refine wpList_store_row rfl 31 _ _ rfl w.heap.size (spA (m : Nat) 0 ⟨#[]⟩ (.slice none 0 0) (.slice none 0 0) (.slice none 0 0) (.slice none 0 0) (fun _ => 0) (fun _ => 0)) rfl rfl 31 _ HQ2 (by rw [spA_size]; exact s_info) (by rw [spA_size, spA_size]) (spA_one rfl rfl rfl rfl) ?_)
        exact ⟨rfl, _, results_cell_tmp2 rfl _ _ w.heap.size 31 (spA (m : Nat) 0 ⟨#[]⟩ (.slice none 0 0) (.slice none 0 0) (.slice none 0 0) (.slice none 0 0) (fun _ => 0) (fun _ => 0)) (0, 0) _ _ rfl rfl (RowAt.row HQ.out _) Tryz.underlying31 rfl (by rw [spA_size]; exact s_info), fun k n h => by rw [HF.out] at h; cases h; rfl, fun h => absurd (HF.out.symm.trans h) (by simp), PK.Below.setRow HB.out w.heap.size (Nat.le_refl _) _⟩
      · have heq : ((nmN m).toList == s.toList) = false := ba_ne he
        have HN : Hid (∀ j, j < m + 1 → nmN j ≠ s) := fun j hj => by
          by_cases e : j = m
          · rw [e]; exact he
          · exact HJ.out j (by omega)
        generalize nmN m = NM at *
        clear he HJ
        go_wp2_with fail
        go_roundw
        case rel => exact ⟨m + 1, HLT.out, by go_num, HN, by first | rfl | trivial⟩
        case measure => have := HLT.out; simp [intOf] <;> omega
    · obtain rfl : m = 7 := by omega
      have HK2 : Hid (nmK s = (fstN tbN s 5).map fun n => (2, n)) := by rw [Hid, HK.out, fstN_none HJ.out]
      clear HK HJ hm hlt hkn HIX
      go_wp2_with (refine wpList_load_arr rfl 170 _ rfl 0 0 rfl tbA _ htb Tryz.underlying170 rfl (by rw [hts]; kernel_rfl) ?_)
      generalize tbA = TA at *
      go_loopw [20] (fun i X => ∃ m : Nat, m ≤ 5 ∧ i = .int .i64 (m : Nat) ∧ Hid (∀ j, j < m → tbN j ≠ s) ∧ X = wr) (fun i _ => ((5 : Int) - intOf i).toNat)
      case atStart => exact ⟨0, by omega, rfl, fun j hj => by omega, rfl⟩
      case round =>
        obtain ⟨m, hm, rfl, HJ, rfl⟩ := hrel
        by_cases hlt : m < 5
        · have hix2 := HIT.out m wr hlt
          have HLT : Hid (m < 5) := hlt
          have hlt2 : (m : Int) < 5 := by omega
          by_cases he : tbN m = s
          · have heq : ((tbN m).toList == s.toList) = true := ba_eq he
            have HF : Hid (nmK s = some (2, m)) := by rw [Hid, HK2.out, fstN_of HJ.out he hlt]; rfl
            generalize tbN m = NM at *
            have HQ2 := HQ.out
            clear he HJ HK2
            go_wp2_with (first | refine wpList_bA rfl 31 [(0, _), (1, _)] rfl [(0, .int .i64 2), (1, .int .i64 (m : Nat))] rfl _ (built_kn 2 (m : Nat)) ?_ | refine wpList_store_row rfl 31 _ _ rfl w.heap.size (spA 2 (m : Nat) ⟨#[]⟩ (.slice none 0 0) (.slice none 0 0) (.slice none 0 0) (.slice none 0 0) (fun _ => 0) (fun _ => 0)) rfl rfl 31 _ HQ2 (by rw [spA_size]; exact s_info) (by rw [spA_size, spA_size]) (spA_one rfl rfl rfl rfl) ?_)
            exact ⟨rfl, _, results_cell_tmp2 rfl _ _ w.heap.size 31 (spA 2 (m : Nat) ⟨#[]⟩ (.slice none 0 0) (.slice none 0 0) (.slice none 0 0) (.slice none 0 0) (fun _ => 0) (fun _ => 0)) (0, 0) _ _ rfl rfl (RowAt.row HQ.out _) Tryz.underlying31 rfl (by rw [spA_size]; exact s_info), fun k n h => by rw [HF.out] at h; cases h; rfl, fun h => absurd (HF.out.symm.trans h) (by simp), PK.Below.setRow HB.out w.heap.size (Nat.le_refl _) _⟩
          · have heq : ((tbN m).toList == s.toList) = false := ba_ne he
            have HN : Hid (∀ j, j < m + 1 → tbN j ≠ s) := fun j hj => by
              by_cases e : j = m
              · rw [e]; exact he
              · exact HJ.out j (by omega)
            generalize tbN m = NM at *
            clear he HJ
            go_wp2_with fail
            go_roundw
            case rel => exact ⟨m + 1, HLT.out, by go_num, HN, by first | rfl | trivial⟩
            case measure => have := HLT.out; simp [intOf] <;> omega
        · obtain rfl : m = 5 := by omega
          have HF : Hid (nmK s = none) := by rw [Hid, HK2.out, fstN_none HJ.out]; rfl
          have HQ2 := HQ.out
          clear HJ HK2
          go_wp2_with (first | refine wpList_bA rfl 31 [] rfl [] rfl _ built_0 ?_ | refine wpList_store_row rfl 31 _ _ rfl w.heap.size (spA 0 0 ⟨#[]⟩ (.slice none 0 0) (.slice none 0 0) (.slice none 0 0) (.slice none 0 0) (fun _ => 0) (fun _ => 0)) rfl rfl 31 _ HQ2 (by rw [spA_size]; exact s_info) (by rw [spA_size]) (spA_one rfl rfl rfl rfl) ?_)
          exact ⟨rfl, _, results_cell_tmp2 rfl _ _ w.heap.size 31 (spA 0 0 ⟨#[]⟩ (.slice none 0 0) (.slice none 0 0) (.slice none 0 0) (.slice none 0 0) (fun _ => 0) (fun _ => 0)) (0, 0) _ _ rfl rfl (RowAt.row HQ.out _) Tryz.underlying31 rfl (by rw [spA_size]; exact s_info), fun k n h => absurd (HF.out.symm.trans h) (by simp), fun _ => rfl, PK.Below.setRow HB.out w.heap.size (Nat.le_refl _) _⟩
end Go.Proofs.YtkohhdkkbaifoaaGreatDoor

/-
  What the listed package-level variables give: the tables of names, and strconv's ErrRange.
-/
namespace Go.Proofs.YtkohhdkkbaifoaaGreatDoor
open Go.RowKit PK

theorem laid_range {n : String} {bs : List (List UInt8)} {r : List (String × DataW Unit)} {W : World} {g k : Nat} {t : TypeId} (h : laidMet Tryz.prog ((n, .agg (bs.map fun b => .lit (.string b))) :: r) W) (hg0 : Tryz.prog.globalNamed n = some g) (ht0 : (Tryz.prog.globals[g]?).map (·.type) = some t) (hu : Tryz.prog.underlying t = some (.array k 9)) (hk : bs.length = k) : W.rangeAt g 0 (bs.map fun b => Value.string ⟨b.toArray⟩) := by
  obtain ⟨ps, ⟨g, t, cs, fuel, p, q, hg, ht, hv, hd, _, _⟩, _, _⟩ := h
  obtain rfl := Option.some.inj (hg0.symm.trans hg)
  obtain rfl := Option.some.inj (ht0.symm.trans ht)
  obtain ⟨xs, m, _, ex, _, hl, hel⟩ := DataW.trod_array hu hd
  have c9 : Tryz.prog.cellsOf 9 = 1 := by kernel_rfl
  intro i v hvi
  have hi : i < k := by
    have := (List.getElem?_eq_some_iff.1 hvi).1
    rw [List.length_map] at this
    omega
  have hE := hel i hi
  rw [c9, Nat.mul_one, List.getElem?_eq_getElem (by omega)] at hE
  obtain ⟨z, e1, e2, _⟩ := DataW.trod_string Tryz.underlying9 hE
  have e3 : (xs.map (·.1)) = bs.map fun b => .lit (.string b) := (DataW.agg.inj (Prod.mk.inj ex).1).symm
  have e4 : (xs.map (·.1))[i]? = (bs.map fun b => (DataW.lit (.string b) : DataW Unit))[i]? := by rw [e3]
  rw [List.getElem?_map, List.getElem?_map, List.getElem?_eq_getElem (by omega : i < xs.length), List.getElem?_eq_getElem (by omega : i < bs.length), e2] at e4
  rw [List.getElem?_map, List.getElem?_eq_getElem (by omega : i < bs.length)] at hvi
  simp only [Option.map_some, Option.some.injEq, DataW.lit.injEq, Lit.string.injEq] at e4 hvi
  rw [Nat.zero_add, World.var?_cell hg hv i, ← hvi, ← e4]
  have : cs.toList[i]? = some (.string z) := by
    have h0 : ((cs.toList.drop i).take 1)[0]? = some (.string z) := by rw [e1]; rfl
    simpa using h0
  simpa using this
theorem g_kinds : Tryz.prog.globalNamed "blackroom/script.kinds" = some 1 := by kernel_rfl
theorem g_tabl : Tryz.prog.globalNamed "blackroom/script.tableaux" = some 0 := by kernel_rfl
theorem gt_kinds : (Tryz.prog.globals[1]?).map (·.type) = some 171 := by kernel_rfl
theorem gt_tabl : (Tryz.prog.globals[0]?).map (·.type) = some 170 := by kernel_rfl
theorem g_erra : Tryz.prog.globalNamed "strconv.ErrRange" = some gRange := by kernel_rfl
theorem gt_erra : (Tryz.prog.globals[gRange]?).map (·.type) = some 121 := by kernel_rfl
theorem laid_kinds {r : List (String × DataW Unit)} {W : World} (h : laidMet Tryz.prog (("blackroom/script.kinds", Rows.laid_blackroom_script_kinds) :: r) W) : W.rangeAt 1 0 nmA.toList := by
  have := laid_range (bs := [[], [109, 111, 118, 101], [], [114, 97, 105, 108], [99, 111, 108, 117, 109, 110, 115], [104, 105, 108, 108], [114, 111, 116, 111, 114]]) h g_kinds gt_kinds Tryz.underlying171 rfl
  rw [show nmA.toList = List.map (fun b : List UInt8 => Value.string ⟨b.toArray⟩) [[], [109, 111, 118, 101], [], [114, 97, 105, 108], [99, 111, 108, 117, 109, 110, 115], [104, 105, 108, 108], [114, 111, 116, 111, 114]] by kernel_rfl]
  exact this
theorem laid_tabl {r : List (String × DataW Unit)} {W : World} (h : laidMet Tryz.prog (("blackroom/script.tableaux", Rows.laid_blackroom_script_tableaux) :: r) W) : W.rangeAt 0 0 tbA.toList := by
  have := laid_range (bs := [[], [118, 105, 103, 101, 110, 101, 114, 101], [98, 101, 97, 117, 102, 111, 114, 116], [118, 97, 114, 105, 97, 110, 116], [97, 117, 116, 111, 107, 101, 121]]) h g_tabl gt_tabl Tryz.underlying170 rfl
  rw [show tbA.toList = List.map (fun b : List UInt8 => Value.string ⟨b.toArray⟩) [[], [118, 105, 103, 101, 110, 101, 114, 101], [98, 101, 97, 117, 102, 111, 114, 116], [118, 97, 114, 105, 97, 110, 116], [97, 117, 116, 111, 107, 101, 121]] by kernel_rfl]
  exact this
theorem laid_erra {r : List (String × DataW Unit)} {W : World} (h : laidMet Tryz.prog (("strconv.ErrRange", Rows.laid_strconv_ErrRange) :: r) W) : ErAt W := by
  obtain ⟨ps, ⟨g, t, cs, fuel, p, q, hg, ht, hv, hd, _, _⟩, _, _⟩ := h
  obtain rfl := Option.some.inj (g_erra.symm.trans hg)
  obtain rfl := Option.some.inj (gt_erra.symm.trans ht)
  obtain ⟨f1, u, v, e, _⟩ := iface_of_trod Tryz.underlying121 hd
  refine ⟨.iface u v, ?_, .inr ⟨u, v, rfl⟩⟩
  have := World.var?_cell g_erra hv 0
  rw [Array.eq_one_of_toList e] at this
  simpa using this
/-- The rows of this chapter that read words list these. -/
theorem laid_all {W : World} (h : laidMetH Tryz.prog Rows.scriptUndoneRow.laid W) : NmAt W ∧ ErAt W := by
  rw [MakeChecks.laidMetH_plain _ _ _ (by kernel_rfl)] at h
  have h5 := h.tail.tail.tail.tail
  have h7 := h5.tail.tail
  exact ⟨⟨laid_kinds h7, laid_tabl h7.tail⟩, laid_erra h5⟩
theorem laid_start (os : Os) (args : Array Value) : laidMetH Tryz.prog Rows.scriptUndoneRow.laid ((World.laidAll Tryz.prog os Rows.scriptUndoneRow.laid).forCall (fun _ _ => 0) ⟨#[], args, []⟩).memory := by
  rw [MakeChecks.laidMetH_plain _ _ _ (by kernel_rfl)]
  exact laidMet_laidAll _ (by kernel_rfl) (by kernel_rfl)
end Go.Proofs.YtkohhdkkbaifoaaGreatDoor
