/-
  Several texts, joined: RoWn, KThen, OStH, ChCh, PCyc, KCyc, KType, OPr, ORPr, LOPlg, ChTy, Fd1, Fd2.
-/
import Derived.Test.YtbbpbcmpemmgjaaJn22
import Derived.Test.YtbbpbcmpemmgjaaJn20
import Derived.Deep.QuietTactic
import Derived.BigQuiet
import Derived.Test.YtbbpbcmpemmgjaaJn16
import Derived.OrdersHeld
import Derived.Deep.Upon
import Derived.Deep.RegionHeld
import Derived.Deep.WholeRow
import Derived.Test.YtbbpbcmpemmgjaaRoNe
import Derived.Test.YtbbpbcmpemmgjaaJn21
import Derived.WalkSpells
import Derived.WalkSmall
import Derived.Lib.OthersKept
import Derived.Lib.SmallJoins
import Derived.Maps.AppendAt
import Derived.Laws.AppendOwn
import Derived.Laws.AppendOwnNone
/-
  Contracts of (*Rotor).Now and Window.
-/
namespace Go.Proofs.Ytbbpbcmpemmgjaa
open Go.RowKit PK Vg

set_option maxRecDepth 100000 in
set_option maxHeartbeats 2000000 in
theorem now_any (b : Nat) (M : Om.Ma) (at' : Nat → Nat) (w : World) (h : RotAt w b M at') : Calls Try.prog 57 #[.pointer (some ⟨b, 0, none⟩)] w fun e w' => e = .returned (.agg (ints 26 (Pm.up (Om.now M at')))) ∧ Below w.heap.size w w' := by
  have hz26 := o_zero v_zero_perm
  have h0 := TuAt.new w
  have HR := (show Hid (RotAt w b M at') from h)
  clear h
  go_enter Try.func57, Try.ntmps57
  go_wp2_with fail
  clear hz26
  go_loopw [5] (fun i V => ∃ k : Nat, k ≤ 26 ∧ i = .int .i64 (k : Nat) ∧ TuAt w V fun c => if c < k then ((Om.now M at' c : Nat) : Int) else 0) (fun i _ => ((26 : Int) - intOf i).toNat)
  case atStart => exact ⟨0, by omega, rfl, by simpa using h0⟩
  case round =>
    clear h0
    obtain ⟨k, hk, rfl, hg⟩ := hrel
    by_cases hlt : k < 26
    · have HLT : Hid (k < 26) := hlt
      have HG := (show Hid _ from hg)
      clear hg
      go_wp2_with fail
      refine (becomes_any b M at' k HLT.out _ (HR.out.below HG.out.below)).mono ?_
      rintro e V ⟨rfl, hb⟩
      have hg : TuAt w V fun c => if c < k then ((Om.now M at' c : Nat) : Int) else 0 := ⟨HG.out.r.below hb HG.out.r.lt, HG.out.o.below hb HG.out.o.lt, HG.out.below.trans (hb.mono HG.out.below.size)⟩
      have HNX : Hid (TuAt w (V.setCell ⟨w.heap.size + 1, k, none⟩ (.int .i64 (Om.now M at' k : Nat))) fun c => if c < k + 1 then ((Om.now M at' c : Nat) : Int) else 0) := by
        have := hg.set k (Om.now M at' k : Nat)
        have e : upd (fun c => if c < k then ((Om.now M at' c : Nat) : Int) else 0) k (Om.now M at' k : Nat) = fun c => if c < k + 1 then ((Om.now M at' c : Nat) : Int) else 0 := by
          funext i
          unfold upd
          by_cases e : i = k
          · rw [if_pos e, if_pos (by omega), e]
          · rw [if_neg e]
            show (if i < k then ((Om.now M at' i : Nat) : Int) else 0) = _
            by_cases e2 : i < k
            · rw [if_pos e2, if_pos (by omega)]
            · rw [if_neg e2, if_neg (by omega)]
        rw [e] at this
        exact this
      have hck := hg.o.cell (ints_get (fun c => if c < k then ((Om.now M at' c : Nat) : Int) else 0) hlt)
      have hfk := hg.o.frozen k
      clear hg hb HG
      generalize Om.now M at' k = A at *
      go_wp2
      go_roundw
      case rel => exact ⟨k + 1, HLT.out, by go_num, HNX.out⟩
      case measure => have := HLT.out; simp [intOf]; omega
    · obtain rfl : k = 26 := by omega
      have hr := hg.r
      have ho : RowAt wr (w.heap.size + 1) 25 (ints 26 (Pm.up (Om.now M at'))) := by
        have := hg.o
        rw [ints_ext (g := Pm.up (Om.now M at')) fun i hi => by rw [if_pos hi]; rfl] at this
        exact this
      have hbe := hg.below
      clear hg
      go_wp2_with (first | refine wpList_load_row rfl 25 _ rfl (w.heap.size + 1) rfl 25 (ints 26 (Pm.up (Om.now M at'))) (0, 0) _ ho Try.underlying25 rfl (by rw [ints_size]; exact info_perm) ?_ | refine wpList_store_row rfl 25 _ _ rfl w.heap.size (ints 26 (Pm.up (Om.now M at'))) rfl rfl 25 _ hr (by rw [ints_size]; exact info_perm) (by simp only [ints_size]) (ints_one _ _) ?_)
      exact bodyPost_ret (v := .agg (ints 26 (Pm.up (Om.now M at')))) (o_results1 Try.results57 _ _ _ _ _ _ _ rfl (hr.row _) Try.underlying25 rfl (by rw [ints_size]; exact info_perm)) rfl ⟨rfl, Below.setRow hbe _ (Nat.le_refl _) _⟩
end Go.Proofs.Ytbbpbcmpemmgjaa

/-
  Contracts of perm.Then and perm.Conjugate.
-/
namespace Go.Proofs.Ytbbpbcmpemmgjaa
open Go.RowKit PK

def pair (f g : Nat → Int) : Nat → Nat → Int := fun k => if k = 0 then f else g
end Go.Proofs.Ytbbpbcmpemmgjaa

/-
  A store of a whole block in a region whose orders are held: one step.
-/
namespace Go.Proofs.Ytbbpbcmpemmgjaa
open Go.RowKit PK

section
variable {P : Program} {md : Region.Mode} {ops : Array Oper} {Q : Exit → Act → World → Prop} {S : World → Prop}
theorem storeH {fuel : Nat} {listed : Array Bool} {a : Act} {w : World} (i : Nat) (o : Oper) (hr : Region.ready md ops listed = [i]) (ho : ops[i]? = some o) (hw : Region.wanted o (yielded ops a.tmps) = true)
    (ty : TypeId) (x y : Operand) (hop : o.op = .store ty x y) (g : Nat) (cells : Array Value) (hx : a.eval x = .pointer (some ⟨g, 0, none⟩)) (hy : a.eval y = .agg cells) (t : TypeId) (old : Array Value) (hg : RowAt w g t old)
    (hi : (P.info? ty).map (·.size) = some cells.size) (hs : old.size = cells.size) (h1 : cells.all (·.oneCell') = true) (hdst : o.dst = none)
    (hS : S (w.setRow g cells)) (h : S (w.setRow g cells) → wpAnyH P md ops Q S fuel (listed.setIfInBounds i true) a (w.setRow g cells)) : wpAnyH P md ops Q S (fuel + 1) listed a w := by
  refine wpAnyH_ready hr (by simp) (AllReadyH.cons ho (fun K hK => ?_) AllReadyH.nil)
  rw [if_pos hw]
  refine wp_store_row ty x y hop g cells hx hy t old hg hi hs h1 ?_
  have hp : a.put o.dst undef = a := by rw [hdst]; rfl
  rw [hp]
  exact hK.out _ _ hS h
end
end Go.Proofs.Ytbbpbcmpemmgjaa

/-
  Contract of chart.Chart.
-/
namespace Go.Proofs.Ytbbpbcmpemmgjaa
open Go.RowKit PK Vg

/-- The first k of many permutations, laid one behind the other. -/
def flatTo (P : Nat → Nat → Nat) (k : Nat) : Nat → Int := fun i => if i < k * 26 then flat P i else 0
theorem flatTo_zero (P : Nat → Nat → Nat) (n : Nat) : ints n (flatTo P 0) = ints n fun _ => 0 := ints_ext fun i _ => by
  unfold flatTo
  rw [if_neg (by omega)]
theorem flatTo_all (P : Nat → Nat → Nat) (n : Nat) {N : Nat} (hN : N = n * 26) : ints N (flatTo P n) = ints N (flat P) := ints_ext fun i hi => by
  unfold flatTo
  rw [if_pos (by omega)]
theorem flat_lay (P : Nat → Nat → Nat) {n k N : Nat} (hN : N = n * 26) (hk : k < n) : setMany (ints N (flatTo P k)) (k * 26) (ints 26 (Pm.up (P k))).toList = ints N (flatTo P (k + 1)) := by
  have hl : (ints 26 (Pm.up (P k))).toList.length = 26 := by rw [Array.length_toList, ints_size]
  apply Array.ext_getElem?
  intro i
  rw [setMany_get _ _ _ _ (by rw [hl, ints_size]; omega), hl]
  by_cases h : k * 26 ≤ i ∧ i < k * 26 + 26
  · rw [if_pos h, Array.getElem?_toList, ints_get _ (by omega), ints_get _ (by omega)]
    unfold flatTo flat Pm.up
    rw [if_pos (by omega), show i / 26 = k by omega, show i % 26 = i - k * 26 by omega]
  · rw [if_neg h]
    by_cases h2 : i < N
    · rw [ints_get _ h2, ints_get _ h2]
      unfold flatTo
      by_cases h3 : i < k * 26
      · rw [if_pos h3, if_pos (by omega)]
      · rw [if_neg h3, if_neg (by omega)]
    · rw [Array.getElem?_eq_none (by rw [ints_size]; omega), Array.getElem?_eq_none (by rw [ints_size]; omega)]
/-- What the machine makes of letters at key k + 1. -/
def chE (M : Om.Ma) (k : Nat) : Nat → Nat := Om.now M (Om.steps M M.st (k + 1))
section
variable {w W W' : World} {a b c : Value} {rf pl : Nat → Int}
end
section
variable {w W W' : World} {a b c : Value} {rf pl : Nat → Int} {M : Om.Ma} {q q6 k : Nat}
end
section
variable {w W W' : World} {a b c : Value} {rf pl : Nat → Int} {M : Om.Ma} {q6 q8 k : Nat}
end
end Go.Proofs.Ytbbpbcmpemmgjaa

/-
  Plain mathematics of no program: the cycles of a permutation.
-/
namespace Go.Proofs.Ytbbpbcmpemmgjaa.Pm

def iter (p : Nat → Nat) : Nat → Nat → Nat
  | 0, i => i
  | k + 1, i => p (iter p k i)
/-- How long a letter's cycle is. -/
def len (p : Nat → Nat) (i : Nat) : Nat := ((List.range 27).find? fun n => decide (0 < n) && iter p n i == i).getD 0
/-- A letter's cycle, from it on. -/
def cyc (p : Nat → Nat) (i : Nat) : List Nat := (List.range (len p i)).map fun k => iter p k i
/-- Is a letter met in a cycle of one of the first k? -/
def met (p : Nat → Nat) (k x : Nat) : Bool := (List.range k).any fun i => (cyc p i).contains x
end Go.Proofs.Ytbbpbcmpemmgjaa.Pm

/-
  Contracts of perm.cycleFrom and perm.cycles.
-/
namespace Go.Proofs.Ytbbpbcmpemmgjaa
open Go.RowKit PK

/-- Numbers, as the cells of a slice. -/
def nums (l : List Nat) : List Value := l.map fun (i : Nat) => Value.int .i64 (i : Int)
theorem nums_append (l m : List Nat) : nums (l ++ m) = nums l ++ nums m := by simp [nums]
/-- The slice v owns the numbers l, in blocks from B on. -/
def OwnsN (w : World) (B : Nat) (v : Value) (l : List Nat) : Prop := w.ownsRow B 3 1 v l.length (nums l)

theorem info_int3 : (Try.prog.info? 3).map (fun i => (i.zero, i.size, i.bytes)) = some (some (.int .i64 0), 1, 8) := by kernel_rfl
end Go.Proofs.Ytbbpbcmpemmgjaa

/-
  Contracts of perm.lengthsOf and perm.Type.
-/
namespace Go.Proofs.Ytbbpbcmpemmgjaa
open Go.RowKit PK

/-- How many of the lists are so long. -/
def cnt (ls : List (List Nat)) (n : Nat) : Nat := (ls.filter fun l => l.length == n).length
end Go.Proofs.Ytbbpbcmpemmgjaa

/-
  What keys do: rows of windows, letters and permutations.
-/
namespace Go.Proofs.Ytbbpbcmpemmgjaa
open Go.RowKit PK Vg

/-- A change of one block alone. -/
theorem grown_set (W : World) (q i : Nat) (v : Value) : W.grownBy (W.setCell ⟨q, i, none⟩ v) (some q) := by
  have := (Below.refl 0 W).setCell (p := ⟨q, i, none⟩) (Nat.zero_le _) v
  exact ⟨this.os, this.tape, this.output, this.size, fun k _ hne => heap_setCell_other W ⟨q, i, none⟩ k v (fun e => hne (by rw [e]))⟩
theorem grown_trans {W V U : World} {r : Option Nat} (h1 : W.grownBy V r) (h2 : V.grownBy U r) : W.grownBy U r :=
  ⟨h2.os.trans h1.os, h2.tape.trans h1.tape, h2.output.trans h1.output, Nat.le_trans h1.size h2.size, fun k hk hne => (h2.block k (Nat.lt_of_lt_of_le hk h1.size) hne).trans (h1.block k hk hne)⟩
section
variable {P : Program}
/-- A slice of one that is many cells. -/
theorem run_build1c (w : World) (t e : TypeId) (n : Nat) (hn : n * 2 ≤ 2 ^ 24) (h0 : 0 < n) (hu : P.underlying t = some (.slice e)) (z c : Array Value) (hzs : z.size = n) (hc : c.size = n) (hz : (P.info? e).map (fun i => (i.zero, i.size)) = some (some (.agg z), n)) :
    (Instr.buildSlice t 1 #[(0, .agg c)]).run P w = .ok (.slice (some ⟨w.heap.size, 0, none⟩) 1 1) (w.alloc (.cells c e)) := by
  obtain ⟨hz1, hz2⟩ := zero_of_info hz
  cases hq : P.info? e with
  | none => simp [hq] at hz
  | some i =>
    have hs : i.size = n := by simpa [hq] using hz2
    have hsz : ∀ W, (sizeOf e).run P W = .ok n W := fun W => by simp [sizeOf, typeInfo, hq, hs]
    have hcc : (Value.agg c).cells = c := rfl
    have hfill : Instr.fill (fun i => some (i * n, n)) (tab n fun x => z[x % n]!) [(0, .agg c)] = some c := by
      rw [Instr.fill]
      simp only [hcc, hc, tab_size]
      rw [if_neg (by simp)]
      have hx := foldl_lay n (0 * n) c.toList 0 (fun x => z[x % n]!)
      rw [← Array.foldl_toList, Array.toList_zipIdx, hx]
      show some _ = some c
      congr 1
      apply Array.ext_getElem?
      intro i
      by_cases hi : i < n
      · rw [tab_get _ hi, if_pos (by simp [hc]; omega)]
        simp [List.getD_eq_getElem?_getD, hc, hi]
      · rw [Array.getElem?_eq_none (by rw [tab_size]; omega), Array.getElem?_eq_none (by omega)]
    have h3 : ¬ (n > 2 ^ 24) := by omega
    have h4 : ¬ (n = 0) := by omega
    have hzc : (Value.agg z).cells = z := rfl
    simp only [Instr.buildSlice, Sem.run_bind, run_underlying hu, Result.andThen_ok, hsz, Nat.one_mul, h3, h4, if_false, hz1, Sem.run_pure, hzc, hzs, range_tab, hfill]
    simp [newRow]
theorem wpList_build1c {ops : Array Oper} {rest : List Oper} {op : Oper} {a : Act} {w : World} {Q : Exit → Act → World → Prop} (hgd : op.guard = none) (t e : TypeId) (x : Operand) (ho : op.op = .buildSlice t 1 #[(0, x)])
    (n : Nat) (z c : Array Value) (hx : a.eval x = .agg c) (hn : n * 2 ≤ 2 ^ 24) (h0 : 0 < n) (hu : P.underlying t = some (.slice e)) (hzs : z.size = n) (hc : c.size = n) (hz : (P.info? e).map (fun i => (i.zero, i.size)) = some (some (.agg z), n))
    (h : wpList P ops Q rest (a.put op.dst (.slice (some ⟨w.heap.size, 0, none⟩) 1 1)) (w.alloc (.cells c e))) : wpList P ops Q (op :: rest) a w :=
  wpList_plain hgd fun _ hK => by
    unfold Oper.wp execOp
    have hm : (#[(0, x)] : Array (Nat × Operand)).map (fun (i, x) => (i, a.eval x)) = #[(0, .agg c)] := by simp [hx]
    simp only [ho, Sem.run_bind, hm, run_build1c w t e n hn h0 hu z c hzs hc hz, Result.andThen_ok]
    exact hK _ _ h
end
end Go.Proofs.Ytbbpbcmpemmgjaa

/-
  Contract of the document's Press (chapter 8).
-/
namespace Go.Proofs.Ytbbpbcmpemmgjaa
open Go.RowKit PK Vg

section
variable {w W W' : World} {a b c v7 v8 : Value} {M : Om.Ma} {ks : Nat → Int} {d k : Nat} {R : Nat → Value}
end
end Go.Proofs.Ytbbpbcmpemmgjaa

/-
  RotorPlugs, for any Write that writes what the document's writes.
-/
namespace Go.Proofs.Ytbbpbcmpemmgjaa
open Go.RowKit PK Vg

theorem v_zero_mac : (Try.prog.info? 27).map (·.zero) = some (some (.agg (mac (.slice none 0 0) (.slice none 0 0) (.slice none 0 0) (fun _ => 0) (fun _ => 0)))) := by kernel_rfl
theorem mac_one {a b c : Value} {rf pl : Nat → Int} (ha : a.oneCell' = true) (hb : b.oneCell' = true) (hc : c.oneCell' = true) : (mac a b c rf pl).all (·.oneCell') = true := by
  unfold mac
  rw [Array.all_append, Array.all_append, ints_one, ints_one]
  simp [ha, hb, hc]
section
variable {w W W' : World} {a b c : Value} {rf pl pl2 : Nat → Int} {qf q : Nat}
end
theorem gE_of {g : Gm} (h1 : 1 ≤ g.n ∧ g.n ≤ 4) (h2 : whE g g.n = 0) (h3 : g.rl = g.n ∧ ins g.rl g.ri = true) (h4 : g.sl = g.n ∧ ins g.sl g.st = true) (h5 : Pm.wrong g.rf = 0 ∧ undo true g.rf = true) (h6 : Pm.wrong g.pl = 0) (h7 : undo false g.pl = true) : gE g = 0 := by
  unfold gE
  rw [if_neg (by omega), if_neg (fun e => e h2), if_neg (fun e => e h3.1), if_neg (by rw [h3.2]; decide), if_neg (fun e => e h4.1), if_neg (by rw [h4.2]; decide), if_neg (fun e => e h5.1), if_neg (by rw [h5.2]; decide), if_neg (fun e => e h6), if_neg (by rw [h7]; decide)]
/-- The machine without plugs. -/
def bare (g : Gm) : Gm := { g with pl := Pm.up fun i => i }
theorem whE_bare (g : Gm) : ∀ n, whE (bare g) n = whE g n
  | 0 => rfl
  | n + 1 => by
    show (if whE (bare g) n ≠ 0 then whE (bare g) n else if Pm.wrong (g.wi n) ≠ 0 then Pm.wrong (g.wi n) else if ins (g.nl n) (g.no n) = true then 0 else 3) = (if whE g n ≠ 0 then whE g n else if Pm.wrong (g.wi n) ≠ 0 then Pm.wrong (g.wi n) else if ins (g.nl n) (g.no n) = true then 0 else 3)
    rw [whE_bare g n]
theorem gE_bare {g : Gm} (h : gE g = 0) : gE (bare g) = 0 := by
  obtain ⟨h1, h2, h3, h4, h5, _, _⟩ := gE_zero h
  refine gE_of h1 (by rw [whE_bare]; exact h2) h3 h4 h5 (Pm.wrong_up _ Pm.IsPerm.id) ((undo_iff _ _).2 fun i hi => ⟨rfl, fun e => by cases e⟩)
end Go.Proofs.Ytbbpbcmpemmgjaa

/-
  Contract of chart.Types.
-/
namespace Go.Proofs.Ytbbpbcmpemmgjaa
open Go.RowKit PK Vg

/-- Three slices. -/
def sl3 (k : Nat) (V : Nat → Value) : Array Value := tab 3 fun i => if i < k then V i else .slice none 0 0
theorem own_slice' {w : World} {B : Nat} {v : Value} {l : List Nat} (h : OwnsN w B v l) : ∃ a c, v = .slice a l.length c := by
  have h' : w.ownsRow B 3 1 v l.length (nums l) := h
  rcases h'.2 with ⟨rfl, e⟩ | ⟨g, cap, cur, rfl, _⟩
  · exact ⟨none, 0, by rw [e]⟩
  · exact ⟨_, _, rfl⟩
section
variable {w W W' : World} {a b c : Value} {rf pl : Nat → Int} {P : Nat → Nat → Nat} {q4 q6 k : Nat} {V : Nat → Value}
end
end Go.Proofs.Ytbbpbcmpemmgjaa

/-
  Contracts of chart's windows, and of slices.Clone of numbers (chapter 9).
-/
namespace Go.Proofs.Ytbbpbcmpemmgjaa
open Go.RowKit PK Vg

/-- The letters that come N-th in m windows. -/
def dig (m N i : Nat) : Nat := N / 26 ^ (m - 1 - i) % 26
theorem dig_lt (m N i : Nat) : dig m N i < 26 := Nat.mod_lt _ (by decide)
/-- The last ones are told, from k on. -/
def digF (m N k : Nat) : Nat → Int := fun i => if k ≤ i then ((dig m N i : Nat) : Int) else 0
theorem digF_start (m N : Nat) : (ints m fun _ => 0) = ints m (digF m N m) := ints_ext fun i hi => by unfold digF; rw [if_neg (by omega)]
theorem digF_next (m N k : Nat) : ints m (upd (digF m N (k + 1)) k ((dig m N k : Nat) : Int)) = ints m (digF m N k) := ints_ext fun i hi => by
  unfold upd
  by_cases e : i = k
  · rw [if_pos e]
    unfold digF
    rw [if_pos (by omega), e]
  · rw [if_neg e]
    unfold digF
    by_cases e2 : k ≤ i
    · rw [if_pos e2, if_pos (by omega)]
    · rw [if_neg e2, if_neg (by omega)]
theorem digF_all (m N : Nat) : ints m (digF m N 0) = ints m fun i => ((dig m N i : Nat) : Int) := ints_ext fun i hi => by unfold digF; rw [if_pos (Nat.zero_le _)]
theorem f_made_tab (z : Value) (n : Nat) : madeCells #[z] n = tab n fun _ => z := by
  unfold madeCells tab
  apply Array.ext
  · simp
  · intro i h1 h2
    simp [Nat.mod_one]
theorem f_info_int : (Try.prog.info? 3).map (fun i => (i.zero, i.size, i.bytes)) = some (some (.int .i64 0), 1, 8) := by kernel_rfl
theorem f_info_parts {P : Program} {e : TypeId} {z : Value} {s b : Nat} (h : (P.info? e).map (fun i => (i.zero, i.size, i.bytes)) = some (some z, s, b)) : ∃ i, P.info? e = some i ∧ i.zero = some z ∧ i.size = s ∧ i.bytes = b := by
  obtain ⟨i, hi, hzz⟩ := Option.map_eq_some_iff.1 h
  simp only [Prod.mk.injEq] at hzz
  exact ⟨i, hi, hzz.1, hzz.2.1, hzz.2.2⟩
theorem pow26_le {m : Nat} (hm : m ≤ 4) : 26 ^ m ≤ 456976 := by
  rcases (by omega : m = 0 ∨ m = 1 ∨ m = 2 ∨ m = 3 ∨ m = 4) with rfl | rfl | rfl | rfl | rfl <;> decide
set_option maxRecDepth 100000 in
set_option maxHeartbeats 2000000 in
theorem pwin_any (m N : Nat) (hm : m ≤ 4) (hN : N < 26 ^ m) (w : World) : Calls Try.prog 79 #[.int .i64 (m : Nat), .int .i64 (N : Nat)] w fun e w' => ∃ g, e = .returned (.slice (some ⟨g, 0, none⟩) m m) ∧ RowAt w' g 3 (ints m fun i => ((dig m N i : Nat) : Int)) ∧ w.heap.size ≤ g ∧ Below w.heap.size w w' := by
  have hmk := run_make_row' (P := Try.prog) 23 3 (.int .i64 0) 8 Try.underlying23 f_info_int rfl .i64 .i64 m (by omega) (by omega)
  rw [f_made_tab] at hmk
  have h2 : RowAt (w.alloc (.cells (tab m fun _ => .int .i64 0) 3)) w.heap.size 3 (ints m fun _ => 0) := RowAt.new w _ _
  rw [digF_start m N] at h2
  have hb2 := (Below.refl w.heap.size w).alloc (Nat.le_refl _) (.cells (tab m fun _ => .int .i64 0) 3)
  have hNb : N < 456976 := Nat.lt_of_lt_of_le hN (pow26_le hm)
  clear hN
  go_enter Try.func79, Try.ntmps79
  go_upto_region 2 with fail
  generalize w.alloc (.cells (tab m fun _ => .int .i64 0) 3) = W2 at *
  clear hmk
  go_wp2_with fail
  go_loopw [1, 6] (fun n x W => ∃ k D : Nat, k ≤ m ∧ D ≤ N ∧ n = .int .i64 (D : Nat) ∧ x = .int .i64 ((k : Int) - 1) ∧ Hid (D = N / 26 ^ (m - k)) ∧ RowAt W w.heap.size 3 (ints m (digF m N k)) ∧ Below w.heap.size w W) (fun _ x _ => (intOf x + 1).toNat)
  case atStart => exact ⟨m, N, Nat.le_refl _, Nat.le_refl _, rfl, rfl, by rw [Hid, Nat.sub_self, Nat.pow_zero, Nat.div_one], h2, hb2⟩
  case round =>
    clear h2 hb2
    obtain ⟨k, D, hk, hD, rfl, rfl, HD, hro, hbe⟩ := hrel
    cases k with
    | zero =>
      rw [digF_all] at hro
      have HRO := (show Hid _ from hro)
      have HBE := (show Hid _ from hbe)
      clear hro hbe HD
      go_wp2
      go_ret
      exact ⟨w.heap.size, by first | rfl | trivial, HRO.out, Nat.le_refl _, HBE.out⟩
    | succ c =>
      have hcs : (((c + 1 : Nat) : Int)) - 1 = (c : Int) := by omega
      rw [hcs]
      have HCM : Hid (c < m) := hk
      have hcm : (c : Int) < (m : Int) := by omega
      have hcell := hro.cell (ints_get (digF m N (c + 1)) (i := c) hk)
      have hfz := hro.frozen c
      have hrem : ((D : Int)).tmod 26 = ((D % 26 : Nat) : Int) := by rw [Int.tmod_eq_emod_of_nonneg (by omega)]; push_cast; rfl
      have hrem2 : ((D : Int)) % 26 = ((D % 26 : Nat) : Int) := by push_cast; rfl
      have hquo : ((D : Int)).tdiv 26 = ((D / 26 : Nat) : Int) := by rw [Int.tdiv_eq_ediv_of_nonneg (by omega)]; push_cast; rfl
      have hquo2 : ((D : Int)) / 26 = ((D / 26 : Nat) : Int) := by push_cast; rfl
      have HDG : Hid (D % 26 = dig m N c) := by rw [Hid, HD.out]; unfold dig; rw [show m - (c + 1) = m - 1 - c by omega]
      have HDN : Hid (D / 26 = N / 26 ^ (m - c)) := by rw [Hid, HD.out, Nat.div_div_eq_div_mul, ← Nat.pow_succ, Nat.succ_eq_add_one, show m - (c + 1) + 1 = m - c by omega]
      have hdl : D / 26 ≤ D := Nat.div_le_self _ _
      have hml := Nat.mod_lt D (show 0 < 26 by decide)
      have HST := (show Hid _ from digF_next m N c)
      have HN : Hid (∀ x, x = D % 26 → RowAt (wr.setCell ⟨w.heap.size, c, none⟩ (.int .i64 ((x : Nat) : Int))) w.heap.size 3 (ints m (digF m N c)) ∧ Below w.heap.size w (wr.setCell ⟨w.heap.size, c, none⟩ (.int .i64 ((x : Nat) : Int)))) := fun x hx => by
        refine ⟨?_, hbe.setCell (p := ⟨w.heap.size, c, none⟩) (Nat.le_refl _) _⟩
        have h1 := hro.set c (.int .i64 ((x : Nat) : Int))
        rw [ints_set, hx, HDG.out, HST.out] at h1
        rw [hx, HDG.out]
        exact h1
      have HN2 := (show Hid _ from HN.out _ rfl)
      generalize digF m N (c + 1) c = oc at *
      generalize D % 26 = x at *
      generalize D / 26 = D2 at *
      clear hro hbe HD HN HST HDG hcs hk
      go_wp2
      go_roundw
      case rel => exact ⟨c, D2, by have := HCM.out; omega, by omega, by first | rfl | go_num, by go_num, HDN.out, HN2.out.1, HN2.out.2⟩
      case measure => simp [intOf]
/-- What the call owns is numbers. -/
theorem own_nums {w : World} {B n : Nat} {v : Value} {f : Nat → Int} (h : w.ownsRow B 3 1 v n (ints n f).toList) : NumsAt w v n f := by
  have hx := h
  rcases h.2 with ⟨rfl, h0⟩ | ⟨g, cap, cur, rfl, hbg, hg, hnc, hcm, hcs, htake⟩
  · exact ⟨none, 0, by rw [h0], by rw [h0]; decide, fun c hc => by omega⟩
  · refine ⟨some ⟨g, 0, none⟩, cap, rfl, by omega, fun c hc => ⟨g, 0, rfl, ?_⟩⟩
    have h1 : (ints n f).toList[c]? = some (.int .i64 (f c)) := by
      have ex : (ints n f).toList[c]? = (ints n f)[c]? := Array.getElem?_toList
      rw [ex, ints_get f hc]
    have := World.ownsRow.cells (g := g) hx rfl c _ h1
    have e : ((⟨g, 0, none⟩ : Addr).add c) = ⟨g, 0 + c, none⟩ := by unfold Addr.add; by_cases e0 : c = 0 <;> simp [e0]
    rw [e] at this
    exact this
theorem f_own_full {w : World} {g B n : Nat} {T : TypeId} {c : Array Value} (h : RowAt w g T c) (hB : B ≤ g) (hn : c.size = n) (hm : n ≤ maxLen) : w.ownsRow B T 1 (.slice (some ⟨g, 0, none⟩) n n) n c.toList :=
  ⟨by simp [hn], .inr ⟨g, n, c, rfl, hB, h, Nat.le_refl _, hm, by simp [hn], by rw [Nat.mul_one, ← hn, ← Array.length_toList, List.take_length]⟩⟩
theorem add_none (b o j : Nat) : ((⟨b, o, none⟩ : Addr).add j) = ⟨b, o + j, none⟩ := by unfold Addr.add; by_cases e0 : j = 0 <;> simp [e0]
set_option maxRecDepth 100000 in
set_option maxHeartbeats 2000000 in
theorem pclone_any (v : Value) (n : Nat) (f : Nat → Int) (hn : n * 8 ≤ 140737488355328) (w : World) (hv : NumsAt w v n f) : Calls Try.prog 35 #[v] w fun e w' => ∃ v', e = .returned v' ∧ NumsAt w' v' n f ∧ (∀ b o cp, v' = .slice (some ⟨b, o, none⟩) n cp → w.heap.size ≤ b) ∧ Below w.heap.size w w' := by
  obtain ⟨i0, hi0, hz0, hz1, hz2⟩ := f_info_parts f_info_int
  obtain ⟨a, cap, rfl, hmx, hc⟩ := hv
  unfold maxLen at hmx
  cases a with
  | none =>
    have h0 : n = 0 := by
      rcases Nat.eq_zero_or_pos n with h | h
      · exact h
      · obtain ⟨b, o, e, _⟩ := hc 0 h
        cases e
    subst h0
    clear hc
    have heq : ∀ W, (binOp .eql 23 (.slice none 0 cap) (.slice none 0 0)).run Try.prog W = .ok (.bool true) W := fun _ => rfl
    go_enter Try.func35, Try.ntmps35
    go_wp2
    go_ret
    exact ⟨_, rfl, ⟨none, 0, rfl, by decide, fun c hc => by omega⟩, fun b o cp e => (by cases e), Below.refl _ _⟩
  | some ad =>
    have hnews : ∀ W, Below w.heap.size w W → ∀ j u, (ints n f).toList[j]? = some u → W.cell? (ad.add j) = some u := fun W hb j u hu => by
      have ex : (ints n f).toList[j]? = (ints n f)[j]? := Array.getElem?_toList
      rw [ex] at hu
      have hj : j < n := by have := (Array.getElem?_eq_some_iff.1 hu).1; rwa [ints_size] at this
      rw [ints_get f hj] at hu
      obtain ⟨b, o, e, hcell⟩ := hc j hj
      cases e
      rw [add_none, ← hu]
      exact (hb.cell (p := ⟨b, o + j, none⟩) (cell_block hcell)).trans hcell
    have HNW := (show Hid _ from hnews)
    have hone : ∀ u ∈ (ints n f).toList, u.oneCell' = true := fun u hu => by
      have := ints_one n f
      rw [Array.all_eq_true_iff_forall_mem] at this
      exact this u (by simpa using hu)
    have HON := (show Hid _ from hone)
    have how : (w.alloc (.cells #[] 3)).ownsRow w.heap.size 3 1 (.slice (some ⟨w.heap.size, 0, none⟩) 0 0) 0 [] := f_own_full (RowAt.new w 3 #[]) (Nat.le_refl _) rfl (by decide)
    have hb1 := (Below.refl w.heap.size w).alloc (Nat.le_refl _) (.cells #[] 3)
    have heq : ∀ W, (binOp .eql 23 (.slice (some ad) n cap) (.slice none 0 0)).run Try.prog W = .ok (.bool false) W := fun _ => rfl
    clear hc hnews hone
    go_enter Try.func35, Try.ntmps35
    go_wp2_with (first | (at_builtin; refine wpList_append_own _ rfl _ _ 23 rfl w.heap.size 3 i0 (.int .i64 0) 1 8 Try.underlying23 hi0 hz0 hz1 hz2 rfl (by decide) _ _ _ rfl how ad n cap (ints n f).toList rfl (by rw [Array.length_toList, ints_size, Nat.mul_one]) (HNW.out _ hb1) HON.out (by unfold maxLen; omega) (by omega) (by simp) ?_; intro v' w1 hown' hgrow _))
    go_ret
    rw [Nat.zero_add, List.nil_append] at hown'
    refine ⟨v', rfl, own_nums hown', fun b o cp e => ?_, hb1.grown hgrow (by simp) (fun p hp => (World.ownsRow.lt how p hp).1)⟩
    rcases hown'.2 with ⟨e2, _⟩ | ⟨g, _, _, e2, hbg, _⟩
    · rw [e2] at e; cases e
    · rw [e2] at e; cases e; exact hbg
end Go.Proofs.Ytbbpbcmpemmgjaa

/-
  Contracts of slices.Clone of wheels, and of chart's standing (chapter 9).
-/
namespace Go.Proofs.Ytbbpbcmpemmgjaa
open Go.RowKit PK Vg

theorem mac_set2 (a b c c2 : Value) (rf pl : Nat → Int) : (mac a b c rf pl).setIfInBounds 2 c2 = mac a b c2 rf pl := by
  unfold mac
  rw [Array.append_assoc, Array.append_assoc, Array.setIfInBounds_append_left (by simp)]
  rfl
theorem mac_set1 (a b c c2 : Value) (rf pl : Nat → Int) : (mac a b c rf pl).setIfInBounds 1 c2 = mac a c2 c rf pl := by
  unfold mac
  rw [Array.append_assoc, Array.append_assoc, Array.setIfInBounds_append_left (by simp)]
  rfl
theorem mac_set0 (a b c c2 : Value) (rf pl : Nat → Int) : (mac a b c rf pl).setIfInBounds 0 c2 = mac c2 b c rf pl := by
  unfold mac
  rw [Array.append_assoc, Array.append_assoc, Array.setIfInBounds_append_left (by simp)]
  rfl
/-- The cells of wheels, one behind the other. -/
def whC (wi : Nat → Nat → Int) (R : Nat → Value) (i : Nat) : Value := if i % 27 < 26 then .int .i64 (wi (i / 27) (i % 27)) else R (i / 27)
theorem whC_whl (wi : Nat → Nat → Int) (R : Nat → Value) (r j : Nat) (hj : j < 27) : (whl (wi r) (R r))[j]? = some (whC wi R (r * 27 + j)) := by
  unfold whC
  rw [show (r * 27 + j) / 27 = r by omega, show (r * 27 + j) % 27 = j by omega]
  by_cases h : j < 26
  · rw [if_pos h, whl_get _ _ h]
  · rw [if_neg h, show j = 26 by omega, whl_last]
theorem whC_one {wi : Nat → Nat → Int} {R : Nat → Value} {n : Nat} (h : ∀ r, r < n → (R r).oneCell' = true) : ∀ u ∈ (tab (n * 27) (whC wi R)).toList, u.oneCell' = true := fun u hu => by
  simp [tab] at hu
  obtain ⟨i, hi, rfl⟩ := hu
  unfold whC
  by_cases h1 : i % 27 < 26
  · rw [if_pos h1]; rfl
  · rw [if_neg h1]; exact h _ (by omega)
theorem f_info_wheel : (Try.prog.info? 62).map (fun i => (i.zero, i.size, i.bytes)) = some (some (.agg (whl (fun _ => 0) (.slice none 0 0))), 27, 232) := by kernel_rfl
theorem f_size_wheel : (Try.prog.info? 62).map (·.size) = some 27 := by kernel_rfl
theorem f_zero_wheel : (Try.prog.info? 62).map (·.zero) = some (some (.agg (whl (fun _ => 0) (.slice none 0 0)))) := by kernel_rfl
set_option maxRecDepth 100000 in
set_option maxHeartbeats 2000000 in
theorem pclw_any (b o n cap : Nat) (wi : Nat → Nat → Int) (R : Nat → Value) (hn : n ≤ 4) (hR : ∀ r, r < n → (R r).oneCell' = true) (w : World) (hc : ∀ r, r < n → w.rangeAt b (o + r * 27) (whl (wi r) (R r)).toList) :
    Calls Try.prog 94 #[.slice (some ⟨b, o, none⟩) n cap] w fun e w' => ∃ g cp cur, e = .returned (.slice (some ⟨g, 0, none⟩) n cp) ∧ RowAt w' g 62 cur ∧ (∀ i, i < n * 27 → cur[i]? = some (whC wi R i)) ∧ w.heap.size ≤ g ∧ Below w.heap.size w w' := by
  obtain ⟨i0, hi0, hz0, hz1, hz2⟩ := f_info_parts f_info_wheel
  have hlen : (tab (n * 27) (whC wi R)).toList.length = n * 27 := by rw [Array.length_toList, tab_size]
  have hget : ∀ j, j < n * 27 → (tab (n * 27) (whC wi R)).toList[j]? = some (whC wi R j) := fun j hj => by
    have ex : (tab (n * 27) (whC wi R)).toList[j]? = (tab (n * 27) (whC wi R))[j]? := Array.getElem?_toList
    rw [ex, tab_get _ hj]
  have hnews : ∀ W, Below w.heap.size w W → ∀ j u, (tab (n * 27) (whC wi R)).toList[j]? = some u → W.cell? ((⟨b, o, none⟩ : Addr).add j) = some u := fun W hb j u hu => by
    have hj : j < n * 27 := by have := (List.getElem?_eq_some_iff.1 hu).1; rwa [hlen] at this
    rw [hget j hj] at hu
    have h1 := hc (j / 27) (by omega) (j % 27) (whC wi R j) (by
      have ex : (whl (wi (j / 27)) (R (j / 27))).toList[j % 27]? = (whl (wi (j / 27)) (R (j / 27)))[j % 27]? := Array.getElem?_toList
      rw [ex, whC_whl _ _ _ _ (Nat.mod_lt _ (by decide)), show j / 27 * 27 + j % 27 = j by omega])
    rw [show o + j / 27 * 27 + j % 27 = o + j by omega] at h1
    rw [add_none, ← hu]
    exact (hb.cell (p := ⟨b, o + j, none⟩) (cell_block h1)).trans h1
  have HNW := (show Hid _ from hnews)
  have HON := (show Hid _ from whC_one (wi := wi) hR)
  have HGT := (show Hid _ from hget)
  have how : (w.alloc (.cells #[] 62)).ownsRow w.heap.size 62 27 (.slice (some ⟨w.heap.size, 0, none⟩) 0 0) 0 [] := ⟨by simp, .inr ⟨w.heap.size, 0, #[], rfl, Nat.le_refl _, RowAt.new w 62 #[], Nat.le_refl _, by decide, by simp, by simp⟩⟩
  have hb1 := (Below.refl w.heap.size w).alloc (Nat.le_refl _) (.cells #[] 62)
  have heq : ∀ W, (binOp .eql 22 (.slice (some ⟨b, o, none⟩) n cap) (.slice none 0 0)).run Try.prog W = .ok (.bool false) W := fun _ => rfl
  generalize (tab (n * 27) (whC wi R)).toList = L at *
  clear hc hnews hget hR
  go_enter Try.func94, Try.ntmps94
  go_wp2_with (first | (at_builtin; refine wpList_append_own _ rfl _ _ 22 rfl w.heap.size 62 i0 (.agg (whl (fun _ => 0) (.slice none 0 0))) 27 232 Try.underlying22 hi0 hz0 hz1 hz2 (whl_size _ _) (by decide) _ _ _ rfl how ⟨b, o, none⟩ n cap L rfl hlen (HNW.out _ hb1) HON.out (by unfold maxLen; omega) (by omega) (by simp) ?_; intro v' w1 hown' hgrow hnil))
  go_ret
  rw [Nat.zero_add, List.nil_append] at hown'
  have hbw := hb1.grown hgrow (by simp) (fun p hp => (World.ownsRow.lt how p hp).1)
  rcases hown'.2 with ⟨rfl, _⟩ | ⟨g, cp, cur, rfl, hbg, hg, hnc, hcm, hcs, htake⟩
  · exact absurd (hnil.1 rfl).1 (by intro e; cases e)
  · refine ⟨g, cp, cur, rfl, hg, fun i hi => ?_, hbg, hbw⟩
    have h1 := HGT.out i hi
    rw [← htake, List.getElem?_take_of_lt hi] at h1
    rw [← Array.getElem?_toList]
    exact h1
end Go.Proofs.Ytbbpbcmpemmgjaa
