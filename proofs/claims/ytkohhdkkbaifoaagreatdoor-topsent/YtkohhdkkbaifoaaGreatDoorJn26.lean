/-
  Several texts, joined: ScJ, ScV.
-/
import Derived.Test.YtkohhdkkbaifoaaGreatDoorScI
import Derived.Test.YtkohhdkkbaifoaaGreatDoorRfA
import Derived.RangeFuncBound
import Derived.RangeFuncCalls
import Derived.RangeFuncLeaves
import Derived.Shelf.Abstract
import Derived.Shelf.RegionOpen
import Derived.WalkKit
import Derived.OwnWalkIn
import Derived.TacticsInMore
import Derived.LoopNIn
import Derived.LoopIn
import Derived.Test.YtkohhdkkbaifoaaGreatDoorScP
/-
  A chain from its end on: script.fromTheEnd.
-/
namespace Go.Proofs.YtkohhdkkbaifoaaGreatDoor
open Go.RowKit PK Vg Sm
attribute [local go_sem] Oper.semAt_some

section
variable {F : Fence} {n : Nat} {P : Program}
/-- A row loaded, and stored, in a fenced walk. -/
theorem wpListIn_load_arr {ops : Array Oper} {rest : List Oper} {op : Oper} {a : Act} {w : World} {Q : Exit → Act → World → Prop} (hgd : op.guard = none) (ty : TypeId) (x : Operand) (ho : op.op = .load ty x)
    (b o : Nat) (hx : a.eval x = .pointer (some ⟨b, o, none⟩)) (cs : Array Value) (d : TypeDesc) (hc : w.rangeAt b o cs.toList)
    (hu : P.underlying ty = some d) (hd : d.isRow = true) (hi : (P.info? ty).map (·.size) = some cs.size)
    (h : wpListIn F n P ops Q rest (a.put op.dst (.agg cs)) w) : wpListIn F n P ops Q (op :: rest) a w := by
  refine wpListIn_plain hgd fun K hK => ?_
  have hl := run_loadVar_mid w b o ty cs.toList d hc hu hd (by rw [Array.length_toList]; exact hi)
  rw [Array.toArray_toList] at hl
  unfold Oper.wpIn
  refine ⟨by simp [Oper.about, ho], ?_⟩
  rw [Oper.semAt_plain F _ _ (by rw [ho]; intro c hc'; cases hc')]
  unfold execOp
  simp only [ho, hx, Instr.loadAt, Instr.sureAddr, Sem.run_bind, Sem.run_pure, Result.andThen_ok, hl]
  exact hK _ _ h
theorem wpListIn_store_row {ops : Array Oper} {rest : List Oper} {o : Oper} {a : Act} {w : World} {Q : Exit → Act → World → Prop} (hgd : o.guard = none) (ty : TypeId) (x y : Operand) (ho : o.op = .store ty x y)
    (g : Nat) (cells : Array Value) (hx : a.eval x = .pointer (some ⟨g, 0, none⟩)) (hy : a.eval y = .agg cells)
    (t : TypeId) (old : Array Value) (hg : w.heap[g]? = some (.cells old t (0, 0))) (hi : (P.info? ty).map (·.size) = some cells.size)
    (hold : old.size = cells.size) (h1 : cells.all (·.oneCell') = true)
    (h : wpListIn F n P ops Q rest (a.put o.dst undef) (w.setRow g cells)) : wpListIn F n P ops Q (o :: rest) a w := by
  refine wpListIn_plain hgd fun K hK => ?_
  unfold Oper.wpIn
  refine ⟨by simp [Oper.about, ho], ?_⟩
  rw [Oper.semAt_plain F _ _ (by rw [ho]; intro c hc'; cases hc')]
  unfold execOp
  simp only [ho, hx, hy, Instr.storeAt, Instr.sureAddr, Sem.run_bind, Sem.run_pure, Result.andThen_ok, run_storeVar_row w g t ty old cells hg hi hold h1]
  exact hK _ _ h
end
/-- All blocks below lv but bt are as they were. -/
def Sme (bt lv : Nat) (W W' : World) : Prop := ∀ b, b ≠ bt → b < lv → W'.heap[b]? = W.heap[b]?
theorem Sme.trans {bt lv : Nat} {A B C : World} (h : Sme bt lv A B) (k : Sme bt lv B C) : Sme bt lv A C := fun b h1 h2 => (k b h1 h2).trans (h b h1 h2)
theorem Sme.cell {bt lv : Nat} {A B : World} (h : Sme bt lv A B) {b o : Nat} (h1 : b ≠ bt) (h2 : b < lv) : B.cell? ⟨b, o, none⟩ = A.cell? ⟨b, o, none⟩ := by
  have := h b h1 h2
  simp only [World.cell?, this]
theorem Sme.range {bt lv : Nat} {A B : World} (h : Sme bt lv A B) {b o : Nat} {l : List Value} (hr : A.rangeAt b o l) (h1 : b ≠ bt) (h2 : b < lv) : B.rangeAt b o l := fun j v hv => (h.cell h1 h2).trans (hr j v hv)
theorem Sme.of {bt lv : Nat} {A B : World} (h : Below lv A B) : Sme bt lv A B := fun b _ h2 => h.block b h2
set_option maxRecDepth 100000 in
set_option maxHeartbeats 2000000 in
/-- The values that it hands over: the place, and the step there, from the last one on. -/
theorem fte_all (bt lv b : Nat) (a : Option Addr) (n cap : Nat) (R : Nat → Array Value) (w0 : World) (m : Nat) (hn : n ≤ 64) (hs : ∀ i, i < n → (R i).size = 59) (hlv : lv ≤ w0.heap.size)
    (hr : ∀ i, i < n → ∃ b o, a = some ⟨b, o, none⟩ ∧ (b ≠ bt ∧ b < lv) ∧ w0.rangeAt b (o + i * 59) (R i).toList) (hbb : b ≠ bt ∧ b < lv) (hb : w0.cell? ⟨b, 0, none⟩ = some (.slice a n cap)) :
    SeqAll Fence.wide m Tryz.prog 90 #[.pointer (some ⟨b, 0, none⟩)] n (fun k => #[.int .i64 ((n - 1 - k : Nat) : Int), .agg (R (n - 1 - k))]) (fun _ => False) (Sme bt lv) w0 := by
  intro l J Jp W hW hJ hY h0
  have HR : Hid (∀ i, i < n → ∃ b o, a = some ⟨b, o, none⟩ ∧ (b ≠ bt ∧ b < lv) ∧ w0.rangeAt b (o + i * 59) (R i).toList) := hr
  have HS : Hid (∀ i, i < n → (R i).size = 59) := hs
  have HY : Hid (∀ k W1, J k W1 → k < n → YieldAt Fence.wide (m - 1) Tryz.prog l #[.int .i64 ((n - 1 - k : Nat) : Int), .agg (R (n - 1 - k))] W1 fun e W' => (e = .returned (.bool true) ∧ J (k + 1) W' ∧ Sme bt lv W1 W') ∨ (∃ ch, e = .panicked ch ∧ Jp ch W')) := hY
  have hc0 := (hW.cell (p := ⟨b, 0, none⟩) (World.block_lt_of_cell? _ _ hb)).trans hb
  have HB0 : Hid (w0.cell? ⟨b, 0, none⟩ = some (.slice a n cap)) := hb
  have HBB : Hid (b ≠ bt ∧ b < lv) := hbb
  have HW0 : Hid (Sme bt lv w0 W) := Sme.of (hW.mono hlv)
  clear hr hs hY hb hJ hW hbb hlv
  refine callsIn_of_wp Tryz.func90 rfl trivial ?_ rfl
  simp only [Tryz.ntmps90, List.size_toArray, List.length_cons, List.length_nil, Nat.reduceAdd, Nat.reduceSub, Array.replicate_succ, Array.replicate_zero, List.push_toArray, List.append_toArray, List.nil_append, List.cons_append]
  gi_wp2
  gi_loopw [3] (fun p wr => ∃ k : Nat, k ≤ n ∧ p = .int .i64 (((n - k : Nat) : Int) - 1) ∧ J k wr ∧ Hid (Sme bt lv w0 wr)) (fun p _ => ((intOf p) + 1).toNat)
  case atStart => exact ⟨0, by omega, by rfl, h0, HW0⟩
  case round =>
    obtain ⟨k, hk, rfl, hj, HBE⟩ := hrel
    by_cases hlt : k < n
    · obtain ⟨j, hjj⟩ : ∃ j : Nat, j = n - 1 - k := ⟨_, rfl⟩
      have hjn : j < n := by omega
      have e1 : ((n - k : Nat) : Int) - 1 = (j : Int) := by omega
      obtain ⟨bw, ow, rfl, hbw, hrg⟩ := HR.out j hjn
      have hrg2 := HBE.out.range hrg hbw.1 hbw.2
      have hc1 := (HBE.out.cell (o := 0) HBB.out.1 HBB.out.2).trans HB0.out
      obtain ⟨fn, tmps, assign, body, hy, hR⟩ := HY.out k wr hj hlt
      have HRI : Hid _ := hR
      have HSJ : Hid ((R j).size = 59) := HS.out j hjn
      rw [← hjj] at hy
      generalize R j = CS at *
      have HNX : Hid (n - (k + 1) = j) := by rw [Hid]; omega
      have HKL : Hid (k + 1 ≤ n) := hlt
      rw [e1]
      have hjl : (j : Int) < (n : Int) := by omega
      clear hR hrg hjj hc0 h0 hj e1 hlt hk hbw HW0
      gi_wp2_with (refine wpListIn_load_arr rfl 31 _ rfl bw (ow + j * 59) rfl CS _ hrg2 Tryz.underlying31 rfl (by rw [HSJ.out]; exact s_info) ?_)
      refine ⟨fun h => (by cases h), ?_⟩
      refine RoundIn.mono HRI.out ?_
      rintro e W3 (⟨rfl, hJ3, hk3⟩ | ⟨ch, rfl, hJp⟩)
      · have HK3 : Hid (Sme bt lv w0 W3) := HBE.out.trans hk3
        clear hk3 hrg2 hy HRI HBE
        gi_wp2
        go_roundw
        case rel => exact ⟨k + 1, HKL.out, by rw [HNX.out], hJ3, HK3⟩
        case measure => simp [intOf] <;> omega
      · exact ⟨rfl, .inr ⟨ch, rfl, hJp⟩⟩
    · obtain rfl : k = n := by omega
      rw [Nat.sub_self]
      gi_wp2
      go_end0
      exact .inl ⟨⟨_, rfl⟩, hj⟩
end Go.Proofs.YtkohhdkkbaifoaaGreatDoor

/-
  A text in pieces, with commas between two: strings.SplitSeq.
-/
namespace Go.Proofs.YtkohhdkkbaifoaaGreatDoor
open Go.RowKit PK Vg
attribute [local go_sem] Oper.semAt_some

/-- What is left behind k pieces; the piece that comes; where it begins; how many there are. -/
def rst (l : List UInt8) : Nat → List UInt8
  | 0 => l
  | k + 1 => (rst l k).drop ((upto 44 (rst l k)).length + 1)
def pce (l : List UInt8) (k : Nat) : List UInt8 := upto 44 (rst l k)
def off (l : List UInt8) : Nat → Nat
  | 0 => 0
  | k + 1 => off l k + (pce l k).length + 1
def pcn (l : List UInt8) : Nat := l.count 44 + 1
theorem count_upto (c : UInt8) : ∀ l : List UInt8, (l.count c = 0 ∧ upto c l = l) ∨ ((upto c l).length < l.length ∧ l.count c = (l.drop ((upto c l).length + 1)).count c + 1)
  | [] => .inl ⟨rfl, rfl⟩
  | b :: l => by
    by_cases hb : b = c
    · right
      subst hb
      unfold upto
      simp
    · have hb2 : (b != c) = true := by simp [hb]
      have hu : upto c (b :: l) = b :: upto c l := by unfold upto; rw [List.takeWhile_cons, hb2]; rfl
      rw [hu]
      have hc : (b :: l).count c = l.count c := by rw [List.count_cons]; simp [hb]
      rw [hc]
      rcases count_upto c l with ⟨h1, h2⟩ | ⟨h1, h2⟩
      · exact .inl ⟨h1, by rw [h2]⟩
      · right
        refine ⟨by simp; omega, ?_⟩
        rw [h2]
        rfl
theorem rst_count (l : List UInt8) : ∀ k, k < pcn l → (rst l k).count 44 + k = l.count 44
  | 0, _ => rfl
  | k + 1, h => by
    have ih := rst_count l k (by omega)
    unfold pcn at h
    rcases count_upto 44 (rst l k) with ⟨h1, _⟩ | ⟨_, h2⟩
    · omega
    · show ((rst l k).drop ((upto 44 (rst l k)).length + 1)).count 44 + (k + 1) = _
      omega
theorem rst_mid (l : List UInt8) {k : Nat} (h : k + 1 < pcn l) : Lib.indexByte (rst l k) 44 = ((pce l k).length : Int) ∧ (pce l k).length < (rst l k).length := by
  have hc := rst_count l k (by omega)
  unfold pcn at h
  rcases count_upto 44 (rst l k) with ⟨h1, _⟩ | ⟨h1, h2⟩
  · omega
  · rcases upto_index 44 (rst l k) with ⟨h3, h4⟩ | h3
    · rw [h4] at h1; omega
    · exact h3
theorem rst_last (l : List UInt8) {k : Nat} (h : k + 1 = pcn l) : Lib.indexByte (rst l k) 44 = -1 ∧ pce l k = rst l k := by
  have hc := rst_count l k (by omega)
  unfold pcn at h
  rcases count_upto 44 (rst l k) with ⟨h1, h2⟩ | ⟨_, h2⟩
  · rcases upto_index 44 (rst l k) with h3 | ⟨_, h4⟩
    · exact h3
    · rw [h2] at h4; omega
  · omega
theorem rst_len (l : List UInt8) : ∀ k, (rst l k).length ≤ l.length
  | 0 => Nat.le_refl _
  | k + 1 => by
    show ((rst l k).drop _).length ≤ _
    rw [List.length_drop]
    have := rst_len l k
    omega
theorem rst_off (l : List UInt8) : ∀ k, k < pcn l → (rst l k).length + off l k = l.length
  | 0, _ => rfl
  | k + 1, h => by
    have ih := rst_off l k (by omega)
    have hm := (rst_mid l h).2
    show ((rst l k).drop ((upto 44 (rst l k)).length + 1)).length + (off l k + (pce l k).length + 1) = _
    rw [List.length_drop]
    unfold pce at hm ⊢
    omega
/-- The boxes of the iterator. -/
structure SsAt (W : World) (bp bs bv : Nat) (s : ByteArray) : Prop where
  sep : RowAt W bp 9 #[.string ⟨#[44]⟩]
  txt : RowAt W bs 9 #[.string s]
  sav : RowAt W bv 3 #[.int .i64 0]
  ne : bp ≠ bs ∧ bv ≠ bs
def KsP (bp bs bv : Nat) (W W' : World) : Prop := W'.heap[bp]? = W.heap[bp]? ∧ W'.heap[bs]? = W.heap[bs]? ∧ W'.heap[bv]? = W.heap[bv]? ∧ W.heap.size ≤ W'.heap.size
theorem KsP.trans {bp bs bv : Nat} {A B C : World} (h : KsP bp bs bv A B) (k : KsP bp bs bv B C) : KsP bp bs bv A C := ⟨k.1.trans h.1, k.2.1.trans h.2.1, k.2.2.1.trans h.2.2.1, Nat.le_trans h.2.2.2 k.2.2.2⟩
theorem SsAt.keep {bp bs bv : Nat} {W W' : World} {s : ByteArray} (h : SsAt W bp bs bv s) (k : KsP bp bs bv W W') : SsAt W' bp bs bv s := ⟨k.1.trans h.sep, k.2.1.trans h.txt, k.2.2.1.trans h.sav, h.ne⟩
theorem SsAt.set {bp bs bv : Nat} {W : World} {s : ByteArray} (h : SsAt W bp bs bv s) (t : ByteArray) : SsAt (W.setCell ⟨bs, 0, none⟩ (.string t)) bp bs bv t := ⟨RowAt.setOther h.sep _ _ h.ne.1, RowAt.set h.txt 0 _, RowAt.setOther h.sav _ _ h.ne.2, h.ne⟩
def ssM (bs : Nat) (W : World) : Nat := match W.cell? ⟨bs, 0, none⟩ with
  | some (.string t) => t.data.toList.length
  | _ => 0
theorem ba_ext {l : List UInt8} {s : ByteArray} (h : s.data.toList = l) : (⟨l.toArray⟩ : ByteArray) = s := by
  cases s
  rw [← h]
set_option maxRecDepth 100000 in
set_option maxHeartbeats 2000000 in
theorem split_all (bp bs bv : Nat) (s : ByteArray) (hs : s.size ≤ 65536) (w0 : World) (m : Nat) (h0 : SsAt w0 bp bs bv s) :
    SeqAll Fence.wide m Tryz.prog 261 #[.pointer (some ⟨bp, 0, none⟩), .pointer (some ⟨bs, 0, none⟩), .pointer (some ⟨bv, 0, none⟩)] (pcn s.data.toList) (fun k => #[.string ⟨(pce s.data.toList k).toArray⟩]) (fun b => b = bs) (KsP bp bs bv) w0 := by
  intro l J Jp W hW hJ hY hj0
  have hS0 : SsAt W bp bs bv s := ⟨RowAt.below h0.sep hW (RowAt.lt h0.sep), RowAt.below h0.txt hW (RowAt.lt h0.txt), RowAt.below h0.sav hW (RowAt.lt h0.sav), h0.ne⟩
  have HY : Hid (∀ k W1, J k W1 → k < pcn s.data.toList → YieldAt Fence.wide (m - 1) Tryz.prog l #[.string ⟨(pce s.data.toList k).toArray⟩] W1 fun e W' => (e = .returned (.bool true) ∧ J (k + 1) W' ∧ KsP bp bs bv W1 W') ∨ (∃ ch, e = .panicked ch ∧ Jp ch W')) := hY
  have HJ : Hid (AbidesOf W.heap.size (fun b => b = bs) J) := hJ
  have HSZ : Hid (s.data.toList.length ≤ 65536) := by rw [Hid, ← Pl.size_len s]; exact hs
  have c1 := RowAt.cell hS0.sep (i := 0) rfl
  generalize hls : s.data.toList = L at *
  have HS0 : Hid (SsAt W bp bs bv ⟨(rst L 0).toArray⟩) := by
    have e : (⟨(rst L 0).toArray⟩ : ByteArray) = s := by rw [← hls]; rfl
    rw [Hid, e]
    exact hS0
  clear h0 hS0 hY hJ hs hW hls
  refine callsIn_of_wp Tryz.func261 rfl trivial ?_ rfl
  simp only [Tryz.ntmps261, List.size_toArray, List.length_cons, List.length_nil, Nat.reduceAdd, Nat.reduceSub, Array.replicate_succ, Array.replicate_zero, List.push_toArray, List.append_toArray, List.nil_append, List.cons_append]
  gi_wp2
  gi_loopw [7] (fun _ wr => ∃ k : Nat, k < pcn L ∧ J k wr ∧ Hid (SsAt wr bp bs bv ⟨(rst L k).toArray⟩) ∧ Hid (W.heap.size ≤ wr.heap.size)) (fun _ wr => ssM bs wr)
  case atStart => exact ⟨0, by unfold pcn; omega, hj0, HS0, Nat.le_refl _⟩
  case round =>
    obtain ⟨k, hk, hj, HSK, HWS⟩ := hrel
    obtain ⟨T, hT⟩ : ∃ T : ByteArray, T = ⟨(rst L k).toArray⟩ := ⟨_, rfl⟩
    have HTL : Hid (T.data.toList = rst L k) := by rw [Hid, hT]
    have HTS : T.size = (rst L k).length := by rw [Pl.size_len, HTL.out]
    rw [← hT] at HSK
    have ks := RowAt.cell HSK.out.sep (i := 0) rfl
    have kt := RowAt.cell HSK.out.txt (i := 0) rfl
    have kv := RowAt.cell HSK.out.sav (i := 0) rfl
    have HI : Hid _ := index1_any T 44 wr
    rw [HTL.out] at HI
    have hll := rst_len L k
    have HMM : Hid (ssM bs wr = T.data.toList.length) := by rw [Hid]; unfold ssM; rw [kt]; rfl
    by_cases hlast : k + 1 < pcn L
    · obtain ⟨hm1, hm2⟩ := rst_mid L hlast
      rw [hm1] at HI
      obtain ⟨j, hjj⟩ : ∃ j : Nat, j = (pce L k).length := ⟨_, rfl⟩
      rw [← hjj] at HI hm2
      have hjT : j < T.size := by omega
      have hjT2 : (j : Int) ≤ (T.size : Int) := by omega
      have hjT3 : (j : Int) + 1 ≤ (T.size : Int) := by omega
      have hT65 : (T.size : Int) ≤ 65536 := by have := HSZ.out; omega
      obtain ⟨fn, tmps, assign, body, hy, hR⟩ := HY.out k wr hj hk
      have hpc : (⟨(pce L k).toArray⟩ : ByteArray) = T.extract 0 j := ba_ext (by rw [ext_list, hjj, HTL.out]; show List.drop 0 (List.take (upto 44 _).length _) = _; rw [upto_take]; rfl)
      rw [hpc] at hy
      have HRI : Hid _ := hR
      have HNX : Hid ((⟨(rst L (k + 1)).toArray⟩ : ByteArray) = T.extract (j + 1) T.size) := ba_ext (by
        rw [ext_list, HTL.out, List.take_of_length_le (by omega), hjj]
        rfl)
      have HNL : Hid ((T.extract (j + 1) T.size).data.toList.length < T.data.toList.length) := by
        rw [Hid, ext_list, HTL.out, List.take_of_length_le (by omega), List.length_drop]
        omega
      have HKL : Hid (k + 1 < pcn L) := hlast
      clear hR hm1 hpc hlast hj hk hjj hm2 hll HTS hT
      have hY : (j : Int) ≠ -1 := by omega
      gi_wp2
      refine ⟨trivial, fun h => (by cases h), ?_⟩
      refine (callsIn_wide.2 HI.out).mono ?_
      rintro e V ⟨rfl, rfl⟩
      gi_wp2
      refine ⟨fun h => (by cases h), ?_⟩
      refine RoundIn.mono HRI.out ?_
      rintro e W3 (⟨rfl, hJ3, hk3⟩ | ⟨ch, rfl, hJp⟩)
      · have HS3 : Hid (SsAt W3 bp bs bv T) := HSK.out.keep hk3
        have ks3 := RowAt.cell HS3.out.sep (i := 0) rfl
        have kt3 := RowAt.cell HS3.out.txt (i := 0) rfl
        have f0 := RowAt.frozen HS3.out.txt 0
        have HG : Hid (W.heap.size ≤ W3.heap.size) := Nat.le_trans HWS.out hk3.2.2.2
        clear ks kt kv hk3 HSK HRI HWS
        gi_wp2
        go_roundw
        case rel =>
          refine ⟨k + 1, HKL.out, ?_, ?_, ?_⟩
          · exact HJ.out _ _ _ (some bs) HG.out hJ3 (grownBy_setCell' _ _ _) (fun r hr => by cases hr; rfl)
          · rw [Hid, HNX.out]; exact HS3.out.set _
          · exact Nat.le_trans HG.out (grownBy_setCell' _ _ _).size
        case measure =>
          rw [HMM.out]
          have := RowAt.cell (HS3.out.set (T.extract (j + 1) T.size)).txt (i := 0) rfl
          unfold ssM
          rw [this]
          exact HNL.out
      · exact ⟨rfl, .inr ⟨ch, rfl, hJp⟩⟩
    · have hlast : k + 1 = pcn L := by omega
      obtain ⟨hm1, hm2⟩ := rst_last L hlast
      rw [hm1] at HI
      obtain ⟨fn, tmps, assign, body, hy, hR⟩ := HY.out k wr hj hk
      have HRI : Hid _ := hR
      have hpc : (⟨(pce L k).toArray⟩ : ByteArray) = T := by rw [hm2, ← hT]
      rw [hpc] at hy
      clear hR hm1 hm2 hpc hj hk hll HTS hT
      gi_wp2
      refine ⟨trivial, fun h => (by cases h), ?_⟩
      refine (callsIn_wide.2 HI.out).mono ?_
      rintro e V ⟨rfl, rfl⟩
      gi_wp2
      refine ⟨fun h => (by cases h), ?_⟩
      refine RoundIn.mono HRI.out ?_
      rintro e W3 (⟨rfl, hJ3, hk3⟩ | ⟨ch, rfl, hJp⟩)
      · rw [hlast] at hJ3
        clear ks kt kv hk3 HSK HRI hy
        gi_wp2
        go_end0
        exact .inl ⟨⟨_, rfl⟩, hJ3⟩
      · exact ⟨rfl, .inr ⟨ch, rfl, hJp⟩⟩
end Go.Proofs.YtkohhdkkbaifoaaGreatDoor
