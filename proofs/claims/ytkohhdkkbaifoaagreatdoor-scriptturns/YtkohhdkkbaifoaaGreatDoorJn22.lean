/-
  Several texts, joined: PRead, KThen, ScS.
-/
import Derived.Test.YtkohhdkkbaifoaaGreatDoorPReader
import Derived.Test.YtkohhdkkbaifoaaGreatDoorJn16
import Derived.Deep.QuietTactic
import Derived.BigQuiet
import Derived.Test.YtkohhdkkbaifoaaGreatDoorJn19
import Derived.Test.YtkohhdkkbaifoaaGreatDoorJn21
/-
  Contract of perm.Read.
-/
namespace Go.Proofs.YtkohhdkkbaifoaaGreatDoor
open Go.RowKit PK

def rd0 : Rd := ⟨fun i => i, fun _ => false, false, 0, 0, 0⟩
/-- What has been read of the first k bytes. -/
def rdN (t : List UInt8) : Nat → Rd
  | 0 => rd0
  | k + 1 => (rdN t k).next (t.getD k 0).toNat
/-- The first byte with which a text cannot go on, among the first k. -/
def rdErr (t : List UInt8) : Nat → Option (Int × Nat)
  | 0 => none
  | k + 1 => match rdErr t k with
    | some x => some x
    | none => if (rdN t k).err (t.getD k 0).toNat ≠ 0 then some ((rdN t k).err (t.getD k 0).toNat, k) else none
def readOut (t : List UInt8) : (Nat → Int) × Int × Nat :=
  match rdErr t t.length with
  | some x => (fun _ => 0, x.1, x.2)
  | none => if (rdN t t.length).op = true then (fun _ => 0, 2, t.length) else (Pm.up (rdN t t.length).p, 0, 0)
theorem rdErr_keep (t : List UInt8) (k n : Nat) (x : Int × Nat) (h : rdErr t k = some x) (hn : k ≤ n) : rdErr t n = some x := by
  induction n with
  | zero => have : k = 0 := by omega
            subst this; exact h
  | succ n ih =>
    by_cases e : k = n + 1
    · rw [← e]; exact h
    · have := ih (by omega)
      show (match rdErr t n with | some x => some x | none => _) = _
      rw [this]
theorem rdErr_succ (t : List UInt8) (k : Nat) (h : rdErr t k = none) (hz : (rdN t k).err (t.getD k 0).toNat = 0) : rdErr t (k + 1) = none := by
  show (match rdErr t k with | some x => some x | none => if (rdN t k).err (t.getD k 0).toNat ≠ 0 then some ((rdN t k).err (t.getD k 0).toNat, k) else none) = none
  rw [h]
  exact if_neg (fun hn => hn hz)
theorem rdErr_stop (t : List UInt8) (k : Nat) (h : rdErr t k = none) (hz : (rdN t k).err (t.getD k 0).toNat ≠ 0) (hk : k < t.length) : rdErr t t.length = some ((rdN t k).err (t.getD k 0).toNat, k) := by
  refine rdErr_keep t (k + 1) t.length _ ?_ (by omega)
  show (match rdErr t k with | some x => some x | none => if (rdN t k).err (t.getD k 0).toNat ≠ 0 then some ((rdN t k).err (t.getD k 0).toNat, k) else none) = _
  rw [h]
  exact if_pos hz
theorem rdN_long (t : List UInt8) : ∀ k, (rdN t k).long ≤ k ∧ ((rdN t k).long = 0 ∨ (rdN t k).last < 26)
  | 0 => ⟨Nat.le_refl _, .inl rfl⟩
  | k + 1 => by
    have ih := rdN_long t k
    show ((rdN t k).next (t.getD k 0).toNat).long ≤ k + 1 ∧ _
    show _ ∧ (((rdN t k).next (t.getD k 0).toNat).long = 0 ∨ ((rdN t k).next (t.getD k 0).toNat).last < 26)
    generalize rdN t k = s at *
    generalize (t.getD k 0).toNat = c
    unfold Rd.next
    split
    · exact ⟨by simp, .inl rfl⟩
    · split
      · exact ⟨by simpa using (by omega : s.long ≤ k + 1), by simpa using ih.2⟩
      · split
        · rename_i h1 h2 h3
          unfold Rd.nextL
          split
          · exact ⟨by omega, ih.2⟩
          · exact ⟨by simp [Rd.letter]; omega, .inr (by simp [Rd.letter]; omega)⟩
        · exact ⟨by omega, ih.2⟩
theorem fill_one (place : Nat → Option (Nat × Nat)) (c : Array Value) (k off n : Nat) (v : Value) (hp : place k = some (off, n)) (hv : v.cells.size = n) (hc : off + n ≤ c.size) :
    Instr.fill place c [(k, v)] = some (v.cells.zipIdx.foldl (fun cs x => cs.setIfInBounds (off + x.2) x.1) c) := by
  rw [Instr.fill, hp]
  simp only
  rw [if_neg (by rw [hv]; simp; omega)]
  rfl
theorem built_reader (parts : List (Nat × Value)) : Tryz.prog.built 261 parts = Instr.fill (fun i => (#[(0, 26), (26, 26), (52, 1), (53, 1), (54, 1), (55, 1)] : Array (Nat × Nat))[i]?) (rcells ⟨fun _ => 0, fun _ => false, false, 0, 0, 0⟩) parts := by kernel_rfl
theorem built_reader_p (f : Nat → Nat) : Tryz.prog.built 261 [(0, .agg (ints 26 (Pm.up f)))] = some (rcells ⟨f, fun _ => false, false, 0, 0, 0⟩) := by
  rw [built_reader, fill_one _ _ 0 0 26 (.agg (ints 26 (Pm.up f))) rfl (ints_size 26 _) (by rw [rcells, tab_size]; decide)]
  refine congrArg some ?_
  have h0 : (Value.agg (ints 26 (Pm.up f))).cells = ints 26 (Pm.up f) := rfl
  rw [h0, ← Array.foldl_toList, Array.toList_zipIdx]
  have h1 := foldl_lay 56 0 (ints 26 (Pm.up f)).toList 0 (rcell ⟨fun _ => 0, fun _ => false, false, 0, 0, 0⟩)
  refine Eq.trans h1 ?_
  refine tab_ext fun i hi => ?_
  rw [ints_toList]
  by_cases e : i < 26
  · rw [if_pos (by simp; omega)]
    simp [e, rcell, Pm.up]
  · rw [if_neg (by simp; omega)]
    simp [e, rcell]
theorem info_reader : (Tryz.prog.info? 261).map (·.size) = some 56 := by kernel_rfl
theorem info_fault : (Tryz.prog.info? 35).map (·.size) = some 2 := by kernel_rfl
theorem wpList_buildOne {P : Program} {ops : Array Oper} {rest : List Oper} {op : Oper} {a : Act} {w : World} {Q : Exit → Act → World → Prop} (hgd : op.guard = none) (t : TypeId) (k : Nat) (x : Operand) (ho : op.op = .build t #[(k, x)])
    (v : Value) (hx : a.eval x = v) (cells : Array Value) (hb : P.built t [(k, v)] = some cells) (h : wpList P ops Q rest (a.put op.dst (.agg cells)) w) : wpList P ops Q (op :: rest) a w :=
  wpList_plain hgd fun _ hK => by
    unfold Oper.wp execOp
    have hm : (#[(k, x)] : Array (Nat × Operand)).map (fun (i, x) => (i, a.eval x)) = #[(k, v)] := by simp [hx]
    simp only [ho, Sem.run_bind, hm, run_build w t #[(k, v)] cells hb, Result.andThen_ok]
    exact hK _ _ h
theorem results_cells2P {P : Program} {fn : Func} {p q : Tmp} {ty ty2 : TypeId} (h : fn.results = #[.cell p ty, .cell q ty2]) (tmps : Array Value) (w : World) (g g2 : Nat) (t t2 : TypeId) (cs cs2 : Array Value) (fr fr2 : Nat × Nat) (d d2 : TypeDesc)
    (hp : tmps.getD p undef = .pointer (some ⟨g, 0, none⟩)) (hq : tmps.getD q undef = .pointer (some ⟨g2, 0, none⟩)) (hg : w.heap[g]? = some (.cells cs t fr)) (hg2 : w.heap[g2]? = some (.cells cs2 t2 fr2))
    (hu : P.underlying ty = some d) (hd : (match d with | .struct _ | .array _ _ => true | _ => false) = true) (hi : (P.info? ty).map (·.size) = some cs.size)
    (hu2 : P.underlying ty2 = some d2) (hd2 : (match d2 with | .struct _ | .array _ _ => true | _ => false) = true) (hi2 : (P.info? ty2).map (·.size) = some cs2.size) :
    (results fn tmps).run P w = .ok (.tuple #[.agg cs, .agg cs2]) w := by
  have hp' : tmps[p]?.getD undef = .pointer (some ⟨g, 0, none⟩) := by simpa using hp
  have hq' : tmps[q]?.getD undef = .pointer (some ⟨g2, 0, none⟩) := by simpa using hq
  simp [results, h, hp', hq', asAddr, run_loadVar_row w g t ty cs fr d hg hu hd hi, run_loadVar_row w g2 t2 ty2 cs2 fr2 d2 hg2 hu2 hd2 hi2]
theorem two_oneP (a b : Int) : (#[.int .i64 a, .int .i64 b] : Array Value).all (·.oneCell') = true := by
  rw [Array.all_eq_true_iff_forall_mem]
  intro v hv
  simp at hv
  rcases hv with rfl | rfl <;> rfl
theorem byteAt (t : ByteArray) (k : Nat) (hk : k < t.size) : t.data.toList.getD k 0 = t[k] := by
  have hk' : k < t.data.toList.length := hk
  simp only [List.getD, List.getElem?_eq_getElem hk']
  rfl
theorem rd_range {w : World} {b : Nat} {T : TypeId} {s : Rd} (h : RowAt w b T (rcells s)) : w.rangeAt b 0 (ints 26 (Pm.up s.p)).toList := fun j v hv => by
  have hj : j < 26 := by
    have := (List.getElem?_eq_some_iff.1 hv).1
    simpa [ints_size] using this
  have hv' : (ints 26 (Pm.up s.p))[j]? = some v := by simpa using hv
  rw [ints_get _ hj] at hv'
  have := (rd_cells h).1 j hj
  have e : (⟨b, 0 + j, none⟩ : Addr) = ⟨b, j, none⟩ := by simp
  rw [e, this]
  exact hv'
/-- Behind a call: the two results' places. -/
theorem afterRead {w W1 : World} {T U : TypeId} {z : Nat → Int} {c : Array Value} (hb : Below ((w.alloc (.cells (ints 26 z) T)).alloc (.cells c U)).heap.size ((w.alloc (.cells (ints 26 z) T)).alloc (.cells c U)) W1) :
    RowAt W1 w.heap.size T (ints 26 z) ∧ RowAt W1 (w.heap.size + 1) U c ∧ Below w.heap.size w W1 ∧ w.heap.size + 2 ≤ W1.heap.size := by
  have hs := hb.size
  simp at hs
  refine ⟨RowAt.below ((RowAt.new w _ _).alloc _) hb (by simp <;> omega), RowAt.below (RowAt.newAt (by simp)) hb (by simp <;> omega), ?_, hs⟩
  exact (((Below.refl _ _).alloc (Nat.le_refl _) _).alloc (by simp) _).trans (hb.mono (by simp <;> omega))

set_option maxHeartbeats 4000000 in
theorem read_any (t : ByteArray) (hs : t.size ≤ maxLen) (w : World) :
    Calls Tryz.prog 231 #[.string t] w fun e w' => e = .returned (.tuple #[.agg (ints 26 (readOut t.data.toList).1), .agg #[.int .i64 (readOut t.data.toList).2.1, .int .i64 ((readOut t.data.toList).2.2 : Nat)]]) ∧ Below w.heap.size w w' := by
  unfold maxLen at hs
  have HLN : Hid (t.data.toList.length = t.size) := rfl
  go_enter Tryz.func231, Tryz.ntmps231
  go_wp2_with fail
  rw [zero26]
  refine (same_anyP _).mono ?_
  rintro e W1 ⟨rfl, hb0⟩
  obtain ⟨r1, r2, hb1, hs1⟩ := afterRead hb0
  clear hb0
  go_wp2_with (first
    | refine wpList_buildOne rfl 261 0 _ rfl (.agg (ints 26 (Pm.up fun i => i))) rfl _ (built_reader_p fun i => i) ?_
    | (refine wpList_store_row rfl 261 _ _ rfl W1.heap.size (rcells rd0) rfl rfl 261 _ (RowAt.new W1 _ _) (by rw [rcells, tab_size]; exact info_reader) (by rw [rcells, tab_size]; rfl) (rcells_one _) ?_; rw [World.setRow_alloc_new]))
  go_loopw [11] (fun i W => ∃ k : Nat, k ≤ t.size ∧ i = .int .i64 k ∧ Hid (rdErr t.data.toList k = none) ∧ RowAt W W1.heap.size 261 (rcells (rdN t.data.toList k)) ∧ RowAt W w.heap.size 27 (ints 26 fun _ => 0) ∧ RowAt W (w.heap.size + 1) 35 #[.int .i64 0, .int .i64 0] ∧ Below w.heap.size w W) (fun i _ => (t.size - intOf i).toNat)
  case atStart =>
    exact ⟨0, Nat.zero_le _, rfl, rfl, RowAt.new _ _ _, r1.alloc _, r2.alloc _, hb1.alloc (by omega) _⟩
  case round =>
    obtain ⟨k, hk, rfl, HN, hrd, hz, hfl, hb⟩ := hrel
    clear r1 r2 hb1
    have hd1 : W1.heap.size ≠ w.heap.size := by omega
    have hd2 : W1.heap.size ≠ w.heap.size + 1 := by omega
    by_cases hlt : k < t.size
    · have HB : Hid ((t.data.toList.getD k 0).toNat = t[k].toNat) := by rw [Hid, byteAt t k hlt]
      have hl := rdN_long t.data.toList k
      have hcb : t[k].toNat < 256 := UInt8.toNat_lt t[k]
      have HT : Hid (Calls Tryz.prog 252 #[.pointer (some ⟨W1.heap.size, 0, none⟩), .int .u8 (t[k].toNat : Nat)] wr fun e w' => e = .returned (.int .i64 ((rdN t.data.toList k).err t[k].toNat)) ∧ RowAt w' W1.heap.size 261 (rcells ((rdN t.data.toList k).next t[k].toNat)) ∧ Only W1.heap.size wr w') :=
        take_any (rdN t.data.toList k) W1.heap.size t[k].toNat hcb (by omega) hl.2 wr hrd
      obtain ⟨E, hE⟩ : ∃ E, E = (rdN t.data.toList k).err t[k].toNat := ⟨_, rfl⟩
      rw [← hE] at HT
      have HE : Hid (E = (rdN t.data.toList k).err t[k].toNat) := hE
      clear hE hl
      by_cases e0 : E = 0
      · rw [e0] at HT
        have HZ : Hid (E = 0) := e0
        clear e0
        go_wp2_with fail
        refine HT.out.mono ?_
        rintro e w2 ⟨rfl, hrd2, o2⟩
        go_wp2
        go_roundw
        case rel =>
          refine ⟨k + 1, by omega, by go_num, ?_, ?_, (o2.block _ (Ne.symm hd1)).trans hz, (o2.block _ (Ne.symm hd2)).trans hfl, ⟨o2.os.trans hb.os, o2.tape.trans hb.tape, o2.output.trans hb.output, by rw [o2.size]; exact hb.size, fun j hj => (o2.block j (by omega)).trans (hb.block j hj)⟩⟩
          · exact rdErr_succ _ k HN.out (by rw [HB.out, ← HE.out]; exact HZ.out)
          · show RowAt _ _ _ (rcells ((rdN t.data.toList k).next (t.data.toList.getD k 0).toNat))
            rw [HB.out]
            exact hrd2
        case measure => simp [intOf]; omega
      · have hne : (E != 0) = true := by simpa using e0
        have HO : Hid (readOut t.data.toList = (fun _ => 0, E, k)) := by
          have := rdErr_stop t.data.toList k HN.out (by rw [HB.out, ← HE.out]; exact e0) (by rw [HLN.out]; exact hlt)
          rw [HB.out, ← HE.out] at this
          rw [Hid, readOut, this]
        clear e0
        go_wp2_with fail
        refine HT.out.mono ?_
        rintro e w2 ⟨rfl, hrd2, o2⟩
        have hz2 : RowAt w2 w.heap.size 27 (ints 26 fun _ => 0) := (o2.block _ (Ne.symm hd1)).trans hz
        have hfl2 : RowAt w2 (w.heap.size + 1) 35 #[.int .i64 0, .int .i64 0] := (o2.block _ (Ne.symm hd2)).trans hfl
        have hb2 : Below w.heap.size w w2 := ⟨o2.os.trans hb.os, o2.tape.trans hb.tape, o2.output.trans hb.output, by rw [o2.size]; exact hb.size, fun j hj => (o2.block j (by omega)).trans (hb.block j hj)⟩
        go_wp2_with (first
          | refine wpList_build0 rfl 27 rfl _ built_permP ?_
          | refine wpList_store_row rfl 27 _ _ rfl w.heap.size (ints 26 fun _ => 0) rfl rfl 27 _ hz2 (by rw [ints_size]; exact info_perm) (by simp only [ints_size]) (ints_one _ _) ?_
          | refine wpList_store_row rfl 35 _ _ rfl (w.heap.size + 1) #[.int .i64 E, .int .i64 (k : Int)] rfl rfl 35 _ (hfl2.rowOther _ _ (by omega)) info_fault rfl (two_oneP _ _) ?_)
        rw [HO.out]
        exact bodyPost_ret (v := .tuple #[.agg (ints 26 fun _ => 0), .agg #[.int .i64 E, .int .i64 (k : Int)]]) (results_cells2P rfl _ _ w.heap.size (w.heap.size + 1) 27 35 _ _ (0, 0) (0, 0) _ _ rfl rfl ((hz2.row _).rowOther _ _ (by omega)) ((hfl2.rowOther _ _ (by omega)).row _) Tryz.underlying27 rfl (by rw [ints_size]; exact info_perm) Tryz.underlying35 rfl info_fault) rfl ⟨rfl, Below.setRow (Below.setRow hb2 _ (Nat.le_refl _) _) _ (by omega) _⟩
    · have HK : Hid (k = t.size) := by rw [Hid]; omega
      obtain ⟨_, _, hop, _⟩ := rd_cells hrd
      cases ho : (rdN t.data.toList k).op
      · rw [ho] at hop
        have HO : Hid (readOut t.data.toList = (Pm.up (rdN t.data.toList k).p, 0, 0)) := by
          have e1 : t.data.toList.length = k := HLN.out.trans HK.out.symm
          rw [Hid, readOut, e1, HN.out]
          simp [ho]
        clear ho
        have hrange : wr.rangeAt W1.heap.size 0 (ints 26 (Pm.up (rdN t.data.toList k).p)).toList := rd_range hrd
        have HRG : Hid (wr.rangeAt W1.heap.size 0 (ints 26 (Pm.up (rdN t.data.toList k).p)).toList) := hrange
        clear hrange
        go_wp2_with (first
          | refine wpList_load_mid rfl 27 _ rfl W1.heap.size 0 rfl (ints 26 (Pm.up (rdN t.data.toList k).p)).toList _ HRG.out Tryz.underlying27 rfl (by rw [Array.length_toList, ints_size]; exact info_perm) ?_
          | refine wpList_store_row rfl 27 _ _ rfl w.heap.size (ints 26 (Pm.up (rdN t.data.toList k).p)) rfl rfl 27 _ hz (by rw [ints_size]; exact info_perm) (by simp only [ints_size]) (ints_one _ _) ?_
          | refine wpList_store_row rfl 35 _ _ rfl (w.heap.size + 1) #[.int .i64 0, .int .i64 0] rfl rfl 35 _ (hfl.rowOther _ _ (by omega)) info_fault rfl (two_oneP _ _) ?_)
        rw [HO.out]
        exact bodyPost_ret (v := .tuple #[.agg (ints 26 (Pm.up (rdN t.data.toList k).p)), .agg #[.int .i64 0, .int .i64 0]]) (results_cells2P rfl _ _ w.heap.size (w.heap.size + 1) 27 35 _ _ (0, 0) (0, 0) _ _ rfl rfl ((hz.row _).rowOther _ _ (by omega)) ((hfl.rowOther _ _ (by omega)).row _) Tryz.underlying27 rfl (by rw [ints_size]; exact info_perm) Tryz.underlying35 rfl info_fault) rfl ⟨rfl, Below.setRow (Below.setRow hb _ (Nat.le_refl _) _) _ (by omega) _⟩
      · rw [ho] at hop
        have HO : Hid (readOut t.data.toList = (fun _ => 0, 2, t.size)) := by
          have e1 : t.data.toList.length = k := HLN.out.trans HK.out.symm
          rw [Hid, readOut, e1, HN.out]
          simp [ho]
          exact HK.out
        clear ho
        go_wp2_with (first
          | refine wpList_build0 rfl 27 rfl _ built_permP ?_
          | refine wpList_store_row rfl 27 _ _ rfl w.heap.size (ints 26 fun _ => 0) rfl rfl 27 _ hz (by rw [ints_size]; exact info_perm) (by simp only [ints_size]) (ints_one _ _) ?_
          | refine wpList_store_row rfl 35 _ _ rfl (w.heap.size + 1) #[.int .i64 2, .int .i64 (t.size : Int)] rfl rfl 35 _ (hfl.rowOther _ _ (by omega)) info_fault rfl (two_oneP _ _) ?_)
        rw [HO.out]
        exact bodyPost_ret (v := .tuple #[.agg (ints 26 fun _ => 0), .agg #[.int .i64 2, .int .i64 (t.size : Int)]]) (results_cells2P rfl _ _ w.heap.size (w.heap.size + 1) 27 35 _ _ (0, 0) (0, 0) _ _ rfl rfl ((hz.row _).rowOther _ _ (by omega)) ((hfl.rowOther _ _ (by omega)).row _) Tryz.underlying27 rfl (by rw [ints_size]; exact info_perm) Tryz.underlying35 rfl info_fault) rfl ⟨rfl, Below.setRow (Below.setRow hb _ (Nat.le_refl _) _) _ (by omega) _⟩
end Go.Proofs.YtkohhdkkbaifoaaGreatDoor

/-
  Contracts of perm.Then and perm.Conjugate.
-/
namespace Go.Proofs.YtkohhdkkbaifoaaGreatDoor
open Go.RowKit PK

def pair (f g : Nat → Int) : Nat → Nat → Int := fun k => if k = 0 then f else g
theorem pair_ok (p q : Nat → Nat) (hp : Pm.IsPerm p) (hq : Pm.IsPerm q) : Pm.firstBad (pair (Pm.up p) (Pm.up q)) 2 = 0 := by
  have h1 := Pm.firstBad_succ (pair (Pm.up p) (Pm.up q)) 0 rfl
  have h2 : Pm.firstBad (pair (Pm.up p) (Pm.up q)) 1 = 0 := h1.trans (Pm.wrong_up p hp)
  exact (Pm.firstBad_succ _ 1 h2).trans (Pm.wrong_up q hq)
set_option maxHeartbeats 2000000 in
theorem then1_any (p q : Nat → Nat) (i : Nat) (hi : i < 26) (hp : Pm.IsPerm p) (bp bq : Nat) (w : World) (hrp : RowAt w bp 27 (ints 26 (Pm.up p))) (hrq : RowAt w bq 27 (ints 26 (Pm.up q))) :
    Calls Tryz.prog 253 #[.int .i64 (i : Int), .pointer (some ⟨bq, 0, none⟩), .pointer (some ⟨bp, 0, none⟩)] w fun e w' => e = .returned (.tuple #[.int .i64 (i : Int), .int .i64 (q (p i) : Nat)]) ∧ Below w.heap.size w w' := by
  have hpi := hp.lt i hi
  have hc1 := hrp.cell (ints_get (Pm.up p) hi)
  have hc2 := hrq.cell (ints_get (Pm.up q) hpi)
  simp only [Pm.up] at hc1 hc2
  clear hrp hrq
  generalize p i = n at *
  go_enter Tryz.func253, Tryz.ntmps253
  go_wp2
  go_quiet (fail)
  go_wp2
  go_ret2
  exact ⟨rfl, rfl, rfl, rfl, Nat.le_refl _, fun _ _ => rfl⟩
set_option maxHeartbeats 2000000 in
theorem then_ok (p q : Nat → Nat) (hp : Pm.IsPerm p) (hq : Pm.IsPerm q) (w : World) :
    Calls Tryz.prog 232 #[.agg (ints 26 (Pm.up p)), .agg (ints 26 (Pm.up q))] w fun e w' => e = .returned (.tuple #[.agg (ints 26 (Pm.up (fun i => q (p i)))), .int .i64 0]) ∧ Below w.heap.size w w' := by
  have H0 : Hid (Pm.firstBad (pair (Pm.up p) (Pm.up q)) 2 = 0) := pair_ok p q hp hq
  have hmf : ∀ (fn : Fn) (first cap : Array Value) (w : World), (Instr.makeFunc fn first cap).run Tryz.prog w = .ok (.func fn first cap) w := fun _ _ _ _ => rfl
  go_enter Tryz.func232, Tryz.ntmps232
  go_wp2_with (first
    | refine wpList_load_row rfl 27 _ rfl w.heap.size rfl 27 (ints 26 (Pm.up p)) (0, 0) _ (((RowAt.new w _ _).alloc _).alloc _) Tryz.underlying27 rfl (by rw [ints_size]; exact info_perm) ?_
    | refine wpList_load_row rfl 27 _ rfl (w.heap.size + 1) rfl 27 (ints 26 (Pm.up q)) (0, 0) _ (by rw [← World.size_alloc w]; exact (RowAt.new _ _ _).alloc _) Tryz.underlying27 rfl (by rw [ints_size]; exact info_perm) ?_
    | refine wpList_build2 rfl 200 27 _ _ rfl 26 (Pm.up p) (Pm.up q) rfl rfl (by decide) Tryz.underlying200 zero_perm (by decide) ?_)
  rw [zero26]
  refine (firstWrong_any (pair (Pm.up p) (Pm.up q)) 2 (Nat.le_refl _) _ _ (by simp) (range_two (RowAt.newAt (by simp)))).mono ?_
  rintro e W1 ⟨rfl, hb0⟩
  obtain ⟨r1, r2, r3, hb1, hs1⟩ := after2 hb0
  clear hb0
  rw [H0.out]
  go_wp2_with fail
  refine (taking_any 253 #[.pointer (some ⟨w.heap.size + 1, 0, none⟩), .pointer (some ⟨w.heap.size, 0, none⟩)] (fun i => i) (Pm.up fun i => q (p i)) (fun _ h => h) _ (by intro args W; go_simp) (fun i hi W hW => then1_any p q i hi hp _ _ W (r1.below hW (by omega)) (r2.below hW (by omega)))).mono ?_
  rintro e W2 ⟨rfl, hb2⟩
  rw [fill_id]
  have hs2 := hb2.size
  have hrow := r3.below hb2 (by omega)
  go_wp2_with (refine wpList_store_row rfl 27 _ _ rfl (w.heap.size + 1 + 1) (ints 26 (Pm.up (fun i => q (p i)))) rfl rfl 27 _ hrow (by rw [ints_size]; exact info_perm) (by simp only [ints_size]) (ints_one _ _) ?_)
  exact bodyPost_ret (v := .tuple #[.agg (ints 26 (Pm.up (fun i => q (p i)))), .int .i64 0]) (results_cell_tmp2 rfl _ _ (w.heap.size + 1 + 1) 27 _ (0, 0) _ _ rfl rfl (hrow.row _) Tryz.underlying27 rfl (by rw [ints_size]; exact info_perm)) rfl ⟨rfl, Below.setRow (hb1.trans (hb2.mono (by omega))) _ (by omega) _⟩
end Go.Proofs.YtkohhdkkbaifoaaGreatDoor

/-
  What a word tells: a key, a reflector, rings or starts, plugs.
-/
namespace Go.Proofs.YtkohhdkkbaifoaaGreatDoor
open Go.RowKit PK Vg

set_option maxRecDepth 100000 in
set_option maxHeartbeats 1000000 in
theorem wkeyW_any (l : List UInt8) (p : Nat) (hs : l.length ≤ 65536) (w : World) :
    Calls Tryz.prog 162 #[wdV l p] w fun e w' => (keyE l = 0 → e = .returned (.string ⟨l.toArray⟩)) ∧ (keyE l ≠ 0 → e = .panicked [flt (keyE l) p]) ∧ Below w.heap.size w w' := by
  obtain ⟨s, hsd⟩ : ∃ s : ByteArray, s = ⟨l.toArray⟩ := ⟨_, rfl⟩
  have hsl : s.data.toList = l := by rw [hsd]
  have hz := Pl.size_len s
  rw [hsl] at hz
  unfold wdV
  rw [← hsd]
  have hb1 : Below w.heap.size w (w.alloc (.cells #[.string s, .int .i64 (p : Int)] 137)) := (Below.refl _ w).alloc (Nat.le_refl _) _
  have hq1 := RowAt.new w 137 #[.string s, .int .i64 (p : Int)]
  have c0 := RowAt.cell hq1 (i := 0) rfl
  have c1 := RowAt.cell hq1 (i := 1) rfl
  have HB : Hid _ := hb1
  have HQ : Hid (RowAt (w.alloc (.cells #[.string s, .int .i64 (p : Int)] 137)) w.heap.size 137 #[.string s, .int .i64 (p : Int)]) := hq1
  have HK : Hid (∀ X, Calls Tryz.prog 28 #[.string s] X fun e w' => e = .returned (.int .i64 (keyE l)) ∧ Below X.heap.size X w') := fun X => by rw [← hsl]; exact wkey_any s X
  generalize keyE l = E at *
  have hss : s.size ≤ 65536 := by omega
  clear hz hsl hsd hb1 hq1 c0 c1
  go_enter Tryz.func162, Tryz.ntmps162
  go_wp2_with fail
  by_cases hE : E = 0
  · have HE0 : Hid (E = 0) := hE
    have HP : Hid (∀ X, Calls Tryz.prog 37 #[.int .i64 E, .int .i64 (p : Int)] X fun e w' => e = .returned (.tuple #[]) ∧ w' = X) := fun X => by rw [hE]; exact pass_ok _ X
    clear hE
    refine wp_region_noPanic ?_
    refine wp_region_held_drew (S := fun W => RowAt W w.heap.size 137 #[.string s, .int .i64 (p : Int)] ∧ Below w.heap.size w W) (by kernel_rfl) ⟨HQ.out, HB.out.drew⟩ (fun hS => ?_)
    refine vtake 0 3 (.pointer (some ⟨w.heap.size, 0, none⟩)) rfl rfl (by kernel_rfl) (by kernel_rfl) (by kernel_rfl) (fun _ _ _ _ h => h) (by rfl) (fun W hW => by clear hS hW; go_simp) hS ?_
    simp only [List.setIfInBounds_toArray, List.set_cons_succ, List.set_cons_zero]
    refine vtake 1 4 (.string s) rfl rfl (by kernel_rfl) (by kernel_rfl) (by kernel_rfl) (fun _ _ _ _ h => h) (by rfl) (fun W hW => by have u := RowAt.cell hW.1 (i := 0) rfl; clear hS hW; go_simp) hS ?_
    simp only [List.setIfInBounds_toArray, List.set_cons_succ, List.set_cons_zero]
    refine vtake 3 6 (.pointer (some ⟨w.heap.size, 1, none⟩)) rfl rfl (by kernel_rfl) (by kernel_rfl) (by kernel_rfl) (fun _ _ _ _ h => h) (by rfl) (fun W hW => by clear hS hW; go_simp) hS ?_
    simp only [List.setIfInBounds_toArray, List.set_cons_succ, List.set_cons_zero]
    refine vtake 4 7 (.int .i64 (p : Int)) rfl rfl (by kernel_rfl) (by kernel_rfl) (by kernel_rfl) (fun _ _ _ _ h => h) (by rfl) (fun W hW => by have u := RowAt.cell hW.1 (i := 1) rfl; clear hS hW; go_simp) hS ?_
    simp only [List.setIfInBounds_toArray, List.set_cons_succ, List.set_cons_zero]
    refine wpAnyH_ready (rs := [2]) (by kernel_rfl) (by simp) ?_
    refine AllReadyH.cons (o := _) rfl (fun K hK => ?_) AllReadyH.nil
    rw [if_pos (by rfl)]
    go_simp
    refine Calls.mono (HK.out _) ?_
    rintro e Y ⟨rfl, hbx⟩
    refine hK.out _ _ (⟨RowAt.below hS.1 hbx (RowAt.lt hS.1), hS.2.trans (hbx.mono hS.2.size)⟩) (fun hS1 => ?_)
    clear hK hS K
    have hS := hS1
    clear hS1
    refine wpAnyH_ready (rs := [5]) (by kernel_rfl) (by simp) ?_
    refine AllReadyH.cons (o := _) rfl (fun K hK => ?_) AllReadyH.nil
    rw [if_pos (by rfl)]
    go_simp
    refine Calls.mono (HP.out _) ?_
    rintro e Y ⟨rfl, rfl⟩
    refine hK.out _ _ (hS) (fun hS1 => ?_)
    clear hK hS K
    have hS := hS1
    clear hS1
    refine wpAnyH_done (by kernel_rfl) ?_ _
    refine NoPanic.normal ?_
    have HY : Hid (Below w.heap.size w Y) := hS.2
    have u0 := RowAt.cell hS.1 (i := 0) rfl
    have HC : Hid _ := clone_any s hss Y
    clear hS
    go_wp2_with fail
    refine Calls.mono HC.out ?_
    rintro e V ⟨rfl, hb⟩
    go_wp2
    go_ret
    exact ⟨fun _ => rfl, fun h => absurd HE0.out h, HY.out.trans (hb.mono HY.out.size)⟩
  · have HNE2 : Hid (E ≠ 0) := hE
    have HP : Hid (∀ X, Calls Tryz.prog 37 #[.int .i64 E, .int .i64 (p : Int)] X fun e w' => e = .panicked [flt E (p : Int)] ∧ w' = X) := fun X => pass_bad E _ (by simpa using hE) X
    clear hE
    refine wp_region_held_drew (S := fun W => RowAt W w.heap.size 137 #[.string s, .int .i64 (p : Int)] ∧ Below w.heap.size w W) (by kernel_rfl) ⟨HQ.out, HB.out.drew⟩ (fun hS => ?_)
    refine vtakeP 0 3 (.pointer (some ⟨w.heap.size, 0, none⟩)) rfl rfl (by kernel_rfl) (by kernel_rfl) (by kernel_rfl) (fun _ _ _ h => h) (by rfl) (fun W hW => by clear hS hW; go_simp) hS ?_
    simp only [List.setIfInBounds_toArray, List.set_cons_succ, List.set_cons_zero]
    refine vtakeP 1 4 (.string s) rfl rfl (by kernel_rfl) (by kernel_rfl) (by kernel_rfl) (fun _ _ _ h => h) (by rfl) (fun W hW => by have u := RowAt.cell hW.1 (i := 0) rfl; clear hS hW; go_simp) hS ?_
    simp only [List.setIfInBounds_toArray, List.set_cons_succ, List.set_cons_zero]
    refine vtakeP 3 6 (.pointer (some ⟨w.heap.size, 1, none⟩)) rfl rfl (by kernel_rfl) (by kernel_rfl) (by kernel_rfl) (fun _ _ _ h => h) (by rfl) (fun W hW => by clear hS hW; go_simp) hS ?_
    simp only [List.setIfInBounds_toArray, List.set_cons_succ, List.set_cons_zero]
    refine vtakeP 4 7 (.int .i64 (p : Int)) rfl rfl (by kernel_rfl) (by kernel_rfl) (by kernel_rfl) (fun _ _ _ h => h) (by rfl) (fun W hW => by have u := RowAt.cell hW.1 (i := 1) rfl; clear hS hW; go_simp) hS ?_
    simp only [List.setIfInBounds_toArray, List.set_cons_succ, List.set_cons_zero]
    refine wpAnyH_ready (rs := [2]) (by kernel_rfl) (by simp) ?_
    refine AllReadyH.cons (o := _) rfl (fun K hK => ?_) AllReadyH.nil
    rw [if_pos (by rfl)]
    go_simp
    refine Calls.mono (HK.out _) ?_
    rintro e Y ⟨rfl, hbx⟩
    refine hK.out _ _ (⟨RowAt.below hS.1 hbx (RowAt.lt hS.1), hS.2.trans (hbx.mono hS.2.size)⟩) (fun hS1 => ?_)
    clear hK hS K
    have hS := hS1
    clear hS1
    refine wpAnyH_ready (rs := [5]) (by kernel_rfl) (by simp) ?_
    refine AllReadyH.cons (o := _) rfl (fun K hK => ?_) AllReadyH.nil
    rw [if_pos (by rfl)]
    go_simp
    refine Calls.mono (HP.out _) ?_
    rintro e Y ⟨rfl, rfl⟩
    exact ⟨rfl, fun h => absurd h HNE2.out, fun _ => rfl, hS.2⟩
set_option maxRecDepth 100000 in
set_option maxHeartbeats 1000000 in
theorem wmir_any (l : List UInt8) (p : Nat) (w : World) :
    Calls Tryz.prog 200 #[wdV l p] w fun e w' => (miE l = 0 → e = .returned (.agg (ints 26 (miP l)))) ∧ (miE l ≠ 0 → e = .panicked [flt (miE l) p]) ∧ Below w.heap.size w w' := by
  obtain ⟨s, hsd⟩ : ∃ s : ByteArray, s = ⟨l.toArray⟩ := ⟨_, rfl⟩
  have hsl : s.data.toList = l := by rw [hsd]
  have hz := Pl.size_len s
  rw [hsl] at hz
  unfold wdV
  rw [← hsd]
  have hb1 : Below w.heap.size w (w.alloc (.cells #[.string s, .int .i64 (p : Int)] 137)) := (Below.refl _ w).alloc (Nat.le_refl _) _
  have hq1 := RowAt.new w 137 #[.string s, .int .i64 (p : Int)]
  have c0 := RowAt.cell hq1 (i := 0) rfl
  have c1 := RowAt.cell hq1 (i := 1) rfl
  have HB : Hid _ := hb1
  have HQ : Hid (RowAt (w.alloc (.cells #[.string s, .int .i64 (p : Int)] 137)) w.heap.size 137 #[.string s, .int .i64 (p : Int)]) := hq1
  obtain ⟨W2, hW2⟩ : ∃ W2, W2 = (w.alloc (.cells #[.string s, .int .i64 (p : Int)] 137)).alloc (.cells (ints 26 fun _ => 0) 27) := ⟨_, rfl⟩
  have hb2 : Below w.heap.size w W2 := by rw [hW2]; exact HB.out.alloc HB.out.size _
  have hq2 : RowAt W2 w.heap.size 137 #[.string s, .int .i64 (p : Int)] := by rw [hW2]; exact RowAt.alloc hq1 _
  have hr2 : RowAt W2 (w.heap.size + 1) 27 (ints 26 fun _ => 0) := by rw [hW2]; have := RowAt.new (w.alloc (.cells #[.string s, .int .i64 (p : Int)] 137)) 27 (ints 26 fun _ => 0); simpa using this
  have HM : Hid (Calls Tryz.prog 193 #[.string s] W2 fun e w' => e = .returned (.tuple #[.agg (ints 26 (miP l)), .int .i64 (miE l)]) ∧ Below W2.heap.size W2 w') := by rw [← hsl]; exact mirror_any s W2
  have u0 := RowAt.cell hq2 (i := 0) rfl
  have HQ2 : Hid (RowAt W2 w.heap.size 137 #[.string s, .int .i64 (p : Int)]) := hq2
  have HR2 : Hid (RowAt W2 (w.heap.size + 1) 27 (ints 26 fun _ => 0)) := hr2
  have HB2 : Hid _ := hb2
  have hz26 := o_zero v_zero_perm
  clear hz hsl hsd hb1 hq1 c0 c1 hb2 hq2 hr2
  generalize miE l = E at *
  generalize miP l = MP at *
  go_enter Tryz.func200, Tryz.ntmps200
  go_upto_region 1 with fail
  rw [← hW2]
  clear hW2
  go_wp2_with fail
  refine Calls.mono HM.out ?_
  rintro e V ⟨rfl, hb⟩
  have hqV := RowAt.below HQ2.out hb (RowAt.lt HQ2.out)
  have hrV := RowAt.below HR2.out hb (RowAt.lt HR2.out)
  have HBV : Hid (Below w.heap.size w V) := HB2.out.trans (hb.mono HB2.out.size)
  have hbig : w.heap.size + 1 < V.heap.size := RowAt.lt hrV
  clear hb HM u0
  go_upto_region 2 with (first | refine wpList_store_row rfl 27 _ _ rfl V.heap.size (ints 26 MP) rfl rfl 27 _ (RowAt.new V _ _) (by rw [ints_size]; exact info_perm) (by rw [ints_size, ints_size]) (ints_one _ _) ?_)
  obtain ⟨W3, hW3⟩ : ∃ W3, W3 = (V.alloc (.cells (ints 26 fun _ => 0) 27)).setRow V.heap.size (ints 26 MP) := ⟨_, rfl⟩
  have hq3 : RowAt W3 w.heap.size 137 #[.string s, .int .i64 (p : Int)] := by rw [hW3]; exact RowAt.rowOther (RowAt.alloc hqV _) _ _ (by omega)
  have hr3 : RowAt W3 (w.heap.size + 1) 27 (ints 26 fun _ => 0) := by rw [hW3]; exact RowAt.rowOther (RowAt.alloc hrV _) _ _ (by omega)
  have hm3 : RowAt W3 V.heap.size 27 (ints 26 MP) := by rw [hW3]; exact RowAt.row (RowAt.new V _ _) _
  have HB3 : Hid (Below w.heap.size w W3) := by rw [Hid, hW3]; exact PK.Below.setRow (HBV.out.alloc HBV.out.size _) _ HBV.out.size _
  rw [← hW3]
  have u1 := RowAt.cell hq3 (i := 1) rfl
  clear hW3 hqV hrV hz26
  by_cases hE : E = 0
  · have HE0 : Hid (E = 0) := hE
    have HP : Hid (Calls Tryz.prog 37 #[.int .i64 E, .int .i64 (p : Int)] W3 fun e w' => e = .returned (.tuple #[]) ∧ w' = W3) := by rw [hE]; exact pass_ok _ W3
    clear hE
    go_wp2_with fail
    refine Calls.mono HP.out ?_
    rintro e V2 ⟨rfl, rfl⟩
    have HR4 : Hid (RowAt (V2.setRow (w.heap.size + 1) (ints 26 MP)) (w.heap.size + 1) 27 (ints 26 MP)) := RowAt.row hr3 _
    have HB4 : Hid (Below w.heap.size w (V2.setRow (w.heap.size + 1) (ints 26 MP))) := PK.Below.setRow HB3.out _ (by omega) _
    go_wp2_with (first | refine wpList_load_row rfl 27 _ rfl V.heap.size rfl 27 (ints 26 MP) (0, 0) _ hm3 Tryz.underlying27 rfl (by rw [ints_size]; exact info_perm) ?_ | refine wpList_store_row rfl 27 _ _ rfl (w.heap.size + 1) (ints 26 MP) rfl rfl 27 _ hr3 (by rw [ints_size]; exact info_perm) (by rw [ints_size, ints_size]) (ints_one _ _) ?_)
    exact ⟨rfl, _, results_c1 rfl _ _ (w.heap.size + 1) 27 (ints 26 MP) (0, 0) _ rfl HR4.out Tryz.underlying27 rfl (by rw [ints_size]; exact info_perm), fun _ => rfl, fun h => absurd HE0.out h, HB4.out⟩
  · have HNE2 : Hid (E ≠ 0) := hE
    have HP : Hid (Calls Tryz.prog 37 #[.int .i64 E, .int .i64 (p : Int)] W3 fun e w' => e = .panicked [flt E (p : Int)] ∧ w' = W3) := pass_bad E _ (by simpa using hE) W3
    clear hE
    go_wp2_with fail
    refine Calls.mono HP.out ?_
    rintro e V2 ⟨rfl, rfl⟩
    exact ⟨rfl, fun h => absurd h HNE2.out, fun _ => rfl, HB3.out⟩
end Go.Proofs.YtkohhdkkbaifoaaGreatDoor
