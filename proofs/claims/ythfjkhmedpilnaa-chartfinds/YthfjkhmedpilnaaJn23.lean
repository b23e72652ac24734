/-
  Several texts, joined: ZKit, ORef.
-/
import Derived.Test.YthfjkhmedpilnaaJn22
import Derived.Test.YthfjkhmedpilnaaJn18
import Derived.Test.YthfjkhmedpilnaaJn16
import Derived.Deep.OwnRows
import Derived.Lib.SmallJoins
import Derived.Deep.QuietTactic
import Derived.BigQuiet
import Derived.Laws.EntriesVeiled
import Derived.RegionTactic
import Derived.Deep.RegionHeld3
import Derived.OrdersHeld
import Derived.Deep.DeepCutAuto
import Derived.Test.YthfjkhmedpilnaaJn20
import Derived.Test.YthfjkhmedpilnaaJn21
import Derived.Deep.Upon
import Derived.BigRegion
/-
  Laws of no program: bytes in rows, and what is made of them.
-/
namespace Go.Proofs.Ythfjkhmedpilnaa
open Go.RowKit PK Vg Zq

theorem ls_of {l : List UInt8} (h : Pl.Lets l) : Ls l := fun c hc => by
  have := h c hc
  simp [Pl.isL] at this
  omega
theorem two_one (a b : Int) : (#[.int .i64 a, .int .i64 b] : Array Value).all (·.oneCell') = true := by
  rw [Array.all_eq_true_iff_forall_mem]
  intro v hv
  simp at hv
  rcases hv with rfl | rfl <;> rfl
section
variable {P : Program} {ops : Array Oper} {Q : Exit → Act → World → Prop} {md : Region.Mode} {S : World → Prop}
/-- An operation that yields its value in every world that meets S is taken first. -/
theorem vtake (i d : Nat) (v : Value) {oi : Oper} {fuel : Nat} {listed : Array Bool} {tm : Array Value} {df : List Deferred} {w : World} (hi : ops[i]? = some oi) (hd : oi.dst = some d)
    (hs : Region.noSelect ops = true) (hf : Region.free md ops listed i = true) (hr : (Region.ready md ops listed).contains i = true)
    (hQ : ∀ c a a' w, Q (.panic c) a' w → Q (.panic c) a w) (hw : Region.wanted oi (yielded ops tm) = true) (hrun : ∀ W, S W → (execOp (Act.eval ⟨tm, df⟩) oi).run P W = .ok (.value v) W) (hS : S w)
    (h : wpAnyH P md ops Q S fuel (listed.setIfInBounds i true) ⟨tm.setIfInBounds d v, df⟩ w) : wpAnyH P md ops Q S (fuel + 1) listed ⟨tm, df⟩ w := by
  refine wpAnyH_take (i := i) (oi := oi) (v := v) hi hs hf hr (fun c a w => hQ c a _ w) (Or.inl ⟨hw, fun W hW => hrun W hW⟩) hS ?_
  rw [hd]
  exact h
end
theorem v_info_fault : (Try.prog.info? 46).map (·.size) = some 2 := by kernel_rfl
theorem results_cells2 {P : Program} {fn : Func} {p q : Tmp} {ty ty2 : TypeId} (h : fn.results = #[.cell p ty, .cell q ty2]) (tmps : Array Value) (w : World) (g g2 : Nat) (t t2 : TypeId) (cs cs2 : Array Value) (fr fr2 : Nat × Nat) (d d2 : TypeDesc)
    (hp : tmps.getD p undef = .pointer (some ⟨g, 0, none⟩)) (hq : tmps.getD q undef = .pointer (some ⟨g2, 0, none⟩)) (hg : w.heap[g]? = some (.cells cs t fr)) (hg2 : w.heap[g2]? = some (.cells cs2 t2 fr2))
    (hu : P.underlying ty = some d) (hd : (match d with | .struct _ | .array _ _ => true | _ => false) = true) (hi : (P.info? ty).map (·.size) = some cs.size)
    (hu2 : P.underlying ty2 = some d2) (hd2 : (match d2 with | .struct _ | .array _ _ => true | _ => false) = true) (hi2 : (P.info? ty2).map (·.size) = some cs2.size) :
    (results fn tmps).run P w = .ok (.tuple #[.agg cs, .agg cs2]) w := by
  have hp' : tmps[p]?.getD undef = .pointer (some ⟨g, 0, none⟩) := by simpa using hp
  have hq' : tmps[q]?.getD undef = .pointer (some ⟨g2, 0, none⟩) := by simpa using hq
  simp [results, h, hp', hq', asAddr, run_loadVar_row w g t ty cs fr d hg hu hd hi, run_loadVar_row w g2 t2 ty2 cs2 fr2 d2 hg2 hu2 hd2 hi2]
theorem v_info_byte : (Try.prog.info? 5).map (fun i => (i.zero, i.size, i.bytes)) = some (some (.int .u8 0), 1, 1) := by kernel_rfl
theorem v_made_tab (z : Value) (n : Nat) : madeCells #[z] n = tab n fun _ => z := by
  unfold madeCells tab
  apply Array.ext
  · simp
  · intro i h1 h2
    simp [Nat.mod_one]
def byts (n : Nat) (g : Nat → UInt8) : Array Value := tab n fun i => .int .u8 (g i).toNat
theorem byts_set (n : Nat) (g : Nat → UInt8) (i : Nat) (b : UInt8) : (byts n g).setIfInBounds i (.int .u8 b.toNat) = byts n (upd g i b) := by
  unfold byts
  rw [tab_set]
  exact tab_ext fun j _ => by by_cases e : j = i <;> simp [upd, e]
theorem byts_get {n : Nat} (g : Nat → UInt8) {i : Nat} (h : i < n) : (byts n g)[i]? = some (.int .u8 (g i).toNat) := tab_get _ h
theorem byts_new (n : Nat) : (tab n fun _ => .int .u8 0) = byts n fun _ => 0 := rfl
/-- What has been written of l, and nought behind it. -/
def upTo (l : List UInt8) : Nat → UInt8 := fun i => l.getD i 0
theorem upTo_nil : upTo [] = fun _ => 0 := by funext i; simp [upTo]
theorem upTo_snoc (l : List UInt8) (b : UInt8) : upd (upTo l) l.length b = upTo (l ++ [b]) := by
  funext i
  unfold upd upTo
  by_cases h : i = l.length
  · rw [if_pos h, h]; simp [List.getD]
  · rw [if_neg h]
    simp only [List.getD_eq_getElem?_getD]
    by_cases h2 : i < l.length
    · rw [List.getElem?_append_left h2]
    · rw [List.getElem?_eq_none (by omega), List.getElem?_eq_none (by simp; omega)]
theorem byts_all (l : List UInt8) : byts l.length (upTo l) = (Lib.byteCells l).toArray := by
  unfold byts tab Lib.byteCells
  congr 1
  apply List.ext_getElem
  · simp
  · intro i h1 h2
    simp at h1
    simp [upTo, List.getD, h1]
theorem run_string_of_row {P : Program} (w : World) (src dst e : TypeId) (hs : P.underlying src = some (.slice e)) (he : P.underlying e = some (.int .u8)) (hd : P.underlying dst = some .string)
    {g n cap : Nat} {T : TypeId} {l : List UInt8} (hn : l.length = n) (h : RowAt w g T (Lib.byteCells l).toArray) : (convert src dst (.slice (some ⟨g, 0, none⟩) n cap)).run P w = .ok (.string ⟨l.toArray⟩) w := by
  subst hn
  rw [run_convert_bytes_string w src dst e _ _ _ hs he hd]
  have hl := run_loadCells_list (P := P) (w := w) ⟨g, 0, none⟩ (Lib.byteCells l) (fun j v hv => by
    have e : ((⟨g, 0, none⟩ : Addr).add j) = ⟨g, j, none⟩ := by unfold Addr.add; by_cases e0 : j = 0 <;> simp [e0]
    rw [e]
    exact h.cell (by simpa using hv))
  rw [Lib.byteCells_length] at hl
  have e1 : Lib.byteCells l = (l.map fun b => (b.toNat : Int)).map (Value.int .u8) := by simp [Lib.byteCells]
  rw [e1] at hl
  rw [run_bytesToString w _ _ _ _ hl, Kit.foldl_push]
  simp
/-- The bytes of s lie in block g. -/
def PlainAt (W : World) (g : Nat) (s : ByteArray) : Prop := ∀ j, j < s.size → W.cell? ⟨g, j, none⟩ = some (.int .u8 (s.data.toList.getD j 0).toNat)
theorem PlainAt.below {W W' : World} {g : Nat} {s : ByteArray} (h : PlainAt W g s) (hb : Below W.heap.size W W') : PlainAt W' g s := fun j hj => (hb.cell (p := ⟨g, j, none⟩) (cell_block (h j hj))).trans (h j hj)
theorem PlainAt.setCell {W : World} {g : Nat} {s : ByteArray} (h : PlainAt W g s) (a : Addr) (v : Value) (hne : g ≠ a.block) : PlainAt (W.setCell a v) g s := fun j hj => (World.cell?_setCell_other _ _ _ _ (by intro e; exact hne (congrArg Addr.block e).symm)).trans (h j hj)
theorem bytes_below (w : World) (e : TypeId) (s : ByteArray) : Below w.heap.size w (Lib.bytesWorld w e s) := by
  refine ⟨?_, ?_, ?_, by rw [Lib.bytesWorld_size]; omega, fun k hk => Lib.bytesWorld_at_old w e s k (by omega)⟩
  all_goals
    unfold Lib.bytesWorld World.freeze
    split <;> rfl
theorem bytes_plain (w : World) (e : TypeId) (s : ByteArray) : PlainAt (Lib.bytesWorld w e s) w.heap.size s := fun j hj => Lib.bytesWorld_cell w e s j hj
theorem row_next {W : World} {go n : Nat} {T : TypeId} {l : List UInt8} (h : RowAt W go T (byts n (upTo l))) (b : UInt8) : RowAt (W.setCell ⟨go, l.length, none⟩ (.int .u8 b.toNat)) go T (byts n (upTo (l ++ [b]))) := by
  have := h.set l.length (.int .u8 b.toNat)
  rw [byts_set, upTo_snoc] at this
  exact this
theorem ck_of_ls {l : List UInt8} (h : Ls l) (hn : l.length ≤ 65536) : ckE l = 0 ∧ ckAt l = 0 := by
  unfold ckE ckAt
  rw [if_neg (by omega), if_neg (by omega)]
  refine chk_none l (List.findIdx?_eq_none_iff.2 fun c hc => ?_)
  have := h c hc
  simp [Pl.bad, Pl.isL]
  omega
theorem ext_toList (t : ByteArray) (n : Nat) : (t.extract 0 n).data.toList = t.data.toList.take n := by
  simp [ByteArray.data_extract]
theorem ls_take {l : List UInt8} (h : Ls l) (n : Nat) : Ls (l.take n) := fun c hc => h c (List.mem_of_mem_take hc)
theorem ba_size (l : List UInt8) : (⟨l.toArray⟩ : ByteArray).size = l.length := by simp [ByteArray.size]
theorem wpList_cat {P : Program} {ops : Array Oper} {rest : List Oper} {op : Oper} {a : Act} {w : World} {Q : Exit → Act → World → Prop} (hgd : op.guard = none) (t t' : TypeId) (x y : Operand) (ho : op.op = .binOp .add t x y t')
    (S T : ByteArray) (hx : a.eval x = .string S) (hy : a.eval y = .string T) (hsz : S.size + T.size ≤ 9223372036854775807) (h : wpList P ops Q rest (a.put op.dst (.string (S ++ T))) w) : wpList P ops Q (op :: rest) a w :=
  wpList_plain hgd fun _ hK => by
    unfold Oper.wp execOp
    have h1 : ¬ (S.size + T.size > 9223372036854775807) := by omega
    have h2 : (eqGuard .add t x y (.string S) (.string T)).run P w = .ok () w := by simp [eqGuard]
    have h3 : (binOp .add t (.string S) (.string T)).run P w = .ok (.string (S ++ T)) w := by rw [binOp_string_add, run_string_add_if, if_neg h1]
    simp only [ho, hx, hy, Sem.run_bind, h2, h3, Result.andThen_ok]
    exact hK _ _ h
theorem cat_list (S T : ByteArray) : (S ++ T).data.toList = S.data.toList ++ T.data.toList := by simp [ByteArray.data_append]
theorem cat_size (S T : ByteArray) : (S ++ T).size = S.size + T.size := by
  have h1 := Pl.size_len (S ++ T)
  have h2 := Pl.size_len S
  have h3 := Pl.size_len T
  rw [h1, cat_list, List.length_append]; omega
theorem x_info_parts {P : Program} {e : TypeId} {z : Value} {s b : Nat} (h : (P.info? e).map (fun i => (i.zero, i.size, i.bytes)) = some (some z, s, b)) : ∃ i, P.info? e = some i ∧ i.zero = some z ∧ i.size = s ∧ i.bytes = b := by
  obtain ⟨i, hi, hzz⟩ := Option.map_eq_some_iff.1 h
  simp only [Prod.mk.injEq] at hzz
  exact ⟨i, hi, hzz.1, hzz.2.1, hzz.2.2⟩
def strLen : Value → Nat
  | .string s => s.size
  | _ => 0
theorem v_cells_byte (acc : List UInt8) (b : UInt8) : Lib.byteCells acc ++ [.int .u8 (b.toNat : Int)] = Lib.byteCells (acc ++ [b]) := by simp [Lib.byteCells]
theorem getD_size {s : ByteArray} {i : Nat} (hi : i < s.size) : i < s.data.toList.length := by have := Pl.size_len s; omega
theorem getD_append_left {a b : List UInt8} {j : Nat} (h : j < a.length) : (a ++ b).getD j 0 = a.getD j 0 := by simp only [List.getD_eq_getElem?_getD]; rw [List.getElem?_append_left h]
theorem getD_append_right {a b : List UInt8} {j : Nat} (h : a.length ≤ j) : (a ++ b).getD j 0 = b.getD (j - a.length) 0 := by simp only [List.getD_eq_getElem?_getD]; rw [List.getElem?_append_right h]
theorem byteCells_at (l : List UInt8) {j : Nat} (h : j < l.length) : (Lib.byteCells l)[j]? = some (.int .u8 (l.getD j 0).toNat) := by
  simp [Lib.byteCells, List.getD, h]
theorem addr_add (g j : Nat) : ((⟨g, 0, none⟩ : Addr).add j) = ⟨g, j, none⟩ := by unfold Addr.add; by_cases e0 : j = 0 <;> simp [e0]
theorem own_form {w : World} {B : Nat} {e : TypeId} {v : Value} {l : List UInt8} {n : Nat} (h : Kit.Owns w B e v l) (hn : l.length = n) (h0 : 0 < n) : ∃ g cap, v = .slice (some ⟨g, 0, none⟩) n cap ∧ ∀ j, j < n → w.cell? ⟨g, j, none⟩ = some (.int .u8 (l.getD j 0).toNat) := by
  have hx := h
  rcases h.2 with ⟨rfl, h1⟩ | ⟨g, cap, cur, rfl, _⟩
  · omega
  · refine ⟨g, cap, by rw [hn], fun j hj => ?_⟩
    have := World.ownsRow.cells (g := g) hx rfl j _ (byteCells_at l (by omega))
    rw [addr_add] at this
    exact this
theorem ba_list (s : ByteArray) : (⟨s.data.toList.toArray⟩ : ByteArray) = s := by cases s; simp
/-- The beginning, up to what Read has told. -/
structure UAt (w W : World) (b : Nat) : Prop where
  row : RowAt W b 46 #[.int .i64 0, .int .i64 0]
  below : Below w.heap.size w W
  le : w.heap.size ≤ b
theorem UAt.step {w W W' : World} {b : Nat} (h : UAt w W b) (hb : Below W.heap.size W W') : UAt w W' b := ⟨h.row.below hb h.row.lt, h.below.trans (hb.mono h.below.size), h.le⟩
theorem UAt.set {w W : World} {b : Nat} (h : UAt w W b) : UAt w ((W.setCell ⟨b, 0, none⟩ (.int .i64 0)).setCell ⟨b, 1, none⟩ (.int .i64 0)) b :=
  ⟨(h.row.set 0 (.int .i64 0)).set 1 (.int .i64 0), (h.below.setCell (p := ⟨b, 0, none⟩) h.le _).setCell (p := ⟨b, 1, none⟩) h.le _, h.le⟩
theorem UAt.alloc {w W : World} {b : Nat} (h : UAt w W b) (o : Obj) : UAt w (W.alloc o) b := ⟨h.row.alloc o, h.below.alloc h.below.size o, h.le⟩
theorem UAt.cells {w W : World} {b : Nat} (h : UAt w W b) : W.cell? ⟨b, 0, none⟩ = some (.int .i64 0) ∧ W.cell? ⟨b, 1, none⟩ = some (.int .i64 0) ∧ W.frozen? ⟨b, 0, none⟩ = false ∧ W.frozen? ⟨b, 1, none⟩ = false := ⟨h.row.cell rfl, h.row.cell rfl, h.row.frozen 0, h.row.frozen 1⟩
end Go.Proofs.Ythfjkhmedpilnaa

/-
  Contracts of the document's inside and Notched (chapter 8).
-/
namespace Go.Proofs.Ythfjkhmedpilnaa
open Go.RowKit PK

theorem ins_upto {n : Nat} {f : Nat → Int} {k : Nat} (hk : k < n) (h : f k < 0 ∨ 25 < f k) : ins n f = false := by
  cases e : ins n f with
  | false => rfl
  | true => have := (ins_iff n f).1 e k hk; omega
set_option maxRecDepth 100000 in
set_option maxHeartbeats 1000000 in
theorem rinside_any (v : Value) (n : Nat) (f : Nat → Int) (w : World) (hv : NumsAt w v n f) : Calls Try.prog 47 #[v] w fun e w' => e = .returned (.bool (ins n f)) ∧ w = w' := by
  obtain ⟨a, cap, rfl, hm, hc⟩ := hv
  have HC := (show Hid _ from hc)
  unfold maxLen at hm
  clear hc
  have HU := (show Hid (∀ k, k < n → (f k < 0 ∨ 25 < f k) → ins n f = false) from fun k hk h => ins_upto hk h)
  have HA := (show Hid ((∀ i, i < n → 0 ≤ f i ∧ f i ≤ 25) → ins n f = true) from (ins_iff n f).2)
  generalize ins n f = B at *
  go_enter Try.func47, Try.ntmps47
  go_wp2_with fail
  go_loopw [7] (fun i W => ∃ k : Nat, k ≤ n ∧ i = .int .i64 (k : Nat) ∧ Hid (∀ i, i < k → 0 ≤ f i ∧ f i ≤ 25) ∧ w = W) (fun i _ => ((n : Int) - intOf i).toNat)
  case atStart => exact ⟨0, by omega, rfl, fun i hi => by omega, rfl⟩
  case round =>
    obtain ⟨k, hk, rfl, HS, rfl⟩ := hrel
    by_cases hlt : k < n
    · obtain ⟨b, o, rfl, hc0⟩ := HC.out k hlt
      have HLT : Hid (k < n) := hlt
      by_cases hx : f k < 0
      · have HB : Hid (B = false) := HU.out k hlt (.inl hx)
        go_wp2
        go_ret
        exact ⟨by rw [HB.out]; rfl, rfl⟩
      · by_cases hy : 25 < f k
        · have HB : Hid (B = false) := HU.out k hlt (.inr hy)
          go_wp2
          go_ret
          exact ⟨by rw [HB.out]; rfl, rfl⟩
        · have HN : Hid (∀ i, i < k + 1 → 0 ≤ f i ∧ f i ≤ 25) := fun i hi => by
            by_cases e : i = k
            · rw [e]; omega
            · exact HS.out i (by omega)
          go_wp2_with fail
          go_roundw
          case rel => exact ⟨k + 1, HLT.out, by go_num, HN.out, by first | rfl | trivial⟩
          case measure => have := HLT.out; simp [intOf] <;> omega
    · obtain rfl : k = n := by omega
      have hlt2 : ¬ (k : Int) < (k : Int) := by omega
      have HB : Hid (B = true) := HA.out HS.out
      go_wp2
      go_ret
      exact ⟨by rw [HB.out]; rfl, rfl⟩
/-- Does a wheel have a notch there? -/
def hasN (n : Nat) (f : Nat → Int) (a : Int) : Bool := (List.range n).any fun i => f i == a
theorem hasN_true {n : Nat} {f : Nat → Int} {a : Int} {k : Nat} (hk : k < n) (h : f k = a) : hasN n f a = true := by
  unfold hasN
  rw [List.any_eq_true]
  exact ⟨k, by simpa using hk, by simp [h]⟩
theorem hasN_false {n : Nat} {f : Nat → Int} {a : Int} (h : ∀ k, k < n → f k ≠ a) : hasN n f a = false := by
  unfold hasN
  rw [List.any_eq_false]
  intro k hk
  have := h k (by simpa using hk)
  simpa using this
set_option maxRecDepth 100000 in
set_option maxHeartbeats 1000000 in
theorem rnotched_any (u : Nat → Int) (v : Value) (n : Nat) (f : Nat → Int) (a : Int) (w : World) (hv : NumsAt w v n f) : Calls Try.prog 99 #[.agg (whl u v), .int .i64 a] w fun e w' => e = .returned (.bool (hasN n f a)) ∧ Below w.heap.size w w' := by
  have hr := RowAt.new w 62 (whl u v)
  have hl := hr.cell (whl_last u v)
  have hbe : Below w.heap.size w (w.alloc (.cells (whl u v) 62)) := (Below.refl _ w).alloc (Nat.le_refl _) _
  replace hv := hv.alloc (.cells (whl u v) 62)
  obtain ⟨ad, cap, rfl, hm, hc⟩ := hv
  have HC := (show Hid _ from hc)
  unfold maxLen at hm
  clear hc
  have HU := (show Hid (∀ k, k < n → f k = a → hasN n f a = true) from fun k hk h => hasN_true hk h)
  have HA := (show Hid ((∀ k, k < n → f k ≠ a) → hasN n f a = false) from hasN_false)
  generalize hasN n f a = B at *
  go_enter Try.func99, Try.ntmps99
  go_wp2_with fail
  generalize w.alloc (.cells (whl u (.slice ad n cap)) 62) = V at *
  go_loopw [10] (fun i W => ∃ k : Nat, k ≤ n ∧ i = .int .i64 (k : Nat) ∧ Hid (∀ i, i < k → f i ≠ a) ∧ V = W) (fun i _ => ((n : Int) - intOf i).toNat)
  case atStart => exact ⟨0, by omega, rfl, fun i hi => by omega, rfl⟩
  case round =>
    obtain ⟨k, hk, rfl, HS, rfl⟩ := hrel
    by_cases hlt : k < n
    · obtain ⟨b, o, rfl, hc0⟩ := HC.out k hlt
      have HLT : Hid (k < n) := hlt
      by_cases hx : f k = a
      · have HB : Hid (B = true) := HU.out k hlt hx
        have hx2 : (f k == a) = true := by simp [hx]
        clear hx
        go_wp2
        go_ret
        exact ⟨by rw [HB.out]; rfl, hbe⟩
      · have HN : Hid (∀ i, i < k + 1 → f i ≠ a) := fun i hi => by
          by_cases e : i = k
          · rw [e]; exact hx
          · exact HS.out i (by omega)
        have hx2 : (f k == a) = false := beq_false_of_ne hx
        clear hx
        go_wp2_with fail
        go_roundw
        case rel => exact ⟨k + 1, HLT.out, by go_num, HN.out, by first | rfl | trivial⟩
        case measure => have := HLT.out; simp [intOf] <;> omega
    · obtain rfl : k = n := by omega
      have hlt2 : ¬ (k : Int) < (k : Int) := by omega
      have HB : Hid (B = false) := HA.out HS.out
      go_wp2
      go_ret
      exact ⟨by rw [HB.out]; rfl, hbe⟩
end Go.Proofs.Ythfjkhmedpilnaa
