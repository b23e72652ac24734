/-
  Several texts, joined: TSmall, TKit, TCheck, TRefCheck, UCheck.
-/
import Derived.Test.YthfjkhmedpilnaaChecked
import Derived.Test.YthfjkhmedpilnaaJn17
import Derived.WalkKit
import Derived.WalkSpells
import Derived.WalkSmall
import Derived.Laws.BytesString
import Derived.Lib.AppendStr
import Derived.Lib.UnsafeStr
import Derived.Lib.OthersKept
import Derived.Lib.ConvBytes
/-
  The contract of letters.isLetter.
-/
namespace Go.Proofs.Ythfjkhmedpilnaa
open Go.RowKit

set_option maxHeartbeats 400000 in
theorem isLetter_any (c : Int) (w : World) :
    Calls Try.prog 75 #[.int .u8 c] w fun e w' => e = .returned (.bool (Pl.isL c)) ∧ w = w' := by
  by_cases h1 : 65 ≤ c
  · by_cases h2 : c ≤ 90
    · have e : Pl.isL c = true := by simp [Pl.isL]; omega
      go_enter Try.func75, Try.ntmps75
      go_wp2
      go_ret
      exact ⟨by rw [e]; rfl, rfl⟩
    · have e : Pl.isL c = false := by simp [Pl.isL]; omega
      go_enter Try.func75, Try.ntmps75
      go_wp2
      go_ret
      exact ⟨rfl, rfl⟩
  · have e : Pl.isL c = false := by simp [Pl.isL]; omega
    go_enter Try.func75, Try.ntmps75
    go_wp2
    go_ret
    exact ⟨rfl, rfl⟩

end Go.Proofs.Ythfjkhmedpilnaa

/-
  Laws of no program: bytes that a call owns, and what 'string(b)' makes of them.
-/
namespace Go.Proofs.Ythfjkhmedpilnaa.Kit
open Go.RowKit

/-- The slice v owns the bytes l, in blocks from B on (e: the byte type's number). -/
def Owns (w : World) (B : Nat) (e : TypeId) (v : Value) (l : List UInt8) : Prop := w.ownsRow B e 1 v l.length (Lib.byteCells l)

theorem foldl_push : ∀ (l : List UInt8) (s : ByteArray), (l.map fun b => (b.toNat : Int)).foldl (fun r n => r.push (UInt8.ofNat n.toNat)) s = ⟨s.data ++ l.toArray⟩
  | [], s => by cases s; simp
  | c :: t, s => by
    simp only [List.map_cons, List.foldl_cons]
    rw [foldl_push t]
    cases s
    simp [ByteArray.push]

theorem run_string_of_own {P : Program} (w : World) (src dst e : TypeId) (hs : P.underlying src = some (.slice e)) (he : P.underlying e = some (.int .u8)) (hd : P.underlying dst = some .string)
    {B : Nat} {v : Value} {l : List UInt8} (h : Owns w B e v l) : (convert src dst v).run P w = .ok (.string ⟨l.toArray⟩) w := by
  rcases h.2 with ⟨rfl, h0⟩ | ⟨g, cap, cur, rfl, _⟩
  · have : l = [] := List.eq_nil_of_length_eq_zero h0
    subst this
    rw [run_convert_bytes_string w src dst e _ _ _ hs he hd]
    simp [Conv.bytesToString, Sem.run_pure]
    rfl
  · rw [run_convert_bytes_string w src dst e _ _ _ hs he hd]
    have hl := run_loadCells_list (P := P) (w := w) ⟨g, 0, none⟩ (Lib.byteCells l) (h.cells rfl)
    rw [Lib.byteCells_length] at hl
    have e1 : Lib.byteCells l = (l.map fun b => (b.toNat : Int)).map (Value.int .u8) := by simp [Lib.byteCells]
    rw [e1] at hl
    rw [run_bytesToString w _ _ _ _ hl, foldl_push]
    simp

theorem Owns.nil (w : World) (B : Nat) (e : TypeId) : Owns w B e (.slice none 0 0) [] := World.ownsRow_nil w B e 1
theorem Owns.lt {w : World} {B : Nat} {e : TypeId} {v : Value} {l : List UInt8} (h : Owns w B e v l) : ∀ k, v.ownBlock = some k → B ≤ k ∧ k < w.heap.size := World.ownsRow.lt h
theorem Owns.kind {w : World} {B : Nat} {e : TypeId} {v : Value} {l : List UInt8} (h : Owns w B e v l) : ∀ g, v.ownBlock = some g → ∃ c fz, w.heap[g]? = some (.cells c e fz) := Lib.ownsRowF_kind (World.ownsRowF_of h)
/-- Behind a law on append: what is owned, and that below B and among the other blocks nothing has turned. -/
theorem Owns.grown {w W w' : World} {B : Nat} {e : TypeId} {v v' : Value} {l m : List UInt8} {n : Nat} {xs : List Value} (h : Owns W B e v l) (hBw : B ≤ W.heap.size) (hb : Below B w W) (hk : Lib.OthersKept e none w W)
    (h' : w'.ownsRow B e 1 v' n xs) (hn : n = (l ++ m).length) (hx : xs = Lib.byteCells (l ++ m)) (hg : W.grownBy w' v.ownBlock) :
    Owns w' B e v' (l ++ m) ∧ Below B w w' ∧ Lib.OthersKept e none w w' := by
  subst hn hx
  exact ⟨h', hb.grown hg hBw (fun k hk => (h.lt k hk).1), hk.grown hg h.kind⟩
theorem Owns.grownB {w W w' : World} {B : Nat} {e : TypeId} {v v' : Value} {l m : List UInt8} {n : Nat} {xs : List Value} (h : Owns W B e v l) (hBw : B ≤ W.heap.size) (hb : Below B w W)
    (h' : w'.ownsRow B e 1 v' n xs) (hn : n = (l ++ m).length) (hx : xs = Lib.byteCells (l ++ m)) (hg : W.grownBy w' v.ownBlock) :
    Owns w' B e v' (l ++ m) ∧ Below B w w' := by
  subst hn hx
  exact ⟨h', hb.grown hg hBw (fun k hk => (h.lt k hk).1)⟩
theorem byteCells_ofNat (c : Nat) (h : c < 256) : Lib.byteCells [UInt8.ofNat c] = [Value.int .u8 (c : Int)] := by
  simp [Lib.byteCells]
  omega
/-- What is owned stays owned while a string's iterator is moved on: an iterator's block holds no cells. -/
theorem Owns.iterAt {w : World} {B : Nat} {e : TypeId} {v : Value} {l : List UInt8} (h : Owns w B e v l) {k : Nat} {s : ByteArray} {pos : Nat} (hk : w.heap[k]? = some (.stringIter s pos)) (pos' : Nat) : Owns (w.iterAt k s pos') B e v l := by
  obtain ⟨h1, h2⟩ := h
  refine ⟨h1, ?_⟩
  rcases h2 with h2 | ⟨g, cap, cur, a, b, c, d⟩
  · exact .inl h2
  · have hkg : g ≠ k := by
      intro e1
      rw [e1, hk] at c
      cases c
    exact .inr ⟨g, cap, cur, a, b, (Lib.iterAt_other w k g s pos' hkg).trans c, d⟩
theorem kept_iter {e : TypeId} {w w' : World} (h : Lib.OthersKept e none w w') {k : Nat} {s : ByteArray} {pos : Nat} (hk : w.heap[k]? = some (.stringIter s pos)) : w'.heap[k]? = some (.stringIter s pos) :=
  h k _ hk (by simp) (fun _ _ e1 => by cases e1)
/-- A result's two cells, laid first: they read as they did in every later world that keeps what lies below the next block. -/
theorem two_cells {w W : World} {a b : Value} {T : TypeId} (h : Below (w.heap.size + 1) (w.alloc (.cells #[a, b] T)) W) :
    W.cell? ⟨w.heap.size, 0, none⟩ = some a ∧ W.cell? ⟨w.heap.size, 1, none⟩ = some b ∧ W.frozen? ⟨w.heap.size, 0, none⟩ = false ∧ W.frozen? ⟨w.heap.size, 1, none⟩ = false ∧ w.heap.size < W.heap.size := by
  have hs := h.size
  simp at hs
  refine ⟨?_, ?_, ?_, ?_, by omega⟩
  · rw [h.cell (p := ⟨w.heap.size, 0, none⟩) (by simp)]; simp
  · rw [h.cell (p := ⟨w.heap.size, 1, none⟩) (by simp)]; simp
  · rw [h.frozen (p := ⟨w.heap.size, 0, none⟩) (by simp)]; simp
  · rw [h.frozen (p := ⟨w.heap.size, 1, none⟩) (by simp)]; simp
/-- 'len' of what is owned. -/
theorem run_len_own {P : Program} (w : World) (t ty e : TypeId) (ht : P.underlying t = some (.slice e)) {B : Nat} {v : Value} {l : List UInt8} (h : Owns w B e v l) : (Builtin.len_ #[t] ty #[v]).run P w = .ok (.int .i64 l.length) w := by
  rcases h.2 with ⟨rfl, h0⟩ | ⟨g, cap, cur, rfl, _⟩
  · simp [Builtin.len_, run_underlying ht, goInt, h0]
  · simp [Builtin.len_, run_underlying ht, goInt]
theorem read_two {W : World} {N : Nat} {a' b' : Value} (a b : Value) (h0 : W.cell? ⟨N, 0, none⟩ = some a') (h1 : W.cell? ⟨N, 1, none⟩ = some b') :
    ((W.setCell ⟨N, 0, none⟩ a).setCell ⟨N, 1, none⟩ b).cell? ⟨N, 0, none⟩ = some a ∧ ((W.setCell ⟨N, 0, none⟩ a).setCell ⟨N, 1, none⟩ b).cell? ⟨N, 1, none⟩ = some b := by
  have e0 := World.cell?_setCell_same W ⟨N, 0, none⟩ a h0
  have e1 : (W.setCell ⟨N, 0, none⟩ a).cell? ⟨N, 1, none⟩ = some b' := (World.cell?_setCell_other W _ _ _ (by simp)).trans h1
  exact ⟨(World.cell?_setCell_other _ _ _ _ (by simp)).trans e0, World.cell?_setCell_same _ _ _ e1⟩
theorem below_two {w W : World} {a b : Value} {T : TypeId} (h : Below (w.heap.size + 1) (w.alloc (.cells #[a, b] T)) W) (x y : Value) :
    Below w.heap.size w ((W.setCell ⟨w.heap.size, 0, none⟩ x).setCell ⟨w.heap.size, 1, none⟩ y) :=
  ((((Below.refl _ w).alloc (Nat.le_refl _) _).trans (h.mono (by omega))).setCell (by simp) _).setCell (by simp) _
end Go.Proofs.Ythfjkhmedpilnaa.Kit

/-
  The contract of letters.Check.
-/
namespace Go.Proofs.Ythfjkhmedpilnaa
open Go.RowKit

set_option maxHeartbeats 400000 in
theorem check_much (s : ByteArray) (w : World) (h : 65536 < s.size) :
    Calls Try.prog 41 #[.string s] w fun e w' => e = .returned (.agg #[.int .i64 4, .int .i64 0]) ∧ Below w.heap.size w w' := by
  go_enter Try.func41, Try.ntmps41
  go_wp2
  exact bodyPost_ret (v := .agg #[.int .i64 4, .int .i64 0]) (by simp [results, Try.results41, go_sem]) rfl ⟨rfl, (Below.refl _ _).alloc (Nat.le_refl _) _⟩

theorem chk_some (l : List UInt8) (k : Nat) (h : l.findIdx? Pl.bad = some k) : Pl.chkE l = 2 ∧ Pl.chkAt l = k := by
  unfold Pl.chkE Pl.chkAt
  rw [h]
  exact ⟨rfl, rfl⟩
theorem chk_none (l : List UInt8) (h : l.findIdx? Pl.bad = none) : Pl.chkE l = 0 ∧ Pl.chkAt l = 0 := by
  unfold Pl.chkE Pl.chkAt
  rw [h]
  exact ⟨rfl, rfl⟩

set_option maxHeartbeats 1000000 in
theorem check_ok (s : ByteArray) (w : World) (h : s.size ≤ 65536) :
    Calls Try.prog 41 #[.string s] w fun e w' => e = .returned (.agg #[.int .i64 (Pl.chkE s.data.toList), .int .i64 (Pl.chkAt s.data.toList)]) ∧ Below w.heap.size w w' := by
  have hb : decide (65536 < (s.size : Int)) = false := by simp; omega
  have HL : Hid (s.size = s.data.toList.length) := Pl.size_len s
  go_enter Try.func41, Try.ntmps41
  go_wp2
  go_loop [10] (fun i => ∃ k : Nat, k ≤ s.size ∧ i = .int .i64 k ∧ Hid (∀ j (_ : j < k) (hj : j < s.data.toList.length), Pl.isL (s.data.toList[j].toNat) = true)) (fun i => s.size - (intOf i).toNat)
  case atStart => exact ⟨0, Nat.zero_le _, rfl, fun j hj => by omega⟩
  case round =>
    obtain ⟨k, hk, rfl, HA⟩ := hrel
    by_cases hlt : k < s.size
    · cases hl : Pl.isL (s[k].toNat : Int)
      · have HE : Hid (s.data.toList.findIdx? Pl.bad = some k) := Pl.chk_at _ k (by have := HL.out; omega) HA.out hl
        go_wp2_with (go_at_call 75; refine (isLetter_any _ _).mono ?_; rintro e w' ⟨rfl, rfl⟩)
        refine bodyPost_ret (v := .agg #[.int .i64 2, .int .i64 k]) (by simp [results, Try.results41, go_sem]) rfl ⟨?_, (Below.refl _ _).alloc (Nat.le_refl _) _⟩
        rw [(chk_some _ _ HE.out).1, (chk_some _ _ HE.out).2]
      · have HE : Hid (∀ j (_ : j < k + 1) (hj : j < s.data.toList.length), Pl.isL (s.data.toList[j].toNat) = true) := by
          intro j hj hj'
          rcases Nat.lt_or_ge j k with h1 | h1
          · exact HA.out j h1 hj'
          · have : j = k := by omega
            subst this
            exact hl
        go_wp2_with (go_at_call 75; refine (isLetter_any _ _).mono ?_; rintro e w' ⟨rfl, rfl⟩)
        exact ⟨⟨k + 1, by omega, by go_num, HE⟩, by simp [intOf]; omega⟩
    · have HE : Hid (s.data.toList.findIdx? Pl.bad = none) := Pl.chk_all _ fun j hj => HA.out j (by have := HL.out; omega) hj
      go_wp2
      refine bodyPost_ret (v := .agg #[.int .i64 0, .int .i64 0]) (by simp [results, Try.results41, go_sem]) rfl ⟨?_, (Below.refl _ _).alloc (Nat.le_refl _) _⟩
      rw [(chk_none _ HE.out).1, (chk_none _ HE.out).2]
end Go.Proofs.Ythfjkhmedpilnaa

/-
  The contract of the document's own Check: it answers as the program's.
-/
namespace Go.Proofs.Ythfjkhmedpilnaa
open Go.RowKit

theorem below_bytes {B : Nat} (w : World) (hB : B ≤ w.heap.size) (e : TypeId) (s : ByteArray) : Below B w (Lib.bytesWorld w e s) := by
  refine ⟨?_, ?_, ?_, by rw [Lib.bytesWorld_size]; omega, fun k hk => Lib.bytesWorld_at_old w e s k (by omega)⟩
  all_goals
    unfold Lib.bytesWorld World.freeze
    split <;> rfl
theorem bytes_cell (w : World) (e : TypeId) (s : ByteArray) (k : Nat) (hk : k < s.size) : (Lib.bytesWorld w e s).cell? ⟨w.heap.size, k, none⟩ = some (.int .u8 s[k].toNat) := by
  rw [Lib.bytesWorld_cell w e s k hk]
  have hk' : k < s.data.toList.length := by have := Pl.size_len s; omega
  simp only [List.getD, List.getElem?_eq_getElem hk']
  rfl

set_option maxHeartbeats 400000 in
theorem rcheck_much (s : ByteArray) (w : World) (h : 65536 < s.size) :
    Calls Try.prog 70 #[.string s] w fun e w' => e = .returned (.agg #[.int .i64 4, .int .i64 0]) ∧ Below w.heap.size w w' := by
  go_enter Try.func70, Try.ntmps70
  go_wp2
  exact bodyPost_ret (v := .agg #[.int .i64 4, .int .i64 0]) (by simp [results, Try.results70, go_sem]) rfl ⟨rfl, (Below.refl _ _).alloc (Nat.le_refl _) _⟩

set_option maxHeartbeats 1000000 in
theorem rcheck_ok (s : ByteArray) (w : World) (h : s.size ≤ 65536) :
    Calls Try.prog 70 #[.string s] w fun e w' => e = .returned (.agg #[.int .i64 (Pl.chkE s.data.toList), .int .i64 (Pl.chkAt s.data.toList)]) ∧ Below w.heap.size w w' := by
  have hb : decide (65536 < (s.size : Int)) = false := by simp; omega
  have HL : Hid (s.size = s.data.toList.length) := Pl.size_len s
  have hcv := fun w => Lib.run_convert_string_bytes (P := Try.prog) w 9 88 5 s Try.underlying9 Try.underlying88 Try.underlying5
  go_enter Try.func70, Try.ntmps70
  go_wp2
  have hbel : Below (w.heap.size + 1) (w.alloc (Obj.cells #[Value.int IntKind.i64 0, Value.int IntKind.i64 0] 46)) (Lib.bytesWorld (w.alloc (Obj.cells #[Value.int IntKind.i64 0, Value.int IntKind.i64 0] 46)) 5 s) := below_bytes _ (by simp) 5 s
  have HC : Hid (∀ k (hk : k < s.size), (Lib.bytesWorld (w.alloc (Obj.cells #[Value.int IntKind.i64 0, Value.int IntKind.i64 0] 46)) 5 s).cell? ⟨w.heap.size + 1, k, none⟩ = some (.int .u8 s[k].toNat)) := fun k hk => by simpa using bytes_cell (w.alloc (Obj.cells #[Value.int IntKind.i64 0, Value.int IntKind.i64 0] 46)) 5 s k hk
  clear hcv
  generalize Lib.bytesWorld (w.alloc (Obj.cells #[Value.int IntKind.i64 0, Value.int IntKind.i64 0] 46)) 5 s = W0 at hbel HC
  have hcap : s.size ≤ grownCap (w.alloc (Obj.cells #[Value.int IntKind.i64 0, Value.int IntKind.i64 0] 46)) s.size 0 5 := grownCap_ge _ _ _ _
  generalize grownCap (w.alloc (Obj.cells #[Value.int IntKind.i64 0, Value.int IntKind.i64 0] 46)) s.size 0 5 = cap at hcap
  obtain ⟨c0, c1, f0, f1, hsz⟩ := Kit.two_cells hbel
  go_loop [12] (fun i => ∃ k : Nat, k ≤ s.size ∧ i = .int .i64 k ∧ Hid (∀ j (_ : j < k) (hj : j < s.data.toList.length), Pl.isL (s.data.toList[j].toNat) = true)) (fun i => s.size - (intOf i).toNat)
  case atStart => exact ⟨0, Nat.zero_le _, rfl, fun j hj => by omega⟩
  case round =>
    obtain ⟨k, hk, rfl, HA⟩ := hrel
    by_cases hlt : k < s.size
    · have hcell := HC.out k hlt
      clear HC
      cases hl : Pl.isL (s[k].toNat : Int)
      · have HE : Hid (s.data.toList.findIdx? Pl.bad = some k) := Pl.chk_at _ k (by have := HL.out; omega) HA.out hl
        have hn : (s[k].toNat : Int) < 65 ∨ (65 ≤ (s[k].toNat : Int) ∧ 90 < (s[k].toNat : Int)) := by
          have := of_decide_eq_false (show decide _ = false from hl)
          omega
        have q := Kit.read_two (.int .i64 2) (.int .i64 k) c0 c1
        have hbf := Kit.below_two hbel (.int .i64 2) (.int .i64 k)
        clear HA hl
        rcases hn with hn | ⟨hn, hn2⟩
        all_goals
          go_wp2
          refine bodyPost_ret (v := .agg #[.int .i64 2, .int .i64 k]) (by simp [results, Try.results70, go_sem, q.1, q.2]) rfl ⟨?_, hbf⟩
          rw [(chk_some _ _ HE.out).1, (chk_some _ _ HE.out).2]
      · have HE : Hid (∀ j (_ : j < k + 1) (hj : j < s.data.toList.length), Pl.isL (s.data.toList[j].toNat) = true) := by
          intro j hj hj'
          rcases Nat.lt_or_ge j k with h1 | h1
          · exact HA.out j h1 hj'
          · have : j = k := by omega
            subst this
            exact hl
        obtain ⟨hn, hn2⟩ := of_decide_eq_true (show decide _ = true from hl)
        have hd1 : decide ((s[k].toNat : Int) < 65) = false := by simp; omega
        have hd2 : decide (90 < (s[k].toNat : Int)) = false := by simp; omega
        clear HA hl
        go_wp2
        exact ⟨⟨k + 1, by omega, by go_num, HE⟩, by simp [intOf]; omega⟩
    · have HE : Hid (s.data.toList.findIdx? Pl.bad = none) := Pl.chk_all _ fun j hj => HA.out j (by have := HL.out; omega) hj
      have q := Kit.read_two (.int .i64 0) (.int .i64 0) c0 c1
      have hbf := Kit.below_two hbel (.int .i64 0) (.int .i64 0)
      clear HA HC
      go_wp2
      refine bodyPost_ret (v := .agg #[.int .i64 0, .int .i64 0]) (by simp [results, Try.results70, go_sem, q.1, q.2]) rfl ⟨?_, hbf⟩
      rw [(chk_none _ HE.out).1, (chk_none _ HE.out).2]
end Go.Proofs.Ythfjkhmedpilnaa

/-
  What Check and the document's say of any text.
-/
namespace Go.Proofs.Ythfjkhmedpilnaa
open Go.RowKit

/-- What Check says. -/
def ckE (t : List UInt8) : Int := if 65536 < t.length then 4 else Pl.chkE t
def ckAt (t : List UInt8) : Int := if 65536 < t.length then 0 else Pl.chkAt t
theorem check_all (s : ByteArray) (w : World) : Calls Try.prog 41 #[.string s] w fun e w' => e = .returned (.agg #[.int .i64 (ckE s.data.toList), .int .i64 (ckAt s.data.toList)]) ∧ Below w.heap.size w w' := by
  unfold ckE ckAt
  have hl := Pl.size_len s
  by_cases h : 65536 < s.size
  · rw [if_pos (by omega), if_pos (by omega)]; exact check_much s w h
  · rw [if_neg (by omega), if_neg (by omega)]; exact check_ok s w (by omega)
theorem rcheck_all (s : ByteArray) (w : World) : Calls Try.prog 70 #[.string s] w fun e w' => e = .returned (.agg #[.int .i64 (ckE s.data.toList), .int .i64 (ckAt s.data.toList)]) ∧ Below w.heap.size w w' := by
  unfold ckE ckAt
  have hl := Pl.size_len s
  by_cases h : 65536 < s.size
  · rw [if_pos (by omega), if_pos (by omega)]; exact rcheck_much s w h
  · rw [if_neg (by omega), if_neg (by omega)]; exact rcheck_ok s w (by omega)
theorem ck_cases (t : List UInt8) : (ckE t = 0 ∧ ckAt t = 0 ∧ t.length ≤ 65536 ∧ Pl.Lets t) ∨ (ckE t != 0) = true := by
  unfold ckE ckAt
  by_cases h : 65536 < t.length
  · rw [if_pos h]; exact .inr rfl
  · rw [if_neg h, if_neg h]
    cases hf : t.findIdx? Pl.bad with
    | none =>
      refine .inl ⟨(chk_none t hf).1, (chk_none t hf).2, by omega, fun c hc => ?_⟩
      have := List.findIdx?_eq_none_iff.1 hf c hc
      simpa [Pl.bad] using this
    | some k => exact .inr (by rw [(chk_some t k hf).1]; rfl)
theorem getD_byte (s : ByteArray) (k : Nat) (hk : k < s.size) : s.data.toList.getD k 0 = s[k] := by
  have hk' : k < s.data.toList.length := by have := Pl.size_len s; omega
  simp only [List.getD, List.getElem?_eq_getElem hk']
  rfl
end Go.Proofs.Ythfjkhmedpilnaa
