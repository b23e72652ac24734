/-
  Several texts, joined: HMade, HDet, HProd, WRep, WSmall, WEnc, WBad, WWrite.
-/
import Derived.Test.YtkohhdkkbaifoaaGreatDoorJn15
import Derived.Deep.QuietTactic
import Derived.BigQuiet
import Derived.Test.YtkohhdkkbaifoaaGreatDoorJn1
import Derived.Shelf.Strings.Repeat
import Derived.Shelf.Lay
import Derived.Ground.NamesProg
import Derived.Lib.Agree
import Derived.RegionTactic
/-
  Contract of hill.made, for any function.
-/
namespace Go.Proofs.YtkohhdkkbaifoaaGreatDoor
open Go.RowKit PK

theorem h_info_int : (Tryz.prog.info? 3).map (fun i => (i.zero, i.size, i.bytes)) = some (some (.int .i64 0), 1, 8) := by kernel_rfl
theorem h_info_ints : (Tryz.prog.info? 25).map (fun i => (i.zero, i.size, i.bytes)) = some (some (.slice none 0 0), 1, 24) := by kernel_rfl
/-- The first k places filled. -/
def fillV (v : Nat → Value) (z : Value) (k : Nat) : Nat → Value := fun i => if i < k then v i else z
theorem made_tab (z : Value) (n : Nat) : madeCells #[z] n = tab n fun _ => z := by
  unfold madeCells tab
  apply Array.ext
  · simp
  · intro i h1 h2
    simp [Nat.mod_one]
end Go.Proofs.YtkohhdkkbaifoaaGreatDoor

/-
  Contracts of hill.cofactor and hill.det.
-/
namespace Go.Proofs.YtkohhdkkbaifoaaGreatDoor
open Go.RowKit PK

/-- Counted as if gone were not there. -/
def skip (i gone : Nat) : Nat := if i < gone then i else i + 1
/-- What is left without row y and place x. -/
def minor (Z : Nat → Nat → Int) (y x : Nat) : Nat → Nat → Int := fun i j => Z (skip i y) (skip j x)
/-- With its sign, modulo 26. -/
def signed (s : Nat) (d : Int) : Int := if s % 2 = 1 then (26 - d) % 26 else d
/-- The determinant along the first row, modulo 26. -/
def detL : Nat → (Nat → Nat → Int) → Int
  | 0, _ => 1
  | n + 1, Z => sumTo (Z 0) (fun x => signed (0 + x) (detL n (minor Z 0 x))) (n + 1) % 26
def cofL (n : Nat) (Z : Nat → Nat → Int) (y x : Nat) : Int := signed (y + x) (detL n (minor Z y x))
end Go.Proofs.YtkohhdkkbaifoaaGreatDoor

/-
  Contracts of hill.Det, hill.Product, hill.Inverse.
-/
namespace Go.Proofs.YtkohhdkkbaifoaaGreatDoor
open Go.RowKit PK

/-- A matrix's rows are all as long. -/
theorem PK.MatAt.square {w : World} {v : Value} {n : Nat} {L : Nat → Nat} {Z : Nat → Nat → Int} (h : MatAt w v n L Z) (hL : ∀ r, r < n → L r = n) : MatAt w v n (fun _ => n) Z := h.congr hL fun _ _ _ _ => rfl
/-- Rows by columns, modulo 26. -/
def mulL (n : Nat) (A B : Nat → Nat → Int) : Nat → Nat → Int := fun y x => sumTo (A y) (fun k => B k x) n % 26
end Go.Proofs.YtkohhdkkbaifoaaGreatDoor

/-
  strings.Repeat of one X, out of the shelf; hill.filled, number, letter.
-/
namespace Go.Proofs.YtkohhdkkbaifoaaGreatDoor
open Go.Shelf Go.RowKit PK

shelf_lay Lays.n105 Nm 105 at Tryz as Tryz.laysRepeat

theorem extraRepeat : Builder.Extra Tryz.prog Tryz.laysRepeat_ren where
  sizeBuilder := by kernel_rfl
  liesBuilder := by kernel_rfl
  t5 := Tryz.laysRepeat.t5
  a5 := Tryz.laysRepeat.a5
  z5 := Tryz.laysRepeat.z5
  v5 := Tryz.laysRepeat.v5
  infoByte := by kernel_rfl
  cellsByte := by kernel_rfl
  sizeByte := by kernel_rfl
  neB5 := by decide
theorem fRepeat : Tryz.laysRepeat_ren.f 105 = 175 := by kernel_rfl
theorem rep_X (c : Nat) : Lib.repeatL [88] c = List.replicate c 88 := by
  induction c with
  | zero => rfl
  | succ c ih => rw [Lib.repeatL, ih]; rfl
theorem repeatX (c : Nat) (hc : c ≤ 4) (w : World) : Calls Tryz.prog 175 #[.string ⟨#[88]⟩, .int .i64 (c : Nat)] w fun e w' => e = .returned (.string ⟨(List.replicate c 88).toArray⟩) ∧ Below w.heap.size w w' := by
  have h := Any.strings_Repeat Tryz.laysRepeat extraRepeat ⟨#[88]⟩ c w (by omega) (by show 1 * c ≤ _; omega)
  rw [fRepeat] at h
  refine h.mono fun e w' ⟨he, hw⟩ => ⟨?_, hw⟩
  rw [he]
  show Ending.returned (.string ⟨(Lib.repeatL [88] c).toArray⟩) = _
  rw [rep_X]
end Go.Proofs.YtkohhdkkbaifoaaGreatDoor

/-
  Contracts of hill.number, hill.letter, hill.filled, and of the closure of hill.Write.
-/
namespace Go.Proofs.YtkohhdkkbaifoaaGreatDoor
open Go.RowKit PK

/-- A letter's number. -/
def num (b : UInt8) : Int := (b.toNat : Int) - 65
theorem num_any (c : Nat) (h1 : 65 ≤ c) (h2 : c ≤ 90) (w : World) : Calls Tryz.prog 129 #[.int .u8 (c : Nat)] w fun e w' => e = .returned (.int .i64 ((c : Int) - 65)) ∧ w = w' := by
  have hw : IntKind.u8.wrap ((c : Int) - 65) = (c : Int) - 65 := by rw [IntKind.wrap_u8]; omega
  go_enter Tryz.func129, Tryz.ntmps129
  go_wp2
  go_ret
  exact ⟨rfl, rfl⟩
theorem letter_anyW (n : Int) (h1 : 0 ≤ n) (h2 : n < 26) (w : World) : Calls Tryz.prog 130 #[.int .i64 n] w fun e w' => e = .returned (.int .u8 (65 + n)) ∧ w = w' := by
  have hw : IntKind.u8.wrap (65 + n) = 65 + n := by rw [IntKind.wrap_u8]; omega
  go_enter Tryz.func130, Tryz.ntmps130
  go_wp2
  go_ret
  exact ⟨rfl, rfl⟩
/-- Text, filled up by X till n divides its length. -/
def fullL (n : Nat) (t : List UInt8) : List UInt8 := t ++ List.replicate ((n - t.length % n) % n) 88
theorem wpList_catW {P : Program} {ops : Array Oper} {rest : List Oper} {op : Oper} {a : Act} {w : World} {Q : Exit → Act → World → Prop} (hgd : op.guard = none) (t t' : TypeId) (x y : Operand) (ho : op.op = .binOp .add t x y t')
    (S T : ByteArray) (hx : a.eval x = .string S) (hy : a.eval y = .string T) (hsz : S.size + T.size ≤ 9223372036854775807) (h : wpList P ops Q rest (a.put op.dst (.string (S ++ T))) w) : wpList P ops Q (op :: rest) a w :=
  wpList_plain hgd fun _ hK => by
    unfold Oper.wp execOp
    have h1 : ¬ (S.size + T.size > 9223372036854775807) := by omega
    have h2 : (eqGuard .add t x y (.string S) (.string T)).run P w = .ok () w := by simp [eqGuard]
    have h3 : (binOp .add t (.string S) (.string T)).run P w = .ok (.string (S ++ T)) w := by rw [binOp_string_add, run_string_add_if, if_neg h1]
    simp only [ho, hx, hy, Sem.run_bind, h2, h3, Result.andThen_ok]
    exact hK _ _ h
theorem cat_bytes (S : ByteArray) (l : List UInt8) : S ++ (⟨l.toArray⟩ : ByteArray) = ⟨(S.data.toList ++ l).toArray⟩ := by
  apply ByteArray.ext
  simp [ByteArray.data_append]
set_option maxHeartbeats 1000000 in
theorem filled_any (s : ByteArray) (hs : s.size ≤ 65536) (n : Nat) (h1 : 1 ≤ n) (h4 : n ≤ 4) (w : World) : Calls Tryz.prog 126 #[.string s, .int .i64 (n : Nat)] w fun e w' => e = .returned (.string ⟨(fullL n s.data.toList).toArray⟩) ∧ Below w.heap.size w w' := by
  have HL : Hid (s.size = s.data.toList.length) := Pl.size_len s
  obtain ⟨c, hc⟩ : ∃ c, c = (n - s.size % n) % n := ⟨_, rfl⟩
  have hmod : s.size % n < n := Nat.mod_lt _ (by omega)
  have hcn : c < n := by rw [hc]; exact Nat.mod_lt _ (by omega)
  have HV : Hid (fullL n s.data.toList = s.data.toList ++ List.replicate c 88) := by rw [Hid]; unfold fullL; rw [← HL.out, ← hc]
  have e1 : ((s.size : Nat) : Int) % ((n : Nat) : Int) = ((s.size % n : Nat) : Int) := by omega
  have e2 : (((n : Nat) : Int) - ((s.size % n : Nat) : Int)) % ((n : Nat) : Int) = ((c : Nat) : Int) := by
    have : ((n : Nat) : Int) - ((s.size % n : Nat) : Int) = ((n - s.size % n : Nat) : Int) := by omega
    rw [this, hc]
    omega
  obtain ⟨r, hr⟩ : ∃ r, r = s.size % n := ⟨_, rfl⟩
  rw [← hr] at e1 e2 hmod
  have hne : (((n : Nat) : Int) == 0) = false := by simp; omega
  clear hc hr
  have hns : ((⟨(List.replicate c 88).toArray⟩ : ByteArray)).size = c := by simp [ByteArray.size]
  go_enter Tryz.func126, Tryz.ntmps126
  go_wp2_with fail
  refine Calls.mono (repeatX c (by omega) w) ?_
  rintro e W1 ⟨rfl, hb⟩
  have HC : Hid (s ++ (⟨(List.replicate c 88).toArray⟩ : ByteArray) = ⟨(fullL n s.data.toList).toArray⟩) := by rw [Hid, cat_bytes, HV.out]
  obtain ⟨T, hT⟩ : ∃ T : ByteArray, T = ⟨(List.replicate c 88).toArray⟩ := ⟨_, rfl⟩
  rw [← hT] at HC hns ⊢
  clear hT
  go_wp2_with (first | refine wpList_catW rfl _ _ _ _ rfl _ _ rfl rfl (by omega) ?_)
  go_ret
  exact ⟨by rw [← HC.out]; rfl, hb⟩
end Go.Proofs.YtkohhdkkbaifoaaGreatDoor

/-
  What Write makes of a text: plain mathematics. The closure of hill.Write.
-/
namespace Go.Proofs.YtkohhdkkbaifoaaGreatDoor
open Go.RowKit PK

/-- The number that place i becomes. -/
def encN (n : Nat) (Z : Nat → Nat → Int) (full : List UInt8) (i : Nat) : Int := sumTo (Z (i % n)) (fun k => num (full.getD (i - i % n + k) 0)) n % 26
/-- The letters of the first m places. -/
def encL (n : Nat) (Z : Nat → Nat → Int) (full : List UInt8) (m : Nat) : List UInt8 := (List.range m).map fun i => UInt8.ofNat (65 + (encN n Z full i).toNat)
theorem encN_bound (n : Nat) (Z : Nat → Nat → Int) (full : List UInt8) (i : Nat) : 0 ≤ encN n Z full i ∧ encN n Z full i < 26 := ⟨Int.emod_nonneg _ (by decide), Int.emod_lt_of_pos _ (by decide)⟩
theorem encL_step (n : Nat) (Z : Nat → Nat → Int) (full : List UInt8) (m : Nat) : encL n Z full (m + 1) = encL n Z full m ++ [UInt8.ofNat (65 + (encN n Z full m).toNat)] := by unfold encL; rw [List.range_succ, List.map_append]; rfl
theorem encL_length (n : Nat) (Z : Nat → Nat → Int) (full : List UInt8) (m : Nat) : (encL n Z full m).length = m := by simp [encL]
theorem fullL_length (n : Nat) (h : 1 ≤ n) (t : List UInt8) : (fullL n t).length % n = 0 ∧ t.length ≤ (fullL n t).length ∧ (fullL n t).length < t.length + n := by
  have e : (fullL n t).length = t.length + (n - t.length % n) % n := by simp [fullL]
  have h1 : t.length % n < n := Nat.mod_lt _ (by omega)
  have h2 : (n - t.length % n) % n < n := Nat.mod_lt _ (by omega)
  refine ⟨?_, by omega, by omega⟩
  rw [e]
  by_cases h0 : t.length % n = 0
  · rw [h0, Nat.sub_zero, Nat.mod_self, Nat.add_zero]; exact h0
  · rw [Nat.mod_eq_of_lt (show n - t.length % n < n by omega)]
    have := Nat.div_add_mod t.length n
    have e2 : t.length + (n - t.length % n) = n * (t.length / n + 1) := by rw [Nat.mul_add]; omega
    rw [e2]
    exact Nat.mul_mod_right _ _
theorem lets_full (n : Nat) (t : List UInt8) (h : Pl.Lets t) : Pl.Lets (fullL n t) := fun c hc => by
  rcases List.mem_append.1 hc with h1 | h1
  · exact h c h1
  · rw [(List.mem_replicate.1 h1).2]; decide
theorem num_bound {l : List UInt8} (h : Pl.Lets l) (i : Nat) (hi : i < l.length) : (0 ≤ num (l.getD i 0) ∧ num (l.getD i 0) < 26) ∧ 65 ≤ (l.getD i 0).toNat ∧ (l.getD i 0).toNat ≤ 90 := by
  have hm : l.getD i 0 ∈ l := by
    have : l[i]? = some (l.getD i 0) := by simp [List.getD, List.getElem?_eq_getElem hi]
    exact List.mem_of_getElem? this
  have := of_decide_eq_true (show decide _ = true from h _ hm)
  unfold num
  omega
set_option maxHeartbeats 1000000 in
theorem wr1_any (s : ByteArray) (hl : Pl.Lets s.data.toList) (hs : s.size ≤ 70000) (bf ba at' : Nat) (w : World) (hbf : w.cell? ⟨bf, 0, none⟩ = some (.string s)) (hba : w.cell? ⟨ba, 0, none⟩ = some (.int .i64 (at' : Nat))) (k : Nat) (hk : at' + k < s.size) :
    Calls Tryz.prog 128 #[.int .i64 (k : Nat), .pointer (some ⟨bf, 0, none⟩), .pointer (some ⟨ba, 0, none⟩)] w fun e w' => e = .returned (.int .i64 (num (s.data.toList.getD (at' + k) 0))) ∧ Below w.heap.size w w' := by
  have hb := num_bound hl (at' + k) (by have := Pl.size_len s; omega)
  have HE : Hid (num (s.data.toList.getD (at' + k) 0) = (((s[at' + k]).toNat : Nat) : Int) - 65) := by rw [Hid, getD_byte s (at' + k) hk]; rfl
  have hb2 : 65 ≤ (s[at' + k]).toNat ∧ (s[at' + k]).toNat ≤ 90 := by rw [← getD_byte s (at' + k) hk]; exact hb.2
  have HN := (show Hid (∀ W, Calls Tryz.prog 129 #[.int .u8 (((s[at' + k]).toNat : Nat) : Int)] W fun e w' => e = .returned (.int .i64 ((((s[at' + k]).toNat : Nat) : Int) - 65)) ∧ W = w') from fun W => num_any _ hb2.1 hb2.2 W)
  have hi : ((at' : Nat) : Int) + ((k : Nat) : Int) < ((s.size : Nat) : Int) := by omega
  clear hb hb2 hl
  go_enter Tryz.func128, Tryz.ntmps128
  go_wp2_with fail
  refine Calls.mono (HN.out w) ?_
  rintro e W1 ⟨rfl, rfl⟩
  go_wp2
  go_ret
  exact ⟨ret_int HE.out.symm, Below.refl _ _⟩
end Go.Proofs.YtkohhdkkbaifoaaGreatDoor

/-
  Contract of hill.Write where something is wrong.
-/
namespace Go.Proofs.YtkohhdkkbaifoaaGreatDoor
open Go.RowKit PK

end Go.Proofs.YtkohhdkkbaifoaaGreatDoor

/-
  Contract of hill.Write.
-/
namespace Go.Proofs.YtkohhdkkbaifoaaGreatDoor
open Go.RowKit PK

theorem info_byte : (Tryz.prog.info? 5).map (fun i => (i.zero, i.size, i.bytes)) = some (some (.int .u8 0), 1, 1) := by kernel_rfl
theorem enc_at (n : Nat) (Z : Nat → Nat → Int) (full : List UInt8) (q r : Nat) (hr : r < n) : encN n Z full (q * n + r) = sumTo (Z r) (fun k => num (full.getD (q * n + k) 0)) n % 26 := by
  have e : (q * n + r) % n = r := by rw [Nat.add_comm, Nat.add_mul_mod_self_right]; exact Nat.mod_eq_of_lt hr
  unfold encN
  rw [e, Nat.add_sub_cancel]
theorem cells_enc (acc : List UInt8) (x : Int) (h : 0 ≤ x ∧ x < 26) : Lib.byteCells acc ++ [.int .u8 (65 + x)] = Lib.byteCells (acc ++ [UInt8.ofNat (65 + x.toNat)]) := by
  simp [Lib.byteCells]
  omega
/-- An owned block holds its own type. -/
theorem own_type {w : World} {B : Nat} {e T : TypeId} {v : Value} {n : Nat} {xs : List Value} {b : Nat} {c : Array Value} (h : w.ownsRow B e 1 v n xs) (hr : RowAt w b T c) (hne : e ≠ T) : ∀ g, v.ownBlock = some g → g ≠ b := fun g hg e1 => by
  rcases h.2 with ⟨rfl, _⟩ | ⟨g', cap, cur, rfl, hb, hg', _⟩
  · cases hg
  · simp [Value.ownBlock] at hg
    subst hg e1
    unfold RowAt at hr
    rw [hr] at hg'
    simp at hg'
    exact hne hg'.2.symm
def slen : Value → Nat
  | .slice _ n _ => n
  | _ => 0
theorem slen_own {w : World} {B : Nat} {e : TypeId} {v : Value} {l : List UInt8} (h : Kit.Owns w B e v l) : slen v = l.length := by
  rcases h.2 with ⟨rfl, h0⟩ | ⟨g, cap, cur, rfl, _⟩
  · rw [h0]; rfl
  · rfl
theorem own_below2 {w w' : World} {B : Nat} {e : TypeId} {v : Value} {l : List UInt8} (h : Kit.Owns w B e v l) (hb : Below w.heap.size w w') : Kit.Owns w' B e v l :=
  ⟨h.1, h.2.imp id fun ⟨g, cap, cur, a, b, c, d⟩ => ⟨g, cap, cur, a, b, (hb.block g (Array.getElem?_eq_some_iff.1 c).1).trans c, d⟩⟩
theorem row_kept2 {W W' : World} {b : Nat} {T : TypeId} {c : Array Value} {row : Option Nat} (h : RowAt W b T c) (hg : W.grownBy W' row) (hne : row ≠ some b) : RowAt W' b T c := (hg.block b h.lt (fun e => hne e.symm)).trans h
theorem PK.NumsAt.moved {w w' : World} {v : Value} {n : Nat} {f : Nat → Int} (h : NumsAt w v n f) (hb : Below w.heap.size w w') : NumsAt w' v n f := h.below hb
set_option maxRecDepth 100000 in
set_option maxHeartbeats 4000000 in
theorem hwr_ok (v : Value) (n : Nat) (L : Nat → Nat) (Z : Nat → Nat → Int) (hg : GoodM n Z) (hL : ∀ r, r < n → L r = n) (s : ByteArray) (hs : s.size ≤ 65536) (hc : ckE s.data.toList = 0) (hc2 : ckAt s.data.toList = 0) (hlet : Pl.Lets s.data.toList) (hshort : (fullL n s.data.toList).length ≤ 65536) (w : World) (hv : MatAt w v n L Z) :
    Calls Tryz.prog 78 #[v, .string s] w fun e w' => e = .returned (.tuple #[.string ⟨(encL n Z (fullL n s.data.toList) (fullL n s.data.toList).length).toArray⟩, .agg #[.int .i64 0, .int .i64 0]]) ∧ Below w.heap.size w w' := by
  have hmf : ∀ (fn : Fn) (first cap : Array Value) (w : World), (Instr.makeFunc fn first cap).run Tryz.prog w = .ok (.func fn first cap) w := fun _ _ _ _ => rfl
  obtain ⟨i0, hi0, hz0, hz1, hz2⟩ := info_parts info_byte
  have HV := (show Hid (MatAt w v n L Z) from hv)
  have HE : Hid (matErr n L Z = 0) := (matErr_zero n L Z).2 ⟨hg, hL⟩
  have HCK := (show Hid (∀ W, Calls Tryz.prog 38 #[.string s] W fun e w' => e = .returned (.agg #[.int .i64 0, .int .i64 0]) ∧ Below W.heap.size W w') from fun W => by have := check_all s W; rw [hc, hc2] at this; exact this)
  have h1 := hg.pos
  have h4 := hg.le
  have HZ := (show Hid (∀ r, r < n → ∀ c, c < n → 0 ≤ Z r c ∧ Z r c < 26) from hg.num)
  obtain ⟨bm, om, cm, R, rfl, _, hrows, hnums⟩ := (hv.square hL).form (by omega)
  have HROW := (show Hid (∀ r, r < n → w.cell? ⟨bm, om + r, none⟩ = some (R r)) from hrows)
  have HNUM := (show Hid (∀ r, r < n → NumsAt w (R r) n (Z r)) from hnums)
  have HFL := (show Hid (∀ W, Calls Tryz.prog 126 #[.string s, .int .i64 (n : Nat)] W fun e w' => e = .returned (.string ⟨(fullL n s.data.toList).toArray⟩) ∧ Below W.heap.size W w') from fun W => filled_any s hs n h1 h4 W)
  have HLF := (show Hid (Pl.Lets (fullL n s.data.toList)) from lets_full n _ hlet)
  have HDV := (show Hid ((fullL n s.data.toList).length % n = 0) from (fullL_length n h1 _).1)
  clear hv hg hL hc hc2 hlet hrows hnums
  generalize fullL n s.data.toList = full at *
  have HTL : Hid ((⟨full.toArray⟩ : ByteArray).data.toList = full) := by simp [Hid]
  have hT : (⟨full.toArray⟩ : ByteArray).size = full.length := by simp [ByteArray.size]
  obtain ⟨T, hTT⟩ : ∃ T : ByteArray, T = ⟨full.toArray⟩ := ⟨_, rfl⟩
  rw [← hTT] at HFL HTL hT
  obtain ⟨F, hF⟩ : ∃ F, F = full.length := ⟨_, rfl⟩
  rw [← hF] at hshort HDV hT ⊢
  clear hTT hF
  go_enter Tryz.func78, Tryz.ntmps78
  go_wp2_with fail
  refine Calls.mono (hwrong_any _ n L Z _ (HV.out.alloc _)) ?_
  rintro e W1 ⟨rfl, rfl⟩
  rw [HE.out]
  go_wp2_with fail
  refine Calls.mono (HCK.out _) ?_
  rintro e W1 ⟨rfl, hb⟩
  have hb1 : Below (w.heap.size + 1) (w.alloc (.cells #[.int .i64 0, .int .i64 0] 35)) W1 := by simpa using hb
  have hz := hb1.size
  simp at hz
  have hb2 := hb1.alloc (by omega) (.cells #[.int .i64 0, .int .i64 0] 35)
  clear hb
  go_wp2_with fail
  refine Calls.mono (HFL.out _) ?_
  rintro e W2 ⟨rfl, hb3⟩
  have hz3 := hb3.size
  simp at hz3
  have hb4 := (hb2.trans (hb3.mono (by simp; omega))).alloc (by omega) (.cells #[.string T] 9)
  have q8 := RowAt.new W2 9 #[.string T]
  have hz4 : w.heap.size + 2 ≤ (W2.alloc (.cells #[.string T] 9)).heap.size := by simp; omega
  have hz5 : W2.heap.size < (W2.alloc (.cells #[.string T] 9)).heap.size := by simp
  have c8 := q8.cell (i := 0) rfl
  clear hb3 HCK HV HE HFL hb1 hb2
  obtain ⟨b8, hb8⟩ : ∃ b, b = W2.heap.size := ⟨_, rfl⟩
  go_wp2_with (first
    | (at_make; refine wpList_make_own _ rfl _ _ 87 rfl (W2.alloc (.cells #[.string T] 9)).heap.size 5 i0 (.int .u8 0) 1 Tryz.underlying87 hi0 hz0 hz1 _ _ _ F rfl rfl rfl (by rw [hz2]; omega) (by unfold maxLen; omega) (Nat.le_refl _) ?_; intro w3 hown1 hgrow1))
  obtain ⟨W3, hW3⟩ : ∃ W3, W3 = W2.alloc (.cells #[.string T] 9) := ⟨_, rfl⟩
  have e3 : W3.heap.size = W2.heap.size + 1 := by rw [hW3]; simp
  rw [← hW3] at hown1 hgrow1 hb4 hz4 hz5 q8
  have hown0 : Kit.Owns (w3.alloc (.cells #[.int .i64 0] 3)) W3.heap.size 5 (.slice (some ⟨W2.heap.size + 1, 0, none⟩) 0 F) (encL n Z full (0 * n)) := by
    rw [← e3]
    have := World.ownsRow.alloc hown1 (.cells #[.int .i64 0] 3)
    simpa [Kit.Owns, Lib.byteCells, encL] using this
  have hbL0 : Below W3.heap.size W3 (w3.alloc (.cells #[.int .i64 0] 3)) := ((Below.refl _ _).grown hgrow1 (Nat.le_refl _) (fun k hk => by cases hk)).alloc hgrow1.size _
  have qa0 := RowAt.new w3 3 #[.int .i64 0]
  have hza := hgrow1.size
  have hbw : Below w.heap.size w W3 := ((Below.refl w.heap.size w).alloc (Nat.le_refl _) _).trans (hb4.mono (by omega))
  clear hown1 hgrow1 hW3
  go_loopw [10, 9] (fun p v W => ∃ q ba : Nat, q * n ≤ F ∧ p = .pointer (some ⟨ba, 0, none⟩) ∧ W3.heap.size ≤ ba ∧ RowAt W ba 3 #[.int .i64 ((q * n : Nat) : Int)] ∧ Kit.Owns W W3.heap.size 5 v (encL n Z full (q * n)) ∧ Below W3.heap.size W3 W) (fun _ v _ => F - slen v)
  case atStart => exact ⟨0, w3.heap.size, by omega, rfl, hza, by simpa using qa0, hown0, hbL0⟩
  case round =>
    clear hown0 hbL0 qa0 hza
    obtain ⟨q, ba, hq, rfl, hba, qa, hown, hbL⟩ := hrel
    obtain ⟨a, ha⟩ : ∃ a, a = q * n := ⟨_, rfl⟩
    rw [← ha] at hq qa hown
    have HA : Hid (a = q * n) := ha
    have hzl := hbL.size
    have c8' := (q8.below hbL hz5).cell (i := 0) rfl
    have ca := qa.cell (i := 0) rfl
    have HSL : Hid (slen u9 = a) := by
      have := slen_own hown
      rw [encL_length] at this
      exact this
    by_cases hlt : a < F
    · have HNX : Hid (a + n ≤ F) := by
        have hdm := Nat.div_add_mod F n
        rw [HDV.out, Nat.add_zero] at hdm
        rw [ha, ← hdm, Nat.mul_comm n] at hlt
        have h5 := Nat.lt_of_mul_lt_mul_right hlt
        have h6 := Nat.mul_le_mul_right n (show q + 1 ≤ F / n from h5)
        rw [Nat.succ_mul, Nat.mul_comm (F / n), hdm, ← ha] at h6
        exact h6
      have hax : a + n ≤ F := HNX.out
      clear ha
      go_wp2
      go_loopw [47, 9] (fun i v W => ∃ r : Nat, r ≤ n ∧ i = .int .i64 r ∧ Kit.Owns W W3.heap.size 5 v (encL n Z full (a + r)) ∧ RowAt W ba 3 #[.int .i64 ((a : Nat) : Int)] ∧ Below W3.heap.size W3 W) (fun i _ _ => ((n : Int) - intOf i).toNat)
      case atStart => exact ⟨0, by omega, rfl, hown, qa, hbL⟩
      case round =>
        clear hown qa hbL hzl c8' ca
        obtain ⟨r, hr, rfl, hown, qa, hbL⟩ := hrel
        have hzl := hbL.size
        have ca := qa.cell (i := 0) rfl
        have hbW := hbw.trans (hbL.mono hbw.size)
        by_cases hrl : r < n
        · have k1 := (hbW.cell (p := ⟨bm, om + r, none⟩) (cell_block (HROW.out r hrl))).trans (HROW.out r hrl)
          have HNR := (show Hid (NumsAt wr (R r) n (Z r)) from (HNUM.out r hrl).moved hbW)
          have HQ8 := (show Hid (RowAt wr W2.heap.size 9 #[.string T]) from q8.below hbL hz5)
          have HQA := (show Hid (RowAt wr ba 3 #[.int .i64 ((a : Nat) : Int)]) from qa)
          have HOW := (show Hid (Kit.Owns wr W3.heap.size 5 u9 (encL n Z full (a + r))) from hown)
          have HEN : Hid (sumTo (Z r) (fun k => num (full.getD (a + k) 0)) n % 26 = encN n Z full (a + r)) := by rw [Hid, HA.out, enc_at n Z full q r hrl]
          clear hown qa
          go_wp2_with fail
          refine Calls.mono (times_any (R r) n h4 (Z r) (fun k => num (full.getD (a + k) 0)) 128 #[.pointer (some ⟨W2.heap.size, 0, none⟩), .pointer (some ⟨ba, 0, none⟩)] wr HNR.out (by intro args W; go_simp) (fun k hk => ⟨HZ.out r hrl k hk, (num_bound HLF.out (a + k) (by rw [← HTL.out, ← Pl.size_len, hT]; omega)).1⟩) (fun k hk W hW => by
            have := wr1_any T (by rw [HTL.out]; exact HLF.out) (by omega) W2.heap.size ba a W ((HQ8.out.below hW HQ8.out.lt).cell rfl) ((HQA.out.below hW HQA.out.lt).cell rfl) k (by omega)
            rw [HTL.out] at this
            exact this)) ?_
          rintro e W4 ⟨rfl, hc⟩
          rw [HEN.out]
          have hxb := encN_bound n Z full (a + r)
          have HST := (show Hid (encL n Z full (a + (r + 1)) = encL n Z full (a + r) ++ [UInt8.ofNat (65 + (encN n Z full (a + r)).toNat)]) from encL_step n Z full (a + r))
          have HCE := (show Hid (∀ acc : List UInt8, Lib.byteCells acc ++ [.int .u8 (65 + encN n Z full (a + r))] = Lib.byteCells (acc ++ [UInt8.ofNat (65 + (encN n Z full (a + r)).toNat)])) from fun acc => cells_enc acc _ hxb)
          have hle := encL_length n Z full (a + r)
          generalize encN n Z full (a + r) = x at *
          have hown : Kit.Owns W4 W3.heap.size 5 u9 (encL n Z full (a + r)) := own_below2 HOW.out hc
          have qa := HQA.out.below hc HQA.out.lt
          have hz6 := hc.size
          replace hbL := hbL.trans (hc.mono hzl)
          clear hc HNR
          go_wp2_with fail
          refine Calls.mono (letter_anyW x hxb.1 hxb.2 W4) ?_
          rintro e W5 ⟨rfl, rfl⟩
          generalize encL n Z full (a + r) = acc at *
          go_wp2_with (first
            | (at_builtin; refine wpList_append_own _ rfl _ _ 87 rfl W3.heap.size 5 i0 (.int .u8 0) 1 1 Tryz.underlying87 hi0 hz0 hz1 hz2 rfl (by decide) _ _ _ rfl (World.ownsRow.alloc hown _) ⟨W4.heap.size, 0, none⟩ 1 1 [.int .u8 (65 + x)] rfl rfl (cell_one_new _ _ _) (fun u hu => by simp at hu; subst hu; rfl) (by unfold maxLen; omega) (by omega) (by simp; omega) ?_; intro v5 w5 hown5 hgrow5 _))
          go_roundw
          case rel =>
            refine ⟨r + 1, by omega, by go_num, ?_, ?_, ?_⟩
            · rw [HST.out]
              unfold Kit.Owns
              rw [← HCE.out acc, List.length_append]
              exact hown5
            · exact row_kept2 (qa.alloc _) hgrow5 (fun e => own_type hown qa (by decide) ba e rfl)
            · exact (hbL.alloc (by omega) _).grown hgrow5 (by simp; omega) (fun k hk => (World.ownsRow.lt hown k hk).1)
          case measure => simp [intOf]; omega
        · have hrn : r = n := by omega
          subst hrn
          have e9 : (a + r) = (q + 1) * r := by rw [Nat.succ_mul, ← HA.out]
          have HOW := (show Hid (Kit.Owns wr W3.heap.size 5 u9 (encL r Z full ((q + 1) * r))) from by rw [Hid, ← e9]; exact hown)
          have HE9 : Hid ((q + 1) * r = a + r) := e9.symm
          have HS9 : Hid (slen u9 = a + r) := by
            have := slen_own hown
            rw [encL_length] at this
            exact this
          clear e9 hown
          go_wp2
          go_roundw
          case rel =>
            refine ⟨q + 1, wr.heap.size, by rw [HE9.out]; exact HNX.out, rfl, by omega, ?_, World.ownsRow.alloc HOW.out _, hbL.alloc hzl _⟩
            rw [HE9.out]
            have := RowAt.new wr 3 #[.int .i64 (((a : Nat) : Int) + ((r : Nat) : Int))]
            rw [show (((a : Nat) : Int) + ((r : Nat) : Int)) = ((a + r : Nat) : Int) by omega] at this
            exact this
          case measure =>
            have h7 := HS9.out
            have h8 := HSL.out
            omega
    · have haF : a = F := by omega
      have hstr := Kit.run_string_of_own (P := Tryz.prog) wr 87 9 5 Tryz.underlying87 Tryz.underlying5 Tryz.underlying9 hown
      rw [haF] at hstr
      have hbA := hb4.trans (hbL.mono (by omega))
      obtain ⟨c0, c1, f0, f1, hsz⟩ := Kit.two_cells hbA
      have qq := Kit.read_two (.int .i64 0) (.int .i64 0) c0 c1
      have hbf := Kit.below_two hbA (.int .i64 0) (.int .i64 0)
      generalize hFF : encL n Z full F = out at hstr
      have HF : Hid (encL n Z full F = out) := hFF
      clear hown hFF
      go_wp2
      refine bodyPost_ret (v := .tuple #[.string ⟨out.toArray⟩, .agg #[.int .i64 0, .int .i64 0]]) (by simp [results, Tryz.results78, go_sem, qq.1, qq.2]) rfl ⟨by rw [HF.out], hbf⟩
end Go.Proofs.YtkohhdkkbaifoaaGreatDoor
