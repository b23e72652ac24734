/-
  Several texts, joined: HMade, HDet, HProd, WRep, WSmall, WEnc, WBad.
-/
import Derived.Test.YtkohhdkkbaifoaaGreatDoorJn17
import Derived.Deep.QuietTactic
import Derived.BigQuiet
import Derived.Test.YtkohhdkkbaifoaaGreatDoorJn1
import Derived.Shelf.Strings.Repeat
import Derived.Shelf.Lay
import Derived.Ground.NamesProg
import Derived.Lib.Agree
import Derived.RegionTactic
/-
  Contract of hill.made, for any function.
-/
namespace Go.Proofs.YtkohhdkkbaifoaaGreatDoor
open Go.RowKit PK

theorem h_info_int : (Tryz.prog.info? 3).map (fun i => (i.zero, i.size, i.bytes)) = some (some (.int .i64 0), 1, 8) := by kernel_rfl
theorem h_info_ints : (Tryz.prog.info? 25).map (fun i => (i.zero, i.size, i.bytes)) = some (some (.slice none 0 0), 1, 24) := by kernel_rfl
/-- The first k places filled. -/
def fillV (v : Nat → Value) (z : Value) (k : Nat) : Nat → Value := fun i => if i < k then v i else z
theorem made_tab (z : Value) (n : Nat) : madeCells #[z] n = tab n fun _ => z := by
  unfold madeCells tab
  apply Array.ext
  · simp
  · intro i h1 h2
    simp [Nat.mod_one]
end Go.Proofs.YtkohhdkkbaifoaaGreatDoor

/-
  Contracts of hill.cofactor and hill.det.
-/
namespace Go.Proofs.YtkohhdkkbaifoaaGreatDoor
open Go.RowKit PK

/-- Counted as if gone were not there. -/
def skip (i gone : Nat) : Nat := if i < gone then i else i + 1
/-- What is left without row y and place x. -/
def minor (Z : Nat → Nat → Int) (y x : Nat) : Nat → Nat → Int := fun i j => Z (skip i y) (skip j x)
/-- With its sign, modulo 26. -/
def signed (s : Nat) (d : Int) : Int := if s % 2 = 1 then (26 - d) % 26 else d
/-- The determinant along the first row, modulo 26. -/
def detL : Nat → (Nat → Nat → Int) → Int
  | 0, _ => 1
  | n + 1, Z => sumTo (Z 0) (fun x => signed (0 + x) (detL n (minor Z 0 x))) (n + 1) % 26
def cofL (n : Nat) (Z : Nat → Nat → Int) (y x : Nat) : Int := signed (y + x) (detL n (minor Z y x))
end Go.Proofs.YtkohhdkkbaifoaaGreatDoor

/-
  Contracts of hill.Det, hill.Product, hill.Inverse.
-/
namespace Go.Proofs.YtkohhdkkbaifoaaGreatDoor
open Go.RowKit PK

/-- A matrix's rows are all as long. -/
theorem PK.MatAt.square {w : World} {v : Value} {n : Nat} {L : Nat → Nat} {Z : Nat → Nat → Int} (h : MatAt w v n L Z) (hL : ∀ r, r < n → L r = n) : MatAt w v n (fun _ => n) Z := h.congr hL fun _ _ _ _ => rfl
/-- Rows by columns, modulo 26. -/
def mulL (n : Nat) (A B : Nat → Nat → Int) : Nat → Nat → Int := fun y x => sumTo (A y) (fun k => B k x) n % 26
end Go.Proofs.YtkohhdkkbaifoaaGreatDoor

/-
  strings.Repeat of one X, out of the shelf; hill.filled, number, letter.
-/
namespace Go.Proofs.YtkohhdkkbaifoaaGreatDoor
open Go.Shelf Go.RowKit PK

shelf_lay Lays.n105 Nm 105 at Tryz as Tryz.laysRepeat

theorem extraRepeat : Builder.Extra Tryz.prog Tryz.laysRepeat_ren where
  sizeBuilder := by kernel_rfl
  liesBuilder := by kernel_rfl
  t5 := Tryz.laysRepeat.t5
  a5 := Tryz.laysRepeat.a5
  z5 := Tryz.laysRepeat.z5
  v5 := Tryz.laysRepeat.v5
  infoByte := by kernel_rfl
  cellsByte := by kernel_rfl
  sizeByte := by kernel_rfl
  neB5 := by decide
theorem fRepeat : Tryz.laysRepeat_ren.f 105 = 175 := by kernel_rfl
theorem rep_X (c : Nat) : Lib.repeatL [88] c = List.replicate c 88 := by
  induction c with
  | zero => rfl
  | succ c ih => rw [Lib.repeatL, ih]; rfl
theorem repeatX (c : Nat) (hc : c ≤ 4) (w : World) : Calls Tryz.prog 175 #[.string ⟨#[88]⟩, .int .i64 (c : Nat)] w fun e w' => e = .returned (.string ⟨(List.replicate c 88).toArray⟩) ∧ Below w.heap.size w w' := by
  have h := Any.strings_Repeat Tryz.laysRepeat extraRepeat ⟨#[88]⟩ c w (by omega) (by show 1 * c ≤ _; omega)
  rw [fRepeat] at h
  refine h.mono fun e w' ⟨he, hw⟩ => ⟨?_, hw⟩
  rw [he]
  show Ending.returned (.string ⟨(Lib.repeatL [88] c).toArray⟩) = _
  rw [rep_X]
end Go.Proofs.YtkohhdkkbaifoaaGreatDoor

/-
  Contracts of hill.number, hill.letter, hill.filled, and of the closure of hill.Write.
-/
namespace Go.Proofs.YtkohhdkkbaifoaaGreatDoor
open Go.RowKit PK

/-- A letter's number. -/
def num (b : UInt8) : Int := (b.toNat : Int) - 65
theorem num_any (c : Nat) (h1 : 65 ≤ c) (h2 : c ≤ 90) (w : World) : Calls Tryz.prog 129 #[.int .u8 (c : Nat)] w fun e w' => e = .returned (.int .i64 ((c : Int) - 65)) ∧ w = w' := by
  have hw : IntKind.u8.wrap ((c : Int) - 65) = (c : Int) - 65 := by rw [IntKind.wrap_u8]; omega
  go_enter Tryz.func129, Tryz.ntmps129
  go_wp2
  go_ret
  exact ⟨rfl, rfl⟩
theorem letter_anyW (n : Int) (h1 : 0 ≤ n) (h2 : n < 26) (w : World) : Calls Tryz.prog 130 #[.int .i64 n] w fun e w' => e = .returned (.int .u8 (65 + n)) ∧ w = w' := by
  have hw : IntKind.u8.wrap (65 + n) = 65 + n := by rw [IntKind.wrap_u8]; omega
  go_enter Tryz.func130, Tryz.ntmps130
  go_wp2
  go_ret
  exact ⟨rfl, rfl⟩
/-- Text, filled up by X till n divides its length. -/
def fullL (n : Nat) (t : List UInt8) : List UInt8 := t ++ List.replicate ((n - t.length % n) % n) 88
theorem wpList_catW {P : Program} {ops : Array Oper} {rest : List Oper} {op : Oper} {a : Act} {w : World} {Q : Exit → Act → World → Prop} (hgd : op.guard = none) (t t' : TypeId) (x y : Operand) (ho : op.op = .binOp .add t x y t')
    (S T : ByteArray) (hx : a.eval x = .string S) (hy : a.eval y = .string T) (hsz : S.size + T.size ≤ 9223372036854775807) (h : wpList P ops Q rest (a.put op.dst (.string (S ++ T))) w) : wpList P ops Q (op :: rest) a w :=
  wpList_plain hgd fun _ hK => by
    unfold Oper.wp execOp
    have h1 : ¬ (S.size + T.size > 9223372036854775807) := by omega
    have h2 : (eqGuard .add t x y (.string S) (.string T)).run P w = .ok () w := by simp [eqGuard]
    have h3 : (binOp .add t (.string S) (.string T)).run P w = .ok (.string (S ++ T)) w := by rw [binOp_string_add, run_string_add_if, if_neg h1]
    simp only [ho, hx, hy, Sem.run_bind, h2, h3, Result.andThen_ok]
    exact hK _ _ h
theorem cat_bytes (S : ByteArray) (l : List UInt8) : S ++ (⟨l.toArray⟩ : ByteArray) = ⟨(S.data.toList ++ l).toArray⟩ := by
  apply ByteArray.ext
  simp [ByteArray.data_append]
set_option maxHeartbeats 1000000 in
theorem filled_any (s : ByteArray) (hs : s.size ≤ 65536) (n : Nat) (h1 : 1 ≤ n) (h4 : n ≤ 4) (w : World) : Calls Tryz.prog 126 #[.string s, .int .i64 (n : Nat)] w fun e w' => e = .returned (.string ⟨(fullL n s.data.toList).toArray⟩) ∧ Below w.heap.size w w' := by
  have HL : Hid (s.size = s.data.toList.length) := Pl.size_len s
  obtain ⟨c, hc⟩ : ∃ c, c = (n - s.size % n) % n := ⟨_, rfl⟩
  have hmod : s.size % n < n := Nat.mod_lt _ (by omega)
  have hcn : c < n := by rw [hc]; exact Nat.mod_lt _ (by omega)
  have HV : Hid (fullL n s.data.toList = s.data.toList ++ List.replicate c 88) := by rw [Hid]; unfold fullL; rw [← HL.out, ← hc]
  have e1 : ((s.size : Nat) : Int) % ((n : Nat) : Int) = ((s.size % n : Nat) : Int) := by omega
  have e2 : (((n : Nat) : Int) - ((s.size % n : Nat) : Int)) % ((n : Nat) : Int) = ((c : Nat) : Int) := by
    have : ((n : Nat) : Int) - ((s.size % n : Nat) : Int) = ((n - s.size % n : Nat) : Int) := by omega
    rw [this, hc]
    omega
  obtain ⟨r, hr⟩ : ∃ r, r = s.size % n := ⟨_, rfl⟩
  rw [← hr] at e1 e2 hmod
  have hne : (((n : Nat) : Int) == 0) = false := by simp; omega
  clear hc hr
  have hns : ((⟨(List.replicate c 88).toArray⟩ : ByteArray)).size = c := by simp [ByteArray.size]
  go_enter Tryz.func126, Tryz.ntmps126
  go_wp2_with fail
  refine Calls.mono (repeatX c (by omega) w) ?_
  rintro e W1 ⟨rfl, hb⟩
  have HC : Hid (s ++ (⟨(List.replicate c 88).toArray⟩ : ByteArray) = ⟨(fullL n s.data.toList).toArray⟩) := by rw [Hid, cat_bytes, HV.out]
  obtain ⟨T, hT⟩ : ∃ T : ByteArray, T = ⟨(List.replicate c 88).toArray⟩ := ⟨_, rfl⟩
  rw [← hT] at HC hns ⊢
  clear hT
  go_wp2_with (first | refine wpList_catW rfl _ _ _ _ rfl _ _ rfl rfl (by omega) ?_)
  go_ret
  exact ⟨by rw [← HC.out]; rfl, hb⟩
end Go.Proofs.YtkohhdkkbaifoaaGreatDoor

/-
  What Write makes of a text: plain mathematics. The closure of hill.Write.
-/
namespace Go.Proofs.YtkohhdkkbaifoaaGreatDoor
open Go.RowKit PK

/-- The number that place i becomes. -/
def encN (n : Nat) (Z : Nat → Nat → Int) (full : List UInt8) (i : Nat) : Int := sumTo (Z (i % n)) (fun k => num (full.getD (i - i % n + k) 0)) n % 26
/-- The letters of the first m places. -/
def encL (n : Nat) (Z : Nat → Nat → Int) (full : List UInt8) (m : Nat) : List UInt8 := (List.range m).map fun i => UInt8.ofNat (65 + (encN n Z full i).toNat)
theorem encN_bound (n : Nat) (Z : Nat → Nat → Int) (full : List UInt8) (i : Nat) : 0 ≤ encN n Z full i ∧ encN n Z full i < 26 := ⟨Int.emod_nonneg _ (by decide), Int.emod_lt_of_pos _ (by decide)⟩
theorem encL_step (n : Nat) (Z : Nat → Nat → Int) (full : List UInt8) (m : Nat) : encL n Z full (m + 1) = encL n Z full m ++ [UInt8.ofNat (65 + (encN n Z full m).toNat)] := by unfold encL; rw [List.range_succ, List.map_append]; rfl
theorem encL_length (n : Nat) (Z : Nat → Nat → Int) (full : List UInt8) (m : Nat) : (encL n Z full m).length = m := by simp [encL]
theorem fullL_length (n : Nat) (h : 1 ≤ n) (t : List UInt8) : (fullL n t).length % n = 0 ∧ t.length ≤ (fullL n t).length ∧ (fullL n t).length < t.length + n := by
  have e : (fullL n t).length = t.length + (n - t.length % n) % n := by simp [fullL]
  have h1 : t.length % n < n := Nat.mod_lt _ (by omega)
  have h2 : (n - t.length % n) % n < n := Nat.mod_lt _ (by omega)
  refine ⟨?_, by omega, by omega⟩
  rw [e]
  by_cases h0 : t.length % n = 0
  · rw [h0, Nat.sub_zero, Nat.mod_self, Nat.add_zero]; exact h0
  · rw [Nat.mod_eq_of_lt (show n - t.length % n < n by omega)]
    have := Nat.div_add_mod t.length n
    have e2 : t.length + (n - t.length % n) = n * (t.length / n + 1) := by rw [Nat.mul_add]; omega
    rw [e2]
    exact Nat.mul_mod_right _ _
theorem lets_full (n : Nat) (t : List UInt8) (h : Pl.Lets t) : Pl.Lets (fullL n t) := fun c hc => by
  rcases List.mem_append.1 hc with h1 | h1
  · exact h c h1
  · rw [(List.mem_replicate.1 h1).2]; decide
theorem num_bound {l : List UInt8} (h : Pl.Lets l) (i : Nat) (hi : i < l.length) : (0 ≤ num (l.getD i 0) ∧ num (l.getD i 0) < 26) ∧ 65 ≤ (l.getD i 0).toNat ∧ (l.getD i 0).toNat ≤ 90 := by
  have hm : l.getD i 0 ∈ l := by
    have : l[i]? = some (l.getD i 0) := by simp [List.getD, List.getElem?_eq_getElem hi]
    exact List.mem_of_getElem? this
  have := of_decide_eq_true (show decide _ = true from h _ hm)
  unfold num
  omega
set_option maxHeartbeats 1000000 in
theorem wr1_any (s : ByteArray) (hl : Pl.Lets s.data.toList) (hs : s.size ≤ 70000) (bf ba at' : Nat) (w : World) (hbf : w.cell? ⟨bf, 0, none⟩ = some (.string s)) (hba : w.cell? ⟨ba, 0, none⟩ = some (.int .i64 (at' : Nat))) (k : Nat) (hk : at' + k < s.size) :
    Calls Tryz.prog 128 #[.int .i64 (k : Nat), .pointer (some ⟨bf, 0, none⟩), .pointer (some ⟨ba, 0, none⟩)] w fun e w' => e = .returned (.int .i64 (num (s.data.toList.getD (at' + k) 0))) ∧ Below w.heap.size w w' := by
  have hb := num_bound hl (at' + k) (by have := Pl.size_len s; omega)
  have HE : Hid (num (s.data.toList.getD (at' + k) 0) = (((s[at' + k]).toNat : Nat) : Int) - 65) := by rw [Hid, getD_byte s (at' + k) hk]; rfl
  have hb2 : 65 ≤ (s[at' + k]).toNat ∧ (s[at' + k]).toNat ≤ 90 := by rw [← getD_byte s (at' + k) hk]; exact hb.2
  have HN := (show Hid (∀ W, Calls Tryz.prog 129 #[.int .u8 (((s[at' + k]).toNat : Nat) : Int)] W fun e w' => e = .returned (.int .i64 ((((s[at' + k]).toNat : Nat) : Int) - 65)) ∧ W = w') from fun W => num_any _ hb2.1 hb2.2 W)
  have hi : ((at' : Nat) : Int) + ((k : Nat) : Int) < ((s.size : Nat) : Int) := by omega
  clear hb hb2 hl
  go_enter Tryz.func128, Tryz.ntmps128
  go_wp2_with fail
  refine Calls.mono (HN.out w) ?_
  rintro e W1 ⟨rfl, rfl⟩
  go_wp2
  go_ret
  exact ⟨ret_int HE.out.symm, Below.refl _ _⟩
end Go.Proofs.YtkohhdkkbaifoaaGreatDoor

/-
  Contract of hill.Write where something is wrong.
-/
namespace Go.Proofs.YtkohhdkkbaifoaaGreatDoor
open Go.RowKit PK

end Go.Proofs.YtkohhdkkbaifoaaGreatDoor
