/-
  Several texts, joined: UCheck, VMath, OMath, OKit, PWrong, PBuild.
-/
import Derived.Test.YtbbpbcmpemmgjaaJn16
import Derived.Deep.MidRow
import Derived.Test.YtbbpbcmpemmgjaaChecked
/-
  What Check and the document's say of any text.
-/
namespace Go.Proofs.Ytbbpbcmpemmgjaa
open Go.RowKit

/-- What Check says. -/
def ckE (t : List UInt8) : Int := if 65536 < t.length then 4 else Pl.chkE t
def ckAt (t : List UInt8) : Int := if 65536 < t.length then 0 else Pl.chkAt t
theorem check_all (s : ByteArray) (w : World) : Calls Try.prog 41 #[.string s] w fun e w' => e = .returned (.agg #[.int .i64 (ckE s.data.toList), .int .i64 (ckAt s.data.toList)]) ∧ Below w.heap.size w w' := by
  unfold ckE ckAt
  have hl := Pl.size_len s
  by_cases h : 65536 < s.size
  · rw [if_pos (by omega), if_pos (by omega)]; exact check_much s w h
  · rw [if_neg (by omega), if_neg (by omega)]; exact check_ok s w (by omega)
theorem rcheck_all (s : ByteArray) (w : World) : Calls Try.prog 70 #[.string s] w fun e w' => e = .returned (.agg #[.int .i64 (ckE s.data.toList), .int .i64 (ckAt s.data.toList)]) ∧ Below w.heap.size w w' := by
  unfold ckE ckAt
  have hl := Pl.size_len s
  by_cases h : 65536 < s.size
  · rw [if_pos (by omega), if_pos (by omega)]; exact rcheck_much s w h
  · rw [if_neg (by omega), if_neg (by omega)]; exact rcheck_ok s w (by omega)
theorem ck_cases (t : List UInt8) : (ckE t = 0 ∧ ckAt t = 0 ∧ t.length ≤ 65536 ∧ Pl.Lets t) ∨ (ckE t != 0) = true := by
  unfold ckE ckAt
  by_cases h : 65536 < t.length
  · rw [if_pos h]; exact .inr rfl
  · rw [if_neg h, if_neg h]
    cases hf : t.findIdx? Pl.bad with
    | none =>
      refine .inl ⟨(chk_none t hf).1, (chk_none t hf).2, by omega, fun c hc => ?_⟩
      have := List.findIdx?_eq_none_iff.1 hf c hc
      simpa [Pl.bad] using this
    | some k => exact .inr (by rw [(chk_some t k hf).1]; rfl)
theorem getD_byte (s : ByteArray) (k : Nat) (hk : k < s.size) : s.data.toList.getD k 0 = s[k] := by
  have hk' : k < s.data.toList.length := by have := Pl.size_len s; omega
  simp only [List.getD, List.getElem?_eq_getElem hk']
  rfl
end Go.Proofs.Ytbbpbcmpemmgjaa

/-
  Keys added to letters: the mathematics.
-/
namespace Go.Proofs.Ytbbpbcmpemmgjaa.Vg

def there (kind a b : Nat) : Nat := if kind = 2 then (b + 26 - a) % 26 else if kind = 3 then (a + 26 - b) % 26 else (a + b) % 26
def back (kind c b : Nat) : Nat := if kind = 2 then (b + 26 - c) % 26 else if kind = 3 then (c + b) % 26 else (c + 26 - b) % 26
def num (c : UInt8) : Nat := c.toNat - 65
def ltr (n : Nat) : UInt8 := UInt8.ofNat (65 + n)
theorem num_lt {c : UInt8} (h : 65 ≤ c.toNat ∧ c.toNat ≤ 90) : num c < 26 := by unfold num; omega
/-- Letters alone. -/
def Ls (l : List UInt8) : Prop := ∀ c ∈ l, 65 ≤ c.toNat ∧ c.toNat ≤ 90
theorem Ls.at {l : List UInt8} (h : Ls l) {i : Nat} (hi : i < l.length) : 65 ≤ (l.getD i 0).toNat ∧ (l.getD i 0).toNat ≤ 90 := by
  rw [List.getD_eq_getElem?_getD, List.getElem?_eq_getElem hi]
  exact h _ (List.getElem_mem hi)
theorem getD_some {l : List UInt8} {i : Nat} (hi : i < l.length) : l.getD i 0 = l[i] := by rw [List.getD_eq_getElem?_getD, List.getElem?_eq_getElem hi]; rfl
theorem getD_map {f : Nat → UInt8} {n i : Nat} (hi : i < n) : ((List.range n).map f).getD i 0 = f i := by
  rw [getD_some (by simpa using hi)]; simp

/-- The key's letter for the place i; p: what is known of the text. -/
def kat (kind : Nat) (k p : List UInt8) (i : Nat) : Nat := if kind = 4 ∧ k.length ≤ i then num (p.getD (i - k.length) 0) else num (k.getD (i % k.length) 0)
def wrL (kind : Nat) (k t : List UInt8) (m : Nat) : List UInt8 := (List.range m).map fun i => ltr (there kind (num (t.getD i 0)) (kat kind k t i))
def writeL (kind : Nat) (k t : List UInt8) : List UInt8 := wrL kind k t t.length
theorem writeL_at (kind : Nat) (k t : List UInt8) {i : Nat} (hi : i < t.length) : (writeL kind k t).getD i 0 = ltr (there kind (num (t.getD i 0)) (kat kind k t i)) := getD_map hi
/-- KASISKI, letter by letter. -/
theorem again {kind : Nat} {k t : List UInt8} (h4 : kind ≠ 4) {i j : Nat} (hi : i < t.length) (hj : j < t.length) (hm : i % k.length = j % k.length) (e : t.getD i 0 = t.getD j 0) : (writeL kind k t).getD i 0 = (writeL kind k t).getD j 0 := by
  rw [writeL_at _ _ _ hi, writeL_at _ _ _ hj, e]
  have : kat kind k t i = kat kind k t j := by unfold kat; rw [if_neg (fun e => h4 e.1), if_neg (fun e => h4 e.1), hm]
  rw [this]

/-- The first place from j on, among n, at which q stands. -/
def nx {α : Type} [DecidableEq α] (p : Nat → α) (q : α) : Nat → Nat → Option Nat
  | _, 0 => none
  | j, n + 1 => if p j = q then some j else nx p q (j + 1) n
theorem nx_some {α : Type} [DecidableEq α] {p : Nat → α} {q : α} : ∀ {n j k : Nat}, nx p q j n = some k → j ≤ k ∧ k < j + n ∧ p k = q ∧ ∀ i, j ≤ i → i < k → p i ≠ q
  | 0, _, _, h => by simp [nx] at h
  | n + 1, j, k, h => by
    unfold nx at h
    split at h
    · next e =>
      cases h
      exact ⟨Nat.le_refl _, by omega, e, fun i _ _ => by omega⟩
    · next e =>
      have := nx_some h
      exact ⟨by omega, by omega, this.2.2.1, fun i h1 h2 => by
        by_cases hij : i = j
        · rw [hij]; exact e
        · exact this.2.2.2 i (by omega) h2⟩
theorem nx_none {α : Type} [DecidableEq α] {p : Nat → α} {q : α} : ∀ {n j : Nat}, nx p q j n = none → ∀ i, j ≤ i → i < j + n → p i ≠ q
  | 0, _, _ => fun i _ _ => by omega
  | n + 1, j, h => by
    unfold nx at h
    split at h
    · cases h
    · next e =>
      intro i h1 h2
      by_cases hij : i = j
      · rw [hij]; exact e
      · exact nx_none h i (by omega) (by omega)
/-- Where what stands at k is looked for, it is found no later. -/
theorem nx_le {α : Type} [DecidableEq α] {p : Nat → α} {q : α} {n j k : Nat} (h1 : j ≤ k) (h2 : k < j + n) (e : p k = q) : ∃ m, nx p q j n = some m ∧ m ≤ k := by
  cases h : nx p q j n with
  | none => exact absurd e (nx_none h k h1 h2)
  | some m =>
    refine ⟨m, rfl, ?_⟩
    apply Classical.byContradiction
    intro hh
    exact (nx_some h).2.2.2 k h1 (by omega) e
def rep {α : Type} [DecidableEq α] (p : Nat → α) (N i : Nat) : List (Nat × Nat) := match nx p (p i) (i + 1) (N - (i + 1)) with | none => [] | some k => [(i, k - i)]
def repsF {α : Type} [DecidableEq α] (p : Nat → α) (N : Nat) : Nat → List (Nat × Nat)
  | 0 => []
  | n + 1 => repsF p N n ++ rep p N n
theorem mem_repsF {α : Type} [DecidableEq α] (p : Nat → α) (N : Nat) {i : Nat} {x : Nat × Nat} : ∀ n, i < n → x ∈ rep p N i → x ∈ repsF p N n
  | 0, h, _ => by omega
  | n + 1, h, hx => by
    by_cases e : i = n
    · subst e; exact List.mem_append.2 (.inr hx)
    · exact List.mem_append.2 (.inl (mem_repsF p N n (by omega) hx))
theorem found {α : Type} [DecidableEq α] {p : Nat → α} {N i k : Nat} (hik : i < k) (hk : k < N) (e : p k = p i) : ∃ m, m ≤ k ∧ i < m ∧ (i, m - i) ∈ repsF p N N := by
  obtain ⟨m, hm, hle⟩ := nx_le (p := p) (q := p i) (n := N - (i + 1)) (j := i + 1) (k := k) (by omega) (by omega) e
  refine ⟨m, hle, by have := (nx_some hm).1; omega, mem_repsF p N N (i := i) (by omega) ?_⟩
  unfold rep
  rw [hm]
  simp
end Go.Proofs.Ytbbpbcmpemmgjaa.Vg

/-
  The machine with wheels: the mathematics.
-/
namespace Go.Proofs.Ytbbpbcmpemmgjaa.Om
open Pm Vg

/-- A machine: n wheels, what each makes of a letter, where it has notches, its ring, where it begins; reflector and plugs. -/
structure Ma where
  n : Nat
  wi : Nat → Nat → Nat
  no : Nat → List Nat
  ri : Nat → Nat
  st : Nat → Nat
  rf : Nat → Nat
  pl : Nat → Nat
/-- A machine with which nothing is wrong. -/
structure Ok (M : Ma) : Prop where
  pos : 1 ≤ M.n
  most : M.n ≤ 4
  wi : ∀ i, i < M.n → IsPerm (M.wi i)
  no : ∀ i, i < M.n → ∀ k, k ∈ M.no i → k < 26
  ri : ∀ i, i < M.n → M.ri i < 26
  st : ∀ i, i < M.n → M.st i < 26
  rf : IsPerm M.rf
  rf2 : ∀ c, c < 26 → M.rf (M.rf c) = c
  rf1 : ∀ c, c < 26 → M.rf c ≠ c
  pl : IsPerm M.pl
  pl2 : ∀ c, c < 26 → M.pl (M.pl c) = c
/-- Does this wheel turn? -/
def turns (M : Ma) (at' : Nat → Nat) (i : Nat) : Bool := i + 1 == M.n || (M.no (i + 1)).contains (at' (i + 1)) || (decide (0 < i) && (M.no i).contains (at' i))
/-- The windows behind a step. -/
def step (M : Ma) (at' : Nat → Nat) : Nat → Nat := fun i => if turns M at' i then (at' i + 1) % 26 else at' i
def steps (M : Ma) (at' : Nat → Nat) : Nat → Nat → Nat
  | 0 => at'
  | k + 1 => step M (steps M at' k)
def In26 (M : Ma) (at' : Nat → Nat) : Prop := ∀ i, i < M.n → at' i < 26
theorem In26.step {M : Ma} {at' : Nat → Nat} (h : In26 M at') : In26 M (step M at') := fun i hi => by
  unfold Om.step
  by_cases ht : turns M at' i
  · rw [if_pos ht]; exact Nat.mod_lt _ (by decide)
  · rw [if_neg ht]; exact h i hi
theorem In26.steps {M : Ma} {at' : Nat → Nat} (h : In26 M at') : ∀ k, In26 M (steps M at' k)
  | 0 => h
  | k + 1 => (In26.steps h k).step
/-- By how much a wheel is turned. -/
def by' (M : Ma) (at' : Nat → Nat) (i : Nat) : Nat := (at' i + 26 - M.ri i) % 26
theorem by_lt (M : Ma) (at' : Nat → Nat) (i : Nat) : by' M at' i < 26 := Nat.mod_lt _ (by decide)
/-- What a wheel makes of a letter. -/
def wheel (p : Nat → Nat) (b c : Nat) : Nat := (p ((c + b) % 26) + 26 - b) % 26
theorem turn_perm (b : Nat) : IsPerm fun c => (c + b) % 26 := ⟨fun _ _ => Nat.mod_lt _ (by decide), fun i j hi hj e => by
  have : (i + b) % 26 = (j + b) % 26 := e
  omega⟩
theorem back_turn {b : Nat} (hb : b < 26) : IsPerm fun c => (c + 26 - b) % 26 := ⟨fun _ _ => Nat.mod_lt _ (by decide), fun i j hi hj e => by
  have : (i + 26 - b) % 26 = (j + 26 - b) % 26 := e
  omega⟩
theorem wheel_perm {p : Nat → Nat} (hp : IsPerm p) {b : Nat} (hb : b < 26) : IsPerm (wheel p b) := ((turn_perm b).comp hp).comp (back_turn hb)
/-- Through the first k wheels from the last one on (no plugs). -/
def through (M : Ma) (at' : Nat → Nat) : Nat → Nat → Nat
  | 0, c => c
  | k + 1, c => wheel (M.wi (M.n - 1 - k)) (by' M at' (M.n - 1 - k)) (through M at' k c)
theorem through_perm {M : Ma} (h : Ok M) (at' : Nat → Nat) : ∀ k, k ≤ M.n → IsPerm (through M at' k)
  | 0, _ => IsPerm.id
  | k + 1, hk => (through_perm h at' k (by omega)).comp (wheel_perm (h.wi _ (by omega)) (by_lt _ _ _))
def there (M : Ma) (at' : Nat → Nat) (c : Nat) : Nat := through M at' M.n (M.pl c)
theorem there_perm {M : Ma} (h : Ok M) (at' : Nat → Nat) : IsPerm (there M at') := h.pl.comp (through_perm h at' M.n (Nat.le_refl _))
/-- What each letter would become. -/
def now (M : Ma) (at' : Nat → Nat) (c : Nat) : Nat := inv (there M at') (M.rf (there M at' c))
theorem now_perm {M : Ma} (h : Ok M) (at' : Nat → Nat) : IsPerm (now M at') := ((there_perm h at').comp h.rf).comp (there_perm h at').inv
theorem inv_unique {p : Nat → Nat} (hp : IsPerm p) {i j : Nat} (hi : i < 26) (e : p i = j) : inv p j = i := by rw [← e]; exact hp.inv_left i hi
/-- PLUGS CHANGE NAMES ALONE. -/
def unplugged (M : Ma) : Ma := { M with pl := fun c => c }
theorem ok_unplugged {M : Ma} (h : Ok M) : Ok (unplugged M) := ⟨h.pos, h.most, h.wi, h.no, h.ri, h.st, h.rf, h.rf2, h.rf1, IsPerm.id, fun _ _ => rfl⟩
/-- Letters pressed one behind the other. -/
def wr (M : Ma) : (Nat → Nat) → List UInt8 → List UInt8
  | _, [] => []
  | at', c :: l => ltr (now M (step M at') (num c)) :: wr M (step M at') l
def plug (p : Nat → Nat) (l : List UInt8) : List UInt8 := l.map fun c => ltr (p (num c))
end Go.Proofs.Ytbbpbcmpemmgjaa.Om

/-
  A machine as an argument: its cells, and what lies behind its slices.
-/
namespace Go.Proofs.Ytbbpbcmpemmgjaa
open Go.RowKit PK

/-- The cells of a wheel. -/
def whl (f : Nat → Int) (R : Value) : Array Value := (ints 26 f).push R
theorem whl_size (f : Nat → Int) (R : Value) : (whl f R).size = 27 := by simp [whl, ints_size]
theorem whl_get (f : Nat → Int) (R : Value) {i : Nat} (h : i < 26) : (whl f R)[i]? = some (.int .i64 (f i)) := by
  unfold whl
  rw [Array.getElem?_push, ints_size, if_neg (by omega), ints_get f h]
theorem whl_last (f : Nat → Int) (R : Value) : (whl f R)[26]? = some R := by
  unfold whl
  rw [Array.getElem?_push, ints_size, if_pos rfl]
theorem whl_ext {f g : Nat → Int} (h : ∀ i, i < 26 → f i = g i) (R : Value) : whl f R = whl g R := by unfold whl; rw [ints_ext h]
/-- The cells of a machine. -/
def mac (a b c : Value) (rf pl : Nat → Int) : Array Value := #[a, b, c] ++ ints 26 rf ++ ints 26 pl
theorem mac_size (a b c : Value) (rf pl : Nat → Int) : (mac a b c rf pl).size = 55 := by simp [mac, ints_size]
theorem mac_0 (a b c : Value) (rf pl : Nat → Int) : (mac a b c rf pl)[0]? = some a := by simp [mac, ints_size]
theorem mac_1 (a b c : Value) (rf pl : Nat → Int) : (mac a b c rf pl)[1]? = some b := by simp [mac, ints_size]
theorem mac_2 (a b c : Value) (rf pl : Nat → Int) : (mac a b c rf pl)[2]? = some c := by simp [mac, ints_size]
theorem mac_rf (a b c : Value) (rf pl : Nat → Int) {i : Nat} (h : i < 26) : (mac a b c rf pl)[3 + i]? = some (.int .i64 (rf i)) := by
  unfold mac
  rw [Array.getElem?_append, if_pos (by simp [ints_size]; omega), Array.getElem?_append, if_neg (by simp)]
  simp [ints_get rf h]
theorem mac_pl (a b c : Value) (rf pl : Nat → Int) {i : Nat} (h : i < 26) : (mac a b c rf pl)[29 + i]? = some (.int .i64 (pl i)) := by
  unfold mac
  rw [Array.getElem?_append, if_neg (by simp [ints_size])]
  simp [ints_size, ints_get pl h]
theorem mac_ext {rf pl rf2 pl2 : Nat → Int} (h1 : ∀ i, i < 26 → rf i = rf2 i) (h2 : ∀ i, i < 26 → pl i = pl2 i) (a b c : Value) : mac a b c rf pl = mac a b c rf2 pl2 := by unfold mac; rw [ints_ext h1, ints_ext h2]
/-- Wheels, as they lie behind a slice. -/
def WheelsAt (W : World) (v : Value) (n : Nat) (wi : Nat → Nat → Int) (nl : Nat → Nat) (no : Nat → Nat → Int) : Prop :=
  ∃ (a : Option Addr) (cap : Nat) (R : Nat → Value), v = .slice a n cap ∧ n ≤ maxLen ∧ (∀ r, r < n → ∃ b o, a = some ⟨b, o, none⟩ ∧ W.rangeAt b (o + r * 27) (whl (wi r) (R r)).toList) ∧ ∀ r, r < n → NumsAt W (R r) (nl r) (no r)
/-- A machine as it is given: anything. -/
structure Gm where
  n : Nat
  wi : Nat → Nat → Int
  nl : Nat → Nat
  no : Nat → Nat → Int
  rl : Nat
  ri : Nat → Int
  sl : Nat
  st : Nat → Int
  rf : Nat → Int
  pl : Nat → Int
def MacAt (W : World) (v : Value) (g : Gm) : Prop := ∃ a b c, v = .agg (mac a b c g.rf g.pl) ∧ WheelsAt W a g.n g.wi g.nl g.no ∧ NumsAt W b g.rl g.ri ∧ NumsAt W c g.sl g.st
theorem rangeAt_below {w w' : World} {b o : Nat} {l : List Value} (h : w.rangeAt b o l) (hb : Below w.heap.size w w') : w'.rangeAt b o l := fun j v hv => by
  have := h j v hv
  exact (hb.cell (p := ⟨b, o + j, none⟩) (cell_block this)).trans this
theorem WheelsAt.below {w w' : World} {v : Value} {n : Nat} {wi : Nat → Nat → Int} {nl : Nat → Nat} {no : Nat → Nat → Int} (h : WheelsAt w v n wi nl no) (hb : Below w.heap.size w w') : WheelsAt w' v n wi nl no := by
  obtain ⟨a, cap, R, h1, h2, h3, h4⟩ := h
  refine ⟨a, cap, R, h1, h2, fun r hr => ?_, fun r hr => (h4 r hr).below hb⟩
  obtain ⟨b, o, e, hc⟩ := h3 r hr
  exact ⟨b, o, e, rangeAt_below hc hb⟩
theorem WheelsAt.alloc {w : World} {v : Value} {n : Nat} {wi : Nat → Nat → Int} {nl : Nat → Nat} {no : Nat → Nat → Int} (h : WheelsAt w v n wi nl no) (o : Obj) : WheelsAt (w.alloc o) v n wi nl no := h.below ((Below.refl _ _).alloc (Nat.le_refl _) _)
theorem MacAt.below {w w' : World} {v : Value} {g : Gm} (h : MacAt w v g) (hb : Below w.heap.size w w') : MacAt w' v g := by
  obtain ⟨a, b, c, e, h1, h2, h3⟩ := h
  exact ⟨a, b, c, e, h1.below hb, h2.below hb, h3.below hb⟩
theorem MacAt.alloc {w : World} {v : Value} {g : Gm} (h : MacAt w v g) (o : Obj) : MacAt (w.alloc o) v g := h.below ((Below.refl _ _).alloc (Nat.le_refl _) _)
/-- All letters' numbers? -/
def ins (n : Nat) (f : Nat → Int) : Bool := (List.range n).all fun i => decide (0 ≤ f i ∧ f i ≤ 25)
theorem ins_iff (n : Nat) (f : Nat → Int) : ins n f = true ↔ ∀ i, i < n → 0 ≤ f i ∧ f i ≤ 25 := by
  unfold ins
  rw [List.all_eq_true]
  constructor
  · intro h i hi; simpa using h i (by simpa using hi)
  · intro h i hi; simpa using h i (by simpa using hi)
def whE (g : Gm) : Nat → Int
  | 0 => 0
  | k + 1 => if whE g k ≠ 0 then whE g k else if Pm.wrong (g.wi k) ≠ 0 then Pm.wrong (g.wi k) else if ins (g.nl k) (g.no k) = true then 0 else 3
/-- Its own undoing, up to letter k; 'strict': and no letter goes to itself. -/
def undo (strict : Bool) (f : Nat → Int) : Bool := (List.range 26).all fun i => decide (f (f i).toNat = (i : Int)) && !(strict && decide (f i = (i : Int)))
theorem undo_iff (strict : Bool) (f : Nat → Int) : undo strict f = true ↔ ∀ i, i < 26 → f (f i).toNat = (i : Int) ∧ (strict = true → f i ≠ (i : Int)) := by
  unfold undo
  rw [List.all_eq_true]
  constructor
  · intro h i hi
    have := h i (by simpa using hi)
    simp at this
    refine ⟨this.1, fun hs => ?_⟩
    rcases this.2 with h1 | h1
    · rw [hs] at h1; cases h1
    · exact h1
  · intro h i hi
    have := h i (by simpa using hi)
    simp [this.1]
    cases strict
    · exact .inl rfl
    · exact .inr (this.2 rfl)
/-- What is wrong with a machine. -/
def gE (g : Gm) : Int :=
  if g.n < 1 ∨ 4 < g.n then 5 else if whE g g.n ≠ 0 then whE g g.n
  else if g.rl ≠ g.n then 8 else if ins g.rl g.ri = false then 3
  else if g.sl ≠ g.n then 8 else if ins g.sl g.st = false then 3
  else if Pm.wrong g.rf ≠ 0 then Pm.wrong g.rf else if undo true g.rf = false then 1
  else if Pm.wrong g.pl ≠ 0 then Pm.wrong g.pl else if undo false g.pl = false then 1 else 0
/-- A right machine as it is given. -/
def gOf (M : Om.Ma) : Gm := ⟨M.n, fun r => Pm.up (M.wi r), fun r => (M.no r).length, fun r k => ((M.no r).getD k 0 : Nat), M.n, fun i => (M.ri i : Nat), M.n, fun i => (M.st i : Nat), Pm.up M.rf, Pm.up M.pl⟩
theorem nums_ext {w : World} {v : Value} {n : Nat} {f f2 : Nat → Int} (h : NumsAt w v n f) (e : ∀ i, i < n → f i = f2 i) : NumsAt w v n f2 := by
  obtain ⟨a, cap, h1, h2, h3⟩ := h
  refine ⟨a, cap, h1, h2, fun c hc => ?_⟩
  rw [← e c hc]
  exact h3 c hc
theorem whE_zero (g : Gm) : ∀ n, whE g n = 0 → ∀ r, r < n → Pm.wrong (g.wi r) = 0 ∧ ins (g.nl r) (g.no r) = true
  | 0, _, r, hr => by omega
  | n + 1, h, r, hr => by
    have h0 : whE g n = 0 := by
      by_cases e : whE g n = 0
      · exact e
      · unfold whE at h; rw [if_pos e] at h; exact absurd h e
    unfold whE at h
    rw [if_neg (fun e => e h0)] at h
    have h1 : Pm.wrong (g.wi n) = 0 := by
      by_cases e : Pm.wrong (g.wi n) = 0
      · exact e
      · rw [if_pos e] at h; exact absurd h e
    rw [if_neg (fun e => e h1)] at h
    have h2 : ins (g.nl n) (g.no n) = true := by
      by_cases e : ins (g.nl n) (g.no n) = true
      · exact e
      · rw [if_neg e] at h; cases h
    by_cases e : r = n
    · rw [e]; exact ⟨h1, h2⟩
    · exact whE_zero g n h0 r (by omega)
theorem gE_zero {g : Gm} (h : gE g = 0) : (1 ≤ g.n ∧ g.n ≤ 4) ∧ whE g g.n = 0 ∧ (g.rl = g.n ∧ ins g.rl g.ri = true) ∧ (g.sl = g.n ∧ ins g.sl g.st = true) ∧ (Pm.wrong g.rf = 0 ∧ undo true g.rf = true) ∧ Pm.wrong g.pl = 0 ∧ undo false g.pl = true := by
  unfold gE at h
  by_cases h1 : g.n < 1 ∨ 4 < g.n
  · rw [if_pos h1] at h; cases h
  rw [if_neg h1] at h
  by_cases h2 : whE g g.n ≠ 0
  · rw [if_pos h2] at h; exact absurd h h2
  rw [if_neg h2] at h
  by_cases h3 : g.rl ≠ g.n
  · rw [if_pos h3] at h; cases h
  rw [if_neg h3] at h
  by_cases h4 : ins g.rl g.ri = false
  · rw [if_pos h4] at h; cases h
  rw [if_neg h4] at h
  by_cases h5 : g.sl ≠ g.n
  · rw [if_pos h5] at h; cases h
  rw [if_neg h5] at h
  by_cases h6 : ins g.sl g.st = false
  · rw [if_pos h6] at h; cases h
  rw [if_neg h6] at h
  by_cases h7 : Pm.wrong g.rf ≠ 0
  · rw [if_pos h7] at h; exact absurd h h7
  rw [if_neg h7] at h
  by_cases h8 : undo true g.rf = false
  · rw [if_pos h8] at h; cases h
  rw [if_neg h8] at h
  by_cases h9 : Pm.wrong g.pl ≠ 0
  · rw [if_pos h9] at h; exact absurd h h9
  rw [if_neg h9] at h
  by_cases h10 : undo false g.pl = false
  · rw [if_pos h10] at h; cases h
  exact ⟨⟨by omega, by omega⟩, Decidable.not_not.1 h2, ⟨Decidable.not_not.1 h3, by simpa using h4⟩, ⟨Decidable.not_not.1 h5, by simpa using h6⟩, ⟨Decidable.not_not.1 h7, by simpa using h8⟩, Decidable.not_not.1 h9, by simpa using h10⟩
end Go.Proofs.Ytbbpbcmpemmgjaa

/-
  Contract of perm.Wrong.
-/
namespace Go.Proofs.Ytbbpbcmpemmgjaa
open Go.RowKit PK

theorem info_perm : (Try.prog.info? 25).map (·.size) = some 26 := by kernel_rfl
theorem info_int : (Try.prog.info? 3).map (·.size) = some 1 := by kernel_rfl

/-- One letter more has been met. -/
theorem met_step (f : Nat → Int) (k n : Nat) (h : f k = (n : Int)) : bools 26 (upd (Pm.seen f k) n true) = bools 26 (Pm.seen f (k + 1)) := bools_ext fun i _ => by
  rw [Pm.seen_succ, h]
  by_cases e : i = n
  · subst e; simp
  · rw [upd_other _ _ e]
    have : (n : Int) ≠ (i : Int) := by omega
    simp [this]

set_option maxHeartbeats 1000000 in
theorem wrong_any (f : Nat → Int) (w : World) : Calls Try.prog 84 #[.agg (ints 26 f)] w fun e w' => e = .returned (.int .i64 (Pm.wrong f)) ∧ Below w.heap.size w w' := by
  go_enter Try.func84, Try.ntmps84
  go_wp2_with (refine wpList_load_row rfl 25 _ rfl w.heap.size rfl 25 (ints 26 f) (0, 0) _ ((RowAt.new w _ _).alloc _) Try.underlying25 rfl (by rw [ints_size]; exact info_perm) ?_)
  rw [none26]
  go_loopw [7] (fun i W => ∃ k : Nat, k ≤ 26 ∧ i = .int .i64 k ∧ Hid (Pm.wrongN f k = 0) ∧ RowAt W (w.heap.size + 1) 125 (bools 26 (Pm.seen f k)) ∧ Below w.heap.size w W) (fun i _ => (26 - intOf i).toNat)
  case atStart =>
    refine ⟨0, by omega, rfl, rfl, ?_, ((Below.refl _ _).alloc (Nat.le_refl _) _).alloc (by simp) _⟩
    have := RowAt.new (w.alloc (Obj.cells (ints 26 f) 25)) 125 (bools 26 fun x => false)
    rw [World.size_alloc] at this
    exact this
  case round =>
    obtain ⟨k, hk, rfl, HN, hrow, hb⟩ := hrel
    by_cases hlt : k < 26
    · have hg := run_index_ints 25 3 26 Try.underlying25 Try.underlying3 info_int f k hlt
      by_cases hr : f k < 0 ∨ 26 ≤ f k
      · have H : Hid (Pm.wrong f = 3) := by rw [Hid, Pm.wrong_stop f k HN.out (by rw [Pm.bad_range f k hr]; decide) hlt, Pm.bad_range f k hr]
        rcases hr with hr | hr
        · go_wp2
          go_ret
          exact ⟨ret_int H.out.symm, hb⟩
        · have hr0 : ¬ f k < 0 := by omega
          go_wp2
          go_ret
          exact ⟨ret_int H.out.symm, hb⟩
      · obtain ⟨n, hn⟩ : ∃ n : Nat, f k = n := ⟨(f k).toNat, by omega⟩
        have hn26 : n < 26 := by omega
        have HM : Hid (f k = n) := hn
        rw [hn] at hg
        clear hr hn
        have hc := hrow.cell (bools_get (Pm.seen f k) hn26)
        have hf := hrow.frozen n
        cases hs : Pm.seen f k n
        · rw [hs] at hc
          have HS : Hid (Pm.seen f k n = false) := hs
          clear hs
          go_wp2
          go_roundw
          case rel =>
            refine ⟨k + 1, by omega, by go_num, ?_, ?_, ?_⟩
            · rw [Hid, Pm.wrongN_succ f k HN.out, Pm.bad_ok f k n HM.out hn26 HS.out]
            · rw [← met_step f k n HM.out, ← bools_set]
              exact hrow.set n _
            · exact hb.setCell (by simp) _
          case measure => simp [intOf]; omega
        · rw [hs] at hc
          have HS : Hid (Pm.wrong f = 8) := by
            have h8 := Pm.bad_fit f k n HM.out hn26 hs
            rw [Hid, Pm.wrong_stop f k HN.out (by rw [h8]; decide) hlt, h8]
          clear hs
          go_wp2
          go_ret
          exact ⟨ret_int HS.out.symm, hb⟩
    · have HK : Hid (k = 26) := by rw [Hid]; omega
      go_wp2
      go_ret
      exact ⟨ret_int (Pm.wrong_end f k HN.out HK.out).symm, hb⟩
end Go.Proofs.Ytbbpbcmpemmgjaa

/-
  Laws of no program: a slice that is built of arrays (what a call with '...' is given).
-/
namespace Go.Proofs.Ytbbpbcmpemmgjaa.PK
open Go.RowKit

def lay (n : Nat) (g : Nat → Value) (o : Nat) (f : Nat → Int) : Nat → Value := fun i => if o ≤ i ∧ i < o + n then .int .i64 (f (i - o)) else g i
theorem foldl_lay (N : Nat) (off : Nat) : ∀ (l : List Value) (s : Nat) (g : Nat → Value), (l.zipIdx s).foldl (fun cs x => cs.setIfInBounds (off + x.2) x.1) (tab N g) = tab N fun i => if off + s ≤ i ∧ i < off + s + l.length then l.getD (i - (off + s)) (.bool false) else g i
  | [], s, g => by
    simp only [List.zipIdx_nil, List.foldl_nil, List.length_nil]
    exact tab_ext fun i _ => by rw [if_neg (by omega)]
  | v :: l, s, g => by
    simp only [List.zipIdx_cons, List.foldl_cons]
    rw [tab_set, foldl_lay N off l (s + 1)]
    refine tab_ext fun i _ => ?_
    by_cases h1 : i = off + s
    · subst h1
      rw [if_neg (by omega), if_pos (by simp)]
      simp
    · by_cases h2 : off + s ≤ i ∧ i < off + s + (v :: l).length
      · have h3 : off + (s + 1) ≤ i ∧ i < off + (s + 1) + l.length := by simp at h2; omega
        rw [if_pos h3, if_pos h2]
        obtain ⟨j, hj⟩ : ∃ j, i - (off + s) = j + 1 := ⟨i - (off + s) - 1, by omega⟩
        have hj' : i - (off + (s + 1)) = j := by omega
        rw [hj, hj']
        simp
      · rw [if_neg (by simp at h2; omega), if_neg h2]
        simp [upd, h1]
theorem ints_toList (n : Nat) (f : Nat → Int) : (ints n f).toList = (List.range n).map fun i => .int .i64 (f i) := by simp [ints, tab]
theorem fill_step (n N : Nat) (g : Nat → Value) (k : Nat) (f : Nat → Int) (rest : List (Nat × Value)) (h : k * n + n ≤ N) :
    Instr.fill (fun i => some (i * n, n)) (tab N g) ((k, .agg (ints n f)) :: rest) = Instr.fill (fun i => some (i * n, n)) (tab N (lay n g (k * n) f)) rest := by
  rw [Instr.fill]
  have h0 : (Value.agg (ints n f)).cells = ints n f := rfl
  simp only [h0, ints_size, tab_size]
  rw [if_neg (by simp <;> omega)]
  congr 1
  rw [← Array.foldl_toList, Array.toList_zipIdx]
  have := foldl_lay N (k * n) (ints n f).toList 0 g
  rw [this]
  refine tab_ext fun i _ => ?_
  rw [ints_toList]
  simp only [List.length_map, List.length_range, Nat.add_zero, lay]
  by_cases e : k * n ≤ i ∧ i < k * n + n
  · rw [if_pos e, if_pos e]
    have : i - k * n < n := by omega
    simp [List.getD, this]
  · rw [if_neg e, if_neg e]
theorem range_tab (N : Nat) (h : Nat → Value) : (Array.range N).map h = tab N h := by
  apply Array.ext_getElem?
  intro i
  by_cases h1 : i < N
  · simp [tab, h1]
  · simp [tab, h1]

section
variable {P : Program}
theorem run_build1 (w : World) (t e : TypeId) (n : Nat) (hn : n * 2 ≤ 2 ^ 24) (hu : P.underlying t = some (.slice e)) (hz : (P.info? e).map (fun i => (i.zero, i.size)) = some (some (.agg (ints n fun _ => 0)), n)) (h0 : 0 < n) (f : Nat → Int) :
    (Instr.buildSlice t 1 #[(0, .agg (ints n f))]).run P w = .ok (.slice (some ⟨w.heap.size, 0, none⟩) 1 1) (w.alloc (.cells (ints n f) e)) := by
  obtain ⟨hz1, hz2⟩ := zero_of_info hz
  cases hq : P.info? e with
  | none => simp [hq] at hz
  | some i =>
    have hs : i.size = n := by simpa [hq] using hz2
    have hsz : ∀ W, (sizeOf e).run P W = .ok n W := fun W => by simp [sizeOf, typeInfo, hq, hs]
    have hlay : tab n (lay n (fun x => (ints n fun _ => 0)[x % n]!) (0 * n) f) = ints n f := tab_ext fun i hi => by
      unfold lay
      rw [if_pos (by omega)]
      simp
    have hfill := fill_step n n (fun x => (ints n fun _ => 0)[x % n]!) 0 f [] (by omega)
    rw [hlay] at hfill
    have hfill' := hfill.trans (rfl : _ = some (ints n f))
    have h3 : ¬ (n > 2 ^ 24) := by omega
    have h4 : ¬ (n = 0) := by omega
    have hc : (Value.agg (ints n fun _ => 0)).cells = ints n fun _ => 0 := rfl
    simp only [Instr.buildSlice, Sem.run_bind, run_underlying hu, Result.andThen_ok, hsz, Nat.one_mul, h3, h4, if_false, hz1, Sem.run_pure, hc, ints_size, range_tab, hfill']
    simp [newRow]
theorem wpList_build0 {ops : Array Oper} {rest : List Oper} {op : Oper} {a : Act} {w : World} {Q : Exit → Act → World → Prop} (hgd : op.guard = none) (t : TypeId) (ho : op.op = .build t #[])
    (cells : Array Value) (hb : P.built t [] = some cells) (h : wpList P ops Q rest (a.put op.dst (.agg cells)) w) : wpList P ops Q (op :: rest) a w :=
  wpList_plain hgd fun _ hK => by
    unfold Oper.wp execOp
    have hm : (#[] : Array (Nat × Operand)).map (fun (i, x) => (i, a.eval x)) = #[] := by simp
    simp only [ho, Sem.run_bind, hm, run_build w t #[] cells hb, Result.andThen_ok]
    exact hK _ _ h
theorem wpList_build1 {ops : Array Oper} {rest : List Oper} {op : Oper} {a : Act} {w : World} {Q : Exit → Act → World → Prop} (hgd : op.guard = none) (t e : TypeId) (x : Operand) (ho : op.op = .buildSlice t 1 #[(0, x)])
    (n : Nat) (f : Nat → Int) (hx : a.eval x = .agg (ints n f)) (hn : n * 2 ≤ 2 ^ 24) (hu : P.underlying t = some (.slice e)) (hz : (P.info? e).map (fun i => (i.zero, i.size)) = some (some (.agg (ints n fun _ => 0)), n)) (h0 : 0 < n)
    (h : wpList P ops Q rest (a.put op.dst (.slice (some ⟨w.heap.size, 0, none⟩) 1 1)) (w.alloc (.cells (ints n f) e))) : wpList P ops Q (op :: rest) a w :=
  wpList_plain hgd fun _ hK => by
    unfold Oper.wp execOp
    have hm : (#[(0, x)] : Array (Nat × Operand)).map (fun (i, x) => (i, a.eval x)) = #[(0, .agg (ints n f))] := by simp [hx]
    simp only [ho, Sem.run_bind, hm, run_build1 w t e n hn hu hz h0 f, Result.andThen_ok]
    exact hK _ _ h
end
theorem results_cell_tmp2 {P : Program} {fn : Func} {p q : Tmp} {ty : TypeId} (h : fn.results = #[.cell p ty, .tmp q]) (tmps : Array Value) (w : World) (g : Nat) (t : TypeId) (cs : Array Value) (fr : Nat × Nat) (d : TypeDesc) (v : Value)
    (hp : tmps.getD p undef = .pointer (some ⟨g, 0, none⟩)) (hv : tmps.getD q undef = v) (hg : w.heap[g]? = some (.cells cs t fr))
    (hu : P.underlying ty = some d) (hd : (match d with | .struct _ | .array _ _ => true | _ => false) = true) (hi : (P.info? ty).map (·.size) = some cs.size) :
    (results fn tmps).run P w = .ok (.tuple #[.agg cs, v]) w := by
  have hp' : tmps[p]?.getD undef = .pointer (some ⟨g, 0, none⟩) := by simpa using hp
  have hv' : tmps[q]?.getD undef = v := by simpa using hv
  simp [results, h, hp', hv', asAddr, run_loadVar_row w g t ty cs fr d hg hu hd hi]
/-- The two arrays, read out of such a block. -/
theorem range_one {w : World} {b : Nat} {T : TypeId} {f : Nat → Int} (h : RowAt w b T (ints 26 f)) : ∀ k, k < 1 → w.rangeAt b (k * 26) (ints 26 f).toList := fun k hk => by
  have : k = 0 := by omega
  subst this
  exact h.range
/-- Behind a call that leaves what was there: two boxed arrays, the result's place, the slice that was built. -/
theorem after2 {w W1 : World} {T : TypeId} {f g z c : Nat → Int} {n : Nat} (hb : Below ((((w.alloc (.cells (ints 26 f) T)).alloc (.cells (ints 26 g) T)).alloc (.cells (ints 26 z) T)).alloc (.cells (ints n c) T)).heap.size ((((w.alloc (.cells (ints 26 f) T)).alloc (.cells (ints 26 g) T)).alloc (.cells (ints 26 z) T)).alloc (.cells (ints n c) T)) W1) :
    RowAt W1 w.heap.size T (ints 26 f) ∧ RowAt W1 (w.heap.size + 1) T (ints 26 g) ∧ RowAt W1 (w.heap.size + 1 + 1) T (ints 26 z) ∧ Below w.heap.size w W1 ∧ w.heap.size + 4 ≤ W1.heap.size := by
  have hs := hb.size
  simp at hs
  refine ⟨RowAt.below (((RowAt.new w _ _).alloc _).alloc _ |>.alloc _) hb (by simp <;> omega), RowAt.below ?_ hb (by simp <;> omega), RowAt.below ?_ hb (by simp), ?_, hs⟩
  · have := RowAt.new (w.alloc (.cells (ints 26 f) T)) T (ints 26 g)
    rw [World.size_alloc] at this
    exact (this.alloc _).alloc _
  · have := RowAt.new ((w.alloc (.cells (ints 26 f) T)).alloc (.cells (ints 26 g) T)) T (ints 26 z)
    rw [World.size_alloc, World.size_alloc] at this
    exact this.alloc _
  · exact ((((((Below.refl _ _).alloc (Nat.le_refl _) _).alloc (by simp) _).alloc (by simp <;> omega) _).alloc (by simp <;> omega) _).trans (hb.mono (by simp <;> omega)))
theorem after1 {w W1 : World} {T : TypeId} {f z c : Nat → Int} {n : Nat} (hb : Below (((w.alloc (.cells (ints 26 f) T)).alloc (.cells (ints 26 z) T)).alloc (.cells (ints n c) T)).heap.size (((w.alloc (.cells (ints 26 f) T)).alloc (.cells (ints 26 z) T)).alloc (.cells (ints n c) T)) W1) :
    RowAt W1 w.heap.size T (ints 26 f) ∧ RowAt W1 (w.heap.size + 1) T (ints 26 z) ∧ Below w.heap.size w W1 ∧ w.heap.size + 3 ≤ W1.heap.size := by
  have hs := hb.size
  simp at hs
  refine ⟨RowAt.below (((RowAt.new w _ _).alloc _).alloc _) hb (by simp <;> omega), RowAt.below ?_ hb (by simp), ?_, hs⟩
  · have := RowAt.new (w.alloc (.cells (ints 26 f) T)) T (ints 26 z)
    rw [World.size_alloc] at this
    exact this.alloc _
  · exact (((((Below.refl _ _).alloc (Nat.le_refl _) _).alloc (by simp) _).alloc (by simp <;> omega) _).trans (hb.mono (by simp <;> omega)))
theorem RowAt.newAt {w : World} {b : Nat} {T : TypeId} {c : Array Value} (h : b = w.heap.size) : RowAt (w.alloc (.cells c T)) b T c := by subst h; exact RowAt.new _ _ _
end Go.Proofs.Ytbbpbcmpemmgjaa.PK
