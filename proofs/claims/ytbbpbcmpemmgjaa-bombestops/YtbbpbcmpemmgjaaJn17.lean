/-
  Several texts, joined: TCheck, TRefCheck, UCheck, VMath, OMath, OKit.
-/
import Derived.Test.YtbbpbcmpemmgjaaJn16
import Derived.Lib.ConvBytes
import Derived.Deep.MidRow
/-
  The contract of letters.Check.
-/
namespace Go.Proofs.Ytbbpbcmpemmgjaa
open Go.RowKit

set_option maxHeartbeats 400000 in
theorem check_much (s : ByteArray) (w : World) (h : 65536 < s.size) :
    Calls Try.prog 41 #[.string s] w fun e w' => e = .returned (.agg #[.int .i64 4, .int .i64 0]) ∧ Below w.heap.size w w' := by
  go_enter Try.func41, Try.ntmps41
  go_wp2
  exact bodyPost_ret (v := .agg #[.int .i64 4, .int .i64 0]) (by simp [results, Try.results41, go_sem]) rfl ⟨rfl, (Below.refl _ _).alloc (Nat.le_refl _) _⟩

theorem chk_some (l : List UInt8) (k : Nat) (h : l.findIdx? Pl.bad = some k) : Pl.chkE l = 2 ∧ Pl.chkAt l = k := by
  unfold Pl.chkE Pl.chkAt
  rw [h]
  exact ⟨rfl, rfl⟩
theorem chk_none (l : List UInt8) (h : l.findIdx? Pl.bad = none) : Pl.chkE l = 0 ∧ Pl.chkAt l = 0 := by
  unfold Pl.chkE Pl.chkAt
  rw [h]
  exact ⟨rfl, rfl⟩

set_option maxHeartbeats 1000000 in
theorem check_ok (s : ByteArray) (w : World) (h : s.size ≤ 65536) :
    Calls Try.prog 41 #[.string s] w fun e w' => e = .returned (.agg #[.int .i64 (Pl.chkE s.data.toList), .int .i64 (Pl.chkAt s.data.toList)]) ∧ Below w.heap.size w w' := by
  have hb : decide (65536 < (s.size : Int)) = false := by simp; omega
  have HL : Hid (s.size = s.data.toList.length) := Pl.size_len s
  go_enter Try.func41, Try.ntmps41
  go_wp2
  go_loop [10] (fun i => ∃ k : Nat, k ≤ s.size ∧ i = .int .i64 k ∧ Hid (∀ j (_ : j < k) (hj : j < s.data.toList.length), Pl.isL (s.data.toList[j].toNat) = true)) (fun i => s.size - (intOf i).toNat)
  case atStart => exact ⟨0, Nat.zero_le _, rfl, fun j hj => by omega⟩
  case round =>
    obtain ⟨k, hk, rfl, HA⟩ := hrel
    by_cases hlt : k < s.size
    · cases hl : Pl.isL (s[k].toNat : Int)
      · have HE : Hid (s.data.toList.findIdx? Pl.bad = some k) := Pl.chk_at _ k (by have := HL.out; omega) HA.out hl
        go_wp2_with (go_at_call 75; refine (isLetter_any _ _).mono ?_; rintro e w' ⟨rfl, rfl⟩)
        refine bodyPost_ret (v := .agg #[.int .i64 2, .int .i64 k]) (by simp [results, Try.results41, go_sem]) rfl ⟨?_, (Below.refl _ _).alloc (Nat.le_refl _) _⟩
        rw [(chk_some _ _ HE.out).1, (chk_some _ _ HE.out).2]
      · have HE : Hid (∀ j (_ : j < k + 1) (hj : j < s.data.toList.length), Pl.isL (s.data.toList[j].toNat) = true) := by
          intro j hj hj'
          rcases Nat.lt_or_ge j k with h1 | h1
          · exact HA.out j h1 hj'
          · have : j = k := by omega
            subst this
            exact hl
        go_wp2_with (go_at_call 75; refine (isLetter_any _ _).mono ?_; rintro e w' ⟨rfl, rfl⟩)
        exact ⟨⟨k + 1, by omega, by go_num, HE⟩, by simp [intOf]; omega⟩
    · have HE : Hid (s.data.toList.findIdx? Pl.bad = none) := Pl.chk_all _ fun j hj => HA.out j (by have := HL.out; omega) hj
      go_wp2
      refine bodyPost_ret (v := .agg #[.int .i64 0, .int .i64 0]) (by simp [results, Try.results41, go_sem]) rfl ⟨?_, (Below.refl _ _).alloc (Nat.le_refl _) _⟩
      rw [(chk_none _ HE.out).1, (chk_none _ HE.out).2]
end Go.Proofs.Ytbbpbcmpemmgjaa

/-
  The contract of the document's own Check: it answers as the program's.
-/
namespace Go.Proofs.Ytbbpbcmpemmgjaa
open Go.RowKit

end Go.Proofs.Ytbbpbcmpemmgjaa

/-
  What Check and the document's say of any text.
-/
namespace Go.Proofs.Ytbbpbcmpemmgjaa
open Go.RowKit

/-- What Check says. -/
def ckE (t : List UInt8) : Int := if 65536 < t.length then 4 else Pl.chkE t
def ckAt (t : List UInt8) : Int := if 65536 < t.length then 0 else Pl.chkAt t
theorem check_all (s : ByteArray) (w : World) : Calls Try.prog 41 #[.string s] w fun e w' => e = .returned (.agg #[.int .i64 (ckE s.data.toList), .int .i64 (ckAt s.data.toList)]) ∧ Below w.heap.size w w' := by
  unfold ckE ckAt
  have hl := Pl.size_len s
  by_cases h : 65536 < s.size
  · rw [if_pos (by omega), if_pos (by omega)]; exact check_much s w h
  · rw [if_neg (by omega), if_neg (by omega)]; exact check_ok s w (by omega)
theorem ck_cases (t : List UInt8) : (ckE t = 0 ∧ ckAt t = 0 ∧ t.length ≤ 65536 ∧ Pl.Lets t) ∨ (ckE t != 0) = true := by
  unfold ckE ckAt
  by_cases h : 65536 < t.length
  · rw [if_pos h]; exact .inr rfl
  · rw [if_neg h, if_neg h]
    cases hf : t.findIdx? Pl.bad with
    | none =>
      refine .inl ⟨(chk_none t hf).1, (chk_none t hf).2, by omega, fun c hc => ?_⟩
      have := List.findIdx?_eq_none_iff.1 hf c hc
      simpa [Pl.bad] using this
    | some k => exact .inr (by rw [(chk_some t k hf).1]; rfl)
theorem getD_byte (s : ByteArray) (k : Nat) (hk : k < s.size) : s.data.toList.getD k 0 = s[k] := by
  have hk' : k < s.data.toList.length := by have := Pl.size_len s; omega
  simp only [List.getD, List.getElem?_eq_getElem hk']
  rfl
end Go.Proofs.Ytbbpbcmpemmgjaa

/-
  Keys added to letters: the mathematics.
-/
namespace Go.Proofs.Ytbbpbcmpemmgjaa.Vg

def there (kind a b : Nat) : Nat := if kind = 2 then (b + 26 - a) % 26 else if kind = 3 then (a + 26 - b) % 26 else (a + b) % 26
def back (kind c b : Nat) : Nat := if kind = 2 then (b + 26 - c) % 26 else if kind = 3 then (c + b) % 26 else (c + 26 - b) % 26
def num (c : UInt8) : Nat := c.toNat - 65
def ltr (n : Nat) : UInt8 := UInt8.ofNat (65 + n)
theorem num_ltr {n : Nat} (h : n < 26) : num (ltr n) = n := by unfold num ltr; rw [UInt8.toNat_ofNat']; omega
theorem num_lt {c : UInt8} (h : 65 ≤ c.toNat ∧ c.toNat ≤ 90) : num c < 26 := by unfold num; omega
theorem ltr_toNat {n : Nat} (h : n < 26) : (ltr n).toNat = 65 + n := by unfold ltr; rw [UInt8.toNat_ofNat']; omega
theorem ltr_ok {n : Nat} (h : n < 26) : 65 ≤ (ltr n).toNat ∧ (ltr n).toNat ≤ 90 := by rw [ltr_toNat h]; omega

/-- Letters alone. -/
def Ls (l : List UInt8) : Prop := ∀ c ∈ l, 65 ≤ c.toNat ∧ c.toNat ≤ 90
theorem Ls.at {l : List UInt8} (h : Ls l) {i : Nat} (hi : i < l.length) : 65 ≤ (l.getD i 0).toNat ∧ (l.getD i 0).toNat ≤ 90 := by
  rw [List.getD_eq_getElem?_getD, List.getElem?_eq_getElem hi]
  exact h _ (List.getElem_mem hi)
theorem getD_some {l : List UInt8} {i : Nat} (hi : i < l.length) : l.getD i 0 = l[i] := by rw [List.getD_eq_getElem?_getD, List.getElem?_eq_getElem hi]; rfl
theorem getD_map {f : Nat → UInt8} {n i : Nat} (hi : i < n) : ((List.range n).map f).getD i 0 = f i := by
  rw [getD_some (by simpa using hi)]; simp

/-- The key's letter for the place i; p: what is known of the text. -/
def kat (kind : Nat) (k p : List UInt8) (i : Nat) : Nat := if kind = 4 ∧ k.length ≤ i then num (p.getD (i - k.length) 0) else num (k.getD (i % k.length) 0)
def wrL (kind : Nat) (k t : List UInt8) (m : Nat) : List UInt8 := (List.range m).map fun i => ltr (there kind (num (t.getD i 0)) (kat kind k t i))
def writeL (kind : Nat) (k t : List UInt8) : List UInt8 := wrL kind k t t.length
theorem writeL_at (kind : Nat) (k t : List UInt8) {i : Nat} (hi : i < t.length) : (writeL kind k t).getD i 0 = ltr (there kind (num (t.getD i 0)) (kat kind k t i)) := getD_map hi
/-- KASISKI, letter by letter. -/
theorem again {kind : Nat} {k t : List UInt8} (h4 : kind ≠ 4) {i j : Nat} (hi : i < t.length) (hj : j < t.length) (hm : i % k.length = j % k.length) (e : t.getD i 0 = t.getD j 0) : (writeL kind k t).getD i 0 = (writeL kind k t).getD j 0 := by
  rw [writeL_at _ _ _ hi, writeL_at _ _ _ hj, e]
  have : kat kind k t i = kat kind k t j := by unfold kat; rw [if_neg (fun e => h4 e.1), if_neg (fun e => h4 e.1), hm]
  rw [this]

/-- The first place from j on, among n, at which q stands. -/
def nx {α : Type} [DecidableEq α] (p : Nat → α) (q : α) : Nat → Nat → Option Nat
  | _, 0 => none
  | j, n + 1 => if p j = q then some j else nx p q (j + 1) n
theorem nx_some {α : Type} [DecidableEq α] {p : Nat → α} {q : α} : ∀ {n j k : Nat}, nx p q j n = some k → j ≤ k ∧ k < j + n ∧ p k = q ∧ ∀ i, j ≤ i → i < k → p i ≠ q
  | 0, _, _, h => by simp [nx] at h
  | n + 1, j, k, h => by
    unfold nx at h
    split at h
    · next e =>
      cases h
      exact ⟨Nat.le_refl _, by omega, e, fun i _ _ => by omega⟩
    · next e =>
      have := nx_some h
      exact ⟨by omega, by omega, this.2.2.1, fun i h1 h2 => by
        by_cases hij : i = j
        · rw [hij]; exact e
        · exact this.2.2.2 i (by omega) h2⟩
theorem nx_none {α : Type} [DecidableEq α] {p : Nat → α} {q : α} : ∀ {n j : Nat}, nx p q j n = none → ∀ i, j ≤ i → i < j + n → p i ≠ q
  | 0, _, _ => fun i _ _ => by omega
  | n + 1, j, h => by
    unfold nx at h
    split at h
    · cases h
    · next e =>
      intro i h1 h2
      by_cases hij : i = j
      · rw [hij]; exact e
      · exact nx_none h i (by omega) (by omega)
/-- Where what stands at k is looked for, it is found no later. -/
theorem nx_le {α : Type} [DecidableEq α] {p : Nat → α} {q : α} {n j k : Nat} (h1 : j ≤ k) (h2 : k < j + n) (e : p k = q) : ∃ m, nx p q j n = some m ∧ m ≤ k := by
  cases h : nx p q j n with
  | none => exact absurd e (nx_none h k h1 h2)
  | some m =>
    refine ⟨m, rfl, ?_⟩
    apply Classical.byContradiction
    intro hh
    exact (nx_some h).2.2.2 k h1 (by omega) e
def rep {α : Type} [DecidableEq α] (p : Nat → α) (N i : Nat) : List (Nat × Nat) := match nx p (p i) (i + 1) (N - (i + 1)) with | none => [] | some k => [(i, k - i)]
def repsF {α : Type} [DecidableEq α] (p : Nat → α) (N : Nat) : Nat → List (Nat × Nat)
  | 0 => []
  | n + 1 => repsF p N n ++ rep p N n
theorem mem_repsF {α : Type} [DecidableEq α] (p : Nat → α) (N : Nat) {i : Nat} {x : Nat × Nat} : ∀ n, i < n → x ∈ rep p N i → x ∈ repsF p N n
  | 0, h, _ => by omega
  | n + 1, h, hx => by
    by_cases e : i = n
    · subst e; exact List.mem_append.2 (.inr hx)
    · exact List.mem_append.2 (.inl (mem_repsF p N n (by omega) hx))
theorem found {α : Type} [DecidableEq α] {p : Nat → α} {N i k : Nat} (hik : i < k) (hk : k < N) (e : p k = p i) : ∃ m, m ≤ k ∧ i < m ∧ (i, m - i) ∈ repsF p N N := by
  obtain ⟨m, hm, hle⟩ := nx_le (p := p) (q := p i) (n := N - (i + 1)) (j := i + 1) (k := k) (by omega) (by omega) e
  refine ⟨m, hle, by have := (nx_some hm).1; omega, mem_repsF p N N (i := i) (by omega) ?_⟩
  unfold rep
  rw [hm]
  simp
end Go.Proofs.Ytbbpbcmpemmgjaa.Vg

/-
  The machine with wheels: the mathematics.
-/
namespace Go.Proofs.Ytbbpbcmpemmgjaa.Om
open Pm Vg

/-- A machine: n wheels, what each makes of a letter, where it has notches, its ring, where it begins; reflector and plugs. -/
structure Ma where
  n : Nat
  wi : Nat → Nat → Nat
  no : Nat → List Nat
  ri : Nat → Nat
  st : Nat → Nat
  rf : Nat → Nat
  pl : Nat → Nat
/-- A machine with which nothing is wrong. -/
structure Ok (M : Ma) : Prop where
  pos : 1 ≤ M.n
  most : M.n ≤ 4
  wi : ∀ i, i < M.n → IsPerm (M.wi i)
  no : ∀ i, i < M.n → ∀ k, k ∈ M.no i → k < 26
  ri : ∀ i, i < M.n → M.ri i < 26
  st : ∀ i, i < M.n → M.st i < 26
  rf : IsPerm M.rf
  rf2 : ∀ c, c < 26 → M.rf (M.rf c) = c
  rf1 : ∀ c, c < 26 → M.rf c ≠ c
  pl : IsPerm M.pl
  pl2 : ∀ c, c < 26 → M.pl (M.pl c) = c
/-- Does this wheel turn? -/
def turns (M : Ma) (at' : Nat → Nat) (i : Nat) : Bool := i + 1 == M.n || (M.no (i + 1)).contains (at' (i + 1)) || (decide (0 < i) && (M.no i).contains (at' i))
/-- The windows behind a step. -/
def step (M : Ma) (at' : Nat → Nat) : Nat → Nat := fun i => if turns M at' i then (at' i + 1) % 26 else at' i
def steps (M : Ma) (at' : Nat → Nat) : Nat → Nat → Nat
  | 0 => at'
  | k + 1 => step M (steps M at' k)
def In26 (M : Ma) (at' : Nat → Nat) : Prop := ∀ i, i < M.n → at' i < 26
theorem In26.step {M : Ma} {at' : Nat → Nat} (h : In26 M at') : In26 M (step M at') := fun i hi => by
  unfold Om.step
  by_cases ht : turns M at' i
  · rw [if_pos ht]; exact Nat.mod_lt _ (by decide)
  · rw [if_neg ht]; exact h i hi
theorem In26.steps {M : Ma} {at' : Nat → Nat} (h : In26 M at') : ∀ k, In26 M (steps M at' k)
  | 0 => h
  | k + 1 => (In26.steps h k).step
/-- By how much a wheel is turned. -/
def by' (M : Ma) (at' : Nat → Nat) (i : Nat) : Nat := (at' i + 26 - M.ri i) % 26
theorem by_lt (M : Ma) (at' : Nat → Nat) (i : Nat) : by' M at' i < 26 := Nat.mod_lt _ (by decide)
/-- What a wheel makes of a letter. -/
def wheel (p : Nat → Nat) (b c : Nat) : Nat := (p ((c + b) % 26) + 26 - b) % 26
theorem turn_perm (b : Nat) : IsPerm fun c => (c + b) % 26 := ⟨fun _ _ => Nat.mod_lt _ (by decide), fun i j hi hj e => by
  have : (i + b) % 26 = (j + b) % 26 := e
  omega⟩
theorem back_turn {b : Nat} (hb : b < 26) : IsPerm fun c => (c + 26 - b) % 26 := ⟨fun _ _ => Nat.mod_lt _ (by decide), fun i j hi hj e => by
  have : (i + 26 - b) % 26 = (j + 26 - b) % 26 := e
  omega⟩
theorem wheel_perm {p : Nat → Nat} (hp : IsPerm p) {b : Nat} (hb : b < 26) : IsPerm (wheel p b) := ((turn_perm b).comp hp).comp (back_turn hb)
/-- Through the first k wheels from the last one on (no plugs). -/
def through (M : Ma) (at' : Nat → Nat) : Nat → Nat → Nat
  | 0, c => c
  | k + 1, c => wheel (M.wi (M.n - 1 - k)) (by' M at' (M.n - 1 - k)) (through M at' k c)
theorem through_perm {M : Ma} (h : Ok M) (at' : Nat → Nat) : ∀ k, k ≤ M.n → IsPerm (through M at' k)
  | 0, _ => IsPerm.id
  | k + 1, hk => (through_perm h at' k (by omega)).comp (wheel_perm (h.wi _ (by omega)) (by_lt _ _ _))
def there (M : Ma) (at' : Nat → Nat) (c : Nat) : Nat := through M at' M.n (M.pl c)
theorem there_perm {M : Ma} (h : Ok M) (at' : Nat → Nat) : IsPerm (there M at') := h.pl.comp (through_perm h at' M.n (Nat.le_refl _))
/-- What each letter would become. -/
def now (M : Ma) (at' : Nat → Nat) (c : Nat) : Nat := inv (there M at') (M.rf (there M at' c))
theorem now_perm {M : Ma} (h : Ok M) (at' : Nat → Nat) : IsPerm (now M at') := ((there_perm h at').comp h.rf).comp (there_perm h at').inv
/-- WHAT THE MACHINE DOES IT UNDOES. -/
theorem now_now {M : Ma} (h : Ok M) (at' : Nat → Nat) {c : Nat} (hc : c < 26) : now M at' (now M at' c) = c := by
  have hp := there_perm h at'
  have h1 := hp.1 c hc
  have h2 := h.rf.1 _ h1
  unfold now
  rw [(hp.inv_spec _ h2).2, h.rf2 _ h1, hp.inv_left c hc]
/-- NO LETTER STANDS FOR ITSELF. -/
theorem now_ne {M : Ma} (h : Ok M) (at' : Nat → Nat) {c : Nat} (hc : c < 26) : now M at' c ≠ c := by
  have hp := there_perm h at'
  have h1 := hp.1 c hc
  have h2 := h.rf.1 _ h1
  intro e
  have h3 := (hp.inv_spec _ h2).2
  have e2 : inv (there M at') (M.rf (there M at' c)) = c := e
  rw [e2] at h3
  exact h.rf1 _ h1 h3.symm
theorem inv_unique {p : Nat → Nat} (hp : IsPerm p) {i j : Nat} (hi : i < 26) (e : p i = j) : inv p j = i := by rw [← e]; exact hp.inv_left i hi
/-- PLUGS CHANGE NAMES ALONE. -/
def unplugged (M : Ma) : Ma := { M with pl := fun c => c }
theorem through_unplugged (M : Ma) (at' : Nat → Nat) : ∀ k c, through (unplugged M) at' k c = through M at' k c
  | 0, _ => rfl
  | k + 1, c => by
    show wheel (M.wi (M.n - 1 - k)) (by' (unplugged M) at' (M.n - 1 - k)) (through (unplugged M) at' k c) = wheel (M.wi (M.n - 1 - k)) (by' M at' (M.n - 1 - k)) (through M at' k c)
    rw [through_unplugged M at' k c]
    rfl
theorem ok_unplugged {M : Ma} (h : Ok M) : Ok (unplugged M) := ⟨h.pos, h.most, h.wi, h.no, h.ri, h.st, h.rf, h.rf2, h.rf1, IsPerm.id, fun _ _ => rfl⟩
theorem now_plugs {M : Ma} (h : Ok M) (at' : Nat → Nat) {c : Nat} (hc : c < 26) : now M at' c = M.pl (now (unplugged M) at' (M.pl c)) := by
  have hq := there_perm (ok_unplugged h) at'
  have hp := there_perm h at'
  have e1 : ∀ c, there (unplugged M) at' (M.pl c) = there M at' c := fun c => through_unplugged M at' M.n (M.pl c)
  have h1 := hp.1 c hc
  have h2 := h.rf.1 _ h1
  have h3 := hq.inv_spec _ h2
  unfold now
  rw [e1]
  show inv (there M at') (M.rf (there M at' c)) = M.pl (inv (there (unplugged M) at') (M.rf (there M at' c)))
  refine inv_unique hp (h.pl.1 _ h3.1) ?_
  rw [← e1, h.pl2 _ h3.1, h3.2]
/-- Letters pressed one behind the other. -/
def wr (M : Ma) : (Nat → Nat) → List UInt8 → List UInt8
  | _, [] => []
  | at', c :: l => ltr (now M (step M at') (num c)) :: wr M (step M at') l
theorem wr_length (M : Ma) : ∀ (l : List UInt8) (at' : Nat → Nat), (wr M at' l).length = l.length
  | [], _ => rfl
  | _ :: l, at' => by show (wr M (step M at') l).length + 1 = l.length + 1; rw [wr_length M l]
theorem wr_ls {M : Ma} (h : Ok M) : ∀ {l : List UInt8} (at' : Nat → Nat), Ls l → Ls (wr M at' l)
  | [], _, _ => fun c hc => by cases hc
  | a :: l, at', hl => by
    intro c hc
    rcases List.mem_cons.1 hc with e | e
    · rw [e]; exact ltr_ok ((now_perm h _).1 _ (num_lt (hl a (by simp))))
    · exact wr_ls h (step M at') (fun c hc => hl c (List.mem_cons_of_mem _ hc)) c e
def plug (p : Nat → Nat) (l : List UInt8) : List UInt8 := l.map fun c => ltr (p (num c))
/-- THE WHEELS DON'T SEE THE TEXT. -/
theorem steps_step (M : Ma) : ∀ k (at' : Nat → Nat), steps M (step M at') k = steps M at' (k + 1)
  | 0, _ => rfl
  | k + 1, at' => by show step M (steps M (step M at') k) = _; rw [steps_step M k]; rfl
end Go.Proofs.Ytbbpbcmpemmgjaa.Om

/-
  A machine as an argument: its cells, and what lies behind its slices.
-/
namespace Go.Proofs.Ytbbpbcmpemmgjaa
open Go.RowKit PK

/-- The cells of a wheel. -/
def whl (f : Nat → Int) (R : Value) : Array Value := (ints 26 f).push R
theorem whl_size (f : Nat → Int) (R : Value) : (whl f R).size = 27 := by simp [whl, ints_size]
theorem whl_get (f : Nat → Int) (R : Value) {i : Nat} (h : i < 26) : (whl f R)[i]? = some (.int .i64 (f i)) := by
  unfold whl
  rw [Array.getElem?_push, ints_size, if_neg (by omega), ints_get f h]
theorem whl_last (f : Nat → Int) (R : Value) : (whl f R)[26]? = some R := by
  unfold whl
  rw [Array.getElem?_push, ints_size, if_pos rfl]
theorem whl_ext {f g : Nat → Int} (h : ∀ i, i < 26 → f i = g i) (R : Value) : whl f R = whl g R := by unfold whl; rw [ints_ext h]
/-- The cells of a machine. -/
def mac (a b c : Value) (rf pl : Nat → Int) : Array Value := #[a, b, c] ++ ints 26 rf ++ ints 26 pl
theorem mac_size (a b c : Value) (rf pl : Nat → Int) : (mac a b c rf pl).size = 55 := by simp [mac, ints_size]
theorem mac_0 (a b c : Value) (rf pl : Nat → Int) : (mac a b c rf pl)[0]? = some a := by simp [mac, ints_size]
theorem mac_1 (a b c : Value) (rf pl : Nat → Int) : (mac a b c rf pl)[1]? = some b := by simp [mac, ints_size]
theorem mac_2 (a b c : Value) (rf pl : Nat → Int) : (mac a b c rf pl)[2]? = some c := by simp [mac, ints_size]
theorem mac_rf (a b c : Value) (rf pl : Nat → Int) {i : Nat} (h : i < 26) : (mac a b c rf pl)[3 + i]? = some (.int .i64 (rf i)) := by
  unfold mac
  rw [Array.getElem?_append, if_pos (by simp [ints_size]; omega), Array.getElem?_append, if_neg (by simp)]
  simp [ints_get rf h]
theorem mac_pl (a b c : Value) (rf pl : Nat → Int) {i : Nat} (h : i < 26) : (mac a b c rf pl)[29 + i]? = some (.int .i64 (pl i)) := by
  unfold mac
  rw [Array.getElem?_append, if_neg (by simp [ints_size])]
  simp [ints_size, ints_get pl h]
theorem mac_ext {rf pl rf2 pl2 : Nat → Int} (h1 : ∀ i, i < 26 → rf i = rf2 i) (h2 : ∀ i, i < 26 → pl i = pl2 i) (a b c : Value) : mac a b c rf pl = mac a b c rf2 pl2 := by unfold mac; rw [ints_ext h1, ints_ext h2]
/-- Wheels, as they lie behind a slice. -/
def WheelsAt (W : World) (v : Value) (n : Nat) (wi : Nat → Nat → Int) (nl : Nat → Nat) (no : Nat → Nat → Int) : Prop :=
  ∃ (a : Option Addr) (cap : Nat) (R : Nat → Value), v = .slice a n cap ∧ n ≤ maxLen ∧ (∀ r, r < n → ∃ b o, a = some ⟨b, o, none⟩ ∧ W.rangeAt b (o + r * 27) (whl (wi r) (R r)).toList) ∧ ∀ r, r < n → NumsAt W (R r) (nl r) (no r)
/-- A machine as it is given: anything. -/
structure Gm where
  n : Nat
  wi : Nat → Nat → Int
  nl : Nat → Nat
  no : Nat → Nat → Int
  rl : Nat
  ri : Nat → Int
  sl : Nat
  st : Nat → Int
  rf : Nat → Int
  pl : Nat → Int
def MacAt (W : World) (v : Value) (g : Gm) : Prop := ∃ a b c, v = .agg (mac a b c g.rf g.pl) ∧ WheelsAt W a g.n g.wi g.nl g.no ∧ NumsAt W b g.rl g.ri ∧ NumsAt W c g.sl g.st
theorem rangeAt_below {w w' : World} {b o : Nat} {l : List Value} (h : w.rangeAt b o l) (hb : Below w.heap.size w w') : w'.rangeAt b o l := fun j v hv => by
  have := h j v hv
  exact (hb.cell (p := ⟨b, o + j, none⟩) (cell_block this)).trans this
theorem WheelsAt.below {w w' : World} {v : Value} {n : Nat} {wi : Nat → Nat → Int} {nl : Nat → Nat} {no : Nat → Nat → Int} (h : WheelsAt w v n wi nl no) (hb : Below w.heap.size w w') : WheelsAt w' v n wi nl no := by
  obtain ⟨a, cap, R, h1, h2, h3, h4⟩ := h
  refine ⟨a, cap, R, h1, h2, fun r hr => ?_, fun r hr => (h4 r hr).below hb⟩
  obtain ⟨b, o, e, hc⟩ := h3 r hr
  exact ⟨b, o, e, rangeAt_below hc hb⟩
theorem WheelsAt.alloc {w : World} {v : Value} {n : Nat} {wi : Nat → Nat → Int} {nl : Nat → Nat} {no : Nat → Nat → Int} (h : WheelsAt w v n wi nl no) (o : Obj) : WheelsAt (w.alloc o) v n wi nl no := h.below ((Below.refl _ _).alloc (Nat.le_refl _) _)
theorem MacAt.below {w w' : World} {v : Value} {g : Gm} (h : MacAt w v g) (hb : Below w.heap.size w w') : MacAt w' v g := by
  obtain ⟨a, b, c, e, h1, h2, h3⟩ := h
  exact ⟨a, b, c, e, h1.below hb, h2.below hb, h3.below hb⟩
theorem MacAt.alloc {w : World} {v : Value} {g : Gm} (h : MacAt w v g) (o : Obj) : MacAt (w.alloc o) v g := h.below ((Below.refl _ _).alloc (Nat.le_refl _) _)
/-- All letters' numbers? -/
def ins (n : Nat) (f : Nat → Int) : Bool := (List.range n).all fun i => decide (0 ≤ f i ∧ f i ≤ 25)
theorem ins_iff (n : Nat) (f : Nat → Int) : ins n f = true ↔ ∀ i, i < n → 0 ≤ f i ∧ f i ≤ 25 := by
  unfold ins
  rw [List.all_eq_true]
  constructor
  · intro h i hi; simpa using h i (by simpa using hi)
  · intro h i hi; simpa using h i (by simpa using hi)
def whE (g : Gm) : Nat → Int
  | 0 => 0
  | k + 1 => if whE g k ≠ 0 then whE g k else if Pm.wrong (g.wi k) ≠ 0 then Pm.wrong (g.wi k) else if ins (g.nl k) (g.no k) = true then 0 else 3
/-- Its own undoing, up to letter k; 'strict': and no letter goes to itself. -/
def undo (strict : Bool) (f : Nat → Int) : Bool := (List.range 26).all fun i => decide (f (f i).toNat = (i : Int)) && !(strict && decide (f i = (i : Int)))
theorem undo_iff (strict : Bool) (f : Nat → Int) : undo strict f = true ↔ ∀ i, i < 26 → f (f i).toNat = (i : Int) ∧ (strict = true → f i ≠ (i : Int)) := by
  unfold undo
  rw [List.all_eq_true]
  constructor
  · intro h i hi
    have := h i (by simpa using hi)
    simp at this
    refine ⟨this.1, fun hs => ?_⟩
    rcases this.2 with h1 | h1
    · rw [hs] at h1; cases h1
    · exact h1
  · intro h i hi
    have := h i (by simpa using hi)
    simp [this.1]
    cases strict
    · exact .inl rfl
    · exact .inr (this.2 rfl)
/-- What is wrong with a machine. -/
def gE (g : Gm) : Int :=
  if g.n < 1 ∨ 4 < g.n then 5 else if whE g g.n ≠ 0 then whE g g.n
  else if g.rl ≠ g.n then 8 else if ins g.rl g.ri = false then 3
  else if g.sl ≠ g.n then 8 else if ins g.sl g.st = false then 3
  else if Pm.wrong g.rf ≠ 0 then Pm.wrong g.rf else if undo true g.rf = false then 1
  else if Pm.wrong g.pl ≠ 0 then Pm.wrong g.pl else if undo false g.pl = false then 1 else 0
/-- A right machine as it is given. -/
def gOf (M : Om.Ma) : Gm := ⟨M.n, fun r => Pm.up (M.wi r), fun r => (M.no r).length, fun r k => ((M.no r).getD k 0 : Nat), M.n, fun i => (M.ri i : Nat), M.n, fun i => (M.st i : Nat), Pm.up M.rf, Pm.up M.pl⟩
theorem nums_ext {w : World} {v : Value} {n : Nat} {f f2 : Nat → Int} (h : NumsAt w v n f) (e : ∀ i, i < n → f i = f2 i) : NumsAt w v n f2 := by
  obtain ⟨a, cap, h1, h2, h3⟩ := h
  refine ⟨a, cap, h1, h2, fun c hc => ?_⟩
  rw [← e c hc]
  exact h3 c hc
theorem whE_zero (g : Gm) : ∀ n, whE g n = 0 → ∀ r, r < n → Pm.wrong (g.wi r) = 0 ∧ ins (g.nl r) (g.no r) = true
  | 0, _, r, hr => by omega
  | n + 1, h, r, hr => by
    have h0 : whE g n = 0 := by
      by_cases e : whE g n = 0
      · exact e
      · unfold whE at h; rw [if_pos e] at h; exact absurd h e
    unfold whE at h
    rw [if_neg (fun e => e h0)] at h
    have h1 : Pm.wrong (g.wi n) = 0 := by
      by_cases e : Pm.wrong (g.wi n) = 0
      · exact e
      · rw [if_pos e] at h; exact absurd h e
    rw [if_neg (fun e => e h1)] at h
    have h2 : ins (g.nl n) (g.no n) = true := by
      by_cases e : ins (g.nl n) (g.no n) = true
      · exact e
      · rw [if_neg e] at h; cases h
    by_cases e : r = n
    · rw [e]; exact ⟨h1, h2⟩
    · exact whE_zero g n h0 r (by omega)
theorem gE_zero {g : Gm} (h : gE g = 0) : (1 ≤ g.n ∧ g.n ≤ 4) ∧ whE g g.n = 0 ∧ (g.rl = g.n ∧ ins g.rl g.ri = true) ∧ (g.sl = g.n ∧ ins g.sl g.st = true) ∧ (Pm.wrong g.rf = 0 ∧ undo true g.rf = true) ∧ Pm.wrong g.pl = 0 ∧ undo false g.pl = true := by
  unfold gE at h
  by_cases h1 : g.n < 1 ∨ 4 < g.n
  · rw [if_pos h1] at h; cases h
  rw [if_neg h1] at h
  by_cases h2 : whE g g.n ≠ 0
  · rw [if_pos h2] at h; exact absurd h h2
  rw [if_neg h2] at h
  by_cases h3 : g.rl ≠ g.n
  · rw [if_pos h3] at h; cases h
  rw [if_neg h3] at h
  by_cases h4 : ins g.rl g.ri = false
  · rw [if_pos h4] at h; cases h
  rw [if_neg h4] at h
  by_cases h5 : g.sl ≠ g.n
  · rw [if_pos h5] at h; cases h
  rw [if_neg h5] at h
  by_cases h6 : ins g.sl g.st = false
  · rw [if_pos h6] at h; cases h
  rw [if_neg h6] at h
  by_cases h7 : Pm.wrong g.rf ≠ 0
  · rw [if_pos h7] at h; exact absurd h h7
  rw [if_neg h7] at h
  by_cases h8 : undo true g.rf = false
  · rw [if_pos h8] at h; cases h
  rw [if_neg h8] at h
  by_cases h9 : Pm.wrong g.pl ≠ 0
  · rw [if_pos h9] at h; exact absurd h h9
  rw [if_neg h9] at h
  by_cases h10 : undo false g.pl = false
  · rw [if_pos h10] at h; cases h
  exact ⟨⟨by omega, by omega⟩, Decidable.not_not.1 h2, ⟨Decidable.not_not.1 h3, by simpa using h4⟩, ⟨Decidable.not_not.1 h5, by simpa using h6⟩, ⟨Decidable.not_not.1 h7, by simpa using h8⟩, Decidable.not_not.1 h9, by simpa using h10⟩
end Go.Proofs.Ytbbpbcmpemmgjaa
