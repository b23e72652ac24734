/-
  Several texts, joined: PrJ, PtA, PtB, PtC, PTurn.
-/
import Derived.Test.YtkohhdkkbaifoaaGreatDoorJn30
import Derived.Test.YtkohhdkkbaifoaaGreatDoorJn25
import Derived.Lib.Join
import Derived.Test.YtkohhdkkbaifoaaGreatDoorJn29
import Derived.Test.YtkohhdkkbaifoaaGreatDoorJn22
/-
  For script.Print: how long words are.
-/
namespace Go.Proofs.YtkohhdkkbaifoaaGreatDoor
open Go.RowKit PK Vg

theorem nmN_len (i : Nat) : (nmN i).data.toList.length ≤ 8 := by
  match i with
  | 0 => decide
  | 1 => decide
  | 2 => decide
  | 3 => decide
  | 4 => decide
  | 5 => decide
  | 6 => decide
  | _ + 7 => exact Nat.zero_le _
theorem tbN_len (i : Nat) : (tbN i).data.toList.length ≤ 8 := by
  match i with
  | 0 => decide
  | 1 => decide
  | 2 => decide
  | 3 => decide
  | 4 => decide
  | _ + 5 => exact Nat.zero_le _
theorem nmO_len (s : Sp) : (nmO s).data.toList.length ≤ 8 := by
  unfold nmO
  split
  · exact tbN_len _
  · exact nmN_len _
theorem dc_len : ∀ i, i < 100 → (Lib.decDigits i).length ≤ 2 := by decide +kernel
theorem dcD_len {x : Int} (h : 0 ≤ x ∧ x < 100) : (dcD x).data.toList.length ≤ 2 := dc_len x.toNat (by omega)
theorem mrN_len (i : Nat) : (mrN i).data.toList.length ≤ 1 := by
  match i with
  | 0 => decide
  | 1 => decide
  | _ + 2 => exact Nat.zero_le _
theorem mwL_word {n : Nat} {L : Nat → Nat} {Z : Nat → Nat → Int} (hn : n < 100) : ∀ y, (∀ r, r < y → ∀ c, c < L r → 0 ≤ Z r c ∧ Z r c < 100) → ∀ x ∈ mwL n L Z y, x.data.toList.length ≤ 2
  | 0, _, x, hx => by
    have e : x = dcD n := by simpa [mwL] using hx
    rw [e]; exact dcD_len (by omega)
  | y + 1, h, x, hx => by
    rcases List.mem_append.1 (show x ∈ mwL n L Z y ++ mwR (Z y) (L y) from hx) with h1 | h1
    · exact mwL_word hn y (fun r hr => h r (by omega)) x h1
    · obtain ⟨c, hc, rfl⟩ := List.mem_map.1 h1
      exact dcD_len (h y (by omega) c (by simpa using hc))
theorem mcW_word {g : Gm} (hg : gE g = 0) (hp : (plS g).length ≤ 1000) : ∀ x ∈ mcW g, x.data.toList.length ≤ 1000 := by
  obtain ⟨⟨_, hn⟩, _, ⟨h4, _⟩, ⟨h6, _⟩, _⟩ := gE_zero hg
  intro x hx
  have h1 := mcN_join g hn
  unfold mcW mc4 at hx
  rcases List.mem_append.1 hx with h | h
  · simp only [List.mem_cons, List.mem_nil_iff, or_false] at h
    rcases h with rfl | rfl | rfl | rfl
    · exact Nat.le_trans h1 (by decide)
    · exact Nat.le_trans (mrN_len _) (by decide)
    · show (sptL g.rl g.ri).length ≤ 1000; rw [sptL_length]; omega
    · show (sptL g.sl g.st).length ≤ 1000; rw [sptL_length]; omega
  · split at h
    · cases h
    · simp only [List.mem_cons, List.mem_nil_iff, or_false] at h
      rw [h]
      exact hp
theorem mcW_len (g : Gm) : (mcW g).length ≤ 17 := by
  unfold mcW
  rw [List.length_append]
  have h1 : (mc4 g).length = 4 := rfl
  split
  · rw [h1]; decide
  · rw [h1]; simp
theorem plS_len {g : Gm} (hg : gE g = 0) : (plS g).length ≤ 1000 := by
  obtain ⟨_, _, _, _, _, h10, _⟩ := gE_zero hg
  obtain ⟨hpl, _⟩ := perm_toNat h10
  have h1 := wrAll_len (Pm.cycs (fun c => (g.pl c).toNat) 26) (fun l hl => (cycs_each hpl l hl).2)
  have h2 : (Pm.cycs (fun c => (g.pl c).toNat) 26).length ≤ 26 := Pm.cycs_len _ 26
  unfold plS
  omega
/-- No word is longer than that, and there are no more than so many. -/
theorem woW_len {s : Sp} (hs : stE s = 0) (hp : s.k = 6 → (plS s.g).length ≤ 1000) : (woW s).length ≤ 18 ∧ ∀ x ∈ woW s, x.data.toList.length ≤ 1000 := by
  have h0 := nmO_len s
  unfold woW
  have key : ∀ r : List ByteArray, r.length ≤ 17 → (∀ x ∈ r, x.data.toList.length ≤ 1000) → ([nmO s] ++ r).length ≤ 18 ∧ ∀ x ∈ [nmO s] ++ r, x.data.toList.length ≤ 1000 := fun r h1 h2 => by
    refine ⟨by rw [List.length_append]; show 1 + r.length ≤ 18; omega, fun x hx => ?_⟩
    rcases List.mem_append.1 hx with h | h
    · simp only [List.mem_cons, List.mem_nil_iff, or_false] at h
      rw [h]; omega
    · exact h2 x h
  by_cases h13 : s.k = 1 ∨ s.k = 3
  · rw [if_pos h13]
    refine key _ (by simp) (fun x hx => ?_)
    simp only [List.mem_cons, List.mem_nil_iff, or_false] at hx
    rw [hx]
    rcases h13 with h | h
    · have := st_move hs h; exact Nat.le_trans (dcD_len (by omega)) (by decide)
    · have := st_rail hs h; exact Nat.le_trans (dcD_len (by omega)) (by decide)
  rw [if_neg h13]
  by_cases h24 : s.k = 2 ∨ s.k = 4
  · rw [if_pos h24]
    refine key _ (by simp) (fun x hx => ?_)
    simp only [List.mem_cons, List.mem_nil_iff, or_false] at hx
    rw [hx]
    rcases h24 with h | h
    · have := (st_tab hs h).2.2.2; omega
    · have := (st_col hs h).2.2; omega
  rw [if_neg h24]
  by_cases h5 : s.k = 5
  · rw [if_pos h5]
    obtain ⟨hgm, hlm⟩ := (matErr_zero _ _ _).1 (st_hill hs h5)
    have hr4 := hgm.le
    refine key _ ?_ (fun x hx => Nat.le_trans (mwL_word (by omega) s.r (fun r hr c hc => by rw [hlm r hr] at hc; have := hgm.num r hr c hc; omega) x hx) (by decide))
    have := mwL_len (n := s.r) (Z := s.Z) (L := s.L) s.r (fun r hr => by rw [hlm r hr]; exact hr4)
    omega
  rw [if_neg h5]
  have h6 : s.k = 6 := by have := st_kinds hs; omega
  exact key _ (mcW_len _) (mcW_word (st_rotor hs h6) (hp h6))
end Go.Proofs.YtkohhdkkbaifoaaGreatDoor

/-
  What is written is read: single words.
-/
namespace Go.Proofs.YtkohhdkkbaifoaaGreatDoor
open Go.RowKit PK Vg

theorem upto_mid {w r : List UInt8} (hw : ∀ c ∈ w, c ≠ 32) : upto 32 (w ++ 32 :: r) = w := by
  unfold upto
  induction w with
  | nil => simp
  | cons c w ih =>
    have hc := hw c (by simp)
    rw [List.cons_append, List.takeWhile_cons, if_pos (by simpa using hc), ih (fun d hd => hw d (by simp [hd]))]
theorem upto_end {w : List UInt8} (hw : ∀ c ∈ w, c ≠ 32) : upto 32 w = w := by
  unfold upto
  induction w with
  | nil => rfl
  | cons c w ih =>
    have hc := hw c (by simp)
    rw [List.takeWhile_cons, if_pos (by simpa using hc), ih (fun d hd => hw d (by simp [hd]))]
/-- A word that a blank follows. -/
theorem rWord_mid {A w r : List UInt8} (hw : ∀ c ∈ w, c ≠ 32) (h0 : w ≠ []) : rWord (A ++ (w ++ 32 :: r)) A.length = .ok (w, A.length + w.length + 1) := by
  have h1 : wrd (A ++ (w ++ 32 :: r)) A.length = w := by
    unfold wrd
    rw [List.drop_left']
    · exact upto_mid hw
    · rfl
  have h2 : wE (A ++ (w ++ 32 :: r)) A.length = 0 := by
    unfold wE
    rw [if_neg (by simp), h1, if_neg h0]
  unfold rWord
  rw [if_pos h2, h1]
/-- The last word. -/
theorem rWord_end {A w : List UInt8} (hw : ∀ c ∈ w, c ≠ 32) (h0 : w ≠ []) : rWord (A ++ w) A.length = .ok (w, A.length + w.length + 1) := by
  have h1 : wrd (A ++ w) A.length = w := by
    unfold wrd
    rw [List.drop_left']
    · exact upto_end hw
    · rfl
  have h2 : wE (A ++ w) A.length = 0 := by
    unfold wE
    rw [if_neg (by simp), h1, if_neg h0]
  unfold rWord
  rw [if_pos h2, h1]
/-- Numbers below a hundred, written and read. -/
theorem dec_read : ∀ i, i < 100 → valA 0 (Lib.decDigits i) = i ∧ isNum (Lib.decDigits i) = true ∧ Lib.decDigits i ≠ [] ∧ ∀ c ∈ Lib.decDigits i, c ≠ 32 := by decide +kernel
theorem dec_num {i : Nat} (hi : i < 100) {lo hi' : Int} (h1 : lo ≤ i) (h2 : (i : Int) ≤ hi') : numE (Lib.decDigits i) lo hi' = 0 := by
  obtain ⟨a, b, _, _⟩ := dec_read i hi
  unfold numE
  rw [if_neg (by rw [b]; decide), a]
  exact inE_zero.2 ⟨h1, h2⟩
/-- Names, written and read. -/
theorem name_read : nmK (nmN 1) = some (1, 0) ∧ nmK (nmN 3) = some (3, 0) ∧ nmK (nmN 4) = some (4, 0) ∧ nmK (nmN 5) = some (5, 0) ∧ nmK (nmN 6) = some (6, 0) ∧ nmK (tbN 1) = some (2, 1) ∧ nmK (tbN 2) = some (2, 2) ∧ nmK (tbN 3) = some (2, 3) ∧ nmK (tbN 4) = some (2, 4) := ⟨by kernel_rfl, by kernel_rfl, by kernel_rfl, by kernel_rfl, by kernel_rfl, by kernel_rfl, by kernel_rfl, by kernel_rfl, by kernel_rfl⟩
end Go.Proofs.YtkohhdkkbaifoaaGreatDoor

/-
  What is written is read: words one behind the other.
-/
namespace Go.Proofs.YtkohhdkkbaifoaaGreatDoor
open Go.RowKit PK Vg

/-- From p on the text has these words, then r: nothing, or what begins with a blank. -/
def Lies (t : List UInt8) (p : Nat) (ws : List (List UInt8)) (r : List UInt8) : Prop := ∃ A, t = A ++ (Lib.join ws [32] ++ r) ∧ A.length = p ∧ (r = [] ∨ ∃ r', r = 32 :: r')
def Wd (x : List UInt8) : Prop := x ≠ [] ∧ ∀ c ∈ x, c ≠ 32
theorem join_two (x y : List UInt8) (ws : List (List UInt8)) : Lib.join (x :: y :: ws) [32] = x ++ 32 :: Lib.join (y :: ws) [32] := by
  rw [Lib.join_cons, Lib.join_cons]
  unfold Lib.joinTail
  simp
theorem Lies.word {t : List UInt8} {p : Nat} {x y : List UInt8} {ws : List (List UInt8)} {r : List UInt8} (h : Lies t p (x :: y :: ws) r) (hx : Wd x) : rWord t p = .ok (x, p + x.length + 1) ∧ Lies t (p + x.length + 1) (y :: ws) r := by
  obtain ⟨A, rfl, rfl, hr⟩ := h
  rw [join_two, List.append_assoc, List.cons_append]
  refine ⟨rWord_mid hx.2 hx.1, A ++ (x ++ [32]), by simp, by simp; omega, hr⟩
theorem Lies.last {t : List UInt8} {p : Nat} {x r : List UInt8} (h : Lies t p [x] r) (hx : Wd x) : rWord t p = .ok (x, p + x.length + 1) := by
  obtain ⟨A, rfl, rfl, hr⟩ := h
  rw [Lib.join_one]
  rcases hr with rfl | ⟨r', rfl⟩
  · rw [List.append_nil]; exact rWord_end hx.2 hx.1
  · exact rWord_mid hx.2 hx.1
/-- A number is read. -/
theorem Lies.num {t : List UInt8} {p i : Nat} {r : List UInt8} {lo hi : Int} (h : Lies t p [Lib.decDigits i] r) (h1 : i < 100) (h2 : lo ≤ i) (h3 : (i : Int) ≤ hi) : rNum t lo hi p = .ok (i, p + (Lib.decDigits i).length + 1) := by
  obtain ⟨a, b, c, d⟩ := dec_read i h1
  unfold rNum
  rw [h.last ⟨c, d⟩]
  show rChk (numE (Lib.decDigits i) lo hi) p (.ok (valA 0 (Lib.decDigits i), p + (Lib.decDigits i).length + 1)) = _
  unfold rChk
  rw [if_pos (dec_num h1 h2 h3), a]
end Go.Proofs.YtkohhdkkbaifoaaGreatDoor

/-
  What is written is read: steps.
-/
namespace Go.Proofs.YtkohhdkkbaifoaaGreatDoor
open Go.RowKit PK Vg

theorem ba_self (b : ByteArray) : (⟨b.data.toList.toArray⟩ : ByteArray) = b := by cases b; rfl
/-- A step's name is read; what follows hangs on its kind. -/
theorem rStep_name {t : List UInt8} {p q place k n : Nat} {b : ByteArray} (h : rWord t p = .ok (b.data.toList, q)) (hk : nmK b = some (k, n)) (hp : place < 64) : rStep t place p = (if k = 1 then rBind (rNum t 0 25 q) fun x q' => .ok ({ sp0 k n with n := x }, q')
    else if k = 3 then rBind (rNum t 1 64 q) fun x q' => .ok ({ sp0 k n with n := x }, q')
    else if k = 2 ∨ k = 4 then rBind (rKey t q) fun x q' => .ok ({ sp0 k n with key := ⟨x.toArray⟩ }, q')
    else if k = 5 then rBind (rMat t q) fun x q' => .ok ({ sp0 k n with r := x.1, L := fun _ => x.1, Z := fun i j => (x.2.getD (i * x.1 + j) 0 : Nat) }, q')
    else if k = 6 then rBind (rMach t q) fun x q' => .ok ({ sp0 k n with g := x }, q')
    else .ok (sp0 k n, q)) := by
  unfold rStep
  rw [h]
  show (match nmK ⟨b.data.toList.toArray⟩ with | none => _ | some (k, n) => _) = _
  rw [ba_self, hk]
  show (if 64 ≤ place then _ else _) = _
  rw [if_neg (by omega)]
theorem wd_move : Wd (nmN 1).data.toList := ⟨by decide, by decide⟩
theorem wd_rail : Wd (nmN 3).data.toList := ⟨by decide, by decide⟩
theorem wd_dec {i : Nat} (h : i < 100) : Wd (Lib.decDigits i) := ⟨(dec_read i h).2.2.1, (dec_read i h).2.2.2⟩
theorem Lies.move {t : List UInt8} {p place i : Nat} {r : List UInt8} (h : Lies t p [(nmN 1).data.toList, Lib.decDigits i] r) (hi : i ≤ 25) (hp : place < 64) : rStep t place p = .ok ({ sp0 1 0 with n := (i : Int) }, p + (nmN 1).data.toList.length + 1 + (Lib.decDigits i).length + 1) := by
  obtain ⟨h1, h2⟩ := h.word wd_move
  rw [rStep_name h1 name_read.1 hp, if_pos rfl, h2.num (by omega) (by omega) (by omega)]
  rfl
theorem Lies.rail {t : List UInt8} {p place i : Nat} {r : List UInt8} (h : Lies t p [(nmN 3).data.toList, Lib.decDigits i] r) (h0 : 1 ≤ i) (hi : i ≤ 64) (hp : place < 64) : rStep t place p = .ok ({ sp0 3 0 with n := (i : Int) }, p + (nmN 3).data.toList.length + 1 + (Lib.decDigits i).length + 1) := by
  obtain ⟨h1, h2⟩ := h.word wd_rail
  rw [rStep_name h1 name_read.2.1 hp, if_neg (by decide), if_pos rfl, h2.num (by omega) (by omega) (by omega)]
  rfl
end Go.Proofs.YtkohhdkkbaifoaaGreatDoor

/-
  Plain mathematics: what is written as cycles is read; the lengths of the cycles.
-/
namespace Go.Proofs.YtkohhdkkbaifoaaGreatDoor
open Go.RowKit PK

def runOK : Rd → List UInt8 → Prop
  | _, [] => True
  | s, b :: t => s.err b.toNat = 0 ∧ runOK (s.next b.toNat) t
def runS : Rd → List UInt8 → Rd
  | s, [] => s
  | s, b :: t => runS (s.next b.toNat) t
theorem runOK_append : ∀ (a b : List UInt8) (s : Rd), runOK s (a ++ b) ↔ runOK s a ∧ runOK (runS s a) b
  | [], b, s => by simp [runOK, runS]
  | x :: a, b, s => by
    show (s.err x.toNat = 0 ∧ runOK (s.next x.toNat) (a ++ b)) ↔ (s.err x.toNat = 0 ∧ runOK (s.next x.toNat) a) ∧ runOK (runS (s.next x.toNat) a) b
    rw [runOK_append a b, and_assoc]
theorem runS_append : ∀ (a b : List UInt8) (s : Rd), runS s (a ++ b) = runS (runS s a) b
  | [], _, _ => rfl
  | x :: a, b, s => runS_append a b (s.next x.toNat)
theorem take_getD (t : List UInt8) (k : Nat) (h : k < t.length) : t.take (k + 1) = t.take k ++ [t.getD k 0] := by
  rw [List.take_succ_eq_append_getElem h]
  simp [List.getD, h]
theorem rd_run (t : List UInt8) (h : runOK rd0 t) : ∀ k, k ≤ t.length → rdErr t k = none ∧ rdN t k = runS rd0 (t.take k)
  | 0, _ => ⟨rfl, rfl⟩
  | k + 1, hk => by
    have ih := rd_run t h k (by omega)
    have hs : t = t.take (k + 1) ++ t.drop (k + 1) := (List.take_append_drop _ _).symm
    rw [hs, runOK_append, take_getD t k (by omega), runOK_append] at h
    have he : (rdN t k).err (t.getD k 0).toNat = 0 := by rw [ih.2]; exact h.1.2.1
    refine ⟨rdErr_succ t k ih.1 he, ?_⟩
    show (rdN t k).next (t.getD k 0).toNat = _
    rw [take_getD t k (by omega), runS_append, ih.2]
    rfl
theorem rd_out (t : List UInt8) (h : runOK rd0 t) (ho : (runS rd0 t).op = false) : readOut t = (Pm.up (runS rd0 t).p, 0, 0) := by
  have h1 := rd_run t h t.length (Nat.le_refl _)
  rw [List.take_length] at h1
  unfold readOut
  rw [h1.1, h1.2]
  simp [ho]
/-- The cycles 'done' have been read. -/
structure Read1 (P : Nat → Nat) (done : List Nat) (s : Rd) : Prop where
  op : s.op = false
  st : ∀ x, s.st x = done.contains x
  p : ∀ x, s.p x = if x ∈ done then P x else x
/-- j letters of a cycle have been read besides. -/
structure Read2 (P : Nat → Nat) (i : Nat) (done : List Nat) (j : Nat) (s : Rd) : Prop where
  op : s.op = true
  long : s.long = j
  first : 0 < j → s.first = i
  last : 0 < j → s.last = Pm.iter P (j - 1) i
  st : ∀ x, s.st x = (done.contains x || (List.range j).any fun k => Pm.iter P k i == x)
  p1 : 0 < j → s.p (Pm.iter P (j - 1) i) = i
  p2 : ∀ k, k + 1 < j → s.p (Pm.iter P k i) = P (Pm.iter P k i)
  p3 : ∀ x, (∀ k, k < j → Pm.iter P k i ≠ x) → s.p x = if x ∈ done then P x else x
theorem iter_ne {P : Nat → Nat} (hp : Pm.IsPerm P) (i : Nat) (hi : i < 26) (a b : Nat) (hab : a < b) (hb : b < Pm.len P i) : Pm.iter P a i ≠ Pm.iter P b i := fun e =>
  (Pm.len_is hp i hi).min (b - a) (by omega) (by omega) (Pm.iter_back hp i hi a b (by omega) e)
theorem letters_run {P : Nat → Nat} (hp : Pm.IsPerm P) (i : Nat) (hi : i < 26) (done : List Nat) (hf : ∀ x ∈ Pm.cyc P i, x ∉ done) (s : Rd) (h0 : Read2 P i done 0 s) :
    ∀ j, j ≤ Pm.len P i → runOK s ((List.range j).map fun k => lb (Pm.iter P k i)) ∧ Read2 P i done j (runS s ((List.range j).map fun k => lb (Pm.iter P k i)))
  | 0, _ => ⟨trivial, h0⟩
  | j + 1, hj => by
    obtain ⟨ih1, ih2⟩ := letters_run hp i hi done hf s h0 j (by omega)
    rw [List.range_succ, List.map_append, runOK_append, runS_append]
    generalize hs : runS s ((List.range j).map fun k => lb (Pm.iter P k i)) = s' at ih2
    have hx := Pm.iter_lt hp i hi j
    have hb : (lb (Pm.iter P j i)).toNat = 65 + Pm.iter P j i := lb_toNat _ hx
    have hne : ∀ k, k < j → Pm.iter P k i ≠ Pm.iter P j i := fun k hk => iter_ne hp i hi k j hk (by omega)
    have hst : s'.st (Pm.iter P j i) = false := by
      rw [ih2.st]
      have h1 : Pm.iter P j i ∉ done := hf _ ((Pm.mem_cyc hp i hi _).2 ⟨j, rfl⟩)
      simp [h1]
      intro k hk
      exact hne k hk
    have hsub : 65 + Pm.iter P j i - 65 = Pm.iter P j i := by omega
    have herr : s'.err (65 + Pm.iter P j i) = 0 := by
      unfold Rd.err
      rw [if_neg (by simp [ih2.op]), if_neg (by omega), if_pos ⟨ih2.op, by omega, by omega⟩, hsub, Rd.errL, if_neg (by simp [hst])]
    have hnext : s'.next (65 + Pm.iter P j i) = s'.letter (Pm.iter P j i) := by
      unfold Rd.next
      rw [if_neg (by simp [ih2.op]), if_neg (by omega), if_pos ⟨ih2.op, by omega, by omega⟩, hsub, Rd.nextL, if_neg (by simp [hst])]
    refine ⟨⟨ih1, ?_, trivial⟩, ?_⟩
    · rw [hb]; exact herr
    · show Read2 P i done (j + 1) (s'.next (lb (Pm.iter P j i)).toNat)
      rw [hb, hnext]
      have hany : ∀ x, ((List.range (j + 1)).any fun k => Pm.iter P k i == x) = (((List.range j).any fun k => Pm.iter P k i == x) || Pm.iter P j i == x) := fun x => by simp [List.range_succ, List.any_append]
      have hstx : ∀ x, upd s'.st (Pm.iter P j i) true x = (done.contains x || (List.range (j + 1)).any fun k => Pm.iter P k i == x) := fun x => by
        rw [hany, ← Bool.or_assoc, ← ih2.st x]
        by_cases e : x = Pm.iter P j i
        · subst e; simp
        · rw [upd_other _ _ e]
          have : (Pm.iter P j i == x) = false := by simp; exact fun h => e h.symm
          simp [this]
      by_cases h0j : j = 0
      · subst h0j
        have hl : s'.long = 0 := ih2.long
        have e1 : s'.letter (Pm.iter P 0 i) = { s' with st := upd s'.st i true, first := i, p := upd s'.p i i, last := i, long := 1 } := by simp [Rd.letter, hl, Pm.iter]
        rw [e1]
        refine ⟨ih2.op, rfl, fun _ => rfl, fun _ => rfl, hstx, fun _ => by simp [Pm.iter], fun k hk => by omega, fun x hx' => ?_⟩
        have hxi : x ≠ i := fun e => hx' 0 (by omega) e.symm
        show upd s'.p i i x = _
        rw [upd_other _ _ hxi]
        exact ih2.p3 x (fun k hk => by omega)
      · have hl : ¬ (s'.long = 0) := by rw [ih2.long]; exact h0j
        have e1 : s'.letter (Pm.iter P j i) = { s' with st := upd s'.st (Pm.iter P j i) true, p := upd (upd s'.p s'.last (Pm.iter P j i)) (Pm.iter P j i) s'.first, last := Pm.iter P j i, long := s'.long + 1 } := by simp [Rd.letter, hl]
        rw [e1]
        have hj0 : 0 < j := by omega
        refine ⟨ih2.op, by show s'.long + 1 = j + 1; rw [ih2.long], fun _ => ih2.first hj0, fun _ => by simp, hstx, fun _ => ?_, fun k hk => ?_, fun x hx' => ?_⟩
        · show upd (upd s'.p s'.last (Pm.iter P j i)) (Pm.iter P j i) s'.first (Pm.iter P (j + 1 - 1) i) = i
          rw [Nat.add_sub_cancel, upd_same]
          exact ih2.first hj0
        · show upd (upd s'.p s'.last (Pm.iter P j i)) (Pm.iter P j i) s'.first (Pm.iter P k i) = _
          rw [upd_other _ _ (hne k (by omega)), ih2.last hj0]
          by_cases e : k = j - 1
          · subst e
            rw [upd_same]
            have : j = (j - 1) + 1 := by omega
            rw (occs := .pos [1]) [this]
            rfl
          · rw [upd_other _ _ (iter_ne hp i hi k (j - 1) (by omega) (by omega))]
            exact ih2.p2 k (by omega)
        · show upd (upd s'.p s'.last (Pm.iter P j i)) (Pm.iter P j i) s'.first x = _
          rw [upd_other _ _ (fun e => hx' j (by omega) e.symm), ih2.last hj0, upd_other _ _ (fun e => hx' (j - 1) (by omega) e.symm)]
          exact ih2.p3 x (fun k hk => hx' k (by omega))
theorem cycle_run {P : Nat → Nat} (hp : Pm.IsPerm P) (i : Nat) (hi : i < 26) (done : List Nat) (hf : ∀ x ∈ Pm.cyc P i, x ∉ done) (s : Rd) (h : Read1 P done s) :
    runOK s (wr1 (Pm.cyc P i)) ∧ Read1 P (done ++ Pm.cyc P i) (runS s (wr1 (Pm.cyc P i))) := by
  have hl := Pm.len_is hp i hi
  have e40 : (40 : UInt8).toNat = 40 := rfl
  have e41 : (41 : UInt8).toNat = 41 := rfl
  have hmap : (Pm.cyc P i).map lb = (List.range (Pm.len P i)).map fun k => lb (Pm.iter P k i) := by simp [Pm.cyc]
  have n40 : s.next 40 = { s with op := true, long := 0 } := by unfold Rd.next; rw [if_pos ⟨h.op, rfl⟩]
  have h2 : Read2 P i done 0 (s.next 40) := by
    rw [n40]
    exact ⟨rfl, rfl, fun c => by omega, fun c => by omega, fun x => by simp [h.st x], fun c => by omega, fun k hk => by omega, fun x _ => h.p x⟩
  obtain ⟨a, b⟩ := letters_run hp i hi done hf (s.next 40) h2 (Pm.len P i) (Nat.le_refl _)
  unfold wr1
  rw [hmap, List.cons_append]
  generalize hs : runS (s.next 40) ((List.range (Pm.len P i)).map fun k => lb (Pm.iter P k i)) = s' at b
  have herr : s'.err 41 = 0 := by
    unfold Rd.err
    rw [if_neg (by simp), if_pos ⟨b.op, by rw [b.long]; exact hl.pos, rfl⟩]
  have hnext : s'.next 41 = { s' with op := false } := by
    unfold Rd.next
    rw [if_neg (by simp), if_pos ⟨b.op, by rw [b.long]; exact hl.pos, rfl⟩]
  refine ⟨⟨?_, ?_⟩, ?_⟩
  · rw [e40]; unfold Rd.err; rw [if_pos ⟨h.op, rfl⟩]
  · rw [e40, runOK_append, hs]
    exact ⟨a, by rw [e41]; exact herr, trivial⟩
  · show Read1 P _ (runS (s.next (40 : UInt8).toNat) (_ ++ [41]))
    rw [e40, runS_append, hs]
    show Read1 P _ (s'.next (41 : UInt8).toNat)
    rw [e41, hnext]
    refine ⟨rfl, fun x => ?_, fun x => ?_⟩
    · show s'.st x = _
      rw [b.st x]
      have : ((List.range (Pm.len P i)).any fun k => Pm.iter P k i == x) = (Pm.cyc P i).contains x := by
        rw [Bool.eq_iff_iff]
        simp [Pm.cyc]
      rw [this]
      simp
    · show s'.p x = _
      by_cases hx : x ∈ Pm.cyc P i
      · rw [if_pos (by simp [hx])]
        obtain ⟨k, hk, e⟩ := List.mem_map.1 hx
        simp at hk
        by_cases ek : k = Pm.len P i - 1
        · have h5 := b.p1 hl.pos
          rw [← ek, e] at h5
          rw [h5]
          have h6 := hl.ret
          have h7 : Pm.len P i = k + 1 := by omega
          rw [h7] at h6
          rw [← e]
          exact h6.symm
        · rw [← e]
          exact b.p2 k (by omega)
      · rw [b.p3 x (fun k hk e => hx ((Pm.mem_cyc hp i hi x).2 ⟨k, e⟩))]
        by_cases hd : x ∈ done
        · simp [hd]
        · simp [hd, hx]
theorem all_run {P : Nat → Nat} (hp : Pm.IsPerm P) : ∀ (ls : List (List Nat)) (done : List Nat) (s : Rd), (∀ l ∈ ls, ∃ i, i < 26 ∧ l = Pm.cyc P i) → (done ++ ls.flatten).Nodup → Read1 P done s →
    runOK s (wrAll ls) ∧ Read1 P (done ++ (ls.filter fun l => decide (1 < l.length)).flatten) (runS s (wrAll ls))
  | [], done, s, _, _, h => ⟨trivial, by simpa [wrAll, runS] using h⟩
  | l :: ls, done, s, hc, hd, h => by
    obtain ⟨i, hi, rfl⟩ := hc l (by simp)
    have hc' : ∀ l ∈ ls, ∃ i, i < 26 ∧ l = Pm.cyc P i := fun x hx => hc x (by simp [hx])
    rw [List.flatten_cons, ← List.append_assoc] at hd
    by_cases h1 : 1 < (Pm.cyc P i).length
    · have hf : ∀ x ∈ Pm.cyc P i, x ∉ done := fun x hx hx2 => by
        have := (List.nodup_append.1 (List.nodup_append.1 hd).1).2.2 x hx2 x hx
        exact this rfl
      obtain ⟨a, b⟩ := cycle_run hp i hi done hf s h
      have e1 : wrAll (Pm.cyc P i :: ls) = wr1 (Pm.cyc P i) ++ wrAll ls := by simp [wrAll, h1]
      obtain ⟨c, d⟩ := all_run hp ls (done ++ Pm.cyc P i) _ hc' hd b
      rw [e1, runOK_append, runS_append]
      refine ⟨⟨a, c⟩, ?_⟩
      have e2 : (Pm.cyc P i :: ls).filter (fun l => decide (1 < l.length)) = Pm.cyc P i :: ls.filter fun l => decide (1 < l.length) := by simp [h1]
      rw [e2, List.flatten_cons, ← List.append_assoc]
      exact d
    · have e1 : wrAll (Pm.cyc P i :: ls) = wrAll ls := by simp [wrAll, h1]
      have e2 : (Pm.cyc P i :: ls).filter (fun l => decide (1 < l.length)) = ls.filter fun l => decide (1 < l.length) := by simp [h1]
      have hd' : (done ++ ls.flatten).Nodup := by
        rw [List.nodup_append] at hd ⊢
        exact ⟨(List.nodup_append.1 hd.1).1, hd.2.1, fun a ha b hb => hd.2.2 a (by simp [ha]) b hb⟩
      obtain ⟨c, d⟩ := all_run hp ls done s hc' hd' h
      rw [e1, e2]
      exact ⟨c, d⟩
/-- What is written is read. -/
theorem print_read {P : Nat → Nat} (hp : Pm.IsPerm P) : ∃ q : Nat → Nat, readOut (wrAll (Pm.cycs P 26)) = (Pm.up q, 0, 0) ∧ ∀ x, x < 26 → q x = P x := by
  have h0 : Read1 P [] rd0 := ⟨rfl, fun x => by simp [rd0], fun x => by simp [rd0]⟩
  obtain ⟨a, b⟩ := all_run hp (Pm.cycs P 26) [] rd0 (fun l hl => by obtain ⟨i, hi, e, _⟩ := Pm.mem_cycs P 26 l hl; exact ⟨i, hi, e⟩) (by simpa using Pm.flat_nodup hp 26 (Nat.le_refl _)) h0
  refine ⟨_, rd_out _ a b.op, fun x hx => ?_⟩
  rw [b.p x]
  by_cases hm : x ∈ ([] : List Nat) ++ ((Pm.cycs P 26).filter fun l => decide (1 < l.length)).flatten
  · rw [if_pos hm]
  · rw [if_neg hm]
    have hall := (Pm.flat_all hp x).2 hx
    obtain ⟨l, hl, hxl⟩ := List.mem_flatten.1 hall
    obtain ⟨i, hi, e, _⟩ := Pm.mem_cycs P 26 l hl
    have hlen : ¬ 1 < l.length := fun h => hm (by
      simp only [List.nil_append]
      exact List.mem_flatten.2 ⟨l, List.mem_filter.2 ⟨hl, by simpa using h⟩, hxl⟩)
    subst e
    rw [Pm.cyc_length] at hlen
    have hli := Pm.len_is hp i hi
    have h1 : Pm.len P i = 1 := by have := hli.pos; omega
    have hret := hli.ret
    rw [h1] at hret
    have hxi : x = i := by
      have : Pm.cyc P i = [i] := by simp [Pm.cyc, h1, Pm.iter]
      rw [this] at hxl
      simpa using hxl
    rw [hxi]
    exact hret.symm
/-! ### The lengths -/
end Go.Proofs.YtkohhdkkbaifoaaGreatDoor
