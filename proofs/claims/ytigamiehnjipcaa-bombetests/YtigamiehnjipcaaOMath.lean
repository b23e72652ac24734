/-
  The machine with wheels: the mathematics.
-/
import Derived.Test.YtigamiehnjipcaaJn1
import Derived.Test.YtigamiehnjipcaaVMath
namespace Go.Proofs.Ytigamiehnjipcaa.Om
open Pm Vg

/-- A machine: n wheels, what each makes of a letter, where it has notches, its ring, where it begins; reflector and plugs. -/
structure Ma where
  n : Nat
  wi : Nat → Nat → Nat
  no : Nat → List Nat
  ri : Nat → Nat
  st : Nat → Nat
  rf : Nat → Nat
  pl : Nat → Nat
/-- A machine with which nothing is wrong. -/
structure Ok (M : Ma) : Prop where
  pos : 1 ≤ M.n
  most : M.n ≤ 4
  wi : ∀ i, i < M.n → IsPerm (M.wi i)
  no : ∀ i, i < M.n → ∀ k, k ∈ M.no i → k < 26
  ri : ∀ i, i < M.n → M.ri i < 26
  st : ∀ i, i < M.n → M.st i < 26
  rf : IsPerm M.rf
  rf2 : ∀ c, c < 26 → M.rf (M.rf c) = c
  rf1 : ∀ c, c < 26 → M.rf c ≠ c
  pl : IsPerm M.pl
  pl2 : ∀ c, c < 26 → M.pl (M.pl c) = c
/-- Does this wheel turn? -/
def turns (M : Ma) (at' : Nat → Nat) (i : Nat) : Bool := i + 1 == M.n || (M.no (i + 1)).contains (at' (i + 1)) || (decide (0 < i) && (M.no i).contains (at' i))
/-- The windows behind a step. -/
def step (M : Ma) (at' : Nat → Nat) : Nat → Nat := fun i => if turns M at' i then (at' i + 1) % 26 else at' i
def steps (M : Ma) (at' : Nat → Nat) : Nat → Nat → Nat
  | 0 => at'
  | k + 1 => step M (steps M at' k)
def In26 (M : Ma) (at' : Nat → Nat) : Prop := ∀ i, i < M.n → at' i < 26
theorem In26.step {M : Ma} {at' : Nat → Nat} (h : In26 M at') : In26 M (step M at') := fun i hi => by
  unfold Om.step
  by_cases ht : turns M at' i
  · rw [if_pos ht]; exact Nat.mod_lt _ (by decide)
  · rw [if_neg ht]; exact h i hi
theorem In26.steps {M : Ma} {at' : Nat → Nat} (h : In26 M at') : ∀ k, In26 M (steps M at' k)
  | 0 => h
  | k + 1 => (In26.steps h k).step
theorem step_congr {M : Ma} {a b : Nat → Nat} (h : ∀ i, i < M.n → a i = b i) : ∀ i, i < M.n → step M a i = step M b i := fun i hi => by
  have e : turns M a i = turns M b i := by
    unfold turns
    by_cases h1 : i + 1 = M.n
    · simp [h1]
    · rw [h (i + 1) (by omega), h i hi]
  unfold step
  rw [e, h i hi]
/-- By how much a wheel is turned. -/
def by' (M : Ma) (at' : Nat → Nat) (i : Nat) : Nat := (at' i + 26 - M.ri i) % 26
theorem by_lt (M : Ma) (at' : Nat → Nat) (i : Nat) : by' M at' i < 26 := Nat.mod_lt _ (by decide)
/-- What a wheel makes of a letter. -/
def wheel (p : Nat → Nat) (b c : Nat) : Nat := (p ((c + b) % 26) + 26 - b) % 26
theorem turn_perm (b : Nat) : IsPerm fun c => (c + b) % 26 := ⟨fun _ _ => Nat.mod_lt _ (by decide), fun i j hi hj e => by
  have : (i + b) % 26 = (j + b) % 26 := e
  omega⟩
theorem back_turn {b : Nat} (hb : b < 26) : IsPerm fun c => (c + 26 - b) % 26 := ⟨fun _ _ => Nat.mod_lt _ (by decide), fun i j hi hj e => by
  have : (i + 26 - b) % 26 = (j + 26 - b) % 26 := e
  omega⟩
theorem wheel_perm {p : Nat → Nat} (hp : IsPerm p) {b : Nat} (hb : b < 26) : IsPerm (wheel p b) := ((turn_perm b).comp hp).comp (back_turn hb)
/-- Through the first k wheels from the last one on (no plugs). -/
def through (M : Ma) (at' : Nat → Nat) : Nat → Nat → Nat
  | 0, c => c
  | k + 1, c => wheel (M.wi (M.n - 1 - k)) (by' M at' (M.n - 1 - k)) (through M at' k c)
theorem through_perm {M : Ma} (h : Ok M) (at' : Nat → Nat) : ∀ k, k ≤ M.n → IsPerm (through M at' k)
  | 0, _ => IsPerm.id
  | k + 1, hk => (through_perm h at' k (by omega)).comp (wheel_perm (h.wi _ (by omega)) (by_lt _ _ _))
def there (M : Ma) (at' : Nat → Nat) (c : Nat) : Nat := through M at' M.n (M.pl c)
theorem there_perm {M : Ma} (h : Ok M) (at' : Nat → Nat) : IsPerm (there M at') := h.pl.comp (through_perm h at' M.n (Nat.le_refl _))
/-- What each letter would become. -/
def now (M : Ma) (at' : Nat → Nat) (c : Nat) : Nat := inv (there M at') (M.rf (there M at' c))
theorem now_perm {M : Ma} (h : Ok M) (at' : Nat → Nat) : IsPerm (now M at') := ((there_perm h at').comp h.rf).comp (there_perm h at').inv
/-- WHAT THE MACHINE DOES IT UNDOES. -/
theorem now_now {M : Ma} (h : Ok M) (at' : Nat → Nat) {c : Nat} (hc : c < 26) : now M at' (now M at' c) = c := by
  have hp := there_perm h at'
  have h1 := hp.1 c hc
  have h2 := h.rf.1 _ h1
  unfold now
  rw [(hp.inv_spec _ h2).2, h.rf2 _ h1, hp.inv_left c hc]
/-- NO LETTER STANDS FOR ITSELF. -/
theorem now_ne {M : Ma} (h : Ok M) (at' : Nat → Nat) {c : Nat} (hc : c < 26) : now M at' c ≠ c := by
  have hp := there_perm h at'
  have h1 := hp.1 c hc
  have h2 := h.rf.1 _ h1
  intro e
  have h3 := (hp.inv_spec _ h2).2
  have e2 : inv (there M at') (M.rf (there M at' c)) = c := e
  rw [e2] at h3
  exact h.rf1 _ h1 h3.symm
theorem inv_unique {p : Nat → Nat} (hp : IsPerm p) {i j : Nat} (hi : i < 26) (e : p i = j) : inv p j = i := by rw [← e]; exact hp.inv_left i hi
/-- PLUGS CHANGE NAMES ALONE. -/
def unplugged (M : Ma) : Ma := { M with pl := fun c => c }
theorem through_unplugged (M : Ma) (at' : Nat → Nat) : ∀ k c, through (unplugged M) at' k c = through M at' k c
  | 0, _ => rfl
  | k + 1, c => by
    show wheel (M.wi (M.n - 1 - k)) (by' (unplugged M) at' (M.n - 1 - k)) (through (unplugged M) at' k c) = wheel (M.wi (M.n - 1 - k)) (by' M at' (M.n - 1 - k)) (through M at' k c)
    rw [through_unplugged M at' k c]
    rfl
theorem ok_unplugged {M : Ma} (h : Ok M) : Ok (unplugged M) := ⟨h.pos, h.most, h.wi, h.no, h.ri, h.st, h.rf, h.rf2, h.rf1, IsPerm.id, fun _ _ => rfl⟩
theorem now_plugs {M : Ma} (h : Ok M) (at' : Nat → Nat) {c : Nat} (hc : c < 26) : now M at' c = M.pl (now (unplugged M) at' (M.pl c)) := by
  have hq := there_perm (ok_unplugged h) at'
  have hp := there_perm h at'
  have e1 : ∀ c, there (unplugged M) at' (M.pl c) = there M at' c := fun c => through_unplugged M at' M.n (M.pl c)
  have h1 := hp.1 c hc
  have h2 := h.rf.1 _ h1
  have h3 := hq.inv_spec _ h2
  unfold now
  rw [e1]
  show inv (there M at') (M.rf (there M at' c)) = M.pl (inv (there (unplugged M) at') (M.rf (there M at' c)))
  refine inv_unique hp (h.pl.1 _ h3.1) ?_
  rw [← e1, h.pl2 _ h3.1, h3.2]
theorem step_unplugged (M : Ma) (at' : Nat → Nat) : step (unplugged M) at' = step M at' := rfl
/-- Letters pressed one behind the other. -/
def wr (M : Ma) : (Nat → Nat) → List UInt8 → List UInt8
  | _, [] => []
  | at', c :: l => ltr (now M (step M at') (num c)) :: wr M (step M at') l
theorem wr_length (M : Ma) : ∀ (l : List UInt8) (at' : Nat → Nat), (wr M at' l).length = l.length
  | [], _ => rfl
  | _ :: l, at' => by show (wr M (step M at') l).length + 1 = l.length + 1; rw [wr_length M l]
theorem wr_ls {M : Ma} (h : Ok M) : ∀ {l : List UInt8} (at' : Nat → Nat), Ls l → Ls (wr M at' l)
  | [], _, _ => fun c hc => by cases hc
  | a :: l, at', hl => by
    intro c hc
    rcases List.mem_cons.1 hc with e | e
    · rw [e]; exact ltr_ok ((now_perm h _).1 _ (num_lt (hl a (by simp))))
    · exact wr_ls h (step M at') (fun c hc => hl c (List.mem_cons_of_mem _ hc)) c e
theorem wr_wr {M : Ma} (h : Ok M) : ∀ {l : List UInt8} (at' : Nat → Nat), Ls l → wr M at' (wr M at' l) = l
  | [], _, _ => rfl
  | a :: l, at', hl => by
    have ha := num_lt (hl a (by simp))
    show ltr (now M (step M at') (num (ltr (now M (step M at') (num a))))) :: wr M (step M at') (wr M (step M at') l) = a :: l
    rw [num_ltr ((now_perm h _).1 _ ha), now_now h _ ha, ltr_num (hl a (by simp)), wr_wr h (step M at') (fun c hc => hl c (List.mem_cons_of_mem _ hc))]
theorem wr_ne {M : Ma} (h : Ok M) : ∀ {l : List UInt8} (at' : Nat → Nat), Ls l → ∀ i, i < l.length → (wr M at' l).getD i 0 ≠ l.getD i 0
  | a :: l, at', hl, 0, _ => by
    have ha := num_lt (hl a (by simp))
    show ltr (now M (step M at') (num a)) ≠ a
    intro e
    have := congrArg num e
    rw [num_ltr ((now_perm h _).1 _ ha)] at this
    exact now_ne h _ ha this
  | a :: l, at', hl, i + 1, hi => by
    have := wr_ne h (step M at') (fun c hc => hl c (List.mem_cons_of_mem _ hc)) i (by simpa using hi)
    show (ltr (now M (step M at') (num a)) :: wr M (step M at') l).getD (i + 1) 0 ≠ (a :: l).getD (i + 1) 0
    rw [List.getD_cons_succ, List.getD_cons_succ]
    exact this
def plug (p : Nat → Nat) (l : List UInt8) : List UInt8 := l.map fun c => ltr (p (num c))
theorem plug_ls {p : Nat → Nat} (hp : IsPerm p) {l : List UInt8} (hl : Ls l) : Ls (plug p l) := fun c hc => by
  obtain ⟨a, ha, rfl⟩ := List.mem_map.1 hc
  exact ltr_ok (hp.1 _ (num_lt (hl a ha)))
theorem wr_plugs {M : Ma} (h : Ok M) : ∀ {l : List UInt8} (at' : Nat → Nat), Ls l → plug M.pl (wr (unplugged M) at' (plug M.pl l)) = wr M at' l
  | [], _, _ => rfl
  | a :: l, at', hl => by
    have ha := num_lt (hl a (by simp))
    have hq := (now_perm (ok_unplugged h) (step M at')).1 _ (h.pl.1 _ ha)
    show ltr (M.pl (num (ltr (now (unplugged M) (step M at') (num (ltr (M.pl (num a)))))))) :: plug M.pl (wr (unplugged M) (step M at') (plug M.pl l)) = ltr (now M (step M at') (num a)) :: wr M (step M at') l
    rw [wr_plugs h (step M at') (fun c hc => hl c (List.mem_cons_of_mem _ hc)), num_ltr (h.pl.1 _ ha), num_ltr hq, now_plugs h _ ha]
/-- THE WHEELS DON'T SEE THE TEXT. -/
theorem steps_step (M : Ma) : ∀ k (at' : Nat → Nat), steps M (step M at') k = steps M at' (k + 1)
  | 0, _ => rfl
  | k + 1, at' => by show step M (steps M (step M at') k) = _; rw [steps_step M k]; rfl
theorem wr_cut (M : Ma) : ∀ (l : List UInt8) (at' : Nat → Nat) (k : Nat), k ≤ l.length → wr M at' (l.take k) ++ wr M (steps M at' k) (l.drop k) = wr M at' l
  | _, _, 0, _ => by simp [wr, steps]
  | [], _, k + 1, h => by simp at h
  | a :: l, at', k + 1, h => by
    show ltr _ :: (wr M (step M at') (l.take k) ++ wr M (steps M at' (k + 1)) (l.drop k)) = ltr _ :: wr M (step M at') l
    rw [← steps_step, wr_cut M l (step M at') k (by simpa using h)]
theorem now_congr {M : Ma} {a b : Nat → Nat} (h : ∀ i, i < M.n → a i = b i) : now M a = now M b := by
  have e : ∀ k, k ≤ M.n → ∀ c, through M a k c = through M b k c := by
    intro k
    induction k with
    | zero => intro _ _; rfl
    | succ k ih =>
      intro hk c
      show wheel _ (by' M a _) _ = wheel _ (by' M b _) _
      rw [ih (by omega) c]
      unfold by'
      rw [h _ (by omega)]
  have e2 : there M a = there M b := funext fun c => e M.n (Nat.le_refl _) _
  unfold now
  rw [e2]
theorem wr_congr {M : Ma} : ∀ (l : List UInt8) {a b : Nat → Nat}, (∀ i, i < M.n → a i = b i) → wr M a l = wr M b l
  | [], _, _, _ => rfl
  | c :: l, a, b, h => by
    show ltr (now M (step M a) (num c)) :: wr M (step M a) l = ltr (now M (step M b) (num c)) :: wr M (step M b) l
    rw [now_congr (step_congr h), wr_congr l (step_congr h)]
/-- Wheels turned with their rings. -/
def moved (M : Ma) (b : Nat) : Ma := { M with no := fun i => (M.no i).map fun k => (k + b) % 26, ri := fun i => (M.ri i + b) % 26, st := fun i => (M.st i + b) % 26 }
def mv (b : Nat) (at' : Nat → Nat) : Nat → Nat := fun i => (at' i + b) % 26
theorem contains_moved {l : List Nat} (h : ∀ k, k ∈ l → k < 26) {a : Nat} (ha : a < 26) (b : Nat) : (l.map fun k => (k + b) % 26).contains ((a + b) % 26) = l.contains a := by
  rw [Bool.eq_iff_iff]
  simp only [List.contains_iff_mem, List.mem_map]
  constructor
  · rintro ⟨k, hk, e⟩
    have := h k hk
    have : k = a := by omega
    rw [← this]; exact hk
  · intro hk; exact ⟨a, hk, rfl⟩
theorem ok_moved {M : Ma} (h : Ok M) (b : Nat) : Ok (moved M b) := ⟨h.pos, h.most, h.wi, fun i hi k hk => by
    obtain ⟨q, _, rfl⟩ := List.mem_map.1 hk
    exact Nat.mod_lt _ (by decide), fun i _ => Nat.mod_lt _ (by decide), fun i _ => Nat.mod_lt _ (by decide), h.rf, h.rf2, h.rf1, h.pl, h.pl2⟩
theorem step_moved {M : Ma} (h : Ok M) {at' : Nat → Nat} (ha : In26 M at') (b : Nat) : ∀ i, i < M.n → step (moved M b) (mv b at') i = mv b (step M at') i := fun i hi => by
  have e : turns (moved M b) (mv b at') i = turns M at' i := by
    unfold turns
    show (i + 1 == M.n || ((M.no (i + 1)).map fun k => (k + b) % 26).contains ((at' (i + 1) + b) % 26) || (decide (0 < i) && ((M.no i).map fun k => (k + b) % 26).contains ((at' i + b) % 26))) = _
    by_cases h1 : i + 1 = M.n
    · simp [h1]
    · rw [contains_moved (h.no _ (by omega)) (ha _ (by omega)), contains_moved (h.no _ hi) (ha _ hi)]
  show (if turns (moved M b) (mv b at') i then ((at' i + b) % 26 + 1) % 26 else (at' i + b) % 26) = ((if turns M at' i then (at' i + 1) % 26 else at' i) + b) % 26
  rw [e]
  by_cases ht : turns M at' i
  · rw [if_pos ht, if_pos ht]; omega
  · rw [if_neg ht, if_neg ht]
theorem by_moved {M : Ma} (h : Ok M) {at' : Nat → Nat} (ha : In26 M at') (b : Nat) {i : Nat} (hi : i < M.n) : by' (moved M b) (mv b at') i = by' M at' i := by
  have h1 := ha i hi
  have h2 := h.ri i hi
  show ((at' i + b) % 26 + 26 - (M.ri i + b) % 26) % 26 = (at' i + 26 - M.ri i) % 26
  omega
theorem now_moved {M : Ma} (h : Ok M) {at' : Nat → Nat} (ha : In26 M at') (b : Nat) : now (moved M b) (mv b at') = now M at' := by
  have e : ∀ k, k ≤ M.n → ∀ c, through (moved M b) (mv b at') k c = through M at' k c := by
    intro k
    induction k with
    | zero => intro _ _; rfl
    | succ k ih =>
      intro hk c
      show wheel (M.wi (M.n - 1 - k)) (by' (moved M b) (mv b at') (M.n - 1 - k)) _ = wheel (M.wi (M.n - 1 - k)) (by' M at' (M.n - 1 - k)) _
      rw [ih (by omega) c, by_moved h ha b (by omega)]
  have e2 : there (moved M b) (mv b at') = there M at' := funext fun c => e M.n (Nat.le_refl _) _
  unfold now
  rw [e2]
  rfl
theorem wr_moved {M : Ma} (h : Ok M) (b : Nat) : ∀ (l : List UInt8) {at' : Nat → Nat}, In26 M at' → wr (moved M b) (mv b at') l = wr M at' l
  | [], _, _ => rfl
  | c :: l, at', ha => by
    show ltr (now (moved M b) (step (moved M b) (mv b at')) (num c)) :: wr (moved M b) (step (moved M b) (mv b at')) l = ltr (now M (step M at') (num c)) :: wr M (step M at') l
    have e := step_moved h ha b
    rw [now_congr (M := moved M b) (b := mv b (step M at')) e, now_moved h ha.step b, wr_congr (M := moved M b) (b := mv b (step M at')) l e, wr_moved h b l ha.step]
end Go.Proofs.Ytigamiehnjipcaa.Om
