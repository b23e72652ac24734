/-
  Several texts, joined: PtD, PtE, PtF.
-/
import Derived.Test.YtkohhdkkbaifoaaGreatDoorJn31
import Derived.Test.YtkohhdkkbaifoaaGreatDoorPrK
/-
  What is written is read: what two steps have alike; keys, matrices.
-/
namespace Go.Proofs.YtkohhdkkbaifoaaGreatDoor
open Go.RowKit PK Vg

/-- Machines that have the same. -/
structure SameG (a b : Gm) : Prop where
  n : a.n = b.n
  wi : ∀ r, r < a.n → ∀ i, i < 26 → a.wi r i = b.wi r i
  nl : ∀ r, r < a.n → a.nl r = b.nl r
  no : ∀ r, r < a.n → ∀ i, i < a.nl r → a.no r i = b.no r i
  rl : a.rl = b.rl
  ri : ∀ i, i < a.rl → a.ri i = b.ri i
  sl : a.sl = b.sl
  st : ∀ i, i < a.sl → a.st i = b.st i
  rf : ∀ i, i < 26 → a.rf i = b.rf i
  pl : ∀ i, i < 26 → a.pl i = b.pl i
theorem SameG.refl (a : Gm) : SameG a a := ⟨rfl, fun _ _ _ _ => rfl, fun _ _ => rfl, fun _ _ _ _ => rfl, rfl, fun _ _ => rfl, rfl, fun _ _ => rfl, fun _ _ => rfl, fun _ _ => rfl⟩
theorem SameG.symm {a b : Gm} (h : SameG a b) : SameG b a where
  n := h.n.symm
  wi := fun r hr i hi => (h.wi r (by rw [h.n]; exact hr) i hi).symm
  nl := fun r hr => (h.nl r (by rw [h.n]; exact hr)).symm
  no := fun r hr i hi => (h.no r (by rw [h.n]; exact hr) i (by rw [h.nl r (by rw [h.n]; exact hr)]; exact hi)).symm
  rl := h.rl.symm
  ri := fun i hi => (h.ri i (by rw [h.rl]; exact hi)).symm
  sl := h.sl.symm
  st := fun i hi => (h.st i (by rw [h.sl]; exact hi)).symm
  rf := fun i hi => (h.rf i hi).symm
  pl := fun i hi => (h.pl i hi).symm
/-- Steps that have the same. -/
structure SameS (a b : Sp) : Prop where
  k : a.k = b.k
  n : a.n = b.n
  key : a.key = b.key
  r : a.r = b.r
  L : ∀ i, i < a.r → a.L i = b.L i
  Z : ∀ i, i < a.r → ∀ j, j < a.L i → a.Z i j = b.Z i j
  g : SameG a.g b.g
theorem SameS.symm {a b : Sp} (h : SameS a b) : SameS b a where
  k := h.k.symm
  n := h.n.symm
  key := h.key.symm
  r := h.r.symm
  L := fun i hi => (h.L i (by rw [h.r]; exact hi)).symm
  Z := fun i hi j hj => (h.Z i (by rw [h.r]; exact hi) j (by rw [h.L i (by rw [h.r]; exact hi)]; exact hj)).symm
  g := h.g.symm
/-- A step with what its kind has, alone. -/
def plnS (s : Sp) : Sp where
  k := s.k
  n := if s.k = 1 ∨ s.k = 2 ∨ s.k = 3 then s.n else 0
  key := if s.k = 2 ∨ s.k = 4 then s.key else ⟨#[]⟩
  r := if s.k = 5 then s.r else 0
  L := s.L
  Z := s.Z
  g := if s.k = 6 then s.g else gm0
/-- Where the words that lie there end. -/
theorem Lies.endp {t : List UInt8} {p : Nat} {x r : List UInt8} (h : Lies t p [x] r) : p + x.length + 1 + r.length = t.length + 1 := by
  obtain ⟨A, rfl, rfl, _⟩ := h
  rw [Lib.join_one]
  simp
  omega
theorem wd_ls {l : List UInt8} (h : ckE l = 0) (h1 : 1 ≤ l.length) : Wd l := by
  rcases ck_cases l with ⟨_, _, _, hl⟩ | hh
  · refine ⟨by intro e; rw [e] at h1; simp at h1, fun c hc e => ?_⟩
    have := (ls_of hl) c hc
    rw [e] at this
    exact absurd this.1 (by decide)
  · rw [h] at hh
    exact absurd hh (by decide)
theorem Lies.key {t : List UInt8} {p : Nat} {x r : List UInt8} (h : Lies t p [x] r) (hk : keyE x = 0) : rKey t p = .ok (x, p + x.length + 1) := by
  obtain ⟨h1, h2, _⟩ := keyE_zero hk
  unfold rKey
  rw [h.last (wd_ls h1 h2)]
  show rChk (keyE x) p _ = _
  unfold rChk
  rw [if_pos hk]
/-- Numbers one behind the other. -/
theorem Lies.nums {t : List UInt8} {p : Nat} {r : List UInt8} : ∀ (m : Nat) {ns : List Nat}, (∀ x ∈ ns, x ≤ 25) → m < ns.length → Lies t p (ns.map Lib.decDigits) r → ∃ q, rNums t p m = .ok (ns.take m, q) ∧ Lies t q ((ns.drop m).map Lib.decDigits) r
  | 0, ns, _, _, h => ⟨p, rfl, h⟩
  | m + 1, ns, hn, hm, h => by
    obtain ⟨q, h1, h2⟩ := Lies.nums m hn (by omega) h
    have e1 : ns.drop m = ns[m]'(by omega) :: ns.drop (m + 1) := List.drop_eq_getElem_cons (by omega)
    have e2 : ns.drop (m + 1) = ns[m + 1]'(by omega) :: ns.drop (m + 1 + 1) := List.drop_eq_getElem_cons (by omega)
    have hx := hn _ (List.getElem_mem (l := ns) (n := m) (by omega))
    rw [e1, e2, List.map_cons, List.map_cons] at h2
    obtain ⟨a, b, c, d⟩ := dec_read ns[m] (by omega)
    obtain ⟨h3, h4⟩ := h2.word ⟨c, d⟩
    refine ⟨_, ?_, by rw [e2, List.map_cons]; exact h4⟩
    unfold rNums
    rw [h1]
    show rBind (rNum t 0 25 q) _ = _
    unfold rNum
    rw [h3]
    show rBind (rChk (numE (Lib.decDigits ns[m]) 0 25) q (.ok (valA 0 (Lib.decDigits ns[m]), q + (Lib.decDigits ns[m]).length + 1))) _ = _
    unfold rChk
    rw [if_pos (dec_num (by omega) (by omega) (by omega)), a]
    show Except.ok (ns.take m ++ [ns[m]], _) = _
    rw [List.take_append_getElem]
theorem Lies.numsAll {t : List UInt8} {p : Nat} {r : List UInt8} {ns : List Nat} (hn : ∀ x ∈ ns, x ≤ 25) (h0 : ns ≠ []) (h : Lies t p (ns.map Lib.decDigits) r) : ∃ q, rNums t p ns.length = .ok (ns, q) ∧ q + r.length = t.length + 1 := by
  obtain ⟨m, hm⟩ : ∃ m, ns.length = m + 1 := ⟨ns.length - 1, by have := List.length_pos_iff.2 h0; omega⟩
  obtain ⟨q, h1, h2⟩ := Lies.nums m hn (by omega) h
  have e1 : ns.drop m = ns[m]'(by omega) :: ns.drop (m + 1) := List.drop_eq_getElem_cons (by omega)
  have e2 : ns.drop (m + 1) = [] := List.drop_eq_nil_of_le (by omega)
  rw [e1, e2] at h2
  have hx := hn _ (List.getElem_mem (l := ns) (n := m) (by omega))
  refine ⟨q + (Lib.decDigits ns[m]).length + 1, ?_, Lies.endp h2⟩
  refine (congrArg (rNums t p) hm).trans ?_
  unfold rNums
  rw [h1]
  show rBind (rNum t 0 25 q) _ = _
  rw [Lies.num h2 (by omega) (by omega) (by omega)]
  show Except.ok (ns.take m ++ [ns[m]], _) = _
  rw [List.take_append_getElem, List.take_of_length_le (by omega)]
end Go.Proofs.YtkohhdkkbaifoaaGreatDoor

/-
  What is written is read: steps of all kinds but rotors.
-/
namespace Go.Proofs.YtkohhdkkbaifoaaGreatDoor
open Go.RowKit PK Vg

theorem wd_names : Wd (nmN 4).data.toList ∧ Wd (nmN 5).data.toList ∧ Wd (nmN 6).data.toList ∧ Wd (tbN 1).data.toList ∧ Wd (tbN 2).data.toList ∧ Wd (tbN 3).data.toList ∧ Wd (tbN 4).data.toList := ⟨⟨by decide, by decide⟩, ⟨by decide, by decide⟩, ⟨by decide, by decide⟩, ⟨by decide, by decide⟩, ⟨by decide, by decide⟩, ⟨by decide, by decide⟩, ⟨by decide, by decide⟩⟩
/-- What a step's words say, read where they lie. -/
def StepRead (t : List UInt8) (p place : Nat) (s : Sp) (r : List UInt8) : Prop := ∃ s' q, rStep t place p = .ok (s', q) ∧ SameS s' (plnS s) ∧ q + r.length = t.length + 1
theorem sd_move {t : List UInt8} {p place : Nat} {s : Sp} {r : List UInt8} (hs : stE s = 0) (hk : s.k = 1) (hp : place < 64) (h : Lies t p ((woW s).map (·.data.toList)) r) : StepRead t p place s r := by
  obtain ⟨i, hi⟩ : ∃ i : Nat, s.n = i := ⟨s.n.toNat, by have := st_move hs hk; omega⟩
  have hn := st_move hs hk
  have hw : (woW s).map (·.data.toList) = [(nmN 1).data.toList, Lib.decDigits i] := by
    unfold woW
    rw [if_pos (.inl hk)]
    unfold nmO dcD
    rw [if_neg (by omega), hk, hi]
    rfl
  rw [hw] at h
  refine ⟨_, _, h.move (by omega) hp, ⟨?_, ?_, ?_, ?_, ?_, ?_, ?_⟩, (h.word wd_move).2.endp⟩
  · show ((1 : Nat) : Int) = s.k
    omega
  · show (i : Int) = if s.k = 1 ∨ s.k = 2 ∨ s.k = 3 then s.n else 0
    rw [if_pos (.inl hk), hi]
  · show (⟨#[]⟩ : ByteArray) = if s.k = 2 ∨ s.k = 4 then s.key else ⟨#[]⟩
    rw [if_neg (by omega)]
  · show 0 = if s.k = 5 then s.r else 0
    rw [if_neg (by omega)]
  · intro i hi; exact absurd hi (Nat.not_lt_zero _)
  · intro i hi; exact absurd hi (Nat.not_lt_zero _)
  · show SameG gm0 (if s.k = 6 then s.g else gm0)
    rw [if_neg (by omega)]
    exact .refl _
theorem sd_rail {t : List UInt8} {p place : Nat} {s : Sp} {r : List UInt8} (hs : stE s = 0) (hk : s.k = 3) (hp : place < 64) (h : Lies t p ((woW s).map (·.data.toList)) r) : StepRead t p place s r := by
  obtain ⟨i, hi⟩ : ∃ i : Nat, s.n = i := ⟨s.n.toNat, by have := st_rail hs hk; omega⟩
  have hn := st_rail hs hk
  have hw : (woW s).map (·.data.toList) = [(nmN 3).data.toList, Lib.decDigits i] := by
    unfold woW
    rw [if_pos (.inr hk)]
    unfold nmO dcD
    rw [if_neg (by omega), hk, hi]
    rfl
  rw [hw] at h
  refine ⟨_, _, h.rail (by omega) (by omega) hp, ⟨?_, ?_, ?_, ?_, ?_, ?_, ?_⟩, (h.word wd_rail).2.endp⟩
  · show ((3 : Nat) : Int) = s.k
    omega
  · show (i : Int) = if s.k = 1 ∨ s.k = 2 ∨ s.k = 3 then s.n else 0
    rw [if_pos (by omega), hi]
  · show (⟨#[]⟩ : ByteArray) = if s.k = 2 ∨ s.k = 4 then s.key else ⟨#[]⟩
    rw [if_neg (by omega)]
  · show 0 = if s.k = 5 then s.r else 0
    rw [if_neg (by omega)]
  · intro i hi; exact absurd hi (Nat.not_lt_zero _)
  · intro i hi; exact absurd hi (Nat.not_lt_zero _)
  · show SameG gm0 (if s.k = 6 then s.g else gm0)
    rw [if_neg (by omega)]
    exact .refl _
theorem tab_name {i : Nat} (h1 : 1 ≤ i) (h2 : i ≤ 4) : Wd (tbN i).data.toList ∧ nmK (tbN i) = some (2, i) := by
  have n := name_read.2.2.2.2.2
  have w := wd_names.2.2.2
  match i, h1, h2 with
  | 1, _, _ => exact ⟨w.1, n.1⟩
  | 2, _, _ => exact ⟨w.2.1, n.2.1⟩
  | 3, _, _ => exact ⟨w.2.2.1, n.2.2.1⟩
  | 4, _, _ => exact ⟨w.2.2.2, n.2.2.2⟩
theorem sd_tab {t : List UInt8} {p place : Nat} {s : Sp} {r : List UInt8} (hs : stE s = 0) (hk : s.k = 2) (hp : place < 64) (h : Lies t p ((woW s).map (·.data.toList)) r) : StepRead t p place s r := by
  obtain ⟨i, hi⟩ : ∃ i : Nat, s.n = i := ⟨s.n.toNat, by have := (st_tab hs hk).1; omega⟩
  have hn := (st_tab hs hk).1
  have hke : keyE s.key.data.toList = 0 := by
    obtain ⟨_, a, b, c⟩ := st_tab hs hk
    unfold keyE
    rw [if_neg (fun e => e a), if_neg (by omega)]
  have hw : (woW s).map (·.data.toList) = [(tbN i).data.toList, s.key.data.toList] := by
    unfold woW
    rw [if_neg (by omega), if_pos (.inl hk)]
    unfold nmO
    rw [if_pos hk, hi]
    rfl
  rw [hw] at h
  obtain ⟨w1, w2⟩ := tab_name (i := i) (by omega) (by omega)
  obtain ⟨h1, h2⟩ := h.word w1
  refine ⟨{ sp0 2 i with key := ⟨s.key.data.toList.toArray⟩ }, _, by rw [rStep_name h1 w2 hp, if_neg (by decide), if_neg (by decide), if_pos (.inl rfl), h2.key hke]; rfl, ⟨?_, ?_, ?_, ?_, ?_, ?_, ?_⟩, h2.endp⟩
  · show ((2 : Nat) : Int) = s.k
    omega
  · show (i : Int) = if s.k = 1 ∨ s.k = 2 ∨ s.k = 3 then s.n else 0
    rw [if_pos (by omega), hi]
  · show (⟨s.key.data.toList.toArray⟩ : ByteArray) = if s.k = 2 ∨ s.k = 4 then s.key else ⟨#[]⟩
    rw [if_pos (.inl hk), ba_self]
  · show 0 = if s.k = 5 then s.r else 0
    rw [if_neg (by omega)]
  · intro i hi; exact absurd hi (Nat.not_lt_zero _)
  · intro i hi; exact absurd hi (Nat.not_lt_zero _)
  · show SameG gm0 (if s.k = 6 then s.g else gm0)
    rw [if_neg (by omega)]
    exact .refl _
theorem sd_col {t : List UInt8} {p place : Nat} {s : Sp} {r : List UInt8} (hs : stE s = 0) (hk : s.k = 4) (hp : place < 64) (h : Lies t p ((woW s).map (·.data.toList)) r) : StepRead t p place s r := by
  have hke : keyE s.key.data.toList = 0 := by
    obtain ⟨a, b, c⟩ := st_col hs hk
    unfold keyE
    rw [if_neg (fun e => e a), if_neg (by omega)]
  have hw : (woW s).map (·.data.toList) = [(nmN 4).data.toList, s.key.data.toList] := by
    unfold woW
    rw [if_neg (by omega), if_pos (.inr hk)]
    unfold nmO
    rw [if_neg (by omega), hk]
    rfl
  rw [hw] at h
  obtain ⟨h1, h2⟩ := h.word wd_names.1
  refine ⟨{ sp0 4 0 with key := ⟨s.key.data.toList.toArray⟩ }, _, by rw [rStep_name h1 name_read.2.2.1 hp, if_neg (by decide), if_neg (by decide), if_pos (.inr rfl), h2.key hke]; rfl, ⟨?_, ?_, ?_, ?_, ?_, ?_, ?_⟩, h2.endp⟩
  · show ((4 : Nat) : Int) = s.k
    omega
  · show ((0 : Nat) : Int) = if s.k = 1 ∨ s.k = 2 ∨ s.k = 3 then s.n else 0
    rw [if_neg (by omega)]; rfl
  · show (⟨s.key.data.toList.toArray⟩ : ByteArray) = if s.k = 2 ∨ s.k = 4 then s.key else ⟨#[]⟩
    rw [if_pos (.inr hk), ba_self]
  · show 0 = if s.k = 5 then s.r else 0
    rw [if_neg (by omega)]
  · intro i hi; exact absurd hi (Nat.not_lt_zero _)
  · intro i hi; exact absurd hi (Nat.not_lt_zero _)
  · show SameG gm0 (if s.k = 6 then s.g else gm0)
    rw [if_neg (by omega)]
    exact .refl _
/-- A matrix's numbers row by row. -/
def mNs (Z : Nat → Nat → Int) (n : Nat) : Nat → List Nat
  | 0 => []
  | y + 1 => mNs Z n y ++ (List.range n).map fun j => (Z y j).toNat
theorem mNs_len (Z : Nat → Nat → Int) (n : Nat) : ∀ y, (mNs Z n y).length = y * n
  | 0 => by simp [mNs]
  | y + 1 => by unfold mNs; rw [List.length_append, mNs_len Z n y, List.length_map, List.length_range, Nat.succ_mul]
theorem mNs_get (Z : Nat → Nat → Int) (n : Nat) : ∀ y i j, i < y → j < n → (mNs Z n y).getD (i * n + j) 0 = (Z i j).toNat
  | 0, i, j, hi, _ => by omega
  | y + 1, i, j, hi, hj => by
    unfold mNs
    rw [List.getD_eq_getElem?_getD]
    by_cases e : i = y
    · subst e
      rw [List.getElem?_append_right (by rw [mNs_len]; omega), mNs_len, show i * n + j - i * n = j by omega]
      simp [hj]
    · have : i * n + j < y * n := by
        have h1 : (i + 1) * n ≤ y * n := Nat.mul_le_mul_right _ (by omega)
        rw [Nat.succ_mul] at h1
        omega
      rw [List.getElem?_append_left (by rw [mNs_len]; exact this), ← List.getD_eq_getElem?_getD]
      exact mNs_get Z n y i j (by omega) hj
theorem mNs_le {Z : Nat → Nat → Int} {n : Nat} (hz : ∀ r, r < n → ∀ c, c < n → 0 ≤ Z r c ∧ Z r c < 26) : ∀ y, y ≤ n → ∀ x ∈ mNs Z n y, x ≤ 25
  | 0, _, x, hx => by simp [mNs] at hx
  | y + 1, hy, x, hx => by
    unfold mNs at hx
    rcases List.mem_append.1 hx with h | h
    · exact mNs_le hz y (by omega) x h
    · obtain ⟨j, hj, rfl⟩ := List.mem_map.1 h
      have := hz y (by omega) j (by simpa using hj)
      omega
theorem mwL_ns {n : Nat} {L : Nat → Nat} {Z : Nat → Nat → Int} : ∀ y, (∀ r, r < y → L r = n) → (mwL n L Z y).map (·.data.toList) = Lib.decDigits n :: (mNs Z n y).map Lib.decDigits
  | 0, _ => by unfold mwL mNs dcD; rfl
  | y + 1, h => by
    unfold mwL mNs
    rw [List.map_append, mwL_ns y (fun r hr => h r (by omega)), h y (by omega), List.map_append, List.cons_append]
    congr 2
    unfold mwR dcD
    rw [List.map_map, List.map_map]
    rfl
theorem sd_hill {t : List UInt8} {p place : Nat} {s : Sp} {r : List UInt8} (hs : stE s = 0) (hk : s.k = 5) (hp : place < 64) (h : Lies t p ((woW s).map (·.data.toList)) r) : StepRead t p place s r := by
  obtain ⟨hg, hL⟩ := (matErr_zero _ _ _).1 (st_hill hs hk)
  have hp1 := hg.pos
  have hp4 := hg.le
  have hw : (woW s).map (·.data.toList) = (nmN 5).data.toList :: Lib.decDigits s.r :: (mNs s.Z s.r s.r).map Lib.decDigits := by
    unfold woW
    rw [if_neg (by omega), if_neg (by omega), if_pos hk, List.map_append, mwL_ns s.r hL]
    unfold nmO
    rw [if_neg (by omega), hk]
    rfl
  rw [hw] at h
  obtain ⟨h1, h2⟩ := h.word wd_names.2.1
  have hne : mNs s.Z s.r s.r ≠ [] := by
    intro e
    have := mNs_len s.Z s.r s.r
    rw [e, List.length_nil] at this
    have : 1 * 1 ≤ s.r * s.r := Nat.mul_le_mul hp1 hp1
    omega
  obtain ⟨x, xs, hx⟩ : ∃ x xs, mNs s.Z s.r s.r = x :: xs := by
    cases hm : mNs s.Z s.r s.r with
    | nil => exact absurd hm hne
    | cons x xs => exact ⟨x, xs, rfl⟩
  have h3 := h2
  rw [hx, List.map_cons] at h3
  obtain ⟨h4, h5⟩ := h3.word (wd_dec (i := s.r) (by omega))
  rw [← List.map_cons, ← hx] at h5
  obtain ⟨q, h6, h7⟩ := Lies.numsAll (mNs_le hg.num s.r (Nat.le_refl _)) hne h5
  have hnum : rNum t 1 4 (p + (nmN 5).data.toList.length + 1) = .ok (s.r, p + (nmN 5).data.toList.length + 1 + (Lib.decDigits s.r).length + 1) := by
    obtain ⟨a, _, _, _⟩ := dec_read s.r (by omega)
    unfold rNum
    rw [h4]
    show rChk (numE (Lib.decDigits s.r) 1 4) _ (.ok (valA 0 (Lib.decDigits s.r), _)) = _
    unfold rChk
    rw [if_pos (dec_num (by omega) (by omega) (by omega)), a]
  have hmat : rMat t (p + (nmN 5).data.toList.length + 1) = .ok ((s.r, mNs s.Z s.r s.r), q) := by
    unfold rMat
    rw [hnum]
    show rBind (rNums t _ (s.r * s.r)) _ = _
    rw [← mNs_len s.Z s.r s.r, h6]
    rfl
  refine ⟨{ sp0 5 0 with r := s.r, L := fun _ => s.r, Z := fun i j => ((mNs s.Z s.r s.r).getD (i * s.r + j) 0 : Nat) }, q, by rw [rStep_name h1 name_read.2.2.2.1 hp, if_neg (by decide), if_neg (by decide), if_neg (by decide), if_pos rfl, hmat]; rfl, ⟨?_, ?_, ?_, ?_, ?_, ?_, ?_⟩, h7⟩
  · show ((5 : Nat) : Int) = s.k
    omega
  · show ((0 : Nat) : Int) = if s.k = 1 ∨ s.k = 2 ∨ s.k = 3 then s.n else 0
    rw [if_neg (by omega)]; rfl
  · show (⟨#[]⟩ : ByteArray) = if s.k = 2 ∨ s.k = 4 then s.key else ⟨#[]⟩
    rw [if_neg (by omega)]
  · show s.r = if s.k = 5 then s.r else 0
    rw [if_pos hk]
  · intro i hi
    exact (hL i hi).symm
  · intro i hi j hj
    have hi' : i < s.r := hi
    have hj' : j < s.r := hj
    show (((mNs s.Z s.r s.r).getD (i * s.r + j) 0 : Nat) : Int) = s.Z i j
    rw [mNs_get s.Z s.r s.r i j hi' hj']
    have := hg.num i hi' j hj'
    omega
  · show SameG gm0 (if s.k = 6 then s.g else gm0)
    rw [if_neg (by omega)]
    exact .refl _
end Go.Proofs.YtkohhdkkbaifoaaGreatDoor

/-
  What is written is read: pieces between commas; the names of wheels; settings; plugs.
-/
namespace Go.Proofs.YtkohhdkkbaifoaaGreatDoor
open Go.RowKit PK Vg

theorem upto_midc {c : UInt8} {w r : List UInt8} (hw : ∀ d ∈ w, d ≠ c) : upto c (w ++ c :: r) = w := by
  unfold upto
  induction w with
  | nil => simp
  | cons d w ih =>
    have hc := hw d (by simp)
    rw [List.cons_append, List.takeWhile_cons, if_pos (by simpa using hc), ih (fun d hd => hw d (by simp [hd]))]
theorem upto_endc {c : UInt8} {w : List UInt8} (hw : ∀ d ∈ w, d ≠ c) : upto c w = w := by
  unfold upto
  induction w with
  | nil => rfl
  | cons d w ih =>
    have hc := hw d (by simp)
    rw [List.takeWhile_cons, if_pos (by simpa using hc), ih (fun d hd => hw d (by simp [hd]))]
theorem join_two' (x y : List UInt8) (ws : List (List UInt8)) : Lib.join (x :: y :: ws) [44] = x ++ 44 :: Lib.join (y :: ws) [44] := by
  rw [Lib.join_cons, Lib.join_cons]
  unfold Lib.joinTail
  simp
/-- What is left behind k pieces. -/
theorem rst_join {xs : List (List UInt8)} (hx : ∀ x ∈ xs, ∀ d ∈ x, d ≠ 44) : ∀ k, k < xs.length → rst (Lib.join xs [44]) k = Lib.join (xs.drop k) [44]
  | 0, _ => rfl
  | k + 1, hk => by
    unfold rst
    rw [rst_join hx k (by omega)]
    have e1 : xs.drop k = xs[k]'(by omega) :: xs.drop (k + 1) := List.drop_eq_getElem_cons (by omega)
    have e2 : xs.drop (k + 1) = xs[k + 1]'(by omega) :: xs.drop (k + 1 + 1) := List.drop_eq_getElem_cons (by omega)
    rw [e1, e2, join_two', upto_midc (hx _ (List.getElem_mem _))]
    rw [show xs[k] ++ 44 :: Lib.join (xs[k + 1] :: xs.drop (k + 1 + 1)) [44] = (xs[k] ++ [44]) ++ Lib.join (xs[k + 1] :: xs.drop (k + 1 + 1)) [44] by simp]
    exact List.drop_left' (by simp)
theorem pce_join {xs : List (List UInt8)} (hx : ∀ x ∈ xs, ∀ d ∈ x, d ≠ 44) {k : Nat} (hk : k < xs.length) : pce (Lib.join xs [44]) k = xs[k] := by
  unfold pce
  rw [rst_join hx k hk, List.drop_eq_getElem_cons hk]
  cases hr : xs.drop (k + 1) with
  | nil => rw [Lib.join_one]; exact upto_endc (hx _ (List.getElem_mem _))
  | cons y ys => rw [join_two']; exact upto_midc (hx _ (List.getElem_mem _))
theorem pcn_join {xs : List (List UInt8)} (hx : ∀ x ∈ xs, ∀ d ∈ x, d ≠ 44) (h0 : xs ≠ []) : pcn (Lib.join xs [44]) = xs.length := by
  unfold pcn
  induction xs with
  | nil => exact absurd rfl h0
  | cons x xs ih =>
    have hc : x.count 44 = 0 := List.count_eq_zero.2 fun h => hx x (by simp) 44 h rfl
    cases xs with
    | nil => rw [Lib.join_one, hc]; rfl
    | cons y ys =>
      have h1 := ih (fun z hz => hx z (by simp [hz])) (by simp)
      rw [join_two', List.count_append, hc, List.count_cons_self, List.length_cons]
      omega
theorem join_mem {xs : List (List UInt8)} {P : UInt8 → Prop} (h : ∀ x ∈ xs, ∀ d ∈ x, P d) (hs : P 44) : ∀ d ∈ Lib.join xs [44], P d := by
  induction xs with
  | nil => intro d hd; simp [Lib.join] at hd
  | cons x xs ih =>
    cases xs with
    | nil => rw [Lib.join_one]; exact h x (by simp)
    | cons y ys =>
      rw [join_two']
      intro d hd
      rcases List.mem_append.1 hd with hd | hd
      · exact h x (by simp) d hd
      · rcases List.mem_cons.1 hd with rfl | hd
        · exact hs
        · exact ih (fun z hz => h z (by simp [hz])) d hd
/-- The names of wheels and mirrors. -/
theorem whN_ok : ∀ i, i < 5 → (whN i).data.toList ≠ [] ∧ (∀ d ∈ (whN i).data.toList, d ≠ 44 ∧ d ≠ 32) ∧ knE (whN i).data.toList = 0 := by
  intro i hi
  match i, hi with
  | 0, _ => exact ⟨by decide, by decide, by kernel_rfl⟩
  | 1, _ => exact ⟨by decide, by decide, by kernel_rfl⟩
  | 2, _ => exact ⟨by decide, by decide, by kernel_rfl⟩
  | 3, _ => exact ⟨by decide, by decide, by kernel_rfl⟩
  | 4, _ => exact ⟨by decide, by decide, by kernel_rfl⟩
theorem mrN_ok : ∀ i, i < 2 → Wd (mrN i).data.toList ∧ miE (mrN i).data.toList = 0 := by
  intro i hi
  match i, hi with
  | 0, _ => exact ⟨⟨by decide, by decide⟩, by kernel_rfl⟩
  | 1, _ => exact ⟨⟨by decide, by decide⟩, by kernel_rfl⟩
theorem fstB_some {p : Nat → Bool} : ∀ {m i : Nat}, fstB p m = some i → i < m ∧ p i = true
  | 0, i, h => by cases h
  | m + 1, i, h => by
    unfold fstB at h
    cases hm : fstB p m with
    | some j =>
      rw [hm] at h
      cases h
      obtain ⟨a, b⟩ := fstB_some hm
      exact ⟨by omega, b⟩
    | none =>
      rw [hm] at h
      by_cases hp : p m = true
      · simp only [if_pos hp] at h; cases h; exact ⟨Nat.lt_succ_self _, hp⟩
      · simp only [if_neg hp] at h; cases h
theorem fstB_ex {p : Nat → Bool} : ∀ {m i : Nat}, i < m → p i = true → fstB p m ≠ none
  | 0, i, h, _ => by omega
  | m + 1, i, h, hp => by
    unfold fstB
    cases hm : fstB p m with
    | some j => simp
    | none =>
      by_cases e : i = m
      · subst e; simp [hp]
      · exact absurd hm (fstB_ex (by omega) hp)
theorem whF_some {wi : Nat → Int} {nl : Nat} {no : Nat → Int} {i : Nat} (h : whF wi nl no = some i) : i < 5 ∧ (∀ j, j < 26 → wi j = knW (whN i).data.toList j) ∧ nl = (knN (whN i).data.toList).length ∧ ∀ j, j < nl → no j = (((knN (whN i).data.toList).getD j 0 : Nat) : Int) := by
  obtain ⟨h1, h2⟩ := fstB_some h
  unfold whB numsEq at h2
  simp only [Bool.and_eq_true, decide_eq_true_eq, eqI_iff] at h2
  exact ⟨h1, h2.1, h2.2.1, h2.2.2⟩
theorem mrF_some {f : Nat → Int} {i : Nat} (h : mrF f = some i) : i < 2 ∧ ∀ j, j < 26 → f j = miP (mrN i).data.toList j := by
  obtain ⟨h1, h2⟩ := fstB_some h
  exact ⟨h1, (eqI_iff _ _ _).1 h2⟩
/-- Settings. -/
theorem spt_get {n : Nat} {f : Nat → Int} {i : Nat} (hi : i < n) (hf : 0 ≤ f i ∧ f i ≤ 25) : setF (sptL n f) i = f i := by
  unfold setF sptL
  rw [List.getD_eq_getElem?_getD]
  simp only [List.getElem?_map, List.getElem?_range hi, Option.map_some, Option.getD_some]
  rw [num_ltr (by omega)]
  omega
theorem spt_ls {n : Nat} {f : Nat → Int} (hf : ∀ i, i < n → 0 ≤ f i ∧ f i ≤ 25) : Ls (sptL n f) := fun c hc => by
  obtain ⟨i, hi, rfl⟩ := List.mem_map.1 hc
  have := hf i (by simpa using hi)
  exact ltr_ok (by omega)
theorem spt_set {n : Nat} {f : Nat → Int} (hn : n ≤ 4) (hf : ∀ i, i < n → 0 ≤ f i ∧ f i ≤ 25) : setE (sptL n f) n = 0 := by
  have hc : ckE (sptL n f) = 0 := by
    have h1 := Pl.chk_ok _ (fun c hc => by have := spt_ls hf c hc; unfold Pl.isL; simp; omega : Pl.Lets (sptL n f))
    unfold ckE Pl.chkE
    rw [if_neg (by rw [sptL_length]; omega), h1]
  unfold setE
  rw [if_neg (fun e => e hc), if_neg (fun e => e (sptL_length _ _))]
theorem spt_wd {n : Nat} {f : Nat → Int} (hn : 1 ≤ n) (hf : ∀ i, i < n → 0 ≤ f i ∧ f i ≤ 25) : Wd (sptL n f) := by
  refine ⟨fun e => ?_, fun c hc e => ?_⟩
  · have := sptL_length n f
    rw [e] at this
    simp at this
    omega
  · have := spt_ls hf c hc
    rw [e] at this
    exact absurd this.1 (by decide)
/-- Plugs. -/
theorem wrAll_mem {ls : List (List Nat)} (hl : ∀ l ∈ ls, ∀ x ∈ l, x < 26) : ∀ c ∈ wrAll ls, c ≠ 32 := fun c hc => by
  unfold wrAll at hc
  obtain ⟨l, h1, h2⟩ := List.mem_flatMap.1 hc
  have h3 := hl l (List.mem_filter.1 h1).1
  unfold wr1 at h2
  rcases List.mem_append.1 h2 with h | h
  · rcases List.mem_cons.1 h with rfl | h
    · decide
    · obtain ⟨x, hx, rfl⟩ := List.mem_map.1 h
      have := h3 x hx
      intro e
      have e2 := congrArg UInt8.toNat e
      unfold lb at e2
      rw [UInt8.toNat_ofNat'] at e2
      have : (32 : UInt8).toNat = 32 := rfl
      omega
  · simp at h
    rw [h]
    decide
theorem wrAll_head {ls : List (List Nat)} : wrAll ls = [] ∨ ∃ r, wrAll ls = 40 :: r := by
  unfold wrAll
  cases (ls.filter fun l => decide (1 < l.length)) with
  | nil => exact .inl rfl
  | cons l r => right; rw [List.flatMap_cons]; unfold wr1; exact ⟨_, rfl⟩
end Go.Proofs.YtkohhdkkbaifoaaGreatDoor
