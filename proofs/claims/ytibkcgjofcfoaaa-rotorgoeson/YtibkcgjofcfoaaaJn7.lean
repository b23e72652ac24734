/-
  Several texts, joined: OGo, ORPr, ORPa, OGs.
-/
import Derived.Test.YtibkcgjofcfoaaaJn6
import Derived.Test.YtibkcgjofcfoaaaOPr
/-
  RotorGoesOn: what its machines are, and what they write.
-/
namespace Go.Proofs.Ytibkcgjofcfoaaa
open Go.RowKit PK Vg

/-- The machine begun where it stands behind k keys. -/
def gCut (g : Gm) (k : Nat) : Gm := { g with sl := g.n, st := fun i => ((Om.steps (maOf g) (maOf g).st k i : Nat) : Int) }
/-- The machine with its wheels turned with their rings. -/
def gMov (g : Gm) (b : Nat) : Gm := { g with no := fun r k => ((((g.no r k).toNat + b) % 26 : Nat) : Int), rl := g.n, ri := fun i => ((((g.ri i).toNat + b) % 26 : Nat) : Int), sl := g.n, st := fun i => ((((g.st i).toNat + b) % 26 : Nat) : Int) }
theorem ma_cut (g : Gm) (k : Nat) : maOf (gCut g k) = { maOf g with st := Om.steps (maOf g) (maOf g).st k } := rfl
theorem ma_mov (g : Gm) (b : Nat) : maOf (gMov g b) = Om.moved (maOf g) b := by
  have e : (maOf (gMov g b)).no = (Om.moved (maOf g) b).no := by
    funext r
    show (List.range (g.nl r)).map (fun k => ((((g.no r k).toNat + b) % 26 : Nat) : Int).toNat) = ((List.range (g.nl r)).map fun k => (g.no r k).toNat).map fun k => (k + b) % 26
    rw [List.map_map]
    rfl
  have e2 : maOf (gMov g b) = { Om.moved (maOf g) b with no := (maOf (gMov g b)).no } := rfl
  rw [e2, e]
theorem wr_st (M : Om.Ma) (x : Nat → Nat) : ∀ (l : List UInt8) (at' : Nat → Nat), Om.wr { M with st := x } at' l = Om.wr M at' l
  | [], _ => rfl
  | c :: l, at' => by
    show ltr (Om.now { M with st := x } (Om.step { M with st := x } at') (num c)) :: Om.wr { M with st := x } (Om.step { M with st := x } at') l = ltr (Om.now M (Om.step M at') (num c)) :: Om.wr M (Om.step M at') l
    have e1 : Om.step { M with st := x } at' = Om.step M at' := rfl
    have e2 : ∀ k c, Om.through { M with st := x } (Om.step M at') k c = Om.through M (Om.step M at') k c := by
      intro k
      induction k with
      | zero => intro c; rfl
      | succ k ih =>
        intro c
        show Om.wheel (M.wi (M.n - 1 - k)) (Om.by' M (Om.step M at') (M.n - 1 - k)) (Om.through { M with st := x } (Om.step M at') k c) = Om.wheel (M.wi (M.n - 1 - k)) (Om.by' M (Om.step M at') (M.n - 1 - k)) (Om.through M (Om.step M at') k c)
        rw [ih]
    have e3 : Om.there { M with st := x } (Om.step M at') = Om.there M (Om.step M at') := funext fun c => e2 M.n (M.pl c)
    have e4 : Om.now { M with st := x } (Om.step M at') = Om.now M (Om.step M at') := by
      unfold Om.now
      rw [e3]
    rw [e1, e4, wr_st M x l]
theorem whE_of {g : Gm} : ∀ {n : Nat}, (∀ r, r < n → Pm.wrong (g.wi r) = 0 ∧ ins (g.nl r) (g.no r) = true) → whE g n = 0
  | 0, _ => rfl
  | n + 1, h => by
    show (if whE g n ≠ 0 then whE g n else if Pm.wrong (g.wi n) ≠ 0 then Pm.wrong (g.wi n) else if ins (g.nl n) (g.no n) = true then 0 else 3) = 0
    have h0 := whE_of (g := g) (n := n) fun r hr => h r (by omega)
    have h1 := h n (by omega)
    rw [if_neg (fun e => e h0), if_neg (fun e => e h1.1), if_pos h1.2]
theorem gE_cut {g : Gm} (h : gE g = 0) (k : Nat) : gE (gCut g k) = 0 := by
  have hM := (ok_maOf h).1
  obtain ⟨h1, h2, h3, h4, h5, h6, h7⟩ := gE_zero h
  have hin : Om.In26 (maOf g) (Om.steps (maOf g) (maOf g).st k) := Om.In26.steps (fun i hi => hM.st i hi) k
  refine gE_of h1 (whE_of (g := gCut g k) (whE_zero g g.n h2)) h3 ⟨rfl, (ins_iff _ _).2 fun i hi => ?_⟩ h5 h6 h7
  have := hin i hi
  show (0 : Int) ≤ ((Om.steps (maOf g) (maOf g).st k i : Nat) : Int) ∧ ((Om.steps (maOf g) (maOf g).st k i : Nat) : Int) ≤ 25
  omega
theorem gE_mov {g : Gm} (h : gE g = 0) (b : Nat) : gE (gMov g b) = 0 := by
  obtain ⟨h1, h2, h3, h4, h5, h6, h7⟩ := gE_zero h
  have hm : ∀ x : Nat, (0 : Int) ≤ (((x + b) % 26 : Nat) : Int) ∧ (((x + b) % 26 : Nat) : Int) ≤ 25 := fun x => by omega
  refine gE_of h1 (whE_of (g := gMov g b) fun r hr => ⟨(whE_zero g g.n h2 r hr).1, (ins_iff _ _).2 fun i _ => hm _⟩) ⟨rfl, (ins_iff _ _).2 fun i _ => hm _⟩ ⟨rfl, (ins_iff _ _).2 fun i _ => hm _⟩ h5 h6 h7
theorem rwE_ls {g : Gm} (h : gE g = 0) {t : List UInt8} (hl : Ls t) (hn : t.length ≤ 65536) : rwE g t = 0 ∧ rwAt g t = 0 := by
  have := ck_of_ls hl hn
  unfold rwE rwAt
  rw [if_neg (fun e => e h), if_neg (fun e => e h)]
  exact this
theorem rwS_ls {g : Gm} (h : gE g = 0) {t : List UInt8} (hl : Ls t) (hn : t.length ≤ 65536) : rwS g t = Om.wr (maOf g) (maOf g).st t := by
  unfold rwS
  rw [if_neg (fun e => e (rwE_ls h hl hn).1)]
theorem ls_drop {l : List UInt8} (h : Ls l) (n : Nat) : Ls (l.drop n) := fun c hc => h c (List.mem_of_mem_drop hc)
/-- A text in two pieces is the text as a whole. -/
theorem rws_cut {g : Gm} (h : gE g = 0) {t : List UInt8} (hl : Ls t) (hn : t.length ≤ 65536) {k : Nat} (hk : k ≤ t.length) : rwS g (t.take k) ++ rwS (gCut g k) (t.drop k) = rwS g t := by
  rw [rwS_ls h (ls_take hl k) (by rw [List.length_take]; omega), rwS_ls (gE_cut h k) (ls_drop hl k) (by rw [List.length_drop]; omega), rwS_ls h hl hn, ma_cut]
  have e := wr_st (maOf g) (Om.steps (maOf g) (maOf g).st k) (t.drop k) (Om.steps (maOf g) (maOf g).st k)
  exact (congrArg _ e).trans (Om.wr_cut (maOf g) t (maOf g).st k hk)
/-- Wheels turned with their rings write the same. -/
theorem rws_mov {g : Gm} (h : gE g = 0) {t : List UInt8} (hl : Ls t) (hn : t.length ≤ 65536) (b : Nat) : rwS (gMov g b) t = rwS g t := by
  have hM := (ok_maOf h).1
  rw [rwS_ls (gE_mov h b) hl hn, rwS_ls h hl hn, ma_mov]
  exact Om.wr_moved hM b t (fun i hi => hM.st i hi)
/-- Behind k keys that only step. -/
theorem pst_steps (M : Om.Ma) : ∀ k, pst M (fun _ => -1) k = Om.steps M M.st k
  | 0 => rfl
  | k + 1 => by
    show (if okK (-1) then Om.step M (pst M (fun _ => -1) k) else pst M (fun _ => -1) k) = Om.step M (Om.steps M M.st k)
    rw [if_pos (by decide), pst_steps M k]
/-- The machine with other numbers in its windows. -/
theorem mac_cut {W : World} {a b c c2 : Value} {g : Gm} {k : Nat} (h : MacAt W (.agg (mac a b c g.rf g.pl)) g) (h2 : NumsAt W c2 g.n fun i => ((Om.steps (maOf g) (maOf g).st k i : Nat) : Int)) : MacAt W (.agg (mac a b c2 g.rf g.pl)) (gCut g k) := by
  obtain ⟨a', b', c', e, k1, k2, k3⟩ := h
  have e0 := congrArg (fun v => match v with | Value.agg x => x | _ => #[]) e
  simp only at e0
  have ea : a = a' := by have := congrArg (fun x : Array Value => x[0]?) e0; simpa [mac_0] using this
  have eb : b = b' := by have := congrArg (fun x : Array Value => x[1]?) e0; simpa [mac_1] using this
  subst ea eb
  exact ⟨a, b, c2, rfl, k1, k2, h2⟩
end Go.Proofs.Ytibkcgjofcfoaaa

/-
  Contract of the document's Press (chapter 8).
-/
namespace Go.Proofs.Ytibkcgjofcfoaaa
open Go.RowKit PK Vg

theorem nums_own {W : World} {v : Value} {n : Nat} {f : Nat → Int} (h : NumsAt W v n f) (hn : 1 ≤ n) : ∃ b, v.ownBlock = some b ∧ b < W.heap.size := by
  obtain ⟨a, cap, rfl, _, h3⟩ := h
  obtain ⟨b, o, rfl, hc⟩ := h3 0 hn
  exact ⟨b, rfl, cell_block hc⟩
/-- What is held between two keys. -/
structure PwS (w W : World) (a b c v7 v8 : Value) (M : Om.Ma) (ks : Nat → Int) (d k : Nat) (R : Nat → Value) : Prop where
  mg : MgAt w W a b c (Pm.up M.rf) (Pm.up M.pl)
  nums : NumsAt W v7 M.n fun j => (pst M ks d j : Nat)
  own : W.ownsRow (w.heap.size + 1) 38 29 v8 k (prl (prL M ks) (prE ks) R (fun i => Om.now M (pst M ks (i + 1))) k)
  rows : ∀ i, i < k → NumsAt W (R i) M.n fun j => (pst M ks (i + 1) j : Nat)
  ne : ∀ i, i < k → ∀ q, (R i).ownBlock = some q → v8.ownBlock ≠ some q
  ne7 : ∀ q, v7.ownBlock = some q → v8.ownBlock ≠ some q
section
variable {w W W' : World} {a b c v7 v8 : Value} {M : Om.Ma} {ks : Nat → Int} {d k : Nat} {R : Nat → Value}
theorem PwS.grown (h : PwS w W a b c v7 v8 M ks d k R) {q : Nat} (hg : W.grownBy W' (some q)) (hq : w.heap.size < q) (h7 : v7.ownBlock ≠ some q) (h8 : v8.ownBlock ≠ some q) (hR : ∀ i, i < k → (R i).ownBlock ≠ some q) : PwS w W' a b c v7 v8 M ks d k R :=
  ⟨⟨(hg.block w.heap.size h.mg.lt (by simp; omega)).trans h.mg.row, h.mg.below.grown hg h.mg.below.size (fun p hp => by cases hp; omega)⟩, nums_grown h.nums hg (fun p hp e => h7 (hp.trans e)), h.own.kept hg (.inr h8), fun i hi => nums_grown (h.rows i hi) hg (fun p hp e => hR i hi (hp.trans e)), h.ne, h.ne7⟩
theorem PwS.step (h : PwS w W a b c v7 v8 M ks d k R) (hb : Below W.heap.size W W') : PwS w W' a b c v7 v8 M ks d k R := ⟨h.mg.step hb, h.nums.below hb, own_step h.own hb, fun i hi => (h.rows i hi).below hb, h.ne, h.ne7⟩
theorem PwS.alloc (h : PwS w W a b c v7 v8 M ks d k R) (o : Obj) : PwS w (W.alloc o) a b c v7 v8 M ks d k R := h.step ((Below.refl _ _).alloc (Nat.le_refl _) o)
end
theorem grown_old {W : World} {B : Nat} {T : TypeId} {s n q : Nat} {v : Value} {l : List Value} (h : W.ownsRow B T s v n l) (hq : W.heap.size ≤ q) : v.ownBlock ≠ some q := fun e => by
  have := (World.ownsRow.lt h q e).2
  omega
end Go.Proofs.Ytibkcgjofcfoaaa

/-
  Contract of the document's Press (chapter 8), of any machine.
-/
namespace Go.Proofs.Ytibkcgjofcfoaaa
open Go.RowKit PK Vg

/-- How many keys are pressed. -/
def prM (g : Gm) (m : Nat) : Nat := if gE g = 0 then m else 0
end Go.Proofs.Ytibkcgjofcfoaaa

/-
  RotorGoesOn: the machine that is made anew, wheel by wheel: what is held on the way.
-/
namespace Go.Proofs.Ytibkcgjofcfoaaa
open Go.RowKit PK Vg

/-- The cells of m wheels. -/
def whL (wi : Nat → Nat → Int) (V : Nat → Value) : Nat → List Value
  | 0 => []
  | k + 1 => whL wi V k ++ (whl (wi k) (V k)).toList
theorem whL_length (wi : Nat → Nat → Int) (V : Nat → Value) : ∀ k, (whL wi V k).length = k * 27
  | 0 => by simp [whL]
  | k + 1 => by
    show (whL wi V k ++ _).length = _
    rw [List.length_append, whL_length wi V k, Array.length_toList, whl_size]
    omega
theorem whL_at (wi : Nat → Nat → Int) (V : Nat → Value) (i j : Nat) (v : Value) (hv : (whl (wi i) (V i))[j]? = some v) (k : Nat) : i < k → (whL wi V k)[i * 27 + j]? = some v := by
  have hj : j < 27 := by
    have := (Array.getElem?_eq_some_iff.1 hv).1
    rw [whl_size] at this
    exact this
  induction k with
  | zero => intro h; omega
  | succ k ih =>
    intro hi
    have hl := whL_length wi V k
    show (whL wi V k ++ (whl (wi k) (V k)).toList)[i * 27 + j]? = _
    by_cases e : i = k
    · rw [List.getElem?_append_right (by omega), hl, show i * 27 + j - k * 27 = j by omega, Array.getElem?_toList, ← e]
      exact hv
    · rw [List.getElem?_append_left (by omega)]
      exact ih (by omega)
theorem whL_congr {wi : Nat → Nat → Int} {V V2 : Nat → Value} : ∀ {k : Nat}, (∀ i, i < k → V i = V2 i) → whL wi V k = whL wi V2 k
  | 0, _ => rfl
  | k + 1, h => by
    show whL wi V k ++ _ = whL wi V2 k ++ _
    rw [whL_congr fun i hi => h i (by omega), h k (by omega)]
theorem own_wheels {w : World} {B : Nat} {v : Value} {m : Nat} {wi : Nat → Nat → Int} {V : Nat → Value} {nl : Nat → Nat} {no : Nat → Nat → Int} (h : w.ownsRow B 40 27 v m (whL wi V m)) (hn : ∀ i, i < m → NumsAt w (V i) (nl i) (no i)) : WheelsAt w v m wi nl no := by
  rcases h.2 with ⟨rfl, h0⟩ | ⟨g, cap, cur, rfl, hB, hg, hnc, hcm, hcs, htake⟩
  · subst h0
    exact ⟨none, 0, V, rfl, by decide, fun i hi => by omega, hn⟩
  · refine ⟨_, cap, V, rfl, by omega, fun i hi => ⟨g, 0, rfl, fun j v hv => ?_⟩, hn⟩
    rw [Array.getElem?_toList] at hv
    have hj : j < 27 := by
      have := (Array.getElem?_eq_some_iff.1 hv).1
      rw [whl_size] at this
      exact this
    have h1 := whL_at wi V i j v hv m hi
    rw [← htake, List.getElem?_take_of_lt (by omega)] at h1
    rw [Nat.zero_add]
    exact RowAt.cell (w := w) (b := g) (T := 40) hg (by simpa using h1)
/-- Numbers, one behind the other. -/
def niL (f : Nat → Nat) (m : Nat) : List Value := (List.range m).map fun i => .int .i64 (f i : Nat)
theorem niL_succ (f : Nat → Nat) (m : Nat) : niL f (m + 1) = niL f m ++ [.int .i64 (f m : Nat)] := by
  unfold niL
  rw [List.range_succ, List.map_append]
  rfl
theorem niL_length (f : Nat → Nat) (m : Nat) : (niL f m).length = m := by simp [niL]
theorem own_nums {w : World} {B : Nat} {v : Value} {m : Nat} {f : Nat → Nat} (h : w.ownsRow B 3 1 v m (niL f m)) : NumsAt w v m fun i => (f i : Nat) := by
  rcases h.2 with ⟨rfl, h0⟩ | ⟨g, cap, cur, rfl, hB, hg, hnc, hcm, hcs, htake⟩
  · subst h0
    exact ⟨none, 0, rfl, by decide, fun i hi => by omega⟩
  · refine ⟨_, cap, rfl, by omega, fun i hi => ⟨g, 0, rfl, ?_⟩⟩
    have h1 : (niL f m)[i]? = some (.int .i64 (f i : Nat)) := by simp [niL, hi]
    rw [← htake, List.getElem?_take_of_lt (by omega)] at h1
    rw [Nat.zero_add]
    exact RowAt.cell (w := w) (b := g) (T := 3) hg (by simpa using h1)
end Go.Proofs.Ytibkcgjofcfoaaa
