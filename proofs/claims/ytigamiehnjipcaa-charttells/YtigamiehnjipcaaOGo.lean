/-
  RotorGoesOn: what its machines are, and what they write.
-/
import Derived.Test.YtigamiehnjipcaaJn6
import Derived.Test.YtigamiehnjipcaaOPr
namespace Go.Proofs.Ytigamiehnjipcaa
open Go.RowKit PK Vg

/-- The machine begun where it stands behind k keys. -/
def gCut (g : Gm) (k : Nat) : Gm := { g with sl := g.n, st := fun i => ((Om.steps (maOf g) (maOf g).st k i : Nat) : Int) }
/-- The machine with its wheels turned with their rings. -/
def gMov (g : Gm) (b : Nat) : Gm := { g with no := fun r k => ((((g.no r k).toNat + b) % 26 : Nat) : Int), rl := g.n, ri := fun i => ((((g.ri i).toNat + b) % 26 : Nat) : Int), sl := g.n, st := fun i => ((((g.st i).toNat + b) % 26 : Nat) : Int) }
theorem ma_cut (g : Gm) (k : Nat) : maOf (gCut g k) = { maOf g with st := Om.steps (maOf g) (maOf g).st k } := rfl
theorem ma_mov (g : Gm) (b : Nat) : maOf (gMov g b) = Om.moved (maOf g) b := by
  have e : (maOf (gMov g b)).no = (Om.moved (maOf g) b).no := by
    funext r
    show (List.range (g.nl r)).map (fun k => ((((g.no r k).toNat + b) % 26 : Nat) : Int).toNat) = ((List.range (g.nl r)).map fun k => (g.no r k).toNat).map fun k => (k + b) % 26
    rw [List.map_map]
    rfl
  have e2 : maOf (gMov g b) = { Om.moved (maOf g) b with no := (maOf (gMov g b)).no } := rfl
  rw [e2, e]
theorem wr_st (M : Om.Ma) (x : Nat → Nat) : ∀ (l : List UInt8) (at' : Nat → Nat), Om.wr { M with st := x } at' l = Om.wr M at' l
  | [], _ => rfl
  | c :: l, at' => by
    show ltr (Om.now { M with st := x } (Om.step { M with st := x } at') (num c)) :: Om.wr { M with st := x } (Om.step { M with st := x } at') l = ltr (Om.now M (Om.step M at') (num c)) :: Om.wr M (Om.step M at') l
    have e1 : Om.step { M with st := x } at' = Om.step M at' := rfl
    have e2 : ∀ k c, Om.through { M with st := x } (Om.step M at') k c = Om.through M (Om.step M at') k c := by
      intro k
      induction k with
      | zero => intro c; rfl
      | succ k ih =>
        intro c
        show Om.wheel (M.wi (M.n - 1 - k)) (Om.by' M (Om.step M at') (M.n - 1 - k)) (Om.through { M with st := x } (Om.step M at') k c) = Om.wheel (M.wi (M.n - 1 - k)) (Om.by' M (Om.step M at') (M.n - 1 - k)) (Om.through M (Om.step M at') k c)
        rw [ih]
    have e3 : Om.there { M with st := x } (Om.step M at') = Om.there M (Om.step M at') := funext fun c => e2 M.n (M.pl c)
    have e4 : Om.now { M with st := x } (Om.step M at') = Om.now M (Om.step M at') := by
      unfold Om.now
      rw [e3]
    rw [e1, e4, wr_st M x l]
theorem whE_of {g : Gm} : ∀ {n : Nat}, (∀ r, r < n → Pm.wrong (g.wi r) = 0 ∧ ins (g.nl r) (g.no r) = true) → whE g n = 0
  | 0, _ => rfl
  | n + 1, h => by
    show (if whE g n ≠ 0 then whE g n else if Pm.wrong (g.wi n) ≠ 0 then Pm.wrong (g.wi n) else if ins (g.nl n) (g.no n) = true then 0 else 3) = 0
    have h0 := whE_of (g := g) (n := n) fun r hr => h r (by omega)
    have h1 := h n (by omega)
    rw [if_neg (fun e => e h0), if_neg (fun e => e h1.1), if_pos h1.2]
theorem gE_cut {g : Gm} (h : gE g = 0) (k : Nat) : gE (gCut g k) = 0 := by
  have hM := (ok_maOf h).1
  obtain ⟨h1, h2, h3, h4, h5, h6, h7⟩ := gE_zero h
  have hin : Om.In26 (maOf g) (Om.steps (maOf g) (maOf g).st k) := Om.In26.steps (fun i hi => hM.st i hi) k
  refine gE_of h1 (whE_of (g := gCut g k) (whE_zero g g.n h2)) h3 ⟨rfl, (ins_iff _ _).2 fun i hi => ?_⟩ h5 h6 h7
  have := hin i hi
  show (0 : Int) ≤ ((Om.steps (maOf g) (maOf g).st k i : Nat) : Int) ∧ ((Om.steps (maOf g) (maOf g).st k i : Nat) : Int) ≤ 25
  omega
theorem gE_mov {g : Gm} (h : gE g = 0) (b : Nat) : gE (gMov g b) = 0 := by
  obtain ⟨h1, h2, h3, h4, h5, h6, h7⟩ := gE_zero h
  have hm : ∀ x : Nat, (0 : Int) ≤ (((x + b) % 26 : Nat) : Int) ∧ (((x + b) % 26 : Nat) : Int) ≤ 25 := fun x => by omega
  refine gE_of h1 (whE_of (g := gMov g b) fun r hr => ⟨(whE_zero g g.n h2 r hr).1, (ins_iff _ _).2 fun i _ => hm _⟩) ⟨rfl, (ins_iff _ _).2 fun i _ => hm _⟩ ⟨rfl, (ins_iff _ _).2 fun i _ => hm _⟩ h5 h6 h7
theorem rwE_ls {g : Gm} (h : gE g = 0) {t : List UInt8} (hl : Ls t) (hn : t.length ≤ 65536) : rwE g t = 0 ∧ rwAt g t = 0 := by
  have := ck_of_ls hl hn
  unfold rwE rwAt
  rw [if_neg (fun e => e h), if_neg (fun e => e h)]
  exact this
theorem rwS_ls {g : Gm} (h : gE g = 0) {t : List UInt8} (hl : Ls t) (hn : t.length ≤ 65536) : rwS g t = Om.wr (maOf g) (maOf g).st t := by
  unfold rwS
  rw [if_neg (fun e => e (rwE_ls h hl hn).1)]
theorem ls_drop {l : List UInt8} (h : Ls l) (n : Nat) : Ls (l.drop n) := fun c hc => h c (List.mem_of_mem_drop hc)
/-- A text in two pieces is the text as a whole. -/
theorem rws_cut {g : Gm} (h : gE g = 0) {t : List UInt8} (hl : Ls t) (hn : t.length ≤ 65536) {k : Nat} (hk : k ≤ t.length) : rwS g (t.take k) ++ rwS (gCut g k) (t.drop k) = rwS g t := by
  rw [rwS_ls h (ls_take hl k) (by rw [List.length_take]; omega), rwS_ls (gE_cut h k) (ls_drop hl k) (by rw [List.length_drop]; omega), rwS_ls h hl hn, ma_cut]
  have e := wr_st (maOf g) (Om.steps (maOf g) (maOf g).st k) (t.drop k) (Om.steps (maOf g) (maOf g).st k)
  exact (congrArg _ e).trans (Om.wr_cut (maOf g) t (maOf g).st k hk)
/-- Wheels turned with their rings write the same. -/
theorem rws_mov {g : Gm} (h : gE g = 0) {t : List UInt8} (hl : Ls t) (hn : t.length ≤ 65536) (b : Nat) : rwS (gMov g b) t = rwS g t := by
  have hM := (ok_maOf h).1
  rw [rwS_ls (gE_mov h b) hl hn, rwS_ls h hl hn, ma_mov]
  exact Om.wr_moved hM b t (fun i hi => hM.st i hi)
/-- Behind k keys that only step. -/
theorem pst_steps (M : Om.Ma) : ∀ k, pst M (fun _ => -1) k = Om.steps M M.st k
  | 0 => rfl
  | k + 1 => by
    show (if okK (-1) then Om.step M (pst M (fun _ => -1) k) else pst M (fun _ => -1) k) = Om.step M (Om.steps M M.st k)
    rw [if_pos (by decide), pst_steps M k]
/-- The machine with other numbers in its windows. -/
theorem mac_cut {W : World} {a b c c2 : Value} {g : Gm} {k : Nat} (h : MacAt W (.agg (mac a b c g.rf g.pl)) g) (h2 : NumsAt W c2 g.n fun i => ((Om.steps (maOf g) (maOf g).st k i : Nat) : Int)) : MacAt W (.agg (mac a b c2 g.rf g.pl)) (gCut g k) := by
  obtain ⟨a', b', c', e, k1, k2, k3⟩ := h
  have e0 := congrArg (fun v => match v with | Value.agg x => x | _ => #[]) e
  simp only at e0
  have ea : a = a' := by have := congrArg (fun x : Array Value => x[0]?) e0; simpa [mac_0] using this
  have eb : b = b' := by have := congrArg (fun x : Array Value => x[1]?) e0; simpa [mac_1] using this
  subst ea eb
  exact ⟨a, b, c2, rfl, k1, k2, h2⟩
end Go.Proofs.Ytigamiehnjipcaa
