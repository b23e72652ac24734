/-
  Several texts, joined: OGo, ChDo.
-/
import Derived.Test.YtigamiehnjipcaaJn9
import Derived.Test.YtigamiehnjipcaaRoWt
import Derived.Test.YtigamiehnjipcaaRoWg
import Derived.Test.YtigamiehnjipcaaORWt
/-
  RotorGoesOn: what its machines are, and what they write.
-/
namespace Go.Proofs.Ytigamiehnjipcaa
open Go.RowKit PK Vg

/-- The machine begun where it stands behind k keys. -/
def gCut (g : Gm) (k : Nat) : Gm := { g with sl := g.n, st := fun i => ((Om.steps (maOf g) (maOf g).st k i : Nat) : Int) }
/-- The machine with its wheels turned with their rings. -/
def gMov (g : Gm) (b : Nat) : Gm := { g with no := fun r k => ((((g.no r k).toNat + b) % 26 : Nat) : Int), rl := g.n, ri := fun i => ((((g.ri i).toNat + b) % 26 : Nat) : Int), sl := g.n, st := fun i => ((((g.st i).toNat + b) % 26 : Nat) : Int) }
theorem ma_cut (g : Gm) (k : Nat) : maOf (gCut g k) = { maOf g with st := Om.steps (maOf g) (maOf g).st k } := rfl
theorem ma_mov (g : Gm) (b : Nat) : maOf (gMov g b) = Om.moved (maOf g) b := by
  have e : (maOf (gMov g b)).no = (Om.moved (maOf g) b).no := by
    funext r
    show (List.range (g.nl r)).map (fun k => ((((g.no r k).toNat + b) % 26 : Nat) : Int).toNat) = ((List.range (g.nl r)).map fun k => (g.no r k).toNat).map fun k => (k + b) % 26
    rw [List.map_map]
    rfl
  have e2 : maOf (gMov g b) = { Om.moved (maOf g) b with no := (maOf (gMov g b)).no } := rfl
  rw [e2, e]
theorem wr_st (M : Om.Ma) (x : Nat → Nat) : ∀ (l : List UInt8) (at' : Nat → Nat), Om.wr { M with st := x } at' l = Om.wr M at' l
  | [], _ => rfl
  | c :: l, at' => by
    show ltr (Om.now { M with st := x } (Om.step { M with st := x } at') (num c)) :: Om.wr { M with st := x } (Om.step { M with st := x } at') l = ltr (Om.now M (Om.step M at') (num c)) :: Om.wr M (Om.step M at') l
    have e1 : Om.step { M with st := x } at' = Om.step M at' := rfl
    have e2 : ∀ k c, Om.through { M with st := x } (Om.step M at') k c = Om.through M (Om.step M at') k c := by
      intro k
      induction k with
      | zero => intro c; rfl
      | succ k ih =>
        intro c
        show Om.wheel (M.wi (M.n - 1 - k)) (Om.by' M (Om.step M at') (M.n - 1 - k)) (Om.through { M with st := x } (Om.step M at') k c) = Om.wheel (M.wi (M.n - 1 - k)) (Om.by' M (Om.step M at') (M.n - 1 - k)) (Om.through M (Om.step M at') k c)
        rw [ih]
    have e3 : Om.there { M with st := x } (Om.step M at') = Om.there M (Om.step M at') := funext fun c => e2 M.n (M.pl c)
    have e4 : Om.now { M with st := x } (Om.step M at') = Om.now M (Om.step M at') := by
      unfold Om.now
      rw [e3]
    rw [e1, e4, wr_st M x l]
theorem whE_of {g : Gm} : ∀ {n : Nat}, (∀ r, r < n → Pm.wrong (g.wi r) = 0 ∧ ins (g.nl r) (g.no r) = true) → whE g n = 0
  | 0, _ => rfl
  | n + 1, h => by
    show (if whE g n ≠ 0 then whE g n else if Pm.wrong (g.wi n) ≠ 0 then Pm.wrong (g.wi n) else if ins (g.nl n) (g.no n) = true then 0 else 3) = 0
    have h0 := whE_of (g := g) (n := n) fun r hr => h r (by omega)
    have h1 := h n (by omega)
    rw [if_neg (fun e => e h0), if_neg (fun e => e h1.1), if_pos h1.2]
theorem gE_cut {g : Gm} (h : gE g = 0) (k : Nat) : gE (gCut g k) = 0 := by
  have hM := (ok_maOf h).1
  obtain ⟨h1, h2, h3, h4, h5, h6, h7⟩ := gE_zero h
  have hin : Om.In26 (maOf g) (Om.steps (maOf g) (maOf g).st k) := Om.In26.steps (fun i hi => hM.st i hi) k
  refine gE_of h1 (whE_of (g := gCut g k) (whE_zero g g.n h2)) h3 ⟨rfl, (ins_iff _ _).2 fun i hi => ?_⟩ h5 h6 h7
  have := hin i hi
  show (0 : Int) ≤ ((Om.steps (maOf g) (maOf g).st k i : Nat) : Int) ∧ ((Om.steps (maOf g) (maOf g).st k i : Nat) : Int) ≤ 25
  omega
theorem gE_mov {g : Gm} (h : gE g = 0) (b : Nat) : gE (gMov g b) = 0 := by
  obtain ⟨h1, h2, h3, h4, h5, h6, h7⟩ := gE_zero h
  have hm : ∀ x : Nat, (0 : Int) ≤ (((x + b) % 26 : Nat) : Int) ∧ (((x + b) % 26 : Nat) : Int) ≤ 25 := fun x => by omega
  refine gE_of h1 (whE_of (g := gMov g b) fun r hr => ⟨(whE_zero g g.n h2 r hr).1, (ins_iff _ _).2 fun i _ => hm _⟩) ⟨rfl, (ins_iff _ _).2 fun i _ => hm _⟩ ⟨rfl, (ins_iff _ _).2 fun i _ => hm _⟩ h5 h6 h7
theorem rwE_ls {g : Gm} (h : gE g = 0) {t : List UInt8} (hl : Ls t) (hn : t.length ≤ 65536) : rwE g t = 0 ∧ rwAt g t = 0 := by
  have := ck_of_ls hl hn
  unfold rwE rwAt
  rw [if_neg (fun e => e h), if_neg (fun e => e h)]
  exact this
theorem rwS_ls {g : Gm} (h : gE g = 0) {t : List UInt8} (hl : Ls t) (hn : t.length ≤ 65536) : rwS g t = Om.wr (maOf g) (maOf g).st t := by
  unfold rwS
  rw [if_neg (fun e => e (rwE_ls h hl hn).1)]
theorem ls_drop {l : List UInt8} (h : Ls l) (n : Nat) : Ls (l.drop n) := fun c hc => h c (List.mem_of_mem_drop hc)
/-- A text in two pieces is the text as a whole. -/
theorem rws_cut {g : Gm} (h : gE g = 0) {t : List UInt8} (hl : Ls t) (hn : t.length ≤ 65536) {k : Nat} (hk : k ≤ t.length) : rwS g (t.take k) ++ rwS (gCut g k) (t.drop k) = rwS g t := by
  rw [rwS_ls h (ls_take hl k) (by rw [List.length_take]; omega), rwS_ls (gE_cut h k) (ls_drop hl k) (by rw [List.length_drop]; omega), rwS_ls h hl hn, ma_cut]
  have e := wr_st (maOf g) (Om.steps (maOf g) (maOf g).st k) (t.drop k) (Om.steps (maOf g) (maOf g).st k)
  exact (congrArg _ e).trans (Om.wr_cut (maOf g) t (maOf g).st k hk)
/-- Wheels turned with their rings write the same. -/
theorem rws_mov {g : Gm} (h : gE g = 0) {t : List UInt8} (hl : Ls t) (hn : t.length ≤ 65536) (b : Nat) : rwS (gMov g b) t = rwS g t := by
  have hM := (ok_maOf h).1
  rw [rwS_ls (gE_mov h b) hl hn, rwS_ls h hl hn, ma_mov]
  exact Om.wr_moved hM b t (fun i hi => hM.st i hi)
/-- Behind k keys that only step. -/
theorem pst_steps (M : Om.Ma) : ∀ k, pst M (fun _ => -1) k = Om.steps M M.st k
  | 0 => rfl
  | k + 1 => by
    show (if okK (-1) then Om.step M (pst M (fun _ => -1) k) else pst M (fun _ => -1) k) = Om.step M (Om.steps M M.st k)
    rw [if_pos (by decide), pst_steps M k]
/-- The machine with other numbers in its windows. -/
theorem mac_cut {W : World} {a b c c2 : Value} {g : Gm} {k : Nat} (h : MacAt W (.agg (mac a b c g.rf g.pl)) g) (h2 : NumsAt W c2 g.n fun i => ((Om.steps (maOf g) (maOf g).st k i : Nat) : Int)) : MacAt W (.agg (mac a b c2 g.rf g.pl)) (gCut g k) := by
  obtain ⟨a', b', c', e, k1, k2, k3⟩ := h
  have e0 := congrArg (fun v => match v with | Value.agg x => x | _ => #[]) e
  simp only at e0
  have ea : a = a' := by have := congrArg (fun x : Array Value => x[0]?) e0; simpa [mac_0] using this
  have eb : b = b' := by have := congrArg (fun x : Array Value => x[1]?) e0; simpa [mac_1] using this
  subst ea eb
  exact ⟨a, b, c2, rfl, k1, k2, h2⟩
end Go.Proofs.Ytigamiehnjipcaa

/-
  Contract of chart.Double.
-/
namespace Go.Proofs.Ytigamiehnjipcaa
open Go.RowKit PK Vg

/-- What Double says. -/
def dbE (g : Gm) (t : List UInt8) : Int := if gE g ≠ 0 then gE g else if ckE t ≠ 0 then ckE t else if t.length ≠ 3 then 5 else 0
def dbAt (g : Gm) (t : List UInt8) : Int := if gE g ≠ 0 then 0 else if ckE t ≠ 0 then ckAt t else 0
def dbS (g : Gm) (t : List UInt8) : List UInt8 := if dbE g t ≠ 0 then [] else Om.wr (maOf g) (maOf g).st (t ++ t)
theorem ba_app2 (t : ByteArray) : (t ++ t).data.toList = t.data.toList ++ t.data.toList := by simp
set_option maxRecDepth 100000 in
set_option maxHeartbeats 2000000 in
theorem db_bad (a b c : Value) (rf pl : Nat → Int) (t : ByteArray) (E : Int) (hE : (E != 0) = true) (w : World) (HW : Hid (∀ W, Below w.heap.size w W → Calls Try.prog 35 #[.agg (mac a b c rf pl)] W fun e w' => e = .returned (.int .i64 E) ∧ Below W.heap.size W w')) : Calls Try.prog 12 #[.agg (mac a b c rf pl), .string t] w fun e w' => e = .returned (.tuple #[.string ByteArray.empty, .agg #[.int .i64 E, .int .i64 0]]) ∧ Below w.heap.size w w' := by
  have h0 := WtAt.new w a b c rf pl
  go_enter Try.func12, Try.ntmps12
  go_wp2_with (first | refine wpList_load_row rfl 27 _ rfl w.heap.size rfl 27 (mac a b c rf pl) (0, 0) _ h0.load Try.underlying27 rfl (by rw [mac_size]; exact v_info_mac) ?_)
  refine (HW.out _ h0.mg.below).mono ?_
  rintro e W1 ⟨rfl, hb⟩
  have h1 := h0.step hb
  have c0 := h1.res.cell (i := 0) rfl
  have c1 := h1.res.cell (i := 1) rfl
  have f0 := h1.res.frozen 0
  have f1 := h1.res.frozen 1
  clear hb h0 HW
  go_wp2
  have q := Kit.read_two (.int .i64 E) (.int .i64 0) c0 c1
  exact bodyPost_ret (v := .tuple #[.string ByteArray.empty, .agg #[.int .i64 E, .int .i64 0]]) (by simp [results, Try.results12, go_sem, q.1, q.2]; rfl) rfl ⟨rfl, h1.done _ _⟩
set_option maxRecDepth 100000 in
set_option maxHeartbeats 2000000 in
theorem db_text (a b c : Value) (rf pl : Nat → Int) (t : ByteArray) (E A : Int) (hE : (E != 0) = true) (w : World) (HW : Hid (∀ W, Below w.heap.size w W → Calls Try.prog 35 #[.agg (mac a b c rf pl)] W fun e w' => e = .returned (.int .i64 0) ∧ Below W.heap.size W w')) (HT : Hid (∀ W, Calls Try.prog 36 #[.string t] W fun e w' => e = .returned (.agg #[.int .i64 E, .int .i64 A]) ∧ Below W.heap.size W w')) : Calls Try.prog 12 #[.agg (mac a b c rf pl), .string t] w fun e w' => e = .returned (.tuple #[.string ByteArray.empty, .agg #[.int .i64 E, .int .i64 A]]) ∧ Below w.heap.size w w' := by
  have h0 := WtAt.new w a b c rf pl
  go_enter Try.func12, Try.ntmps12
  go_wp2_with (first | refine wpList_load_row rfl 27 _ rfl w.heap.size rfl 27 (mac a b c rf pl) (0, 0) _ h0.load Try.underlying27 rfl (by rw [mac_size]; exact v_info_mac) ?_)
  refine (HW.out _ h0.mg.below).mono ?_
  rintro e W1 ⟨rfl, hb⟩
  have h1 := h0.step hb
  clear hb h0 HW
  go_wp2_with fail
  refine (HT.out _).mono ?_
  rintro e W2 ⟨rfl, hb⟩
  have h2 := (h1.step hb).alloc (.cells #[.int .i64 E, .int .i64 A] 39)
  have c0 := h2.res.cell (i := 0) rfl
  have c1 := h2.res.cell (i := 1) rfl
  have f0 := h2.res.frozen 0
  have f1 := h2.res.frozen 1
  clear hb h1 HT
  go_wp2_with fail
  go_region
  all_goals (try go_wp2)
  have q := Kit.read_two (.int .i64 E) (.int .i64 A) c0 c1
  exact bodyPost_ret (v := .tuple #[.string ByteArray.empty, .agg #[.int .i64 E, .int .i64 A]]) (by simp [results, Try.results12, go_sem, q.1, q.2]; rfl) rfl ⟨rfl, (h2.done _ _).drew⟩
set_option maxRecDepth 100000 in
set_option maxHeartbeats 2000000 in
theorem db_many (a b c : Value) (rf pl : Nat → Int) (t : ByteArray) (ht : (((t.size : Nat) : Int) != 3) = true) (w : World) (HW : Hid (∀ W, Below w.heap.size w W → Calls Try.prog 35 #[.agg (mac a b c rf pl)] W fun e w' => e = .returned (.int .i64 0) ∧ Below W.heap.size W w')) (HT : Hid (∀ W, Calls Try.prog 36 #[.string t] W fun e w' => e = .returned (.agg #[.int .i64 0, .int .i64 0]) ∧ Below W.heap.size W w')) : Calls Try.prog 12 #[.agg (mac a b c rf pl), .string t] w fun e w' => e = .returned (.tuple #[.string ByteArray.empty, .agg #[.int .i64 5, .int .i64 0]]) ∧ Below w.heap.size w w' := by
  have h0 := WtAt.new w a b c rf pl
  go_enter Try.func12, Try.ntmps12
  go_wp2_with (first | refine wpList_load_row rfl 27 _ rfl w.heap.size rfl 27 (mac a b c rf pl) (0, 0) _ h0.load Try.underlying27 rfl (by rw [mac_size]; exact v_info_mac) ?_)
  refine (HW.out _ h0.mg.below).mono ?_
  rintro e W1 ⟨rfl, hb⟩
  have h1 := h0.step hb
  clear hb h0 HW
  go_wp2_with fail
  refine (HT.out _).mono ?_
  rintro e W2 ⟨rfl, hb⟩
  have h2 := (h1.step hb).alloc (.cells #[.int .i64 0, .int .i64 0] 39)
  have c0 := h2.res.cell (i := 0) rfl
  have c1 := h2.res.cell (i := 1) rfl
  have f0 := h2.res.frozen 0
  have f1 := h2.res.frozen 1
  clear hb h1 HT
  go_wp2
  have q := Kit.read_two (.int .i64 5) (.int .i64 0) c0 c1
  exact bodyPost_ret (v := .tuple #[.string ByteArray.empty, .agg #[.int .i64 5, .int .i64 0]]) (by simp [results, Try.results12, go_sem, q.1, q.2]; rfl) rfl ⟨rfl, h2.done _ _⟩
set_option maxRecDepth 100000 in
set_option maxHeartbeats 2000000 in
theorem db_ok (a b c : Value) (rf pl : Nat → Int) (t S : ByteArray) (ht : (((t.size : Nat) : Int) != 3) = false) (hts : t.size = 3) (w : World) (HW : Hid (∀ W, Below w.heap.size w W → Calls Try.prog 35 #[.agg (mac a b c rf pl)] W fun e w' => e = .returned (.int .i64 0) ∧ Below W.heap.size W w')) (HT : Hid (∀ W, Calls Try.prog 36 #[.string t] W fun e w' => e = .returned (.agg #[.int .i64 0, .int .i64 0]) ∧ Below W.heap.size W w'))
    (HX : Hid (∀ W, Below w.heap.size w W → Calls Try.prog 23 #[.agg (mac a b c rf pl), .string (t ++ t)] W fun e w' => e = .returned (.tuple #[.string S, .agg #[.int .i64 0, .int .i64 0]]) ∧ Below W.heap.size W w')) : Calls Try.prog 12 #[.agg (mac a b c rf pl), .string t] w fun e w' => e = .returned (.tuple #[.string S, .agg #[.int .i64 0, .int .i64 0]]) ∧ Below w.heap.size w w' := by
  have h0 := WtAt.new w a b c rf pl
  have HTS := (show Hid _ from hts)
  clear hts
  go_enter Try.func12, Try.ntmps12
  go_wp2_with (first | refine wpList_load_row rfl 27 _ rfl w.heap.size rfl 27 (mac a b c rf pl) (0, 0) _ h0.load Try.underlying27 rfl (by rw [mac_size]; exact v_info_mac) ?_)
  refine (HW.out _ h0.mg.below).mono ?_
  rintro e W1 ⟨rfl, hb⟩
  have h1 := h0.step hb
  clear hb h0 HW
  go_wp2_with fail
  refine (HT.out _).mono ?_
  rintro e W2 ⟨rfl, hb⟩
  have h2 := (h1.step hb).alloc (.cells #[.int .i64 0, .int .i64 0] 39)
  clear hb h1 HT
  go_wp2_with (first | refine wpList_load_row rfl 27 _ rfl w.heap.size rfl 27 (mac a b c rf pl) (0, 0) _ h2.load Try.underlying27 rfl (by rw [mac_size]; exact v_info_mac) ?_ | refine wpList_cat rfl _ _ _ _ rfl t t rfl rfl (by have := HTS.out; omega) ?_)
  refine (HX.out _ h2.mg.below).mono ?_
  rintro e W3 ⟨rfl, hb⟩
  have h3 := h2.step hb
  have c0 := h3.res.cell (i := 0) rfl
  have c1 := h3.res.cell (i := 1) rfl
  have f0 := h3.res.frozen 0
  have f1 := h3.res.frozen 1
  clear hb h2 HX
  go_wp2
  have q := Kit.read_two (.int .i64 0) (.int .i64 0) c0 c1
  exact bodyPost_ret (v := .tuple #[.string S, .agg #[.int .i64 0, .int .i64 0]]) (by simp [results, Try.results12, go_sem, q.1, q.2]) rfl ⟨rfl, h3.done _ _⟩
theorem double_any (vm : Value) (g : Gm) (t : ByteArray) (w : World) (hm : MacAt w vm g) : Calls Try.prog 12 #[vm, .string t] w fun e w' => e = .returned (.tuple #[.string ⟨(dbS g t.data.toList).toArray⟩, .agg #[.int .i64 (dbE g t.data.toList), .int .i64 (dbAt g t.data.toList)]]) ∧ Below w.heap.size w w' := by
  have HW := fun W (hb : Below w.heap.size w W) => gw_any vm g W (hm.below hb)
  have HX := fun W (hb : Below w.heap.size w W) => write8_any vm g (t ++ t) W (hm.below hb)
  have HT := fun W => check_all t W
  obtain ⟨a, b, c, rfl, _⟩ := hm
  by_cases hg : gE g = 0
  · rw [hg] at HW
    rcases ck_cases t.data.toList with ⟨e1, e2, e3, e4⟩ | e1
    · rw [e1, e2] at HT
      have eA : dbAt g t.data.toList = 0 := by unfold dbAt; rw [if_neg (fun h => h hg), if_neg (fun h => h e1)]
      by_cases h3 : t.data.toList.length = 3
      · have hsz : t.size = 3 := by rw [Pl.size_len]; exact h3
        have hl := ls_of e4
        have hl2 : Ls (t.data.toList ++ t.data.toList) := fun c hc => by
          rcases List.mem_append.1 hc with h | h
          · exact hl c h
          · exact hl c h
        have hn2 : (t.data.toList ++ t.data.toList).length ≤ 65536 := by rw [List.length_append, h3]; decide
        have hr := rwE_ls hg hl2 hn2
        rw [ba_app2, hr.1, hr.2, rwS_ls hg hl2 hn2] at HX
        have eE : dbE g t.data.toList = 0 := by unfold dbE; rw [if_neg (fun h => h hg), if_neg (fun h => h e1), if_neg (fun h => h h3)]
        have eS : dbS g t.data.toList = Om.wr (maOf g) (maOf g).st (t.data.toList ++ t.data.toList) := by unfold dbS; rw [eE, if_neg (fun h => h rfl)]
        rw [eE, eA, eS]
        exact db_ok a b c g.rf g.pl t _ (by rw [hsz]; rfl) hsz w HW HT HX
      · have eE : dbE g t.data.toList = 5 := by unfold dbE; rw [if_neg (fun h => h hg), if_neg (fun h => h e1), if_pos h3]
        have eS : dbS g t.data.toList = [] := by unfold dbS; rw [eE, if_pos (by decide)]
        rw [eE, eA, eS]
        exact db_many a b c g.rf g.pl t (by rw [Pl.size_len, bne_iff_ne]; intro e; exact h3 (by omega)) w HW HT
    · have e1' : ckE t.data.toList ≠ 0 := by simpa using e1
      have eA : dbAt g t.data.toList = ckAt t.data.toList := by unfold dbAt; rw [if_neg (fun h => h hg), if_pos e1']
      have eE : dbE g t.data.toList = ckE t.data.toList := by unfold dbE; rw [if_neg (fun h => h hg), if_pos e1']
      have eS : dbS g t.data.toList = [] := by unfold dbS; rw [eE, if_pos e1']
      rw [eE, eA, eS]
      exact db_text a b c g.rf g.pl t _ _ e1 w HW HT
  · have eA : dbAt g t.data.toList = 0 := by unfold dbAt; rw [if_pos hg]
    have eE : dbE g t.data.toList = gE g := by unfold dbE; rw [if_pos hg]
    have eS : dbS g t.data.toList = [] := by unfold dbS; rw [eE, if_pos hg]
    rw [eE, eA, eS]
    exact db_bad a b c g.rf g.pl t _ (by simpa using hg) w HW
end Go.Proofs.Ytigamiehnjipcaa
