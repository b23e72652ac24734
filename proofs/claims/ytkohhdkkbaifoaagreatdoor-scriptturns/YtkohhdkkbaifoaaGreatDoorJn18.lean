/-
  Several texts, joined: RoWt, ScF, ScG, ScH, ScL.
-/
import Derived.Test.YtkohhdkkbaifoaaGreatDoorRoNe
import Derived.Test.YtkohhdkkbaifoaaGreatDoorJn17
import Derived.Test.YtkohhdkkbaifoaaGreatDoorJn16
import Derived.Test.YtkohhdkkbaifoaaGreatDoorJn14
import Derived.Test.YtkohhdkkbaifoaaGreatDoorJn15
import Derived.Test.YtkohhdkkbaifoaaGreatDoorJn1
import Derived.Shelf.Strconv.Clone
import Derived.Shelf.Lay
import Derived.Ground.NamesProg
import Derived.Lib.Agree
/-
  Contract of rotor.Write.
-/
namespace Go.Proofs.YtkohhdkkbaifoaaGreatDoor
open Go.RowKit PK Vg

theorem WtAt.grown {w W W' : World} {a b c : Value} {rf pl : Nat → Int} (h : WtAt w W a b c rf pl) {r : Option Nat} (hg : W.grownBy W' r) (hr : ∀ k, r = some k → w.heap.size + 1 < k) : WtAt w W' a b c rf pl := by
  have h1 := h.mg.row.lt
  have h2 := h.res.lt
  have hne : ∀ k, k ≤ w.heap.size + 1 → some k ≠ r := fun k hk e => by have := hr k e.symm; omega
  refine ⟨⟨(hg.block _ h1 (hne _ (by omega))).trans h.mg.row, ?_⟩, (hg.block _ h2 (hne _ (by omega))).trans h.res⟩
  exact h.mg.below.grown hg (by omega) (fun k hk => by have := hr k hk; omega)
set_option maxRecDepth 100000 in
set_option maxHeartbeats 2000000 in
theorem wt_bad (a b c : Value) (rf pl : Nat → Int) (t : ByteArray) (E : Int) (hE : (E != 0) = true) (w : World) (HW : Hid (∀ W, Below w.heap.size w W → Calls Tryz.prog 131 #[.agg (mac a b c rf pl)] W fun e w' => e = .returned (.tuple #[.pointer none, .int .i64 E]) ∧ Below W.heap.size W w')) : Calls Tryz.prog 79 #[.agg (mac a b c rf pl), .string t] w fun e w' => e = .returned (.tuple #[.string ByteArray.empty, .agg #[.int .i64 E, .int .i64 0]]) ∧ Below w.heap.size w w' := by
  have h0 := WtAt.new w a b c rf pl
  go_enter Tryz.func79, Tryz.ntmps79
  go_wp2_with (first | refine wpList_load_row rfl 29 _ rfl w.heap.size rfl 29 (mac a b c rf pl) (0, 0) _ h0.load Tryz.underlying29 rfl (by rw [mac_size]; exact v_info_mac) ?_)
  refine (HW.out _ h0.mg.below).mono ?_
  rintro e W1 ⟨rfl, hb⟩
  have h1 := h0.step hb
  have c0 := h1.res.cell (i := 0) rfl
  have c1 := h1.res.cell (i := 1) rfl
  have f0 := h1.res.frozen 0
  have f1 := h1.res.frozen 1
  clear hb h0 HW
  go_wp2
  have q := Kit.read_two (.int .i64 E) (.int .i64 0) c0 c1
  exact bodyPost_ret (v := .tuple #[.string ByteArray.empty, .agg #[.int .i64 E, .int .i64 0]]) (by simp [results, Tryz.results79, go_sem, q.1, q.2]; rfl) rfl ⟨rfl, h1.done _ _⟩
set_option maxRecDepth 100000 in
set_option maxHeartbeats 2000000 in
theorem wt_text (a b c : Value) (rf pl : Nat → Int) (t : ByteArray) (E A : Int) (hE : (E != 0) = true) (w : World) (HW : Hid (∀ W, Below w.heap.size w W → Calls Tryz.prog 131 #[.agg (mac a b c rf pl)] W fun e w' => ∃ q, e = .returned (.tuple #[.pointer (some ⟨q, 0, none⟩), .int .i64 0]) ∧ Below W.heap.size W w')) (HT : Hid (∀ W, Calls Tryz.prog 38 #[.string t] W fun e w' => e = .returned (.agg #[.int .i64 E, .int .i64 A]) ∧ Below W.heap.size W w')) : Calls Tryz.prog 79 #[.agg (mac a b c rf pl), .string t] w fun e w' => e = .returned (.tuple #[.string ByteArray.empty, .agg #[.int .i64 E, .int .i64 A]]) ∧ Below w.heap.size w w' := by
  have h0 := WtAt.new w a b c rf pl
  go_enter Tryz.func79, Tryz.ntmps79
  go_wp2_with (first | refine wpList_load_row rfl 29 _ rfl w.heap.size rfl 29 (mac a b c rf pl) (0, 0) _ h0.load Tryz.underlying29 rfl (by rw [mac_size]; exact v_info_mac) ?_)
  refine (HW.out _ h0.mg.below).mono ?_
  rintro e W1 ⟨q, rfl, hb⟩
  have h1 := h0.step hb
  clear hb h0 HW
  go_wp2_with fail
  refine (HT.out _).mono ?_
  rintro e W2 ⟨rfl, hb⟩
  have h2 := (h1.step hb).alloc (.cells #[.int .i64 E, .int .i64 A] 35)
  have c0 := h2.res.cell (i := 0) rfl
  have c1 := h2.res.cell (i := 1) rfl
  have f0 := h2.res.frozen 0
  have f1 := h2.res.frozen 1
  clear hb h1 HT
  go_wp2_with fail
  go_region
  all_goals (try go_wp2)
  have q := Kit.read_two (.int .i64 E) (.int .i64 A) c0 c1
  exact bodyPost_ret (v := .tuple #[.string ByteArray.empty, .agg #[.int .i64 E, .int .i64 A]]) (by simp [results, Tryz.results79, go_sem, q.1, q.2]; rfl) rfl ⟨rfl, (h2.done _ _).drew⟩
/-- What is held in the loop. -/
structure WmAt (w W : World) (a b c : Value) (rf pl : Nat → Int) (q : Nat) (M : Om.Ma) (at' : Nat → Nat) (B : Nat) (v9 : Value) (l : List UInt8) : Prop where
  wt : WtAt w W a b c rf pl
  rot : RotAt W q M at'
  q1 : w.heap.size + 1 < q
  q2 : q < B
  own : Kit.Owns W B 5 v9 l
  sz : B ≤ W.heap.size
section
variable {w W W' : World} {a b c : Value} {rf pl : Nat → Int} {q : Nat} {M : Om.Ma} {at' at2 : Nat → Nat} {B : Nat} {v9 : Value} {l : List UInt8}
theorem WmAt.step (h : WmAt w W a b c rf pl q M at' B v9 l) (hb : Below W.heap.size W W') : WmAt w W' a b c rf pl q M at' B v9 l := ⟨h.wt.step hb, h.rot.below hb, h.q1, h.q2, own_byte h.own hb, Nat.le_trans h.sz hb.size⟩
theorem WmAt.turned (h : WmAt w W a b c rf pl q M at' B v9 l) (hr : RotAt W' q M at2) (hg : W.grownBy W' (some q)) : WmAt w W' a b c rf pl q M at2 B v9 l := by
  refine ⟨h.wt.grown hg (fun k hk => by cases hk; exact h.q1), hr, h.q1, h.q2, World.ownsRow.kept h.own hg ?_, Nat.le_trans h.sz hg.size⟩
  cases hv : v9.ownBlock with
  | none => exact .inl rfl
  | some k =>
    refine .inr (fun e => ?_)
    have h1 := (World.ownsRow.lt h.own k hv).1
    have h2 := h.q2
    cases e
    omega
end
set_option maxRecDepth 100000 in
set_option maxHeartbeats 4000000 in
theorem wt_ok (M : Om.Ma) (hM : Om.Ok M) (a b c : Value) (rf pl : Nat → Int) (t : ByteArray) (ht : Ls t.data.toList) (hs : t.size ≤ 65536) (w : World) (HW : Hid (∀ W, Below w.heap.size w W → Calls Tryz.prog 131 #[.agg (mac a b c rf pl)] W fun e w' => ∃ q, e = .returned (.tuple #[.pointer (some ⟨q, 0, none⟩), .int .i64 0]) ∧ W.heap.size ≤ q ∧ RotAt w' q M M.st ∧ Below W.heap.size W w')) (HT : Hid (∀ W, Calls Tryz.prog 38 #[.string t] W fun e w' => e = .returned (.agg #[.int .i64 0, .int .i64 0]) ∧ Below W.heap.size W w')) : Calls Tryz.prog 79 #[.agg (mac a b c rf pl), .string t] w fun e w' => e = .returned (.tuple #[.string ⟨(Om.wr M M.st t.data.toList).toArray⟩, .agg #[.int .i64 0, .int .i64 0]]) ∧ Below w.heap.size w w' := by
  obtain ⟨i0, hi0, hz0, hz1, hz2⟩ := x_info_parts v_info_byte
  have HNP := (show Hid (∀ k c, c < 26 → Om.now M (Om.steps M M.st k) c < 26) from fun k c hc => (Om.now_perm hM _).lt c hc)
  have h0 := WtAt.new w a b c rf pl
  clear hM
  go_enter Tryz.func79, Tryz.ntmps79
  go_wp2_with (first | refine wpList_load_row rfl 29 _ rfl w.heap.size rfl 29 (mac a b c rf pl) (0, 0) _ h0.load Tryz.underlying29 rfl (by rw [mac_size]; exact v_info_mac) ?_)
  refine (HW.out _ h0.mg.below).mono ?_
  rintro e W1 ⟨q, rfl, hq, hrot, hb⟩
  have h1 := h0.step hb
  have hq1 : w.heap.size + 1 < q := by have := h0.res.lt; omega
  clear hb h0 HW hq
  go_wp2_with fail
  refine (HT.out _).mono ?_
  rintro e W2 ⟨rfl, hb⟩
  have h2 := (h1.step hb).alloc (.cells #[.int .i64 0, .int .i64 0] 35)
  have hrot2 := (hrot.below hb).alloc (.cells #[.int .i64 0, .int .i64 0] 35)
  clear hb h1 HT hrot
  obtain ⟨V, hV⟩ : ∃ V, V = W2.alloc (.cells #[.int .i64 0, .int .i64 0] 35) := ⟨_, rfl⟩
  rw [← hV] at h2 hrot2
  have hqV := hrot2.row.lt
  go_wp2_with (first | (at_make; rw [← hV]; refine wpList_make_own _ rfl _ _ 87 rfl V.heap.size 5 i0 (.int .u8 0) 1 Tryz.underlying87 hi0 hz0 hz1 _ _ _ t.size rfl rfl rfl (by rw [hz2]; omega) (by unfold maxLen; omega) (Nat.le_refl _) ?_; intro w1 hown1 hgrow1))
  have hbn : Below V.heap.size V w1 := ⟨hgrow1.os, hgrow1.tape, hgrow1.output, hgrow1.size, fun k hk => hgrow1.block k hk (by simp)⟩
  have hg0 : WmAt w w1 a b c rf pl q M (Om.steps M M.st 0) V.heap.size _ (Om.wr M M.st (t.data.toList.take 0)) := ⟨h2.step hbn, hrot2.below hbn, hq1, hqV, hown1, hgrow1.size⟩
  have hB : V.heap.size = W2.heap.size + 1 := by rw [hV]; simp
  rw [hB] at hg0
  clear hB hbn hown1 hgrow1 hqV hrot2 h2 hq1 hV
  go_loopw [31, 9] (fun i y W => ∃ (k : Nat) (v9 : Value), k ≤ t.size ∧ i = .int .i64 (k : Nat) ∧ v9 = y ∧ WmAt w W a b c rf pl q M (Om.steps M M.st k) (W2.heap.size + 1) v9 (Om.wr M M.st (t.data.toList.take k))) (fun i _ _ => ((t.size : Int) - intOf i).toNat)
  case atStart => exact ⟨0, _, by omega, rfl, rfl, hg0⟩
  case round =>
    clear hg0
    obtain ⟨k, v9, hk, rfl, rfl, hg⟩ := hrel
    by_cases hlt : k < t.size
    · have hlt2 : (k : Int) < (t.size : Int) := by omega
      have hxl := ht.at (getD_size hlt)
      have hnum := num_lt hxl
      have hby : t[k] = t.data.toList.getD k 0 := (getD_byte t k hlt).symm
      have HWT := (show Hid _ from wr_take (M := M) (getD_size hlt) M.st)
      have HNB := (show Hid _ from HNP.out (k + 1) _ hnum)
      have HSTK := (show Hid (Om.step M (Om.steps M M.st k) = Om.steps M M.st (k + 1)) from rfl)
      have HLL : Hid ((Om.wr M M.st (t.data.toList.take k)).length ≤ k) := by rw [Hid, Om.wr_length, List.length_take]; omega
      generalize t.data.toList.getD k 0 = x at *
      go_wp2_with fail
      refine (step_any q M _ _ hg.rot).mono ?_
      rintro e W3 ⟨rfl, hr, hgr⟩
      rw [HSTK.out] at hr
      have hg2 := hg.turned hr hgr
      clear hr hgr hg
      go_wp2_with fail
      refine (number_any x hxl _).mono ?_
      rintro e W4 ⟨rfl, rfl⟩
      clear hby
      go_wp2_with fail
      refine (becomes_any q M _ (Vg.num x) hnum _ hg2.rot).mono ?_
      rintro e W4 ⟨rfl, hb⟩
      have hg3 := hg2.step hb
      clear hb hg2
      obtain ⟨z, hz⟩ : ∃ z, z = Om.now M (Om.steps M M.st (k + 1)) (Vg.num x) := ⟨_, rfl⟩
      rw [← hz] at HNB HWT ⊢
      clear hz
      go_wp2_with fail
      refine (letter_any z HNB.out _).mono ?_
      rintro e W5 ⟨rfl, rfl⟩
      have hlt4 := hg3.rot.row.lt
      have hq2 := hg3.q2
      have hsz2 := hg3.sz
      go_wp2_with (first | (at_builtin; refine wpList_append_own _ rfl _ _ 87 rfl (W2.heap.size + 1) 5 i0 (.int .u8 0) 1 1 Tryz.underlying87 hi0 hz0 hz1 hz2 rfl (by decide) _ _ _ rfl (World.ownsRow.alloc hg3.own _) ⟨W4.heap.size, 0, none⟩ 1 1 [.int .u8 ((ltr z).toNat : Int)] rfl rfl (cell_one_new _ _ _) (fun u hu => by simp at hu; subst hu; rfl) (by have := HLL.out; unfold maxLen; omega) (by have := HLL.out; omega) (by simp; omega) ?_; intro v5 w5 hown5 hgrow5 _))
      have HG4 : WmAt w w5 a b c rf pl q M (Om.steps M M.st (k + 1)) (W2.heap.size + 1) v5 (Om.wr M M.st (t.data.toList.take (k + 1))) := by
        have hlo : ∀ k, v9.ownBlock = some k → W2.heap.size + 1 ≤ k := fun k hk => (World.ownsRow.lt hg3.own k hk).1
        have hq := hg3.q1
        have hal := hg3.wt.alloc (.cells #[.int .u8 ((ltr z).toNat : Int)] 5)
        have har := hg3.rot.alloc (.cells #[.int .u8 ((ltr z).toNat : Int)] 5)
        refine ⟨hal.grown hgrow5 (fun k hk => by have := hlo k hk; omega), ⟨(hgrow5.block q har.row.lt (fun e => by have := hlo q e.symm; omega)).trans har.row, har.ok, har.ins⟩, hq, hq2, ?_, by have := hgrow5.size; simp at this; omega⟩
        rw [HWT.out]
        unfold Kit.Owns
        rw [← v_cells_byte, List.length_append]
        exact hown5
      clear hg3 hown5 hgrow5
      go_roundw
      case rel => exact ⟨k + 1, v5, by omega, by go_num, rfl, HG4⟩
      case measure => simp [intOf]; omega
    · obtain rfl : k = t.size := by omega
      have hnlt : ¬ (t.size : Int) < (t.size : Int) := by omega
      have hown := hg.own
      rw [Pl.size_len, List.take_length] at hown
      have hst := Kit.run_string_of_own (P := Tryz.prog) wr 87 9 5 Tryz.underlying87 Tryz.underlying5 Tryz.underlying9 hown
      have c0 := hg.wt.res.cell (i := 0) rfl
      have c1 := hg.wt.res.cell (i := 1) rfl
      have f0 := hg.wt.res.frozen 0
      have f1 := hg.wt.res.frozen 1
      have hwt := hg.wt
      clear hown hg
      go_wp2
      have q := Kit.read_two (.int .i64 0) (.int .i64 0) c0 c1
      exact bodyPost_ret (v := .tuple #[.string ⟨(Om.wr M M.st t.data.toList).toArray⟩, .agg #[.int .i64 0, .int .i64 0]]) (by simp [results, Tryz.results79, go_sem, q.1, q.2]) rfl ⟨rfl, hwt.done _ _⟩
theorem write8_any (vm : Value) (g : Gm) (t : ByteArray) (w : World) (hm : MacAt w vm g) : Calls Tryz.prog 79 #[vm, .string t] w fun e w' => e = .returned (.tuple #[.string ⟨(rwS g t.data.toList).toArray⟩, .agg #[.int .i64 (rwE g t.data.toList), .int .i64 (rwAt g t.data.toList)]]) ∧ Below w.heap.size w w' := by
  have HN := fun W (hb : Below w.heap.size w W) => new_any vm g W (hm.below hb)
  unfold rwS
  by_cases hg : gE g = 0
  · have HG : ∀ W, Below w.heap.size w W → Calls Tryz.prog 131 #[vm] W fun e w' => ∃ q, e = .returned (.tuple #[.pointer (some ⟨q, 0, none⟩), .int .i64 0]) ∧ W.heap.size ≤ q ∧ RotAt w' q (maOf g) (maOf g).st ∧ Below W.heap.size W w' := fun W hb => (HN W hb).mono (by
      rintro e w' (⟨h1, _⟩ | ⟨_, h2⟩)
      · exact absurd hg h1
      · exact h2)
    have e : rwE g t.data.toList = ckE t.data.toList := by unfold rwE; rw [if_neg (fun h => h hg)]
    have e' : rwAt g t.data.toList = ckAt t.data.toList := by unfold rwAt; rw [if_neg (fun h => h hg)]
    rcases ck_cases t.data.toList with ⟨e1, e2, e3, e4⟩ | e1
    · obtain ⟨hM, _⟩ := ok_maOf hg
      obtain ⟨a, b, c, rfl, _⟩ := hm
      rw [e, e', e1, e2, if_neg (by decide)]
      exact wt_ok _ hM a b c g.rf g.pl t (ls_of e4) (by rw [Pl.size_len]; exact e3) w HG (fun W => by have := check_all t W; rw [e1, e2] at this; exact this)
    · obtain ⟨a, b, c, rfl, _⟩ := hm
      rw [e, e', if_pos (by simpa using e1)]
      exact wt_text a b c g.rf g.pl t _ _ e1 w (fun W hb => (HG W hb).mono (by rintro e w' ⟨q, h1, _, _, h2⟩; exact ⟨q, h1, h2⟩)) (fun W => check_all t W)
  · have e : rwE g t.data.toList = gE g := by unfold rwE; rw [if_pos hg]
    have e' : rwAt g t.data.toList = 0 := by unfold rwAt; rw [if_pos hg]
    obtain ⟨a, b, c, rfl, _⟩ := hm
    rw [e, e', if_pos hg]
    exact wt_bad a b c g.rf g.pl t _ (by simpa using hg) w (fun W hb => (HN W hb).mono (by
      rintro e w' (⟨_, h2⟩ | ⟨h1, _⟩)
      · exact h2
      · exact absurd h1 hg))
end Go.Proofs.YtkohhdkkbaifoaaGreatDoor

/-
  What a step makes of a text, and what it is undone to; that texts stay right.
-/
namespace Go.Proofs.YtkohhdkkbaifoaaGreatDoor
open Go.RowKit PK Vg Sm

noncomputable def one (s : Sp) (t : List UInt8) : List UInt8 :=
  if s.k = 1 then mvL s.n.toNat t else if s.k = 2 then writeL s.n.toNat s.key.data.toList t else if s.k = 3 then putL t.length (ordF s t.length) t
  else if s.k = 4 then putL t.length (ordF s t.length) t else if s.k = 5 then encL s.r s.Z t t.length else Om.wr (maOf s.g) (maOf s.g).st t
/-- What keeps a text of so many letters from being done, or undone. -/
def oneE (s : Sp) (n : Nat) : Int := if s.k = 5 ∧ n % s.r ≠ 0 then 8 else 0
def undE (s : Sp) (n : Nat) : Int := if s.k = 5 ∧ n % s.r ≠ 0 then 8 else if s.k = 5 then (recOf (detL s.r s.Z)).2 else 0
section
variable {s : Sp} {t : List UInt8}
theorem one_1 (k : s.k = 1) : one s t = mvL s.n.toNat t := by unfold one; rw [if_pos k]
theorem one_2 (k : s.k = 2) : one s t = writeL s.n.toNat s.key.data.toList t := by unfold one; rw [if_neg (by omega), if_pos k]
theorem one_34 (k : s.k = 3 ∨ s.k = 4) : one s t = putL t.length (ordF s t.length) t := by
  unfold one; rw [if_neg (by omega), if_neg (by omega)]
  rcases k with k | k
  · rw [if_pos k]
  · rw [if_neg (by omega), if_pos k]
theorem one_5 (k : s.k = 5) : one s t = encL s.r s.Z t t.length := by unfold one; rw [if_neg (by omega), if_neg (by omega), if_neg (by omega), if_neg (by omega), if_pos k]
theorem one_6 (k : s.k = 6) : one s t = Om.wr (maOf s.g) (maOf s.g).st t := by unfold one; rw [if_neg (by omega), if_neg (by omega), if_neg (by omega), if_neg (by omega), if_neg (by omega)]
theorem oneE_n (k : s.k ≠ 5) (n : Nat) : oneE s n = 0 := by unfold oneE; rw [if_neg (fun h => k h.1)]
end
theorem lets_ls {l : List UInt8} (h : Ls l) : Pl.Lets l := fun c hc => by
  have := h c hc
  simp [Pl.isL]
  omega
theorem ls_lets {l : List UInt8} (h : Pl.Lets l) : Ls l := fun c hc => by
  have := h c hc
  simp [Pl.isL] at this
  omega
theorem ck_ls {l : List UInt8} (h : Ls l) (hn : l.length ≤ 65536) : ckE l = 0 := by
  unfold ckE
  rw [if_neg (by omega)]
  exact (chk_none l (Pl.chk_ok l (lets_ls h))).1
theorem ls_ck {l : List UInt8} (h : ckE l = 0) : Ls l ∧ l.length ≤ 65536 := ⟨ls_lets (ck_at h).2.2, (ck_at h).2.1⟩
theorem Calls_ex {P : Program} {f : FuncId} {a : Array Value} {w : World} {R : Ending → World → Prop} (h : Calls P f a w R) : ∃ e w', R e w' := by
  obtain ⟨e, w', fr, hr, _⟩ := h []
  exact ⟨e, w', hr⟩
theorem ord_ex (w : World) {s : Sp} (hs : stE s = 0) (hk : s.k = 3 ∨ s.k = 4) {m : Nat} (hm : m ≤ 65536) : OrdP s m (ordF s m) := by
  rcases hk with hk | hk
  · obtain ⟨h1, h64⟩ := st_rail hs hk
    obtain ⟨e, w', G, d, _, _, _, _, ho, hs⟩ := Calls_ex (rail_ok m s.n.toNat hm (by omega) (by omega) w)
    exact (ordF_of (d := d) ⟨ho, .inl ⟨hk, hs⟩⟩).1
  · obtain ⟨h1, h2, h3⟩ := st_col hs hk
    have hl := Pl.size_len s.key
    obtain ⟨e, w', G, d, t, _, _, _, _, ho, hs, ht⟩ := Calls_ex (col_ok m s.key hm h1 (ck_at h1).1 (by omega) (by omega) w)
    exact (ordF_of (d := d) ⟨ho, .inr ⟨hk, t, ht, hs⟩⟩).1
theorem ord_good {n : Nat} {d : Nat → Int} (h : Order n d) (hn : n ≤ 65536) : GoodO n d := ⟨hn, h.lt, h.inj⟩
theorem mvL_ls (b : Nat) (l : List UInt8) : Ls (mvL b l) := fun c hc => by
  obtain ⟨x, hx, rfl⟩ := List.mem_map.1 hc
  unfold mvC
  rw [ltr_toNat (Nat.mod_lt _ (by omega))]
  have := Nat.mod_lt (Vg.num x + b) (show 0 < 26 by omega)
  omega
theorem putL_ls {n : Nat} {f : Nat → Int} {l : List UInt8} (hf : ∀ i, i < n → 0 ≤ f i ∧ f i < n) (h : Ls l) (hn : n = l.length) : Ls (putL n f l) := fun c hc => by
  obtain ⟨i, hi, rfl⟩ := List.mem_map.1 hc
  have hi' : i < n := by simpa using hi
  have := hf i hi'
  rw [List.getD_eq_getElem?_getD, List.getElem?_eq_getElem (by omega)]
  exact h _ (List.getElem_mem _)
theorem enc_ls (n : Nat) (Z : Nat → Nat → Int) (full : List UInt8) (m : Nat) : Ls (encL n Z full m) := fun c hc => by
  obtain ⟨i, hi, rfl⟩ := List.mem_map.1 hc
  have := encN_bound n Z full i
  rw [UInt8.toNat_ofNat']
  omega
theorem full_selfW (n : Nat) (l : List UInt8) (h : l.length % n = 0) : fullL n l = l := by
  unfold fullL
  rw [h, Nat.sub_zero, Nat.mod_self]
  simp
section
variable (w : World) {s : Sp} {t : List UInt8} (hs : stE s = 0) (ht : ckE t = 0)
include w hs ht
theorem one_right : ckE (one s t) = 0 ∧ (one s t).length = t.length := by
  obtain ⟨hl, hn⟩ := ls_ck ht
  rcases st_kinds hs with k | k | k | k | k | k
  · rw [one_1 k]; exact ⟨ck_ls (mvL_ls _ _) (by rw [mvL_length]; exact hn), mvL_length _ _⟩
  · rw [one_2 k]; exact ⟨ck_ls (writeL_ls _ _ _) (by rw [writeL_length]; exact hn), writeL_length _ _ _⟩
  · rw [one_34 (.inl k)]; exact ⟨ck_ls (putL_ls (ord_ex w hs (.inl k) hn).1.lt hl rfl) (by rw [putL_length]; exact hn), putL_length _ _ _⟩
  · rw [one_34 (.inr k)]; exact ⟨ck_ls (putL_ls (ord_ex w hs (.inr k) hn).1.lt hl rfl) (by rw [putL_length]; exact hn), putL_length _ _ _⟩
  · rw [one_5 k]; exact ⟨ck_ls (enc_ls _ _ _ _) (by rw [encL_length]; exact hn), encL_length _ _ _ _⟩
  · rw [one_6 k]; exact ⟨ck_ls (Om.wr_ls (ok_maOf (st_rotor hs k)).1 _ hl) (by rw [Om.wr_length]; exact hn), Om.wr_length _ _ _⟩
end
end Go.Proofs.YtkohhdkkbaifoaaGreatDoor

/-
  Contracts of script.done and undone: a right step with a right text.
-/
namespace Go.Proofs.YtkohhdkkbaifoaaGreatDoor
open Go.RowKit PK Vg Sm

theorem tl_size (t : ByteArray) : t.data.toList.length = t.size := (Pl.size_len t).symm
set_option maxRecDepth 100000 in
set_option maxHeartbeats 2000000 in
theorem done_any (v : Value) (s : Sp) (A : Int) (t : ByteArray) (w : World) (hv : SqAt w v s) (hs : stE s = 0) (ht : ckE t.data.toList = 0) :
    Calls Tryz.prog 39 #[v, .int .i64 A, .string t] w fun e w' => (oneE s t.size = 0 → e = .returned (.string ⟨(one s t.data.toList).toArray⟩)) ∧ (oneE s t.size ≠ 0 → e = .panicked [flt (oneE s t.size) A]) ∧ Below w.heap.size w w' := by
  obtain ⟨hat, hn0, hlets⟩ := ck_at ht
  have hlen := tl_size t
  have hn : t.size ≤ 65536 := by omega
  have hvv := hv
  obtain ⟨mv, a, b, c, rfl, hm, hw, hri, hst⟩ := hv
  have hr0 := RowAt.new w 31 (spA s.k s.n s.key mv a b c s.g.rf s.g.pl)
  have hbe : Below w.heap.size w (w.alloc (.cells (spA s.k s.n s.key mv a b c s.g.rf s.g.pl) 31)) := (Below.refl _ w).alloc (Nat.le_refl _) _
  have c0 := hr0.cell (spA_0 s.k s.n s.key mv a b c s.g.rf s.g.pl)
  have c1 := hr0.cell (spA_1 s.k s.n s.key mv a b c s.g.rf s.g.pl)
  have c2 := hr0.cell (spA_2 s.k s.n s.key mv a b c s.g.rf s.g.pl)
  have c3 := hr0.cell (spA_3 s.k s.n s.key mv a b c s.g.rf s.g.pl)
  have hmid : (w.alloc (.cells (spA s.k s.n s.key mv a b c s.g.rf s.g.pl) 31)).rangeAt w.heap.size 4 (mac a b c s.g.rf s.g.pl).toList := row_mid hr0 4 _ (fun i v hv => by rw [spA_mac]; exact hv)
  have HM : Hid (MatAt (w.alloc (.cells (spA s.k s.n s.key mv a b c s.g.rf s.g.pl) 31)) mv s.r s.L s.Z) := hm.below hbe
  have HG : Hid (MacAt (w.alloc (.cells (spA s.k s.n s.key mv a b c s.g.rf s.g.pl) 31)) (.agg (mac a b c s.g.rf s.g.pl)) s.g) := ⟨a, b, c, rfl, hw.below hbe, hri.below hbe, hst.below hbe⟩
  have HSQ : Hid _ := hvv.below hbe
  have HSZ : Hid ((spA s.k s.n s.key mv a b c s.g.rf s.g.pl).size = 59) := spA_size _ _ _ _ _ _ _ _ _
  obtain ⟨am, capm, R, rfl, _⟩ := hm
  have HB : Hid _ := hbe
  generalize spA s.k s.n s.key (.slice am s.r capm) a b c s.g.rf s.g.pl = CS at *
  generalize hmc : mac a b c s.g.rf s.g.pl = MC at *
  have HMS : Hid (MC.size = 55) := by rw [Hid, ← hmc]; exact mac_size _ _ _ _ _
  have HR0 : Hid _ := hr0
  have HLEN : Hid (t.data.toList.length = t.size) := hlen
  clear hmc hw hri hst hbe hvv hr0 hlen
  rcases st_kinds hs with k | k | k | k | k | k
  · obtain ⟨h0, h25⟩ := st_move hs k
    obtain ⟨n, hnn⟩ : ∃ n : Nat, s.n = n := ⟨s.n.toNat, by omega⟩
    have HE : Hid (oneE s t.size = 0) := oneE_n (by omega) _
    have HV : Hid (one s t.data.toList = mvL (n) t.data.toList) := by rw [Hid, one_1 k, hnn]; rfl
    have HO : Hid _ := moved_any t (n) (by omega) hn hlets (w.alloc (.cells CS 31))
    generalize oneE s t.size = E at *
    generalize one s t.data.toList = T at *
    rw [k] at c0
    rw [hnn] at c1
    have hn25 : (n : Int) ≤ 25 := by omega
    clear k hnn h0 h25 hs ht hat hn0 hlets hmid c2 c3
    go_enter Tryz.func39, Tryz.ntmps39
    go_wp2_with fail
    refine Calls.mono HO.out ?_
    rintro e V ⟨rfl, hb⟩
    go_wp2
    go_ret
    exact ⟨fun _ => by rw [HV.out]; rfl, fun h => absurd HE.out h, HB.out.trans (hb.mono HB.out.size)⟩
  · obtain ⟨⟨h1, h4⟩, hck, hk1, hk2⟩ := st_tab hs k
    have HE : Hid (oneE s t.size = 0) := oneE_n (by omega) _
    have hlk : lkE s.n s.key.data.toList t.data.toList = 0 := by unfold lkE; rw [if_neg (by omega), if_neg (fun h => h hck), if_neg (by omega)]; exact ht
    have HV : Hid (one s t.data.toList = wrS s.n s.key.data.toList t.data.toList) := by rw [Hid, one_2 k]; unfold wrS; rw [if_pos hlk]
    have HO : Hid _ := vwrite_any s.n s.key t (w.alloc (.cells CS 31))
    generalize lkE s.n s.key.data.toList t.data.toList = e1 at *
    generalize lkAt s.n s.key.data.toList t.data.toList = e2 at *
    generalize wrS s.n s.key.data.toList t.data.toList = T2 at *
    generalize oneE s t.size = E at *
    generalize one s t.data.toList = T at *
    rw [k] at c0
    clear k hck hk1 hk2 h1 h4 hs ht hat hn0 hlets hmid c3 hlk
    go_enter Tryz.func39, Tryz.ntmps39
    go_wp2_with fail
    refine Calls.mono HO.out ?_
    rintro e V ⟨rfl, hb⟩
    go_wp2
    go_ret
    exact ⟨fun _ => by rw [HV.out]; rfl, fun h => absurd HE.out h, HB.out.trans (hb.mono HB.out.size)⟩
  · have HE : Hid (oneE s t.size = 0) := oneE_n (by omega) _
    have HV : Hid (one s t.data.toList = putL t.size (ordF s t.size) t.data.toList) := by rw [Hid, one_34 (.inl k), HLEN.out]
    have HO : Hid _ := ord_any _ s t.size (w.alloc (.cells CS 31)) HSQ.out hs (.inl k) hn
    have HCK : Hid (ckE t.data.toList = 0) := ht
    have HRO := HR0.out
    generalize oneE s t.size = E at *
    generalize one s t.data.toList = T at *
    rw [k] at c0
    clear k hs ht hat hn0 hlets hmid c1 c2 c3
    go_enter Tryz.func39, Tryz.ntmps39
    go_wp2_with (first | refine wpList_load_row rfl 31 _ rfl w.heap.size rfl 31 CS (0, 0) _ HRO Tryz.underlying31 rfl (by rw [HSZ.out]; exact s_info) ?_)
    refine Calls.mono HO.out ?_
    rintro e V ⟨x, d, rfl, hx, hd, hb⟩
    have HY : Hid _ := ywrite_any x t.size d t V hx
    have hfit : fitE t.size d t.data.toList = 0 := by
      unfold fitE
      rw [(ordE_zero _ _).2 (ord_good hd.1 hn), if_neg (fun h => h rfl), HCK.out, if_neg (fun h => h rfl), if_neg (fun h => h HLEN.out.symm)]
    have HV2 : Hid (T = putL t.size d t.data.toList) := by
      rw [Hid, HV.out]
      have hu := (ordF_of hd).2
      exact putL_congr _ (fun i hi => (hu i hi).symm)
    rw [hfit] at HY
    simp only [if_true] at HY
    obtain ⟨xa, xc, rfl, _⟩ := hx
    have HB2 : Hid (Below w.heap.size w V) := HB.out.trans (hb.mono HB.out.size)
    clear hd hb hfit HRO
    go_wp2_with fail
    refine Calls.mono HY.out ?_
    rintro e V2 ⟨rfl, hb2⟩
    go_wp2
    go_ret
    exact ⟨fun _ => by rw [HV2.out]; rfl, fun h => absurd HE.out h, HB2.out.trans (hb2.mono HB2.out.size)⟩
  · have HE : Hid (oneE s t.size = 0) := oneE_n (by omega) _
    have HV : Hid (one s t.data.toList = putL t.size (ordF s t.size) t.data.toList) := by rw [Hid, one_34 (.inr k), HLEN.out]
    have HO : Hid _ := ord_any _ s t.size (w.alloc (.cells CS 31)) HSQ.out hs (.inr k) hn
    have HCK : Hid (ckE t.data.toList = 0) := ht
    have HRO := HR0.out
    generalize oneE s t.size = E at *
    generalize one s t.data.toList = T at *
    rw [k] at c0
    clear k hs ht hat hn0 hlets hmid c1 c2 c3
    go_enter Tryz.func39, Tryz.ntmps39
    go_wp2_with (first | refine wpList_load_row rfl 31 _ rfl w.heap.size rfl 31 CS (0, 0) _ HRO Tryz.underlying31 rfl (by rw [HSZ.out]; exact s_info) ?_)
    refine Calls.mono HO.out ?_
    rintro e V ⟨x, d, rfl, hx, hd, hb⟩
    have HY : Hid _ := ywrite_any x t.size d t V hx
    have hfit : fitE t.size d t.data.toList = 0 := by
      unfold fitE
      rw [(ordE_zero _ _).2 (ord_good hd.1 hn), if_neg (fun h => h rfl), HCK.out, if_neg (fun h => h rfl), if_neg (fun h => h HLEN.out.symm)]
    have HV2 : Hid (T = putL t.size d t.data.toList) := by
      rw [Hid, HV.out]
      have hu := (ordF_of hd).2
      exact putL_congr _ (fun i hi => (hu i hi).symm)
    rw [hfit] at HY
    simp only [if_true] at HY
    obtain ⟨xa, xc, rfl, _⟩ := hx
    have HB2 : Hid (Below w.heap.size w V) := HB.out.trans (hb.mono HB.out.size)
    clear hd hb hfit HRO
    go_wp2_with fail
    refine Calls.mono HY.out ?_
    rintro e V2 ⟨rfl, hb2⟩
    go_wp2
    go_ret
    exact ⟨fun _ => by rw [HV2.out]; rfl, fun h => absurd HE.out h, HB2.out.trans (hb2.mono HB2.out.size)⟩
  · obtain ⟨hg, hL⟩ := (matErr_zero s.r s.L s.Z).1 (st_hill hs k)
    have hr1 := hg.pos
    have hr4 := hg.le
    by_cases hmod : t.size % s.r = 0
    · have hfull : fullL s.r t.data.toList = t.data.toList := full_selfW _ _ (by rw [HLEN.out]; exact hmod)
      have HCP : Hid _ := cp_ok am s.r capm A t (w.alloc (.cells CS 31)) hr1 hr4 hn hmod
      have HE : Hid (oneE s t.size = 0) := by rw [Hid]; unfold oneE; rw [if_neg (fun h => h.2 hmod)]
      have HV : Hid (one s t.data.toList = encL s.r s.Z t.data.toList t.data.toList.length) := one_5 k
      have HW : Hid _ := hwr_ok _ s.r s.L s.Z hg hL t hn ht hat hlets (by rw [hfull, HLEN.out]; exact hn) (w.alloc (.cells CS 31)) HM.out
      rw [hfull, ← HV.out] at HW
      generalize oneE s t.size = E at *
      generalize one s t.data.toList = T at *
      rw [k] at c0
      clear k hs ht hat hn0 hlets hmid c1 c2 hfull hg hL
      go_enter Tryz.func39, Tryz.ntmps39
      go_wp2_with fail
      refine Calls.mono HCP.out ?_
      rintro e V ⟨rfl, rfl⟩
      go_wp2_with fail
      refine Calls.mono HW.out ?_
      rintro e V ⟨rfl, hb⟩
      go_wp2
      go_ret
      exact ⟨fun _ => rfl, fun h => absurd HE.out h, HB.out.trans (hb.mono HB.out.size)⟩
    · have HE : Hid (oneE s t.size = 8) := by rw [Hid]; unfold oneE; rw [if_pos ⟨k, hmod⟩]
      have HCP : Hid _ := cp_bad am s.r capm A t (w.alloc (.cells CS 31)) hr1 hr4 hn hmod
      generalize oneE s t.size = E at *
      generalize one s t.data.toList = T at *
      rw [k] at c0
      clear k hs ht hat hn0 hlets hmid c1 c2 hg hL
      go_enter Tryz.func39, Tryz.ntmps39
      go_wp2_with fail
      refine Calls.mono HCP.out ?_
      rintro e V ⟨rfl, rfl⟩
      refine ⟨rfl, fun h => ?_, fun _ => by rw [HE.out], HB.out⟩
      rw [HE.out] at h
      cases h
  · have hg := st_rotor hs k
    have HE : Hid (oneE s t.size = 0) := oneE_n (by omega) _
    have hrw : rwE s.g t.data.toList = 0 := by unfold rwE; rw [if_neg (fun h => h hg)]; exact ht
    have HV : Hid (one s t.data.toList = rwS s.g t.data.toList) := by rw [Hid, one_6 k]; unfold rwS; rw [if_neg (fun h => h hrw)]
    have HO : Hid _ := write8_any _ s.g t (w.alloc (.cells CS 31)) HG.out
    generalize rwE s.g t.data.toList = e1 at *
    generalize rwAt s.g t.data.toList = e2 at *
    generalize rwS s.g t.data.toList = T2 at *
    generalize oneE s t.size = E at *
    generalize one s t.data.toList = T at *
    rw [k] at c0
    clear k hg hs ht hat hn0 hlets c1 c2 c3 hrw
    go_enter Tryz.func39, Tryz.ntmps39
    go_wp2_with (first | refine wpList_load_arr rfl 29 _ rfl w.heap.size 4 rfl MC _ hmid Tryz.underlying29 rfl (by rw [HMS.out]; exact s_info_mac) ?_)
    refine Calls.mono HO.out ?_
    rintro e V ⟨rfl, hb⟩
    go_wp2
    go_ret
    exact ⟨fun _ => by rw [HV.out]; rfl, fun h => absurd HE.out h, HB.out.trans (hb.mono HB.out.size)⟩
end Go.Proofs.YtkohhdkkbaifoaaGreatDoor

/-
  Contract of script.undone: a right step with a right text.
-/
namespace Go.Proofs.YtkohhdkkbaifoaaGreatDoor
open Go.RowKit PK Vg Sm

end Go.Proofs.YtkohhdkkbaifoaaGreatDoor

/-
  strings.Clone, out of the shelf.
-/
namespace Go.Proofs.YtkohhdkkbaifoaaGreatDoor
open Go.Shelf Go.RowKit

shelf_lay LaysM.n316 Nm 316 at Tryz as Tryz.laysClone
theorem fClone : Tryz.laysClone_ren.f 316 = 80 := by kernel_rfl
theorem clone0_any (s : ByteArray) (hs : s.size ≤ 65536) (w : World) : Calls Tryz.prog 80 #[.string s] w fun e w' => e = .returned (.string s) ∧ Below w.heap.size w w' := by
  have h := Any.stringslite_Clone Tryz.laysClone s w (by omega)
  rw [fClone] at h
  exact h
set_option maxRecDepth 100000 in
theorem clone_any (s : ByteArray) (hs : s.size ≤ 65536) (w : World) : Calls Tryz.prog 40 #[.string s] w fun e w' => e = .returned (.string s) ∧ Below w.heap.size w w' := by
  have HC : Hid _ := clone0_any s hs w
  go_enter Tryz.func40, Tryz.ntmps40
  go_wp2_with fail
  refine Calls.mono HC.out ?_
  rintro e V ⟨rfl, hb⟩
  go_wp2
  go_ret
  exact ⟨rfl, hb⟩
end Go.Proofs.YtkohhdkkbaifoaaGreatDoor
