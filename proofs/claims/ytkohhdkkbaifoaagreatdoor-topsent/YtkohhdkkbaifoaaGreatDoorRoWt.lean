/-
  Contract of rotor.Write.
-/
import Derived.Test.YtkohhdkkbaifoaaGreatDoorRoNe
import Derived.Test.YtkohhdkkbaifoaaGreatDoorJn23
import Derived.Test.YtkohhdkkbaifoaaGreatDoorJn22
namespace Go.Proofs.YtkohhdkkbaifoaaGreatDoor
open Go.RowKit PK Vg

theorem WtAt.grown {w W W' : World} {a b c : Value} {rf pl : Nat → Int} (h : WtAt w W a b c rf pl) {r : Option Nat} (hg : W.grownBy W' r) (hr : ∀ k, r = some k → w.heap.size + 1 < k) : WtAt w W' a b c rf pl := by
  have h1 := h.mg.row.lt
  have h2 := h.res.lt
  have hne : ∀ k, k ≤ w.heap.size + 1 → some k ≠ r := fun k hk e => by have := hr k e.symm; omega
  refine ⟨⟨(hg.block _ h1 (hne _ (by omega))).trans h.mg.row, ?_⟩, (hg.block _ h2 (hne _ (by omega))).trans h.res⟩
  exact h.mg.below.grown hg (by omega) (fun k hk => by have := hr k hk; omega)
set_option maxRecDepth 100000 in
set_option maxHeartbeats 2000000 in
theorem wt_bad (a b c : Value) (rf pl : Nat → Int) (t : ByteArray) (E : Int) (hE : (E != 0) = true) (w : World) (HW : Hid (∀ W, Below w.heap.size w W → Calls Tryz.prog 131 #[.agg (mac a b c rf pl)] W fun e w' => e = .returned (.tuple #[.pointer none, .int .i64 E]) ∧ Below W.heap.size W w')) : Calls Tryz.prog 79 #[.agg (mac a b c rf pl), .string t] w fun e w' => e = .returned (.tuple #[.string ByteArray.empty, .agg #[.int .i64 E, .int .i64 0]]) ∧ Below w.heap.size w w' := by
  have h0 := WtAt.new w a b c rf pl
  go_enter Tryz.func79, Tryz.ntmps79
  go_wp2_with (first | refine wpList_load_row rfl 29 _ rfl w.heap.size rfl 29 (mac a b c rf pl) (0, 0) _ h0.load Tryz.underlying29 rfl (by rw [mac_size]; exact v_info_mac) ?_)
  refine (HW.out _ h0.mg.below).mono ?_
  rintro e W1 ⟨rfl, hb⟩
  have h1 := h0.step hb
  have c0 := h1.res.cell (i := 0) rfl
  have c1 := h1.res.cell (i := 1) rfl
  have f0 := h1.res.frozen 0
  have f1 := h1.res.frozen 1
  clear hb h0 HW
  go_wp2
  have q := Kit.read_two (.int .i64 E) (.int .i64 0) c0 c1
  exact bodyPost_ret (v := .tuple #[.string ByteArray.empty, .agg #[.int .i64 E, .int .i64 0]]) (by simp [results, Tryz.results79, go_sem, q.1, q.2]; rfl) rfl ⟨rfl, h1.done _ _⟩
set_option maxRecDepth 100000 in
set_option maxHeartbeats 2000000 in
theorem wt_text (a b c : Value) (rf pl : Nat → Int) (t : ByteArray) (E A : Int) (hE : (E != 0) = true) (w : World) (HW : Hid (∀ W, Below w.heap.size w W → Calls Tryz.prog 131 #[.agg (mac a b c rf pl)] W fun e w' => ∃ q, e = .returned (.tuple #[.pointer (some ⟨q, 0, none⟩), .int .i64 0]) ∧ Below W.heap.size W w')) (HT : Hid (∀ W, Calls Tryz.prog 38 #[.string t] W fun e w' => e = .returned (.agg #[.int .i64 E, .int .i64 A]) ∧ Below W.heap.size W w')) : Calls Tryz.prog 79 #[.agg (mac a b c rf pl), .string t] w fun e w' => e = .returned (.tuple #[.string ByteArray.empty, .agg #[.int .i64 E, .int .i64 A]]) ∧ Below w.heap.size w w' := by
  have h0 := WtAt.new w a b c rf pl
  go_enter Tryz.func79, Tryz.ntmps79
  go_wp2_with (first | refine wpList_load_row rfl 29 _ rfl w.heap.size rfl 29 (mac a b c rf pl) (0, 0) _ h0.load Tryz.underlying29 rfl (by rw [mac_size]; exact v_info_mac) ?_)
  refine (HW.out _ h0.mg.below).mono ?_
  rintro e W1 ⟨q, rfl, hb⟩
  have h1 := h0.step hb
  clear hb h0 HW
  go_wp2_with fail
  refine (HT.out _).mono ?_
  rintro e W2 ⟨rfl, hb⟩
  have h2 := (h1.step hb).alloc (.cells #[.int .i64 E, .int .i64 A] 35)
  have c0 := h2.res.cell (i := 0) rfl
  have c1 := h2.res.cell (i := 1) rfl
  have f0 := h2.res.frozen 0
  have f1 := h2.res.frozen 1
  clear hb h1 HT
  go_wp2_with fail
  go_region
  all_goals (try go_wp2)
  have q := Kit.read_two (.int .i64 E) (.int .i64 A) c0 c1
  exact bodyPost_ret (v := .tuple #[.string ByteArray.empty, .agg #[.int .i64 E, .int .i64 A]]) (by simp [results, Tryz.results79, go_sem, q.1, q.2]; rfl) rfl ⟨rfl, (h2.done _ _).drew⟩
/-- What is held in the loop. -/
structure WmAt (w W : World) (a b c : Value) (rf pl : Nat → Int) (q : Nat) (M : Om.Ma) (at' : Nat → Nat) (B : Nat) (v9 : Value) (l : List UInt8) : Prop where
  wt : WtAt w W a b c rf pl
  rot : RotAt W q M at'
  q1 : w.heap.size + 1 < q
  q2 : q < B
  own : Kit.Owns W B 5 v9 l
  sz : B ≤ W.heap.size
section
variable {w W W' : World} {a b c : Value} {rf pl : Nat → Int} {q : Nat} {M : Om.Ma} {at' at2 : Nat → Nat} {B : Nat} {v9 : Value} {l : List UInt8}
theorem WmAt.step (h : WmAt w W a b c rf pl q M at' B v9 l) (hb : Below W.heap.size W W') : WmAt w W' a b c rf pl q M at' B v9 l := ⟨h.wt.step hb, h.rot.below hb, h.q1, h.q2, own_byte h.own hb, Nat.le_trans h.sz hb.size⟩
theorem WmAt.turned (h : WmAt w W a b c rf pl q M at' B v9 l) (hr : RotAt W' q M at2) (hg : W.grownBy W' (some q)) : WmAt w W' a b c rf pl q M at2 B v9 l := by
  refine ⟨h.wt.grown hg (fun k hk => by cases hk; exact h.q1), hr, h.q1, h.q2, World.ownsRow.kept h.own hg ?_, Nat.le_trans h.sz hg.size⟩
  cases hv : v9.ownBlock with
  | none => exact .inl rfl
  | some k =>
    refine .inr (fun e => ?_)
    have h1 := (World.ownsRow.lt h.own k hv).1
    have h2 := h.q2
    cases e
    omega
end
set_option maxRecDepth 100000 in
set_option maxHeartbeats 4000000 in
theorem wt_ok (M : Om.Ma) (hM : Om.Ok M) (a b c : Value) (rf pl : Nat → Int) (t : ByteArray) (ht : Ls t.data.toList) (hs : t.size ≤ 65536) (w : World) (HW : Hid (∀ W, Below w.heap.size w W → Calls Tryz.prog 131 #[.agg (mac a b c rf pl)] W fun e w' => ∃ q, e = .returned (.tuple #[.pointer (some ⟨q, 0, none⟩), .int .i64 0]) ∧ W.heap.size ≤ q ∧ RotAt w' q M M.st ∧ Below W.heap.size W w')) (HT : Hid (∀ W, Calls Tryz.prog 38 #[.string t] W fun e w' => e = .returned (.agg #[.int .i64 0, .int .i64 0]) ∧ Below W.heap.size W w')) : Calls Tryz.prog 79 #[.agg (mac a b c rf pl), .string t] w fun e w' => e = .returned (.tuple #[.string ⟨(Om.wr M M.st t.data.toList).toArray⟩, .agg #[.int .i64 0, .int .i64 0]]) ∧ Below w.heap.size w w' := by
  obtain ⟨i0, hi0, hz0, hz1, hz2⟩ := x_info_parts v_info_byte
  have HNP := (show Hid (∀ k c, c < 26 → Om.now M (Om.steps M M.st k) c < 26) from fun k c hc => (Om.now_perm hM _).lt c hc)
  have h0 := WtAt.new w a b c rf pl
  clear hM
  go_enter Tryz.func79, Tryz.ntmps79
  go_wp2_with (first | refine wpList_load_row rfl 29 _ rfl w.heap.size rfl 29 (mac a b c rf pl) (0, 0) _ h0.load Tryz.underlying29 rfl (by rw [mac_size]; exact v_info_mac) ?_)
  refine (HW.out _ h0.mg.below).mono ?_
  rintro e W1 ⟨q, rfl, hq, hrot, hb⟩
  have h1 := h0.step hb
  have hq1 : w.heap.size + 1 < q := by have := h0.res.lt; omega
  clear hb h0 HW hq
  go_wp2_with fail
  refine (HT.out _).mono ?_
  rintro e W2 ⟨rfl, hb⟩
  have h2 := (h1.step hb).alloc (.cells #[.int .i64 0, .int .i64 0] 35)
  have hrot2 := (hrot.below hb).alloc (.cells #[.int .i64 0, .int .i64 0] 35)
  clear hb h1 HT hrot
  obtain ⟨V, hV⟩ : ∃ V, V = W2.alloc (.cells #[.int .i64 0, .int .i64 0] 35) := ⟨_, rfl⟩
  rw [← hV] at h2 hrot2
  have hqV := hrot2.row.lt
  go_wp2_with (first | (at_make; rw [← hV]; refine wpList_make_own _ rfl _ _ 87 rfl V.heap.size 5 i0 (.int .u8 0) 1 Tryz.underlying87 hi0 hz0 hz1 _ _ _ t.size rfl rfl rfl (by rw [hz2]; omega) (by unfold maxLen; omega) (Nat.le_refl _) ?_; intro w1 hown1 hgrow1))
  have hbn : Below V.heap.size V w1 := ⟨hgrow1.os, hgrow1.tape, hgrow1.output, hgrow1.size, fun k hk => hgrow1.block k hk (by simp)⟩
  have hg0 : WmAt w w1 a b c rf pl q M (Om.steps M M.st 0) V.heap.size _ (Om.wr M M.st (t.data.toList.take 0)) := ⟨h2.step hbn, hrot2.below hbn, hq1, hqV, hown1, hgrow1.size⟩
  have hB : V.heap.size = W2.heap.size + 1 := by rw [hV]; simp
  rw [hB] at hg0
  clear hB hbn hown1 hgrow1 hqV hrot2 h2 hq1 hV
  go_loopw [31, 9] (fun i y W => ∃ (k : Nat) (v9 : Value), k ≤ t.size ∧ i = .int .i64 (k : Nat) ∧ v9 = y ∧ WmAt w W a b c rf pl q M (Om.steps M M.st k) (W2.heap.size + 1) v9 (Om.wr M M.st (t.data.toList.take k))) (fun i _ _ => ((t.size : Int) - intOf i).toNat)
  case atStart => exact ⟨0, _, by omega, rfl, rfl, hg0⟩
  case round =>
    clear hg0
    obtain ⟨k, v9, hk, rfl, rfl, hg⟩ := hrel
    by_cases hlt : k < t.size
    · have hlt2 : (k : Int) < (t.size : Int) := by omega
      have hxl := ht.at (getD_size hlt)
      have hnum := num_lt hxl
      have hby : t[k] = t.data.toList.getD k 0 := (getD_byte t k hlt).symm
      have HWT := (show Hid _ from wr_take (M := M) (getD_size hlt) M.st)
      have HNB := (show Hid _ from HNP.out (k + 1) _ hnum)
      have HSTK := (show Hid (Om.step M (Om.steps M M.st k) = Om.steps M M.st (k + 1)) from rfl)
      have HLL : Hid ((Om.wr M M.st (t.data.toList.take k)).length ≤ k) := by rw [Hid, Om.wr_length, List.length_take]; omega
      generalize t.data.toList.getD k 0 = x at *
      go_wp2_with fail
      refine (step_any q M _ _ hg.rot).mono ?_
      rintro e W3 ⟨rfl, hr, hgr⟩
      rw [HSTK.out] at hr
      have hg2 := hg.turned hr hgr
      clear hr hgr hg
      go_wp2_with fail
      refine (number_any x hxl _).mono ?_
      rintro e W4 ⟨rfl, rfl⟩
      clear hby
      go_wp2_with fail
      refine (becomes_any q M _ (Vg.num x) hnum _ hg2.rot).mono ?_
      rintro e W4 ⟨rfl, hb⟩
      have hg3 := hg2.step hb
      clear hb hg2
      obtain ⟨z, hz⟩ : ∃ z, z = Om.now M (Om.steps M M.st (k + 1)) (Vg.num x) := ⟨_, rfl⟩
      rw [← hz] at HNB HWT ⊢
      clear hz
      go_wp2_with fail
      refine (letter_any z HNB.out _).mono ?_
      rintro e W5 ⟨rfl, rfl⟩
      have hlt4 := hg3.rot.row.lt
      have hq2 := hg3.q2
      have hsz2 := hg3.sz
      go_wp2_with (first | (at_builtin; refine wpList_append_own _ rfl _ _ 87 rfl (W2.heap.size + 1) 5 i0 (.int .u8 0) 1 1 Tryz.underlying87 hi0 hz0 hz1 hz2 rfl (by decide) _ _ _ rfl (World.ownsRow.alloc hg3.own _) ⟨W4.heap.size, 0, none⟩ 1 1 [.int .u8 ((ltr z).toNat : Int)] rfl rfl (cell_one_new _ _ _) (fun u hu => by simp at hu; subst hu; rfl) (by have := HLL.out; unfold maxLen; omega) (by have := HLL.out; omega) (by simp; omega) ?_; intro v5 w5 hown5 hgrow5 _))
      have HG4 : WmAt w w5 a b c rf pl q M (Om.steps M M.st (k + 1)) (W2.heap.size + 1) v5 (Om.wr M M.st (t.data.toList.take (k + 1))) := by
        have hlo : ∀ k, v9.ownBlock = some k → W2.heap.size + 1 ≤ k := fun k hk => (World.ownsRow.lt hg3.own k hk).1
        have hq := hg3.q1
        have hal := hg3.wt.alloc (.cells #[.int .u8 ((ltr z).toNat : Int)] 5)
        have har := hg3.rot.alloc (.cells #[.int .u8 ((ltr z).toNat : Int)] 5)
        refine ⟨hal.grown hgrow5 (fun k hk => by have := hlo k hk; omega), ⟨(hgrow5.block q har.row.lt (fun e => by have := hlo q e.symm; omega)).trans har.row, har.ok, har.ins⟩, hq, hq2, ?_, by have := hgrow5.size; simp at this; omega⟩
        rw [HWT.out]
        unfold Kit.Owns
        rw [← v_cells_byte, List.length_append]
        exact hown5
      clear hg3 hown5 hgrow5
      go_roundw
      case rel => exact ⟨k + 1, v5, by omega, by go_num, rfl, HG4⟩
      case measure => simp [intOf]; omega
    · obtain rfl : k = t.size := by omega
      have hnlt : ¬ (t.size : Int) < (t.size : Int) := by omega
      have hown := hg.own
      rw [Pl.size_len, List.take_length] at hown
      have hst := Kit.run_string_of_own (P := Tryz.prog) wr 87 9 5 Tryz.underlying87 Tryz.underlying5 Tryz.underlying9 hown
      have c0 := hg.wt.res.cell (i := 0) rfl
      have c1 := hg.wt.res.cell (i := 1) rfl
      have f0 := hg.wt.res.frozen 0
      have f1 := hg.wt.res.frozen 1
      have hwt := hg.wt
      clear hown hg
      go_wp2
      have q := Kit.read_two (.int .i64 0) (.int .i64 0) c0 c1
      exact bodyPost_ret (v := .tuple #[.string ⟨(Om.wr M M.st t.data.toList).toArray⟩, .agg #[.int .i64 0, .int .i64 0]]) (by simp [results, Tryz.results79, go_sem, q.1, q.2]) rfl ⟨rfl, hwt.done _ _⟩
theorem write8_any (vm : Value) (g : Gm) (t : ByteArray) (w : World) (hm : MacAt w vm g) : Calls Tryz.prog 79 #[vm, .string t] w fun e w' => e = .returned (.tuple #[.string ⟨(rwS g t.data.toList).toArray⟩, .agg #[.int .i64 (rwE g t.data.toList), .int .i64 (rwAt g t.data.toList)]]) ∧ Below w.heap.size w w' := by
  have HN := fun W (hb : Below w.heap.size w W) => new_any vm g W (hm.below hb)
  unfold rwS
  by_cases hg : gE g = 0
  · have HG : ∀ W, Below w.heap.size w W → Calls Tryz.prog 131 #[vm] W fun e w' => ∃ q, e = .returned (.tuple #[.pointer (some ⟨q, 0, none⟩), .int .i64 0]) ∧ W.heap.size ≤ q ∧ RotAt w' q (maOf g) (maOf g).st ∧ Below W.heap.size W w' := fun W hb => (HN W hb).mono (by
      rintro e w' (⟨h1, _⟩ | ⟨_, h2⟩)
      · exact absurd hg h1
      · exact h2)
    have e : rwE g t.data.toList = ckE t.data.toList := by unfold rwE; rw [if_neg (fun h => h hg)]
    have e' : rwAt g t.data.toList = ckAt t.data.toList := by unfold rwAt; rw [if_neg (fun h => h hg)]
    rcases ck_cases t.data.toList with ⟨e1, e2, e3, e4⟩ | e1
    · obtain ⟨hM, _⟩ := ok_maOf hg
      obtain ⟨a, b, c, rfl, _⟩ := hm
      rw [e, e', e1, e2, if_neg (by decide)]
      exact wt_ok _ hM a b c g.rf g.pl t (ls_of e4) (by rw [Pl.size_len]; exact e3) w HG (fun W => by have := check_all t W; rw [e1, e2] at this; exact this)
    · obtain ⟨a, b, c, rfl, _⟩ := hm
      rw [e, e', if_pos (by simpa using e1)]
      exact wt_text a b c g.rf g.pl t _ _ e1 w (fun W hb => (HG W hb).mono (by rintro e w' ⟨q, h1, _, _, h2⟩; exact ⟨q, h1, h2⟩)) (fun W => check_all t W)
  · have e : rwE g t.data.toList = gE g := by unfold rwE; rw [if_pos hg]
    have e' : rwAt g t.data.toList = 0 := by unfold rwAt; rw [if_pos hg]
    obtain ⟨a, b, c, rfl, _⟩ := hm
    rw [e, e', if_pos hg]
    exact wt_bad a b c g.rf g.pl t _ (by simpa using hg) w (fun W hb => (HN W hb).mono (by
      rintro e w' (⟨_, h2⟩ | ⟨h1, _⟩)
      · exact h2
      · exact absurd h1 hg))
end Go.Proofs.YtkohhdkkbaifoaaGreatDoor
