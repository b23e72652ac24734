/-
  Several texts, joined: RoWt, ChLk, ChSg, OGo, ChDo, KSig, LBCo, FhM.
-/
import Derived.Test.YtbbpbcmpemmgjaaRoNe
import Derived.Test.YtbbpbcmpemmgjaaJn22
import Derived.Test.YtbbpbcmpemmgjaaJn21
import Derived.Test.YtbbpbcmpemmgjaaJn23
import Derived.Test.YtbbpbcmpemmgjaaJn17
import Derived.Deep.QuietTactic
import Derived.BigQuiet
import Derived.Test.YtbbpbcmpemmgjaaJn35
import Derived.Test.YtbbpbcmpemmgjaaJn24
/-
  Contract of rotor.Write.
-/
namespace Go.Proofs.Ytbbpbcmpemmgjaa
open Go.RowKit PK Vg

theorem WtAt.grown {w W W' : World} {a b c : Value} {rf pl : Nat → Int} (h : WtAt w W a b c rf pl) {r : Option Nat} (hg : W.grownBy W' r) (hr : ∀ k, r = some k → w.heap.size + 1 < k) : WtAt w W' a b c rf pl := by
  have h1 := h.mg.row.lt
  have h2 := h.res.lt
  have hne : ∀ k, k ≤ w.heap.size + 1 → some k ≠ r := fun k hk e => by have := hr k e.symm; omega
  refine ⟨⟨(hg.block _ h1 (hne _ (by omega))).trans h.mg.row, ?_⟩, (hg.block _ h2 (hne _ (by omega))).trans h.res⟩
  exact h.mg.below.grown hg (by omega) (fun k hk => by have := hr k hk; omega)
set_option maxRecDepth 100000 in
set_option maxHeartbeats 2000000 in
theorem wt_bad (a b c : Value) (rf pl : Nat → Int) (t : ByteArray) (E : Int) (hE : (E != 0) = true) (w : World) (HW : Hid (∀ W, Below w.heap.size w W → Calls Try.prog 40 #[.agg (mac a b c rf pl)] W fun e w' => e = .returned (.tuple #[.pointer none, .int .i64 E]) ∧ Below W.heap.size W w')) : Calls Try.prog 17 #[.agg (mac a b c rf pl), .string t] w fun e w' => e = .returned (.tuple #[.string ByteArray.empty, .agg #[.int .i64 E, .int .i64 0]]) ∧ Below w.heap.size w w' := by
  have h0 := WtAt.new w a b c rf pl
  go_enter Try.func17, Try.ntmps17
  go_wp2_with (first | refine wpList_load_row rfl 27 _ rfl w.heap.size rfl 27 (mac a b c rf pl) (0, 0) _ h0.load Try.underlying27 rfl (by rw [mac_size]; exact v_info_mac) ?_)
  refine (HW.out _ h0.mg.below).mono ?_
  rintro e W1 ⟨rfl, hb⟩
  have h1 := h0.step hb
  have c0 := h1.res.cell (i := 0) rfl
  have c1 := h1.res.cell (i := 1) rfl
  have f0 := h1.res.frozen 0
  have f1 := h1.res.frozen 1
  clear hb h0 HW
  go_wp2
  have q := Kit.read_two (.int .i64 E) (.int .i64 0) c0 c1
  exact bodyPost_ret (v := .tuple #[.string ByteArray.empty, .agg #[.int .i64 E, .int .i64 0]]) (by simp [results, Try.results17, go_sem, q.1, q.2]; rfl) rfl ⟨rfl, h1.done _ _⟩
set_option maxRecDepth 100000 in
set_option maxHeartbeats 2000000 in
theorem wt_text (a b c : Value) (rf pl : Nat → Int) (t : ByteArray) (E A : Int) (hE : (E != 0) = true) (w : World) (HW : Hid (∀ W, Below w.heap.size w W → Calls Try.prog 40 #[.agg (mac a b c rf pl)] W fun e w' => ∃ q, e = .returned (.tuple #[.pointer (some ⟨q, 0, none⟩), .int .i64 0]) ∧ Below W.heap.size W w')) (HT : Hid (∀ W, Calls Try.prog 41 #[.string t] W fun e w' => e = .returned (.agg #[.int .i64 E, .int .i64 A]) ∧ Below W.heap.size W w')) : Calls Try.prog 17 #[.agg (mac a b c rf pl), .string t] w fun e w' => e = .returned (.tuple #[.string ByteArray.empty, .agg #[.int .i64 E, .int .i64 A]]) ∧ Below w.heap.size w w' := by
  have h0 := WtAt.new w a b c rf pl
  go_enter Try.func17, Try.ntmps17
  go_wp2_with (first | refine wpList_load_row rfl 27 _ rfl w.heap.size rfl 27 (mac a b c rf pl) (0, 0) _ h0.load Try.underlying27 rfl (by rw [mac_size]; exact v_info_mac) ?_)
  refine (HW.out _ h0.mg.below).mono ?_
  rintro e W1 ⟨q, rfl, hb⟩
  have h1 := h0.step hb
  clear hb h0 HW
  go_wp2_with fail
  refine (HT.out _).mono ?_
  rintro e W2 ⟨rfl, hb⟩
  have h2 := (h1.step hb).alloc (.cells #[.int .i64 E, .int .i64 A] 46)
  have c0 := h2.res.cell (i := 0) rfl
  have c1 := h2.res.cell (i := 1) rfl
  have f0 := h2.res.frozen 0
  have f1 := h2.res.frozen 1
  clear hb h1 HT
  go_wp2_with fail
  go_region
  all_goals (try go_wp2)
  have q := Kit.read_two (.int .i64 E) (.int .i64 A) c0 c1
  exact bodyPost_ret (v := .tuple #[.string ByteArray.empty, .agg #[.int .i64 E, .int .i64 A]]) (by simp [results, Try.results17, go_sem, q.1, q.2]; rfl) rfl ⟨rfl, (h2.done _ _).drew⟩
/-- What is held in the loop. -/
structure WmAt (w W : World) (a b c : Value) (rf pl : Nat → Int) (q : Nat) (M : Om.Ma) (at' : Nat → Nat) (B : Nat) (v9 : Value) (l : List UInt8) : Prop where
  wt : WtAt w W a b c rf pl
  rot : RotAt W q M at'
  q1 : w.heap.size + 1 < q
  q2 : q < B
  own : Kit.Owns W B 5 v9 l
  sz : B ≤ W.heap.size
section
variable {w W W' : World} {a b c : Value} {rf pl : Nat → Int} {q : Nat} {M : Om.Ma} {at' at2 : Nat → Nat} {B : Nat} {v9 : Value} {l : List UInt8}
theorem WmAt.step (h : WmAt w W a b c rf pl q M at' B v9 l) (hb : Below W.heap.size W W') : WmAt w W' a b c rf pl q M at' B v9 l := ⟨h.wt.step hb, h.rot.below hb, h.q1, h.q2, own_byte h.own hb, Nat.le_trans h.sz hb.size⟩
theorem WmAt.turned (h : WmAt w W a b c rf pl q M at' B v9 l) (hr : RotAt W' q M at2) (hg : W.grownBy W' (some q)) : WmAt w W' a b c rf pl q M at2 B v9 l := by
  refine ⟨h.wt.grown hg (fun k hk => by cases hk; exact h.q1), hr, h.q1, h.q2, World.ownsRow.kept h.own hg ?_, Nat.le_trans h.sz hg.size⟩
  cases hv : v9.ownBlock with
  | none => exact .inl rfl
  | some k =>
    refine .inr (fun e => ?_)
    have h1 := (World.ownsRow.lt h.own k hv).1
    have h2 := h.q2
    cases e
    omega
end
set_option maxRecDepth 100000 in
set_option maxHeartbeats 4000000 in
theorem wt_ok (M : Om.Ma) (hM : Om.Ok M) (a b c : Value) (rf pl : Nat → Int) (t : ByteArray) (ht : Ls t.data.toList) (hs : t.size ≤ 65536) (w : World) (HW : Hid (∀ W, Below w.heap.size w W → Calls Try.prog 40 #[.agg (mac a b c rf pl)] W fun e w' => ∃ q, e = .returned (.tuple #[.pointer (some ⟨q, 0, none⟩), .int .i64 0]) ∧ W.heap.size ≤ q ∧ RotAt w' q M M.st ∧ Below W.heap.size W w')) (HT : Hid (∀ W, Calls Try.prog 41 #[.string t] W fun e w' => e = .returned (.agg #[.int .i64 0, .int .i64 0]) ∧ Below W.heap.size W w')) : Calls Try.prog 17 #[.agg (mac a b c rf pl), .string t] w fun e w' => e = .returned (.tuple #[.string ⟨(Om.wr M M.st t.data.toList).toArray⟩, .agg #[.int .i64 0, .int .i64 0]]) ∧ Below w.heap.size w w' := by
  obtain ⟨i0, hi0, hz0, hz1, hz2⟩ := x_info_parts v_info_byte
  have HNP := (show Hid (∀ k c, c < 26 → Om.now M (Om.steps M M.st k) c < 26) from fun k c hc => (Om.now_perm hM _).lt c hc)
  have h0 := WtAt.new w a b c rf pl
  clear hM
  go_enter Try.func17, Try.ntmps17
  go_wp2_with (first | refine wpList_load_row rfl 27 _ rfl w.heap.size rfl 27 (mac a b c rf pl) (0, 0) _ h0.load Try.underlying27 rfl (by rw [mac_size]; exact v_info_mac) ?_)
  refine (HW.out _ h0.mg.below).mono ?_
  rintro e W1 ⟨q, rfl, hq, hrot, hb⟩
  have h1 := h0.step hb
  have hq1 : w.heap.size + 1 < q := by have := h0.res.lt; omega
  clear hb h0 HW hq
  go_wp2_with fail
  refine (HT.out _).mono ?_
  rintro e W2 ⟨rfl, hb⟩
  have h2 := (h1.step hb).alloc (.cells #[.int .i64 0, .int .i64 0] 46)
  have hrot2 := (hrot.below hb).alloc (.cells #[.int .i64 0, .int .i64 0] 46)
  clear hb h1 HT hrot
  obtain ⟨V, hV⟩ : ∃ V, V = W2.alloc (.cells #[.int .i64 0, .int .i64 0] 46) := ⟨_, rfl⟩
  rw [← hV] at h2 hrot2
  have hqV := hrot2.row.lt
  go_wp2_with (first | (at_make; rw [← hV]; refine wpList_make_own _ rfl _ _ 88 rfl V.heap.size 5 i0 (.int .u8 0) 1 Try.underlying88 hi0 hz0 hz1 _ _ _ t.size rfl rfl rfl (by rw [hz2]; omega) (by unfold maxLen; omega) (Nat.le_refl _) ?_; intro w1 hown1 hgrow1))
  have hbn : Below V.heap.size V w1 := ⟨hgrow1.os, hgrow1.tape, hgrow1.output, hgrow1.size, fun k hk => hgrow1.block k hk (by simp)⟩
  have hg0 : WmAt w w1 a b c rf pl q M (Om.steps M M.st 0) V.heap.size _ (Om.wr M M.st (t.data.toList.take 0)) := ⟨h2.step hbn, hrot2.below hbn, hq1, hqV, hown1, hgrow1.size⟩
  have hB : V.heap.size = W2.heap.size + 1 := by rw [hV]; simp
  rw [hB] at hg0
  clear hB hbn hown1 hgrow1 hqV hrot2 h2 hq1 hV
  go_loopw [31, 9] (fun i y W => ∃ (k : Nat) (v9 : Value), k ≤ t.size ∧ i = .int .i64 (k : Nat) ∧ v9 = y ∧ WmAt w W a b c rf pl q M (Om.steps M M.st k) (W2.heap.size + 1) v9 (Om.wr M M.st (t.data.toList.take k))) (fun i _ _ => ((t.size : Int) - intOf i).toNat)
  case atStart => exact ⟨0, _, by omega, rfl, rfl, hg0⟩
  case round =>
    clear hg0
    obtain ⟨k, v9, hk, rfl, rfl, hg⟩ := hrel
    by_cases hlt : k < t.size
    · have hlt2 : (k : Int) < (t.size : Int) := by omega
      have hxl := ht.at (getD_size hlt)
      have hnum := num_lt hxl
      have hby : t[k] = t.data.toList.getD k 0 := (getD_byte t k hlt).symm
      have HWT := (show Hid _ from wr_take (M := M) (getD_size hlt) M.st)
      have HNB := (show Hid _ from HNP.out (k + 1) _ hnum)
      have HSTK := (show Hid (Om.step M (Om.steps M M.st k) = Om.steps M M.st (k + 1)) from rfl)
      have HLL : Hid ((Om.wr M M.st (t.data.toList.take k)).length ≤ k) := by rw [Hid, Om.wr_length, List.length_take]; omega
      generalize t.data.toList.getD k 0 = x at *
      go_wp2_with fail
      refine (step_any q M _ _ hg.rot).mono ?_
      rintro e W3 ⟨rfl, hr, hgr⟩
      rw [HSTK.out] at hr
      have hg2 := hg.turned hr hgr
      clear hr hgr hg
      go_wp2_with fail
      refine (number_any x hxl _).mono ?_
      rintro e W4 ⟨rfl, rfl⟩
      clear hby
      go_wp2_with fail
      refine (becomes_any q M _ (num x) hnum _ hg2.rot).mono ?_
      rintro e W4 ⟨rfl, hb⟩
      have hg3 := hg2.step hb
      clear hb hg2
      obtain ⟨z, hz⟩ : ∃ z, z = Om.now M (Om.steps M M.st (k + 1)) (num x) := ⟨_, rfl⟩
      rw [← hz] at HNB HWT ⊢
      clear hz
      go_wp2_with fail
      refine (letter_any z HNB.out _).mono ?_
      rintro e W5 ⟨rfl, rfl⟩
      have hlt4 := hg3.rot.row.lt
      have hq2 := hg3.q2
      have hsz2 := hg3.sz
      go_wp2_with (first | (at_builtin; refine wpList_append_own _ rfl _ _ 88 rfl (W2.heap.size + 1) 5 i0 (.int .u8 0) 1 1 Try.underlying88 hi0 hz0 hz1 hz2 rfl (by decide) _ _ _ rfl (World.ownsRow.alloc hg3.own _) ⟨W4.heap.size, 0, none⟩ 1 1 [.int .u8 ((ltr z).toNat : Int)] rfl rfl (cell_one_new _ _ _) (fun u hu => by simp at hu; subst hu; rfl) (by have := HLL.out; unfold maxLen; omega) (by have := HLL.out; omega) (by simp; omega) ?_; intro v5 w5 hown5 hgrow5 _))
      have HG4 : WmAt w w5 a b c rf pl q M (Om.steps M M.st (k + 1)) (W2.heap.size + 1) v5 (Om.wr M M.st (t.data.toList.take (k + 1))) := by
        have hlo : ∀ k, v9.ownBlock = some k → W2.heap.size + 1 ≤ k := fun k hk => (World.ownsRow.lt hg3.own k hk).1
        have hq := hg3.q1
        have hal := hg3.wt.alloc (.cells #[.int .u8 ((ltr z).toNat : Int)] 5)
        have har := hg3.rot.alloc (.cells #[.int .u8 ((ltr z).toNat : Int)] 5)
        refine ⟨hal.grown hgrow5 (fun k hk => by have := hlo k hk; omega), ⟨(hgrow5.block q har.row.lt (fun e => by have := hlo q e.symm; omega)).trans har.row, har.ok, har.ins⟩, hq, hq2, ?_, by have := hgrow5.size; simp at this; omega⟩
        rw [HWT.out]
        unfold Kit.Owns
        rw [← v_cells_byte, List.length_append]
        exact hown5
      clear hg3 hown5 hgrow5
      go_roundw
      case rel => exact ⟨k + 1, v5, by omega, by go_num, rfl, HG4⟩
      case measure => simp [intOf]; omega
    · obtain rfl : k = t.size := by omega
      have hnlt : ¬ (t.size : Int) < (t.size : Int) := by omega
      have hown := hg.own
      rw [Pl.size_len, List.take_length] at hown
      have hst := Kit.run_string_of_own (P := Try.prog) wr 88 9 5 Try.underlying88 Try.underlying5 Try.underlying9 hown
      have c0 := hg.wt.res.cell (i := 0) rfl
      have c1 := hg.wt.res.cell (i := 1) rfl
      have f0 := hg.wt.res.frozen 0
      have f1 := hg.wt.res.frozen 1
      have hwt := hg.wt
      clear hown hg
      go_wp2
      have q := Kit.read_two (.int .i64 0) (.int .i64 0) c0 c1
      exact bodyPost_ret (v := .tuple #[.string ⟨(Om.wr M M.st t.data.toList).toArray⟩, .agg #[.int .i64 0, .int .i64 0]]) (by simp [results, Try.results17, go_sem, q.1, q.2]) rfl ⟨rfl, hwt.done _ _⟩
theorem write8_any (vm : Value) (g : Gm) (t : ByteArray) (w : World) (hm : MacAt w vm g) : Calls Try.prog 17 #[vm, .string t] w fun e w' => e = .returned (.tuple #[.string ⟨(rwS g t.data.toList).toArray⟩, .agg #[.int .i64 (rwE g t.data.toList), .int .i64 (rwAt g t.data.toList)]]) ∧ Below w.heap.size w w' := by
  have HN := fun W (hb : Below w.heap.size w W) => new_any vm g W (hm.below hb)
  unfold rwS
  by_cases hg : gE g = 0
  · have HG : ∀ W, Below w.heap.size w W → Calls Try.prog 40 #[vm] W fun e w' => ∃ q, e = .returned (.tuple #[.pointer (some ⟨q, 0, none⟩), .int .i64 0]) ∧ W.heap.size ≤ q ∧ RotAt w' q (maOf g) (maOf g).st ∧ Below W.heap.size W w' := fun W hb => (HN W hb).mono (by
      rintro e w' (⟨h1, _⟩ | ⟨_, h2⟩)
      · exact absurd hg h1
      · exact h2)
    have e : rwE g t.data.toList = ckE t.data.toList := by unfold rwE; rw [if_neg (fun h => h hg)]
    have e' : rwAt g t.data.toList = ckAt t.data.toList := by unfold rwAt; rw [if_neg (fun h => h hg)]
    rcases ck_cases t.data.toList with ⟨e1, e2, e3, e4⟩ | e1
    · obtain ⟨hM, _⟩ := ok_maOf hg
      obtain ⟨a, b, c, rfl, _⟩ := hm
      rw [e, e', e1, e2, if_neg (by decide)]
      exact wt_ok _ hM a b c g.rf g.pl t (ls_of e4) (by rw [Pl.size_len]; exact e3) w HG (fun W => by have := check_all t W; rw [e1, e2] at this; exact this)
    · obtain ⟨a, b, c, rfl, _⟩ := hm
      rw [e, e', if_pos (by simpa using e1)]
      exact wt_text a b c g.rf g.pl t _ _ e1 w (fun W hb => (HG W hb).mono (by rintro e w' ⟨q, h1, _, _, h2⟩; exact ⟨q, h1, h2⟩)) (fun W => check_all t W)
  · have e : rwE g t.data.toList = gE g := by unfold rwE; rw [if_pos hg]
    have e' : rwAt g t.data.toList = 0 := by unfold rwAt; rw [if_pos hg]
    obtain ⟨a, b, c, rfl, _⟩ := hm
    rw [e, e', if_pos hg]
    exact wt_bad a b c g.rf g.pl t _ (by simpa using hg) w (fun W hb => (HN W hb).mono (by
      rintro e w' (⟨_, h2⟩ | ⟨h1, _⟩)
      · exact h2
      · exact absurd h1 hg))
end Go.Proofs.Ytbbpbcmpemmgjaa

/-
  Contracts of chart.signalWrong and chart.linked.
-/
namespace Go.Proofs.Ytbbpbcmpemmgjaa
open Go.RowKit PK Vg

section
variable {w W W' : World} {f g : Nat → Int}
end
end Go.Proofs.Ytbbpbcmpemmgjaa

/-
  Contract of chart.Signals.
-/
namespace Go.Proofs.Ytbbpbcmpemmgjaa
open Go.RowKit PK Vg

section
variable {w W W' : World} {q7 : Nat} {P : Nat → Nat → Nat} {k : Nat}
end
end Go.Proofs.Ytbbpbcmpemmgjaa

/-
  RotorGoesOn: what its machines are, and what they write.
-/
namespace Go.Proofs.Ytbbpbcmpemmgjaa
open Go.RowKit PK Vg

end Go.Proofs.Ytbbpbcmpemmgjaa

/-
  Contract of chart.Double.
-/
namespace Go.Proofs.Ytbbpbcmpemmgjaa
open Go.RowKit PK Vg

end Go.Proofs.Ytbbpbcmpemmgjaa

/-
  Plain mathematics: what is enciphered twice tells the chart.
-/
namespace Go.Proofs.Ytbbpbcmpemmgjaa
open Go.RowKit PK Vg

/-- A letter of what is written. -/
theorem wr_at (M : Om.Ma) : ∀ (l : List UInt8) (at' : Nat → Nat) (i : Nat), i < l.length → (Om.wr M at' l).getD i 0 = ltr (Om.now M (Om.steps M at' (i + 1)) (num (l.getD i 0)))
  | [], _, i, h => by simp at h
  | c :: l, at', 0, _ => rfl
  | c :: l, at', i + 1, h => by
    have ih := wr_at M l (Om.step M at') i (by simpa using h)
    rw [Om.steps_step] at ih
    exact ih
end Go.Proofs.Ytbbpbcmpemmgjaa

/-
  BombeComplete, over the contracts of Write and Test.
-/
namespace Go.Proofs.Ytbbpbcmpemmgjaa
open Go.RowKit PK Vg

/-- What plugs make of a crib says whose partners letters are. -/
theorem der_plugs {M : Om.Ma} (hM : Om.Ok M) {m : Bo.Mn} (hm : m.Ok) (hs : ∀ i, m.s i = chE (Om.unplugged M) i) (hy : ∀ i, i < m.k → m.y i = chE M i (m.x i)) {A : Nat} (hA : A < 26) {x y : Nat} (hd : Bo.Der m A (M.pl A) x y) : M.pl x = y := by
  have hU := Om.ok_unplugged hM
  have hb := hM.pl.lt A hA
  induction hd with
  | base => rfl
  | @sym x y h1 ih => rw [← ih]; exact hM.pl2 _ (h1.lt hm hA hb).1
  | @fwd i y hi h1 ih =>
    have hx := hm.x i hi
    rw [hy i hi, chE_plugs hM i hx, ih, hs i]
    exact hM.pl2 _ ((Om.now_perm hU _).lt _ (h1.lt hm hA hb).2)
  | @bwd i y hi h1 ih =>
    have hx := hm.x i hi
    have hpx := hM.pl.lt _ hx
    have hlt : chE (Om.unplugged M) i (M.pl (m.x i)) < 26 := (Om.now_perm hU _).lt _ hpx
    rw [hy i hi, chE_plugs hM i hx, hM.pl2 _ hlt] at ih
    rw [← ih, hs i]
    exact (Om.now_now hU _ hpx).symm
theorem plugs_res {M : Om.Ma} (hM : Om.Ok M) {m : Bo.Mn} (hm : m.Ok) (hs : ∀ i, m.s i = chE (Om.unplugged M) i) (hy : ∀ i, i < m.k → m.y i = chE M i (m.x i)) {A : Nat} (hA : A < 26) {ok : Bool} {p : Nat → Int} (h : Bo.Res m A (M.pl A) ok p) : ok = true ∧ ∀ c, c < 26 → p c = -1 ∨ p c = (M.pl c : Nat) := by
  rcases h with ⟨h1, h2, _⟩ | ⟨_, ⟨x, y, z, h1, h2, h3⟩, _⟩
  · refine ⟨h1, fun c hc => ?_⟩
    rcases h2 c hc with e | ⟨y, _, e, hd⟩
    · exact .inl e
    · exact .inr (by rw [e, der_plugs hM hm hs hy hA hd])
  · exact absurd ((der_plugs hM hm hs hy hA h1).symm.trans (der_plugs hM hm hs hy hA h2)) h3
theorem ok_at {ok : Nat → Bool} {b : Nat} (hb : b < 26) (h : ok b = true) : ∃ j, j < (okTo ok 26).length ∧ (okTo ok 26).getD j 0 = b := by
  have hm : b ∈ okTo ok 26 := by
    unfold okTo
    rw [List.mem_filter]
    exact ⟨by simpa using hb, h⟩
  obtain ⟨j, hj, e⟩ := List.mem_iff_getElem.1 hm
  exact ⟨j, hj, by rw [List.getD_eq_getElem?_getD, List.getElem?_eq_getElem hj, e]; rfl⟩
theorem comp_facts {g : Gm} {cr : ByteArray} {te : ByteArray} (hE : rwE g cr.data.toList = 0) (hte : te = ⟨(rwS g cr.data.toList).toArray⟩) : gE g = 0 ∧ ckE cr.data.toList = 0 ∧ bwE g cr.data.toList te.data.toList = (if cr.data.toList.length < 1 ∨ 32 < cr.data.toList.length then 5 else 0) ∧ ∀ i, i < cr.data.toList.length → num (te.data.toList.getD i 0) = chE (maOf g) i (num (cr.data.toList.getD i 0)) := by
  obtain ⟨h1, h2⟩ := rwE_zero hE
  obtain ⟨hM, _⟩ := ok_maOf h1
  have hls : Ls cr.data.toList ∧ cr.data.toList.length ≤ 65536 := by
    rcases ck_cases cr.data.toList with ⟨_, _, h3, h4⟩ | h3
    · exact ⟨ls_of h4, h3⟩
    · rw [h2] at h3; cases h3
  have hl : te.data.toList = Om.wr (maOf g) (maOf g).st cr.data.toList := by
    rw [hte]
    unfold rwS
    rw [if_neg (fun h => h hE)]
  have hlen : te.data.toList.length = cr.data.toList.length := by rw [hl, Om.wr_length]
  have hck : ckE te.data.toList = 0 := by
    rw [hl]
    exact (ck_of_ls (Om.wr_ls hM _ hls.1) (by rw [Om.wr_length]; exact hls.2)).1
  have hat : ∀ i, i < cr.data.toList.length → te.data.toList.getD i 0 = ltr (chE (maOf g) i (num (cr.data.toList.getD i 0))) := fun i hi => by
    rw [hl, wr_at _ _ _ i hi]
    rfl
  have hnx : ∀ i, i < cr.data.toList.length → num (cr.data.toList.getD i 0) < 26 := fun i hi => num_lt (hls.1.at hi)
  have hny : ∀ i, i < cr.data.toList.length → chE (maOf g) i (num (cr.data.toList.getD i 0)) < 26 := fun i hi => (Om.now_perm hM _).lt _ (hnx i hi)
  have hnum : ∀ i, i < cr.data.toList.length → num (te.data.toList.getD i 0) = chE (maOf g) i (num (cr.data.toList.getD i 0)) := fun i hi => by rw [hat i hi, num_ltr (hny i hi)]
  refine ⟨h1, h2, ?_, hnum⟩
  have hmt : mt te.data.toList cr.data.toList 0 = false := mt_false fun i hi e => by
    rw [Nat.zero_add] at e
    have h3 := hnum i hi
    rw [e] at h3
    exact Om.now_ne hM (Om.steps (maOf g) (maOf g).st (i + 1)) (hnx i hi) h3.symm
  unfold bwE bwR
  rw [h1, h2, hck, hlen, hmt]
  simp
end Go.Proofs.Ytbbpbcmpemmgjaa

/-
  A machine's own windows, as a number.
-/
namespace Go.Proofs.Ytbbpbcmpemmgjaa
open Go.RowKit PK Vg
theorem gE_slB {g : Gm} (h : gE g = 0) : 1 ≤ g.n ∧ g.sl = g.n ∧ ∀ i, i < g.sl → 0 ≤ g.st i ∧ g.st i < 26 := by
  unfold gE at h
  by_cases h1 : g.n < 1 ∨ 4 < g.n
  · rw [if_pos h1] at h; cases h
  rw [if_neg h1] at h
  by_cases h2 : whE g g.n ≠ 0
  · rw [if_pos h2] at h; exact absurd h h2
  rw [if_neg h2] at h
  by_cases h3 : g.rl ≠ g.n
  · rw [if_pos h3] at h; cases h
  rw [if_neg h3] at h
  by_cases h4 : ins g.rl g.ri = false
  · rw [if_pos h4] at h; cases h
  rw [if_neg h4] at h
  by_cases h5 : g.sl ≠ g.n
  · rw [if_pos h5] at h; cases h
  rw [if_neg h5] at h
  by_cases h6 : ins g.sl g.st = false
  · rw [if_pos h6] at h; cases h
  refine ⟨by omega, Decidable.not_not.1 h5, fun i hi => by have := (ins_iff _ _).1 (by simpa using h6) i hi; omega⟩
theorem own_numB {g : Gm} (h : gE g = 0) (hn2 : g.n ≤ 2) : ∃ N0, N0 < 26 ^ g.n ∧ ∀ i, i < g.sl → g.st i = (((dig g.n N0 i : Nat) : Int)) := by
  obtain ⟨h1, h2, h3⟩ := gE_slB h
  rcases (by omega : g.n = 1 ∨ g.n = 2) with hn | hn
  · have k0 := h3 0 (by omega)
    refine ⟨(g.st 0).toNat, by rw [hn]; omega, fun i hi => ?_⟩
    obtain rfl : i = 0 := by omega
    unfold dig
    rw [hn]
    show g.st 0 = (((g.st 0).toNat / 26 ^ 0 % 26 : Nat) : Int)
    rw [Nat.pow_zero, Nat.div_one]
    omega
  · have k0 := h3 0 (by omega)
    have k1 := h3 1 (by omega)
    refine ⟨(g.st 0).toNat * 26 + (g.st 1).toNat, by rw [hn]; omega, fun i hi => ?_⟩
    unfold dig
    rw [hn]
    rcases (by omega : i = 0 ∨ i = 1) with rfl | rfl
    · show g.st 0 = ((((g.st 0).toNat * 26 + (g.st 1).toNat) / 26 ^ 1 % 26 : Nat) : Int)
      rw [Nat.pow_one]
      omega
    · show g.st 1 = ((((g.st 0).toNat * 26 + (g.st 1).toNat) / 26 ^ 0 % 26 : Nat) : Int)
      rw [Nat.pow_zero, Nat.div_one]
      omega
end Go.Proofs.Ytbbpbcmpemmgjaa
