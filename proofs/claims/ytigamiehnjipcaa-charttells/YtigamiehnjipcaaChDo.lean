/-
  Contract of chart.Double.
-/
import Derived.Test.YtigamiehnjipcaaRoWt
import Derived.Test.YtigamiehnjipcaaRoWg
import Derived.Test.YtigamiehnjipcaaOGo
import Derived.Test.YtigamiehnjipcaaORWt
namespace Go.Proofs.Ytigamiehnjipcaa
open Go.RowKit PK Vg

/-- What Double says. -/
def dbE (g : Gm) (t : List UInt8) : Int := if gE g ≠ 0 then gE g else if ckE t ≠ 0 then ckE t else if t.length ≠ 3 then 5 else 0
def dbAt (g : Gm) (t : List UInt8) : Int := if gE g ≠ 0 then 0 else if ckE t ≠ 0 then ckAt t else 0
def dbS (g : Gm) (t : List UInt8) : List UInt8 := if dbE g t ≠ 0 then [] else Om.wr (maOf g) (maOf g).st (t ++ t)
theorem ba_app2 (t : ByteArray) : (t ++ t).data.toList = t.data.toList ++ t.data.toList := by simp
set_option maxRecDepth 100000 in
set_option maxHeartbeats 2000000 in
theorem db_bad (a b c : Value) (rf pl : Nat → Int) (t : ByteArray) (E : Int) (hE : (E != 0) = true) (w : World) (HW : Hid (∀ W, Below w.heap.size w W → Calls Try.prog 35 #[.agg (mac a b c rf pl)] W fun e w' => e = .returned (.int .i64 E) ∧ Below W.heap.size W w')) : Calls Try.prog 12 #[.agg (mac a b c rf pl), .string t] w fun e w' => e = .returned (.tuple #[.string ByteArray.empty, .agg #[.int .i64 E, .int .i64 0]]) ∧ Below w.heap.size w w' := by
  have h0 := WtAt.new w a b c rf pl
  go_enter Try.func12, Try.ntmps12
  go_wp2_with (first | refine wpList_load_row rfl 27 _ rfl w.heap.size rfl 27 (mac a b c rf pl) (0, 0) _ h0.load Try.underlying27 rfl (by rw [mac_size]; exact v_info_mac) ?_)
  refine (HW.out _ h0.mg.below).mono ?_
  rintro e W1 ⟨rfl, hb⟩
  have h1 := h0.step hb
  have c0 := h1.res.cell (i := 0) rfl
  have c1 := h1.res.cell (i := 1) rfl
  have f0 := h1.res.frozen 0
  have f1 := h1.res.frozen 1
  clear hb h0 HW
  go_wp2
  have q := Kit.read_two (.int .i64 E) (.int .i64 0) c0 c1
  exact bodyPost_ret (v := .tuple #[.string ByteArray.empty, .agg #[.int .i64 E, .int .i64 0]]) (by simp [results, Try.results12, go_sem, q.1, q.2]; rfl) rfl ⟨rfl, h1.done _ _⟩
set_option maxRecDepth 100000 in
set_option maxHeartbeats 2000000 in
theorem db_text (a b c : Value) (rf pl : Nat → Int) (t : ByteArray) (E A : Int) (hE : (E != 0) = true) (w : World) (HW : Hid (∀ W, Below w.heap.size w W → Calls Try.prog 35 #[.agg (mac a b c rf pl)] W fun e w' => e = .returned (.int .i64 0) ∧ Below W.heap.size W w')) (HT : Hid (∀ W, Calls Try.prog 36 #[.string t] W fun e w' => e = .returned (.agg #[.int .i64 E, .int .i64 A]) ∧ Below W.heap.size W w')) : Calls Try.prog 12 #[.agg (mac a b c rf pl), .string t] w fun e w' => e = .returned (.tuple #[.string ByteArray.empty, .agg #[.int .i64 E, .int .i64 A]]) ∧ Below w.heap.size w w' := by
  have h0 := WtAt.new w a b c rf pl
  go_enter Try.func12, Try.ntmps12
  go_wp2_with (first | refine wpList_load_row rfl 27 _ rfl w.heap.size rfl 27 (mac a b c rf pl) (0, 0) _ h0.load Try.underlying27 rfl (by rw [mac_size]; exact v_info_mac) ?_)
  refine (HW.out _ h0.mg.below).mono ?_
  rintro e W1 ⟨rfl, hb⟩
  have h1 := h0.step hb
  clear hb h0 HW
  go_wp2_with fail
  refine (HT.out _).mono ?_
  rintro e W2 ⟨rfl, hb⟩
  have h2 := (h1.step hb).alloc (.cells #[.int .i64 E, .int .i64 A] 39)
  have c0 := h2.res.cell (i := 0) rfl
  have c1 := h2.res.cell (i := 1) rfl
  have f0 := h2.res.frozen 0
  have f1 := h2.res.frozen 1
  clear hb h1 HT
  go_wp2_with fail
  go_region
  all_goals (try go_wp2)
  have q := Kit.read_two (.int .i64 E) (.int .i64 A) c0 c1
  exact bodyPost_ret (v := .tuple #[.string ByteArray.empty, .agg #[.int .i64 E, .int .i64 A]]) (by simp [results, Try.results12, go_sem, q.1, q.2]; rfl) rfl ⟨rfl, (h2.done _ _).drew⟩
set_option maxRecDepth 100000 in
set_option maxHeartbeats 2000000 in
theorem db_many (a b c : Value) (rf pl : Nat → Int) (t : ByteArray) (ht : (((t.size : Nat) : Int) != 3) = true) (w : World) (HW : Hid (∀ W, Below w.heap.size w W → Calls Try.prog 35 #[.agg (mac a b c rf pl)] W fun e w' => e = .returned (.int .i64 0) ∧ Below W.heap.size W w')) (HT : Hid (∀ W, Calls Try.prog 36 #[.string t] W fun e w' => e = .returned (.agg #[.int .i64 0, .int .i64 0]) ∧ Below W.heap.size W w')) : Calls Try.prog 12 #[.agg (mac a b c rf pl), .string t] w fun e w' => e = .returned (.tuple #[.string ByteArray.empty, .agg #[.int .i64 5, .int .i64 0]]) ∧ Below w.heap.size w w' := by
  have h0 := WtAt.new w a b c rf pl
  go_enter Try.func12, Try.ntmps12
  go_wp2_with (first | refine wpList_load_row rfl 27 _ rfl w.heap.size rfl 27 (mac a b c rf pl) (0, 0) _ h0.load Try.underlying27 rfl (by rw [mac_size]; exact v_info_mac) ?_)
  refine (HW.out _ h0.mg.below).mono ?_
  rintro e W1 ⟨rfl, hb⟩
  have h1 := h0.step hb
  clear hb h0 HW
  go_wp2_with fail
  refine (HT.out _).mono ?_
  rintro e W2 ⟨rfl, hb⟩
  have h2 := (h1.step hb).alloc (.cells #[.int .i64 0, .int .i64 0] 39)
  have c0 := h2.res.cell (i := 0) rfl
  have c1 := h2.res.cell (i := 1) rfl
  have f0 := h2.res.frozen 0
  have f1 := h2.res.frozen 1
  clear hb h1 HT
  go_wp2
  have q := Kit.read_two (.int .i64 5) (.int .i64 0) c0 c1
  exact bodyPost_ret (v := .tuple #[.string ByteArray.empty, .agg #[.int .i64 5, .int .i64 0]]) (by simp [results, Try.results12, go_sem, q.1, q.2]; rfl) rfl ⟨rfl, h2.done _ _⟩
set_option maxRecDepth 100000 in
set_option maxHeartbeats 2000000 in
theorem db_ok (a b c : Value) (rf pl : Nat → Int) (t S : ByteArray) (ht : (((t.size : Nat) : Int) != 3) = false) (hts : t.size = 3) (w : World) (HW : Hid (∀ W, Below w.heap.size w W → Calls Try.prog 35 #[.agg (mac a b c rf pl)] W fun e w' => e = .returned (.int .i64 0) ∧ Below W.heap.size W w')) (HT : Hid (∀ W, Calls Try.prog 36 #[.string t] W fun e w' => e = .returned (.agg #[.int .i64 0, .int .i64 0]) ∧ Below W.heap.size W w'))
    (HX : Hid (∀ W, Below w.heap.size w W → Calls Try.prog 23 #[.agg (mac a b c rf pl), .string (t ++ t)] W fun e w' => e = .returned (.tuple #[.string S, .agg #[.int .i64 0, .int .i64 0]]) ∧ Below W.heap.size W w')) : Calls Try.prog 12 #[.agg (mac a b c rf pl), .string t] w fun e w' => e = .returned (.tuple #[.string S, .agg #[.int .i64 0, .int .i64 0]]) ∧ Below w.heap.size w w' := by
  have h0 := WtAt.new w a b c rf pl
  have HTS := (show Hid _ from hts)
  clear hts
  go_enter Try.func12, Try.ntmps12
  go_wp2_with (first | refine wpList_load_row rfl 27 _ rfl w.heap.size rfl 27 (mac a b c rf pl) (0, 0) _ h0.load Try.underlying27 rfl (by rw [mac_size]; exact v_info_mac) ?_)
  refine (HW.out _ h0.mg.below).mono ?_
  rintro e W1 ⟨rfl, hb⟩
  have h1 := h0.step hb
  clear hb h0 HW
  go_wp2_with fail
  refine (HT.out _).mono ?_
  rintro e W2 ⟨rfl, hb⟩
  have h2 := (h1.step hb).alloc (.cells #[.int .i64 0, .int .i64 0] 39)
  clear hb h1 HT
  go_wp2_with (first | refine wpList_load_row rfl 27 _ rfl w.heap.size rfl 27 (mac a b c rf pl) (0, 0) _ h2.load Try.underlying27 rfl (by rw [mac_size]; exact v_info_mac) ?_ | refine wpList_cat rfl _ _ _ _ rfl t t rfl rfl (by have := HTS.out; omega) ?_)
  refine (HX.out _ h2.mg.below).mono ?_
  rintro e W3 ⟨rfl, hb⟩
  have h3 := h2.step hb
  have c0 := h3.res.cell (i := 0) rfl
  have c1 := h3.res.cell (i := 1) rfl
  have f0 := h3.res.frozen 0
  have f1 := h3.res.frozen 1
  clear hb h2 HX
  go_wp2
  have q := Kit.read_two (.int .i64 0) (.int .i64 0) c0 c1
  exact bodyPost_ret (v := .tuple #[.string S, .agg #[.int .i64 0, .int .i64 0]]) (by simp [results, Try.results12, go_sem, q.1, q.2]) rfl ⟨rfl, h3.done _ _⟩
theorem double_any (vm : Value) (g : Gm) (t : ByteArray) (w : World) (hm : MacAt w vm g) : Calls Try.prog 12 #[vm, .string t] w fun e w' => e = .returned (.tuple #[.string ⟨(dbS g t.data.toList).toArray⟩, .agg #[.int .i64 (dbE g t.data.toList), .int .i64 (dbAt g t.data.toList)]]) ∧ Below w.heap.size w w' := by
  have HW := fun W (hb : Below w.heap.size w W) => gw_any vm g W (hm.below hb)
  have HX := fun W (hb : Below w.heap.size w W) => write8_any vm g (t ++ t) W (hm.below hb)
  have HT := fun W => check_all t W
  obtain ⟨a, b, c, rfl, _⟩ := hm
  by_cases hg : gE g = 0
  · rw [hg] at HW
    rcases ck_cases t.data.toList with ⟨e1, e2, e3, e4⟩ | e1
    · rw [e1, e2] at HT
      have eA : dbAt g t.data.toList = 0 := by unfold dbAt; rw [if_neg (fun h => h hg), if_neg (fun h => h e1)]
      by_cases h3 : t.data.toList.length = 3
      · have hsz : t.size = 3 := by rw [Pl.size_len]; exact h3
        have hl := ls_of e4
        have hl2 : Ls (t.data.toList ++ t.data.toList) := fun c hc => by
          rcases List.mem_append.1 hc with h | h
          · exact hl c h
          · exact hl c h
        have hn2 : (t.data.toList ++ t.data.toList).length ≤ 65536 := by rw [List.length_append, h3]; decide
        have hr := rwE_ls hg hl2 hn2
        rw [ba_app2, hr.1, hr.2, rwS_ls hg hl2 hn2] at HX
        have eE : dbE g t.data.toList = 0 := by unfold dbE; rw [if_neg (fun h => h hg), if_neg (fun h => h e1), if_neg (fun h => h h3)]
        have eS : dbS g t.data.toList = Om.wr (maOf g) (maOf g).st (t.data.toList ++ t.data.toList) := by unfold dbS; rw [eE, if_neg (fun h => h rfl)]
        rw [eE, eA, eS]
        exact db_ok a b c g.rf g.pl t _ (by rw [hsz]; rfl) hsz w HW HT HX
      · have eE : dbE g t.data.toList = 5 := by unfold dbE; rw [if_neg (fun h => h hg), if_neg (fun h => h e1), if_pos h3]
        have eS : dbS g t.data.toList = [] := by unfold dbS; rw [eE, if_pos (by decide)]
        rw [eE, eA, eS]
        exact db_many a b c g.rf g.pl t (by rw [Pl.size_len, bne_iff_ne]; intro e; exact h3 (by omega)) w HW HT
    · have e1' : ckE t.data.toList ≠ 0 := by simpa using e1
      have eA : dbAt g t.data.toList = ckAt t.data.toList := by unfold dbAt; rw [if_neg (fun h => h hg), if_pos e1']
      have eE : dbE g t.data.toList = ckE t.data.toList := by unfold dbE; rw [if_neg (fun h => h hg), if_pos e1']
      have eS : dbS g t.data.toList = [] := by unfold dbS; rw [eE, if_pos e1']
      rw [eE, eA, eS]
      exact db_text a b c g.rf g.pl t _ _ e1 w HW HT
  · have eA : dbAt g t.data.toList = 0 := by unfold dbAt; rw [if_pos hg]
    have eE : dbE g t.data.toList = gE g := by unfold dbE; rw [if_pos hg]
    have eS : dbS g t.data.toList = [] := by unfold dbS; rw [eE, if_pos hg]
    rw [eE, eA, eS]
    exact db_bad a b c g.rf g.pl t _ (by simpa using hg) w HW
end Go.Proofs.Ytigamiehnjipcaa
