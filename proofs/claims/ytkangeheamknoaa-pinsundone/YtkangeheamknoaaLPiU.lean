/-
  PinsUndone, for any Write that says what the document's says.
-/
import Derived.Test.YtkangeheamknoaaPiA
namespace Go.Proofs.Ytkangeheamknoaa
open Go.RowKit PK Dm

/-- The drum's box and a Fault's variable. -/
structure DfAt (w W : World) (a b : Value) (q : Nat) (x y : Value) : Prop where
  dg : DgAt w W a b
  f : RowAt W q 33 #[x, y]
  lt : w.heap.size < q
section
variable {w W W' : World} {a b x y : Value} {q : Nat}
theorem DfAt.new (h : DgAt w W a b) (x y : Value) : DfAt w (W.alloc (.cells #[x, y] 33)) a b W.heap.size x y := ⟨h.alloc _, RowAt.new W _ _, h.lt⟩
theorem DfAt.step (h : DfAt w W a b q x y) (hb : Below W.heap.size W W') : DfAt w W' a b q x y := ⟨h.dg.step hb, h.f.below hb h.f.lt, h.lt⟩
theorem DfAt.set (h : DfAt w W a b q x y) (x' y' : Value) : DfAt w ((W.setCell ⟨q, 0, none⟩ x').setCell ⟨q, 1, none⟩ y') a b q x' y' := by
  have hl := h.lt
  exact ⟨⟨(h.dg.row.setOther ⟨q, 0, none⟩ x' (by show w.heap.size ≠ q; omega)).setOther ⟨q, 1, none⟩ y' (by show w.heap.size ≠ q; omega), (h.dg.below.setCell (p := ⟨q, 0, none⟩) (by show w.heap.size ≤ q; omega) _).setCell (p := ⟨q, 1, none⟩) (by show w.heap.size ≤ q; omega) _⟩, (h.f.set 0 x').set 1 y', h.lt⟩
end
theorem ck_of_ls {l : List UInt8} (h : Vg.Ls l) (hl : l.length ≤ 65536) : ckE l = 0 ∧ ckAt l = 0 := by
  unfold ckE ckAt
  rw [if_neg (by omega), if_neg (by omega)]
  refine chk_none l (List.findIdx?_eq_none_iff.2 fun c hc => ?_)
  have := h c hc
  simp [Pl.bad, Pl.isL]
  omega
set_option maxRecDepth 100000 in
set_option maxHeartbeats 2000000 in
theorem pun_bad (a b : Value) (t o S : ByteArray) (E A : Int) (hE : (E != 0) = true) (w : World) (HA : Hid (∀ W, Calls Try.prog 15 #[] W fun e w' => e = .returned (.bool true) ∧ Below W.heap.size W w'))
    (H1 : Hid (∀ W, Below w.heap.size w W → Calls Try.prog 11 #[.agg #[a, b], .string t] W fun e w' => e = .returned (.tuple #[.string S, .agg #[.int .i64 E, .int .i64 A]]) ∧ Below W.heap.size W w')) : Calls Try.prog 4 #[.agg #[a, b], .string t, .string o] w fun e w' => e = .returned (.bool true) ∧ Below w.heap.size w w' := by
  have h0 := DgAt.new w a b
  go_enter Try.func4, Try.ntmps4
  go_wp2_with fail
  refine (HA.out _).mono ?_
  rintro e W1 ⟨rfl, hb⟩
  have h1 := h0.step hb
  clear hb h0 HA
  go_wp2_with (first | refine wpList_load_row rfl 25 _ rfl w.heap.size rfl 25 #[a, b] (0, 0) _ h1.row Try.underlying25 rfl v_info_drum ?_)
  refine (H1.out _ h1.below).mono ?_
  rintro e W2 ⟨rfl, hb⟩
  have h2 := (DfAt.new (h1.step hb) (.int .i64 E) (.int .i64 A)).dg.below
  have HBE := (show Hid _ from h2)
  clear hb h1 H1 h2
  go_wp2
  go_ret
  exact ⟨rfl, HBE.out⟩
set_option maxRecDepth 100000 in
set_option maxHeartbeats 4000000 in
theorem pun_run (a b : Value) (t o S U : ByteArray) (E A : Int) (hsz : S.size = t.size) (hs : t.size ≤ 65536) (hE : E = 0 → U.size = o.size ∧ o.size ≤ 65536)
    (HAP : Hid (E = 0 → ∀ i, i < t.size → i < o.size → (((t.data.toList.getD i 0).toNat : Int) - ((o.data.toList.getD i 0).toNat : Int) + ((S.data.toList.getD i 0).toNat : Int) - ((U.data.toList.getD i 0).toNat : Int) + 52) % 26 = 0 ∧ 0 ≤ ((t.data.toList.getD i 0).toNat : Int) - ((o.data.toList.getD i 0).toNat : Int) + ((S.data.toList.getD i 0).toNat : Int) - ((U.data.toList.getD i 0).toNat : Int) + 52)) (w : World) (HA : Hid (∀ W, Calls Try.prog 15 #[] W fun e w' => e = .returned (.bool true) ∧ Below W.heap.size W w'))
    (H1 : Hid (∀ W, Below w.heap.size w W → Calls Try.prog 11 #[.agg #[a, b], .string t] W fun e w' => e = .returned (.tuple #[.string S, .agg #[.int .i64 0, .int .i64 0]]) ∧ Below W.heap.size W w'))
    (H2 : Hid (∀ W, Below w.heap.size w W → Calls Try.prog 11 #[.agg #[a, b], .string S] W fun e w' => e = .returned (.tuple #[.string t, .agg #[.int .i64 0, .int .i64 0]]) ∧ Below W.heap.size W w'))
    (H3 : Hid (∀ W, Below w.heap.size w W → Calls Try.prog 11 #[.agg #[a, b], .string o] W fun e w' => e = .returned (.tuple #[.string U, .agg #[.int .i64 E, .int .i64 A]]) ∧ Below W.heap.size W w')) : Calls Try.prog 4 #[.agg #[a, b], .string t, .string o] w fun e w' => e = .returned (.bool true) ∧ Below w.heap.size w w' := by
  have h0 := DgAt.new w a b
  have HSZ : Hid (S.size = t.size) := hsz
  have hsz2 : ((S.size : Int) != (t.size : Int)) = false := by rw [hsz]; simp
  have htt : (t.toList == t.toList) = true := by simp
  have HEE := (show Hid _ from hE)
  clear hsz hE
  go_enter Try.func4, Try.ntmps4
  go_wp2_with fail
  refine (HA.out _).mono ?_
  rintro e W1 ⟨rfl, hb⟩
  have h1 := h0.step hb
  clear hb h0 HA
  go_wp2_with (first | refine wpList_load_row rfl 25 _ rfl w.heap.size rfl 25 #[a, b] (0, 0) _ h1.row Try.underlying25 rfl v_info_drum ?_)
  refine (H1.out _ h1.below).mono ?_
  rintro e W2 ⟨rfl, hb⟩
  have h2 := DfAt.new (h1.step hb) (.int .i64 0) (.int .i64 0)
  clear hb h1 H1
  go_upto_region 6 with fail
  obtain ⟨V, hV⟩ : ∃ V, V = W2.alloc (.cells #[.int .i64 0, .int .i64 0] 33) := ⟨_, rfl⟩
  rw [← hV] at h2 ⊢
  obtain ⟨q, hq⟩ : ∃ q, q = W2.heap.size := ⟨_, rfl⟩
  rw [← hq] at h2 ⊢
  clear hV hq
  go_wp2_with (first | refine wpList_load_row rfl 25 _ rfl w.heap.size rfl 25 #[a, b] (0, 0) _ h2.dg.row Try.underlying25 rfl v_info_drum ?_)
  refine (H2.out _ h2.dg.below).mono ?_
  rintro e W3 ⟨rfl, hb⟩
  have h3 := h2.step hb
  have c0 := h3.f.cell (i := 0) rfl
  have c1 := h3.f.cell (i := 1) rfl
  have f0 := h3.f.frozen 0
  have f1 := h3.f.frozen 1
  clear hb h2 H2
  go_upto_region 7 with fail
  have h4 := h3.set (.int .i64 0) (.int .i64 0)
  generalize (W3.setCell ⟨q, 0, none⟩ (.int .i64 0)).setCell ⟨q, 1, none⟩ (.int .i64 0) = V4 at *
  clear c0 c1 f0 f1 h3
  have c0 := h4.f.cell (i := 0) rfl
  go_wp2_with (first | refine wpList_load_row rfl 25 _ rfl w.heap.size rfl 25 #[a, b] (0, 0) _ h4.dg.row Try.underlying25 rfl v_info_drum ?_)
  refine (H3.out _ h4.dg.below).mono ?_
  rintro e W5 ⟨rfl, hb⟩
  have h5 := h4.step hb
  clear c0
  have c0 := h5.f.cell (i := 0) rfl
  have c1 := h5.f.cell (i := 1) rfl
  have f0 := h5.f.frozen 0
  have f1 := h5.f.frozen 1
  clear hb h4 H3 hsz2 htt
  go_upto_region 10 with fail
  have h6 := h5.set (.int .i64 E) (.int .i64 A)
  generalize (W5.setCell ⟨q, 0, none⟩ (.int .i64 E)).setCell ⟨q, 1, none⟩ (.int .i64 A) = V6 at *
  clear c0 c1 f0 f1 h5
  have c0 := h6.f.cell (i := 0) rfl
  by_cases hz : E = 0
  case neg =>
    have hz2 : (E != 0) = true := by simpa using hz
    have HBE := (show Hid _ from h6.dg.below)
    clear h6 HAP HEE hz
    go_wp2
    go_ret
    exact ⟨rfl, HBE.out⟩
  subst hz
  obtain ⟨hU, ho⟩ := HEE.out rfl
  have HAQ := (show Hid _ from HAP.out rfl)
  have HUS : Hid (U.size = o.size) := hU
  have hbe6 := h6.dg.below
  clear h6 HAP HEE hU
  go_wp2_with fail
  clear c0
  go_loopw [11] (fun i W => ∃ k : Nat, k ≤ t.size ∧ i = .int .i64 (k : Nat) ∧ Below w.heap.size w W) (fun i _ => ((t.size : Int) - intOf i).toNat)
  case atStart => exact ⟨0, by omega, rfl, hbe6⟩
  case round =>
    clear hbe6
    obtain ⟨k, hk, rfl, hbe⟩ := hrel
    by_cases hlt : k < t.size
    · have hlt2 : (k : Int) < (t.size : Int) := by omega
      by_cases hlo : k < o.size
      · have hlo2 : (k : Int) < (o.size : Int) := by omega
        have hkS : k < S.size := by rw [HSZ.out]; exact hlt
        have hkU : k < U.size := by rw [HUS.out]; exact hlo
        have hlS2 : (k : Int) < (S.size : Int) := by omega
        have hlU2 : (k : Int) < (U.size : Int) := by omega
        have hix1 := (getD_byte t k hlt).symm
        have hix2 := (getD_byte o k hlo).symm
        have hix3 := (getD_byte S k hkS).symm
        have hix4 := (getD_byte U k hkU).symm
        have hap := HAQ.out k hlt hlo
        generalize t.data.toList.getD k 0 = x1 at *
        generalize o.data.toList.getD k 0 = x2 at *
        generalize S.data.toList.getD k 0 = x3 at *
        generalize U.data.toList.getD k 0 = x4 at *
        have y1 := x1.toNat_lt
        have y2 := x2.toNat_lt
        have y3 := x3.toNat_lt
        have y4 := x4.toNat_lt
        have hrm : ((x1.toNat : Int) - (x2.toNat : Int) + (x3.toNat : Int) - (x4.toNat : Int) + 52).tmod 26 = 0 := by rw [Int.tmod_eq_emod_of_nonneg hap.2]; exact hap.1
        have hrm2 := hap.1
        have HLT : Hid (k < t.size) := hlt
        clear hap
        go_upto_region 15 with fail
        go_quiet (fail)
        go_wp2
        go_roundw
        case rel => exact ⟨k + 1, HLT.out, by go_num, hbe.trans ⟨rfl, rfl, rfl, Nat.le_refl _, fun _ _ => rfl⟩⟩
        case measure => have := HLT.out; simp [intOf]; omega
      · have hlo2 : ¬ (k : Int) < (o.size : Int) := by omega
        have HBE := (show Hid _ from hbe)
        clear hbe
        go_wp2
        go_ret
        exact ⟨rfl, HBE.out⟩
    · have hlt2 : ¬ (k : Int) < (t.size : Int) := by omega
      have HBE := (show Hid _ from hbe)
      clear hbe
      go_wp2
      go_ret
      exact ⟨rfl, HBE.out⟩
theorem dwE_zero {D : Dr} {t : List UInt8} (h : dwE D t = 0) : dE D = 0 ∧ ckE t = 0 ∧ dwAt D t = ckAt t ∧ dwS D t = wr D t := by
  unfold dwS
  rw [h, if_neg (by decide)]
  unfold dwE at h
  unfold dwAt
  by_cases hg : dE D = 0
  · rw [if_neg (fun e => e hg)] at h ⊢; exact ⟨hg, h, rfl, rfl⟩
  · rw [if_pos hg] at h; exact absurd h hg
theorem pinsundone_of (TW : PDWt 11) (v : Value) (D : Dr) (t o : ByteArray) (w : World) (hd : DrAt w v D) : Calls Try.prog 4 #[v, .string t, .string o] w fun e w' => e = .returned (.bool true) ∧ Below w.heap.size w w' := by
  have H1 := fun W (hb : Below w.heap.size w W) => TW v D t W (hd.below hb)
  have HA := fun W => alive12 TW W
  by_cases h0 : dwE D t.data.toList = 0
  · obtain ⟨hg, hc, ha, hS⟩ := dwE_zero h0
    rcases ck_cases t.data.toList with ⟨_, k1, k2, k3⟩ | k1
    · have hl := ls_of k3
      have hlS : Vg.Ls (wr D t.data.toList) := wr_ls D _
      have hcS := ck_of_ls hlS (by rw [wr_len]; exact k2)
      have e0 : dwE D (wr D t.data.toList) = 0 := by unfold dwE; rw [if_neg (fun h => h hg)]; exact hcS.1
      obtain ⟨_, _, ha2, hS2⟩ := dwE_zero e0
      have et : (⟨(t.data.toList).toArray⟩ : ByteArray) = t := by cases t; simp
      have H2 : ∀ W, Below w.heap.size w W → Calls Try.prog 11 #[v, .string ⟨(wr D t.data.toList).toArray⟩] W fun e w' => e = .returned (.tuple #[.string t, .agg #[.int .i64 0, .int .i64 0]]) ∧ Below W.heap.size W w' := fun W hb => by
        have := TW v D ⟨(wr D t.data.toList).toArray⟩ W (hd.below hb)
        rw [show (⟨(wr D t.data.toList).toArray⟩ : ByteArray).data.toList = wr D t.data.toList from rfl, e0, ha2, hcS.2, hS2, wr_wr hl, et] at this
        exact this
      rw [h0, ha, k1, hS] at H1
      have H3 := fun W (hb : Below w.heap.size w W) => TW v D o W (hd.below hb)
      obtain ⟨a, b, rfl, _, _⟩ := hd
      have hSs : (⟨(wr D t.data.toList).toArray⟩ : ByteArray).size = t.size := by
        rw [Pl.size_len, Pl.size_len]
        exact wr_len D _
      refine pun_run a b t o ⟨(wr D t.data.toList).toArray⟩ ⟨(dwS D o.data.toList).toArray⟩ (dwE D o.data.toList) (dwAt D o.data.toList) hSs (by rw [Pl.size_len]; exact k2) (fun he => ?_) (fun he i h1 h2 => ?_) w HA H1 H2 H3
      · obtain ⟨_, hc3, _, hS3⟩ := dwE_zero he
        rw [hS3, Pl.size_len, Pl.size_len]
        rcases ck_cases o.data.toList with ⟨_, _, m2, _⟩ | m1
        · exact ⟨wr_len D _, m2⟩
        · rw [hc3] at m1; cases m1
      · obtain ⟨_, hc3, _, hS3⟩ := dwE_zero he
        rw [hS3]
        rcases ck_cases o.data.toList with ⟨_, _, m2, m3⟩ | m1
        · have hlo := ls_of m3
          have g1 : (⟨(wr D t.data.toList).toArray⟩ : ByteArray).data.toList.getD i 0 = enc (pushed D i) (t.data.toList.getD i 0) := wr_get D _ (by rw [← Pl.size_len]; exact h1)
          have g2 : (⟨(wr D o.data.toList).toArray⟩ : ByteArray).data.toList.getD i 0 = enc (pushed D i) (o.data.toList.getD i 0) := wr_get D _ (by rw [← Pl.size_len]; exact h2)
          rw [g1, g2]
          have q1 := ls_get hl (i := i) (by rw [← Pl.size_len]; exact h1)
          have q2 := ls_get hlo (i := i) (by rw [← Pl.size_len]; exact h2)
          refine ⟨apart q1 q2, ?_⟩
          rw [enc_toNat, enc_toNat]
          omega
        · rw [hc3] at m1; cases m1
    · rw [hc] at k1; cases k1
  · obtain ⟨a, b, rfl, _, _⟩ := hd
    exact pun_bad a b t o _ _ _ (by simpa using h0) w HA H1
end Go.Proofs.Ytkangeheamknoaa
