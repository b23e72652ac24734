/-
  RailsUndone, walked.
-/
import Derived.Test.YtennpknkcaeafacYCol
import Derived.Test.YtennpknkcaeafacYRef
import Derived.Lib.OthersKept
import Derived.Lib.SmallJoins
import Derived.Maps.AppendAt
namespace Go.Proofs.Ytennpknkcaeafac
open Go.RowKit PK Sm

theorem ck_ofL (l : List UInt8) (h : Pl.Lets l) (hl : l.length ≤ 65536) : ckE l = 0 := by
  unfold ckE
  rw [if_neg (by omega)]
  exact (chk_none l (Pl.chk_ok l h)).1
theorem fitE_of {n : Nat} {f : Nat → Int} {l : List UInt8} (hg : GoodO n f) (h : Pl.Lets l) (hn : n = l.length) : fitE n f l = 0 := by
  unfold fitE
  have hle := hg.le
  rw [(ordE_zero n f).2 hg, ck_ofL l h (by omega)]
  simp [hn]
theorem putL_lets {n : Nat} {f : Nat → Int} {l : List UInt8} (hf : ∀ i, i < n → 0 ≤ f i ∧ f i < n) (h : Pl.Lets l) (hn : n = l.length) : Pl.Lets (putL n f l) := fun c hc => by
  obtain ⟨i, hi, rfl⟩ := List.mem_map.1 hc
  have hi' : i < n := by simpa using hi
  have hb := hf i hi'
  have : l[(f i).toNat]? = some (l.getD (f i).toNat 0) := by simp [List.getD, List.getElem?_eq_getElem (show (f i).toNat < l.length by omega)]
  exact h _ (List.mem_of_getElem? this)
theorem putL_get {n : Nat} (f : Nat → Int) (l : List UInt8) {i : Nat} (hi : i < n) : (putL n f l).getD i 0 = l.getD (f i).toNat 0 := by
  simp [putL, List.getD, List.getElem?_map, List.getElem?_range hi]
theorem putL_undo {n : Nat} {f g : Nat → Int} {l : List UInt8} (hn : n = l.length) (hg : ∀ i, i < n → 0 ≤ g i ∧ g i < n ∧ f (g i).toNat = i) : putL n g (putL n f l) = l := by
  apply List.ext_getElem
  · rw [putL_length]; exact hn
  · intro i h1 h2
    have hi : i < n := by omega
    have a1 := putL_get g (putL n f l) hi
    have hb := hg i hi
    rw [putL_get f l (show (g i).toNat < n by omega), hb.2.2, Int.toNat_natCast] at a1
    simpa [List.getD, List.getElem?_eq_getElem h1, List.getElem?_eq_getElem h2] using a1
theorem put_back {n : Nat} {f : Nat → Int} {l : List UInt8} (hg : GoodO n f) (hn : n = l.length) : putL n (backF f n) (putL n f l) = l ∧ putL n f (putL n (backF f n) l) = l := by
  refine ⟨putL_undo hn hg.back.2, putL_undo hn fun i hi => ?_⟩
  have := hg.lt i hi
  exact ⟨this.1, this.2, backF_at hg n (Nat.le_refl n) i hi⟩
theorem mat_of_own {W : World} {B : Nat} {e : TypeId} {v : Value} {n : Nat} {vs : List Value} (h : W.ownsRow B e 1 v n vs) (hl : vs.length = n) (hall : ∀ (k : Nat) (u : Value), vs[k]? = some u → ∃ m f, NumsAt W u m f) : ∃ L Z, MatAt W v n L Z := by
  have hex : ∀ k, ∃ (m : Nat) (f : Nat → Int), k < n → NumsAt W (vs.getD k (.bool false)) m f := fun k => by
    by_cases hk : k < n
    · obtain ⟨m, f, hm⟩ := hall k (vs.getD k (.bool false)) (by simp [List.getD, List.getElem?_eq_getElem (show k < vs.length by omega)])
      exact ⟨m, f, fun _ => hm⟩
    · exact ⟨0, fun _ => 0, fun hc => absurd hc hk⟩
  refine ⟨fun k => (hex k).choose, fun k => (hex k).choose_spec.choose, ?_⟩
  have key : ∀ r, r < n → NumsAt W (vs.getD r (.bool false)) ((hex r).choose) ((hex r).choose_spec.choose) := fun r hr => (hex r).choose_spec.choose_spec hr
  have hx := h
  rcases h.2 with ⟨rfl, h0⟩ | ⟨g, cap, cur, rfl, hbg, hg, hnc, hcm, hcs, htake⟩
  · exact ⟨none, 0, fun r => vs.getD r (.bool false), by rw [h0], by rw [h0]; decide, fun r hr => by omega, key⟩
  · refine ⟨some ⟨g, 0, none⟩, cap, fun r => vs.getD r (.bool false), rfl, by omega, fun r hr => ⟨g, 0, rfl, ?_⟩, key⟩
    have e1 : vs[r]? = some (vs.getD r (.bool false)) := by simp [List.getD, List.getElem?_eq_getElem (show r < vs.length by omega)]
    have := World.ownsRow.cells (g := g) hx rfl r _ e1
    have e : ((⟨g, 0, none⟩ : Addr).add r) = ⟨g, 0 + r, none⟩ := by unfold Addr.add; by_cases e0 : r = 0 <;> simp [e0]
    rw [e] at this
    exact this
theorem own_below4 {w w' : World} {B : Nat} {e : TypeId} {v : Value} {n : Nat} {xs : List Value} (h : w.ownsRow B e 1 v n xs) (hb : Below w.heap.size w w') : w'.ownsRow B e 1 v n xs :=
  ⟨h.1, h.2.imp id fun ⟨g, cap, cur, a, b, c, d⟩ => ⟨g, cap, cur, a, b, (hb.block g (Array.getElem?_eq_some_iff.1 c).1).trans c, d⟩⟩
theorem own_type4 {w : World} {B : Nat} {v : Value} {n : Nat} {xs : List Value} {b : Nat} {c : Array Value} (h : w.ownsRow B 22 1 v n xs) (hr : RowAt w b 3 c) : v.ownBlock ≠ some b := fun hg => by
  rcases h.2 with ⟨rfl, _⟩ | ⟨g', cap, cur, rfl, hb, hg', _⟩
  · cases hg
  · simp [Value.ownBlock] at hg
    subst hg
    unfold RowAt at hr
    rw [hr] at hg'
    simp at hg'
theorem own_form {w : World} {B : Nat} {e : TypeId} {v : Value} {n : Nat} {xs : List Value} (h : w.ownsRow B e 1 v n xs) : ∃ a c, v = .slice a n c := by
  rcases h.2 with ⟨rfl, h0⟩ | ⟨g', cap, cur, rfl, _⟩
  · exact ⟨none, 0, by rw [h0]⟩
  · exact ⟨_, _, rfl⟩
theorem row_kept4 {W W' : World} {b : Nat} {T : TypeId} {c : Array Value} {row : Option Nat} (h : RowAt W b T c) (hg : W.grownBy W' row) (hne : row ≠ some b) : RowAt W' b T c := (hg.block b h.lt (fun e => hne e.symm)).trans h
theorem y_info_ints : (Try.prog.info? 22).map (fun i => (i.zero, i.size, i.bytes)) = some (some (.slice none 0 0), 1, 24) := by kernel_rfl
set_option maxRecDepth 100000 in
set_option maxHeartbeats 8000000 in
theorem law_rund (v : Value) (n0 : Nat) (f0 : Nat → Int) (s : ByteArray) (cnt : Int) (t : ByteArray) (w : World) (hv : NumsAt w v n0 f0) :
    Calls Try.prog 5 #[v, .string s, .int .i64 cnt, .string t] w fun e w' => e = .returned (.bool true) ∧ Below w.heap.size w w' := by
  obtain ⟨i0, hi0, hz0, hz1, hz2⟩ := info_parts y_info_ints
  have HV0 := (show Hid (NumsAt w v n0 f0) from hv)
  obtain ⟨a0, c0, rfl, _⟩ := hv.len
  clear hv
  go_enter Try.func5, Try.ntmps5
  go_wp2_with (go_at_call 23; refine (alive_any _).mono ?_; rintro e W1 ⟨rfl, hb1⟩)
  have hown1 := World.ownsRow_lit (base := W1.heap.size) (e := 22) (size := 1) W1 #[.slice a0 n0 c0] 1 (Nat.le_refl _) (by decide) rfl
  have hbc1 := hb1.alloc hb1.size (.cells #[.slice a0 n0 c0] 22)
  have hzw : W1.heap.size < (W1.alloc (.cells #[.slice a0 n0 c0] 22)).heap.size := by simp
  have hz1w := hb1.size
  clear hb1
  by_cases hr : (0 ≤ (s.size : Int) ∧ (s.size : Int) ≤ 65536) ∧ 1 ≤ cnt ∧ cnt ≤ 64
  · obtain ⟨R, rfl⟩ : ∃ R : Nat, cnt = R := ⟨cnt.toNat, by omega⟩
    refine Calls.mono (rail_ok s.size R (by omega) (by omega) (by omega) _) ?_
    rintro e W2 ⟨Gr, dr, rfl, ror2, hb2, hGr, hor, hsr⟩
    have hgr : GoodO s.size dr := GoodO.of_order hor (by omega)
    have HW1 := (show Hid (Calls Try.prog 15 #[.slice (some ⟨Gr, 0, none⟩) s.size s.size] W2 fun e w' => e = .returned (.int .i64 0) ∧ Below W2.heap.size W2 w') from by
      have := wrong_any (.slice (some ⟨Gr, 0, none⟩) s.size s.size) s.size dr W2 (NumsAt.of_row ror2 (by unfold maxLen; omega))
      rw [(ordE_zero s.size dr).2 hgr] at this
      exact this)
    have hown2 := own_below4 hown1 hb2
    have hbc2 := hbc1.trans (hb2.mono hbc1.size)
    have hz2w := hb2.size
    clear hor hsr hgr hb2 hown1 hbc1
    go_wp2_with fail
    refine Calls.mono HW1.out ?_
    rintro e W3 ⟨rfl, hb3⟩
    have hown3 := own_below4 hown2 hb3
    have hbc3 := hbc2.trans (hb3.mono hbc2.size)
    have hz3w := hb3.size
    have ror3 := ror2.below hb3 ror2.lt
    clear hb3 hown2 hbc2 ror2 HW1
    go_wp2_with (first
      | (at_builtin; refine wpList_append_own _ rfl _ _ 37 rfl W1.heap.size 22 i0 (.slice none 0 0) 1 24 Try.underlying37 hi0 hz0 hz1 hz2 rfl (by decide) _ _ _ rfl (World.ownsRow.alloc hown3 _) ⟨W3.heap.size, 0, none⟩ 1 1 [.slice (some ⟨Gr, 0, none⟩) s.size s.size] rfl rfl (cell_one_new _ _ _) (fun u hu => by simp at hu; subst hu; rfl) (by unfold maxLen; omega) (by omega) (by simp; omega) ?_; intro v5 w5 hown5 hgrow5 _; obtain ⟨g5, c5, rfl⟩ := own_form (show w5.ownsRow W1.heap.size 22 1 v5 2 _ from hown5)))
    have hbc := (hbc3.alloc hbc3.size (.cells #[.slice (some ⟨Gr, 0, none⟩) s.size s.size] 22)).grown hgrow5 (by simp; omega) (fun k hk => by have := (World.ownsRow.lt hown3 k hk).1; omega)
    have ror := row_kept4 (ror3.alloc (.cells #[.slice (some ⟨Gr, 0, none⟩) s.size s.size] 22)) hgrow5 (own_type4 hown3 ror3)
    have hown : w5.ownsRow W1.heap.size 22 1 (.slice g5 2 c5) 2 [.slice a0 n0 c0, .slice (some ⟨Gr, 0, none⟩) s.size s.size] := hown5
    have hz5 : W1.heap.size ≤ w5.heap.size := by have := hgrow5.size; simp at this; simp at hzw hz2w; omega
    clear hown3 hbc3 ror3 hgrow5 hown5 hz2w hz3w hzw
    obtain ⟨V, rfl⟩ : ∃ V, V = w5 := ⟨_, rfl⟩
    have hzc := hbc.size
    by_cases hcol : colE (s.size : Int) t.data.toList = 0
    · obtain ⟨hn2, hk1, hk2, hlet, hl1, hl2⟩ := colE_zero hcol
      rw [← Pl.size_len] at hl1 hl2
      refine Calls.mono (col_ok s.size t (by omega) hk1 hk2 hl1 hl2 V) ?_
      rintro e W6 ⟨Gc, dc, tc, rfl, roc, hb6, hGc, hoc, hsc, _⟩
      have hgc : GoodO s.size dc := GoodO.of_order hoc (by omega)
      have HW2 := (show Hid (Calls Try.prog 15 #[.slice (some ⟨Gc, 0, none⟩) s.size s.size] W6 fun e w' => e = .returned (.int .i64 0) ∧ Below W6.heap.size W6 w') from by
        have := wrong_any (.slice (some ⟨Gc, 0, none⟩) s.size s.size) s.size dc W6 (NumsAt.of_row roc (by unfold maxLen; omega))
        rw [(ordE_zero s.size dc).2 hgc] at this
        exact this)
      have hown6 := own_below4 hown hb6
      have hbc6 := hbc.trans (hb6.mono hzc)
      have hz6 := hb6.size
      have ror6 := ror.below hb6 ror.lt
      clear hcol hk1 hk2 hlet hoc hsc hgc hb6 hown hbc ror
      go_wp2_with fail
      refine Calls.mono HW2.out ?_
      rintro e W7 ⟨rfl, hb7⟩
      have hown7 := own_below4 hown6 hb7
      have hbc7 := hbc6.trans (hb7.mono hbc6.size)
      have hz7 := hb7.size
      have roc7 := roc.below hb7 roc.lt
      have ror7 := ror6.below hb7 ror6.lt
      clear hb7 hown6 hbc6 roc ror6 HW2
      go_wp2_with (first
        | (at_builtin; refine wpList_append_own _ rfl _ _ 37 rfl W1.heap.size 22 i0 (.slice none 0 0) 1 24 Try.underlying37 hi0 hz0 hz1 hz2 rfl (by decide) _ _ _ rfl (World.ownsRow.alloc hown7 _) ⟨W7.heap.size, 0, none⟩ 1 1 [.slice (some ⟨Gc, 0, none⟩) s.size s.size] rfl rfl (cell_one_new _ _ _) (fun u hu => by simp at hu; subst hu; rfl) (by unfold maxLen; omega) (by omega) (by simp; omega) ?_; intro v5 w5 hown5 hgrow5 _; obtain ⟨g5, c5, rfl⟩ := own_form (show w5.ownsRow W1.heap.size 22 1 v5 3 _ from hown5)))
      have hbk := (hbc7.alloc hbc7.size (.cells #[.slice (some ⟨Gc, 0, none⟩) s.size s.size] 22)).grown hgrow5 (by simp; omega) (fun k hk => by have := (World.ownsRow.lt hown7 k hk).1; omega)
      have rock := row_kept4 (roc7.alloc (.cells #[.slice (some ⟨Gc, 0, none⟩) s.size s.size] 22)) hgrow5 (own_type4 hown7 roc7)
      have rork := row_kept4 (ror7.alloc (.cells #[.slice (some ⟨Gc, 0, none⟩) s.size s.size] 22)) hgrow5 (own_type4 hown7 ror7)
      obtain ⟨L, Z, hmat⟩ := mat_of_own (n := 3) hown5 (by rfl) (fun k u hu => by
        match k, hu with
        | 0, hu => simp at hu; subst hu; exact ⟨n0, f0, HV0.out.below hbk⟩
        | 1, hu => simp at hu; subst hu; exact ⟨s.size, dr, NumsAt.of_row rork (by unfold maxLen; omega)⟩
        | 2, hu => simp at hu; subst hu; exact ⟨s.size, dc, NumsAt.of_row rock (by unfold maxLen; omega)⟩
        | k + 3, hu => simp at hu)
      clear hown5 hgrow5 hown7 hbc7 roc7 rock ror7 rork
      generalize w5 = Wk at *
      have hzk := hbk.size
      obtain ⟨a9, c9, R, heq9, hlen9, hrows, hnums⟩ := hmat
      cases heq9
      have HROW : Hid _ := hrows
      have HNUM : Hid _ := hnums
      clear hrows hnums
      go_wp2
      go_loopw [71] (fun i W => ∃ k : Nat, k ≤ 3 ∧ i = .int .i64 k ∧ Below Wk.heap.size Wk W) (fun i _ => ((3 : Int) - intOf i).toNat)
      case atStart => exact ⟨0, by omega, rfl, Below.refl _ _⟩
      case round =>
        obtain ⟨k, hk, rfl, hb⟩ := hrel
        by_cases hlt : k < 3
        · obtain ⟨b, o, e9, hc0⟩ := HROW.out k hlt
          cases e9
          have hcell := (hb.cell (cell_block hc0)).trans hc0
          have hv := (HNUM.out k hlt).below hb
          have HV := (show Hid (NumsAt wr (R k) (L k) (Z k)) from hv)
          clear hc0 hv
          generalize R k = u at *
          generalize L k = n at *
          generalize Z k = f at *
          have H1 := (show Hid (Calls Try.prog 17 #[u, .string s] wr fun e w' => e = .returned (.tuple #[.string ⟨(if fitE n f s.data.toList = 0 then putL n f s.data.toList else []).toArray⟩, .int .i64 (fitE n f s.data.toList)]) ∧ Below wr.heap.size wr w') from ywrite_any u n f s wr HV.out)
          rcases fitE_cases n f s.data.toList with ⟨h0, hg, _, hn, hl, hlet⟩ | h0
          · rw [h0, if_pos rfl] at H1
            have hpb := put_back hg hn
            obtain ⟨T1, hT1⟩ : ∃ T : ByteArray, T = ⟨(putL n f s.data.toList).toArray⟩ := ⟨_, rfl⟩
            obtain ⟨T2, hT2⟩ : ∃ T : ByteArray, T = ⟨(putL n (backF f n) s.data.toList).toArray⟩ := ⟨_, rfl⟩
            have l1 : T1.data.toList = putL n f s.data.toList := by rw [hT1]
            have l2 : T2.data.toList = putL n (backF f n) s.data.toList := by rw [hT2]
            have f1 : fitE n f T1.data.toList = 0 := by rw [l1]; exact fitE_of hg (putL_lets hg.lt hlet hn) (by rw [putL_length])
            have f2 : fitE n f T2.data.toList = 0 := by rw [l2]; exact fitE_of hg (putL_lets hg.back.1.lt hlet hn) (by rw [putL_length])
            have es : (⟨s.data.toList.toArray⟩ : ByteArray) = s := by cases s; simp
            have H2 := (show Hid (∀ W, Below wr.heap.size wr W → Calls Try.prog 19 #[u, .string T1] W fun e w' => e = .returned (.tuple #[.string s, .int .i64 0]) ∧ Below W.heap.size W w') from fun W hW => by
              have := yread_any u n f T1 W (HV.out.below hW)
              rw [f1, if_pos rfl, l1, hpb.1, es] at this
              exact this)
            have H3 := (show Hid (∀ W, Below wr.heap.size wr W → Calls Try.prog 19 #[u, .string s] W fun e w' => e = .returned (.tuple #[.string T2, .int .i64 0]) ∧ Below W.heap.size W w') from fun W hW => by
              have := yread_any u n f s W (HV.out.below hW)
              rw [h0, if_pos rfl, ← hT2] at this
              exact this)
            have H4 := (show Hid (∀ W, Below wr.heap.size wr W → Calls Try.prog 17 #[u, .string T2] W fun e w' => e = .returned (.tuple #[.string s, .int .i64 0]) ∧ Below W.heap.size W w') from fun W hW => by
              have := ywrite_any u n f T2 W (HV.out.below hW)
              rw [f2, if_pos rfl, l2, hpb.2, es] at this
              exact this)
            rw [← hT1] at H1
            clear hT1 hT2 l1 l2 f1 f2 es hpb hg hn hl hlet h0 HV
            go_wp2_with fail
            refine Calls.mono H1.out ?_
            rintro e X1 ⟨rfl, q1⟩
            go_wp2_with fail
            refine Calls.mono (H2.out _ q1) ?_
            rintro e X2 ⟨rfl, q2'⟩
            have q2 := q1.trans (q2'.mono q1.size)
            go_wp2_with fail
            refine Calls.mono (H3.out _ q2) ?_
            rintro e X3 ⟨rfl, q3'⟩
            have q3 := q2.trans (q3'.mono q2.size)
            go_wp2_with fail
            refine Calls.mono (H4.out _ q3) ?_
            rintro e X4 ⟨rfl, q4'⟩
            have q4 := q3.trans (q4'.mono q3.size)
            go_wp2
            go_roundw
            case rel => exact ⟨k + 1, by omega, by go_num, hb.trans (q4.mono hb.size)⟩
            case measure => simp [intOf] <;> omega
          · rw [if_neg (by simpa using h0)] at H1
            generalize fitE n f s.data.toList = E at *
            have h4 : (E == 0) = false := by simpa using h0
            clear h0 HV
            go_wp2_with fail
            refine Calls.mono H1.out ?_
            rintro e X1 ⟨rfl, q1⟩
            go_wp2
            go_roundw
            case rel => exact ⟨k + 1, by omega, by go_num, hb.trans (q1.mono hb.size)⟩
            case measure => simp [intOf] <;> omega
        · go_wp2
          go_ret
          exact ⟨rfl, hbk.trans (hb.mono hzk)⟩
    · refine Calls.mono (col_bad (s.size : Int) t hcol V) ?_
      rintro e W6 ⟨rfl, hb6⟩
      generalize colE (s.size : Int) t.data.toList = Ec at *
      have hEc : (Ec == 0) = false := by simpa using hcol
      have hownk := own_below4 hown hb6
      have hbk := hbc.trans (hb6.mono hzc)
      have rork := ror.below hb6 ror.lt
      obtain ⟨L, Z, hmat⟩ := mat_of_own hownk (by rfl) (fun k u hu => by
        match k, hu with
        | 0, hu => simp at hu; subst hu; exact ⟨n0, f0, HV0.out.below hbk⟩
        | 1, hu => simp at hu; subst hu; exact ⟨s.size, dr, NumsAt.of_row rork (by unfold maxLen; omega)⟩
        | k + 2, hu => simp at hu)
      clear hcol hown hbc hownk hb6 ror rork
      generalize W6 = Wk at *
      have hzk := hbk.size
      obtain ⟨a9, c9, R, heq9, hlen9, hrows, hnums⟩ := hmat
      cases heq9
      have HROW : Hid _ := hrows
      have HNUM : Hid _ := hnums
      clear hrows hnums
      go_wp2
      go_loopw [71] (fun i W => ∃ k : Nat, k ≤ 2 ∧ i = .int .i64 k ∧ Below Wk.heap.size Wk W) (fun i _ => ((2 : Int) - intOf i).toNat)
      case atStart => exact ⟨0, by omega, rfl, Below.refl _ _⟩
      case round =>
        obtain ⟨k, hk, rfl, hb⟩ := hrel
        by_cases hlt : k < 2
        · obtain ⟨b, o, e9, hc0⟩ := HROW.out k hlt
          cases e9
          have hcell := (hb.cell (cell_block hc0)).trans hc0
          have hv := (HNUM.out k hlt).below hb
          have HV := (show Hid (NumsAt wr (R k) (L k) (Z k)) from hv)
          clear hc0 hv
          generalize R k = u at *
          generalize L k = n at *
          generalize Z k = f at *
          have H1 := (show Hid (Calls Try.prog 17 #[u, .string s] wr fun e w' => e = .returned (.tuple #[.string ⟨(if fitE n f s.data.toList = 0 then putL n f s.data.toList else []).toArray⟩, .int .i64 (fitE n f s.data.toList)]) ∧ Below wr.heap.size wr w') from ywrite_any u n f s wr HV.out)
          rcases fitE_cases n f s.data.toList with ⟨h0, hg, _, hn, hl, hlet⟩ | h0
          · rw [h0, if_pos rfl] at H1
            have hpb := put_back hg hn
            obtain ⟨T1, hT1⟩ : ∃ T : ByteArray, T = ⟨(putL n f s.data.toList).toArray⟩ := ⟨_, rfl⟩
            obtain ⟨T2, hT2⟩ : ∃ T : ByteArray, T = ⟨(putL n (backF f n) s.data.toList).toArray⟩ := ⟨_, rfl⟩
            have l1 : T1.data.toList = putL n f s.data.toList := by rw [hT1]
            have l2 : T2.data.toList = putL n (backF f n) s.data.toList := by rw [hT2]
            have f1 : fitE n f T1.data.toList = 0 := by rw [l1]; exact fitE_of hg (putL_lets hg.lt hlet hn) (by rw [putL_length])
            have f2 : fitE n f T2.data.toList = 0 := by rw [l2]; exact fitE_of hg (putL_lets hg.back.1.lt hlet hn) (by rw [putL_length])
            have es : (⟨s.data.toList.toArray⟩ : ByteArray) = s := by cases s; simp
            have H2 := (show Hid (∀ W, Below wr.heap.size wr W → Calls Try.prog 19 #[u, .string T1] W fun e w' => e = .returned (.tuple #[.string s, .int .i64 0]) ∧ Below W.heap.size W w') from fun W hW => by
              have := yread_any u n f T1 W (HV.out.below hW)
              rw [f1, if_pos rfl, l1, hpb.1, es] at this
              exact this)
            have H3 := (show Hid (∀ W, Below wr.heap.size wr W → Calls Try.prog 19 #[u, .string s] W fun e w' => e = .returned (.tuple #[.string T2, .int .i64 0]) ∧ Below W.heap.size W w') from fun W hW => by
              have := yread_any u n f s W (HV.out.below hW)
              rw [h0, if_pos rfl, ← hT2] at this
              exact this)
            have H4 := (show Hid (∀ W, Below wr.heap.size wr W → Calls Try.prog 17 #[u, .string T2] W fun e w' => e = .returned (.tuple #[.string s, .int .i64 0]) ∧ Below W.heap.size W w') from fun W hW => by
              have := ywrite_any u n f T2 W (HV.out.below hW)
              rw [f2, if_pos rfl, l2, hpb.2, es] at this
              exact this)
            rw [← hT1] at H1
            clear hT1 hT2 l1 l2 f1 f2 es hpb hg hn hl hlet h0 HV
            go_wp2_with fail
            refine Calls.mono H1.out ?_
            rintro e X1 ⟨rfl, q1⟩
            go_wp2_with fail
            refine Calls.mono (H2.out _ q1) ?_
            rintro e X2 ⟨rfl, q2'⟩
            have q2 := q1.trans (q2'.mono q1.size)
            go_wp2_with fail
            refine Calls.mono (H3.out _ q2) ?_
            rintro e X3 ⟨rfl, q3'⟩
            have q3 := q2.trans (q3'.mono q2.size)
            go_wp2_with fail
            refine Calls.mono (H4.out _ q3) ?_
            rintro e X4 ⟨rfl, q4'⟩
            have q4 := q3.trans (q4'.mono q3.size)
            go_wp2
            go_roundw
            case rel => exact ⟨k + 1, by omega, by go_num, hb.trans (q4.mono hb.size)⟩
            case measure => simp [intOf] <;> omega
          · rw [if_neg (by simpa using h0)] at H1
            generalize fitE n f s.data.toList = E at *
            have h4 : (E == 0) = false := by simpa using h0
            clear h0 HV
            go_wp2_with fail
            refine Calls.mono H1.out ?_
            rintro e X1 ⟨rfl, q1⟩
            go_wp2
            go_roundw
            case rel => exact ⟨k + 1, by omega, by go_num, hb.trans (q1.mono hb.size)⟩
            case measure => simp [intOf] <;> omega
        · go_wp2
          go_ret
          exact ⟨rfl, hbk.trans (hb.mono hzk)⟩
  · refine Calls.mono (rail_bad s.size cnt hr _) ?_
    rintro e W2 ⟨rfl, hb2⟩
    have hown := own_below4 hown1 hb2
    have hbc := hbc1.trans (hb2.mono hbc1.size)
    have hz5 : W1.heap.size ≤ W2.heap.size := by have := hb2.size; simp at this; omega
    clear hr hb2 hown1 hbc1 hzw
    go_wp2_with fail
    have hzc := hbc.size
    by_cases hcol : colE (s.size : Int) t.data.toList = 0
    · obtain ⟨hn2, hk1, hk2, hlet, hl1, hl2⟩ := colE_zero hcol
      rw [← Pl.size_len] at hl1 hl2
      refine Calls.mono (col_ok s.size t (by omega) hk1 hk2 hl1 hl2 W2) ?_
      rintro e W6 ⟨Gc, dc, tc, rfl, roc, hb6, hGc, hoc, hsc, _⟩
      have hgc : GoodO s.size dc := GoodO.of_order hoc (by omega)
      have HW2 := (show Hid (Calls Try.prog 15 #[.slice (some ⟨Gc, 0, none⟩) s.size s.size] W6 fun e w' => e = .returned (.int .i64 0) ∧ Below W6.heap.size W6 w') from by
        have := wrong_any (.slice (some ⟨Gc, 0, none⟩) s.size s.size) s.size dc W6 (NumsAt.of_row roc (by unfold maxLen; omega))
        rw [(ordE_zero s.size dc).2 hgc] at this
        exact this)
      have hown6 := own_below4 hown hb6
      have hbc6 := hbc.trans (hb6.mono hzc)
      have hz6 := hb6.size
      clear hcol hk1 hk2 hlet hoc hsc hgc hb6 hown hbc 
      go_wp2_with fail
      refine Calls.mono HW2.out ?_
      rintro e W7 ⟨rfl, hb7⟩
      have hown7 := own_below4 hown6 hb7
      have hbc7 := hbc6.trans (hb7.mono hbc6.size)
      have hz7 := hb7.size
      have roc7 := roc.below hb7 roc.lt
      clear hb7 hown6 hbc6 roc  HW2
      go_wp2_with (first
        | (at_builtin; refine wpList_append_own _ rfl _ _ 37 rfl W1.heap.size 22 i0 (.slice none 0 0) 1 24 Try.underlying37 hi0 hz0 hz1 hz2 rfl (by decide) _ _ _ rfl (World.ownsRow.alloc hown7 _) ⟨W7.heap.size, 0, none⟩ 1 1 [.slice (some ⟨Gc, 0, none⟩) s.size s.size] rfl rfl (cell_one_new _ _ _) (fun u hu => by simp at hu; subst hu; rfl) (by unfold maxLen; omega) (by omega) (by simp; omega) ?_; intro v5 w5 hown5 hgrow5 _; obtain ⟨g5, c5, rfl⟩ := own_form (show w5.ownsRow W1.heap.size 22 1 v5 2 _ from hown5)))
      have hbk := (hbc7.alloc hbc7.size (.cells #[.slice (some ⟨Gc, 0, none⟩) s.size s.size] 22)).grown hgrow5 (by simp; omega) (fun k hk => by have := (World.ownsRow.lt hown7 k hk).1; omega)
      have rock := row_kept4 (roc7.alloc (.cells #[.slice (some ⟨Gc, 0, none⟩) s.size s.size] 22)) hgrow5 (own_type4 hown7 roc7)
      obtain ⟨L, Z, hmat⟩ := mat_of_own (n := 2) hown5 (by rfl) (fun k u hu => by
        match k, hu with
        | 0, hu => simp at hu; subst hu; exact ⟨n0, f0, HV0.out.below hbk⟩
        | 1, hu => simp at hu; subst hu; exact ⟨s.size, dc, NumsAt.of_row rock (by unfold maxLen; omega)⟩
        | k + 2, hu => simp at hu)
      clear hown5 hgrow5 hown7 hbc7 roc7 rock 
      generalize w5 = Wk at *
      have hzk := hbk.size
      obtain ⟨a9, c9, R, heq9, hlen9, hrows, hnums⟩ := hmat
      cases heq9
      have HROW : Hid _ := hrows
      have HNUM : Hid _ := hnums
      clear hrows hnums
      go_wp2
      go_loopw [71] (fun i W => ∃ k : Nat, k ≤ 2 ∧ i = .int .i64 k ∧ Below Wk.heap.size Wk W) (fun i _ => ((2 : Int) - intOf i).toNat)
      case atStart => exact ⟨0, by omega, rfl, Below.refl _ _⟩
      case round =>
        obtain ⟨k, hk, rfl, hb⟩ := hrel
        by_cases hlt : k < 2
        · obtain ⟨b, o, e9, hc0⟩ := HROW.out k hlt
          cases e9
          have hcell := (hb.cell (cell_block hc0)).trans hc0
          have hv := (HNUM.out k hlt).below hb
          have HV := (show Hid (NumsAt wr (R k) (L k) (Z k)) from hv)
          clear hc0 hv
          generalize R k = u at *
          generalize L k = n at *
          generalize Z k = f at *
          have H1 := (show Hid (Calls Try.prog 17 #[u, .string s] wr fun e w' => e = .returned (.tuple #[.string ⟨(if fitE n f s.data.toList = 0 then putL n f s.data.toList else []).toArray⟩, .int .i64 (fitE n f s.data.toList)]) ∧ Below wr.heap.size wr w') from ywrite_any u n f s wr HV.out)
          rcases fitE_cases n f s.data.toList with ⟨h0, hg, _, hn, hl, hlet⟩ | h0
          · rw [h0, if_pos rfl] at H1
            have hpb := put_back hg hn
            obtain ⟨T1, hT1⟩ : ∃ T : ByteArray, T = ⟨(putL n f s.data.toList).toArray⟩ := ⟨_, rfl⟩
            obtain ⟨T2, hT2⟩ : ∃ T : ByteArray, T = ⟨(putL n (backF f n) s.data.toList).toArray⟩ := ⟨_, rfl⟩
            have l1 : T1.data.toList = putL n f s.data.toList := by rw [hT1]
            have l2 : T2.data.toList = putL n (backF f n) s.data.toList := by rw [hT2]
            have f1 : fitE n f T1.data.toList = 0 := by rw [l1]; exact fitE_of hg (putL_lets hg.lt hlet hn) (by rw [putL_length])
            have f2 : fitE n f T2.data.toList = 0 := by rw [l2]; exact fitE_of hg (putL_lets hg.back.1.lt hlet hn) (by rw [putL_length])
            have es : (⟨s.data.toList.toArray⟩ : ByteArray) = s := by cases s; simp
            have H2 := (show Hid (∀ W, Below wr.heap.size wr W → Calls Try.prog 19 #[u, .string T1] W fun e w' => e = .returned (.tuple #[.string s, .int .i64 0]) ∧ Below W.heap.size W w') from fun W hW => by
              have := yread_any u n f T1 W (HV.out.below hW)
              rw [f1, if_pos rfl, l1, hpb.1, es] at this
              exact this)
            have H3 := (show Hid (∀ W, Below wr.heap.size wr W → Calls Try.prog 19 #[u, .string s] W fun e w' => e = .returned (.tuple #[.string T2, .int .i64 0]) ∧ Below W.heap.size W w') from fun W hW => by
              have := yread_any u n f s W (HV.out.below hW)
              rw [h0, if_pos rfl, ← hT2] at this
              exact this)
            have H4 := (show Hid (∀ W, Below wr.heap.size wr W → Calls Try.prog 17 #[u, .string T2] W fun e w' => e = .returned (.tuple #[.string s, .int .i64 0]) ∧ Below W.heap.size W w') from fun W hW => by
              have := ywrite_any u n f T2 W (HV.out.below hW)
              rw [f2, if_pos rfl, l2, hpb.2, es] at this
              exact this)
            rw [← hT1] at H1
            clear hT1 hT2 l1 l2 f1 f2 es hpb hg hn hl hlet h0 HV
            go_wp2_with fail
            refine Calls.mono H1.out ?_
            rintro e X1 ⟨rfl, q1⟩
            go_wp2_with fail
            refine Calls.mono (H2.out _ q1) ?_
            rintro e X2 ⟨rfl, q2'⟩
            have q2 := q1.trans (q2'.mono q1.size)
            go_wp2_with fail
            refine Calls.mono (H3.out _ q2) ?_
            rintro e X3 ⟨rfl, q3'⟩
            have q3 := q2.trans (q3'.mono q2.size)
            go_wp2_with fail
            refine Calls.mono (H4.out _ q3) ?_
            rintro e X4 ⟨rfl, q4'⟩
            have q4 := q3.trans (q4'.mono q3.size)
            go_wp2
            go_roundw
            case rel => exact ⟨k + 1, by omega, by go_num, hb.trans (q4.mono hb.size)⟩
            case measure => simp [intOf] <;> omega
          · rw [if_neg (by simpa using h0)] at H1
            generalize fitE n f s.data.toList = E at *
            have h4 : (E == 0) = false := by simpa using h0
            clear h0 HV
            go_wp2_with fail
            refine Calls.mono H1.out ?_
            rintro e X1 ⟨rfl, q1⟩
            go_wp2
            go_roundw
            case rel => exact ⟨k + 1, by omega, by go_num, hb.trans (q1.mono hb.size)⟩
            case measure => simp [intOf] <;> omega
        · go_wp2
          go_ret
          exact ⟨rfl, hbk.trans (hb.mono hzk)⟩
    · refine Calls.mono (col_bad (s.size : Int) t hcol W2) ?_
      rintro e W6 ⟨rfl, hb6⟩
      generalize colE (s.size : Int) t.data.toList = Ec at *
      have hEc : (Ec == 0) = false := by simpa using hcol
      have hownk := own_below4 hown hb6
      have hbk := hbc.trans (hb6.mono hzc)
      obtain ⟨L, Z, hmat⟩ := mat_of_own hownk (by rfl) (fun k u hu => by
        match k, hu with
        | 0, hu => simp at hu; subst hu; exact ⟨n0, f0, HV0.out.below hbk⟩
        | k + 1, hu => simp at hu)
      clear hcol hown hbc hownk hb6 
      generalize W6 = Wk at *
      have hzk := hbk.size
      obtain ⟨a9, c9, R, heq9, hlen9, hrows, hnums⟩ := hmat
      cases heq9
      have HROW : Hid _ := hrows
      have HNUM : Hid _ := hnums
      clear hrows hnums
      go_wp2
      go_loopw [71] (fun i W => ∃ k : Nat, k ≤ 1 ∧ i = .int .i64 k ∧ Below Wk.heap.size Wk W) (fun i _ => ((1 : Int) - intOf i).toNat)
      case atStart => exact ⟨0, by omega, rfl, Below.refl _ _⟩
      case round =>
        obtain ⟨k, hk, rfl, hb⟩ := hrel
        by_cases hlt : k < 1
        · obtain ⟨b, o, e9, hc0⟩ := HROW.out k hlt
          cases e9
          obtain rfl : k = 0 := by omega
          have hcell := (hb.cell (cell_block hc0)).trans hc0
          have hv := (HNUM.out 0 hlt).below hb
          have HV := (show Hid (NumsAt wr (R 0) (L 0) (Z 0)) from hv)
          clear hc0 hv
          generalize R 0 = u at *
          generalize L 0 = n at *
          generalize Z 0 = f at *
          have H1 := (show Hid (Calls Try.prog 17 #[u, .string s] wr fun e w' => e = .returned (.tuple #[.string ⟨(if fitE n f s.data.toList = 0 then putL n f s.data.toList else []).toArray⟩, .int .i64 (fitE n f s.data.toList)]) ∧ Below wr.heap.size wr w') from ywrite_any u n f s wr HV.out)
          rcases fitE_cases n f s.data.toList with ⟨h0, hg, _, hn, hl, hlet⟩ | h0
          · rw [h0, if_pos rfl] at H1
            have hpb := put_back hg hn
            obtain ⟨T1, hT1⟩ : ∃ T : ByteArray, T = ⟨(putL n f s.data.toList).toArray⟩ := ⟨_, rfl⟩
            obtain ⟨T2, hT2⟩ : ∃ T : ByteArray, T = ⟨(putL n (backF f n) s.data.toList).toArray⟩ := ⟨_, rfl⟩
            have l1 : T1.data.toList = putL n f s.data.toList := by rw [hT1]
            have l2 : T2.data.toList = putL n (backF f n) s.data.toList := by rw [hT2]
            have f1 : fitE n f T1.data.toList = 0 := by rw [l1]; exact fitE_of hg (putL_lets hg.lt hlet hn) (by rw [putL_length])
            have f2 : fitE n f T2.data.toList = 0 := by rw [l2]; exact fitE_of hg (putL_lets hg.back.1.lt hlet hn) (by rw [putL_length])
            have es : (⟨s.data.toList.toArray⟩ : ByteArray) = s := by cases s; simp
            have H2 := (show Hid (∀ W, Below wr.heap.size wr W → Calls Try.prog 19 #[u, .string T1] W fun e w' => e = .returned (.tuple #[.string s, .int .i64 0]) ∧ Below W.heap.size W w') from fun W hW => by
              have := yread_any u n f T1 W (HV.out.below hW)
              rw [f1, if_pos rfl, l1, hpb.1, es] at this
              exact this)
            have H3 := (show Hid (∀ W, Below wr.heap.size wr W → Calls Try.prog 19 #[u, .string s] W fun e w' => e = .returned (.tuple #[.string T2, .int .i64 0]) ∧ Below W.heap.size W w') from fun W hW => by
              have := yread_any u n f s W (HV.out.below hW)
              rw [h0, if_pos rfl, ← hT2] at this
              exact this)
            have H4 := (show Hid (∀ W, Below wr.heap.size wr W → Calls Try.prog 17 #[u, .string T2] W fun e w' => e = .returned (.tuple #[.string s, .int .i64 0]) ∧ Below W.heap.size W w') from fun W hW => by
              have := ywrite_any u n f T2 W (HV.out.below hW)
              rw [f2, if_pos rfl, l2, hpb.2, es] at this
              exact this)
            rw [← hT1] at H1
            clear hT1 hT2 l1 l2 f1 f2 es hpb hg hn hl hlet h0 HV
            go_wp2_with fail
            refine Calls.mono H1.out ?_
            rintro e X1 ⟨rfl, q1⟩
            go_wp2_with fail
            refine Calls.mono (H2.out _ q1) ?_
            rintro e X2 ⟨rfl, q2'⟩
            have q2 := q1.trans (q2'.mono q1.size)
            go_wp2_with fail
            refine Calls.mono (H3.out _ q2) ?_
            rintro e X3 ⟨rfl, q3'⟩
            have q3 := q2.trans (q3'.mono q2.size)
            go_wp2_with fail
            refine Calls.mono (H4.out _ q3) ?_
            rintro e X4 ⟨rfl, q4'⟩
            have q4 := q3.trans (q4'.mono q3.size)
            go_wp2
            go_roundw
            case rel => exact ⟨1, by omega, by first | rfl | go_num, hb.trans (q4.mono hb.size)⟩
            case measure => simp [intOf] <;> omega
          · rw [if_neg (by simpa using h0)] at H1
            generalize fitE n f s.data.toList = E at *
            have h4 : (E == 0) = false := by simpa using h0
            clear h0 HV
            go_wp2_with fail
            refine Calls.mono H1.out ?_
            rintro e X1 ⟨rfl, q1⟩
            go_wp2
            go_roundw
            case rel => exact ⟨1, by omega, by first | rfl | go_num, hb.trans (q1.mono hb.size)⟩
            case measure => simp [intOf] <;> omega
        · go_wp2
          go_ret
          exact ⟨rfl, hbk.trans (hb.mono hzk)⟩
end Go.Proofs.Ytennpknkcaeafac
