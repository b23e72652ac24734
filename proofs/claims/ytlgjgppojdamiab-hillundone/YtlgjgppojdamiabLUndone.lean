/-
  HillUndone: the walk.
-/
import Derived.Test.YtlgjgppojdamiabWMath
import Derived.Test.YtlgjgppojdamiabHSame
import Derived.Laws.DeepStrings4
namespace Go.Proofs.Ytlgjgppojdamiab
open Go.RowKit PK

/-- What Write answers, where it answers an errno. -/
theorem write_cases (v : Value) (n : Nat) (L : Nat → Nat) (Z : Nat → Nat → Int) (s : ByteArray) (w : World) (hv : MatAt w v n L Z) :
    (∃ E A, (E != 0) = true ∧ ∀ W, Below w.heap.size w W → Calls Try.prog 26 #[v, .string s] W fun e w' => e = .returned (.tuple #[.string ⟨#[]⟩, .agg #[.int .i64 E, .int .i64 A]]) ∧ Below W.heap.size W w') ∨
    (GoodM n Z ∧ (∀ r, r < n → L r = n) ∧ s.size ≤ 65536 ∧ ckE s.data.toList = 0 ∧ ckAt s.data.toList = 0 ∧ Pl.Lets s.data.toList ∧ (fullL n s.data.toList).length ≤ 65536) := by
  have hsl := Pl.size_len s
  rcases matErr_cases n L Z with ⟨h0, hg, hL⟩ | h0
  · rcases ck_cases s.data.toList with ⟨h1, h2, h3, h4⟩ | h1
    · by_cases h5 : 65536 < (fullL n s.data.toList).length
      · exact .inl ⟨4, 0, rfl, fun W hW => hwr_bad3 v n L Z hg hL s (by omega) h1 h2 h5 W (hv.below hW)⟩
      · exact .inr ⟨hg, hL, by omega, h1, h2, h4, by omega⟩
    · exact .inl ⟨_, _, h1, fun W hW => hwr_bad2 v n L Z h0 s h1 W (hv.below hW)⟩
  · exact .inl ⟨_, _, h0, fun W hW => hwr_bad1 v n L Z _ h0 rfl s W (hv.below hW)⟩
set_option maxRecDepth 100000 in
set_option maxHeartbeats 4000000 in
theorem undone_bad (u v : Value) (s : ByteArray) (w : World) (E F : Int) (hE : (E != 0) = true) (hw : ∀ W, Below w.heap.size w W → Calls Try.prog 26 #[u, .string s] W fun e w' => e = .returned (.tuple #[.string ⟨#[]⟩, .agg #[.int .i64 E, .int .i64 F]]) ∧ Below W.heap.size W w') :
    Calls Try.prog 8 #[u, v, .string s] w fun e w' => e = .returned (.bool true) ∧ Below w.heap.size w w' := by
  have HW := (show Hid (∀ W, Below w.heap.size w W → Calls Try.prog 26 #[u, .string s] W fun e w' => e = .returned (.tuple #[.string ⟨#[]⟩, .agg #[.int .i64 E, .int .i64 F]]) ∧ Below W.heap.size W w') from hw)
  clear hw
  go_enter Try.func8, Try.ntmps8
  go_wp2_with fail
  refine Calls.mono (halive_any w) ?_
  rintro e W1 ⟨rfl, hb⟩
  have hz := hb.size
  go_wp2_with fail
  refine Calls.mono (HW.out W1 hb) ?_
  rintro e W2 ⟨rfl, hc⟩
  have hz2 := hc.size
  replace hb := hb.trans (hc.mono hz)
  clear hc HW
  go_wp2
  go_ret
  exact ⟨rfl, hb.alloc (by omega) _⟩
theorem ck_of (l : List UInt8) (h : Pl.Lets l) (hl : l.length ≤ 65536) : ckE l = 0 ∧ ckAt l = 0 := by
  unfold ckE ckAt
  rw [if_neg (by omega), if_neg (by omega)]
  exact chk_none l (Pl.chk_ok l h)
theorem dec_X : ∀ c, c ≤ 3 → ∀ pos, pos < c → Utf8.decode ⟨(List.replicate c 88).toArray⟩ pos = (88, 1) := by decide
theorem ext_head (s : ByteArray) (l : List UInt8) : (⟨(s.data.toList ++ l).toArray⟩ : ByteArray).extract 0 s.size = s := by
  rw [← cat_bytes]
  apply ByteArray.ext
  rw [ByteArray.data_extract, ByteArray.data_append]
  have : s.size = s.data.size := rfl
  rw [this]
  simp
theorem ext_tail (s : ByteArray) (l : List UInt8) (m : Nat) (hm : m = s.size + l.length) : (⟨(s.data.toList ++ l).toArray⟩ : ByteArray).extract s.size m = ⟨l.toArray⟩ := by
  subst hm
  rw [← cat_bytes]
  apply ByteArray.ext
  rw [ByteArray.data_extract, ByteArray.data_append]
  have : s.size = s.data.size := rfl
  rw [this]
  simp
theorem prod_good {n m : Nat} {L M : Nat → Nat} {A B : Nat → Nat → Int} (h : prodErr m M B n L A = 0) : GoodM m B ∧ (∀ r, r < m → M r = m) ∧ n = m := by
  unfold prodErr at h
  rcases matErr_cases m M B with ⟨hB0, hB, hM⟩ | h0
  · rw [if_neg (by simp [hB0])] at h
    rcases matErr_cases n L A with ⟨hA0, _, _⟩ | h1
    · rw [if_neg (by simp [hA0])] at h
      by_cases e : m = n
      · exact ⟨hB, hM, e.symm⟩
      · rw [if_pos e] at h; cases h
    · have h1' : matErr n L A ≠ 0 := by simpa using h1
      rw [if_pos h1'] at h
      exact absurd h h1'
  · have h0' : matErr m M B ≠ 0 := by simpa using h0
    rw [if_pos h0'] at h
    exact absurd h h0'
set_option maxRecDepth 100000 in
set_option maxHeartbeats 8000000 in
theorem undone_ok (u v : Value) (n m : Nat) (L M : Nat → Nat) (A B : Nat → Nat → Int) (s : ByteArray) (w : World) (hu : MatAt w u n L A) (hv : MatAt w v m M B) (hg : GoodM n A) (hL : ∀ r, r < n → L r = n) (hs : s.size ≤ 65536) (hk1 : ckE s.data.toList = 0) (hk2 : ckAt s.data.toList = 0) (hlet : Pl.Lets s.data.toList) (hshort : (fullL n s.data.toList).length ≤ 65536) :
    Calls Try.prog 8 #[u, v, .string s] w fun e w' => e = .returned (.bool true) ∧ Below w.heap.size w w' := by
  have h1 := hg.pos
  have h4 := hg.le
  have HG : Hid (GoodM n A) := hg
  have HL : Hid (∀ r, r < n → L r = n) := hL
  obtain ⟨a9, c9, rfl, _⟩ := hu.len
  obtain ⟨a8, c8, rfl, _⟩ := hv.len
  have HU := (show Hid (MatAt w (.slice a9 n c9) n L A) from hu)
  have HV := (show Hid (MatAt w (.slice a8 m c8) m M B) from hv)
  have HK := (show Hid (ckE s.data.toList = 0 ∧ ckAt s.data.toList = 0 ∧ Pl.Lets s.data.toList) from ⟨hk1, hk2, hlet⟩)
  have hsl := Pl.size_len s
  have hfl := fullL_length n h1 s.data.toList
  rw [← hsl] at hfl
  have HFF := (show Hid (fullL n s.data.toList = fullL n s.data.toList) from rfl)
  obtain ⟨full, hfull⟩ : ∃ full, full = fullL n s.data.toList := ⟨_, rfl⟩
  have HFULL : Hid (full = fullL n s.data.toList) := hfull
  rw [← hfull] at hfl hshort
  have HLF : Hid (Pl.Lets full) := by rw [Hid, hfull]; exact lets_full n _ hlet
  have HSZ : Hid (s.size = s.data.toList.length) := hsl
  clear hu hv hg hL hk1 hk2 hlet hfull HFF hsl
  obtain ⟨F, hF⟩ : ∃ F, F = full.length := ⟨_, rfl⟩
  rw [← hF] at hfl hshort
  have HFL : Hid (F = full.length) := hF
  clear hF
  have hS : (⟨(encL n A full F).toArray⟩ : ByteArray).size = F := by simp [ByteArray.size, encL_length]
  have HSL : Hid ((⟨(encL n A full F).toArray⟩ : ByteArray).data.toList = encL n A full F) := by simp [Hid]
  have HWR := (show Hid (∀ W, Below w.heap.size w W → Calls Try.prog 26 #[.slice a9 n c9, .string s] W fun e w' => e = .returned (.tuple #[.string ⟨(encL n A full F).toArray⟩, .agg #[.int .i64 0, .int .i64 0]]) ∧ Below W.heap.size W w') from fun W hW => by
    have := hwr_ok (.slice a9 n c9) n L A HG.out HL.out s hs HK.out.1 HK.out.2.1 HK.out.2.2 (by rw [← HFULL.out, ← HFL.out]; exact hshort) W (HU.out.below hW)
    rw [← HFULL.out, ← HFL.out] at this
    exact this)
  obtain ⟨S, hSS⟩ : ∃ S : ByteArray, S = ⟨(encL n A full F).toArray⟩ := ⟨_, rfl⟩
  rw [← hSS] at hS HSL HWR
  clear hSS
  obtain ⟨hf1, hf2, hf3⟩ := hfl
  have hm0 : ((F : Nat) : Int) % ((n : Nat) : Int) = 0 := by omega
  have hne : (((n : Nat) : Int) == 0) = false := by simp; omega
  have HF1 : Hid (F % n = 0) := hf1
  obtain ⟨p, hp⟩ : ∃ p, p = n * n := ⟨_, rfl⟩
  have hpw : IntKind.i64.wrap (((n : Nat) : Int) * ((n : Nat) : Int)) = ((p : Nat) : Int) := by
    have : n * n ≤ 16 := Nat.mul_le_mul h4 h4
    rw [← Int.natCast_mul, ← hp, IntKind.wrap_i64]; omega
  have HCKS := (show Hid (ckE (encL n A full F) = 0 ∧ ckAt (encL n A full F) = 0) from ck_of _ (enc_lets _ _ _ _) (by rw [encL_length]; exact hshort))
  have HFND := (show Hid (p ≤ s.size → ∀ W, Calls Try.prog 28 #[.int .i64 (n : Nat), .string s, .string S] W fun e w' => ∃ v, e = .returned (.tuple #[v, .int .i64 (fErr n (colF n s.data.toList))]) ∧ FindIs w' v n (colF n s.data.toList) (colF n S.data.toList) ∧ Below W.heap.size W w') from fun hps W =>
    find_head n h1 h4 s S HK.out.1 HK.out.2.1 (by rw [HSL.out]; exact HCKS.out.1) (by rw [HSL.out]; exact HCKS.out.2) HK.out.2.2 (by rw [HSL.out]; exact enc_lets _ _ _ _) hs (by omega) (by omega) (by omega) W)
  have HFIS := (show Hid (p ≤ s.size → (recOf (detL n (colF n s.data.toList))).2 = 0 → ∀ y, y < n → ∀ x, x < n → mulL n (colF n S.data.toList) (invL n (colF n s.data.toList)) y x = A y x) from fun hps hr y hy x hx => by
    rw [HSL.out, HFL.out, HFULL.out]
    exact find_is n h1 h4 A HG.out.num s.data.toList (by rw [← HSZ.out, ← hp]; exact hps) hr y x hy hx)
  have HPE := (show Hid (prodErr m M B n L A = 0 → GoodM m B ∧ (∀ r, r < m → M r = m) ∧ n = m) from fun he => prod_good he)
  obtain ⟨c, hc0⟩ : ∃ c, c = F - s.size := ⟨_, rfl⟩
  have HTX : Hid (full = s.data.toList ++ List.replicate c 88) := by
    rw [Hid, HFULL.out]
    have hz := HFL.out
    rw [HFULL.out] at hz
    unfold fullL at hz ⊢
    rw [List.length_append, List.length_replicate] at hz
    have hsz := HSZ.out
    congr 2
    omega
  clear hf1 hp
  go_enter Try.func8, Try.ntmps8
  go_wp2_with fail
  refine Calls.mono (halive_any w) ?_
  rintro e W1 ⟨rfl, hb⟩
  have hz := hb.size
  go_wp2_with fail
  refine Calls.mono (HWR.out W1 hb) ?_
  rintro e W2 ⟨rfl, hc⟩
  have hz2 := hc.size
  replace hb := (hb.trans (hc.mono hz)).alloc (by omega) (.cells #[.int .i64 0, .int .i64 0] 37)
  have hzA : w.heap.size ≤ (W2.alloc (.cells #[.int .i64 0, .int .i64 0] 37)).heap.size := hb.size
  clear hc hz hz2
  go_wp2_with fail
  generalize W2.alloc (.cells #[.int .i64 0, .int .i64 0] 37) = Y0 at *
  rcases recOf_cases (detL n A) with hr | hr
  · refine Calls.mono (hinv_ok _ n L A HG.out HL.out hr Y0 (HU.out.below hb)) ?_
    rintro e Y1 ⟨xv, rfl, hxv, hc⟩
    have hz9 := hc.size
    replace hb := hb.trans (hc.mono hzA)
    replace hzA := Nat.le_trans hzA hz9
    clear hc hz9
    have HWX := (show Hid (∀ W x, MatAt W x n (fun _ => n) (invL n A) → Calls Try.prog 26 #[x, .string S] W fun e w' => e = .returned (.tuple #[.string ⟨full.toArray⟩, .agg #[.int .i64 0, .int .i64 0]]) ∧ Below W.heap.size W w') from fun W x hx => by
      have := hwr_ok x n (fun _ => n) (invL n A) (good_inv h1 h4 A) (fun _ _ => rfl) S (by omega) (by rw [HSL.out]; exact HCKS.out.1) (by rw [HSL.out]; exact HCKS.out.2) (by rw [HSL.out]; exact enc_lets _ _ _ _) (by rw [HSL.out, full_self n _ (by rw [encL_length]; exact HF1.out), encL_length]; exact hshort) W hx
      rw [HSL.out, full_self n _ (by rw [encL_length]; exact HF1.out), encL_length] at this
      have e5 : encL n (invL n A) (encL n A full F) F = full := by rw [HFL.out]; exact undo_list n h1 h4 A hr full HLF.out (by rw [← HFL.out]; exact HF1.out)
      rw [e5] at this
      exact this)
    clear hr
    obtain ⟨T, hT⟩ : ∃ T : ByteArray, T = ⟨full.toArray⟩ := ⟨_, rfl⟩
    have hTs : T.size = F := by rw [hT, HFL.out]; simp [ByteArray.size]
    have hx1 : T.extract 0 s.size = s := by rw [hT, HTX.out]; exact ext_head s _
    have hx2 : T.extract s.size F = ⟨(List.replicate c 88).toArray⟩ := by rw [hT, HTX.out]; exact ext_tail s _ F (by simp; omega)
    rw [← hT] at HWX
    clear hT
    obtain ⟨X, hX⟩ : ∃ X : ByteArray, X = ⟨(List.replicate c 88).toArray⟩ := ⟨_, rfl⟩
    have hXs : X.size = c := by rw [hX]; simp [ByteArray.size]
    have HXD : Hid (∀ pos, pos < c → Utf8.decode X pos = (88, 1)) := by rw [Hid, hX]; exact dec_X c (by omega)
    rw [← hX] at hx2
    clear hX
    go_wp2_with fail
    refine Calls.mono (HWX.out _ xv hxv) ?_
    rintro e Y2 ⟨rfl, hc⟩
    have hz9 := hc.size
    replace hb := (hb.trans (hc.mono hzA)).alloc (by omega) (.cells #[.int .i64 0, .int .i64 0] 37)
    have hzB : w.heap.size ≤ (Y2.alloc (.cells #[.int .i64 0, .int .i64 0] 37)).heap.size := hb.size
    have hY2w : Hid (w.heap.size ≤ Y2.heap.size) := by rw [Hid]; omega
    clear hc hz9 HWX hxv hzA
    obtain ⟨Y3, hY3⟩ : ∃ Y3, Y3 = Y2.alloc (.cells #[.int .i64 0, .int .i64 0] 37) := ⟨_, rfl⟩
    have hY3s : Y3.heap.size = Y2.heap.size + 1 := by rw [hY3]; simp
    have hit : (Y3.iter X 0).heap[Y2.heap.size + 1]? = some (.stringIter X 0) := by rw [← hY3s]; exact World.iter_heap Y3 X 0
    rw [← hY3] at hb hzB
    have hbI : Below w.heap.size w (Y3.iter X 0) := hb.alloc hzB _
    rw [hY3] at hit hbI
    clear hY3s
    go_wp2_with fail
    go_loopw [14] (fun _ wr => ∃ pos : Nat, pos ≤ c ∧ wr.heap[Y2.heap.size + 1]? = some (.stringIter X pos) ∧ Below w.heap.size w wr) (fun _ wr => c - wr.iterPos (Y2.heap.size + 1))
    case atStart => exact ⟨0, by omega, hit, hbI⟩
    case round =>
      obtain ⟨pos, hpos, hk, hbR⟩ := hrel
      have hzR := hbR.size
      have hmu : Hid (wr.iterPos (Y2.heap.size + 1) = pos) := iterPos_of hk
      by_cases hpl : pos < c
      · have hnext : ∀ ty, (Instr.next (.pointer (some ⟨Y2.heap.size + 1, 0, none⟩)) true ty).run Try.prog wr = _ := fun ty => Lib.run_next_any_at wr (Y2.heap.size + 1) X pos ty hk (by omega)
        have hk1 := Lib.iterAt_heap wr (Y2.heap.size + 1) X pos (pos + (Utf8.decode X pos).2) hk
        have hbel1 : Below w.heap.size w (wr.iterAt (Y2.heap.size + 1) X (pos + (Utf8.decode X pos).2)) := Lib.below_iterAt hbR (by have := hY2w.out; omega) X _
        rw [HXD.out pos hpl] at hk1 hbel1
        rw [show Utf8.decode X pos = (88, 1) from HXD.out pos hpl] at hnext
        simp only [] at hnext hk1 hbel1
        generalize wr.iterAt (Y2.heap.size + 1) X (pos + 1) = V1 at hnext hk1 hbel1
        clear hk hbR
        go_wp2
        go_roundw
        case rel => exact ⟨pos + 1, by omega, hk1, hbel1⟩
        case measure =>
          rw [hmu.out, iterPos_of hk1]
          omega
      · have hnext : ∀ ty, (Instr.next (.pointer (some ⟨Y2.heap.size + 1, 0, none⟩)) true ty).run Try.prog wr = _ := fun ty => Lib.run_next_end_at wr (Y2.heap.size + 1) X pos ty hk (by omega)
        have hb := hbR
        have hzA := hzR
        clear hk hbR hzR
        go_wp2_with fail
        by_cases hpe : prodErr m M B n L A = 0
        · obtain ⟨hgB, hM, hmn⟩ := HPE.out hpe
          subst hmn
          refine Calls.mono (hprod_ok _ _ n M L B A hgB hM HG.out HL.out _ (HV.out.below hb) (HU.out.below hb)) ?_
          rintro e X1 ⟨pv, rfl, hpv, hc⟩
          have hz9 := hc.size
          replace hb := hb.trans (hc.mono hzA)
          replace hzA := Nat.le_trans hzA hz9
          clear hc hz9
          have HWB := (show Hid (∀ W, Below w.heap.size w W → Calls Try.prog 26 #[.slice a8 n c8, .string S] W fun e w' => e = .returned (.tuple #[.string ⟨(encL n (mulL n B A) full F).toArray⟩, .agg #[.int .i64 0, .int .i64 0]]) ∧ Below W.heap.size W w') from fun W hW => by
            have := hwr_ok (.slice a8 n c8) n M B hgB hM S (by omega) (by rw [HSL.out]; exact HCKS.out.1) (by rw [HSL.out]; exact HCKS.out.2) (by rw [HSL.out]; exact enc_lets _ _ _ _) (by rw [HSL.out, full_self n _ (by rw [encL_length]; exact HF1.out), encL_length]; exact hshort) W (HV.out.below hW)
            rw [HSL.out, full_self n _ (by rw [encL_length]; exact HF1.out), encL_length, comp_list n h4 A B full F HF1.out] at this
            exact this)
          have HWP := (show Hid (∀ W x, MatAt W x n (fun _ => n) (mulL n B A) → Calls Try.prog 26 #[x, .string s] W fun e w' => e = .returned (.tuple #[.string ⟨(encL n (mulL n B A) full F).toArray⟩, .agg #[.int .i64 0, .int .i64 0]]) ∧ Below W.heap.size W w') from fun W x hx => by
            have := hwr_ok x n (fun _ => n) (mulL n B A) (good_mul h1 h4 B A) (fun _ _ => rfl) s hs HK.out.1 HK.out.2.1 HK.out.2.2 (by rw [← HFULL.out, ← HFL.out]; exact hshort) W hx
            rw [← HFULL.out, ← HFL.out] at this
            exact this)
          clear hgB hM
          generalize (⟨(encL n (mulL n B A) full F).toArray⟩ : ByteArray) = PS at *
          go_wp2_with fail
          refine Calls.mono (HWB.out _ hb) ?_
          rintro e X2 ⟨rfl, hc⟩
          replace hpv := hpv.below hc
          have hz9 := hc.size
          replace hb := hb.trans (hc.mono hzA)
          replace hzA := Nat.le_trans hzA hz9
          clear hc hz9
          have q18 := RowAt.new X2 37 #[.int .i64 0, .int .i64 0]
          have hbA := hb.alloc hzA (.cells #[.int .i64 0, .int .i64 0] 37)
          have hpvA := hpv.alloc (.cells #[.int .i64 0, .int .i64 0] 37)
          have hzB : w.heap.size ≤ (X2.alloc (.cells #[.int .i64 0, .int .i64 0] 37)).heap.size := hbA.size
          clear hb hpv hzA
          go_wp2_with fail
          refine Calls.mono (HWP.out _ pv hpvA) ?_
          rintro e X3 ⟨rfl, hc⟩
          have q19 := (q18.below hc q18.lt).alloc (.cells #[.int .i64 0, .int .i64 0] 37)
          have d18 := q19.cell (i := 0) rfl
          have hz9 := hc.size
          have hb := (hbA.trans (hc.mono hzB)).alloc (by omega) (.cells #[.int .i64 0, .int .i64 0] 37)
          have hzA : w.heap.size ≤ (X3.alloc (.cells #[.int .i64 0, .int .i64 0] 37)).heap.size := hb.size
          clear hc hz9 hbA hzB hpvA q18 q19 HWB HWP
          by_cases hnn : s.size < p
          · have hnn' : ((s.size : Nat) : Int) < ((p : Nat) : Int) := by omega
            go_wp2
            go_ret
            exact ⟨rfl, hb⟩
          · have hnn' : ¬ ((s.size : Nat) : Int) < ((p : Nat) : Int) := by omega
            have HFH := (show Hid (∀ W, Calls Try.prog 28 #[.int .i64 (n : Nat), .string s, .string S] W fun e w' => ∃ v, e = .returned (.tuple #[v, .int .i64 (fErr n (colF n s.data.toList))]) ∧ FindIs w' v n (colF n s.data.toList) (colF n S.data.toList) ∧ Below W.heap.size W w') from HFND.out (by omega))
            clear hnn
            go_wp2_with fail
            refine Calls.mono (HFH.out _) ?_
            rintro e Z1 ⟨fv, rfl, hfv, hc⟩
            have hz9 := hc.size
            replace hb := hb.trans (hc.mono hzA)
            replace hzA := Nat.le_trans hzA hz9
            clear hc hz9
            rcases recOf_cases (detL n (colF n s.data.toList)) with hr9 | hr9
            · have HR9 : Hid (fErr n (colF n s.data.toList) = 0) := hr9
              unfold FindIs at hfv
              rw [if_pos HR9.out] at hfv
              have hfv2 : MatAt Z1 fv n (fun _ => n) A := hfv.congr (fun _ _ => rfl) fun y hy x hx => HFIS.out (by omega) hr9 y hy x hx
              rw [HR9.out]
              clear hfv hr9
              go_wp2_with fail
              refine Calls.mono (rsame_ok fv _ n h4 A Z1 hfv2 ((HU.out.square HL.out).below hb)) ?_
              rintro e Z2 ⟨rfl, hc⟩
              have hz9 := hc.size
              replace hb := hb.trans (hc.mono hzA)
              replace hzA := Nat.le_trans hzA hz9
              clear hc hz9
              clear hfv2
              go_wp2
              go_ret
              exact ⟨rfl, hb⟩
            · have HR9 : Hid (fErr n (colF n s.data.toList) = 6) := hr9
              rw [HR9.out]
              clear hfv hr9
              go_wp2
              go_ret
              exact ⟨rfl, hb⟩
        · refine Calls.mono (hprod_bad _ _ m n M L B A _ (by simpa using hpe) rfl _ (HV.out.below hb) (HU.out.below hb)) ?_
          rintro e X1 ⟨rfl, hc⟩
          have hz9 := hc.size
          replace hb := hb.trans (hc.mono hzA)
          replace hzA := Nat.le_trans hzA hz9
          clear hc hz9
          have hpe2 : (prodErr m M B n L A == 0) = false := by simpa using hpe
          generalize prodErr m M B n L A = PE at *
          by_cases hnn : s.size < p
          · have hnn' : ((s.size : Nat) : Int) < ((p : Nat) : Int) := by omega
            go_wp2
            go_ret
            exact ⟨rfl, hb⟩
          · have hnn' : ¬ ((s.size : Nat) : Int) < ((p : Nat) : Int) := by omega
            have HFH := (show Hid (∀ W, Calls Try.prog 28 #[.int .i64 (n : Nat), .string s, .string S] W fun e w' => ∃ v, e = .returned (.tuple #[v, .int .i64 (fErr n (colF n s.data.toList))]) ∧ FindIs w' v n (colF n s.data.toList) (colF n S.data.toList) ∧ Below W.heap.size W w') from HFND.out (by omega))
            clear hnn
            go_wp2_with fail
            refine Calls.mono (HFH.out _) ?_
            rintro e Z1 ⟨fv, rfl, hfv, hc⟩
            have hz9 := hc.size
            replace hb := hb.trans (hc.mono hzA)
            replace hzA := Nat.le_trans hzA hz9
            clear hc hz9
            rcases recOf_cases (detL n (colF n s.data.toList)) with hr9 | hr9
            · have HR9 : Hid (fErr n (colF n s.data.toList) = 0) := hr9
              unfold FindIs at hfv
              rw [if_pos HR9.out] at hfv
              have hfv2 : MatAt Z1 fv n (fun _ => n) A := hfv.congr (fun _ _ => rfl) fun y hy x hx => HFIS.out (by omega) hr9 y hy x hx
              rw [HR9.out]
              clear hfv hr9
              go_wp2_with fail
              refine Calls.mono (rsame_ok fv _ n h4 A Z1 hfv2 ((HU.out.square HL.out).below hb)) ?_
              rintro e Z2 ⟨rfl, hc⟩
              have hz9 := hc.size
              replace hb := hb.trans (hc.mono hzA)
              replace hzA := Nat.le_trans hzA hz9
              clear hc hz9
              clear hfv2
              go_wp2
              go_ret
              exact ⟨rfl, hb⟩
            · have HR9 : Hid (fErr n (colF n s.data.toList) = 6) := hr9
              rw [HR9.out]
              clear hfv hr9
              go_wp2
              go_ret
              exact ⟨rfl, hb⟩
  · refine Calls.mono (hinv_none _ n L A HG.out HL.out hr Y0 (HU.out.below hb)) ?_
    rintro e Y1 ⟨rfl, hc⟩
    have hz9 := hc.size
    replace hb := hb.trans (hc.mono hzA)
    replace hzA := Nat.le_trans hzA hz9
    clear hc hz9
    clear hr
    go_wp2_with fail
    by_cases hpe : prodErr m M B n L A = 0
    · obtain ⟨hgB, hM, hmn⟩ := HPE.out hpe
      subst hmn
      refine Calls.mono (hprod_ok _ _ n M L B A hgB hM HG.out HL.out _ (HV.out.below hb) (HU.out.below hb)) ?_
      rintro e X1 ⟨pv, rfl, hpv, hc⟩
      have hz9 := hc.size
      replace hb := hb.trans (hc.mono hzA)
      replace hzA := Nat.le_trans hzA hz9
      clear hc hz9
      have HWB := (show Hid (∀ W, Below w.heap.size w W → Calls Try.prog 26 #[.slice a8 n c8, .string S] W fun e w' => e = .returned (.tuple #[.string ⟨(encL n (mulL n B A) full F).toArray⟩, .agg #[.int .i64 0, .int .i64 0]]) ∧ Below W.heap.size W w') from fun W hW => by
        have := hwr_ok (.slice a8 n c8) n M B hgB hM S (by omega) (by rw [HSL.out]; exact HCKS.out.1) (by rw [HSL.out]; exact HCKS.out.2) (by rw [HSL.out]; exact enc_lets _ _ _ _) (by rw [HSL.out, full_self n _ (by rw [encL_length]; exact HF1.out), encL_length]; exact hshort) W (HV.out.below hW)
        rw [HSL.out, full_self n _ (by rw [encL_length]; exact HF1.out), encL_length, comp_list n h4 A B full F HF1.out] at this
        exact this)
      have HWP := (show Hid (∀ W x, MatAt W x n (fun _ => n) (mulL n B A) → Calls Try.prog 26 #[x, .string s] W fun e w' => e = .returned (.tuple #[.string ⟨(encL n (mulL n B A) full F).toArray⟩, .agg #[.int .i64 0, .int .i64 0]]) ∧ Below W.heap.size W w') from fun W x hx => by
        have := hwr_ok x n (fun _ => n) (mulL n B A) (good_mul h1 h4 B A) (fun _ _ => rfl) s hs HK.out.1 HK.out.2.1 HK.out.2.2 (by rw [← HFULL.out, ← HFL.out]; exact hshort) W hx
        rw [← HFULL.out, ← HFL.out] at this
        exact this)
      clear hgB hM
      generalize (⟨(encL n (mulL n B A) full F).toArray⟩ : ByteArray) = PS at *
      go_wp2_with fail
      refine Calls.mono (HWB.out _ hb) ?_
      rintro e X2 ⟨rfl, hc⟩
      replace hpv := hpv.below hc
      have hz9 := hc.size
      replace hb := hb.trans (hc.mono hzA)
      replace hzA := Nat.le_trans hzA hz9
      clear hc hz9
      have q18 := RowAt.new X2 37 #[.int .i64 0, .int .i64 0]
      have hbA := hb.alloc hzA (.cells #[.int .i64 0, .int .i64 0] 37)
      have hpvA := hpv.alloc (.cells #[.int .i64 0, .int .i64 0] 37)
      have hzB : w.heap.size ≤ (X2.alloc (.cells #[.int .i64 0, .int .i64 0] 37)).heap.size := hbA.size
      clear hb hpv hzA
      go_wp2_with fail
      refine Calls.mono (HWP.out _ pv hpvA) ?_
      rintro e X3 ⟨rfl, hc⟩
      have q19 := (q18.below hc q18.lt).alloc (.cells #[.int .i64 0, .int .i64 0] 37)
      have d18 := q19.cell (i := 0) rfl
      have hz9 := hc.size
      have hb := (hbA.trans (hc.mono hzB)).alloc (by omega) (.cells #[.int .i64 0, .int .i64 0] 37)
      have hzA : w.heap.size ≤ (X3.alloc (.cells #[.int .i64 0, .int .i64 0] 37)).heap.size := hb.size
      clear hc hz9 hbA hzB hpvA q18 q19 HWB HWP
      by_cases hnn : s.size < p
      · have hnn' : ((s.size : Nat) : Int) < ((p : Nat) : Int) := by omega
        go_wp2
        go_ret
        exact ⟨rfl, hb⟩
      · have hnn' : ¬ ((s.size : Nat) : Int) < ((p : Nat) : Int) := by omega
        have HFH := (show Hid (∀ W, Calls Try.prog 28 #[.int .i64 (n : Nat), .string s, .string S] W fun e w' => ∃ v, e = .returned (.tuple #[v, .int .i64 (fErr n (colF n s.data.toList))]) ∧ FindIs w' v n (colF n s.data.toList) (colF n S.data.toList) ∧ Below W.heap.size W w') from HFND.out (by omega))
        clear hnn
        go_wp2_with fail
        refine Calls.mono (HFH.out _) ?_
        rintro e Z1 ⟨fv, rfl, hfv, hc⟩
        have hz9 := hc.size
        replace hb := hb.trans (hc.mono hzA)
        replace hzA := Nat.le_trans hzA hz9
        clear hc hz9
        rcases recOf_cases (detL n (colF n s.data.toList)) with hr9 | hr9
        · have HR9 : Hid (fErr n (colF n s.data.toList) = 0) := hr9
          unfold FindIs at hfv
          rw [if_pos HR9.out] at hfv
          have hfv2 : MatAt Z1 fv n (fun _ => n) A := hfv.congr (fun _ _ => rfl) fun y hy x hx => HFIS.out (by omega) hr9 y hy x hx
          rw [HR9.out]
          clear hfv hr9
          go_wp2_with fail
          refine Calls.mono (rsame_ok fv _ n h4 A Z1 hfv2 ((HU.out.square HL.out).below hb)) ?_
          rintro e Z2 ⟨rfl, hc⟩
          have hz9 := hc.size
          replace hb := hb.trans (hc.mono hzA)
          replace hzA := Nat.le_trans hzA hz9
          clear hc hz9
          clear hfv2
          go_wp2
          go_ret
          exact ⟨rfl, hb⟩
        · have HR9 : Hid (fErr n (colF n s.data.toList) = 6) := hr9
          rw [HR9.out]
          clear hfv hr9
          go_wp2
          go_ret
          exact ⟨rfl, hb⟩
    · refine Calls.mono (hprod_bad _ _ m n M L B A _ (by simpa using hpe) rfl _ (HV.out.below hb) (HU.out.below hb)) ?_
      rintro e X1 ⟨rfl, hc⟩
      have hz9 := hc.size
      replace hb := hb.trans (hc.mono hzA)
      replace hzA := Nat.le_trans hzA hz9
      clear hc hz9
      have hpe2 : (prodErr m M B n L A == 0) = false := by simpa using hpe
      generalize prodErr m M B n L A = PE at *
      by_cases hnn : s.size < p
      · have hnn' : ((s.size : Nat) : Int) < ((p : Nat) : Int) := by omega
        go_wp2
        go_ret
        exact ⟨rfl, hb⟩
      · have hnn' : ¬ ((s.size : Nat) : Int) < ((p : Nat) : Int) := by omega
        have HFH := (show Hid (∀ W, Calls Try.prog 28 #[.int .i64 (n : Nat), .string s, .string S] W fun e w' => ∃ v, e = .returned (.tuple #[v, .int .i64 (fErr n (colF n s.data.toList))]) ∧ FindIs w' v n (colF n s.data.toList) (colF n S.data.toList) ∧ Below W.heap.size W w') from HFND.out (by omega))
        clear hnn
        go_wp2_with fail
        refine Calls.mono (HFH.out _) ?_
        rintro e Z1 ⟨fv, rfl, hfv, hc⟩
        have hz9 := hc.size
        replace hb := hb.trans (hc.mono hzA)
        replace hzA := Nat.le_trans hzA hz9
        clear hc hz9
        rcases recOf_cases (detL n (colF n s.data.toList)) with hr9 | hr9
        · have HR9 : Hid (fErr n (colF n s.data.toList) = 0) := hr9
          unfold FindIs at hfv
          rw [if_pos HR9.out] at hfv
          have hfv2 : MatAt Z1 fv n (fun _ => n) A := hfv.congr (fun _ _ => rfl) fun y hy x hx => HFIS.out (by omega) hr9 y hy x hx
          rw [HR9.out]
          clear hfv hr9
          go_wp2_with fail
          refine Calls.mono (rsame_ok fv _ n h4 A Z1 hfv2 ((HU.out.square HL.out).below hb)) ?_
          rintro e Z2 ⟨rfl, hc⟩
          have hz9 := hc.size
          replace hb := hb.trans (hc.mono hzA)
          replace hzA := Nat.le_trans hzA hz9
          clear hc hz9
          clear hfv2
          go_wp2
          go_ret
          exact ⟨rfl, hb⟩
        · have HR9 : Hid (fErr n (colF n s.data.toList) = 6) := hr9
          rw [HR9.out]
          clear hfv hr9
          go_wp2
          go_ret
          exact ⟨rfl, hb⟩
end Go.Proofs.Ytlgjgppojdamiab
