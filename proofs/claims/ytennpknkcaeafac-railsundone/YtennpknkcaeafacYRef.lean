/-
  Contracts of the document's own Fit, Write and Read.
-/
import Derived.Test.YtennpknkcaeafacYPut
import Derived.Lib.OthersKept
import Derived.Lib.SmallJoins
namespace Go.Proofs.Ytennpknkcaeafac
open Go.RowKit PK

set_option maxHeartbeats 1000000 in
theorem rfit_any (v : Value) (n : Nat) (f : Nat → Int) (s : ByteArray) (w : World) (hv : NumsAt w v n f) :
    Calls Try.prog 39 #[v, .string s] w fun e w' => e = .returned (.int .i64 (fitE n f s.data.toList)) ∧ Below w.heap.size w w' := by
  have HW : Hid (Calls Try.prog 16 #[v] w fun e w' => e = .returned (.int .i64 (ordE n f)) ∧ Below w.heap.size w w') := rwrong_any v n f w hv
  have HCK := (show Hid (∀ W, Calls Try.prog 33 #[.string s] W fun e w' => e = .returned (.agg #[.int .i64 (ckE s.data.toList), .int .i64 (ckAt s.data.toList)]) ∧ Below W.heap.size W w') from fun W => rcheck_all s W)
  have HF : Hid (fitE n f s.data.toList = if ordE n f ≠ 0 then ordE n f else if ckE s.data.toList ≠ 0 then ckE s.data.toList else if n ≠ s.size then 8 else 0) := by rw [Hid, Pl.size_len s]; rfl
  obtain ⟨a, cap, rfl, hm⟩ := hv.len
  generalize fitE n f s.data.toList = F at *
  generalize ordE n f = E1 at *
  generalize ckE s.data.toList = E2 at *
  generalize ckAt s.data.toList = A2 at *
  clear hv
  by_cases h1 : E1 = 0
  · subst h1
    by_cases h2 : E2 = 0
    · subst h2
      by_cases h3 : n = s.size
      · have HZ : Hid (F = 0) := by rw [Hid, HF.out]; simp [h3]
        subst h3
        go_enter Try.func39, Try.ntmps39
        go_wp2_with (first | (go_at_call 16; refine HW.out.mono ?_; rintro e W1 ⟨rfl, hb1⟩) | (go_at_call 33; refine (HCK.out _).mono ?_; rintro e W2 ⟨rfl, hb2⟩))
        go_ret
        exact ⟨ret_int HZ.out.symm, (hb1.trans (hb2.mono hb1.size)).alloc (by have := hb1.size; have := hb2.size; omega) _⟩
      · have HZ : Hid (F = 8) := by rw [Hid, HF.out]; simp [h3]
        have h4 : ((n : Int) == (s.size : Int)) = false := by simp; omega
        go_enter Try.func39, Try.ntmps39
        go_wp2_with (first | (go_at_call 16; refine HW.out.mono ?_; rintro e W1 ⟨rfl, hb1⟩) | (go_at_call 33; refine (HCK.out _).mono ?_; rintro e W2 ⟨rfl, hb2⟩))
        go_ret
        exact ⟨ret_int HZ.out.symm, (hb1.trans (hb2.mono hb1.size)).alloc (by have := hb1.size; have := hb2.size; omega) _⟩
    · have HZ : Hid (F = E2) := by rw [Hid, HF.out]; simp [h2]
      have h4 : (E2 == 0) = false := by simp; omega
      clear h2
      go_enter Try.func39, Try.ntmps39
      go_wp2_with (first | (go_at_call 16; refine HW.out.mono ?_; rintro e W1 ⟨rfl, hb1⟩) | (go_at_call 33; refine (HCK.out _).mono ?_; rintro e W2 ⟨rfl, hb2⟩))
      go_ret
      exact ⟨ret_int HZ.out.symm, (hb1.trans (hb2.mono hb1.size)).alloc (by have := hb1.size; have := hb2.size; omega) _⟩
  · have HZ : Hid (F = E1) := by rw [Hid, HF.out]; simp [h1]
    have h4 : (E1 == 0) = false := by simp; omega
    clear h1
    go_enter Try.func39, Try.ntmps39
    go_wp2_with (first | (go_at_call 16; refine HW.out.mono ?_; rintro e W1 ⟨rfl, hb1⟩))
    go_ret
    exact ⟨ret_int HZ.out.symm, hb1⟩
theorem putL_step (m : Nat) (f : Nat → Int) (l : List UInt8) : putL (m + 1) f l = putL m f l ++ [l.getD (f m).toNat 0] := by unfold putL; rw [List.range_succ, List.map_append]; rfl
theorem info_parts {P : Program} {e : TypeId} {z : Value} {b : Nat} (h : (P.info? e).map (fun i => (i.zero, i.size, i.bytes)) = some (some z, 1, b)) : ∃ i, P.info? e = some i ∧ i.zero = some z ∧ i.size = 1 ∧ i.bytes = b := by
  obtain ⟨i, hi, hzz⟩ := Option.map_eq_some_iff.1 h
  simp only [Prod.mk.injEq] at hzz
  exact ⟨i, hi, hzz.1, hzz.2.1, hzz.2.2⟩
theorem cells_byte (acc : List UInt8) (b : UInt8) : Lib.byteCells acc ++ [.int .u8 (b.toNat : Int)] = Lib.byteCells (acc ++ [b]) := by simp [Lib.byteCells]
set_option maxRecDepth 100000 in
set_option maxHeartbeats 2000000 in
theorem rwrite_any (v : Value) (n : Nat) (f : Nat → Int) (s : ByteArray) (w : World) (hv : NumsAt w v n f) :
    Calls Try.prog 18 #[v, .string s] w fun e w' => e = .returned (.tuple #[.string ⟨(if fitE n f s.data.toList = 0 then putL n f s.data.toList else []).toArray⟩, .int .i64 (fitE n f s.data.toList)]) ∧ Below w.heap.size w w' := by
  have HM : Hid (Calls Try.prog 39 #[v, .string s] w fun e w' => e = .returned (.int .i64 (fitE n f s.data.toList)) ∧ Below w.heap.size w w') := rfit_any v n f s w hv
  rcases fitE_cases n f s.data.toList with ⟨h0, hg, _, hn, _, _⟩ | h0
  · rw [if_pos h0, h0]
    rw [h0] at HM
    have hsz : n = s.size := by rw [hn, Pl.size_len]
    have hle := hg.le
    have HG := (show Hid (∀ i, i < n → 0 ≤ f i ∧ f i < n) from hg.lt)
    obtain ⟨i0, hi0, hz0, hz1, hz2⟩ := info_parts y_info_byte
    obtain ⟨a, cap, rfl, hm, hc⟩ := hv
    have HC := (show Hid (∀ c, c < n → ∃ b o, a = some ⟨b, o, none⟩ ∧ w.cell? ⟨b, o + c, none⟩ = some (.int .i64 (f c))) from hc)
    clear h0 hg hn hc
    subst hsz
    go_enter Try.func18, Try.ntmps18
    go_wp2_with (first | (go_at_call 39; refine HM.out.mono ?_; rintro e W1 ⟨rfl, hb1⟩))
    have hzw := hb1.size
    go_loopw [18, 7] (fun i v W => ∃ m : Nat, m ≤ s.size ∧ i = .int .i64 m ∧ Kit.Owns W W1.heap.size 5 v (putL m f s.data.toList) ∧ Below W1.heap.size W1 W) (fun i _ _ => ((s.size : Int) - intOf i).toNat)
    case atStart => exact ⟨0, by omega, rfl, Kit.Owns.nil _ _ _, Below.refl _ _⟩
    case round =>
      obtain ⟨m, hm, rfl, hown, hb⟩ := hrel
      have hzb := hb.size
      by_cases hlt : m < s.size
      · obtain ⟨b, o, rfl, hc0⟩ := HC.out m hlt
        have hc := ((hb1.trans (hb.mono hzw)).cell (p := ⟨b, o + m, none⟩) (cell_block hc0)).trans hc0
        have hlm := HG.out m hlt
        obtain ⟨x, hxe⟩ : ∃ x : Nat, f m = x := ⟨(f m).toNat, by omega⟩
        have hxn : x < s.size := by omega
        have hxn2 : (x : Int) < (s.size : Int) := by omega
        have HST : Hid (putL (m + 1) f s.data.toList = putL m f s.data.toList ++ [s[x]]) := by rw [Hid, putL_step, ← getD_byte s x hxn, show x = (f m).toNat by omega]
        have hle2 : (putL m f s.data.toList).length ≤ 65536 := by rw [putL_length]; omega
        rw [hxe] at hc
        generalize putL m f s.data.toList = acc at *
        have hcb := cells_byte acc s[x]
        have HCB : Hid (Lib.byteCells acc ++ [.int .u8 (s[x].toNat : Int)] = Lib.byteCells (acc ++ [s[x]])) := hcb
        clear hc0 hlm hxe hcb
        go_wp2_with (first
          | (at_builtin; refine wpList_append_own _ rfl _ _ 54 rfl W1.heap.size 5 i0 (.int .u8 0) 1 1 Try.underlying54 hi0 hz0 hz1 hz2 rfl (by decide) _ _ _ rfl (World.ownsRow.alloc hown _) ⟨wr.heap.size, 0, none⟩ 1 1 [.int .u8 (s[x].toNat : Int)] rfl rfl (cell_one_new _ _ _) (fun u hu => by simp at hu; subst hu; rfl) (by unfold maxLen; omega) (by omega) (by simp; omega) ?_; intro v5 w5 hown5 hgrow5 _))
        go_roundw
        case rel =>
          refine ⟨m + 1, by omega, by go_num, ?_, ?_⟩
          · rw [HST.out]
            unfold Kit.Owns
            rw [← HCB.out, List.length_append]
            exact hown5
          · exact (hb.alloc hzb _).grown hgrow5 (by simp; omega) (fun k hk => (World.ownsRow.lt hown k hk).1)
        case measure => simp [intOf]; omega
      · obtain rfl : m = s.size := by omega
        have hstr := Kit.run_string_of_own (P := Try.prog) wr 54 9 5 Try.underlying54 Try.underlying5 Try.underlying9 hown
        clear hown
        go_wp2
        go_ret2
        exact ⟨rfl, hb1.trans (hb.mono hzw)⟩
  · rw [if_neg (by simpa using h0)]
    generalize fitE n f s.data.toList = E at *
    have h4 : (E == 0) = false := by simpa using h0
    clear h0 hv
    go_enter Try.func18, Try.ntmps18
    go_wp2_with (first | (go_at_call 39; refine HM.out.mono ?_; rintro e W1 ⟨rfl, hb1⟩))
    go_ret2
    exact ⟨rfl, hb1⟩
set_option maxRecDepth 100000 in
set_option maxHeartbeats 2000000 in
theorem rread_any (v : Value) (n : Nat) (f : Nat → Int) (s : ByteArray) (w : World) (hv : NumsAt w v n f) :
    Calls Try.prog 20 #[v, .string s] w fun e w' => e = .returned (.tuple #[.string ⟨(if fitE n f s.data.toList = 0 then putL n (backF f n) s.data.toList else []).toArray⟩, .int .i64 (fitE n f s.data.toList)]) ∧ Below w.heap.size w w' := by
  have HM : Hid (Calls Try.prog 39 #[v, .string s] w fun e w' => e = .returned (.int .i64 (fitE n f s.data.toList)) ∧ Below w.heap.size w w') := rfit_any v n f s w hv
  rcases fitE_cases n f s.data.toList with ⟨h0, hg, _, hn, _, _⟩ | h0
  · rw [if_pos h0, h0]
    rw [h0] at HM
    have hsz : n = s.size := by rw [hn, Pl.size_len]
    have hle := hg.le
    have HG := (show Hid (∀ i, i < n → 0 ≤ f i ∧ f i < n) from hg.lt)
    have HG2 := (show Hid (∀ i, i < n → 0 ≤ backF f n i ∧ backF f n i < n) from hg.back.1.lt)
    obtain ⟨i0, hi0, hz0, hz1, hz2⟩ := info_parts y_info_byte
    obtain ⟨a, cap, rfl, hm, hc⟩ := hv
    have HC := (show Hid (∀ c, c < n → ∃ b o, a = some ⟨b, o, none⟩ ∧ w.cell? ⟨b, o + c, none⟩ = some (.int .i64 (f c))) from hc)
    clear h0 hg hn hc
    subst hsz
    have hmk := run_make_row' (P := Try.prog) 22 3 (.int .i64 0) 8 Try.underlying22 y_info_int rfl .i64 .i64 s.size (by omega) (by omega)
    rw [y_made_tab, ints_new] at hmk
    go_enter Try.func20, Try.ntmps20
    go_wp2_with (first | (go_at_call 39; refine HM.out.mono ?_; rintro e W1 ⟨rfl, hb1⟩))
    have hzw := hb1.size
    go_loopw [24] (fun i W => ∃ m : Nat, m ≤ s.size ∧ i = .int .i64 m ∧ RowAt W W1.heap.size 3 (ints s.size (backF f m)) ∧ Below w.heap.size w W ∧ W1.heap.size < W.heap.size) (fun i _ => ((s.size : Int) - intOf i).toNat)
    case atStart => exact ⟨0, by omega, rfl, RowAt.new W1 _ _, hb1.alloc hzw _, by simp⟩
    case round =>
      obtain ⟨m, hm, rfl, ro, hb, hbs⟩ := hrel
      by_cases hlt : m < s.size
      · obtain ⟨b, o, rfl, hc0⟩ := HC.out m hlt
        have hc := (hb.cell (p := ⟨b, o + m, none⟩) (cell_block hc0)).trans hc0
        have hlm := HG.out m hlt
        obtain ⟨x, hxe⟩ : ∃ x : Nat, f m = x := ⟨(f m).toNat, by omega⟩
        have hxn : x < s.size := by omega
        have hxn2 : (x : Int) < (s.size : Int) := by omega
        have hcx := ro.cell (ints_get (backF f m) hxn)
        have hfx := ro.frozen x
        have ro2 : RowAt (wr.setCell ⟨W1.heap.size, x, none⟩ (.int .i64 m)) W1.heap.size 3 (ints s.size (backF f (m + 1))) := by
          have := ro.set x (.int .i64 m)
          rw [ints_set, show x = (f m).toNat by omega] at this
          rw [show x = (f m).toNat by omega]
          exact this
        have hbb := hb.setCell (p := ⟨W1.heap.size, x, none⟩) hzw (.int .i64 m)
        rw [hxe] at hc
        clear hc0 hlm hxe ro hb
        go_wp2
        exact ⟨⟨m + 1, by omega, by go_num, ro2, hbb, by simpa using hbs⟩, by simp [intOf]; omega⟩
      · obtain rfl : m = s.size := by omega
        clear hm hmk
        obtain ⟨V, rfl⟩ : ∃ V, V = wr := ⟨_, rfl⟩
        go_wp2
        go_loopw [36, 10] (fun i v W => ∃ m : Nat, m ≤ s.size ∧ i = .int .i64 m ∧ Kit.Owns W V.heap.size 5 v (putL m (backF f s.size) s.data.toList) ∧ Below V.heap.size V W) (fun i _ _ => ((s.size : Int) - intOf i).toNat)
        case atStart => exact ⟨0, by omega, rfl, Kit.Owns.nil _ _ _, Below.refl _ _⟩
        case round =>
          obtain ⟨m, hm, rfl, hown, hb2⟩ := hrel
          have hzb := hb2.size
          by_cases hlt : m < s.size
          · have hc := (ro.below hb2 hbs).cell (ints_get (backF f s.size) hlt)
            have hlm := HG2.out m hlt
            have HST := (show Hid (putL (m + 1) (backF f s.size) s.data.toList = putL m (backF f s.size) s.data.toList ++ [s.data.toList.getD (backF f s.size m).toNat 0]) from putL_step _ _ _)
            have hle2 : (putL m (backF f s.size) s.data.toList).length ≤ 65536 := by rw [putL_length]; omega
            obtain ⟨x, hxe⟩ : ∃ x : Nat, backF f s.size m = x := ⟨(backF f s.size m).toNat, by omega⟩
            rw [hxe] at hc hlm HST
            have hxn : x < s.size := by omega
            have hxn2 : (x : Int) < (s.size : Int) := by omega
            rw [Int.toNat_natCast, getD_byte s x hxn] at HST
            generalize putL m (backF f s.size) s.data.toList = acc at *
            have HCB := (show Hid (Lib.byteCells acc ++ [.int .u8 (s[x].toNat : Int)] = Lib.byteCells (acc ++ [s[x]])) from cells_byte acc s[x])
            clear hlm hxe
            go_wp2_with (first
              | (at_builtin; refine wpList_append_own _ rfl _ _ 54 rfl V.heap.size 5 i0 (.int .u8 0) 1 1 Try.underlying54 hi0 hz0 hz1 hz2 rfl (by decide) _ _ _ rfl (World.ownsRow.alloc hown _) ⟨wr.heap.size, 0, none⟩ 1 1 [.int .u8 (s[x].toNat : Int)] rfl rfl (cell_one_new _ _ _) (fun u hu => by simp at hu; subst hu; rfl) (by unfold maxLen; omega) (by omega) (by simp; omega) ?_; intro v5 w5 hown5 hgrow5 _))
            go_roundw
            case rel =>
              refine ⟨m + 1, by omega, by go_num, ?_, ?_⟩
              · rw [HST.out]
                unfold Kit.Owns
                rw [← HCB.out, List.length_append]
                exact hown5
              · exact (hb2.alloc hzb _).grown hgrow5 (by simp; omega) (fun k hk => (World.ownsRow.lt hown k hk).1)
            case measure => simp [intOf]; omega
          · obtain rfl : m = s.size := by omega
            have hstr := Kit.run_string_of_own (P := Try.prog) wr 54 9 5 Try.underlying54 Try.underlying5 Try.underlying9 hown
            clear hown
            go_wp2
            go_ret2
            exact ⟨rfl, hb.trans (hb2.mono hb.size)⟩
  · rw [if_neg (by simpa using h0)]
    generalize fitE n f s.data.toList = E at *
    have h4 : (E == 0) = false := by simpa using h0
    clear h0 hv
    go_enter Try.func20, Try.ntmps20
    go_wp2_with (first | (go_at_call 39; refine HM.out.mono ?_; rintro e W1 ⟨rfl, hb1⟩))
    go_ret2
    exact ⟨rfl, hb1⟩
end Go.Proofs.Ytennpknkcaeafac
