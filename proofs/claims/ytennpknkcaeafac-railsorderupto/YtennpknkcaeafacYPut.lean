/-
  Contracts of rails.put, back, Write and Read.
-/
import Derived.Test.YtennpknkcaeafacYFit
import Derived.Test.YtennpknkcaeafacRMath
namespace Go.Proofs.Ytennpknkcaeafac
open Go.RowKit PK

theorem y_info_byte : (Try.prog.info? 5).map (fun i => (i.zero, i.size, i.bytes)) = some (some (.int .u8 0), 1, 1) := by kernel_rfl
/-- Letters in an order. -/
def putL (n : Nat) (f : Nat → Int) (l : List UInt8) : List UInt8 := (List.range n).map fun i => l.getD (f i).toNat 0
def putB (f : Nat → Int) (l : List UInt8) (m : Nat) : Nat → UInt8 := fun i => if i < m then l.getD (f i).toNat 0 else 0
def byts (n : Nat) (g : Nat → UInt8) : Array Value := tab n fun i => .int .u8 (g i).toNat
theorem byts_set (n : Nat) (g : Nat → UInt8) (i : Nat) (b : UInt8) : (byts n g).setIfInBounds i (.int .u8 b.toNat) = byts n (upd g i b) := by
  unfold byts
  rw [tab_set]
  exact tab_ext fun j _ => by by_cases e : j = i <;> simp [upd, e]
theorem byts_get {n : Nat} (g : Nat → UInt8) {i : Nat} (h : i < n) : (byts n g)[i]? = some (.int .u8 (g i).toNat) := tab_get _ h
theorem byts_new (n : Nat) : (tab n fun _ => .int .u8 0) = byts n fun _ => 0 := rfl
theorem putB_step (f : Nat → Int) (l : List UInt8) (m : Nat) : upd (putB f l m) m (l.getD (f m).toNat 0) = putB f l (m + 1) := by
  funext i
  unfold upd putB
  by_cases h : i = m
  · rw [if_pos h, if_pos (by omega), h]
  · rw [if_neg h]
    by_cases h2 : i < m
    · rw [if_pos h2, if_pos (by omega)]
    · rw [if_neg h2, if_neg (by omega)]
theorem putL_length (n : Nat) (f : Nat → Int) (l : List UInt8) : (putL n f l).length = n := by simp [putL]
theorem putB_all (n : Nat) (f : Nat → Int) (l : List UInt8) : byts n (putB f l n) = (Lib.byteCells (putL n f l)).toArray := by
  unfold byts tab Lib.byteCells putL
  congr 1
  rw [List.map_map]
  apply List.map_congr_left
  intro i hi
  have : i < n := by simpa using hi
  simp [putB, this]
theorem run_string_of_row {P : Program} (w : World) (src dst e : TypeId) (hs : P.underlying src = some (.slice e)) (he : P.underlying e = some (.int .u8)) (hd : P.underlying dst = some .string)
    {g n cap : Nat} {T : TypeId} {l : List UInt8} (hn : l.length = n) (h : RowAt w g T (Lib.byteCells l).toArray) : (convert src dst (.slice (some ⟨g, 0, none⟩) n cap)).run P w = .ok (.string ⟨l.toArray⟩) w := by
  subst hn
  rw [run_convert_bytes_string w src dst e _ _ _ hs he hd]
  have hl := run_loadCells_list (P := P) (w := w) ⟨g, 0, none⟩ (Lib.byteCells l) (fun j v hv => by
    have e : ((⟨g, 0, none⟩ : Addr).add j) = ⟨g, j, none⟩ := by unfold Addr.add; by_cases e0 : j = 0 <;> simp [e0]
    rw [e]
    exact h.cell (by simpa using hv))
  rw [Lib.byteCells_length] at hl
  have e1 : Lib.byteCells l = (l.map fun b => (b.toNat : Int)).map (Value.int .u8) := by simp [Lib.byteCells]
  rw [e1] at hl
  rw [run_bytesToString w _ _ _ _ hl, Kit.foldl_push]
  simp
set_option maxHeartbeats 1000000 in
theorem put_any (v : Value) (n : Nat) (f : Nat → Int) (s : ByteArray) (w : World) (hv : NumsAt w v n f) (hn : n = s.size) (hl : ∀ i, i < n → 0 ≤ f i ∧ f i < n) (hs : n ≤ 65536) :
    Calls Try.prog 38 #[v, .string s] w fun e w' => e = .returned (.string ⟨(putL n f s.data.toList).toArray⟩) ∧ Below w.heap.size w w' := by
  subst hn
  have hmk := run_make_row' (P := Try.prog) 54 5 (.int .u8 0) 1 Try.underlying54 y_info_byte rfl .i64 .i64 s.size (by omega) (by omega)
  rw [y_made_tab, byts_new] at hmk
  obtain ⟨a, cap, rfl, hm, hc⟩ := hv
  have HC := (show Hid (∀ c, c < s.size → ∃ b o, a = some ⟨b, o, none⟩ ∧ w.cell? ⟨b, o + c, none⟩ = some (.int .i64 (f c))) from hc)
  have HL := (show Hid (∀ i, i < s.size → 0 ≤ f i ∧ f i < s.size) from hl)
  clear hc hl
  go_enter Try.func38, Try.ntmps38
  go_wp2
  go_loopw [13] (fun i W => ∃ m : Nat, m ≤ s.size ∧ i = .int .i64 m ∧ RowAt W w.heap.size 5 (byts s.size (putB f s.data.toList m)) ∧ Below w.heap.size w W) (fun i _ => ((s.size : Int) - intOf i).toNat)
  case atStart => exact ⟨0, by omega, rfl, RowAt.new w _ _, (Below.refl _ _).alloc (Nat.le_refl _) _⟩
  case round =>
    obtain ⟨m, hm, rfl, ro, hb⟩ := hrel
    by_cases hlt : m < s.size
    · obtain ⟨b, o, rfl, hc0⟩ := HC.out m hlt
      have hc := (hb.cell (p := ⟨b, o + m, none⟩) (cell_block hc0)).trans hc0
      have hlm := HL.out m hlt
      obtain ⟨x, hxe⟩ : ∃ x : Nat, f m = x := ⟨(f m).toNat, by omega⟩
      have hxn : x < s.size := by omega
      have hxn2 : (x : Int) < (s.size : Int) := by omega
      have hcx := ro.cell (byts_get (putB f s.data.toList m) hlt)
      have hfx := ro.frozen m
      have ro2 : RowAt (wr.setCell ⟨w.heap.size, m, none⟩ (.int .u8 (s[x].toNat))) w.heap.size 5 (byts s.size (putB f s.data.toList (m + 1))) := by
        have := ro.set m (.int .u8 (s[x].toNat))
        rw [byts_set, ← getD_byte s x hxn, show x = (f m).toNat by omega, putB_step] at this
        rw [← getD_byte s x hxn, show x = (f m).toNat by omega]
        exact this
      have hbb := hb.setCell (p := ⟨w.heap.size, m, none⟩) (by simp) (.int .u8 (s[x].toNat))
      rw [hxe] at hc
      clear hc0 hlm hxe ro hb
      go_wp2
      exact ⟨⟨m + 1, by omega, by go_num, ro2, hbb⟩, by simp [intOf]; omega⟩
    · obtain rfl : m = s.size := by omega
      rw [putB_all] at ro
      have hst := run_string_of_row (P := Try.prog) wr 54 9 5 Try.underlying54 Try.underlying5 Try.underlying9 (cap := s.size) (putL_length s.size f s.data.toList) ro
      go_wp2
      go_ret
      exact ⟨rfl, hb⟩
/-- Where each number of an order stands. -/
def backF (f : Nat → Int) : Nat → Nat → Int
  | 0 => fun _ => 0
  | m + 1 => upd (backF f m) (f m).toNat m
set_option maxHeartbeats 1000000 in
theorem back_any (v : Value) (n : Nat) (f : Nat → Int) (w : World) (hv : NumsAt w v n f) (hl : ∀ i, i < n → 0 ≤ f i ∧ f i < n) (hs : n ≤ 65536) :
    Calls Try.prog 29 #[v] w fun e w' => e = .returned (.slice (some ⟨w.heap.size, 0, none⟩) n n) ∧ RowAt w' w.heap.size 3 (ints n (backF f n)) ∧ Below w.heap.size w w' := by
  have hmk := run_make_row' (P := Try.prog) 22 3 (.int .i64 0) 8 Try.underlying22 y_info_int rfl .i64 .i64 n (by omega) (by omega)
  rw [y_made_tab, ints_new] at hmk
  obtain ⟨a, cap, rfl, hm, hc⟩ := hv
  have HC := (show Hid (∀ c, c < n → ∃ b o, a = some ⟨b, o, none⟩ ∧ w.cell? ⟨b, o + c, none⟩ = some (.int .i64 (f c))) from hc)
  have HL := (show Hid (∀ i, i < n → 0 ≤ f i ∧ f i < n) from hl)
  clear hc hl
  go_enter Try.func29, Try.ntmps29
  go_wp2
  go_loopw [11] (fun i W => ∃ m : Nat, m ≤ n ∧ i = .int .i64 m ∧ RowAt W w.heap.size 3 (ints n (backF f m)) ∧ Below w.heap.size w W) (fun i _ => ((n : Int) - intOf i).toNat)
  case atStart => exact ⟨0, by omega, rfl, RowAt.new w _ _, (Below.refl _ _).alloc (Nat.le_refl _) _⟩
  case round =>
    obtain ⟨m, hm, rfl, ro, hb⟩ := hrel
    by_cases hlt : m < n
    · obtain ⟨b, o, rfl, hc0⟩ := HC.out m hlt
      have hc := (hb.cell (p := ⟨b, o + m, none⟩) (cell_block hc0)).trans hc0
      have hlm := HL.out m hlt
      obtain ⟨x, hxe⟩ : ∃ x : Nat, f m = x := ⟨(f m).toNat, by omega⟩
      have hxn : x < n := by omega
      have hxn2 : (x : Int) < (n : Int) := by omega
      have hcx := ro.cell (ints_get (backF f m) hxn)
      have hfx := ro.frozen x
      have ro2 : RowAt (wr.setCell ⟨w.heap.size, x, none⟩ (.int .i64 m)) w.heap.size 3 (ints n (backF f (m + 1))) := by
        have := ro.set x (.int .i64 m)
        rw [ints_set, show x = (f m).toNat by omega] at this
        rw [show x = (f m).toNat by omega]
        exact this
      have hbb := hb.setCell (p := ⟨w.heap.size, x, none⟩) (by simp) (.int .i64 m)
      rw [hxe] at hc
      clear hc0 hlm hxe ro hb
      go_wp2
      exact ⟨⟨m + 1, by omega, by go_num, ro2, hbb⟩, by simp [intOf]; omega⟩
    · obtain rfl : m = n := by omega
      go_wp2
      go_ret
      exact ⟨rfl, ro, hb⟩
theorem backF_at {n : Nat} {f : Nat → Int} (hg : GoodO n f) : ∀ m, m ≤ n → ∀ i, i < m → backF f m (f i).toNat = i
  | 0, _, i, hi => by omega
  | m + 1, hm, i, hi => by
    show upd (backF f m) (f m).toNat m (f i).toNat = i
    by_cases e : i = m
    · rw [e, upd_same]
    · rw [upd_other]
      · exact backF_at hg m (by omega) i (by omega)
      · intro h
        have h1 := hg.lt i (by omega)
        have h2 := hg.lt m (by omega)
        exact e (hg.inj i m (by omega) (by omega) (by omega))
theorem onto_of {n : Nat} {f : Nat → Int} (hg : GoodO n f) (x : Nat) (hx : x < n) : ∃ i, i < n ∧ f i = x := by
  -- f's numbers are n different ones below n
  have h1 := Sm.nodup_len (List.range n) ((List.range n).map fun i => (f i).toNat) List.nodup_range
  apply Classical.byContradiction
  intro hno
  have hnd : ((List.range n).map fun i => (f i).toNat).Nodup := by
    rw [List.nodup_iff_pairwise_ne, List.pairwise_map]
    refine (Sm.range_pw n).imp_of_mem ?_
    intro i j hi hj hij e
    have hi' : i < n := by simpa using hi
    have hj' : j < n := by simpa using hj
    have := hg.inj i j hi' hj' (by have := hg.lt i hi'; have := hg.lt j hj'; omega)
    omega
  have h2 := Sm.nodup_len _ ((List.range n).erase x) hnd (fun y hy => by
    obtain ⟨i, hi, rfl⟩ := List.mem_map.1 hy
    have hi' : i < n := by simpa using hi
    have hl := hg.lt i hi'
    refine (List.mem_erase_of_ne fun e => hno ⟨i, hi', by omega⟩).2 (by simp; omega))
  rw [List.length_erase_of_mem (by simpa using hx)] at h2
  simp at h2
  omega
theorem GoodO.back {n : Nat} {f : Nat → Int} (hg : GoodO n f) : GoodO n (backF f n) ∧ (∀ x, x < n → 0 ≤ backF f n x ∧ backF f n x < n ∧ f (backF f n x).toNat = x) := by
  have h1 : ∀ x, x < n → 0 ≤ backF f n x ∧ backF f n x < n ∧ f (backF f n x).toNat = x := fun x hx => by
    obtain ⟨i, hi, e⟩ := onto_of hg x hx
    have := backF_at hg n (Nat.le_refl n) i hi
    rw [e] at this
    rw [show x = ((x : Int)).toNat by omega, this]
    refine ⟨by omega, by omega, ?_⟩
    rw [Int.toNat_natCast, Int.toNat_natCast]; exact e
  refine ⟨⟨hg.le, fun x hx => ⟨(h1 x hx).1, (h1 x hx).2.1⟩, fun x y hx hy e => ?_⟩, h1⟩
  have a := (h1 x hx).2.2
  have b := (h1 y hy).2.2
  rw [e, b] at a
  omega
set_option maxHeartbeats 1000000 in
theorem ywrite_any (v : Value) (n : Nat) (f : Nat → Int) (s : ByteArray) (w : World) (hv : NumsAt w v n f) :
    Calls Try.prog 17 #[v, .string s] w fun e w' => e = .returned (.tuple #[.string ⟨(if fitE n f s.data.toList = 0 then putL n f s.data.toList else []).toArray⟩, .int .i64 (fitE n f s.data.toList)]) ∧ Below w.heap.size w w' := by
  have HM : Hid (Calls Try.prog 37 #[v, .string s] w fun e w' => e = .returned (.int .i64 (fitE n f s.data.toList)) ∧ Below w.heap.size w w') := misfit_any v n f s w hv
  rcases fitE_cases n f s.data.toList with ⟨h0, hg, _, hn, _, _⟩ | h0
  · have HP := (show Hid (∀ W, Below w.heap.size w W → Calls Try.prog 38 #[v, .string s] W fun e w' => e = .returned (.string ⟨(putL n f s.data.toList).toArray⟩) ∧ Below W.heap.size W w') from fun W hW => put_any v n f s W (hv.below hW) (by rw [hn, Pl.size_len]) hg.lt hg.le)
    rw [if_pos h0, h0]
    rw [h0] at HM
    generalize (⟨(putL n f s.data.toList).toArray⟩ : ByteArray) = T at *
    clear hv h0 hg hn
    go_enter Try.func17, Try.ntmps17
    go_wp2_with (first | (go_at_call 37; refine HM.out.mono ?_; rintro e W1 ⟨rfl, hb1⟩) | (go_at_call 38; refine (HP.out _ hb1).mono ?_; rintro e W2 ⟨rfl, hb2⟩))
    go_ret2
    exact ⟨rfl, hb1.trans (hb2.mono hb1.size)⟩
  · rw [if_neg (by simpa using h0)]
    generalize fitE n f s.data.toList = E at *
    have h4 : (E == 0) = false := by simpa using h0
    clear h0 hv
    go_enter Try.func17, Try.ntmps17
    go_wp2_with (first | (go_at_call 37; refine HM.out.mono ?_; rintro e W1 ⟨rfl, hb1⟩))
    go_ret2
    exact ⟨rfl, hb1⟩
set_option maxHeartbeats 1000000 in
theorem yread_any (v : Value) (n : Nat) (f : Nat → Int) (s : ByteArray) (w : World) (hv : NumsAt w v n f) :
    Calls Try.prog 19 #[v, .string s] w fun e w' => e = .returned (.tuple #[.string ⟨(if fitE n f s.data.toList = 0 then putL n (backF f n) s.data.toList else []).toArray⟩, .int .i64 (fitE n f s.data.toList)]) ∧ Below w.heap.size w w' := by
  have HM : Hid (Calls Try.prog 37 #[v, .string s] w fun e w' => e = .returned (.int .i64 (fitE n f s.data.toList)) ∧ Below w.heap.size w w') := misfit_any v n f s w hv
  rcases fitE_cases n f s.data.toList with ⟨h0, hg, _, hn, _, _⟩ | h0
  · have HB := (show Hid (∀ W, Below w.heap.size w W → Calls Try.prog 29 #[v] W fun e w' => e = .returned (.slice (some ⟨W.heap.size, 0, none⟩) n n) ∧ RowAt w' W.heap.size 3 (ints n (backF f n)) ∧ Below W.heap.size W w') from fun W hW => back_any v n f W (hv.below hW) hg.lt hg.le)
    have HP := (show Hid (∀ W g, RowAt W g 3 (ints n (backF f n)) → Calls Try.prog 38 #[.slice (some ⟨g, 0, none⟩) n n, .string s] W fun e w' => e = .returned (.string ⟨(putL n (backF f n) s.data.toList).toArray⟩) ∧ Below W.heap.size W w') from fun W g hr => put_any _ n (backF f n) s W (NumsAt.of_row hr (by have := hg.le; unfold maxLen; omega)) (by rw [hn, Pl.size_len]) hg.back.1.lt hg.le)
    rw [if_pos h0, h0]
    rw [h0] at HM
    generalize (⟨(putL n (backF f n) s.data.toList).toArray⟩ : ByteArray) = T at *
    clear hv h0 hg hn
    go_enter Try.func19, Try.ntmps19
    go_wp2_with (first | (go_at_call 37; refine HM.out.mono ?_; rintro e W1 ⟨rfl, hb1⟩) | (go_at_call 29; refine (HB.out _ hb1).mono ?_; rintro e W2 ⟨rfl, ro2, hb2⟩) | (go_at_call 38; refine (HP.out _ _ ro2).mono ?_; rintro e W3 ⟨rfl, hb3⟩))
    go_ret2
    exact ⟨rfl, (hb1.trans (hb2.mono hb1.size)).trans (hb3.mono (by have := hb1.size; have := hb2.size; omega))⟩
  · rw [if_neg (by simpa using h0)]
    generalize fitE n f s.data.toList = E at *
    have h4 : (E == 0) = false := by simpa using h0
    clear h0 hv
    go_enter Try.func19, Try.ntmps19
    go_wp2_with (first | (go_at_call 37; refine HM.out.mono ?_; rintro e W1 ⟨rfl, hb1⟩))
    go_ret2
    exact ⟨rfl, hb1⟩
end Go.Proofs.Ytennpknkcaeafac
