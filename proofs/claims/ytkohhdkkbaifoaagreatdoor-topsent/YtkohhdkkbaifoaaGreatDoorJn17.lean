/-
  Several texts, joined: ScD, ScE.
-/
import Derived.Test.YtkohhdkkbaifoaaGreatDoorJn9
import Derived.Test.YtkohhdkkbaifoaaGreatDoorJn11
import Derived.Test.YtkohhdkkbaifoaaGreatDoorJn13
import Derived.Test.YtkohhdkkbaifoaaGreatDoorJn16
/-
  Contracts of script.moved, orderOf and checkPieces; what they make.
-/
namespace Go.Proofs.YtkohhdkkbaifoaaGreatDoor
open Go.RowKit PK Vg

/-- A letter, so many letters further on; a text's. -/
def mvC (by' : Nat) (c : UInt8) : UInt8 := ltr ((Vg.num c + by') % 26)
def mvL (by' : Nat) (l : List UInt8) : List UInt8 := l.map (mvC by')
def mvB (by' : Nat) (l : List UInt8) (m : Nat) : Nat → UInt8 := fun i => if i < m then mvC by' (l.getD i 0) else 0
theorem mvB_step (b : Nat) (l : List UInt8) (m : Nat) : upd (mvB b l m) m (mvC b (l.getD m 0)) = mvB b l (m + 1) := by
  funext i
  unfold upd mvB
  by_cases h : i = m
  · rw [if_pos h, if_pos (by omega), h]
  · rw [if_neg h]
    by_cases h2 : i < m
    · rw [if_pos h2, if_pos (by omega)]
    · rw [if_neg h2, if_neg (by omega)]
theorem mvL_length (b : Nat) (l : List UInt8) : (mvL b l).length = l.length := by simp [mvL]
theorem mvB_all (b : Nat) (l : List UInt8) : bytsY l.length (mvB b l l.length) = (Lib.byteCells (mvL b l)).toArray := by
  unfold bytsY tab Lib.byteCells mvL
  congr 1
  rw [List.map_map]
  apply List.ext_getElem
  · simp
  · intro i h1 h2
    have h3 : i < l.length := by simpa using h1
    simp [mvB, h3]
theorem at_let (s : ByteArray) (hl : Pl.Lets s.data.toList) (m : Nat) (h : m < s.size) : 65 ≤ s[m].toNat ∧ s[m].toNat ≤ 90 := by
  have h2 : m < s.data.toList.length := by rw [← Pl.size_len s]; exact h
  have e : s.data.toList[m] = s[m] := rfl
  have := hl s.data.toList[m] (List.getElem_mem _)
  rw [e] at this
  simp [Pl.isL] at this
  omega
set_option maxHeartbeats 400000 in
theorem num17_any (c : UInt8) (h : 65 ≤ c.toNat ∧ c.toNat ≤ 90) (w : World) : Calls Tryz.prog 117 #[.int .u8 c.toNat] w fun e w' => e = .returned (.int .i64 (Vg.num c : Nat)) ∧ w = w' := by
  have h1 : (c.toNat : Int) - 65 = ((Vg.num c : Nat) : Int) := by unfold Vg.num; omega
  have H1 : Hid ((c.toNat : Int) - 65 = ((Vg.num c : Nat) : Int)) := h1
  clear h1
  obtain ⟨h2, h3⟩ := h
  go_enter Tryz.func117, Tryz.ntmps117
  go_wp2
  go_ret
  exact ⟨ret_int H1.out, rfl⟩
set_option maxHeartbeats 400000 in
theorem let17_any (n : Nat) (h : n < 26) (w : World) : Calls Tryz.prog 116 #[.int .i64 n] w fun e w' => e = .returned (.int .u8 (ltr n).toNat) ∧ w = w' := by
  rw [ltr_toNat h]
  go_enter Tryz.func116, Tryz.ntmps116
  go_wp2
  go_ret
  exact ⟨ret_int (by omega), rfl⟩
set_option maxRecDepth 100000 in
set_option maxHeartbeats 1000000 in
theorem moved_any (s : ByteArray) (b : Nat) (hb26 : b ≤ 26) (hs : s.size ≤ 65536) (hl : Pl.Lets s.data.toList) (w : World) :
    Calls Tryz.prog 73 #[.string s, .int .i64 (b : Nat)] w fun e w' => e = .returned (.string ⟨(mvL b s.data.toList).toArray⟩) ∧ Below w.heap.size w w' := by
  have hmk := run_make_row' (P := Tryz.prog) 87 5 (.int .u8 0) 1 Tryz.underlying87 y_info_byte rfl .i64 .i64 s.size (by omega) (by omega)
  rw [y_made_tab, byts_newY] at hmk
  have HL : Hid (∀ m, (h : m < s.size) → 65 ≤ s[m].toNat ∧ s[m].toNat ≤ 90) := fun m h => at_let s hl m h
  have HLen : Hid (s.data.toList.length = s.size) := by rw [Hid, ← Pl.size_len s]
  clear hl
  go_enter Tryz.func73, Tryz.ntmps73
  go_wp2_with fail
  go_loopw [12] (fun i W => ∃ m : Nat, m ≤ s.size ∧ i = .int .i64 m ∧ RowAt W w.heap.size 5 (bytsY s.size (mvB b s.data.toList m)) ∧ Below w.heap.size w W) (fun i _ => ((s.size : Int) - intOf i).toNat)
  case atStart => exact ⟨0, by omega, rfl, RowAt.new w _ _, (Below.refl _ _).alloc (Nat.le_refl _) _⟩
  case round =>
    obtain ⟨m, hm, rfl, ro, hb⟩ := hrel
    by_cases hlt : m < s.size
    · have hlm := HL.out m hlt
      have hcx := ro.cell (byts_getY (mvB b s.data.toList m) hlt)
      have hfx := ro.frozen m
      have ro2 : RowAt (wr.setCell ⟨w.heap.size, m, none⟩ (.int .u8 (mvC b s[m]).toNat)) w.heap.size 5 (bytsY s.size (mvB b s.data.toList (m + 1))) := by
        have := ro.set m (.int .u8 (mvC b s[m]).toNat)
        rw [byts_setY, ← getD_byte s m hlt, mvB_step] at this
        rw [← getD_byte s m hlt]
        exact this
      have hbb := hb.setCell (p := ⟨w.heap.size, m, none⟩) (by simp) (.int .u8 (mvC b s[m]).toNat)
      have HN : Hid _ := num17_any s[m] hlm wr
      have hn26 := num_lt hlm
      have HLT : Hid _ := let17_any ((Vg.num s[m] + b) % 26) (by omega) wr
      have HMV : Hid (mvC b s[m] = ltr ((Vg.num s[m] + b) % 26)) := rfl
      generalize mvC b s[m] = C at *
      generalize Vg.num s[m] = x at *
      have hx2 : ((x : Int) + (b : Int)) ≤ 60 := by omega
      have htm : ((x : Int) + (b : Int)) % 26 = (((x + b) % 26 : Nat) : Int) := by omega
      rw [← HMV.out, ← htm] at HLT
      clear hlm ro hb htm
      go_wp2_with fail
      refine Calls.mono HN.out ?_
      rintro e V ⟨rfl, rfl⟩
      go_wp2_with fail
      refine Calls.mono HLT.out ?_
      rintro e V ⟨rfl, rfl⟩
      go_wp2_with fail
      exact ⟨⟨m + 1, by omega, by go_num, ro2, hbb⟩, by simp [intOf]; omega⟩
    · obtain rfl : m = s.size := by omega
      have ro2 : RowAt wr w.heap.size 5 (Lib.byteCells (mvL b s.data.toList)).toArray := by
        rw [← mvB_all, HLen.out]
        exact ro
      have hst := run_string_of_rowY (P := Tryz.prog) wr 87 9 5 Tryz.underlying87 Tryz.underlying5 Tryz.underlying9 (cap := s.size) ((mvL_length b s.data.toList).trans HLen.out) ro2
      clear ro
      go_wp2
      go_ret
      exact ⟨rfl, hb⟩
end Go.Proofs.YtkohhdkkbaifoaaGreatDoor

/-
  Orders of rails and of columns, as steps of a chain put them; contracts of script.orderOf and checkPieces.
-/
namespace Go.Proofs.YtkohhdkkbaifoaaGreatDoor
open Go.RowKit PK Vg Sm

theorem backF_congr {d d' : Nat → Int} : ∀ m, (∀ i, i < m → d i = d' i) → backF d m = backF d' m
  | 0, _ => rfl
  | m + 1, h => by unfold backF; rw [backF_congr m (fun i hi => h i (by omega)), h m (by omega)]
theorem putL_congr {n : Nat} {f f' : Nat → Int} (l : List UInt8) (h : ∀ i, i < n → f i = f' i) : putL n f l = putL n f' l := by
  unfold putL
  apply List.map_congr_left
  intro i hi
  rw [h i (by simpa using hi)]
theorem Turns.unique {l : List UInt8} {L : Nat} {t t' : Nat → Int} (h : Turns l L t) (h' : Turns l L t') : t = t' := by
  obtain ⟨d, ho, hs, e⟩ := h
  obtain ⟨d', ho', hs', e'⟩ := h'
  funext i
  rw [e i, e' i, backF_congr L (srt_unique ho ho' hs hs')]
/-- The order of a step over rails, or under a key. -/
def OrdP (s : Sp) (m : Nat) (d : Nat → Int) : Prop :=
  Order m d ∧ (s.k = 3 ∧ Srt (railKey s.n.toNat) d 0 m ∨ s.k = 4 ∧ ∃ t, Turns s.key.data.toList s.key.size t ∧ Srt (turnK s.key.size t) d 0 m)
theorem OrdP.unique {s : Sp} {m : Nat} {d d' : Nat → Int} (h : OrdP s m d) (h' : OrdP s m d') : ∀ i, i < m → d i = d' i := by
  obtain ⟨ho, h⟩ := h
  obtain ⟨ho', h'⟩ := h'
  rcases h with ⟨k, hs⟩ | ⟨k, t, ht, hs⟩
  · rcases h' with ⟨_, hs'⟩ | ⟨k', _⟩
    · exact srt_unique ho ho' hs hs'
    · omega
  · rcases h' with ⟨k', _⟩ | ⟨_, t', ht', hs'⟩
    · omega
    · rw [ht'.unique ht] at hs'; exact srt_unique ho ho' hs hs'
noncomputable def ordF (s : Sp) (m : Nat) : Nat → Int := Classical.epsilon (OrdP s m)
theorem ordF_of {s : Sp} {m : Nat} {d : Nat → Int} (h : OrdP s m d) : OrdP s m (ordF s m) ∧ ∀ i, i < m → d i = ordF s m i :=
  have hx : OrdP s m (ordF s m) := Classical.epsilon_spec ⟨d, h⟩
  ⟨hx, h.unique hx⟩
theorem inE_zero {n lo hi : Int} : inE n lo hi = 0 ↔ lo ≤ n ∧ n ≤ hi := by
  unfold inE
  by_cases h : n < lo ∨ hi < n
  · rw [if_pos h]; constructor
    · intro h; cases h
    · omega
  · rw [if_neg h]; constructor
    · omega
    · intro _; rfl
theorem keyE_zero {l : List UInt8} (h : keyE l = 0) : ckE l = 0 ∧ 1 ≤ l.length ∧ l.length ≤ 256 := by
  unfold keyE at h
  by_cases h1 : ckE l ≠ 0
  · rw [if_pos h1] at h; exact absurd h h1
  · rw [if_neg h1] at h
    by_cases h2 : l.length < 1 ∨ 256 < l.length
    · rw [if_pos h2] at h; cases h
    · exact ⟨by simpa using h1, by omega, by omega⟩
theorem ck_at {l : List UInt8} (h : ckE l = 0) : ckAt l = 0 ∧ l.length ≤ 65536 ∧ Pl.Lets l := by
  rcases ck_cases l with ⟨_, h2, h3, h4⟩ | h1
  · exact ⟨h2, h3, h4⟩
  · rw [h] at h1; cases h1
section
variable {s : Sp} (h : stE s = 0)
include h
theorem st_move (k : s.k = 1) : 0 ≤ s.n ∧ s.n ≤ 25 := by unfold stE at h; rw [if_pos k] at h; exact inE_zero.1 h
theorem st_tab (k : s.k = 2) : (1 ≤ s.n ∧ s.n ≤ 4) ∧ ckE s.key.data.toList = 0 ∧ 1 ≤ s.key.data.toList.length ∧ s.key.data.toList.length ≤ 256 := by
  unfold stE at h
  rw [if_neg (by omega), if_pos k] at h
  by_cases h1 : inE s.n 1 4 ≠ 0
  · rw [if_pos h1] at h; exact absurd h h1
  · rw [if_neg h1] at h; exact ⟨inE_zero.1 (by simpa using h1), keyE_zero h⟩
theorem st_rail (k : s.k = 3) : 1 ≤ s.n ∧ s.n ≤ 64 := by unfold stE at h; rw [if_neg (by omega), if_neg (by omega), if_pos k] at h; exact inE_zero.1 h
theorem st_col (k : s.k = 4) : ckE s.key.data.toList = 0 ∧ 1 ≤ s.key.data.toList.length ∧ s.key.data.toList.length ≤ 256 := by
  unfold stE at h; rw [if_neg (by omega), if_neg (by omega), if_neg (by omega), if_pos k] at h; exact keyE_zero h
theorem st_hill (k : s.k = 5) : matErr s.r s.L s.Z = 0 := by
  unfold stE at h; rw [if_neg (by omega), if_neg (by omega), if_neg (by omega), if_neg (by omega), if_pos k] at h; exact h
theorem st_rotor (k : s.k = 6) : gE s.g = 0 := by
  unfold stE at h; rw [if_neg (by omega), if_neg (by omega), if_neg (by omega), if_neg (by omega), if_neg (by omega), if_pos k] at h; exact h
theorem st_kinds : s.k = 1 ∨ s.k = 2 ∨ s.k = 3 ∨ s.k = 4 ∨ s.k = 5 ∨ s.k = 6 := by
  unfold stE at h
  by_cases h1 : s.k = 1
  · exact .inl h1
  by_cases h2 : s.k = 2
  · exact .inr (.inl h2)
  by_cases h3 : s.k = 3
  · exact .inr (.inr (.inl h3))
  by_cases h4 : s.k = 4
  · exact .inr (.inr (.inr (.inl h4)))
  by_cases h5 : s.k = 5
  · exact .inr (.inr (.inr (.inr (.inl h5))))
  by_cases h6 : s.k = 6
  · exact .inr (.inr (.inr (.inr (.inr h6))))
  rw [if_neg h1, if_neg h2, if_neg h3, if_neg h4, if_neg h5, if_neg h6] at h
  cases h
end
set_option maxRecDepth 100000 in
set_option maxHeartbeats 1000000 in
theorem ord_any (v : Value) (s : Sp) (m : Nat) (w : World) (hv : SqAt w v s) (hs : stE s = 0) (hk : s.k = 3 ∨ s.k = 4) (hm : m ≤ 65536) :
    Calls Tryz.prog 76 #[v, .int .i64 (m : Nat)] w fun e w' => ∃ x d, e = .returned x ∧ NumsAt w' x m d ∧ OrdP s m d ∧ Below w.heap.size w w' := by
  obtain ⟨mv, a, b, c, rfl, _, _, _, _⟩ := hv
  have hr0 := RowAt.new w 31 (spA s.k s.n s.key mv a b c s.g.rf s.g.pl)
  have hbe : Below w.heap.size w (w.alloc (.cells (spA s.k s.n s.key mv a b c s.g.rf s.g.pl) 31)) := (Below.refl _ w).alloc (Nat.le_refl _) _
  have c0 := hr0.cell (spA_0 s.k s.n s.key mv a b c s.g.rf s.g.pl)
  have c1 := hr0.cell (spA_1 s.k s.n s.key mv a b c s.g.rf s.g.pl)
  have c2 := hr0.cell (spA_2 s.k s.n s.key mv a b c s.g.rf s.g.pl)
  generalize spA s.k s.n s.key mv a b c s.g.rf s.g.pl = CS at *
  have HB : Hid _ := hbe
  clear hbe hr0
  go_enter Tryz.func76, Tryz.ntmps76
  rcases hk with hk | hk
  · obtain ⟨h1, h64⟩ := st_rail hs hk
    obtain ⟨R, hR⟩ : ∃ R : Nat, s.n = R := ⟨s.n.toNat, by omega⟩
    have HRR : Hid (s.n.toNat = R) := by rw [Hid, hR]; rfl
    have HKK : Hid (s.k = 3) := hk
    have HO : Hid _ := rail_ok m R hm (by omega) (by omega) (w.alloc (.cells CS 31))
    rw [hk] at c0
    rw [hR] at c1
    clear hk hR h1 h64
    go_wp2_with fail
    refine Calls.mono HO.out ?_
    rintro e V ⟨G, d, rfl, hrow, hb, hG, hord, hsrt⟩
    have HN : Hid (NumsAt V (.slice (some ⟨G, 0, none⟩) m m) m d) := ⟨_, _, rfl, by unfold maxLen; omega, fun c hc => ⟨G, 0, rfl, by rw [Nat.zero_add]; exact hrow.cell (ints_get d hc)⟩⟩
    have HP : Hid (OrdP s m d) := ⟨hord, .inl ⟨HKK.out, by rw [HRR.out]; exact hsrt⟩⟩
    have HB2 : Hid _ := HB.out.trans (hb.mono HB.out.size)
    clear hrow hb hG hord hsrt
    go_wp2
    go_ret
    exact ⟨_, d, rfl, HN.out, HP.out, HB2.out⟩
  · obtain ⟨h1, h2, h3⟩ := st_col hs hk
    obtain ⟨h4, _, _⟩ := ck_at h1
    have hl := Pl.size_len s.key
    have HKK : Hid (s.k = 4) := hk
    have HO : Hid _ := col_ok m s.key hm h1 h4 (by omega) (by omega) (w.alloc (.cells CS 31))
    rw [hk] at c0
    clear hk h1 h2 h3 h4 hl
    go_wp2_with fail
    refine Calls.mono HO.out ?_
    rintro e V ⟨G, d, t, rfl, hrow, hb, hG, hord, hsrt, htn⟩
    have HN : Hid (NumsAt V (.slice (some ⟨G, 0, none⟩) m m) m d) := ⟨_, _, rfl, by unfold maxLen; omega, fun c hc => ⟨G, 0, rfl, by rw [Nat.zero_add]; exact hrow.cell (ints_get d hc)⟩⟩
    have HP : Hid (OrdP s m d) := ⟨hord, .inr ⟨HKK.out, t, htn, hsrt⟩⟩
    have HB2 : Hid _ := HB.out.trans (hb.mono HB.out.size)
    clear hrow hb hG hord hsrt htn
    go_wp2
    go_ret
    exact ⟨_, d, rfl, HN.out, HP.out, HB2.out⟩
set_option maxRecDepth 100000 in
theorem cp_ok (a : Option Addr) (n cap : Nat) (A : Int) (t : ByteArray) (w : World) (hn : 1 ≤ n) (hn4 : n ≤ 4) (ht : t.size ≤ 65536) (h : t.size % n = 0) : Calls Tryz.prog 77 #[.slice a n cap, .int .i64 A, .string t] w fun e w' => e = .returned (.tuple #[]) ∧ w' = w := by
  have h0 : ¬ (n : Int) = 0 := by omega
  have h1 : ((t.size : Int) % (n : Int)) = 0 := by omega
  go_enter Tryz.func77, Tryz.ntmps77
  go_wp2_with fail
  go_end0
  exact ⟨rfl, rfl⟩
set_option maxRecDepth 100000 in
theorem cp_bad (a : Option Addr) (n cap : Nat) (A : Int) (t : ByteArray) (w : World) (hn : 1 ≤ n) (hn4 : n ≤ 4) (ht : t.size ≤ 65536) (h : t.size % n ≠ 0) : Calls Tryz.prog 77 #[.slice a n cap, .int .i64 A, .string t] w fun e w' => e = .panicked [flt 8 A] ∧ w' = w := by
  have h0 : ¬ (n : Int) = 0 := by omega
  have h1 : (((t.size : Int) % (n : Int)) != 0) = true := by simp; omega
  have HT : Hid _ := throw_any 8 A w
  go_enter Tryz.func77, Tryz.ntmps77
  go_wp2_with fail
  refine Calls.mono HT.out ?_
  rintro e w' ⟨rfl, rfl⟩
  exact ⟨rfl, rfl, rfl⟩
end Go.Proofs.YtkohhdkkbaifoaaGreatDoor
