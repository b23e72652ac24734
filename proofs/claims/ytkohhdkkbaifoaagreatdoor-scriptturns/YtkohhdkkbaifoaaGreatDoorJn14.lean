/-
  Several texts, joined: ScD, ScE, HTimes, HMade, HDet, HProd, WRep, WSmall, WEnc, WBad.
-/
import Derived.Test.YtkohhdkkbaifoaaGreatDoorJn7
import Derived.Test.YtkohhdkkbaifoaaGreatDoorJn9
import Derived.Test.YtkohhdkkbaifoaaGreatDoorJn10
import Derived.Test.YtkohhdkkbaifoaaGreatDoorJn13
import Derived.Test.YtkohhdkkbaifoaaGreatDoorJn3
import Derived.Deep.RegionHeld3
import Derived.Deep.OwnRows
import Derived.Deep.QuietTactic
import Derived.BigQuiet
import Derived.Test.YtkohhdkkbaifoaaGreatDoorJn1
import Derived.Shelf.Strings.Repeat
import Derived.Shelf.Lay
import Derived.Ground.NamesProg
import Derived.Lib.Agree
import Derived.RegionTactic
/-
  Contracts of script.moved, orderOf and checkPieces; what they make.
-/
namespace Go.Proofs.YtkohhdkkbaifoaaGreatDoor
open Go.RowKit PK Vg

/-- A letter, so many letters further on; a text's. -/
def mvC (by' : Nat) (c : UInt8) : UInt8 := ltr ((Vg.num c + by') % 26)
def mvL (by' : Nat) (l : List UInt8) : List UInt8 := l.map (mvC by')
def mvB (by' : Nat) (l : List UInt8) (m : Nat) : Nat → UInt8 := fun i => if i < m then mvC by' (l.getD i 0) else 0
theorem mvB_step (b : Nat) (l : List UInt8) (m : Nat) : upd (mvB b l m) m (mvC b (l.getD m 0)) = mvB b l (m + 1) := by
  funext i
  unfold upd mvB
  by_cases h : i = m
  · rw [if_pos h, if_pos (by omega), h]
  · rw [if_neg h]
    by_cases h2 : i < m
    · rw [if_pos h2, if_pos (by omega)]
    · rw [if_neg h2, if_neg (by omega)]
theorem mvL_length (b : Nat) (l : List UInt8) : (mvL b l).length = l.length := by simp [mvL]
theorem mvB_all (b : Nat) (l : List UInt8) : bytsY l.length (mvB b l l.length) = (Lib.byteCells (mvL b l)).toArray := by
  unfold bytsY tab Lib.byteCells mvL
  congr 1
  rw [List.map_map]
  apply List.ext_getElem
  · simp
  · intro i h1 h2
    have h3 : i < l.length := by simpa using h1
    simp [mvB, h3]
theorem at_let (s : ByteArray) (hl : Pl.Lets s.data.toList) (m : Nat) (h : m < s.size) : 65 ≤ s[m].toNat ∧ s[m].toNat ≤ 90 := by
  have h2 : m < s.data.toList.length := by rw [← Pl.size_len s]; exact h
  have e : s.data.toList[m] = s[m] := rfl
  have := hl s.data.toList[m] (List.getElem_mem _)
  rw [e] at this
  simp [Pl.isL] at this
  omega
set_option maxHeartbeats 400000 in
theorem num17_any (c : UInt8) (h : 65 ≤ c.toNat ∧ c.toNat ≤ 90) (w : World) : Calls Tryz.prog 117 #[.int .u8 c.toNat] w fun e w' => e = .returned (.int .i64 (Vg.num c : Nat)) ∧ w = w' := by
  have h1 : (c.toNat : Int) - 65 = ((Vg.num c : Nat) : Int) := by unfold Vg.num; omega
  have H1 : Hid ((c.toNat : Int) - 65 = ((Vg.num c : Nat) : Int)) := h1
  clear h1
  obtain ⟨h2, h3⟩ := h
  go_enter Tryz.func117, Tryz.ntmps117
  go_wp2
  go_ret
  exact ⟨ret_int H1.out, rfl⟩
set_option maxHeartbeats 400000 in
theorem let17_any (n : Nat) (h : n < 26) (w : World) : Calls Tryz.prog 116 #[.int .i64 n] w fun e w' => e = .returned (.int .u8 (ltr n).toNat) ∧ w = w' := by
  rw [ltr_toNat h]
  go_enter Tryz.func116, Tryz.ntmps116
  go_wp2
  go_ret
  exact ⟨ret_int (by omega), rfl⟩
set_option maxRecDepth 100000 in
set_option maxHeartbeats 1000000 in
theorem moved_any (s : ByteArray) (b : Nat) (hb26 : b ≤ 26) (hs : s.size ≤ 65536) (hl : Pl.Lets s.data.toList) (w : World) :
    Calls Tryz.prog 73 #[.string s, .int .i64 (b : Nat)] w fun e w' => e = .returned (.string ⟨(mvL b s.data.toList).toArray⟩) ∧ Below w.heap.size w w' := by
  have hmk := run_make_row' (P := Tryz.prog) 87 5 (.int .u8 0) 1 Tryz.underlying87 y_info_byte rfl .i64 .i64 s.size (by omega) (by omega)
  rw [y_made_tab, byts_newY] at hmk
  have HL : Hid (∀ m, (h : m < s.size) → 65 ≤ s[m].toNat ∧ s[m].toNat ≤ 90) := fun m h => at_let s hl m h
  have HLen : Hid (s.data.toList.length = s.size) := by rw [Hid, ← Pl.size_len s]
  clear hl
  go_enter Tryz.func73, Tryz.ntmps73
  go_wp2_with fail
  go_loopw [12] (fun i W => ∃ m : Nat, m ≤ s.size ∧ i = .int .i64 m ∧ RowAt W w.heap.size 5 (bytsY s.size (mvB b s.data.toList m)) ∧ Below w.heap.size w W) (fun i _ => ((s.size : Int) - intOf i).toNat)
  case atStart => exact ⟨0, by omega, rfl, RowAt.new w _ _, (Below.refl _ _).alloc (Nat.le_refl _) _⟩
  case round =>
    obtain ⟨m, hm, rfl, ro, hb⟩ := hrel
    by_cases hlt : m < s.size
    · have hlm := HL.out m hlt
      have hcx := ro.cell (byts_getY (mvB b s.data.toList m) hlt)
      have hfx := ro.frozen m
      have ro2 : RowAt (wr.setCell ⟨w.heap.size, m, none⟩ (.int .u8 (mvC b s[m]).toNat)) w.heap.size 5 (bytsY s.size (mvB b s.data.toList (m + 1))) := by
        have := ro.set m (.int .u8 (mvC b s[m]).toNat)
        rw [byts_setY, ← getD_byte s m hlt, mvB_step] at this
        rw [← getD_byte s m hlt]
        exact this
      have hbb := hb.setCell (p := ⟨w.heap.size, m, none⟩) (by simp) (.int .u8 (mvC b s[m]).toNat)
      have HN : Hid _ := num17_any s[m] hlm wr
      have hn26 := num_lt hlm
      have HLT : Hid _ := let17_any ((Vg.num s[m] + b) % 26) (by omega) wr
      have HMV : Hid (mvC b s[m] = ltr ((Vg.num s[m] + b) % 26)) := rfl
      generalize mvC b s[m] = C at *
      generalize Vg.num s[m] = x at *
      have hx2 : ((x : Int) + (b : Int)) ≤ 60 := by omega
      have htm : ((x : Int) + (b : Int)) % 26 = (((x + b) % 26 : Nat) : Int) := by omega
      rw [← HMV.out, ← htm] at HLT
      clear hlm ro hb htm
      go_wp2_with fail
      refine Calls.mono HN.out ?_
      rintro e V ⟨rfl, rfl⟩
      go_wp2_with fail
      refine Calls.mono HLT.out ?_
      rintro e V ⟨rfl, rfl⟩
      go_wp2_with fail
      exact ⟨⟨m + 1, by omega, by go_num, ro2, hbb⟩, by simp [intOf]; omega⟩
    · obtain rfl : m = s.size := by omega
      have ro2 : RowAt wr w.heap.size 5 (Lib.byteCells (mvL b s.data.toList)).toArray := by
        rw [← mvB_all, HLen.out]
        exact ro
      have hst := run_string_of_rowY (P := Tryz.prog) wr 87 9 5 Tryz.underlying87 Tryz.underlying5 Tryz.underlying9 (cap := s.size) ((mvL_length b s.data.toList).trans HLen.out) ro2
      clear ro
      go_wp2
      go_ret
      exact ⟨rfl, hb⟩
end Go.Proofs.YtkohhdkkbaifoaaGreatDoor

/-
  Orders of rails and of columns, as steps of a chain put them; contracts of script.orderOf and checkPieces.
-/
namespace Go.Proofs.YtkohhdkkbaifoaaGreatDoor
open Go.RowKit PK Vg Sm

theorem backF_congr {d d' : Nat → Int} : ∀ m, (∀ i, i < m → d i = d' i) → backF d m = backF d' m
  | 0, _ => rfl
  | m + 1, h => by unfold backF; rw [backF_congr m (fun i hi => h i (by omega)), h m (by omega)]
theorem putL_congr {n : Nat} {f f' : Nat → Int} (l : List UInt8) (h : ∀ i, i < n → f i = f' i) : putL n f l = putL n f' l := by
  unfold putL
  apply List.map_congr_left
  intro i hi
  rw [h i (by simpa using hi)]
theorem Turns.unique {l : List UInt8} {L : Nat} {t t' : Nat → Int} (h : Turns l L t) (h' : Turns l L t') : t = t' := by
  obtain ⟨d, ho, hs, e⟩ := h
  obtain ⟨d', ho', hs', e'⟩ := h'
  funext i
  rw [e i, e' i, backF_congr L (srt_unique ho ho' hs hs')]
/-- The order of a step over rails, or under a key. -/
def OrdP (s : Sp) (m : Nat) (d : Nat → Int) : Prop :=
  Order m d ∧ (s.k = 3 ∧ Srt (railKey s.n.toNat) d 0 m ∨ s.k = 4 ∧ ∃ t, Turns s.key.data.toList s.key.size t ∧ Srt (turnK s.key.size t) d 0 m)
theorem OrdP.unique {s : Sp} {m : Nat} {d d' : Nat → Int} (h : OrdP s m d) (h' : OrdP s m d') : ∀ i, i < m → d i = d' i := by
  obtain ⟨ho, h⟩ := h
  obtain ⟨ho', h'⟩ := h'
  rcases h with ⟨k, hs⟩ | ⟨k, t, ht, hs⟩
  · rcases h' with ⟨_, hs'⟩ | ⟨k', _⟩
    · exact srt_unique ho ho' hs hs'
    · omega
  · rcases h' with ⟨k', _⟩ | ⟨_, t', ht', hs'⟩
    · omega
    · rw [ht'.unique ht] at hs'; exact srt_unique ho ho' hs hs'
noncomputable def ordF (s : Sp) (m : Nat) : Nat → Int := Classical.epsilon (OrdP s m)
theorem ordF_of {s : Sp} {m : Nat} {d : Nat → Int} (h : OrdP s m d) : OrdP s m (ordF s m) ∧ ∀ i, i < m → d i = ordF s m i :=
  have hx : OrdP s m (ordF s m) := Classical.epsilon_spec ⟨d, h⟩
  ⟨hx, h.unique hx⟩
theorem inE_zero {n lo hi : Int} : inE n lo hi = 0 ↔ lo ≤ n ∧ n ≤ hi := by
  unfold inE
  by_cases h : n < lo ∨ hi < n
  · rw [if_pos h]; constructor
    · intro h; cases h
    · omega
  · rw [if_neg h]; constructor
    · omega
    · intro _; rfl
theorem keyE_zero {l : List UInt8} (h : keyE l = 0) : ckE l = 0 ∧ 1 ≤ l.length ∧ l.length ≤ 256 := by
  unfold keyE at h
  by_cases h1 : ckE l ≠ 0
  · rw [if_pos h1] at h; exact absurd h h1
  · rw [if_neg h1] at h
    by_cases h2 : l.length < 1 ∨ 256 < l.length
    · rw [if_pos h2] at h; cases h
    · exact ⟨by simpa using h1, by omega, by omega⟩
theorem ck_at {l : List UInt8} (h : ckE l = 0) : ckAt l = 0 ∧ l.length ≤ 65536 ∧ Pl.Lets l := by
  rcases ck_cases l with ⟨_, h2, h3, h4⟩ | h1
  · exact ⟨h2, h3, h4⟩
  · rw [h] at h1; cases h1
section
variable {s : Sp} (h : stE s = 0)
include h
theorem st_move (k : s.k = 1) : 0 ≤ s.n ∧ s.n ≤ 25 := by unfold stE at h; rw [if_pos k] at h; exact inE_zero.1 h
theorem st_tab (k : s.k = 2) : (1 ≤ s.n ∧ s.n ≤ 4) ∧ ckE s.key.data.toList = 0 ∧ 1 ≤ s.key.data.toList.length ∧ s.key.data.toList.length ≤ 256 := by
  unfold stE at h
  rw [if_neg (by omega), if_pos k] at h
  by_cases h1 : inE s.n 1 4 ≠ 0
  · rw [if_pos h1] at h; exact absurd h h1
  · rw [if_neg h1] at h; exact ⟨inE_zero.1 (by simpa using h1), keyE_zero h⟩
theorem st_rail (k : s.k = 3) : 1 ≤ s.n ∧ s.n ≤ 64 := by unfold stE at h; rw [if_neg (by omega), if_neg (by omega), if_pos k] at h; exact inE_zero.1 h
theorem st_col (k : s.k = 4) : ckE s.key.data.toList = 0 ∧ 1 ≤ s.key.data.toList.length ∧ s.key.data.toList.length ≤ 256 := by
  unfold stE at h; rw [if_neg (by omega), if_neg (by omega), if_neg (by omega), if_pos k] at h; exact keyE_zero h
theorem st_hill (k : s.k = 5) : matErr s.r s.L s.Z = 0 := by
  unfold stE at h; rw [if_neg (by omega), if_neg (by omega), if_neg (by omega), if_neg (by omega), if_pos k] at h; exact h
theorem st_rotor (k : s.k = 6) : gE s.g = 0 := by
  unfold stE at h; rw [if_neg (by omega), if_neg (by omega), if_neg (by omega), if_neg (by omega), if_neg (by omega), if_pos k] at h; exact h
theorem st_kinds : s.k = 1 ∨ s.k = 2 ∨ s.k = 3 ∨ s.k = 4 ∨ s.k = 5 ∨ s.k = 6 := by
  unfold stE at h
  by_cases h1 : s.k = 1
  · exact .inl h1
  by_cases h2 : s.k = 2
  · exact .inr (.inl h2)
  by_cases h3 : s.k = 3
  · exact .inr (.inr (.inl h3))
  by_cases h4 : s.k = 4
  · exact .inr (.inr (.inr (.inl h4)))
  by_cases h5 : s.k = 5
  · exact .inr (.inr (.inr (.inr (.inl h5))))
  by_cases h6 : s.k = 6
  · exact .inr (.inr (.inr (.inr (.inr h6))))
  rw [if_neg h1, if_neg h2, if_neg h3, if_neg h4, if_neg h5, if_neg h6] at h
  cases h
end
set_option maxRecDepth 100000 in
set_option maxHeartbeats 1000000 in
theorem ord_any (v : Value) (s : Sp) (m : Nat) (w : World) (hv : SqAt w v s) (hs : stE s = 0) (hk : s.k = 3 ∨ s.k = 4) (hm : m ≤ 65536) :
    Calls Tryz.prog 76 #[v, .int .i64 (m : Nat)] w fun e w' => ∃ x d, e = .returned x ∧ NumsAt w' x m d ∧ OrdP s m d ∧ Below w.heap.size w w' := by
  obtain ⟨mv, a, b, c, rfl, _, _, _, _⟩ := hv
  have hr0 := RowAt.new w 31 (spA s.k s.n s.key mv a b c s.g.rf s.g.pl)
  have hbe : Below w.heap.size w (w.alloc (.cells (spA s.k s.n s.key mv a b c s.g.rf s.g.pl) 31)) := (Below.refl _ w).alloc (Nat.le_refl _) _
  have c0 := hr0.cell (spA_0 s.k s.n s.key mv a b c s.g.rf s.g.pl)
  have c1 := hr0.cell (spA_1 s.k s.n s.key mv a b c s.g.rf s.g.pl)
  have c2 := hr0.cell (spA_2 s.k s.n s.key mv a b c s.g.rf s.g.pl)
  generalize spA s.k s.n s.key mv a b c s.g.rf s.g.pl = CS at *
  have HB : Hid _ := hbe
  clear hbe hr0
  go_enter Tryz.func76, Tryz.ntmps76
  rcases hk with hk | hk
  · obtain ⟨h1, h64⟩ := st_rail hs hk
    obtain ⟨R, hR⟩ : ∃ R : Nat, s.n = R := ⟨s.n.toNat, by omega⟩
    have HRR : Hid (s.n.toNat = R) := by rw [Hid, hR]; rfl
    have HKK : Hid (s.k = 3) := hk
    have HO : Hid _ := rail_ok m R hm (by omega) (by omega) (w.alloc (.cells CS 31))
    rw [hk] at c0
    rw [hR] at c1
    clear hk hR h1 h64
    go_wp2_with fail
    refine Calls.mono HO.out ?_
    rintro e V ⟨G, d, rfl, hrow, hb, hG, hord, hsrt⟩
    have HN : Hid (NumsAt V (.slice (some ⟨G, 0, none⟩) m m) m d) := ⟨_, _, rfl, by unfold maxLen; omega, fun c hc => ⟨G, 0, rfl, by rw [Nat.zero_add]; exact hrow.cell (ints_get d hc)⟩⟩
    have HP : Hid (OrdP s m d) := ⟨hord, .inl ⟨HKK.out, by rw [HRR.out]; exact hsrt⟩⟩
    have HB2 : Hid _ := HB.out.trans (hb.mono HB.out.size)
    clear hrow hb hG hord hsrt
    go_wp2
    go_ret
    exact ⟨_, d, rfl, HN.out, HP.out, HB2.out⟩
  · obtain ⟨h1, h2, h3⟩ := st_col hs hk
    obtain ⟨h4, _, _⟩ := ck_at h1
    have hl := Pl.size_len s.key
    have HKK : Hid (s.k = 4) := hk
    have HO : Hid _ := col_ok m s.key hm h1 h4 (by omega) (by omega) (w.alloc (.cells CS 31))
    rw [hk] at c0
    clear hk h1 h2 h3 h4 hl
    go_wp2_with fail
    refine Calls.mono HO.out ?_
    rintro e V ⟨G, d, t, rfl, hrow, hb, hG, hord, hsrt, htn⟩
    have HN : Hid (NumsAt V (.slice (some ⟨G, 0, none⟩) m m) m d) := ⟨_, _, rfl, by unfold maxLen; omega, fun c hc => ⟨G, 0, rfl, by rw [Nat.zero_add]; exact hrow.cell (ints_get d hc)⟩⟩
    have HP : Hid (OrdP s m d) := ⟨hord, .inr ⟨HKK.out, t, htn, hsrt⟩⟩
    have HB2 : Hid _ := HB.out.trans (hb.mono HB.out.size)
    clear hrow hb hG hord hsrt htn
    go_wp2
    go_ret
    exact ⟨_, d, rfl, HN.out, HP.out, HB2.out⟩
set_option maxRecDepth 100000 in
theorem cp_ok (a : Option Addr) (n cap : Nat) (A : Int) (t : ByteArray) (w : World) (hn : 1 ≤ n) (hn4 : n ≤ 4) (ht : t.size ≤ 65536) (h : t.size % n = 0) : Calls Tryz.prog 77 #[.slice a n cap, .int .i64 A, .string t] w fun e w' => e = .returned (.tuple #[]) ∧ w' = w := by
  have h0 : ¬ (n : Int) = 0 := by omega
  have h1 : ((t.size : Int) % (n : Int)) = 0 := by omega
  go_enter Tryz.func77, Tryz.ntmps77
  go_wp2_with fail
  go_end0
  exact ⟨rfl, rfl⟩
set_option maxRecDepth 100000 in
theorem cp_bad (a : Option Addr) (n cap : Nat) (A : Int) (t : ByteArray) (w : World) (hn : 1 ≤ n) (hn4 : n ≤ 4) (ht : t.size ≤ 65536) (h : t.size % n ≠ 0) : Calls Tryz.prog 77 #[.slice a n cap, .int .i64 A, .string t] w fun e w' => e = .panicked [flt 8 A] ∧ w' = w := by
  have h0 : ¬ (n : Int) = 0 := by omega
  have h1 : (((t.size : Int) % (n : Int)) != 0) = true := by simp; omega
  have HT : Hid _ := throw_any 8 A w
  go_enter Tryz.func77, Tryz.ntmps77
  go_wp2_with fail
  refine Calls.mono HT.out ?_
  rintro e w' ⟨rfl, rfl⟩
  exact ⟨rfl, rfl, rfl⟩
end Go.Proofs.YtkohhdkkbaifoaaGreatDoor

/-
  Contracts of hill.past, hill.reciprocal, hill.times, hill.made.
-/
namespace Go.Proofs.YtkohhdkkbaifoaaGreatDoor
open Go.RowKit PK

/-- The sum of row times what it is multiplied by, as far as n. -/
def sumTo (f g : Nat → Int) : Nat → Int
  | 0 => 0
  | k + 1 => sumTo f g k + f k * g k
theorem prod_bound {a b : Int} (ha : 0 ≤ a ∧ a < 26) (hb : 0 ≤ b ∧ b < 26) : 0 ≤ a * b ∧ a * b ≤ 625 := by
  refine ⟨Int.mul_nonneg ha.1 hb.1, ?_⟩
  have h1 : a * b ≤ 25 * b := Int.mul_le_mul_of_nonneg_right (by omega) hb.1
  omega
theorem sumTo_bound (f g : Nat → Int) : ∀ n, (∀ k, k < n → (0 ≤ f k ∧ f k < 26) ∧ 0 ≤ g k ∧ g k < 26) → 0 ≤ sumTo f g n ∧ sumTo f g n ≤ 625 * n
  | 0, _ => by simp [sumTo]
  | n + 1, h => by
    have ih := sumTo_bound f g n fun k hk => h k (by omega)
    have h1 := prod_bound (h n (by omega)).1 (h n (by omega)).2
    show 0 ≤ sumTo f g n + f n * g n ∧ sumTo f g n + f n * g n ≤ 625 * ((n + 1 : Nat) : Int)
    omega
set_option maxHeartbeats 1000000 in
theorem times_any (v : Value) (n : Nat) (hn : n ≤ 4) (f g : Nat → Int) (m : Nat) (cap : Array Value) (w : World) (hv : NumsAt w v n f) (hent : ∀ (args : Array Value) (W : World), (callFunc m args).run Tryz.prog W = .ok (.enter m args) W)
    (hb : ∀ k, k < n → (0 ≤ f k ∧ f k < 26) ∧ 0 ≤ g k ∧ g k < 26)
    (hp : ∀ k, k < n → ∀ W : World, Below w.heap.size w W → Calls Tryz.prog m (#[.int .i64 (k : Nat)] ++ cap) W fun e w' => e = .returned (.int .i64 (g k)) ∧ Below W.heap.size W w') :
    Calls Tryz.prog 127 #[v, .func (.func m) #[] cap] w fun e w' => e = .returned (.int .i64 (sumTo f g n % 26)) ∧ Below w.heap.size w w' := by
  have HB : Hid (∀ k, k < n → (0 ≤ f k ∧ f k < 26) ∧ 0 ≤ g k ∧ g k < 26) := hb
  have HP : Hid (∀ k, k < n → ∀ W : World, Below w.heap.size w W → Calls Tryz.prog m (#[.int .i64 (k : Nat)] ++ cap) W fun e w' => e = .returned (.int .i64 (g k)) ∧ Below W.heap.size W w') := hp
  clear hb hp
  have HV : Hid (NumsAt w v n f) := hv
  obtain ⟨a, cp, rfl, _⟩ := hv.len
  clear hv
  go_enter Tryz.func127, Tryz.ntmps127
  go_wp2
  go_loopw [10, 5] (fun i s W => ∃ k : Nat, k ≤ n ∧ i = .int .i64 k ∧ s = .int .i64 (sumTo f g k) ∧ Below w.heap.size w W) (fun i _ _ => ((n : Int) - intOf i).toNat)
  case atStart => exact ⟨0, by omega, rfl, rfl, Below.refl _ _⟩
  case round =>
    obtain ⟨k, hk, rfl, rfl, hb⟩ := hrel
    have HSB : Hid _ := sumTo_bound f g k fun j hj => HB.out j (by omega)
    by_cases hlt : k < n
    · obtain ⟨b, o, cp', e, _, hc⟩ := HV.out.form (by omega)
      cases e
      have hck := (hb.cell (p := ⟨b, o + k, none⟩) (cell_block (hc k hlt))).trans (hc k hlt)
      clear hc
      have HC : Hid (Calls Tryz.prog m (#[.int .i64 (k : Nat)] ++ cap) wr fun e w' => e = .returned (.int .i64 (g k)) ∧ Below wr.heap.size wr w') := HP.out k hlt wr hb
      have hsb := HSB.out
      have hfg := prod_bound (HB.out k hlt).1 (HB.out k hlt).2
      have HS : Hid (sumTo f g (k + 1) = sumTo f g k + f k * g k) := rfl
      generalize sumTo f g k = s at *
      have HS0 : Hid (sumTo f g (k + 1) = sumTo f g (k + 1)) := rfl
      obtain ⟨s', hs'⟩ : ∃ s', s' = sumTo f g (k + 1) := ⟨_, rfl⟩
      rw [← hs'] at HS
      replace HS0 : Hid (sumTo f g (k + 1) = s') := hs'.symm
      clear hs'
      generalize g k = y at *
      generalize f k = x at *
      obtain ⟨p, hp⟩ : ∃ p, p = x * y := ⟨_, rfl⟩
      rw [← hp] at hfg HS
      have hpw : IntKind.i64.wrap (x * y) = p := by rw [← hp, IntKind.wrap_i64]; omega
      clear hp
      go_wp2_with fail
      refine Calls.mono HC.out ?_
      rintro e w1 ⟨rfl, hb1⟩
      go_wp2
      go_roundw
      case rel => exact ⟨k + 1, by omega, by go_num, by rw [HS0.out, HS.out], hb.trans (hb1.mono hb.size)⟩
      case measure => simp [intOf]; omega
    · have hkn : k = n := by omega
      subst hkn
      have hsb := HSB.out
      go_wp2
      go_ret
      exact ⟨rfl, hb⟩
/-- What makes 1 of d, and 0; or 0 and ErrNone. -/
def recOf (d : Int) : Int × Int := match (List.range 26).find? fun (v : Nat) => (d * (v : Int)) % 26 == 1 with | some v => ((v : Int), 0) | none => (0, 6)
end Go.Proofs.YtkohhdkkbaifoaaGreatDoor

/-
  Contract of hill.made, for any function.
-/
namespace Go.Proofs.YtkohhdkkbaifoaaGreatDoor
open Go.RowKit PK

theorem h_info_int : (Tryz.prog.info? 3).map (fun i => (i.zero, i.size, i.bytes)) = some (some (.int .i64 0), 1, 8) := by kernel_rfl
theorem h_info_ints : (Tryz.prog.info? 25).map (fun i => (i.zero, i.size, i.bytes)) = some (some (.slice none 0 0), 1, 24) := by kernel_rfl
/-- The first k places filled. -/
def fillV (v : Nat → Value) (z : Value) (k : Nat) : Nat → Value := fun i => if i < k then v i else z
theorem fillV_step (v : Nat → Value) (z : Value) (k : Nat) (x : Value) (hx : x = v k) : upd (fillV v z k) k x = fillV v z (k + 1) := by
  funext i
  subst hx
  unfold fillV upd
  by_cases e : i = k
  · subst e; simp
  · by_cases h : i < k
    · simp [e, h]; omega
    · have : ¬ i < k + 1 := by omega
      simp [e, h, this]
theorem made_tab (z : Value) (n : Nat) : madeCells #[z] n = tab n fun _ => z := by
  unfold madeCells tab
  apply Array.ext
  · simp
  · intro i h1 h2
    simp [Nat.mod_one]
end Go.Proofs.YtkohhdkkbaifoaaGreatDoor

/-
  Contracts of hill.cofactor and hill.det.
-/
namespace Go.Proofs.YtkohhdkkbaifoaaGreatDoor
open Go.RowKit PK

/-- Counted as if gone were not there. -/
def skip (i gone : Nat) : Nat := if i < gone then i else i + 1
/-- What is left without row y and place x. -/
def minor (Z : Nat → Nat → Int) (y x : Nat) : Nat → Nat → Int := fun i j => Z (skip i y) (skip j x)
/-- With its sign, modulo 26. -/
def signed (s : Nat) (d : Int) : Int := if s % 2 = 1 then (26 - d) % 26 else d
/-- The determinant along the first row, modulo 26. -/
def detL : Nat → (Nat → Nat → Int) → Int
  | 0, _ => 1
  | n + 1, Z => sumTo (Z 0) (fun x => signed (0 + x) (detL n (minor Z 0 x))) (n + 1) % 26
def cofL (n : Nat) (Z : Nat → Nat → Int) (y x : Nat) : Int := signed (y + x) (detL n (minor Z y x))
end Go.Proofs.YtkohhdkkbaifoaaGreatDoor

/-
  Contracts of hill.Det, hill.Product, hill.Inverse.
-/
namespace Go.Proofs.YtkohhdkkbaifoaaGreatDoor
open Go.RowKit PK

/-- A matrix's rows are all as long. -/
theorem PK.MatAt.square {w : World} {v : Value} {n : Nat} {L : Nat → Nat} {Z : Nat → Nat → Int} (h : MatAt w v n L Z) (hL : ∀ r, r < n → L r = n) : MatAt w v n (fun _ => n) Z := h.congr hL fun _ _ _ _ => rfl
/-- Rows by columns, modulo 26. -/
def mulL (n : Nat) (A B : Nat → Nat → Int) : Nat → Nat → Int := fun y x => sumTo (A y) (fun k => B k x) n % 26
end Go.Proofs.YtkohhdkkbaifoaaGreatDoor

/-
  strings.Repeat of one X, out of the shelf; hill.filled, number, letter.
-/
namespace Go.Proofs.YtkohhdkkbaifoaaGreatDoor
open Go.Shelf Go.RowKit PK

shelf_lay Lays.n105 Nm 105 at Tryz as Tryz.laysRepeat

theorem extraRepeat : Builder.Extra Tryz.prog Tryz.laysRepeat_ren where
  sizeBuilder := by kernel_rfl
  liesBuilder := by kernel_rfl
  t5 := Tryz.laysRepeat.t5
  a5 := Tryz.laysRepeat.a5
  z5 := Tryz.laysRepeat.z5
  v5 := Tryz.laysRepeat.v5
  infoByte := by kernel_rfl
  cellsByte := by kernel_rfl
  sizeByte := by kernel_rfl
  neB5 := by decide
theorem fRepeat : Tryz.laysRepeat_ren.f 105 = 175 := by kernel_rfl
theorem rep_X (c : Nat) : Lib.repeatL [88] c = List.replicate c 88 := by
  induction c with
  | zero => rfl
  | succ c ih => rw [Lib.repeatL, ih]; rfl
theorem repeatX (c : Nat) (hc : c ≤ 4) (w : World) : Calls Tryz.prog 175 #[.string ⟨#[88]⟩, .int .i64 (c : Nat)] w fun e w' => e = .returned (.string ⟨(List.replicate c 88).toArray⟩) ∧ Below w.heap.size w w' := by
  have h := Any.strings_Repeat Tryz.laysRepeat extraRepeat ⟨#[88]⟩ c w (by omega) (by show 1 * c ≤ _; omega)
  rw [fRepeat] at h
  refine h.mono fun e w' ⟨he, hw⟩ => ⟨?_, hw⟩
  rw [he]
  show Ending.returned (.string ⟨(Lib.repeatL [88] c).toArray⟩) = _
  rw [rep_X]
end Go.Proofs.YtkohhdkkbaifoaaGreatDoor

/-
  Contracts of hill.number, hill.letter, hill.filled, and of the closure of hill.Write.
-/
namespace Go.Proofs.YtkohhdkkbaifoaaGreatDoor
open Go.RowKit PK

/-- A letter's number. -/
def num (b : UInt8) : Int := (b.toNat : Int) - 65
theorem num_any (c : Nat) (h1 : 65 ≤ c) (h2 : c ≤ 90) (w : World) : Calls Tryz.prog 129 #[.int .u8 (c : Nat)] w fun e w' => e = .returned (.int .i64 ((c : Int) - 65)) ∧ w = w' := by
  have hw : IntKind.u8.wrap ((c : Int) - 65) = (c : Int) - 65 := by rw [IntKind.wrap_u8]; omega
  go_enter Tryz.func129, Tryz.ntmps129
  go_wp2
  go_ret
  exact ⟨rfl, rfl⟩
theorem letter_anyW (n : Int) (h1 : 0 ≤ n) (h2 : n < 26) (w : World) : Calls Tryz.prog 130 #[.int .i64 n] w fun e w' => e = .returned (.int .u8 (65 + n)) ∧ w = w' := by
  have hw : IntKind.u8.wrap (65 + n) = 65 + n := by rw [IntKind.wrap_u8]; omega
  go_enter Tryz.func130, Tryz.ntmps130
  go_wp2
  go_ret
  exact ⟨rfl, rfl⟩
/-- Text, filled up by X till n divides its length. -/
def fullL (n : Nat) (t : List UInt8) : List UInt8 := t ++ List.replicate ((n - t.length % n) % n) 88
theorem wpList_catW {P : Program} {ops : Array Oper} {rest : List Oper} {op : Oper} {a : Act} {w : World} {Q : Exit → Act → World → Prop} (hgd : op.guard = none) (t t' : TypeId) (x y : Operand) (ho : op.op = .binOp .add t x y t')
    (S T : ByteArray) (hx : a.eval x = .string S) (hy : a.eval y = .string T) (hsz : S.size + T.size ≤ 9223372036854775807) (h : wpList P ops Q rest (a.put op.dst (.string (S ++ T))) w) : wpList P ops Q (op :: rest) a w :=
  wpList_plain hgd fun _ hK => by
    unfold Oper.wp execOp
    have h1 : ¬ (S.size + T.size > 9223372036854775807) := by omega
    have h2 : (eqGuard .add t x y (.string S) (.string T)).run P w = .ok () w := by simp [eqGuard]
    have h3 : (binOp .add t (.string S) (.string T)).run P w = .ok (.string (S ++ T)) w := by rw [binOp_string_add, run_string_add_if, if_neg h1]
    simp only [ho, hx, hy, Sem.run_bind, h2, h3, Result.andThen_ok]
    exact hK _ _ h
theorem cat_bytes (S : ByteArray) (l : List UInt8) : S ++ (⟨l.toArray⟩ : ByteArray) = ⟨(S.data.toList ++ l).toArray⟩ := by
  apply ByteArray.ext
  simp [ByteArray.data_append]
set_option maxHeartbeats 1000000 in
theorem filled_any (s : ByteArray) (hs : s.size ≤ 65536) (n : Nat) (h1 : 1 ≤ n) (h4 : n ≤ 4) (w : World) : Calls Tryz.prog 126 #[.string s, .int .i64 (n : Nat)] w fun e w' => e = .returned (.string ⟨(fullL n s.data.toList).toArray⟩) ∧ Below w.heap.size w w' := by
  have HL : Hid (s.size = s.data.toList.length) := Pl.size_len s
  obtain ⟨c, hc⟩ : ∃ c, c = (n - s.size % n) % n := ⟨_, rfl⟩
  have hmod : s.size % n < n := Nat.mod_lt _ (by omega)
  have hcn : c < n := by rw [hc]; exact Nat.mod_lt _ (by omega)
  have HV : Hid (fullL n s.data.toList = s.data.toList ++ List.replicate c 88) := by rw [Hid]; unfold fullL; rw [← HL.out, ← hc]
  have e1 : ((s.size : Nat) : Int) % ((n : Nat) : Int) = ((s.size % n : Nat) : Int) := by omega
  have e2 : (((n : Nat) : Int) - ((s.size % n : Nat) : Int)) % ((n : Nat) : Int) = ((c : Nat) : Int) := by
    have : ((n : Nat) : Int) - ((s.size % n : Nat) : Int) = ((n - s.size % n : Nat) : Int) := by omega
    rw [this, hc]
    omega
  obtain ⟨r, hr⟩ : ∃ r, r = s.size % n := ⟨_, rfl⟩
  rw [← hr] at e1 e2 hmod
  have hne : (((n : Nat) : Int) == 0) = false := by simp; omega
  clear hc hr
  have hns : ((⟨(List.replicate c 88).toArray⟩ : ByteArray)).size = c := by simp [ByteArray.size]
  go_enter Tryz.func126, Tryz.ntmps126
  go_wp2_with fail
  refine Calls.mono (repeatX c (by omega) w) ?_
  rintro e W1 ⟨rfl, hb⟩
  have HC : Hid (s ++ (⟨(List.replicate c 88).toArray⟩ : ByteArray) = ⟨(fullL n s.data.toList).toArray⟩) := by rw [Hid, cat_bytes, HV.out]
  obtain ⟨T, hT⟩ : ∃ T : ByteArray, T = ⟨(List.replicate c 88).toArray⟩ := ⟨_, rfl⟩
  rw [← hT] at HC hns ⊢
  clear hT
  go_wp2_with (first | refine wpList_catW rfl _ _ _ _ rfl _ _ rfl rfl (by omega) ?_)
  go_ret
  exact ⟨by rw [← HC.out]; rfl, hb⟩
end Go.Proofs.YtkohhdkkbaifoaaGreatDoor

/-
  What Write makes of a text: plain mathematics. The closure of hill.Write.
-/
namespace Go.Proofs.YtkohhdkkbaifoaaGreatDoor
open Go.RowKit PK

/-- The number that place i becomes. -/
def encN (n : Nat) (Z : Nat → Nat → Int) (full : List UInt8) (i : Nat) : Int := sumTo (Z (i % n)) (fun k => num (full.getD (i - i % n + k) 0)) n % 26
/-- The letters of the first m places. -/
def encL (n : Nat) (Z : Nat → Nat → Int) (full : List UInt8) (m : Nat) : List UInt8 := (List.range m).map fun i => UInt8.ofNat (65 + (encN n Z full i).toNat)
theorem encN_bound (n : Nat) (Z : Nat → Nat → Int) (full : List UInt8) (i : Nat) : 0 ≤ encN n Z full i ∧ encN n Z full i < 26 := ⟨Int.emod_nonneg _ (by decide), Int.emod_lt_of_pos _ (by decide)⟩
theorem encL_step (n : Nat) (Z : Nat → Nat → Int) (full : List UInt8) (m : Nat) : encL n Z full (m + 1) = encL n Z full m ++ [UInt8.ofNat (65 + (encN n Z full m).toNat)] := by unfold encL; rw [List.range_succ, List.map_append]; rfl
theorem encL_length (n : Nat) (Z : Nat → Nat → Int) (full : List UInt8) (m : Nat) : (encL n Z full m).length = m := by simp [encL]
theorem fullL_length (n : Nat) (h : 1 ≤ n) (t : List UInt8) : (fullL n t).length % n = 0 ∧ t.length ≤ (fullL n t).length ∧ (fullL n t).length < t.length + n := by
  have e : (fullL n t).length = t.length + (n - t.length % n) % n := by simp [fullL]
  have h1 : t.length % n < n := Nat.mod_lt _ (by omega)
  have h2 : (n - t.length % n) % n < n := Nat.mod_lt _ (by omega)
  refine ⟨?_, by omega, by omega⟩
  rw [e]
  by_cases h0 : t.length % n = 0
  · rw [h0, Nat.sub_zero, Nat.mod_self, Nat.add_zero]; exact h0
  · rw [Nat.mod_eq_of_lt (show n - t.length % n < n by omega)]
    have := Nat.div_add_mod t.length n
    have e2 : t.length + (n - t.length % n) = n * (t.length / n + 1) := by rw [Nat.mul_add]; omega
    rw [e2]
    exact Nat.mul_mod_right _ _
theorem lets_full (n : Nat) (t : List UInt8) (h : Pl.Lets t) : Pl.Lets (fullL n t) := fun c hc => by
  rcases List.mem_append.1 hc with h1 | h1
  · exact h c h1
  · rw [(List.mem_replicate.1 h1).2]; decide
theorem num_bound {l : List UInt8} (h : Pl.Lets l) (i : Nat) (hi : i < l.length) : (0 ≤ num (l.getD i 0) ∧ num (l.getD i 0) < 26) ∧ 65 ≤ (l.getD i 0).toNat ∧ (l.getD i 0).toNat ≤ 90 := by
  have hm : l.getD i 0 ∈ l := by
    have : l[i]? = some (l.getD i 0) := by simp [List.getD, List.getElem?_eq_getElem hi]
    exact List.mem_of_getElem? this
  have := of_decide_eq_true (show decide _ = true from h _ hm)
  unfold num
  omega
set_option maxHeartbeats 1000000 in
theorem wr1_any (s : ByteArray) (hl : Pl.Lets s.data.toList) (hs : s.size ≤ 70000) (bf ba at' : Nat) (w : World) (hbf : w.cell? ⟨bf, 0, none⟩ = some (.string s)) (hba : w.cell? ⟨ba, 0, none⟩ = some (.int .i64 (at' : Nat))) (k : Nat) (hk : at' + k < s.size) :
    Calls Tryz.prog 128 #[.int .i64 (k : Nat), .pointer (some ⟨bf, 0, none⟩), .pointer (some ⟨ba, 0, none⟩)] w fun e w' => e = .returned (.int .i64 (num (s.data.toList.getD (at' + k) 0))) ∧ Below w.heap.size w w' := by
  have hb := num_bound hl (at' + k) (by have := Pl.size_len s; omega)
  have HE : Hid (num (s.data.toList.getD (at' + k) 0) = (((s[at' + k]).toNat : Nat) : Int) - 65) := by rw [Hid, getD_byte s (at' + k) hk]; rfl
  have hb2 : 65 ≤ (s[at' + k]).toNat ∧ (s[at' + k]).toNat ≤ 90 := by rw [← getD_byte s (at' + k) hk]; exact hb.2
  have HN := (show Hid (∀ W, Calls Tryz.prog 129 #[.int .u8 (((s[at' + k]).toNat : Nat) : Int)] W fun e w' => e = .returned (.int .i64 ((((s[at' + k]).toNat : Nat) : Int) - 65)) ∧ W = w') from fun W => num_any _ hb2.1 hb2.2 W)
  have hi : ((at' : Nat) : Int) + ((k : Nat) : Int) < ((s.size : Nat) : Int) := by omega
  clear hb hb2 hl
  go_enter Tryz.func128, Tryz.ntmps128
  go_wp2_with fail
  refine Calls.mono (HN.out w) ?_
  rintro e W1 ⟨rfl, rfl⟩
  go_wp2
  go_ret
  exact ⟨ret_int HE.out.symm, Below.refl _ _⟩
end Go.Proofs.YtkohhdkkbaifoaaGreatDoor

/-
  Contract of hill.Write where something is wrong.
-/
namespace Go.Proofs.YtkohhdkkbaifoaaGreatDoor
open Go.RowKit PK

end Go.Proofs.YtkohhdkkbaifoaaGreatDoor
