/-
  Several texts, joined: TpK, TpWt, TeC, TfM, TfA, TfB, TfC.
-/
import Derived.Test.YtpdemelchhkfaaaJn25
import Derived.Test.YtpdemelchhkfaaaJn24
import Derived.Test.YtpdemelchhkfaaaJn23
/-
  Contract of tele's Key (chapter 13).
-/
namespace Go.Proofs.Ytpdemelchhkfaaa
open Go.RowKit PK Tl

/-- The first m are told. -/
def kyF (T : Te) (m : Nat) : Nat → Int := fun k => if k < m then ((keyN T k : Nat) : Int) else 0
theorem kyF_start (T : Te) (n : Nat) : (ints n fun _ => 0) = ints n (kyF T 0) := ints_ext fun i _ => by unfold kyF; rw [if_neg (by omega)]
theorem kyF_next (T : Te) (n m : Nat) : ints n (upd (kyF T m) m ((keyN T m : Nat) : Int)) = ints n (kyF T (m + 1)) := ints_ext fun i hi => by
  unfold upd
  by_cases e : i = m
  · rw [if_pos e]
    unfold kyF
    rw [if_pos (by omega), e]
  · rw [if_neg e]
    unfold kyF
    by_cases e2 : i < m
    · rw [if_pos e2, if_pos (by omega)]
    · rw [if_neg e2, if_neg (by omega)]
theorem kyF_all (T : Te) (n : Nat) : ints n (kyF T n) = ints n fun i => ((keyN T i : Nat) : Int) := ints_ext fun i hi => by
  unfold kyF
  rw [if_pos hi]
end Go.Proofs.Ytpdemelchhkfaaa

/-
  Contract of tele's Write (chapter 13).
-/
namespace Go.Proofs.Ytpdemelchhkfaaa
open Go.RowKit PK Tl

/-- The first m are added. -/
def wrF (T : Te) (f : Nat → Int) (m : Nat) : Nat → Int := fun k => if k < m then wrN T f k else ((keyN T k : Nat) : Int)
theorem wrF_start (T : Te) (f : Nat → Int) (n : Nat) : (ints n fun i => ((keyN T i : Nat) : Int)) = ints n (wrF T f 0) := ints_ext fun i _ => by unfold wrF; rw [if_neg (by omega)]
theorem wrF_next (T : Te) (f : Nat → Int) (n m : Nat) : ints n (upd (wrF T f m) m (wrN T f m)) = ints n (wrF T f (m + 1)) := ints_ext fun i hi => by
  unfold upd
  by_cases e : i = m
  · rw [if_pos e]
    unfold wrF
    rw [if_pos (by omega), e]
  · rw [if_neg e]
    unfold wrF
    by_cases e2 : i < m
    · rw [if_pos e2, if_pos (by omega)]
    · rw [if_neg e2, if_neg (by omega)]
theorem wrF_all (T : Te) (f : Nat → Int) (n : Nat) : ints n (wrF T f n) = ints n (wrN T f) := ints_ext fun i hi => by
  unfold wrF
  rw [if_pos hi]
theorem wrF_at (T : Te) (f : Nat → Int) (i : Nat) : wrF T f i i = ((keyN T i : Nat) : Int) := by unfold wrF; rw [if_neg (by omega)]
end Go.Proofs.Ytpdemelchhkfaaa

/-
  What Wrong, Key, Write and Delta must answer (chapter 13), and that the document's and tele's do.
-/
namespace Go.Proofs.Ytpdemelchhkfaaa
open Go.RowKit PK Tl

def PTWr (F : FuncId) : Prop := ∀ (v : Value) (T : Te) (w : World), TeAt w v T → Calls Try.prog F #[v] w fun e w' => e = .returned (.int .i64 (teE T)) ∧ Below w.heap.size w w'
def PTKy (F : FuncId) : Prop := ∀ (v : Value) (T : Te) (n : Int) (w : World), TeAt w v T → Calls Try.prog F #[v, .int .i64 n] w fun e w' => ∃ v', e = .returned (.tuple #[v', .int .i64 (kyE T n)]) ∧ NumsAt w' v' (rl (kyE T n) n.toNat) (fun i => ((keyN T i : Nat) : Int)) ∧ Below w.heap.size w w'
def PTWt (F : FuncId) : Prop := ∀ (v vt : Value) (T : Te) (n : Nat) (f : Nat → Int) (w : World), TeAt w v T → NumsAt w vt n f → Calls Try.prog F #[v, vt] w fun e w' => ∃ v', e = .returned (.tuple #[v', .int .i64 (twE T n f)]) ∧ NumsAt w' v' (rl (twE T n f) n) (wrN T f) ∧ Below w.heap.size w w'
def PTDe (F : FuncId) : Prop := ∀ (vt : Value) (n : Nat) (f : Nat → Int) (w : World), NumsAt w vt n f → Calls Try.prog F #[vt] w fun e w' => ∃ v', e = .returned (.tuple #[v', .int .i64 (faE n f)]) ∧ NumsAt w' v' (rl (faE n f) (n - 1)) (dlN f) ∧ Below w.heap.size w w'
theorem rl_zero (n : Nat) : rl 0 n = n := if_pos rfl
theorem nums_none {w : World} {E : Int} (hE : E ≠ 0) (n : Nat) (f : Nat → Int) : NumsAt w (.slice none 0 0) (rl E n) f := by
  unfold rl
  rw [if_neg hE]
  exact ⟨none, 0, rfl, by decide, fun c hc => by omega⟩
theorem tele_tde : PTDe 16 := fun vt n f w ht => by
  by_cases hE : faE n f = 0
  · refine (pdl_ok vt n f hE w ht).mono ?_
    rintro e w' ⟨g, h4, h5, h6⟩
    refine ⟨_, by rw [h4, hE], ?_, h6⟩
    rw [hE, rl_zero]
    exact NumsAt.of_row h5 (by have := (faE_zero hE).1; unfold maxLen; omega)
  · refine (pdl_bad vt n f hE w ht).mono ?_
    rintro e w' ⟨h1, h2⟩
    exact ⟨_, h1, nums_none hE _ _, h2⟩
theorem smB_self (n : Nat) (f : Nat → Int) : smB n n f f = true := smB_iff.2 ⟨rfl, fun _ _ => rfl⟩
set_option maxRecDepth 100000 in
set_option maxHeartbeats 4000000 in
theorem alive13 (w : World) : Calls Try.prog 9 #[] w fun e w' => e = .returned (.bool true) ∧ Below w.heap.size w w' := by
  have hr1 : RowAt (w.alloc (.cells #[.int .i64 3, .int .i64 5] 3)) w.heap.size 3 (ints 2 fun i => if i = 0 then 3 else 5) := RowAt.new w _ _
  have hbe := (Below.refl w.heap.size w).alloc (Nat.le_refl _) (.cells #[.int .i64 3, .int .i64 5] 3)
  go_enter Try.func9, Try.ntmps9
  go_wp2_with fail
  generalize w.alloc (.cells #[.int .i64 3, .int .i64 5] 3) = W0 at *
  have hE : faE 2 (fun i => if i = 0 then 3 else 5) = 0 := faE_ok (by decide) (fun c hc => by show 0 ≤ (if c = 0 then (3 : Int) else 5) ∧ (if c = 0 then (3 : Int) else 5) ≤ 31; split <;> omega)
  refine (tele_tde _ 2 (fun i => if i = 0 then 3 else 5) W0 (NumsAt.of_row hr1 (by decide))).mono ?_
  rintro e W1 ⟨v', rfl, hv, hb⟩
  rw [hE]
  rw [hE, rl_zero] at hv
  obtain ⟨bb, o, cap, rfl, _, hc⟩ := hv.form (by decide)
  have h0 := hc 0 (by decide)
  have hd0 : dlN (fun i => if i = 0 then 3 else 5) 0 = 6 := by decide
  rw [hd0, Nat.add_zero] at h0
  have HB := (show Hid (Below w.heap.size w W1) from hbe.trans (hb.mono hbe.size))
  clear hb hbe hr1 hv hc hE hd0
  go_wp2
  go_ret
  exact ⟨by first | rfl | simp, HB.out⟩
end Go.Proofs.Ytpdemelchhkfaaa

/-
  Best of two wheels: how often places fit, gathered by rounds or counted one by one; the first of the best places.
-/
namespace Go.Proofs.Ytpdemelchhkfaaa.Tf
/-- How many of the first m are so. -/
def cn (P : Nat → Bool) : Nat → Nat
  | 0 => 0
  | m + 1 => cn P m + if P m = true then 1 else 0
theorem cn_le (P : Nat → Bool) : ∀ m, cn P m ≤ m
  | 0 => Nat.le_refl _
  | m + 1 => by have := cn_le P m; unfold cn; split <;> omega
theorem cn_congr {P Q : Nat → Bool} : ∀ {m}, (∀ i, i < m → P i = Q i) → cn P m = cn Q m
  | 0, _ => rfl
  | m + 1, h => by unfold cn; rw [cn_congr fun i hi => h i (by omega), h m (by omega)]
/-- Of a place of a round: at how many letters it is k. -/
def gat (u : Nat → Nat) (R m r k : Nat) : Nat := cn (fun i => i % R == r && u i == k) m
theorem gat_le (u : Nat → Nat) (R m r k : Nat) : gat u R m r k ≤ m := cn_le _ _
theorem gat_next (u : Nat → Nat) (R m r k : Nat) : gat u R (m + 1) r k = gat u R m r k + if m % R = r ∧ u m = k then 1 else 0 := by
  unfold gat
  rw [cn]
  simp
/-- The sum over the places of a round. -/
def sm (h : Nat → Nat) : Nat → Nat
  | 0 => 0
  | s + 1 => sm h s + h s
theorem sm_zero {h : Nat → Nat} : ∀ {s}, (∀ r, r < s → h r = 0) → sm h s = 0
  | 0, _ => rfl
  | s + 1, e => by rw [sm, sm_zero fun r hr => e r (by omega), e s (by omega)]
theorem sm_add {h g : Nat → Nat} : ∀ s, sm (fun r => h r + g r) s = sm h s + sm g s
  | 0 => rfl
  | s + 1 => by simp only [sm, sm_add s]; omega
theorem sm_congr {h g : Nat → Nat} : ∀ {s}, (∀ r, r < s → h r = g r) → sm h s = sm g s
  | 0, _ => rfl
  | s + 1, e => by rw [sm, sm, sm_congr fun r hr => e r (by omega), e s (by omega)]
theorem sm_one {q : Nat} {P : Nat → Prop} [DecidablePred P] : ∀ {s}, q < s → sm (fun r => if q = r ∧ P r then 1 else 0) s = if P q then 1 else 0
  | 0, h => by omega
  | s + 1, h => by
    rw [sm]
    by_cases e : q = s
    · subst e
      rw [sm_zero fun r hr => if_neg fun h => by omega]
      simp
    · rw [sm_one (by omega)]
      simp [e]
/-- Gathered or one by one: it comes to the same. -/
theorem sm_gat (u g : Nat → Nat) (R s : Nat) (hg : ∀ i, g (i % R) = g i) : ∀ m, (∀ i, i < m → i % R < s) → sm (fun r => gat u R m r (g r)) s = cn (fun i => u i == g i) m
  | 0, _ => sm_zero fun _ _ => rfl
  | m + 1, h => by
    rw [sm_congr fun r _ => gat_next u R m r (g r), sm_add, sm_gat u g R s hg m fun i hi => h i (by omega), cn]
    congr 1
    rw [sm_one (P := fun r => u m = g r) (h m (by omega)), hg]
    simp
theorem sm_le {h : Nat → Nat} {c : Nat} : ∀ {s}, (∀ r, r < s → h r ≤ c) → sm h s ≤ s * c
  | 0, _ => by simp [sm]
  | s + 1, e => by
    have h1 := sm_le (h := h) (c := c) (s := s) fun r hr => e r (by omega)
    have h2 := e s (by omega)
    rw [sm, Nat.succ_mul]
    omega
theorem sm_mono {h : Nat → Nat} {a b : Nat} (hab : a ≤ b) : sm h a ≤ sm h b := by
  induction b with
  | zero => rw [Nat.le_zero.1 hab]; exact Nat.le_refl _
  | succ b ih =>
    by_cases e : a = b + 1
    · rw [e]; exact Nat.le_refl _
    · have := ih (by omega)
      rw [sm]
      omega
/-- The first of the best of the first k numbers. -/
def bk (F : Nat → Nat) : Nat → Nat
  | 0 => 0
  | k + 1 => if F (bk F k) < F k then k else bk F k
theorem bk_lt (F : Nat → Nat) : ∀ {k}, 0 < k → bk F k < k
  | k + 1, _ => by
    rw [bk]
    split
    · omega
    · rcases Nat.eq_zero_or_pos k with rfl | h
      · exact Nat.lt_succ_self _
      · have := bk_lt F h; omega
theorem bk_best (F : Nat → Nat) : ∀ {k i}, i < k → F i ≤ F (bk F k)
  | k + 1, i, h => by
    rw [bk]
    by_cases e : i = k
    · subst e; split <;> omega
    · have := bk_best F (show i < k by omega)
      split <;> omega
theorem bk_first (F : Nat → Nat) : ∀ {k i}, i < bk F k → F i < F (bk F k)
  | 0, i, h => by simp [bk] at h
  | k + 1, i, h => by
    rw [bk] at h ⊢
    split at h
    · rename_i h1
      rw [if_pos h1]
      have := bk_best F h
      omega
    · rename_i h1
      rw [if_neg h1]
      exact bk_first F h
theorem bk_unique (F : Nat → Nat) {k i : Nat} (hi : i < k) (h1 : ∀ j, j < k → F j ≤ F i) (h2 : ∀ j, j < i → F j < F i) : bk F k = i := by
  have a := bk_lt F (show 0 < k by omega)
  have b := bk_best F hi
  have c := h1 _ a
  rcases Nat.lt_trichotomy (bk F k) i with h | h | h
  · have := h2 _ h; omega
  · exact h
  · have := bk_first F h; omega
end Go.Proofs.Ytpdemelchhkfaaa.Tf

/-
  tele.searchWrong and tele.changes, alone.
-/
namespace Go.Proofs.Ytpdemelchhkfaaa
open Go.RowKit PK Tl
/-- What is wrong with a search, behind the text. -/
def srE (la lb : Nat) (h : Int) : Int := if whE la ≠ 0 then 3 else if whE lb ≠ 0 then 3 else if h < 1 ∨ 16 < h then 3 else 0
theorem whE_zero {l : Nat} (h : whE l = 0) : 1 ≤ l ∧ l ≤ 47 := by
  unfold whE at h
  split at h
  · cases h
  · omega
theorem srE_zero {la lb : Nat} {h : Int} (e : srE la lb h = 0) : (1 ≤ la ∧ la ≤ 47) ∧ (1 ≤ lb ∧ lb ≤ 47) ∧ 1 ≤ h ∧ h ≤ 16 := by
  unfold srE at e
  split at e
  · cases e
  · rename_i h1
    split at e
    · cases e
    · rename_i h2
      split at e
      · cases e
      · exact ⟨whE_zero (by simpa using h1), whE_zero (by simpa using h2), by omega, by omega⟩
set_option maxRecDepth 100000 in
set_option maxHeartbeats 2000000 in
theorem psrw_any (a b : Option Addr) (la lb ca cb : Nat) (h : Int) (w : World) (ha : la ≤ maxLen) (hb : lb ≤ maxLen) : Calls Try.prog 17 #[.slice a la ca, .slice b lb cb, .int .i64 h] w fun e w' => e = .returned (.int .i64 (srE la lb h)) ∧ w = w' := by
  have HA := (show Hid (Calls Try.prog 43 #[.slice a la ca] w fun e w' => e = .returned (.int .i64 (whE la)) ∧ w = w') from pwh_any a la ca w ha)
  have HB := (show Hid (Calls Try.prog 43 #[.slice b lb cb] w fun e w' => e = .returned (.int .i64 (whE lb)) ∧ w = w') from pwh_any b lb cb w hb)
  have cs : ∀ l, whE l = 0 ∨ whE l = 3 := fun l => by unfold whE; split <;> simp
  have HS : Hid (srE la lb h = if whE la ≠ 0 then 3 else if whE lb ≠ 0 then 3 else if h < 1 ∨ 16 < h then 3 else 0) := rfl
  generalize srE la lb h = E at *
  have h1 := cs la
  have h2 := cs lb
  generalize whE la = x at *
  generalize whE lb = y at *
  clear cs
  go_enter Try.func17, Try.ntmps17
  go_wp2_with fail
  refine Calls.mono HA.out ?_
  rintro e Y ⟨rfl, rfl⟩
  clear HA
  rcases h1 with rfl | rfl
  · go_wp2_with fail
    refine Calls.mono HB.out ?_
    rintro e Y ⟨rfl, rfl⟩
    clear HB
    rcases h2 with rfl | rfl
    · by_cases k1 : h < 1
      · have HE : Hid (E = 3) := by rw [Hid, HS.out]; simp [k1]
        clear HS
        go_wp2
        go_ret
        exact ⟨by rw [HE.out]; rfl, rfl⟩
      · by_cases k2 : 16 < h
        · have HE : Hid (E = 3) := by rw [Hid, HS.out]; simp [k2]
          clear HS
          go_wp2
          go_ret
          exact ⟨by rw [HE.out]; rfl, rfl⟩
        · have HE : Hid (E = 0) := by rw [Hid, HS.out]; simp; omega
          clear HS
          go_wp2
          go_ret
          exact ⟨by rw [HE.out]; rfl, rfl⟩
    · have HE : Hid (E = 3) := by rw [Hid, HS.out]; simp
      clear HS
      go_wp2
      go_ret
      exact ⟨by rw [HE.out]; rfl, rfl⟩
  · have HE : Hid (E = 3) := by rw [Hid, HS.out]; simp
    clear HS HB
    go_wp2
    go_ret
    exact ⟨by rw [HE.out]; rfl, rfl⟩
/-- Does the pin behind it stand otherwise? -/
def chN (p : Nat → Bool) (l i : Nat) : Nat := if p i = p ((i + 1) % l) then 0 else 1
def chF (p : Nat → Bool) (l m : Nat) : Nat → Int := fun k => if k < m then (chN p l k : Int) else 0
theorem chF_start (p : Nat → Bool) (l n : Nat) : (ints n fun _ => 0) = ints n (chF p l 0) := ints_ext fun i _ => by unfold chF; rw [if_neg (by omega)]
theorem chF_all (p : Nat → Bool) (l n : Nat) : ints n (chF p l n) = ints n fun k => (chN p l k : Int) := ints_ext fun i hi => by
  unfold chF; rw [if_pos hi]
theorem chF_same (p : Nat → Bool) (l n m : Nat) (h : chN p l m = 0) : ints n (chF p l m) = ints n (chF p l (m + 1)) := ints_ext fun i hi => by
  unfold chF
  by_cases e : i = m
  · subst e; rw [if_neg (by omega), if_pos (by omega), h]; rfl
  · by_cases k : i < m
    · rw [if_pos k, if_pos (by omega)]
    · rw [if_neg k, if_neg (by omega)]
theorem chF_next (p : Nat → Bool) (l n m : Nat) (h : chN p l m = 1) : ints n (upd (chF p l m) m 1) = ints n (chF p l (m + 1)) := ints_ext fun i hi => by
  unfold chF upd
  by_cases e : i = m
  · subst e; rw [if_pos rfl, if_pos (by omega), h]; rfl
  · rw [if_neg e]
    dsimp only
    by_cases k : i < m
    · rw [if_pos k, if_pos (by omega)]
    · rw [if_neg k, if_neg (by omega)]
set_option maxRecDepth 100000 in
set_option maxHeartbeats 4000000 in
theorem pchg_any (v : Value) (l : Nat) (p : Nat → Bool) (h1 : 1 ≤ l) (h2 : l ≤ 47) (w : World) (hv : PinsAt w v l p) : Calls Try.prog 19 #[v] w fun e w' => e = .returned (.slice (some ⟨w.heap.size, 0, none⟩) l l) ∧ RowAt w' w.heap.size 3 (ints l fun k => (chN p l k : Int)) ∧ Below w.heap.size w w' := by
  obtain ⟨b, o, cap, rfl, _, hc⟩ := hv.form h1
  have HC := (show Hid (∀ c, c < l → w.cell? ⟨b, o + c, none⟩ = some (.bool (p c))) from hc)
  have hmk := run_make_row' (P := Try.prog) 22 3 (.int .i64 0) 8 Try.underlying22 g_info_int rfl .i64 .i64 l (by omega) (by omega)
  rw [p_made_tab] at hmk
  have h3 : RowAt (w.alloc (.cells (tab l fun _ => .int .i64 0) 3)) w.heap.size 3 (ints l fun _ => 0) := RowAt.new w _ _
  rw [chF_start p l] at h3
  have hb2 := (Below.refl w.heap.size w).alloc (Nat.le_refl _) (.cells (tab l fun _ => .int .i64 0) 3)
  clear hc hv
  go_enter Try.func19, Try.ntmps19
  go_upto_region 2 with fail
  generalize w.alloc (.cells (tab l fun _ => .int .i64 0) 3) = W2 at *
  clear hmk
  go_wp2_with fail
  go_loopw [11] (fun x W => ∃ i : Nat, i ≤ l ∧ x = .int .i64 (i : Nat) ∧ RowAt W w.heap.size 3 (ints l (chF p l i)) ∧ Below w.heap.size w W) (fun x _ => ((l : Int) - intOf x).toNat)
  case atStart => exact ⟨0, by omega, rfl, h3, hb2⟩
  case round =>
    clear h3 hb2
    obtain ⟨i, hi, rfl, hro, hbe⟩ := hrel
    by_cases hlt : i < l
    case neg =>
      obtain rfl : i = l := by omega
      have hnn : ¬ ((i : Nat) : Int) < ((i : Nat) : Int) := by omega
      rw [chF_all] at hro
      have HRO := (show Hid (RowAt wr w.heap.size 3 (ints i fun k => (chN p i k : Int))) from hro)
      have HBE := (show Hid (Below w.heap.size w wr) from hbe)
      clear hro hbe hlt
      go_wp2
      go_ret
      exact ⟨rfl, HRO.out, HBE.out⟩
    have HLT : Hid (i < l) := hlt
    have hlt2 : (i : Int) < (l : Int) := by omega
    have hml : (i + 1) % l < l := Nat.mod_lt _ h1
    have c1 := HC.out i hlt
    have c2 := HC.out _ hml
    have d1 := (hbe.cell (p := ⟨b, o + i, none⟩) (cell_block c1)).trans c1
    have d2 := (hbe.cell (p := ⟨b, o + (i + 1) % l, none⟩) (cell_block c2)).trans c2
    have HX := (show Hid (Calls Try.prog 44 #[.slice (some ⟨b, o, none⟩) l cap, .int .i64 (i : Nat)] wr fun e w' => e = .returned (.int .i64 (((i + 1) % l : Nat) : Int)) ∧ wr = w') from pnx_any _ l cap i h1 h2 hlt wr)
    have HS := (show Hid (chN p l i = 0 → ints l (chF p l i) = ints l (chF p l (i + 1))) from chF_same p l l i)
    have HN := (show Hid (chN p l i = 1 → ints l (upd (chF p l i) i 1) = ints l (chF p l (i + 1))) from chF_next p l l i)
    have hcell := hro.cell (ints_get (chF p l i) hlt)
    have hfz := hro.frozen i
    have HCH : Hid (chN p l i = if p i = p ((i + 1) % l) then 0 else 1) := rfl
    have hml2 : (((i + 1) % l : Nat) : Int) < (l : Int) := by omega
    have HRO := (show Hid (RowAt wr w.heap.size 3 (ints l (chF p l i))) from hro)
    have HBE := (show Hid (Below w.heap.size w wr) from hbe)
    generalize chF p l i i = oc at *
    generalize (i + 1) % l = y at *
    generalize p i = q1 at *
    generalize p y = q2 at *
    generalize chN p l i = ch at *
    clear hlt c1 c2 hro hbe HC
    go_wp2_with fail
    refine Calls.mono HX.out ?_
    rintro e Y ⟨rfl, rfl⟩
    clear HX
    by_cases hq : q1 = q2
    · subst hq
      have HZ : Hid (ch = 0) := by rw [Hid, HCH.out, if_pos rfl]
      clear hcell hfz HCH
      go_wp2
      all_goals go_roundw
      case rel => exact ⟨i + 1, HLT.out, by go_num, by rw [← HS.out HZ.out]; exact HRO.out, HBE.out⟩
      case measure => have := HLT.out; simp [intOf]; omega
    · have HZ : Hid (ch = 1) := by rw [Hid, HCH.out, if_neg hq]
      have hq2 : (q1 == q2) = false := by simp [hq]
      have hq3 : (q1 != q2) = true := by simp [bne, hq2]
      clear HCH
      go_wp2
      all_goals go_roundw
      case rel => exact ⟨i + 1, HLT.out, by go_num, by have h5 := HRO.out.set i (.int .i64 1); rw [ints_set, HN.out HZ.out] at h5; exact h5, HBE.out.setCell (p := ⟨w.heap.size, i, none⟩) (Nat.le_refl _) _⟩
      case measure => have := HLT.out; simp [intOf]; omega
end Go.Proofs.Ytpdemelchhkfaaa

/-
  tele.gathered, alone.
-/
namespace Go.Proofs.Ytpdemelchhkfaaa
open Go.RowKit PK Tl
theorem tf_info_parts {P : Program} {t : TypeId} {z : Option Value} {s b : Nat} (h : (P.info? t).map (fun i => (i.zero, i.size, i.bytes)) = some (z, s, b)) : ∃ i, P.info? t = some i ∧ i.zero = z ∧ i.size = s ∧ i.bytes = b := by
  cases hi : P.info? t with
  | none => rw [hi] at h; cases h
  | some i =>
    rw [hi] at h
    simp only [Option.map_some, Option.some.injEq, Prod.mk.injEq] at h
    exact ⟨i, rfl, h.1, h.2.1, h.2.2⟩
theorem tf_info_two : (Try.prog.info? 79).map (fun i => (i.zero, i.size, i.bytes)) = some (some (.agg (ints 2 fun _ => 0)), 2, 16) := by kernel_rfl
theorem made_two (n : Nat) : madeCells (ints 2 fun _ => 0) (n * 2) = ints (n * 2) fun _ => 0 := by
  apply Array.ext_getElem?
  intro i
  by_cases hi : i < n * 2
  · rw [ints_get _ hi]
    have h2 : (ints 2 fun _ => 0)[i % 2]? = some (.int .i64 0) := ints_get (fun _ => 0) (Nat.mod_lt _ (by decide))
    simp [madeCells, hi, ints_size]
    rw [getElem!_def, h2]
  · rw [Array.getElem?_eq_none (by rw [size_madeCells]; omega), Array.getElem?_eq_none (by rw [ints_size]; omega)]
theorem run_make_two (n : Nat) (hn : n ≤ 100000) (w : World) : (Instr.makeSlice 51 (.int .i64 (n : Int)) (.int .i64 (n : Int))).run Try.prog w = .ok (.slice (some ⟨w.heap.size, 0, none⟩) n n) (w.alloc (.cells (ints (n * 2) fun _ => 0) 79)) := by
  obtain ⟨i, hi, hz, hs, hb⟩ := tf_info_parts tf_info_two
  have hr := run_make (P := Try.prog) w 51 79 i _ Try.underlying51 hi hz .i64 .i64 n n (by omega) (Int.le_refl _) (by rw [hb]; omega) (by omega)
  rw [hr, hs]
  have hc : (Value.agg (ints 2 fun _ => 0)).cells = ints 2 fun _ => 0 := rfl
  simp only [Int.toNat_natCast, hc, made_two]
/-- Do the first two holes change unlike? -/
def unN (d : Nat) : Nat := (d / 16 + d / 8) % 2
theorem unN_lt (d : Nat) : unN d < 2 := Nat.mod_lt _ (by decide)
/-- What is gathered, place by place, behind m letters. -/
def gaF (u : Nat → Nat) (R m : Nat) : Nat → Int := fun j => (Tf.gat u R m (j / 2) (j % 2) : Int)
theorem gaF_start (u : Nat → Nat) (R n : Nat) : (ints n fun _ => 0) = ints n (gaF u R 0) := ints_ext fun _ _ => rfl
theorem gaF_next (u : Nat → Nat) (R n m : Nat) (hu : u m < 2) : ints n (upd (gaF u R m) (m % R * 2 + u m) (gaF u R m (m % R * 2 + u m) + 1)) = ints n (gaF u R (m + 1)) := ints_ext fun i hi => by
  have e1 : ∀ j, gaF u R (m + 1) j = gaF u R m j + if j = m % R * 2 + u m then 1 else 0 := fun j => by
    unfold gaF
    rw [Tf.gat_next]
    have : (m % R = j / 2 ∧ u m = j % 2) ↔ j = m % R * 2 + u m := by omega
    by_cases h : j = m % R * 2 + u m
    · rw [if_pos h, if_pos (this.2 h)]; push_cast; rfl
    · rw [if_neg h, if_neg fun x => h (this.1 x)]; push_cast; rfl
  rw [e1]
  unfold upd
  by_cases h : i = m % R * 2 + u m
  · rw [if_pos h, if_pos h, h]
  · rw [if_neg h, if_neg h]; omega
theorem gaF_le (u : Nat → Nat) (R m j : Nat) : 0 ≤ gaF u R m j ∧ gaF u R m j ≤ m := by
  unfold gaF
  have := Tf.gat_le u R m (j / 2) (j % 2)
  omega
theorem bits_un (z : Nat) (h : z < 32) : bits .and .i64 (bits .xor .i64 ((z : Int) / 16) ((z : Int) / 8)) 1 = ((unN z : Nat) : Int) := by
  have key : ∀ z : Fin 32, bits .and .i64 (bits .xor .i64 (((z.1 : Nat) : Int) / 16) (((z.1 : Nat) : Int) / 8)) 1 = ((unN z.1 : Nat) : Int) := by decide +kernel
  exact key ⟨z, h⟩
set_option maxRecDepth 100000 in
set_option maxHeartbeats 4000000 in
theorem pgat_any (v : Value) (m : Nat) (d : Nat → Nat) (R : Nat) (hm : m ≤ 65536) (hR : 1 ≤ R ∧ R ≤ 2209) (hd : ∀ i, i < m → d i < 32) (w : World) (hv : NumsAt w v m (fun i => (d i : Int))) : Calls Try.prog 18 #[v, .int .i64 (R : Nat)] w fun e w' => e = .returned (.slice (some ⟨w.heap.size, 0, none⟩) (min m R) (min m R)) ∧ RowAt w' w.heap.size 79 (ints (min m R * 2) (gaF (fun i => unN (d i)) R m)) ∧ Below w.heap.size w w' := by
  obtain ⟨a, cap, rfl, _, hca⟩ := hv
  have HA := (show Hid (∀ c, c < m → ∃ b o, a = some ⟨b, o, none⟩ ∧ w.cell? ⟨b, o + c, none⟩ = some (.int .i64 (d c : Int))) from hca)
  have HD := (show Hid (∀ i, i < m → d i < 32) from hd)
  obtain ⟨s, hs⟩ : ∃ s, s = min m R := ⟨_, rfl⟩
  rw [← hs]
  have HS := (show Hid (s = min m R) from hs)
  have hmn : (if (R : Int) < (m : Int) then (R : Int) else (m : Int)) = (s : Int) := by split <;> omega
  have hmn2 : (if (m : Int) < (R : Int) then (m : Int) else (R : Int)) = (s : Int) := by split <;> omega
  have hmn3 : (if R < m then (R : Int) else (m : Int)) = (s : Int) := by split <;> omega
  have hmn4 : (if m < R then (m : Int) else (R : Int)) = (s : Int) := by split <;> omega
  have hmk := run_make_two s (by omega)
  have h3 : RowAt (w.alloc (.cells (ints (s * 2) fun _ => 0) 79)) w.heap.size 79 (ints (s * 2) (gaF (fun i => unN (d i)) R 0)) := by rw [← gaF_start (fun i => unN (d i)) R]; exact RowAt.new w _ _
  have hb2 := (Below.refl w.heap.size w).alloc (Nat.le_refl _) (.cells (ints (s * 2) fun _ => 0) 79)
  clear hca hs hd
  go_enter Try.func18, Try.ntmps18
  go_upto_region 2 with fail
  generalize w.alloc (.cells (ints (s * 2) fun _ => 0) 79) = W2 at *
  clear hmk hmn hmn2 hmn3 hmn4
  go_wp2_with fail
  go_loopw [16] (fun x W => ∃ i : Nat, i ≤ m ∧ x = .int .i64 (i : Nat) ∧ RowAt W w.heap.size 79 (ints (s * 2) (gaF (fun i => unN (d i)) R i)) ∧ Below w.heap.size w W) (fun x _ => ((m : Int) - intOf x).toNat)
  case atStart => exact ⟨0, by omega, rfl, h3, hb2⟩
  case round =>
    clear h3 hb2
    obtain ⟨i, hi, rfl, hro, hbe⟩ := hrel
    by_cases hlt : i < m
    case neg =>
      obtain rfl : i = m := by omega
      have hnn : ¬ ((i : Nat) : Int) < ((i : Nat) : Int) := by omega
      have HRO := (show Hid (RowAt wr w.heap.size 79 (ints (s * 2) (gaF (fun j => unN (d j)) R i))) from hro)
      have HBE := (show Hid (Below w.heap.size w wr) from hbe)
      clear hro hbe hlt
      go_wp2
      go_ret
      exact ⟨rfl, HRO.out, HBE.out⟩
    have HLT : Hid (i < m) := hlt
    have hlt2 : (i : Int) < (m : Int) := by omega
    obtain ⟨b1, o1, e1, c1⟩ := HA.out i hlt
    subst e1
    have d1 := (hbe.cell (p := ⟨b1, o1 + i, none⟩) (cell_block c1)).trans c1
    have hz := HD.out i hlt
    have hbu := bits_un _ hz
    have hu := unN_lt (d i)
    have HST := (show Hid _ from gaF_next (fun j => unN (d j)) R (s * 2) i hu)
    have hle := gaF_le (fun j => unN (d j)) R i (i % R * 2 + unN (d i))
    have hrs : i % R < s := by
      have h1 := Nat.mod_lt i (show 0 < R by omega)
      have h2 := Nat.mod_le i R
      have := HS.out
      omega
    have hcell := hro.cell (ints_get (n := s * 2) (gaF (fun j => unN (d j)) R i) (i := i % R * 2 + unN (d i)) (by omega))
    have hfz := hro.frozen (i % R * 2 + unN (d i))
    have hrem : (i : Int).tmod (R : Int) = ((i % R : Nat) : Int) := by rw [Int.tmod_eq_emod_of_nonneg (by omega)]; push_cast; rfl
    have hR0 : ¬ (R : Int) = 0 := by omega
    have HRO := (show Hid (RowAt wr w.heap.size 79 (ints (s * 2) (gaF (fun j => unN (d j)) R i))) from hro)
    have HBE := (show Hid (Below w.heap.size w wr) from hbe)
    have hrs2 : ((i % R : Nat) : Int) < (s : Int) := by omega
    generalize gaF (fun j => unN (d j)) R i (i % R * 2 + unN (d i)) = oc at *
    generalize unN (d i) = u at *
    generalize i % R = r at *
    generalize d i = z at *
    clear hlt c1 hro hbe HA HD
    have hu2 : (u : Int) < 2 := by omega
    go_wp2_with fail
    go_region
    all_goals (try go_wp2)
    all_goals go_roundw
    case rel =>
      refine ⟨i + 1, HLT.out, by go_num, ?_, ?_⟩
      · have h5 := HRO.out.set (r * 2 + u) (.int .i64 (oc + 1))
        rw [ints_set, HST.out] at h5
        exact h5.drew
      · exact (HBE.out.setCell (p := ⟨w.heap.size, r * 2 + u, none⟩) (Nat.le_refl _) _).drew
    case measure => have := HLT.out; simp [intOf]; omega
end Go.Proofs.Ytpdemelchhkfaaa

/-
  (tele.search).fits, alone: by cells alone, so that a ghost may run it.
-/
namespace Go.Proofs.Ytpdemelchhkfaaa
open Go.RowKit PK Tl
/-- Pairs of numbers behind a slice, by cells. -/
def PrC (w : World) (a : Option Addr) (s : Nat) (G : Nat → Nat → Nat) : Prop := ∀ r, r < s → ∃ b o, a = some ⟨b, o, none⟩ ∧ ∀ k, k < 2 → w.cell? ⟨b, o + (r * 2 + k), none⟩ = some (.int .i64 (G r k : Nat))
/-- .. and numbers. -/
def NmC (w : World) (a : Option Addr) (l : Nat) (A : Nat → Nat) : Prop := ∀ c, c < l → ∃ b o, a = some ⟨b, o, none⟩ ∧ w.cell? ⟨b, o + c, none⟩ = some (.int .i64 (A c : Nat))
def fitS (G : Nat → Nat → Nat) (A B : Nat → Nat) (la lb x y s : Nat) : Nat := Tf.sm (fun r => G r (A ((x + r) % la) ^^^ B ((y + r) % lb))) s
theorem xor_lt2 {a b : Nat} (ha : a < 2) (hb : b < 2) : a ^^^ b < 2 := Nat.xor_lt_two_pow (n := 1) ha hb
set_option maxRecDepth 100000 in
set_option maxHeartbeats 4000000 in
theorem pfit_any (ap aa ab : Option Addr) (s cs la ca lb cb x y : Nat) (G : Nat → Nat → Nat) (A B : Nat → Nat) (hs : s ≤ 2209) (ha : 1 ≤ la ∧ la ≤ 47) (hb : 1 ≤ lb ∧ lb ≤ 47) (hx : x < 47) (hy : y < 47) (hG : ∀ r k, G r k ≤ 65536) (hA : ∀ c, A c < 2) (hB : ∀ c, B c < 2) (w : World) (hp : PrC w ap s G) (h1 : NmC w aa la A) (h2 : NmC w ab lb B) :
    Calls Try.prog 22 #[.agg #[.slice ap s cs, .slice aa la ca, .slice ab lb cb], .int .i64 (x : Nat), .int .i64 (y : Nat)] w fun e w' => e = .returned (.int .i64 (fitS G A B la lb x y s : Nat)) ∧ Below w.heap.size w w' := by
  have HP := (show Hid (PrC w ap s G) from hp)
  have H1 := (show Hid (NmC w aa la A) from h1)
  have H2 := (show Hid (NmC w ab lb B) from h2)
  have HG := (show Hid (∀ r k, G r k ≤ 65536) from hG)
  have HA := (show Hid (∀ c, A c < 2) from hA)
  have HB := (show Hid (∀ c, B c < 2) from hB)
  have hbox : RowAt (w.alloc (.cells #[.slice ap s cs, .slice aa la ca, .slice ab lb cb] 55)) w.heap.size 55 #[.slice ap s cs, .slice aa la ca, .slice ab lb cb] := RowAt.new w _ _
  have hbl := (Below.refl w.heap.size w).alloc (Nat.le_refl _) (.cells #[.slice ap s cs, .slice aa la ca, .slice ab lb cb] 55)
  clear hp h1 h2 hG hA hB
  go_enter Try.func22, Try.ntmps22
  go_upto_region 1 with fail
  generalize w.alloc (.cells #[.slice ap s cs, .slice aa la ca, .slice ab lb cb] 55) = V at *
  have c0 := hbox.cell (i := 0) rfl
  go_wp2_with fail
  go_loopw [14, 7] (fun i n W => ∃ r : Nat, r ≤ s ∧ i = .int .i64 (r : Nat) ∧ n = .int .i64 (fitS G A B la lb x y r : Nat) ∧ RowAt W w.heap.size 55 #[.slice ap s cs, .slice aa la ca, .slice ab lb cb] ∧ Below w.heap.size w W) (fun i _ _ => ((s : Int) - intOf i).toNat)
  case atStart => exact ⟨0, by omega, rfl, rfl, hbox, hbl⟩
  case round =>
    clear hbox hbl c0
    obtain ⟨r, hr, rfl, rfl, hro, hbe⟩ := hrel
    by_cases hlt : r < s
    case neg =>
      obtain rfl : r = s := by omega
      have hnn : ¬ ((r : Nat) : Int) < ((r : Nat) : Int) := by omega
      have HBE := (show Hid (Below w.heap.size w wr) from hbe)
      clear hro hbe hlt
      go_wp2
      go_ret
      exact ⟨rfl, HBE.out⟩
    have HLT : Hid (r < s) := hlt
    have hlt2 : (r : Int) < (s : Int) := by omega
    obtain ⟨b0, o0, e0, k0⟩ := HP.out r hlt
    subst e0
    have c0 := k0 0 (by decide)
    have c1 := k0 1 (by decide)
    have d0 : wr.cell? ⟨b0, o0 + r * 2, none⟩ = _ := (hbe.cell (p := ⟨b0, o0 + (r * 2 + 0), none⟩) (cell_block c0)).trans c0
    have d1 : wr.cell? ⟨b0, o0 + r * 2 + 1, none⟩ = _ := (hbe.cell (p := ⟨b0, o0 + (r * 2 + 1), none⟩) (cell_block c1)).trans c1
    have g0 := HG.out r 0
    have g1 := HG.out r 1
    have HN : Hid (fitS G A B la lb x y (r + 1) = fitS G A B la lb x y r + G r (A ((x + r) % la) ^^^ B ((y + r) % lb))) := rfl
    have HU : Hid (fitS G A B la lb x y r ≤ 2209 * 65536) := Nat.le_trans (Tf.sm_le (c := 65536) fun q _ => HG.out _ _) (Nat.mul_le_mul_right _ (by omega))
    have HRO := (show Hid (RowAt wr w.heap.size 55 #[.slice (some ⟨b0, o0, none⟩) s cs, .slice aa la ca, .slice ab lb cb]) from hro)
    have HBE := (show Hid (Below w.heap.size w wr) from hbe)
    clear k0 c0 c1 hlt hro hbe
    go_upto_region 5 with fail
    have hro2 := HRO.out.alloc (.cells #[.int .i64 (G r 0 : Nat), .int .i64 (G r 1 : Nat)] 79)
    have hnew := RowAt.new wr 79 #[.int .i64 (G r 0 : Nat), .int .i64 (G r 1 : Nat)]
    have hbe2 := HBE.out.alloc HBE.out.size (.cells #[.int .i64 (G r 0 : Nat), .int .i64 (G r 1 : Nat)] 79)
    generalize wr.alloc (.cells #[.int .i64 (G r 0 : Nat), .int .i64 (G r 1 : Nat)] 79) = V2 at *
    have f1 := hro2.cell (i := 1) rfl
    have f2 := hro2.cell (i := 2) rfl
    have n0 := hnew.cell (i := 0) rfl
    have n1 := hnew.cell (i := 1) rfl
    have ma : (x + r) % la < la := Nat.mod_lt _ ha.1
    have mb : (y + r) % lb < lb := Nat.mod_lt _ hb.1
    obtain ⟨b1, o1, e1, c1⟩ := H1.out _ ma
    obtain ⟨b2, o2, e2, c2⟩ := H2.out _ mb
    subst e1
    subst e2
    have d2 := (hbe2.cell (p := ⟨b1, o1 + (x + r) % la, none⟩) (cell_block c1)).trans c1
    have d3 := (hbe2.cell (p := ⟨b2, o2 + (y + r) % lb, none⟩) (cell_block c2)).trans c2
    have hra : ((x : Int) + (r : Int)).tmod (la : Int) = (((x + r) % la : Nat) : Int) := by rw [Int.tmod_eq_emod_of_nonneg (by omega)]; push_cast; rfl
    have hrb : ((y : Int) + (r : Int)).tmod (lb : Int) = (((y + r) % lb : Nat) : Int) := by rw [Int.tmod_eq_emod_of_nonneg (by omega)]; push_cast; rfl
    have hla0 : ¬ (la : Int) = 0 := by omega
    have hlb0 : ¬ (lb : Int) = 0 := by omega
    have hA2 := HA.out ((x + r) % la)
    have hB2 := HB.out ((y + r) % lb)
    have hbx := bits_xor (a := A ((x + r) % la)) (b := B ((y + r) % lb)) (by omega) (by omega)
    have hxl := xor_lt2 hA2 hB2
    have ma2 : (((x + r) % la : Nat) : Int) < (la : Int) := by omega
    have mb2 : (((y + r) % lb : Nat) : Int) < (lb : Int) := by omega
    have HBE2 := (show Hid (Below w.heap.size w V2) from hbe2)
    have HRO2 := (show Hid (RowAt V2 w.heap.size 55 #[.slice (some ⟨b0, o0, none⟩) s cs, .slice (some ⟨b1, o1, none⟩) la ca, .slice (some ⟨b2, o2, none⟩) lb cb]) from hro2)
    have HNW := (show Hid (RowAt V2 wr.heap.size 79 #[.int .i64 (G r 0 : Nat), .int .i64 (G r 1 : Nat)]) from hnew)
    clear HRO HBE hro2 hbe2 hnew c1 c2 d0 d1
    generalize A ((x + r) % la) = xa at *
    generalize B ((y + r) % lb) = xb at *
    generalize (x + r) % la = ia at *
    generalize (y + r) % lb = ib at *
    clear hA2 hB2
    generalize xa ^^^ xb = u at *
    generalize fitS G A B la lb x y r = N at *
    generalize wr.heap.size = q at *
    have nu : V2.cell? ⟨q, u, none⟩ = some (.int .i64 (G r u : Nat)) := by
      rcases Nat.lt_or_ge u 1 with h | h
      · obtain rfl : u = 0 := by omega
        exact n0
      · obtain rfl : u = 1 := by omega
        exact n1
    have gu := HG.out r u
    have hu2 : (u : Int) < 2 := by omega
    have HU2 := HU.out
    generalize G r u = gg at *
    clear n0 n1
    go_region
    go_wp2
    all_goals go_roundw
    case rel => exact ⟨r + 1, HLT.out, by go_num, by rw [HN.out]; go_num, HRO2.out.drew, HBE2.out.drew⟩
    case measure => have := HLT.out; simp [intOf]; omega
end Go.Proofs.Ytpdemelchhkfaaa
