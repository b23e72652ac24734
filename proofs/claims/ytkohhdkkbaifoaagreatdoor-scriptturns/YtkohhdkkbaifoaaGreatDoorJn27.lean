/-
  Several texts, joined: PrF, PCyc.
-/
import Derived.Test.YtkohhdkkbaifoaaGreatDoorJn26
import Derived.Test.YtkohhdkkbaifoaaGreatDoorJn3
/-
  For script.Print: a matrix in words.
-/
namespace Go.Proofs.YtkohhdkkbaifoaaGreatDoor
open Go.RowKit PK Vg

theorem str3 : (Tryz.prog.info? 9).map (fun i => (i.zero, i.size, i.bytes)) = some (some (.string ⟨#[]⟩), 1, 16) := by kernel_rfl
/-- A slice of texts that the call owns. -/
def OwT (W : World) (B : Nat) (v : Value) (xs : List ByteArray) : Prop := W.ownsRow B 9 1 v xs.length (xs.map Value.string)
theorem OwT.below {W W' : World} {B : Nat} {v : Value} {xs : List ByteArray} (h : OwT W B v xs) (hb : Below W.heap.size W W') : OwT W' B v xs := own_step17 h hb
theorem OwT.first {W : World} {B : Nat} (hB : B ≤ W.heap.size) (x : ByteArray) : OwT (W.alloc (.cells #[.string x] 9)) B (.slice (some ⟨W.heap.size, 0, none⟩) 1 1) [x] :=
  ⟨rfl, .inr ⟨W.heap.size, 1, #[.string x], rfl, hB, RowAt.new W _ _, Nat.le_refl _, by decide, rfl, rfl⟩⟩
/-- Its cells. -/
theorem OwT.cells {W : World} {B : Nat} {v : Value} {xs : List ByteArray} (h : OwT W B v xs) (h0 : xs ≠ []) : ∃ g cap, v = .slice (some ⟨g, 0, none⟩) xs.length cap ∧ B ≤ g ∧ g < W.heap.size ∧ xs.length ≤ cap ∧ ∀ (j : Nat) x, xs[j]? = some x → W.cell? ⟨g, 0 + j, none⟩ = some (.string x) := by
  obtain ⟨hl, ⟨rfl, hn⟩ | ⟨g, cap, cur, rfl, h1, h2, h3, h4, h5, h6⟩⟩ := h
  · exact absurd (List.length_eq_zero_iff.1 hn) h0
  · refine ⟨g, cap, rfl, h1, (Array.getElem?_eq_some_iff.1 h2).1, h3, fun j x hx => ?_⟩
    rw [Nat.zero_add, cell_of_row W g j cur 9 (0, 0) h2]
    have h7 : (xs.map Value.string)[j]? = some (.string x) := by rw [List.getElem?_map, hx]; rfl
    rw [← h6, List.getElem?_take] at h7
    split at h7
    · rw [← Array.getElem?_toList]; exact h7
    · cases h7
def dcD (x : Int) : ByteArray := ⟨(Lib.decDigits x.toNat).toArray⟩
/-- A row's words, a matrix's. -/
def mwR (Z : Nat → Int) (k : Nat) : List ByteArray := (List.range k).map fun j => dcD (Z j)
def mwL (n : Nat) (L : Nat → Nat) (Z : Nat → Nat → Int) : Nat → List ByteArray
  | 0 => [dcD n]
  | y + 1 => mwL n L Z y ++ mwR (Z y) (L y)
theorem mwR_succ (Z : Nat → Int) (k : Nat) : mwR Z (k + 1) = mwR Z k ++ [dcD (Z k)] := by unfold mwR; rw [List.range_succ, List.map_append]; rfl
theorem mwR_len (Z : Nat → Int) (k : Nat) : (mwR Z k).length = k := by simp [mwR]
theorem mwL_len {n : Nat} {L : Nat → Nat} {Z : Nat → Nat → Int} : ∀ y, (∀ r, r < y → L r ≤ 4) → (mwL n L Z y).length ≤ 1 + 4 * y
  | 0, _ => by simp [mwL]
  | y + 1, h => by
    have := mwL_len (n := n) (Z := Z) y (fun r hr => h r (by omega))
    have h2 := h y (by omega)
    show (mwL n L Z y ++ mwR (Z y) (L y)).length ≤ _
    rw [List.length_append, mwR_len]
    omega
set_option maxRecDepth 100000 in
set_option maxHeartbeats 4000000 in
theorem matrixWords_any (v : Value) (n : Nat) (L : Nat → Nat) (Z : Nat → Nat → Int) (hn : n ≤ 4) (hL : ∀ r, r < n → L r ≤ 4) (hZ : ∀ r, r < n → ∀ c, c < L r → 0 ≤ Z r c ∧ Z r c < 100) (w : World) (hv : MatAt w v n L Z) : Calls Tryz.prog 99 #[v] w fun e w' => ∃ v', e = .returned v' ∧ OwT w' w.heap.size v' (mwL n L Z n) ∧ Below w.heap.size w w' := by
  have HV : Hid (MatAt w v n L Z) := hv
  obtain ⟨a, cap, RR, rfl, -⟩ := id hv
  obtain ⟨i0, hi0, hz0, hz1, hz2⟩ := info17 str3
  have HI : Hid _ := itoa_any n (by omega) w
  have HL4 : Hid _ := hL
  have HZ : Hid _ := hZ
  clear hv hL hZ RR
  go_enter Tryz.func99, Tryz.ntmps99
  go_wp2_with fail
  refine Calls.mono HI.out ?_
  rintro e V ⟨rfl, hV⟩
  rw [hV]
  clear hV V HI
  have HO0 : Hid (OwT (w.alloc (.cells #[.string (dcD n)] 9)) w.heap.size (.slice (some ⟨w.heap.size, 0, none⟩) 1 1) (mwL n L Z 0)) := OwT.first (Nat.le_refl _) _
  go_upto_region 3 with fail
  go_loopw [3, 14] (fun o i W => ∃ (y : Nat) (g : Option Addr) (c : Nat), y ≤ n ∧ i = .int .i64 y ∧ o = .slice g (mwL n L Z y).length c ∧ Hid (OwT W w.heap.size (.slice g (mwL n L Z y).length c) (mwL n L Z y)) ∧ Hid (Below w.heap.size w W)) (fun _ i _ => ((n : Int) - intOf i).toNat)
  case atStart => exact ⟨0, _, _, by omega, rfl, rfl, HO0, (Below.refl _ _).alloc (Nat.le_refl _) _⟩
  case round =>
    clear HO0
    obtain ⟨y, g, c, hy, rfl, rfl, HO, HB⟩ := hrel
    by_cases hlt : y < n
    · obtain ⟨mb, mo, ra, rc, rfl, hc, HRN⟩ : ∃ mb mo ra rc, a = some ⟨mb, mo, none⟩ ∧ wr.cell? ⟨mb, mo + y, none⟩ = some (.slice ra (L y) rc) ∧ Hid (NumsAt w (.slice ra (L y) rc) (L y) (Z y)) := by
        obtain ⟨_, _, R, e, _, h1, h2⟩ := HV.out
        cases e
        obtain ⟨b, o, e, hc⟩ := h1 y hlt
        have h3 := h2 y hlt
        obtain ⟨ra, rc, e3, h4⟩ := id h3
        rw [e3] at hc h3
        exact ⟨b, o, ra, rc, e, (HB.out.cell (p := ⟨b, o + y, none⟩) (cell_block hc)).trans hc, h3⟩
      have hL4 := HL4.out y hlt
      have hyi : (y : Int) < (n : Int) := by omega
      have HLEN : Hid ((mwL n L Z y).length ≤ 1 + 4 * y) := mwL_len y (fun r hr => HL4.out r (by omega))
      have HZY : Hid (∀ c, c < L y → 0 ≤ Z y c ∧ Z y c < 100) := HZ.out y hlt
      have HSX : Hid (mwL n L Z (y + 1) = mwL n L Z y ++ mwR (Z y) (L y)) := rfl
      generalize hBS : mwL n L Z y = BS at *
      generalize L y = LY at *
      generalize Z y = ZY at *
      have HRW : Hid (∀ W, Below w.heap.size w W → NumsAt W (.slice ra LY rc) LY ZY) := fun W hW => HRN.out.below hW
      obtain ⟨W1, hW1⟩ : ∃ W1, W1 = wr := ⟨_, rfl⟩
      have HWW : Hid (Below w.heap.size w W1) := by rw [hW1]; exact HB
      have HO1 : Hid (OwT W1 w.heap.size (.slice g BS.length c) BS) := by rw [hW1]; exact HO
      go_upto_region 6 with fail
      rw [← hW1]
      clear hW1 hc HRN HO HB
      go_loopw [3, 20] (fun o i W => ∃ (x : Nat) (g : Option Addr) (c : Nat), x ≤ LY ∧ i = .int .i64 x ∧ o = .slice g (BS ++ mwR ZY x).length c ∧ Hid (OwT W w.heap.size (.slice g (BS ++ mwR ZY x).length c) (BS ++ mwR ZY x)) ∧ Hid (Below w.heap.size w W)) (fun _ i _ => ((LY : Int) - intOf i).toNat)
      case atStart =>
        have e : BS ++ mwR ZY 0 = BS := by simp [mwR]
        exact ⟨0, g, c, by omega, rfl, by rw [e], by rw [e]; exact HO1, HWW⟩
      case round =>
        clear HO1
        obtain ⟨x, g, c, hx, rfl, rfl, HO, HB⟩ := hrel
        have HWB : Hid (Below w.heap.size w wr) := HB
        by_cases hxl : x < LY
        · obtain ⟨nb, no, rfl, hcx⟩ : ∃ nb no, ra = some ⟨nb, no, none⟩ ∧ wr.cell? ⟨nb, no + x, none⟩ = some (.int .i64 (ZY x)) := by
            obtain ⟨_, _, e, _, h⟩ := HRW.out wr HB.out
            cases e
            obtain ⟨b, o, e, hc⟩ := h x hxl
            exact ⟨b, o, e, hc⟩
          have hz := HZY.out x hxl
          have HIT : Hid _ := itoa_any (ZY x).toNat (by omega) wr
          rw [Int.toNat_of_nonneg hz.1] at HIT
          have HLE : Hid ((BS ++ mwR ZY x).length ≤ 100) := by
            have h1 := HLEN.out
            rw [Hid, List.length_append, mwR_len]
            omega
          have HSN : Hid (BS ++ mwR ZY (x + 1) = (BS ++ mwR ZY x) ++ [dcD (ZY x)]) := by rw [Hid, mwR_succ, List.append_assoc]
          have hown := HO.out
          unfold OwT at hown
          have hwz : w.heap.size ≤ wr.heap.size := HWB.out.size
          have hxi : (x : Int) < (LY : Int) := by omega
          have hle := HLE.out
          generalize hYS : BS ++ mwR ZY x = YS at *
          clear hYS
          go_wp2_with fail
          refine Calls.mono HIT.out ?_
          rintro e V ⟨rfl, hV⟩
          rw [hV]
          clear hV V HIT hcx
          go_wp2_with (first | (at_builtin; refine wpList_append_own_at _ rfl _ _ 51 rfl w.heap.size 9 i0 (.string ⟨#[]⟩) 1 16 Tryz.underlying51 hi0 hz0 hz1 hz2 rfl (by decide) _ _ _ rfl (World.ownsRow.alloc hown _) ⟨wr.heap.size, 0, none⟩ 1 1 [.string (dcD (ZY x))] rfl rfl (cell_one_new _ _ _) (fun u hu => by simp at hu; subst hu; rfl) (by unfold maxLen; omega) (by omega) (by simp; omega) ?_; intro v5 w5 hown5 hgrow5 _ _; obtain ⟨g5, c5, rfl⟩ := own_form17 hown5; have HOWN : Hid _ := hown5; have HGR : Hid _ := hgrow5; clear hown5 hgrow5))
          have hal : Below wr.heap.size wr (wr.alloc (.cells #[.string (dcD (ZY x))] 9)) := (Below.refl _ wr).alloc (Nat.le_refl _) _
          have hlt5 : ∀ r, (Value.slice g YS.length c).ownBlock = some r → w.heap.size ≤ r := fun r e => (World.ownsRow.lt hown r e).1
          have hnew : OwT w5 w.heap.size (.slice g5 (BS ++ mwR ZY (x + 1)).length c5) (BS ++ mwR ZY (x + 1)) := by
            rw [HSN.out]
            unfold OwT
            rw [List.length_append, List.map_append]
            exact HOWN.out
          have hbn : Below w.heap.size w w5 := (HWB.out.trans (hal.mono hwz)).grown HGR.out (by rw [World.size_alloc]; omega) hlt5
          go_wp2
          go_roundw
          case rel => exact ⟨x + 1, g5, c5, by omega, by go_num, by rw [HSN.out, List.length_append]; rfl, hnew, hbn⟩
          case measure => simp [intOf]; omega
        · have e : x = LY := by omega
          have HX : Hid (BS ++ mwR ZY x = mwL n L Z (y + 1)) := by rw [Hid, HSX.out, e]
          have hxi : ¬ (x : Int) < (LY : Int) := by omega
          clear e hxl
          go_wp2
          go_roundw
          case rel => exact ⟨y + 1, g, c, by omega, by go_num, by rw [HX.out], by rw [← HX.out]; exact HO, HWB⟩
          case measure => simp [intOf]; omega
    · obtain rfl : y = n := by omega
      have hyi : ¬ (y : Int) < (y : Int) := by omega
      go_wp2
      go_ret
      exact ⟨_, rfl, HO.out, HB.out⟩
end Go.Proofs.YtkohhdkkbaifoaaGreatDoor

/-
  Plain mathematics of no program: the cycles of a permutation.
-/
namespace Go.Proofs.YtkohhdkkbaifoaaGreatDoor.Pm

def iter (p : Nat → Nat) : Nat → Nat → Nat
  | 0, i => i
  | k + 1, i => p (iter p k i)
theorem iter_lt {p : Nat → Nat} (hp : IsPerm p) (i : Nat) (hi : i < 26) : ∀ k, iter p k i < 26
  | 0 => hi
  | k + 1 => hp.lt _ (iter_lt hp i hi k)
theorem iter_add (p : Nat → Nat) (i : Nat) : ∀ a b, iter p (a + b) i = iter p a (iter p b i)
  | 0, b => by rw [Nat.zero_add]; rfl
  | a + 1, b => by
    rw [Nat.add_right_comm]
    show p (iter p (a + b) i) = p (iter p a (iter p b i))
    rw [iter_add p i a b]
theorem iter_inj {p : Nat → Nat} (hp : IsPerm p) (i j : Nat) (hi : i < 26) (hj : j < 26) : ∀ k, iter p k i = iter p k j → i = j
  | 0, h => h
  | k + 1, h => iter_inj hp i j hi hj k (hp.inj _ _ (iter_lt hp i hi k) (iter_lt hp j hj k) h)
theorem iter_back {p : Nat → Nat} (hp : IsPerm p) (i : Nat) (hi : i < 26) (a b : Nat) (hab : a ≤ b) (h : iter p a i = iter p b i) : iter p (b - a) i = i := by
  have h1 : iter p b i = iter p a (iter p (b - a) i) := by rw [← iter_add]; congr 1; omega
  rw [h1] at h
  exact (iter_inj hp i _ hi (iter_lt hp i hi _) a h).symm
theorem iter_returns {p : Nat → Nat} (hp : IsPerm p) (i : Nat) (hi : i < 26) : ∃ n, 0 < n ∧ n ≤ 26 ∧ iter p n i = i := by
  apply Classical.byContradiction
  intro hn
  have h1 := nodup_map (fun k => iter p k i) (List.range 27) List.nodup_range (fun a ha b hb e => by
    simp at ha hb
    apply Classical.byContradiction
    intro hne
    rcases Nat.lt_or_ge a b with c | c
    · exact hn ⟨b - a, by omega, by omega, iter_back hp i hi a b (by omega) e⟩
    · exact hn ⟨a - b, by omega, by omega, iter_back hp i hi b a (by omega) e.symm⟩)
  have h2 := nodup_le _ (List.range 26) h1 (fun x hx => by
    obtain ⟨k, _, e⟩ := List.mem_map.1 hx
    rw [← e]
    simpa using iter_lt hp i hi k)
  simp at h2
/-- How long a letter's cycle is. -/
def len (p : Nat → Nat) (i : Nat) : Nat := ((List.range 27).find? fun n => decide (0 < n) && iter p n i == i).getD 0
theorem find_range (q : Nat → Bool) : ∀ n x, (List.range n).find? q = some x → ∀ j, j < x → q j = false := by
  intro n
  induction n with
  | zero => intro x h; simp at h
  | succ n ih =>
    intro x h j hj
    rw [List.range_succ, List.find?_append] at h
    cases h1 : (List.range n).find? q with
    | some y =>
      rw [h1] at h
      simp at h
      exact ih x (by rw [h1, h]) j hj
    | none =>
      rw [h1] at h
      simp at h
      have := List.find?_eq_none.1 h1 j (by simp; omega)
      simpa using this
structure IsLen (p : Nat → Nat) (i n : Nat) : Prop where
  pos : 0 < n
  le : n ≤ 26
  ret : iter p n i = i
  min : ∀ j, 0 < j → j < n → iter p j i ≠ i
theorem len_is {p : Nat → Nat} (hp : IsPerm p) (i : Nat) (hi : i < 26) : IsLen p i (len p i) := by
  unfold len
  cases h : (List.range 27).find? fun n => decide (0 < n) && iter p n i == i with
  | none =>
    obtain ⟨n, h0, h1, h2⟩ := iter_returns hp i hi
    have := List.find?_eq_none.1 h n (by simp; omega)
    simp [h2] at this
    omega
  | some n =>
    have h1 := List.find?_some h
    have h2 := List.mem_of_find?_eq_some h
    have h3 := find_range _ _ _ h
    simp at h1 h2
    refine ⟨h1.1, by simp; omega, h1.2, fun j hj hjn e => ?_⟩
    have := h3 j hjn
    simp [e] at this
    omega
/-- A letter's cycle, from it on. -/
def cyc (p : Nat → Nat) (i : Nat) : List Nat := (List.range (len p i)).map fun k => iter p k i
theorem cyc_length (p : Nat → Nat) (i : Nat) : (cyc p i).length = len p i := by simp [cyc]
theorem iter_mul {p : Nat → Nat} {i n : Nat} (h : iter p n i = i) : ∀ c, iter p (n * c) i = i
  | 0 => rfl
  | c + 1 => by rw [Nat.mul_succ, iter_add, h, iter_mul h c]
theorem iter_mod {p : Nat → Nat} {i n : Nat} (h : iter p n i = i) (k : Nat) : iter p k i = iter p (k % n) i := by
  have h1 : k = k % n + n * (k / n) := by have := Nat.div_add_mod k n; omega
  rw (occs := .pos [1]) [h1]
  rw [iter_add, iter_mul h]
theorem mem_cyc {p : Nat → Nat} (hp : IsPerm p) (i : Nat) (hi : i < 26) (x : Nat) : x ∈ cyc p i ↔ ∃ k, iter p k i = x := by
  constructor
  · intro h
    obtain ⟨k, _, e⟩ := List.mem_map.1 h
    exact ⟨k, e⟩
  · rintro ⟨k, e⟩
    have hl := len_is hp i hi
    rw [iter_mod hl.ret] at e
    exact List.mem_map.2 ⟨k % len p i, by simpa using Nat.mod_lt _ hl.pos, e⟩
theorem cyc_lt {p : Nat → Nat} (hp : IsPerm p) (i : Nat) (hi : i < 26) (x : Nat) (h : x ∈ cyc p i) : x < 26 := by
  obtain ⟨k, e⟩ := (mem_cyc hp i hi x).1 h
  rw [← e]; exact iter_lt hp i hi k
theorem cyc_self {p : Nat → Nat} (hp : IsPerm p) (i : Nat) (hi : i < 26) : i ∈ cyc p i := (mem_cyc hp i hi i).2 ⟨0, rfl⟩
theorem cyc_trans {p : Nat → Nat} (hp : IsPerm p) (i j x : Nat) (hi : i < 26) (hj : j < 26) (h1 : i ∈ cyc p j) (h2 : x ∈ cyc p i) : x ∈ cyc p j := by
  obtain ⟨a, e1⟩ := (mem_cyc hp j hj i).1 h1
  obtain ⟨b, e2⟩ := (mem_cyc hp i hi x).1 h2
  exact (mem_cyc hp j hj x).2 ⟨b + a, by rw [iter_add, e1, e2]⟩
theorem cyc_symm {p : Nat → Nat} (hp : IsPerm p) (i j : Nat) (hj : j < 26) (h : i ∈ cyc p j) : j ∈ cyc p i := by
  have hi := cyc_lt hp j hj i h
  obtain ⟨a, e⟩ := (mem_cyc hp j hj i).1 h
  have hl := len_is hp j hj
  refine (mem_cyc hp i hi j).2 ⟨len p j * (a + 1) - a, ?_⟩
  rw [← e, ← iter_add]
  have : len p j * (a + 1) - a + a = len p j * (a + 1) := by
    have h1 : a + 1 ≤ len p j * (a + 1) := Nat.le_mul_of_pos_left _ hl.pos
    omega
  rw [this]
  exact iter_mul hl.ret _
theorem cyc_nodup {p : Nat → Nat} (hp : IsPerm p) (i : Nat) (hi : i < 26) : (cyc p i).Nodup := by
  have hl := len_is hp i hi
  refine nodup_map _ _ List.nodup_range fun a ha b hb e => ?_
  simp at ha hb
  apply Classical.byContradiction
  intro hne
  rcases Nat.lt_or_ge a b with c | c
  · exact hl.min (b - a) (by omega) (by omega) (iter_back hp i hi a b (by omega) e)
  · exact hl.min (a - b) (by omega) (by omega) (iter_back hp i hi b a (by omega) e.symm)
/-- Is a letter met in a cycle of one of the first k? -/
def met (p : Nat → Nat) (k x : Nat) : Bool := (List.range k).any fun i => (cyc p i).contains x
theorem met_succ (p : Nat → Nat) (k x : Nat) : met p (k + 1) x = (met p k x || (cyc p k).contains x) := by simp [met, List.range_succ, List.any_append]
theorem met_iff (p : Nat → Nat) (k x : Nat) : met p k x = true ↔ ∃ i, i < k ∧ x ∈ cyc p i := by simp [met]
theorem met_again {p : Nat → Nat} (hp : IsPerm p) (k : Nat) (hk : k < 26) (h : met p k k = true) (x : Nat) : met p (k + 1) x = met p k x := by
  rw [met_succ]
  cases hm : met p k x with
  | true => rfl
  | false =>
    rw [Bool.false_or]
    obtain ⟨i, hi, hx⟩ := (met_iff p k k).1 h
    cases hc : (cyc p k).contains x with
    | false => rfl
    | true =>
      have h1 : x ∈ cyc p k := by simpa using hc
      have := (met_iff p k x).2 ⟨i, hi, cyc_trans hp k i x hk (by omega) hx h1⟩
      rw [hm] at this
      cases this
/-- The cycles that begin among the first k letters. -/
def cycs (p : Nat → Nat) : Nat → List (List Nat)
  | 0 => []
  | k + 1 => if met p k k = true then cycs p k else cycs p k ++ [cyc p k]
theorem mem_cycs (p : Nat → Nat) : ∀ k c, c ∈ cycs p k → ∃ i, i < k ∧ c = cyc p i ∧ met p i i = false
  | 0, c, h => by cases h
  | k + 1, c, h => by
    unfold cycs at h
    split at h
    · obtain ⟨i, hi, e⟩ := mem_cycs p k c h
      exact ⟨i, by omega, e⟩
    · rename_i hm
      rcases List.mem_append.1 h with h | h
      · obtain ⟨i, hi, e⟩ := mem_cycs p k c h
        exact ⟨i, by omega, e⟩
      · simp at h
        exact ⟨k, by omega, h, by simpa using hm⟩
theorem mem_flat {p : Nat → Nat} (hp : IsPerm p) : ∀ k, k ≤ 26 → ∀ x, x ∈ (cycs p k).flatten ↔ met p k x = true
  | 0, _, x => by simp [cycs, met]
  | k + 1, hk, x => by
    have ih := mem_flat hp k (by omega) x
    unfold cycs
    split
    · rename_i hm
      rw [met_again hp k (by omega) hm x]
      exact ih
    · rw [List.flatten_append, List.mem_append, ih, met_succ]
      simp
theorem flat_nodup {p : Nat → Nat} (hp : IsPerm p) : ∀ k, k ≤ 26 → (cycs p k).flatten.Nodup
  | 0, _ => by simp [cycs]
  | k + 1, hk => by
    have ih := flat_nodup hp k (by omega)
    unfold cycs
    split
    · exact ih
    · rename_i hm
      rw [List.flatten_append, List.nodup_append]
      refine ⟨ih, by simpa using cyc_nodup hp k (by omega), fun a ha b hb e => ?_⟩
      subst e
      have h1 := (mem_flat hp k (by omega) a).1 ha
      have h2 : a ∈ cyc p k := by simpa using hb
      obtain ⟨i, hi, h3⟩ := (met_iff p k a).1 h1
      have ha26 := cyc_lt hp k (by omega) a h2
      have : k ∈ cyc p i := cyc_trans hp a i k ha26 (by omega) h3 (cyc_symm hp a k (by omega) h2)
      exact hm ((met_iff p k k).2 ⟨i, hi, this⟩)
theorem flat_all {p : Nat → Nat} (hp : IsPerm p) (x : Nat) : x ∈ (cycs p 26).flatten ↔ x < 26 := by
  rw [mem_flat hp 26 (Nat.le_refl _), met_iff]
  constructor
  · rintro ⟨i, hi, h⟩; exact cyc_lt hp i hi x h
  · intro h; exact ⟨x, h, cyc_self hp x h⟩
theorem flat_length {p : Nat → Nat} (hp : IsPerm p) : (cycs p 26).flatten.length = 26 := by
  have h1 := nodup_le _ (List.range 26) (flat_nodup hp 26 (Nat.le_refl _)) (fun x hx => by simpa using (flat_all hp x).1 hx)
  have h2 := nodup_le _ (cycs p 26).flatten (List.nodup_range (n := 26)) (fun x hx => (flat_all hp x).2 (by simpa using hx))
  simp at h1 h2 ⊢
  omega
theorem cycs_len (p : Nat → Nat) : ∀ k, (cycs p k).length ≤ k
  | 0 => by simp [cycs]
  | k + 1 => by
    have := cycs_len p k
    unfold cycs
    split
    · omega
    · simp; omega
end Go.Proofs.YtkohhdkkbaifoaaGreatDoor.Pm
