/-
  Several texts, joined: KType, OPr, ORPr, LOPlg.
-/
import Derived.Test.YthfjkhmedpilnaaJn23
import Derived.Test.YthfjkhmedpilnaaJn21
import Derived.Maps.AppendAt
/-
  Contracts of perm.lengthsOf and perm.Type.
-/
namespace Go.Proofs.Ythfjkhmedpilnaa
open Go.RowKit PK

/-- How many of the lists are so long. -/
def cnt (ls : List (List Nat)) (n : Nat) : Nat := (ls.filter fun l => l.length == n).length
theorem cnt_le (ls : List (List Nat)) (n : Nat) : cnt ls n ≤ ls.length := List.length_filter_le _ _
theorem cnt_snoc (ls : List (List Nat)) (l : List Nat) : ints 27 (upd (Pm.up (cnt ls)) l.length ((cnt ls l.length : Nat) + 1)) = ints 27 (Pm.up (cnt (ls ++ [l]))) := ints_ext fun i _ => by
  simp only [Pm.up, cnt, List.filter_append, List.length_append]
  by_cases e : i = l.length
  · subst e
    simp
  · rw [upd_other _ _ e]
    have : (l.length == i) = false := by simp; omega
    simp [this, Pm.up, cnt]
theorem zero_lengths : (Try.prog.info? 107).map (·.size) = some 27 := by kernel_rfl

set_option maxRecDepth 100000 in
set_option maxHeartbeats 2000000 in
theorem lengthsOf_any (ls : List (List Nat)) (h1 : 0 < ls.length) (h2 : ls.length ≤ 26) (h3 : ∀ l ∈ ls, 0 < l.length ∧ l.length ≤ 26) (B : Nat) (v : Value) (w : World) (hall : OwnsAll w B v ls) :
    Calls Try.prog 60 #[v] w fun e w' => e = .returned (.agg (ints 27 (Pm.up (cnt ls)))) ∧ Below w.heap.size w w' := by
  obtain ⟨vs, hv1, hv2⟩ := hall
  obtain ⟨g, cap, rfl⟩ := own_formK hv1 h1
  have hvl : vs.length = ls.length := by have := hv1.1; omega
  have hg : g < w.heap.size := (World.ownsRow.lt hv1 g rfl).2
  have HL : Hid (∀ l ∈ ls, 0 < l.length ∧ l.length ≤ 26) := h3
  have HV1 : Hid (w.ownsRow B 23 1 (.slice (some ⟨g, 0, none⟩) ls.length cap) ls.length vs) := hv1
  have HV2 : Hid (∀ (k : Nat) (u : Value) (l : List Nat), vs[k]? = some u → ls[k]? = some l → OwnsN w B u l) := hv2
  have HVL : Hid (vs.length = ls.length) := hvl
  clear hv1 hv2 hvl h3
  obtain ⟨n, hn⟩ : ∃ n, n = ls.length := ⟨_, rfl⟩
  have HN : Hid (n = ls.length) := hn
  rw [← hn] at h1 h2 HV1 ⊢
  clear hn
  go_enter Try.func60, Try.ntmps60
  go_wp2
  rw [zero27]
  go_loopw [8] (fun i W => ∃ k : Nat, k ≤ n ∧ i = .int .i64 k ∧ RowAt W w.heap.size 107 (ints 27 fun _ => 0) ∧ RowAt W (w.heap.size + 1) 107 (ints 27 (Pm.up (cnt (ls.take k)))) ∧ Below w.heap.size w W) (fun i _ => (n - intOf i).toNat)
  case atStart => exact ⟨0, by omega, rfl, (RowAt.new w _ _).alloc _, RowAt.newAt (by simp), ((Below.refl _ _).alloc (Nat.le_refl _) _).alloc (by simp) _⟩
  case round =>
    obtain ⟨k, hk, rfl, hr0, hr1, hb⟩ := hrel
    by_cases hlt : k < n
    · obtain ⟨l, hl⟩ : ∃ l, ls[k]? = some l := ⟨ls[k]'(by rw [← HN.out]; exact hlt), List.getElem?_eq_getElem _⟩
      obtain ⟨u, hu⟩ : ∃ u, vs[k]? = some u := ⟨vs[k]'(by rw [HVL.out, ← HN.out]; exact hlt), List.getElem?_eq_getElem _⟩
      have hll := HL.out l (List.mem_of_getElem? hl)
      have hou := HV2.out k u l hu hl
      obtain ⟨g', cap', rfl⟩ := own_formK hou hll.1
      have hcu : wr.cell? ⟨g, k, none⟩ = some (.slice (some ⟨g', 0, none⟩) l.length cap') := by
        rw [hb.cell (p := ⟨g, k, none⟩) hg, World.ownsRow.cellAt HV1.out k (by omega)]
        exact hu
      have HLK : Hid (ls[k]? = some l) := hl
      obtain ⟨m, hm⟩ : ∃ m, m = l.length := ⟨_, rfl⟩
      have HM : Hid (m = l.length) := hm
      rw [← hm] at hcu hll
      obtain ⟨hm1, hm2⟩ := hll
      clear hl hu hou hm
      have hcl : cnt (ls.take k) m ≤ 26 := by have h5 := cnt_le (ls.take k) m; have h6 := List.length_take_le k ls; omega
      have hcc := hr1.cell (ints_get (Pm.up (cnt (ls.take k))) (i := m) (by omega))
      have hcf := hr1.frozen m
      simp only [Pm.up] at hcc
      generalize hq : cnt (ls.take k) m = q at hcc hcl
      have HQ : Hid (cnt (ls.take k) m = q) := hq
      clear hq
      go_wp2
      go_roundw
      case rel =>
        refine ⟨k + 1, by omega, by go_num, hr0.setOther _ _ (by simp), ?_, hb.setCell (by simp) _⟩
        have e1 : ls.take (k + 1) = ls.take k ++ [l] := by
          obtain ⟨h7, h8⟩ := List.getElem?_eq_some_iff.1 HLK.out
          rw [List.take_succ_eq_append_getElem h7, h8]
        have h9 := hr1.set m (.int .i64 ((q : Int) + 1))
        rw [ints_set] at h9
        rw [e1, ← cnt_snoc, ← HM.out, HQ.out]
        exact h9
      case measure => simp [intOf]; omega
    · have HK : Hid (ls.take k = ls) := by rw [Hid]; exact List.take_of_length_le (by have := HN.out; omega)
      rw [HK.out] at hr1
      go_wp2_with (first
        | refine wpList_load_row rfl 107 _ rfl (w.heap.size + 1) rfl 107 (ints 27 (Pm.up (cnt ls))) (0, 0) _ hr1 Try.underlying107 rfl (by rw [ints_size]; exact zero_lengths) ?_
        | refine wpList_store_row rfl 107 _ _ rfl w.heap.size (ints 27 (Pm.up (cnt ls))) rfl rfl 107 _ hr0 (by rw [ints_size]; exact zero_lengths) (by simp only [ints_size]) (ints_one _ _) ?_)
      exact bodyPost_ret (v := .agg (ints 27 (Pm.up (cnt ls)))) (results_cell_row rfl _ _ w.heap.size 107 _ (0, 0) _ rfl (hr0.row _) Try.underlying107 rfl (by rw [ints_size]; exact zero_lengths)) rfl ⟨rfl, Below.setRow hb _ (Nat.le_refl _) _⟩

/-- The lengths, from the longest on: those of the k longest kinds. -/
def tyDown (c : Nat → Nat) : Nat → List Nat
  | 0 => []
  | k + 1 => tyDown c k ++ List.replicate (c (26 - k)) (26 - k)
theorem tyDown_len (c : Nat → Nat) (h : ∀ n, c n ≤ 26) : ∀ k, (tyDown c k).length ≤ 26 * k
  | 0 => by simp [tyDown]
  | k + 1 => by
    have := tyDown_len c h k
    have := h (26 - k)
    simp [tyDown]
    omega
def typeOf (p : Nat → Nat) : List Nat := tyDown (cnt (Pm.cycs p 26)) 26
theorem cycs_pos {p : Nat → Nat} (hp : Pm.IsPerm p) : 0 < (Pm.cycs p 26).length := by
  apply Nat.pos_of_ne_zero
  intro h
  have := Pm.flat_length hp
  rw [List.eq_nil_of_length_eq_zero h] at this
  simp at this
theorem cycs_each {p : Nat → Nat} (hp : Pm.IsPerm p) : ∀ l ∈ Pm.cycs p 26, 0 < l.length ∧ l.length ≤ 26 := fun l hl => by
  obtain ⟨i, hi, rfl, _⟩ := Pm.mem_cycs p 26 l hl
  rw [Pm.cyc_length]
  have := Pm.len_is hp i hi
  exact ⟨this.pos, this.le⟩

set_option maxRecDepth 100000 in
set_option maxHeartbeats 1000000 in
theorem type_ok (p : Nat → Nat) (hp : Pm.IsPerm p) (w : World) :
    Calls Try.prog 29 #[.agg (ints 26 (Pm.up p))] w fun e w' => ∃ v, e = .returned (.tuple #[v, .int .i64 0]) ∧ OwnsN w' w.heap.size v (typeOf p) ∧ Below w.heap.size w w' := by
  obtain ⟨i0, hi0, hz0, hz1, hz2⟩ := info_parts info_int3
  have H0 : Hid (Pm.firstBad (fun _ => Pm.up p) 1 = 0) := one_ok p hp
  go_enter Try.func29, Try.ntmps29
  go_wp2_with (first
    | refine wpList_load_row rfl 25 _ rfl w.heap.size rfl 25 (ints 26 (Pm.up p)) (0, 0) _ (RowAt.new w _ _) Try.underlying25 rfl (by rw [ints_size]; exact info_perm) ?_
    | refine wpList_build1 rfl 118 25 _ rfl 26 (Pm.up p) rfl (by decide) Try.underlying118 zero_perm (by decide) ?_)
  refine (firstWrong_any (fun _ => Pm.up p) 1 (by decide) _ _ (by simp) (range_one (RowAt.newAt (by simp)))).mono ?_
  rintro e W1 ⟨rfl, hb0⟩
  obtain ⟨r1, hb1, hs1⟩ := after0 hb0
  clear hb0
  rw [H0.out]
  go_wp2_with (refine wpList_load_row rfl 25 _ rfl w.heap.size rfl 25 (ints 26 (Pm.up p)) (0, 0) _ r1 Try.underlying25 rfl (by rw [ints_size]; exact info_perm) ?_)
  refine (cycles_any p hp _).mono ?_
  rintro e W2 ⟨v, rfl, hall, hb2⟩
  go_wp2_with fail
  refine (lengthsOf_any (Pm.cycs p 26) (cycs_pos hp) (Pm.cycs_len p 26) (cycs_each hp) _ v _ hall).mono ?_
  rintro e W3 ⟨rfl, hb3⟩
  have hs2 := hb2.size
  have hs3 := hb3.size
  have hbw : Below w.heap.size w W3 := (hb1.trans (hb2.mono (by omega))).trans (hb3.mono (by omega))
  have hcnt : ∀ n, cnt (Pm.cycs p 26) n ≤ 26 := fun n => Nat.le_trans (cnt_le _ _) (Pm.cycs_len p 26)
  clear hall hb1 hb2 hb3 r1 H0
  obtain ⟨c, hc⟩ : ∃ c, c = cnt (Pm.cycs p 26) := ⟨_, rfl⟩
  have HC : Hid (c = cnt (Pm.cycs p 26)) := hc
  rw [← hc] at hcnt ⊢
  clear hc
  go_wp2_with (first
    | (refine wpList_store_row rfl 107 _ _ rfl W3.heap.size (ints 27 (Pm.up c)) rfl rfl 107 _ (RowAt.new W3 _ _) (by rw [ints_size]; exact zero_lengths) (by rw [ints_size]; rfl) (ints_one _ _) ?_; rw [World.setRow_alloc_new]))
  go_loopw [6, 7] (fun v n W => ∃ k : Nat, k ≤ 26 ∧ n = .int .i64 ((26 - k : Nat) : Int) ∧ OwnsN W (W3.heap.size + 1) v (tyDown c k) ∧ RowAt W W3.heap.size 107 (ints 27 (Pm.up c)) ∧ Below w.heap.size w W) (fun _ n _ => (intOf n).toNat)
  case atStart => exact ⟨0, by omega, rfl, World.ownsRow_nil _ _ _ _, RowAt.new _ _ _, hbw.alloc (by omega) _⟩
  case round =>
    clear hbw
    obtain ⟨k, hk, rfl, hown, hrc, hb⟩ := hrel
    have hsz := hrc.lt
    have htl := tyDown_len c hcnt k
    by_cases hlt : k < 26
    · have hpos : (0 : Int) < ((26 - k : Nat) : Int) := by omega
      have hcc := hrc.cell (ints_get (Pm.up c) (i := 26 - k) (by omega))
      simp only [Pm.up] at hcc
      have hq := hcnt (26 - k)
      obtain ⟨q, hqq⟩ : ∃ q, q = c (26 - k) := ⟨_, rfl⟩
      have HQ : Hid (q = c (26 - k)) := hqq
      rw [← hqq] at hcc hq
      clear hqq
      obtain ⟨n, hn⟩ : ∃ n, n = 26 - k := ⟨_, rfl⟩
      have HN : Hid (n = 26 - k) := hn
      rw [← hn] at hpos hcc ⊢
      have hn27 : n < 27 := by omega
      have hpn : 0 < n := by omega
      clear hn
      have HSZ : Hid (W3.heap.size < wr.heap.size ∧ w.heap.size + 2 ≤ W1.heap.size ∧ W1.heap.size ≤ W2.heap.size ∧ W2.heap.size ≤ W3.heap.size) := ⟨hsz, hs1, hs2, hs3⟩
      have HCN : Hid (∀ n, c n ≤ 26) := hcnt
      have HTL : Hid ((tyDown c k).length ≤ 26 * k ∧ k < 26 ∧ q ≤ 26) := ⟨htl, hlt, hq⟩
      clear hsz hs1 hs2 hs3 hcnt htl hlt hk hq
      go_wp2
      go_loopw [6, 24] (fun v j W => ∃ m : Nat, m ≤ q ∧ j = .int .i64 m ∧ OwnsN W (W3.heap.size + 1) v (tyDown c k ++ List.replicate m n) ∧ RowAt W W3.heap.size 107 (ints 27 (Pm.up c)) ∧ Below w.heap.size w W) (fun _ j _ => (q - intOf j).toNat)
      case atStart => exact ⟨0, by omega, rfl, by simpa using hown, hrc, hb⟩
      case round =>
        clear hown hrc hb hcc
        obtain ⟨m, hm, rfl, hown, hrc, hb⟩ := hrel
        obtain ⟨_, hs1, hs2, hs3⟩ := HSZ.out
        obtain ⟨htl, hlt, hq⟩ := HTL.out
        have hsz := hrc.lt
        by_cases hmq : m < q
        · have hlm : (tyDown c k ++ List.replicate m n).length ≤ 1000 := by simp; omega
          go_wp2_with (first
            | (at_builtin; refine wpList_append_own _ rfl _ _ 23 rfl (W3.heap.size + 1) 3 i0 (.int .i64 0) 1 8 Try.underlying23 hi0 hz0 hz1 hz2 rfl (by decide) _ _ _ rfl (World.ownsRow.alloc hown _) ⟨wr.heap.size, 0, none⟩ 1 1 [.int .i64 (n : Nat)] rfl rfl (cell_one_new _ _ _) (fun u hu => by simp at hu; subst hu; rfl) (by unfold maxLen; omega) (by omega) (by simp; omega) ?_; intro v' w1 hown' hgrow _))
          go_roundw
          case rel =>
            refine ⟨m + 1, by omega, by go_num, ?_, row_grown (hrc.alloc _) hgrow (fun j hj => (World.ownsRow.lt hown j hj).1), (hb.alloc (by omega) _).grown hgrow (by simp; omega) (fun j hj => by have := (World.ownsRow.lt hown j hj).1; omega)⟩
            have e1 : tyDown c k ++ List.replicate (m + 1) n = (tyDown c k ++ List.replicate m n) ++ [n] := by rw [List.replicate_succ', List.append_assoc]
            rw [e1, OwnsN, nums_append, List.length_append]
            exact hown'
          case measure => simp [intOf]; omega
        · have HM : Hid (m = q) := by rw [Hid]; omega
          go_wp2
          go_roundw
          case rel =>
            refine ⟨k + 1, by omega, ?_, ?_, hrc, hb⟩
            · have : ((26 - (k + 1) : Nat) : Int) = (n : Int) - 1 := by rw [HN.out]; omega
              rw [this]
            · show OwnsN _ _ _ (tyDown c k ++ List.replicate (c (26 - k)) (26 - k))
              rw [← HQ.out, ← HN.out, ← HM.out]
              exact hown
          case measure => simp [intOf]; omega
    · have HK : Hid (k = 26) := by rw [Hid]; omega
      have hz : ((26 - k : Nat) : Int) = 0 := by omega
      go_wp2
      go_ret2
      refine ⟨_, rfl, ?_, hb⟩
      have := own_leK (B' := w.heap.size) hown (by omega)
      rw [typeOf, ← HC.out, ← HK.out]
      exact this
end Go.Proofs.Ythfjkhmedpilnaa

/-
  What keys do: rows of windows, letters and permutations.
-/
namespace Go.Proofs.Ythfjkhmedpilnaa
open Go.RowKit PK Vg

/-- A key that turns the wheels. -/
def okK (k : Int) : Bool := decide (k = -1 ∨ (0 ≤ k ∧ k < 26))
/-- The windows behind the first i keys. -/
def pst (M : Om.Ma) (ks : Nat → Int) : Nat → Nat → Nat
  | 0 => M.st
  | i + 1 => if okK (ks i) then Om.step M (pst M ks i) else pst M ks i
def prL (M : Om.Ma) (ks : Nat → Int) (i : Nat) : Int := if 0 ≤ ks i ∧ ks i < 26 then (Om.now M (pst M ks (i + 1)) (ks i).toNat : Nat) else 0
def prE (ks : Nat → Int) (i : Nat) : Int := if okK (ks i) then 0 else 3
/-- The cells of what came of a key. -/
def prc (l e : Int) (R : Value) (f : Nat → Int) : Array Value := #[.int .i64 l, .int .i64 e, R] ++ ints 26 f
/-- A change of one block alone. -/
theorem grown_set (W : World) (q i : Nat) (v : Value) : W.grownBy (W.setCell ⟨q, i, none⟩ v) (some q) := by
  have := (Below.refl 0 W).setCell (p := ⟨q, i, none⟩) (Nat.zero_le _) v
  exact ⟨this.os, this.tape, this.output, this.size, fun k _ hne => heap_setCell_other W ⟨q, i, none⟩ k v (fun e => hne (by rw [e]))⟩
section
variable {P : Program}
/-- A slice of one that is many cells. -/
theorem run_build1c (w : World) (t e : TypeId) (n : Nat) (hn : n * 2 ≤ 2 ^ 24) (h0 : 0 < n) (hu : P.underlying t = some (.slice e)) (z c : Array Value) (hzs : z.size = n) (hc : c.size = n) (hz : (P.info? e).map (fun i => (i.zero, i.size)) = some (some (.agg z), n)) :
    (Instr.buildSlice t 1 #[(0, .agg c)]).run P w = .ok (.slice (some ⟨w.heap.size, 0, none⟩) 1 1) (w.alloc (.cells c e)) := by
  obtain ⟨hz1, hz2⟩ := zero_of_info hz
  cases hq : P.info? e with
  | none => simp [hq] at hz
  | some i =>
    have hs : i.size = n := by simpa [hq] using hz2
    have hsz : ∀ W, (sizeOf e).run P W = .ok n W := fun W => by simp [sizeOf, typeInfo, hq, hs]
    have hcc : (Value.agg c).cells = c := rfl
    have hfill : Instr.fill (fun i => some (i * n, n)) (tab n fun x => z[x % n]!) [(0, .agg c)] = some c := by
      rw [Instr.fill]
      simp only [hcc, hc, tab_size]
      rw [if_neg (by simp)]
      have hx := foldl_lay n (0 * n) c.toList 0 (fun x => z[x % n]!)
      rw [← Array.foldl_toList, Array.toList_zipIdx, hx]
      show some _ = some c
      congr 1
      apply Array.ext_getElem?
      intro i
      by_cases hi : i < n
      · rw [tab_get _ hi, if_pos (by simp [hc]; omega)]
        simp [List.getD_eq_getElem?_getD, hc, hi]
      · rw [Array.getElem?_eq_none (by rw [tab_size]; omega), Array.getElem?_eq_none (by omega)]
    have h3 : ¬ (n > 2 ^ 24) := by omega
    have h4 : ¬ (n = 0) := by omega
    have hzc : (Value.agg z).cells = z := rfl
    simp only [Instr.buildSlice, Sem.run_bind, run_underlying hu, Result.andThen_ok, hsz, Nat.one_mul, h3, h4, if_false, hz1, Sem.run_pure, hzc, hzs, range_tab, hfill]
    simp [newRow]
end
/-- What came of k keys, cell by cell. -/
def prl (L E : Nat → Int) (R : Nat → Value) (N : Nat → Nat → Nat) : Nat → List Value
  | 0 => []
  | k + 1 => prl L E R N k ++ (prc (L k) (E k) (R k) (Pm.up (N k))).toList
/-- Rows of what came of keys, behind a slice. -/
def PrsAt (W : World) (v : Value) (m n : Nat) (L E : Nat → Int) (A N : Nat → Nat → Nat) : Prop :=
  ∃ (a : Option Addr) (cap : Nat) (R : Nat → Value), v = .slice a m cap ∧ m ≤ maxLen ∧ (∀ i, i < m → ∃ b o, a = some ⟨b, o, none⟩ ∧ W.rangeAt b (o + i * 29) (prc (L i) (E i) (R i) (Pm.up (N i))).toList) ∧ ∀ i, i < m → NumsAt W (R i) n fun j => (A i j : Nat)
theorem PrsAt.below {w w' : World} {v : Value} {m n : Nat} {L E : Nat → Int} {A N : Nat → Nat → Nat} (h : PrsAt w v m n L E A N) (hb : Below w.heap.size w w') : PrsAt w' v m n L E A N := by
  obtain ⟨a, cap, R, e, hm, h1, h2⟩ := h
  refine ⟨a, cap, R, e, hm, fun i hi => ?_, fun i hi => (h2 i hi).below hb⟩
  obtain ⟨b, o, e1, h3⟩ := h1 i hi
  exact ⟨b, o, e1, rangeAt_below h3 hb⟩
end Go.Proofs.Ythfjkhmedpilnaa

/-
  Contract of the document's Press (chapter 8).
-/
namespace Go.Proofs.Ythfjkhmedpilnaa
open Go.RowKit PK Vg

section
variable {w W W' : World} {a b c v7 v8 : Value} {M : Om.Ma} {ks : Nat → Int} {d k : Nat} {R : Nat → Value}
end
end Go.Proofs.Ythfjkhmedpilnaa

/-
  RotorPlugs, for any Write that writes what the document's writes.
-/
namespace Go.Proofs.Ythfjkhmedpilnaa
open Go.RowKit PK Vg

theorem v_zero_mac : (Try.prog.info? 27).map (·.zero) = some (some (.agg (mac (.slice none 0 0) (.slice none 0 0) (.slice none 0 0) (fun _ => 0) (fun _ => 0)))) := by kernel_rfl
theorem mac_one {a b c : Value} {rf pl : Nat → Int} (ha : a.oneCell' = true) (hb : b.oneCell' = true) (hc : c.oneCell' = true) : (mac a b c rf pl).all (·.oneCell') = true := by
  unfold mac
  rw [Array.all_append, Array.all_append, ints_one, ints_one]
  simp [ha, hb, hc]
/-- The machine, another one, and a fault. -/
structure PlS (w W : World) (a b c : Value) (rf pl pl2 : Nat → Int) (qf q : Nat) : Prop where
  mg : MgAt w W a b c rf pl
  n : RowAt W q 27 (mac a b c rf pl2)
  f : ∃ x y, RowAt W qf 46 #[x, y]
  ne : w.heap.size < q ∧ w.heap.size < qf ∧ q ≠ qf
section
variable {w W W' : World} {a b c : Value} {rf pl pl2 : Nat → Int} {qf q : Nat}
theorem PlS.step (h : PlS w W a b c rf pl pl2 qf q) (hb : Below W.heap.size W W') : PlS w W' a b c rf pl pl2 qf q := by
  obtain ⟨x, y, hf⟩ := h.f
  exact ⟨h.mg.step hb, h.n.below hb h.n.lt, ⟨x, y, hf.below hb hf.lt⟩, h.ne⟩
theorem PlS.drew (h : PlS w W a b c rf pl pl2 qf q) : PlS w W.drew a b c rf pl pl2 qf q := ⟨h.mg.drew, h.n, h.f, h.ne⟩
theorem PlS.row (h : PlS w W a b c rf pl pl2 qf q) (x y : Value) : PlS w (W.setRow qf #[x, y]) a b c rf pl pl2 qf q := by
  obtain ⟨x', y', hf⟩ := h.f
  have := h.ne
  exact ⟨h.mg.setRow _ (by omega) _, h.n.rowOther _ _ (by omega), ⟨x, y, hf.row _⟩, h.ne⟩
end
/-- The machine without plugs. -/
def bare (g : Gm) : Gm := { g with pl := Pm.up fun i => i }
theorem one_nums {W : World} {v : Value} {n : Nat} {f : Nat → Int} (h : NumsAt W v n f) : v.oneCell' = true := by
  obtain ⟨a, c, e, _⟩ := h
  rw [e]
  rfl
end Go.Proofs.Ythfjkhmedpilnaa
