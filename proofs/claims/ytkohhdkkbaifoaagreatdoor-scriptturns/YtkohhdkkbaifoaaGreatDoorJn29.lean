/-
  Several texts, joined: PPrint, PrG.
-/
import Derived.Test.YtkohhdkkbaifoaaGreatDoorJn28
import Derived.Test.YtkohhdkkbaifoaaGreatDoorJn27
import Derived.Test.YtkohhdkkbaifoaaGreatDoorJn16
/-
  Contracts of perm.appendCycle and perm.Print.
-/
namespace Go.Proofs.YtkohhdkkbaifoaaGreatDoor
open Go.RowKit PK

/-- A letter's byte. -/
def lb (i : Nat) : UInt8 := UInt8.ofNat (65 + i)
theorem lb_toNat (i : Nat) (h : i < 26) : (lb i).toNat = 65 + i := by simp [lb]; omega
/-- A cycle, written. -/
def wr1 (c : List Nat) : List UInt8 := 40 :: c.map lb ++ [41]
/-- The cycles, written, but those of one letter. -/
def wrAll (ls : List (List Nat)) : List UInt8 := (ls.filter fun l => decide (1 < l.length)).flatMap wr1
theorem cells_snoc (l : List UInt8) (b : UInt8) (v : Value) (h : v = .int .u8 (b.toNat : Nat)) : Lib.byteCells l ++ [v] = Lib.byteCells (l ++ [b]) := by
  subst h
  rw [Lib.byteCells_append]
  rfl
theorem info_byte3 : (Tryz.prog.info? 5).map (fun i => (i.zero, i.size, i.bytes)) = some (some (.int .u8 0), 1, 1) := by kernel_rfl

set_option maxHeartbeats 2000000 in
theorem appendCycle_any (B : Nat) (v : Value) (xs : List UInt8) (c : List Nat) (hc1 : 0 < c.length) (hc2 : c.length ≤ 26) (hc3 : ∀ x ∈ c, x < 26) (B' : Nat) (u : Value) (w : World) (hown : BKit.Owns w B 5 v xs) (hu : OwnsN w B' u c) (hB : B ≤ w.heap.size) (hlen : xs.length ≤ 1000) :
    Calls Tryz.prog 196 #[v, u] w fun e w' => ∃ v', e = .returned v' ∧ BKit.Owns w' B 5 v' (xs ++ wr1 c) ∧ Below B w w' ∧ Lib.OthersKept 5 none w w' := by
  obtain ⟨i0, hi0, hz0, hz1, hz2⟩ := info_parts info_byte3
  obtain ⟨g, cap, rfl⟩ := own_formP hu hc1
  have HC3 : Hid (∀ x ∈ c, x < 26) := hc3
  have HU : Hid (w.ownsRow B' 3 1 (.slice (some ⟨g, 0, none⟩) c.length cap) c.length (nums c)) := hu
  clear hc3 hu
  obtain ⟨n, hn⟩ : ∃ n, n = c.length := ⟨_, rfl⟩
  have HN : Hid (n = c.length) := hn
  rw [← hn] at hc1 hc2 HU ⊢
  clear hn
  go_enter Tryz.func196, Tryz.ntmps196
  go_wp2_with (first
    | (at_builtin; refine wpList_append_own _ rfl _ _ 87 rfl B 5 i0 (.int .u8 0) 1 1 Tryz.underlying87 hi0 hz0 hz1 hz2 rfl (by decide) _ _ _ rfl (World.ownsRow.alloc hown _) ⟨w.heap.size, 0, none⟩ 1 1 [.int .u8 40] rfl rfl (cell_one_new _ _ _) (fun u hu => by simp at hu; subst hu; rfl) (by unfold maxLen; omega) (by omega) (by simp; omega) ?_; intro v1 w1 hown1 hgrow1 _))
  obtain ⟨hown2, hb2, hk2⟩ := BKit.Owns.grown (World.ownsRow.alloc hown _) (by simp; omega) ((Below.refl B w).alloc hB _) ((Lib.OthersKept.refl 5 none w).alloc _) hown1 (m := [40]) (by simp) (cells_snoc _ _ _ rfl) hgrow1
  clear hown hown1 hgrow1
  go_loopw [0, 12] (fun v j W => ∃ m : Nat, m ≤ n ∧ j = .int .i64 m ∧ BKit.Owns W B 5 v (xs ++ 40 :: (c.take m).map lb) ∧ Below B w W ∧ Lib.OthersKept 5 none w W) (fun _ j _ => (n - intOf j).toNat)
  case atStart => exact ⟨0, by omega, rfl, hown2, hb2, hk2⟩
  case round =>
    clear hown2 hb2 hk2
    obtain ⟨m, hm, rfl, hown, hb, hk⟩ := hrel
    have hsz := hb.size
    have hlm : (xs ++ 40 :: (c.take m).map lb).length ≤ 1100 := by have := List.length_take_le m c; simp; omega
    by_cases hmn : m < n
    · obtain ⟨x, hx⟩ : ∃ x, c[m]? = some x := ⟨c[m]'(by rw [← HN.out]; exact hmn), List.getElem?_eq_getElem _⟩
      have hx26 : x < 26 := HC3.out x (List.mem_of_getElem? hx)
      have hcx : wr.cell? ⟨g, m, none⟩ = some (.int .i64 (x : Nat)) := by
        have h1 := HU.out
        obtain ⟨cc, fz, h5⟩ := Lib.ownsRowF_kind (World.ownsRowF_of h1) g rfl
        have h6 : wr.heap[g]? = w.heap[g]? := (hk g _ h5 (by simp) (fun _ _ e => by simp at e)).trans h5.symm
        rw [World.cell?_of_block (w := w) h6, World.ownsRow.cellAt h1 m (by omega)]
        simp [nums, hx]
      have HX : Hid (c[m]? = some x) := hx
      clear hx
      go_wp2_with (first
        | (at_builtin; refine wpList_append_own _ rfl _ _ 87 rfl B 5 i0 (.int .u8 0) 1 1 Tryz.underlying87 hi0 hz0 hz1 hz2 rfl (by decide) _ _ _ rfl (World.ownsRow.alloc hown _) ⟨wr.heap.size, 0, none⟩ 1 1 [.int .u8 (65 + (x : Int))] rfl rfl (cell_one_new _ _ _) (fun u hu => by simp at hu; subst hu; rfl) (by unfold maxLen; omega) (by omega) (by simp; omega) ?_; intro v1 w1 hown1 hgrow1 _))
      go_roundw
      case rel =>
        obtain ⟨ho, hbb, hkk⟩ := BKit.Owns.grown (World.ownsRow.alloc hown _) (by simp; omega) (hb.alloc (by omega) _) (hk.alloc _) hown1 (m := [lb x]) (by simp; omega) (cells_snoc _ _ _ (by rw [lb_toNat x hx26]; simp)) hgrow1
        refine ⟨m + 1, by omega, by go_num, ?_, hbb, hkk⟩
        have e1 : c.take (m + 1) = c.take m ++ [x] := by
          obtain ⟨h7, h8⟩ := List.getElem?_eq_some_iff.1 HX.out
          rw [List.take_succ_eq_append_getElem h7, h8]
        rw [e1, List.map_append]
        have e2 : xs ++ 40 :: (List.map lb (List.take m c) ++ List.map lb [x]) = (xs ++ 40 :: List.map lb (List.take m c)) ++ [lb x] := by simp
        rw [e2]
        exact ho
      case measure => simp [intOf]; omega
    · have HM : Hid (c.take m = c) := by rw [Hid]; exact List.take_of_length_le (by have := HN.out; omega)
      go_wp2_with (first
        | (at_builtin; refine wpList_append_own _ rfl _ _ 87 rfl B 5 i0 (.int .u8 0) 1 1 Tryz.underlying87 hi0 hz0 hz1 hz2 rfl (by decide) _ _ _ rfl (World.ownsRow.alloc hown _) ⟨wr.heap.size, 0, none⟩ 1 1 [.int .u8 41] rfl rfl (cell_one_new _ _ _) (fun u hu => by simp at hu; subst hu; rfl) (by unfold maxLen; omega) (by omega) (by simp; omega) ?_; intro v1 w1 hown1 hgrow1 _))
      go_ret
      obtain ⟨ho, hbb, hkk⟩ := BKit.Owns.grown (World.ownsRow.alloc hown _) (by simp; omega) (hb.alloc (by omega) _) (hk.alloc _) hown1 (m := [41]) (by simp; omega) (cells_snoc _ _ _ rfl) hgrow1
      refine ⟨_, rfl, ?_, hbb, hkk⟩
      rw [HM.out] at ho
      have e2 : xs ++ wr1 c = (xs ++ 40 :: List.map lb c) ++ [41] := by simp [wr1]
      rw [e2]
      exact ho

theorem wrAll_snoc (ls : List (List Nat)) (l : List Nat) : wrAll (ls ++ [l]) = if 1 < l.length then wrAll ls ++ wr1 l else wrAll ls := by
  unfold wrAll
  rw [List.filter_append, List.flatMap_append]
  by_cases h : 1 < l.length
  · simp [h]
  · simp [h]
theorem wr1_len (c : List Nat) : (wr1 c).length = c.length + 2 := by simp [wr1]
theorem wrAll_len : ∀ (ls : List (List Nat)), (∀ l ∈ ls, l.length ≤ 26) → (wrAll ls).length ≤ 28 * ls.length
  | [], _ => by simp [wrAll]
  | l :: ls, h => by
    have ih := wrAll_len ls (fun x hx => h x (by simp [hx]))
    have hl := h l (by simp)
    have : (wrAll (l :: ls)).length ≤ (wr1 l).length + (wrAll ls).length := by
      unfold wrAll
      by_cases h1 : 1 < l.length
      · simp [h1]
      · simp [h1]
    rw [wr1_len] at this
    simp
    omega
theorem cycs_lt {p : Nat → Nat} (hp : Pm.IsPerm p) : ∀ l ∈ Pm.cycs p 26, ∀ x ∈ l, x < 26 := fun l hl x hx => by
  obtain ⟨i, hi, rfl, _⟩ := Pm.mem_cycs p 26 l hl
  exact Pm.cyc_lt hp i hi x hx

set_option maxHeartbeats 2000000 in
theorem print_ok (p : Nat → Nat) (hp : Pm.IsPerm p) (w : World) :
    Calls Tryz.prog 157 #[.agg (ints 26 (Pm.up p))] w fun e w' => e = .returned (.tuple #[.string ⟨(wrAll (Pm.cycs p 26)).toArray⟩, .int .i64 0]) ∧ Below w.heap.size w w' := by
  have H0 : Hid (Pm.firstBad (fun _ => Pm.up p) 1 = 0) := one_okP p hp
  go_enter Tryz.func157, Tryz.ntmps157
  go_wp2_with (first
    | refine wpList_load_row rfl 27 _ rfl w.heap.size rfl 27 (ints 26 (Pm.up p)) (0, 0) _ (RowAt.new w _ _) Tryz.underlying27 rfl (by rw [ints_size]; exact info_perm) ?_
    | refine wpList_build1 rfl 200 27 _ rfl 26 (Pm.up p) rfl (by decide) Tryz.underlying200 zero_permP (by decide) ?_)
  refine (firstWrong_anyP (fun _ => Pm.up p) 1 (by decide) _ _ (by simp) (range_one (RowAt.newAt (by simp)))).mono ?_
  rintro e W1 ⟨rfl, hb0⟩
  obtain ⟨r1, hb1, hs1⟩ := after0 hb0
  clear hb0
  rw [H0.out]
  clear H0
  go_wp2_with (refine wpList_load_row rfl 27 _ rfl w.heap.size rfl 27 (ints 26 (Pm.up p)) (0, 0) _ r1 Tryz.underlying27 rfl (by rw [ints_size]; exact info_perm) ?_)
  refine (cycles_any p hp _).mono ?_
  rintro e W2 ⟨v, rfl, hall, hb2⟩
  have hs2 := hb2.size
  have hbw := hb1.trans (hb2.mono (by omega))
  have q1 := cycs_pos hp
  have q2 := Pm.cycs_len p 26
  have Q3 : Hid (∀ l ∈ Pm.cycs p 26, 0 < l.length ∧ l.length ≤ 26) := cycs_each hp
  have Q4 : Hid (∀ l ∈ Pm.cycs p 26, ∀ x ∈ l, x < 26) := cycs_lt hp
  obtain ⟨ls, hls⟩ : ∃ ls, ls = Pm.cycs p 26 := ⟨_, rfl⟩
  have HLS : Hid (∀ P : List (List Nat) → Prop, P ls → P (Pm.cycs p 26)) := fun P h => hls ▸ h
  rw [← hls] at hall q1 q2 Q3 Q4
  clear hls r1 hb1 hb2
  obtain ⟨vs, hv1, hv2⟩ := hall
  obtain ⟨g, cap, rfl⟩ := own_formP hv1 q1
  have hg := (World.ownsRow.lt hv1 g rfl).2
  have HVL : Hid (vs.length = ls.length) := by have := hv1.1; rw [Hid]; omega
  have HV1 : Hid (W2.ownsRow W1.heap.size 25 1 (.slice (some ⟨g, 0, none⟩) ls.length cap) ls.length vs) := hv1
  have HV2 : Hid (∀ (k : Nat) (u : Value) (l : List Nat), vs[k]? = some u → ls[k]? = some l → OwnsN W2 W1.heap.size u l) := hv2
  clear hv1 hv2
  obtain ⟨n, hn⟩ : ∃ n, n = ls.length := ⟨_, rfl⟩
  have HN : Hid (n = ls.length) := hn
  rw [← hn] at q1 q2 HV1 ⊢
  clear hn
  go_wp2
  go_loopw [5, 17] (fun v j W => ∃ k : Nat, k ≤ n ∧ j = .int .i64 k ∧ BKit.Owns W W2.heap.size 5 v (wrAll (ls.take k)) ∧ Below W2.heap.size W2 W) (fun _ j _ => (n - intOf j).toNat)
  case atStart => exact ⟨0, by omega, rfl, BKit.Owns.nil _ _ _, Below.refl _ _⟩
  case round =>
    obtain ⟨k, hk, rfl, hown, hb⟩ := hrel
    have hsz := hb.size
    have hwl := wrAll_len (ls.take k) (fun l hl => (Q3.out l (List.mem_of_mem_take hl)).2)
    have htk := List.length_take_le k ls
    by_cases hlt : k < n
    · obtain ⟨l, hl⟩ : ∃ l, ls[k]? = some l := ⟨ls[k]'(by rw [← HN.out]; exact hlt), List.getElem?_eq_getElem _⟩
      obtain ⟨u, hu⟩ : ∃ u, vs[k]? = some u := ⟨vs[k]'(by rw [HVL.out, ← HN.out]; exact hlt), List.getElem?_eq_getElem _⟩
      have hll := Q3.out l (List.mem_of_getElem? hl)
      have hlx := Q4.out l (List.mem_of_getElem? hl)
      have hou := HV2.out k u l hu hl
      have hou2 := own_below hou hb
      obtain ⟨g', cap', rfl⟩ := own_formP hou hll.1
      have hcu : wr.cell? ⟨g, k, none⟩ = some (.slice (some ⟨g', 0, none⟩) l.length cap') := by
        rw [hb.cell (p := ⟨g, k, none⟩) hg, World.ownsRow.cellAt HV1.out k (by omega)]
        exact hu
      have HS : Hid (wrAll (ls.take (k + 1)) = if 1 < l.length then wrAll (ls.take k) ++ wr1 l else wrAll (ls.take k)) := by
        have e1 : ls.take (k + 1) = ls.take k ++ [l] := by
          obtain ⟨h7, h8⟩ := List.getElem?_eq_some_iff.1 hl
          rw [List.take_succ_eq_append_getElem h7, h8]
        rw [Hid, e1, wrAll_snoc]
      have HAC := appendCycle_any W2.heap.size u5 (wrAll (ls.take k)) l hll.1 hll.2 hlx W1.heap.size (.slice (some ⟨g', 0, none⟩) l.length cap') wr hown hou2 hsz (by omega)
      have HA : Hid (Calls Tryz.prog 196 #[u5, .slice (some ⟨g', 0, none⟩) l.length cap'] wr fun e w' => ∃ v', e = .returned v' ∧ BKit.Owns w' W2.heap.size 5 v' (wrAll (ls.take k) ++ wr1 l) ∧ Below W2.heap.size wr w' ∧ Lib.OthersKept 5 none wr w') := HAC
      clear HAC hou hou2 hu hl hlx
      by_cases h1 : 1 < l.length
      · rw [if_pos h1] at HS
        go_wp2_with fail
        refine HA.out.mono ?_
        rintro e w3 ⟨v3, rfl, ho3, hb3, _⟩
        go_wp2
        go_roundw
        case rel => exact ⟨k + 1, by omega, by go_num, by rw [HS.out]; exact ho3, hb.trans hb3⟩
        case measure => simp [intOf]; omega
      · rw [if_neg h1] at HS
        go_wp2
        go_roundw
        case rel => exact ⟨k + 1, by omega, by go_num, by rw [HS.out]; exact hown, hb⟩
        case measure => simp [intOf]; omega
    · have HK : Hid (ls.take k = ls) := by rw [Hid]; exact List.take_of_length_le (by have := HN.out; omega)
      rw [HK.out] at hown
      have hcv := BKit.run_string_of_own (P := Tryz.prog) wr 87 9 5 Tryz.underlying87 Tryz.underlying5 Tryz.underlying9 hown
      go_wp2
      go_ret2
      exact ⟨HLS.out (fun l => Ending.returned (.tuple #[.string ⟨(wrAll ls).toArray⟩, .int .i64 0]) = .returned (.tuple #[.string ⟨(wrAll l).toArray⟩, .int .i64 0])) rfl, hbw.trans (hb.mono (by omega))⟩
end Go.Proofs.YtkohhdkkbaifoaaGreatDoor

/-
  For script.Print: a machine in words: what is held.
-/
namespace Go.Proofs.YtkohhdkkbaifoaaGreatDoor
open Go.RowKit PK Vg

/-- What is wrong with the names of a machine's wheels. -/
def wnE (g : Gm) : Int := firV (fun i => if whF (g.wi i) (g.nl i) (g.no i) = none then 7 else 0) g.n
/-- The names of wheels. -/
def wnm (g : Gm) (i : Nat) : ByteArray := whN ((whF (g.wi i) (g.nl i) (g.no i)).getD 0)
/-- The names so far, in a row of n. -/
def wnC (g : Gm) (m : Nat) : Nat → Value := fillV (fun i => .string (wnm g i)) (.string ⟨#[]⟩) m
theorem wheels_cell {W : World} {v : Value} {n : Nat} {wi : Nat → Nat → Int} {nl : Nat → Nat} {no : Nat → Nat → Int} (h : WheelsAt W v n wi nl no) {r : Nat} (hr : r < n) : ∃ b o cap R, v = .slice (some ⟨b, o, none⟩) n cap ∧ W.rangeAt b (o + r * 27) (whl (wi r) R).toList ∧ NumsAt W R (nl r) (no r) := by
  obtain ⟨a, cap, R, rfl, _, h1, h2⟩ := h
  obtain ⟨b, o, rfl, hc⟩ := h1 r hr
  exact ⟨b, o, cap, R r, rfl, hc, h2 r hr⟩
/-- What keeps a machine from being written; its words. -/
def mcE (g : Gm) : Int := if wnE g ≠ 0 then 7 else if mrF g.rf = none then 7 else 0
def plS (g : Gm) : List UInt8 := wrAll (Pm.cycs (fun c => (g.pl c).toNat) 26)
def mcN (g : Gm) : List ByteArray := (List.range g.n).map (wnm g)
def mc4 (g : Gm) : List ByteArray := [⟨(Lib.join ((mcN g).map (·.data.toList)) [44]).toArray⟩, mrN ((mrF g.rf).getD 0), ⟨(sptL g.rl g.ri).toArray⟩, ⟨(sptL g.sl g.st).toArray⟩]
def mcW (g : Gm) : List ByteArray := mc4 g ++ (if plS g = [] then [] else [⟨(plS g).toArray⟩])
theorem wnE_zero {g : Gm} (h : ∀ j, j < g.n → whF (g.wi j) (g.nl j) (g.no j) ≠ none) : wnE g = 0 := by
  unfold wnE
  exact firV_all fun i hi => if_neg (h i hi)
theorem pl_print {g : Gm} (hg : gE g = 0) (w : World) : Calls Tryz.prog 157 #[.agg (ints 26 g.pl)] w fun e w' => e = .returned (.tuple #[.string ⟨(plS g).toArray⟩, .int .i64 0]) ∧ Below w.heap.size w w' := by
  obtain ⟨_, _, _, _, _, h10, _⟩ := gE_zero hg
  obtain ⟨hpl, epl⟩ := perm_toNat h10
  have h := print_ok _ hpl w
  rw [ints_ext (f := g.pl) (g := Pm.up fun c => (g.pl c).toNat) (fun i hi => epl i hi)]
  exact h
theorem whN_len (i : Nat) : (whN i).data.toList.length ≤ 3 := by
  match i with
  | 0 => decide
  | 1 => decide
  | 2 => decide
  | 3 => decide
  | 4 => decide
  | _ + 5 => exact Nat.zero_le _
theorem lens_le {xs : List (List UInt8)} {k : Nat} (h : ∀ x ∈ xs, x.length ≤ k) : Lib.lens xs ≤ k * xs.length := by
  induction xs with
  | nil => simp [Lib.lens]
  | cons x r ih =>
    have h1 := h x (by simp)
    have h2 := ih (fun y hy => h y (by simp [hy]))
    have e : Lib.lens (x :: r) = x.length + Lib.lens r := by simp [Lib.lens]
    rw [e, List.length_cons, Nat.mul_succ]
    omega
theorem join17_len (xs : List (List UInt8)) (sep : List UInt8) {k : Nat} (h : ∀ x ∈ xs, x.length ≤ k) : (Lib.join xs sep).length ≤ (k + sep.length) * xs.length := by
  cases xs with
  | nil => simp [Lib.join]
  | cons x r =>
    have e : Lib.join (x :: r) sep = x ++ Lib.joinTail sep r := Lib.join_cons x r sep
    rw [e, List.length_append, Lib.joinTail_length, List.length_cons]
    have h1 := h x (by simp)
    have h2 := lens_le (xs := r) (k := k) (fun y hy => h y (by simp [hy]))
    have h3 : (k + sep.length) * (r.length + 1) = k * r.length + sep.length * r.length + (k + sep.length) := by rw [Nat.mul_succ, Nat.add_mul]
    omega
theorem mcN_len (g : Gm) : (mcN g).length = g.n := by simp [mcN]
theorem mcN_join (g : Gm) (hn : g.n ≤ 4) : (Lib.join ((mcN g).map (·.data.toList)) [44]).length ≤ 16 := by
  have h := join17_len ((mcN g).map (·.data.toList)) [44] (k := 3) (fun x hx => by
    obtain ⟨y, hy, rfl⟩ := List.mem_map.1 hx
    obtain ⟨i, _, rfl⟩ := List.mem_map.1 hy
    exact whN_len _)
  rw [List.length_map, mcN_len] at h
  have : (3 + [44].length) * g.n ≤ 16 := by show 4 * g.n ≤ 16; omega
  exact Nat.le_trans h this
end Go.Proofs.YtkohhdkkbaifoaaGreatDoor
