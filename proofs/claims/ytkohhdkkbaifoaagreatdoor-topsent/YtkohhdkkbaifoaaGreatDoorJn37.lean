/-
  Several texts, joined: LtUn, LtSc, LTse.
-/
import Derived.Test.YtkohhdkkbaifoaaGreatDoorJn36
import Derived.Test.YtkohhdkkbaifoaaGreatDoorJn1
import Derived.Test.YtkohhdkkbaifoaaGreatDoorJn35
/-
  The contract of letters.Ungroup.
-/
namespace Go.Proofs.YtkohhdkkbaifoaaGreatDoor
open Go.RowKit

set_option maxRecDepth 100000 in
set_option maxHeartbeats 400000 in
theorem ungroup_much (s : ByteArray) (w : World) (h : 131072 < s.size) :
    Calls Tryz.prog 24 #[.string s] w fun e w' => e = .returned (.tuple #[.string ⟨#[]⟩, .agg #[.int .i64 4, .int .i64 0]]) ∧ Below w.heap.size w w' := by
  go_enter Tryz.func24, Tryz.ntmps24
  go_wp2
  exact bodyPost_ret (v := .tuple #[.string ⟨#[]⟩, .agg #[.int .i64 4, .int .i64 0]]) (by simp [results, Tryz.results24, go_sem]) rfl ⟨rfl, (Below.refl _ _).alloc (Nat.le_refl _) _⟩

def ungV (l : List UInt8) : Value := .tuple #[.string ⟨(Pl.ungS l).toArray⟩, .agg #[.int .i64 (Pl.ungE l), .int .i64 (Pl.ungAt l)]]

set_option maxRecDepth 100000 in
set_option maxHeartbeats 2000000 in
theorem ungroup_ok (s : ByteArray) (w : World) (h : s.size ≤ 131072) :
    Calls Tryz.prog 24 #[.string s] w fun e w' => e = .returned (ungV s.data.toList) ∧ Below w.heap.size w w' := by
  obtain ⟨i0, hi, hz0, hz1, hz2⟩ := info_parts lt_info5
  have hb : decide (131072 < (s.size : Int)) = false := by simp; omega
  have HL : Hid (s.size = s.data.toList.length) := Pl.size_len s
  go_enter Tryz.func24, Tryz.ntmps24
  go_wp2_with (first
    | (at_make; refine wpList_make_own _ rfl _ _ 87 rfl (w.heap.size + 1) 5 i0 (.int .u8 0) 1 Tryz.underlying87 hi hz0 hz1 _ _ _ s.size rfl rfl rfl (by rw [hz2]; omega) (by unfold maxLen; omega) (by simp) ?_; intro w1 hown1 hgrow1))
  have hown0 : Kit.Owns w1 (w.heap.size + 1) 5 (.slice (some ⟨w.heap.size + 1, 0, none⟩) 0 s.size) [] := by simpa [Kit.Owns, Lib.byteCells] using hown1
  have hbel0 : Below (w.heap.size + 1) (w.alloc (Obj.cells #[Value.int IntKind.i64 0, Value.int IntKind.i64 0] 35)) w1 := (Below.refl _ _).grown hgrow1 (by simp) (fun k hk => by cases hk)
  clear hown1 hgrow1
  go_loopw [4, 16] (fun v i wr => ∃ k : Nat, k ≤ s.size ∧ i = .int .i64 k ∧ Kit.Owns wr (w.heap.size + 1) 5 v ((s.data.toList.take k).filter Pl.isLb) ∧ Below (w.heap.size + 1) (w.alloc (Obj.cells #[Value.int IntKind.i64 0, Value.int IntKind.i64 0] 35)) wr ∧ Hid (∀ j (_ : j < k) (hj : j < s.data.toList.length), Pl.badU s.data.toList[j] = false))
    (fun _ i _ => s.size - (intOf i).toNat)
  case atStart => exact ⟨0, Nat.zero_le _, rfl, hown0, hbel0, fun j hj => by omega⟩
  case round =>
    obtain ⟨k, hk, rfl, hown, hbel, HA⟩ := hrel
    clear hown0 hbel0
    obtain ⟨c0, c1, f0, f1, hsz⟩ := Kit.two_cells hbel
    by_cases hlt : k < s.size
    · have hk' : k < s.data.toList.length := by have := HL.out; omega
      have hle : ((s.data.toList.take k).filter Pl.isLb).length ≤ k := Nat.le_trans (List.length_filter_le _ _) (List.length_take_le _ _)
      have HF : Hid ((s.data.toList.take (k + 1)).filter Pl.isLb = (s.data.toList.take k).filter Pl.isLb ++ (if Pl.isL (s[k].toNat : Int) = true then [s[k]] else [])) := Pl.filter_snoc _ k hk'
      have HB : Hid (∀ x, Pl.badU s[k] = x → (x = false → ∀ j (_ : j < k + 1) (hj : j < s.data.toList.length), Pl.badU s.data.toList[j] = false) ∧ (x = true → s.data.toList.findIdx? Pl.badU = some k)) := by
        intro x hx
        refine ⟨?_, ?_⟩
        · rintro rfl j hj hj'
          rcases Nat.lt_or_ge j k with h1 | h1
          · exact HA.out j h1 hj'
          · have : j = k := by omega
            subst this
            exact hx
        · rintro rfl
          exact Pl.find_at _ _ k hk' HA.out hx
      have hkB : w.heap.size + 1 ≤ wr.heap.size := by omega
      cases hl : Pl.isL (s[k].toNat : Int)
      · have HF' : Hid ((s.data.toList.take (k + 1)).filter Pl.isLb = (s.data.toList.take k).filter Pl.isLb) := by
          show _ = _
          rw [HF.out, hl]
          simp
        by_cases hg : s[k].toNat = 32
        · have HX : Hid _ := (HB.out false (by simp [Pl.badU, Pl.isLb, Pl.gapB, hg])).1 rfl
          have hq : ((s[k].toNat : Int) != 32) = false := by simp [hg]
          clear HA HB hg hi hz0 hz1 hz2 HF
          go_wp2_with (go_at_call 61; refine (isLetter_any _ _).mono ?_; rintro e w' ⟨rfl, rfl⟩)
          exact ⟨⟨k + 1, by omega, by go_num, by rw [HF'.out]; exact hown, hbel, HX⟩, by simp [intOf]; omega⟩
        · have hq : ((s[k].toNat : Int) != 32) = true := by simp; omega
          by_cases hg2 : s[k].toNat = 10
          · have HX : Hid _ := (HB.out false (by simp [Pl.badU, Pl.isLb, Pl.gapB, hg2])).1 rfl
            have hq2 : ((s[k].toNat : Int) != 10) = false := by simp [hg2]
            clear HA HB hg hg2 hi hz0 hz1 hz2 HF
            go_wp2_with (go_at_call 61; refine (isLetter_any _ _).mono ?_; rintro e w' ⟨rfl, rfl⟩)
            exact ⟨⟨k + 1, by omega, by go_num, by rw [HF'.out]; exact hown, hbel, HX⟩, by simp [intOf]; omega⟩
          · have HX : Hid _ := (HB.out true (by simp [Pl.badU, Pl.isLb, Pl.gapB, hl, hg, hg2])).2 rfl
            have hq2 : ((s[k].toNat : Int) != 10) = true := by simp; omega
            have q := Kit.read_two (.int .i64 2) (.int .i64 k) c0 c1
            have hbf := Kit.below_two hbel (.int .i64 2) (.int .i64 k)
            clear HA HB hg hg2 hi hz0 hz1 hz2 HF HF'
            go_wp2_with (go_at_call 61; refine (isLetter_any _ _).mono ?_; rintro e w' ⟨rfl, rfl⟩)
            refine bodyPost_ret (v := .tuple #[.string ⟨#[]⟩, .agg #[.int .i64 2, .int .i64 k]]) (by simp [results, Tryz.results24, go_sem, q.1, q.2]) rfl ⟨?_, hbf⟩
            have := Pl.ung_bad _ _ HX.out
            unfold ungV
            rw [this.1, this.2.1, this.2.2]
      · have HF' : Hid ((s.data.toList.take (k + 1)).filter Pl.isLb = (s.data.toList.take k).filter Pl.isLb ++ [s[k]]) := by
          show _ = _
          rw [HF.out, hl]
          simp
        have HX : Hid _ := (HB.out false (by simp [Pl.badU, Pl.isLb, hl])).1 rfl
        clear HA HB HF
        generalize (s.data.toList.take k).filter Pl.isLb = acc at hown hle HF'
        go_wp2_with (first
          | (go_at_call 61; refine (isLetter_any _ _).mono ?_; rintro e w' ⟨rfl, rfl⟩)
          | (at_builtin; refine wpList_append_own _ rfl _ _ 87 rfl (w.heap.size + 1) 5 i0 (.int .u8 0) 1 1 Tryz.underlying87 hi hz0 hz1 hz2 rfl (by decide) _ _ _ rfl (World.ownsRow.alloc hown _) ⟨wr.heap.size, 0, none⟩ 1 1 [.int .u8 (s[k].toNat : Int)] rfl rfl (cell_one_new _ _ _) (fun u hu => by simp at hu; subst hu; rfl) (by unfold maxLen; omega) (by omega) (by simp; omega) ?_; intro v' w2 hown' hgrow _))
        have G := Kit.Owns.grownB (w := w.alloc (Obj.cells #[Value.int IntKind.i64 0, Value.int IntKind.i64 0] 35)) (m := [s[k]]) (World.ownsRow.alloc hown _) (by simp; omega) (hbel.alloc hkB _) hown' (by simp) (by simp [Lib.byteCells]) hgrow
        exact ⟨⟨k + 1, by omega, by go_num, by rw [HF'.out]; exact G.1, G.2, HX⟩, by simp [intOf]; omega⟩
    · have hlen := Kit.run_len_own (P := Tryz.prog) wr 87 3 5 Tryz.underlying87 hown
      have hstr := Kit.run_string_of_own (P := Tryz.prog) wr 87 9 5 Tryz.underlying87 Tryz.underlying5 Tryz.underlying9 hown
      have hN : s.data.toList.findIdx? Pl.badU = none := Pl.find_all _ _ fun j hj => HA.out j (by have := HL.out; omega) hj
      have hT : s.data.toList.take k = s.data.toList := List.take_of_length_le (by have := HL.out; omega)
      rw [hT] at hlen hstr
      have HC : Hid _ := Pl.ung_long _ hN
      have HD : Hid _ := Pl.ung_fit _ hN
      clear hN hT hown HA
      generalize hF : (s.data.toList.filter Pl.isLb) = F at hlen hstr HC HD
      clear hF
      by_cases h6 : 65536 < F.length
      · have q := Kit.read_two (.int .i64 4) (.int .i64 0) c0 c1
        have hbf := Kit.below_two hbel (.int .i64 4) (.int .i64 0)
        go_wp2
        refine bodyPost_ret (v := .tuple #[.string ⟨#[]⟩, .agg #[.int .i64 4, .int .i64 0]]) (by simp [results, Tryz.results24, go_sem, q.1, q.2]) rfl ⟨?_, hbf⟩
        have := HC.out h6
        unfold ungV
        rw [this.1, this.2.1, this.2.2]
      · have q := Kit.read_two (.int .i64 0) (.int .i64 0) c0 c1
        have hbf := Kit.below_two hbel (.int .i64 0) (.int .i64 0)
        go_wp2
        refine bodyPost_ret (v := .tuple #[.string ⟨F.toArray⟩, .agg #[.int .i64 0, .int .i64 0]]) (by simp [results, Tryz.results24, go_sem, q.1, q.2]) rfl ⟨?_, hbf⟩
        have := HD.out h6
        unfold ungV
        rw [this.1, this.2.1, this.2.2]
end Go.Proofs.YtkohhdkkbaifoaaGreatDoor

/-
  The plain mathematics of what Group writes, read again.
-/
namespace Go.Proofs.YtkohhdkkbaifoaaGreatDoor.Pl

/-! ### What is grouped, read again -/
def step (st : Int × Int) (c : UInt8) : Int × Int := if c.toNat = 10 then (1, 0) else if c.toNat = 32 then (st.1 + 1, 0) else (st.1, st.2 + 1)
def scan (l : List UInt8) : Int × Int := l.foldl step (1, 0)
theorem scan_snoc (l : List UInt8) (c : UInt8) : scan (l ++ [c]) = step (scan l) c := by simp [scan]
/-- Behind k letters: the last one's place. -/
def Inv (L W : Int) (k : Nat) (st : Int × Int) : Prop :=
  (k = 0 ∧ st = (1, 0)) ∨ ∃ q r a b : Int, 0 < k ∧ (k : Int) = L * q + r + 1 ∧ 0 ≤ r ∧ r < L ∧ q = W * a + b ∧ 0 ≤ b ∧ b < W ∧ st = (b + 1, r + 1)
def Fine (L W : Int) (st : Int × Int) : Prop := st.1 ≤ W ∧ st.2 ≤ L
theorem step_letter (st : Int × Int) (c : UInt8) (h : isL c.toNat = true) : step st c = (st.1, st.2 + 1) := by
  have := of_decide_eq_true (show decide _ = true from h)
  unfold step
  rw [if_neg (by omega), if_neg (by omega)]
theorem inv_step (L W : Int) (hL : 1 ≤ L) (hW : 1 ≤ W) (k : Nat) (X : List UInt8) (c : UInt8) (hc : isL c.toNat = true) (h : Inv L W k (scan X)) :
    Inv L W (k + 1) (scan (X ++ gapL L W k ++ [c])) ∧ Fine L W (scan (X ++ gapL L W k)) ∧ Fine L W (scan (X ++ gapL L W k ++ [c])) := by
  rw [scan_snoc, step_letter _ c hc]
  rcases h with ⟨rfl, hst⟩ | ⟨q, r, a, b, hk0, hk, hr0, hrL, hq, hb0, hbW, hst⟩
  · rw [gapL_no L W 0 (by omega), List.append_nil, hst]
    refine ⟨.inr ⟨0, 0, 0, 0, by omega, by simp, by omega, by omega, by simp, by omega, by omega, by simp⟩, ⟨hW, by simp; omega⟩, ⟨hW, by simp; omega⟩⟩
  · have hmul : L * (q + 1) = L * q + L := by rw [Int.mul_add, Int.mul_one]
    have hmulW : W * (a + 1) = W * a + W := by rw [Int.mul_add, Int.mul_one]
    by_cases hr : r + 1 = L
    · have hkk : (k : Int) = L * (q + 1) := by omega
      have hmod : (k : Int) % L = 0 := by rw [hkk]; exact Int.mul_emod_right _ _
      have hdiv : (k : Int) / L = q + 1 := by rw [hkk]; exact Int.mul_ediv_cancel_left _ (by omega)
      by_cases hb : b + 1 = W
      · have hg : gapL L W k = [10] := by
          unfold gapL
          rw [if_pos ⟨hk0, hmod⟩, hdiv, if_pos]
          rw [show q + 1 = W * (a + 1) by omega]
          exact Int.mul_emod_right _ _
        rw [hg, scan_snoc]
        have hs : step (scan X) 10 = (1, 0) := rfl
        rw [hs]
        refine ⟨.inr ⟨q + 1, 0, a + 1, 0, by omega, by simp only [Int.natCast_add]; omega, by omega, by omega, by omega, by omega, by omega, by simp⟩, ⟨hW, by simp; omega⟩, ⟨hW, by simp; omega⟩⟩
      · have hg : gapL L W k = [32] := by
          unfold gapL
          rw [if_pos ⟨hk0, hmod⟩, hdiv, if_neg]
          rw [show q + 1 = (b + 1) + W * a by omega, Int.add_mul_emod_self_left, Int.emod_eq_of_lt (by omega) (by omega)]
          omega
        rw [hg, scan_snoc, hst]
        have hs : step (b + 1, r + 1) 32 = (b + 1 + 1, 0) := rfl
        rw [hs]
        refine ⟨.inr ⟨q + 1, 0, a, b + 1, by omega, by simp only [Int.natCast_add]; omega, by omega, by omega, by omega, by omega, by omega, by simp⟩, ⟨by simp; omega, by simp; omega⟩, ⟨by simp; omega, by simp; omega⟩⟩
    · have hmod : ¬ (k : Int) % L = 0 := by
        rw [show (k : Int) = (r + 1) + L * q by omega, Int.add_mul_emod_self_left, Int.emod_eq_of_lt (by omega) (by omega)]
        omega
      rw [gapL_no L W k (fun h => hmod h.2), List.append_nil, hst]
      refine ⟨.inr ⟨q, r + 1, a, b, by omega, by simp only [Int.natCast_add]; omega, by omega, by omega, by omega, by omega, by omega, rfl⟩, ⟨by simp; omega, by simp; omega⟩, ⟨by simp; omega, by simp; omega⟩⟩
theorem at_letter (l : List UInt8) (h : Lets l) (k : Nat) (hk : k < l.length) : isL (l.getD k 0).toNat = true := by
  rw [List.getD, List.getElem?_eq_getElem hk]
  exact h _ (List.getElem_mem hk)
theorem grp_inv (L W : Int) (hL : 1 ≤ L) (hW : 1 ≤ W) (l : List UInt8) (h : Lets l) : ∀ k, k ≤ l.length → Inv L W k (scan (grp L W l k))
  | 0, _ => .inl ⟨rfl, rfl⟩
  | k + 1, hk => (inv_step L W hL hW k _ _ (at_letter l h k hk) (grp_inv L W hL hW l h k (by omega))).1
/-! ### .. and ungrouped -/
theorem gapL_gap (L W : Int) (i : Nat) : ∀ c ∈ gapL L W i, isLb c = false ∧ gapB c = true := by
  intro c hc
  unfold gapL at hc
  split at hc
  · split at hc
    · simp at hc
      subst hc
      decide
    · simp at hc
      subst hc
      decide
  · simp at hc
theorem grp_ok (L W : Int) (l : List UInt8) (h : Lets l) : ∀ k, k ≤ l.length → ∀ c ∈ grp L W l k, badU c = false
  | 0, _, c, hc => by simp [grp] at hc
  | k + 1, hk, c, hc => by
    simp only [grp, List.mem_append, List.mem_singleton] at hc
    rcases hc with (hc | hc) | hc
    · exact grp_ok L W l h k (by omega) c hc
    · have := gapL_gap L W k c hc
      simp [badU, this.1, this.2]
    · subst hc
      have hb : isLb (l.getD k 0) = true := at_letter l h k hk
      unfold badU
      rw [hb]
      rfl
theorem grp_filter (L W : Int) (l : List UInt8) (h : Lets l) : ∀ k, k ≤ l.length → (grp L W l k).filter isLb = l.take k
  | 0, _ => by simp [grp]
  | k + 1, hk => by
    have hg : (gapL L W k).filter isLb = [] := by
      rw [List.filter_eq_nil_iff]
      intro c hc
      simp [(gapL_gap L W k c hc).1]
    have hl : isLb (l.getD k 0) = true := at_letter l h k hk
    rw [grp, List.filter_append, List.filter_append, hg, grp_filter L W l h k (by omega), List.append_nil, take_snoc l k hk]
    congr 1
    rw [List.filter_cons_of_pos hl, List.filter_nil, List.getD, List.getElem?_eq_getElem hk]
    rfl
theorem grp_ungroup (L W : Int) (l : List UInt8) (h : Lets l) (hl : l.length ≤ 65536) : ungE (grp L W l l.length) = 0 ∧ ungAt (grp L W l l.length) = 0 ∧ ungS (grp L W l l.length) = l := by
  have h1 : (grp L W l l.length).findIdx? badU = none := by
    rw [List.findIdx?_eq_none_iff]
    exact grp_ok L W l h l.length (Nat.le_refl _)
  have h2 := grp_filter L W l h l.length (Nat.le_refl _)
  rw [List.take_length] at h2
  have := ung_fit _ h1 (by rw [h2]; omega)
  rw [h2] at this
  exact this
end Go.Proofs.YtkohhdkkbaifoaaGreatDoor.Pl

/-
  TopSent, walked.
-/
namespace Go.Proofs.YtkohhdkkbaifoaaGreatDoor
open Go.RowKit PK Vg

set_option maxRecDepth 100000 in
set_option maxHeartbeats 4000000 in
theorem tse_any (x ch : ByteArray) (L Wd : Int) (w : World) (hn : NmAt w) (he : ErAt w) (hL2 : L ≤ 9223372036854775807) (hW2 : Wd ≤ 9223372036854775807) : Calls Tryz.prog 6 #[.string x, .string ch, .int .i64 L, .int .i64 Wd] w fun e w' => e = .returned (.bool true) ∧ Below w.heap.size w w' := by
  have HA : Hid _ := alivetop_any w hn he
  have HG : Hid (NmAt w ∧ ErAt w) := ⟨hn, he⟩
  have HLW : Hid (L ≤ 9223372036854775807 ∧ Wd ≤ 9223372036854775807) := ⟨hL2, hW2⟩
  clear hn he hL2 hW2
  go_enter Tryz.func6, Tryz.ntmps6
  go_wp2_with fail
  refine Calls.mono HA.out ?_
  rintro e W0 ⟨rfl, hb0⟩
  have HR : Hid _ := read17_any ch W0 (HG.out.1.below hb0) (HG.out.2.below hb0)
  have HB0 : Hid (Below w.heap.size w W0) := hb0
  clear hb0 HA HG
  go_wp2_with fail
  refine Calls.mono HR.out ?_
  rintro e V1 ⟨hrd, hb1⟩
  have hb01 := HB0.out.trans (hb1.mono HB0.out.size)
  obtain ⟨a, n, cap, l, E, A, hch, rfl⟩ : ∃ a n cap l E A, ChAt V1 (.slice a n cap) n l ∧ e = .returned (.tuple #[.slice a n cap, fltV E A]) := by
    rcases hRR : rRead ch.data.toList with ⟨E, A⟩ | ⟨L, p⟩
    · rw [hRR] at hrd
      exact ⟨none, 0, 0, fun _ => sp0 0 0, E, A, ⟨none, 0, fun _ => #[], rfl, Nat.zero_le _, fun r hr => by omega, fun r hr => by omega⟩, hrd⟩
    · rw [hRR] at hrd
      obtain ⟨v, hv, hch⟩ := hrd
      obtain ⟨a, cap, R, rfl, h1, h2, h3⟩ := hch
      exact ⟨a, L.length, cap, spD L, 0, 0, ⟨a, cap, R, rfl, h1, h2, h3⟩, hv⟩
  clear HR hb1 HB0 hrd
  obtain ⟨X1, hX1⟩ : ∃ X1, X1 = V1.alloc (.cells #[.int .i64 E, .int .i64 A] 35) := ⟨_, rfl⟩
  have hx1 : Below V1.heap.size V1 X1 := by rw [hX1]; exact (Below.refl _ V1).alloc (Nat.le_refl _) _
  have hf1 : RowAt X1 V1.heap.size 35 #[.int .i64 E, .int .i64 A] := by rw [hX1]; exact RowAt.new V1 _ _
  have HB : Hid (Below w.heap.size w X1) := hb01.trans (hx1.mono hb01.size)
  have HVX : Hid (Below V1.heap.size V1 X1) := hx1
  have HF : Hid _ := hf1
  have HLO : Hid (w.heap.size ≤ V1.heap.size) := hb01.size
  have HCH : Hid (ChAt V1 (.slice a n cap) n l) := hch
  have c0 := RowAt.cell hf1 (i := 0) rfl
  clear hx1 hf1 hb01 hch
  unfold fltV
  go_upto_region 4 with fail
  rw [← hX1]
  clear hX1
  by_cases hE : E = 0
  · subst hE
    by_cases hsz : 65536 < x.size
    · have HFO : Hid _ := fold_much x X1 hsz
      clear hsz
      go_wp2_with fail
      refine Calls.mono HFO.out ?_
      rintro e V2 ⟨rfl, rfl⟩
      go_wp2
      go_ret
      exact ⟨rfl, HB.out⟩
    have HFO : Hid _ := fold_ok x X1 (by omega)
    clear hsz
    generalize Pl.fold x.data.toList = t at *
    go_wp2_with fail
    refine Calls.mono HFO.out ?_
    rintro e V2 ⟨rfl, hb⟩
    have hv2 := HVX.out.trans (hb.mono HVX.out.size)
    have HRN : Hid _ := run_any _ n l ⟨t.toArray⟩ V2 (HCH.out.below hv2)
    change Hid (Calls Tryz.prog 11 _ _ fun e w' => e = .returned (.tuple #[.string ⟨(rS n l t).toArray⟩, fltV (rE n l t) (rA n l t)]) ∧ _) at HRN
    have hf2 := RowAt.below HF.out hb (RowAt.lt HF.out)
    have hb2 := HB.out.trans (hb.mono HB.out.size)
    clear HF HB HVX hb HFO c0
    have HF : Hid _ := hf2
    have HB : Hid (Below w.heap.size w V2) := hb2
    have HVX : Hid (Below V1.heap.size V1 V2) := hv2
    clear hf2 hb2 hv2
    go_wp2_with fail
    refine Calls.mono HRN.out ?_
    rintro e V3 ⟨rfl, hb⟩
    clear HRN
    unfold fltV
    by_cases hE : rE n l t = 0
    · obtain ⟨hU, hU2, -⟩ := cat_facts (k := 0) (m := l) w hE
      obtain ⟨hch0, hct, -⟩ := rE_zero hE
      have hrs : rS n l t = runT l t n := by unfold rS; rw [if_pos hE]
      obtain ⟨hcS, hlS⟩ := runT_right w (chE_zero hch0).2 hct n (Nat.le_refl _)
      rw [← hrs] at hcS hlS
      obtain ⟨hLs, hnS⟩ := ls_ck hcS
      rw [hE]
      have HU2 : Hid _ := hU2
      clear hU2 hE hch0 hct hrs hcS hlS
      generalize rS n l t = S at *
      generalize rA n l t = A1 at *
      have hSs : (⟨S.toArray⟩ : ByteArray).size = S.length := Pl.size_len _
      have HSL : Hid (S.length ≤ 65536) := hnS
      have HSS : Hid ((⟨S.toArray⟩ : ByteArray).size = S.length) := hSs
      have HLT : Hid (Pl.Lets S) := lets_ls hLs
      clear hSs hnS hLs
      have hs2 := RowAt.below HF.out hb (RowAt.lt HF.out)
      have hb2 := HB.out.trans (hb.mono HB.out.size)
      obtain ⟨X3, hX⟩ : ∃ X3, X3 = (V3.setCell ⟨V1.heap.size, 0, none⟩ (.int .i64 0)).setCell ⟨V1.heap.size, 1, none⟩ (.int .i64 ((A1 : Int))) := ⟨_, rfl⟩
      have hf2 : RowAt X3 V1.heap.size 35 #[.int .i64 0, .int .i64 ((A1 : Int))] := by rw [hX]; exact (RowAt.set hs2 0 _).set 1 _
      have hbx : Below w.heap.size w X3 := by rw [hX]; exact (hb2.setCell (p := ⟨V1.heap.size, 0, none⟩) HLO.out _).setCell (p := ⟨V1.heap.size, 1, none⟩) HLO.out _
      have hvx : Below V1.heap.size V1 X3 := by rw [hX]; exact ((HVX.out.trans (hb.mono HVX.out.size)).setCell (p := ⟨V1.heap.size, 0, none⟩) (Nat.le_refl _) _).setCell (p := ⟨V1.heap.size, 1, none⟩) (Nat.le_refl _) _
      have k0 := RowAt.cell hs2 (i := 0) rfl
      have k1 := RowAt.cell hs2 (i := 1) rfl
      have kf0 := RowAt.frozen hs2 0
      have kf1 := RowAt.frozen hs2 1
      have c0 := RowAt.cell hf2 (i := 0) rfl
      clear HF HB HVX hs2 hb2 hb
      have HF : Hid _ := hf2
      have HB : Hid (Below w.heap.size w X3) := hbx
      have HVX : Hid (Below V1.heap.size V1 X3) := hvx
      clear hf2 hbx hvx
      go_upto_region 10 with fail
      rw [← hX]
      clear hX k0 k1 kf0 kf1
      by_cases hLW : L < 1 ∨ Wd < 1
      · have HGR : Hid _ := group_range ⟨S.toArray⟩ L Wd X3 (by rw [HSS.out]; exact HSL.out) HLT.out hLW
        clear hLW
        go_wp2_with fail
        refine Calls.mono HGR.out ?_
        rintro e V4 ⟨rfl, hb⟩
        clear HGR c0
        have hs2 := RowAt.below HF.out hb (RowAt.lt HF.out)
        have hb2 := HB.out.trans (hb.mono HB.out.size)
        obtain ⟨X4, hX⟩ : ∃ X4, X4 = (V4.setCell ⟨V1.heap.size, 0, none⟩ (.int .i64 3)).setCell ⟨V1.heap.size, 1, none⟩ (.int .i64 (0)) := ⟨_, rfl⟩
        have hf2 : RowAt X4 V1.heap.size 35 #[.int .i64 3, .int .i64 (0)] := by rw [hX]; exact (RowAt.set hs2 0 _).set 1 _
        have hbx : Below w.heap.size w X4 := by rw [hX]; exact (hb2.setCell (p := ⟨V1.heap.size, 0, none⟩) HLO.out _).setCell (p := ⟨V1.heap.size, 1, none⟩) HLO.out _
        have hvx : Below V1.heap.size V1 X4 := by rw [hX]; exact ((HVX.out.trans (hb.mono HVX.out.size)).setCell (p := ⟨V1.heap.size, 0, none⟩) (Nat.le_refl _) _).setCell (p := ⟨V1.heap.size, 1, none⟩) (Nat.le_refl _) _
        have k0 := RowAt.cell hs2 (i := 0) rfl
        have k1 := RowAt.cell hs2 (i := 1) rfl
        have kf0 := RowAt.frozen hs2 0
        have kf1 := RowAt.frozen hs2 1
        have c0 := RowAt.cell hf2 (i := 0) rfl
        clear HF HB HVX hs2 hb2 hb
        have HF : Hid _ := hf2
        have HB : Hid (Below w.heap.size w X4) := hbx
        have HVX : Hid (Below V1.heap.size V1 X4) := hvx
        clear hf2 hbx hvx
        go_upto_region 13 with fail
        rw [← hX]
        clear hX k0 k1 kf0 kf1
        go_wp2
        go_ret
        exact ⟨rfl, HB.out⟩
      have HGR : Hid _ := group_ok ⟨S.toArray⟩ L Wd X3 (by rw [HSS.out]; exact HSL.out) HLT.out (by omega) (by omega) HLW.out.1 HLW.out.2
      rw [HSS.out] at HGR
      change Hid (Calls Tryz.prog 23 _ _ fun e w' => e = .returned (.tuple #[.string ⟨(Pl.grp L Wd S S.length).toArray⟩, .agg #[.int .i64 0, .int .i64 0]]) ∧ _) at HGR
      have HUG : Hid (∀ W, Calls Tryz.prog 24 #[.string ⟨(Pl.grp L Wd S S.length).toArray⟩] W fun e w' => e = .returned (.tuple #[.string ⟨S.toArray⟩, .agg #[.int .i64 0, .int .i64 0]]) ∧ Below W.heap.size W w') := fun W => by
        have h1 := Pl.grp_le L Wd S S.length
        have h2 : (⟨(Pl.grp L Wd S S.length).toArray⟩ : ByteArray).size = (Pl.grp L Wd S S.length).length := Pl.size_len _
        have h3 := HSL.out
        have h := ungroup_ok ⟨(Pl.grp L Wd S S.length).toArray⟩ W (by rw [h2]; omega)
        obtain ⟨q1, q2, q3⟩ := Pl.grp_ungroup L Wd S HLT.out HSL.out
        change Calls Tryz.prog 24 _ _ fun e w' => e = .returned (.tuple #[.string ⟨(Pl.ungS (Pl.grp L Wd S S.length)).toArray⟩, .agg #[.int .i64 (Pl.ungE (Pl.grp L Wd S S.length)), .int .i64 (Pl.ungAt (Pl.grp L Wd S S.length))]]) ∧ _ at h
        rw [q1, q2, q3] at h
        exact h
      clear hLW HSS HSL HLT
      generalize Pl.grp L Wd S S.length = G at *
      go_wp2_with fail
      refine Calls.mono HGR.out ?_
      rintro e V4 ⟨rfl, hb⟩
      clear HGR c0
      have hs2 := RowAt.below HF.out hb (RowAt.lt HF.out)
      have hb2 := HB.out.trans (hb.mono HB.out.size)
      obtain ⟨X4, hX⟩ : ∃ X4, X4 = (V4.setCell ⟨V1.heap.size, 0, none⟩ (.int .i64 0)).setCell ⟨V1.heap.size, 1, none⟩ (.int .i64 (0)) := ⟨_, rfl⟩
      have hf2 : RowAt X4 V1.heap.size 35 #[.int .i64 0, .int .i64 (0)] := by rw [hX]; exact (RowAt.set hs2 0 _).set 1 _
      have hbx : Below w.heap.size w X4 := by rw [hX]; exact (hb2.setCell (p := ⟨V1.heap.size, 0, none⟩) HLO.out _).setCell (p := ⟨V1.heap.size, 1, none⟩) HLO.out _
      have hvx : Below V1.heap.size V1 X4 := by rw [hX]; exact ((HVX.out.trans (hb.mono HVX.out.size)).setCell (p := ⟨V1.heap.size, 0, none⟩) (Nat.le_refl _) _).setCell (p := ⟨V1.heap.size, 1, none⟩) (Nat.le_refl _) _
      have k0 := RowAt.cell hs2 (i := 0) rfl
      have k1 := RowAt.cell hs2 (i := 1) rfl
      have kf0 := RowAt.frozen hs2 0
      have kf1 := RowAt.frozen hs2 1
      have c0 := RowAt.cell hf2 (i := 0) rfl
      clear HF HB HVX hs2 hb2 hb
      have HF : Hid _ := hf2
      have HB : Hid (Below w.heap.size w X4) := hbx
      have HVX : Hid (Below V1.heap.size V1 X4) := hvx
      clear hf2 hbx hvx
      go_upto_region 13 with fail
      rw [← hX]
      clear hX k0 k1 kf0 kf1
      have HU4 : Hid _ := HUG.out X4
      go_wp2_with fail
      refine Calls.mono HU4.out ?_
      rintro e V5 ⟨rfl, hb⟩
      clear HU4 HUG c0
      have hs2 := RowAt.below HF.out hb (RowAt.lt HF.out)
      have hb2 := HB.out.trans (hb.mono HB.out.size)
      obtain ⟨X5, hX⟩ : ∃ X5, X5 = (V5.setCell ⟨V1.heap.size, 0, none⟩ (.int .i64 0)).setCell ⟨V1.heap.size, 1, none⟩ (.int .i64 (0)) := ⟨_, rfl⟩
      have hf2 : RowAt X5 V1.heap.size 35 #[.int .i64 0, .int .i64 (0)] := by rw [hX]; exact (RowAt.set hs2 0 _).set 1 _
      have hbx : Below w.heap.size w X5 := by rw [hX]; exact (hb2.setCell (p := ⟨V1.heap.size, 0, none⟩) HLO.out _).setCell (p := ⟨V1.heap.size, 1, none⟩) HLO.out _
      have hvx : Below V1.heap.size V1 X5 := by rw [hX]; exact ((HVX.out.trans (hb.mono HVX.out.size)).setCell (p := ⟨V1.heap.size, 0, none⟩) (Nat.le_refl _) _).setCell (p := ⟨V1.heap.size, 1, none⟩) (Nat.le_refl _) _
      have k0 := RowAt.cell hs2 (i := 0) rfl
      have k1 := RowAt.cell hs2 (i := 1) rfl
      have kf0 := RowAt.frozen hs2 0
      have kf1 := RowAt.frozen hs2 1
      have c0 := RowAt.cell hf2 (i := 0) rfl
      clear HF HB HVX hs2 hb2 hb
      have HF : Hid _ := hf2
      have HB : Hid (Below w.heap.size w X5) := hbx
      have HVX : Hid (Below V1.heap.size V1 X5) := hvx
      clear hf2 hbx hvx
      go_upto_region 16 with fail
      rw [← hX]
      clear hX k0 k1 kf0 kf1
      have HUD : Hid _ := undo_any _ n l ⟨S.toArray⟩ X5 (HCH.out.below HVX.out)
      change Hid (Calls Tryz.prog 13 _ _ fun e w' => e = .returned (.tuple #[.string ⟨(uS n l S).toArray⟩, fltV (uE n l S) (uA n l S)]) ∧ _) at HUD
      go_wp2_with fail
      refine Calls.mono HUD.out ?_
      rintro e V6 ⟨rfl, hb⟩
      clear HUD c0
      unfold fltV
      rcases hU with hU | hU
      · rw [hU, (HU2.out hU).1]
        clear hU HU2
        generalize uA n l S = A6 at *
        have hs2 := RowAt.below HF.out hb (RowAt.lt HF.out)
        have hb2 := HB.out.trans (hb.mono HB.out.size)
        obtain ⟨X6, hX⟩ : ∃ X6, X6 = (V6.setCell ⟨V1.heap.size, 0, none⟩ (.int .i64 0)).setCell ⟨V1.heap.size, 1, none⟩ (.int .i64 ((A6 : Int))) := ⟨_, rfl⟩
        have hf2 : RowAt X6 V1.heap.size 35 #[.int .i64 0, .int .i64 ((A6 : Int))] := by rw [hX]; exact (RowAt.set hs2 0 _).set 1 _
        have hbx : Below w.heap.size w X6 := by rw [hX]; exact (hb2.setCell (p := ⟨V1.heap.size, 0, none⟩) HLO.out _).setCell (p := ⟨V1.heap.size, 1, none⟩) HLO.out _
        have hvx : Below V1.heap.size V1 X6 := by rw [hX]; exact ((HVX.out.trans (hb.mono HVX.out.size)).setCell (p := ⟨V1.heap.size, 0, none⟩) (Nat.le_refl _) _).setCell (p := ⟨V1.heap.size, 1, none⟩) (Nat.le_refl _) _
        have k0 := RowAt.cell hs2 (i := 0) rfl
        have k1 := RowAt.cell hs2 (i := 1) rfl
        have kf0 := RowAt.frozen hs2 0
        have kf1 := RowAt.frozen hs2 1
        have c0 := RowAt.cell hf2 (i := 0) rfl
        clear HF HB HVX hs2 hb2 hb
        have HF : Hid _ := hf2
        have HB : Hid (Below w.heap.size w X6) := hbx
        have HVX : Hid (Below V1.heap.size V1 X6) := hvx
        clear hf2 hbx hvx
        go_upto_region 19 with fail
        rw [← hX]
        clear hX k0 k1 kf0 kf1
        go_wp2
        go_ret
        exact ⟨rfl, HB.out⟩
      · rw [hU]
        clear hU HU2
        generalize uA n l S = A6 at *
        generalize uS n l S = U6 at *
        have hs2 := RowAt.below HF.out hb (RowAt.lt HF.out)
        have hb2 := HB.out.trans (hb.mono HB.out.size)
        obtain ⟨X6, hX⟩ : ∃ X6, X6 = (V6.setCell ⟨V1.heap.size, 0, none⟩ (.int .i64 6)).setCell ⟨V1.heap.size, 1, none⟩ (.int .i64 ((A6 : Int))) := ⟨_, rfl⟩
        have hf2 : RowAt X6 V1.heap.size 35 #[.int .i64 6, .int .i64 ((A6 : Int))] := by rw [hX]; exact (RowAt.set hs2 0 _).set 1 _
        have hbx : Below w.heap.size w X6 := by rw [hX]; exact (hb2.setCell (p := ⟨V1.heap.size, 0, none⟩) HLO.out _).setCell (p := ⟨V1.heap.size, 1, none⟩) HLO.out _
        have hvx : Below V1.heap.size V1 X6 := by rw [hX]; exact ((HVX.out.trans (hb.mono HVX.out.size)).setCell (p := ⟨V1.heap.size, 0, none⟩) (Nat.le_refl _) _).setCell (p := ⟨V1.heap.size, 1, none⟩) (Nat.le_refl _) _
        have k0 := RowAt.cell hs2 (i := 0) rfl
        have k1 := RowAt.cell hs2 (i := 1) rfl
        have kf0 := RowAt.frozen hs2 0
        have kf1 := RowAt.frozen hs2 1
        have c0 := RowAt.cell hf2 (i := 0) rfl
        clear HF HB HVX hs2 hb2 hb
        have HF : Hid _ := hf2
        have HB : Hid (Below w.heap.size w X6) := hbx
        have HVX : Hid (Below V1.heap.size V1 X6) := hvx
        clear hf2 hbx hvx
        go_upto_region 19 with fail
        rw [← hX]
        clear hX k0 k1 kf0 kf1
        go_wp2
        go_ret
        exact ⟨rfl, HB.out⟩
    · have hne : (rE n l t != 0) = true := by simpa using hE
      clear hE
      generalize rE n l t = E1 at *
      generalize rS n l t = S at *
      generalize rA n l t = A1 at *
      have hs2 := RowAt.below HF.out hb (RowAt.lt HF.out)
      have hb2 := HB.out.trans (hb.mono HB.out.size)
      obtain ⟨X3, hX⟩ : ∃ X3, X3 = (V3.setCell ⟨V1.heap.size, 0, none⟩ (.int .i64 E1)).setCell ⟨V1.heap.size, 1, none⟩ (.int .i64 ((A1 : Int))) := ⟨_, rfl⟩
      have hf2 : RowAt X3 V1.heap.size 35 #[.int .i64 E1, .int .i64 ((A1 : Int))] := by rw [hX]; exact (RowAt.set hs2 0 _).set 1 _
      have hbx : Below w.heap.size w X3 := by rw [hX]; exact (hb2.setCell (p := ⟨V1.heap.size, 0, none⟩) HLO.out _).setCell (p := ⟨V1.heap.size, 1, none⟩) HLO.out _
      have hvx : Below V1.heap.size V1 X3 := by rw [hX]; exact ((HVX.out.trans (hb.mono HVX.out.size)).setCell (p := ⟨V1.heap.size, 0, none⟩) (Nat.le_refl _) _).setCell (p := ⟨V1.heap.size, 1, none⟩) (Nat.le_refl _) _
      have k0 := RowAt.cell hs2 (i := 0) rfl
      have k1 := RowAt.cell hs2 (i := 1) rfl
      have kf0 := RowAt.frozen hs2 0
      have kf1 := RowAt.frozen hs2 1
      have c0 := RowAt.cell hf2 (i := 0) rfl
      clear HF HB HVX hs2 hb2 hb
      have HF : Hid _ := hf2
      have HB : Hid (Below w.heap.size w X3) := hbx
      have HVX : Hid (Below V1.heap.size V1 X3) := hvx
      clear hf2 hbx hvx
      go_upto_region 10 with fail
      rw [← hX]
      clear hX k0 k1 kf0 kf1
      go_wp2
      go_ret
      exact ⟨rfl, HB.out⟩
  · have hne : (E != 0) = true := by simpa using hE
    clear hE
    go_wp2
    go_ret
    exact ⟨rfl, HB.out⟩
end Go.Proofs.YtkohhdkkbaifoaaGreatDoor
