/-
  TallyMoved, for any Shift and Chi that say what the document's say.
-/
import Derived.Test.YteomoeaoboaclaeLNMov
import Derived.Test.YteomoeaoboaclaeVRdZ
namespace Go.Proofs.Yteomoeaoboaclae
open Go.RowKit PK Vg Tl Fl

theorem wg_same {s t : List UInt8} (hs : Ls s) (ht : Ls t) (hl : s.length = t.length) (h6 : t.length ≤ 65536) (F : Nat → Nat) : wgE s F = wgE t F ∧ wgAt s = wgAt t := by
  have c1 := ck_of_ls ht h6
  have c2 := ck_of_ls hs (by omega)
  have n1 : ¬ ckE t ≠ 0 := fun e => e c1.1
  have n2 : ¬ ckE s ≠ 0 := fun e => e c2.1
  unfold wgE wgAt
  simp only [if_neg n1, if_neg n2, hl]
  exact ⟨trivial, trivial⟩
theorem tallymoved_of (TS : ∀ (t : ByteArray) (F : Nat → Nat) (W : World), Calls Try.prog 16 #[.string t, .agg (flts F)] W fun e w' => e = .returned (.tuple #[.int .i64 (shR t.data.toList F : Nat), .agg #[.int .i64 (wgE t.data.toList F), .int .i64 (wgAt t.data.toList)]]) ∧ Below W.heap.size W w')
    (TC : ∀ (t : ByteArray) (F : Nat → Nat) (W : World), Calls Try.prog 13 #[.string t, .agg (flts F)] W fun e w' => e = .returned (.tuple #[.float .f64 (chiS t.data.toList F), .agg #[.int .i64 (wgE t.data.toList F), .int .i64 (wgAt t.data.toList)]]) ∧ Below W.heap.size W w')
    (HA : ∀ W, Calls Try.prog 18 #[] W fun e w' => e = .returned (.bool true) ∧ Below W.heap.size W w') (t : ByteArray) (F : Nat → Nat) (b : Int) (w : World) : Calls Try.prog 6 #[.string t, .agg (flts F), .int .i64 b] w fun e w' => e = .returned (.bool true) ∧ Below w.heap.size w w' := by
  have h2 := Pl.size_len t
  by_cases hb : b < 0 ∨ 25 < b
  · exact tmov_a t F b hb HA w
  · obtain ⟨b, rfl⟩ : ∃ n : Nat, b = n := ⟨b.toNat, by omega⟩
    have hb2 : b < 26 := by omega
    rcases lk_cases 1 (⟨#[ltr b]⟩ : ByteArray).data.toList t.data.toList with ⟨e1, e2, hk, hn, ha, hc⟩ | e1
    · have HW := fun W => vwr_ok 1 (by decide) ⟨#[ltr b]⟩ t ha.1 ha.2.1 ⟨Nat.le_refl 1, by show 1 ≤ 256; decide⟩ hc.1 hc.2.1 (by omega) ha.2.2 hc.2.2.1 W
      have hls := writeL_ls 1 [ltr b] t.data.toList
      have hll := writeL_length 1 [ltr b] t.data.toList
      have hws := wg_same hls hc.2.2.1 hll (by omega) F
      have hS := fun W => TS ⟨(writeL 1 [ltr b] t.data.toList).toArray⟩ F W
      rw [show (⟨(writeL 1 [ltr b] t.data.toList).toArray⟩ : ByteArray).data.toList = writeL 1 [ltr b] t.data.toList from rfl, hws.1, hws.2] at hS
      rcases wg_cases t.data.toList F with ⟨g1, g2, g3, g4, g5, g6⟩ | g1
      · have hsz := ba_size (writeL 1 [ltr b] t.data.toList)
        have q0 : ∀ s : List UInt8, wgE s F = 0 → shR s F = shS s F := fun s e => by unfold shR; rw [if_neg (fun h => h e)]
        have l1 := shS_least g4 g5 g6
        have l2 := shS_least (t := writeL 1 [ltr b] t.data.toList) (F := F) (by rw [hll]; exact g4) (by rw [hll]; exact g5) g6
        have hH1 := fun W => TS t F W
        rw [q0 _ g1, g1, g2] at hH1
        rw [q0 _ (hws.1.trans g1), g1, g2] at hS
        generalize shS t.data.toList F = n at *
        generalize shS (writeL 1 [ltr b] t.data.toList) F = m at *
        have hkn : Ls [ltr n] := fun x hx => by simp at hx; rw [hx]; exact ltr_ok l1.1
        have hkm : Ls [ltr m] := fun x hx => by simp at hx; rw [hx]; exact ltr_ok l2.1
        have ckn := ck_of_ls hkn (by show 1 ≤ 65536; decide)
        have ckm := ck_of_ls hkm (by show 1 ≤ 65536; decide)
        have cks := ck_of_ls hls (by omega)
        have HR1 := fun W => vrd_ok 1 (by decide) ⟨#[ltr n]⟩ t ckn.1 ckn.2 ⟨Nat.le_refl 1, by show 1 ≤ 256; decide⟩ hc.1 hc.2.1 (by omega) hkn hc.2.2.1 W
        have HR2 := fun W => vrd_ok 1 (by decide) ⟨#[ltr m]⟩ ⟨(writeL 1 [ltr b] t.data.toList).toArray⟩ ckm.1 ckm.2 ⟨Nat.le_refl 1, by show 1 ≤ 256; decide⟩ cks.1 cks.2 (by rw [hsz]; omega) hkm hls W
        have wT := wg_same (readL_ls 1 [ltr n] t.data.toList) hc.2.2.1 (readL_length _ _ _) (by omega) F
        have wU := wg_same (readL_ls 1 [ltr m] (writeL 1 [ltr b] t.data.toList)) hc.2.2.1 ((readL_length _ _ _).trans hll) (by omega) F
        have HC1 := fun W => TC ⟨(readL 1 [ltr n] t.data.toList).toArray⟩ F W
        have HC2 := fun W => TC ⟨(readL 1 [ltr m] (writeL 1 [ltr b] t.data.toList)).toArray⟩ F W
        rw [show (⟨(readL 1 [ltr n] t.data.toList).toArray⟩ : ByteArray).data.toList = readL 1 [ltr n] t.data.toList from rfl, wT.1, wT.2, g1, g2] at HC1
        rw [show (⟨(readL 1 [ltr m] (writeL 1 [ltr b] t.data.toList)).toArray⟩ : ByteArray).data.toList = readL 1 [ltr m] (writeL 1 [ltr b] t.data.toList) from rfl, wU.1, wU.2, g1, g2] at HC2
        refine tmov_d t _ _ _ F b n m _ _ hb2 l1.1 l2.1 ?_ HA HW hH1 hS HR1 HR2 HC1 HC2 w
        have f1 : chiS (readL 1 [ltr n] t.data.toList) F = far (cnt t.data.toList) t.data.toList.length F n := by
          unfold chiS
          rw [if_neg (fun h => h (wT.1.trans g1)), readL_length]
          exact far_congr fun c => by rw [Nat.add_zero]; exact cnt_back l1.1 hc.2.2.1 c
        have f2 : chiS (readL 1 [ltr m] (writeL 1 [ltr b] t.data.toList)) F = far (cnt (writeL 1 [ltr b] t.data.toList)) t.data.toList.length F m := by
          unfold chiS
          rw [if_neg (fun h => h (wU.1.trans g1)), readL_length, hll]
          exact far_congr fun c => by rw [Nat.add_zero]; exact cnt_back l2.1 hls c
        rw [f1, f2]
        rw [hll] at l2
        have h40 : (2 : Nat) ^ 40 = 1099511627776 := by decide
        exact moved_least hb2 g4 (by omega) (fun c _ => by have := cnt_le t.data.toList c; omega) (fun c _ => by have := cnt_le (writeL 1 [ltr b] t.data.toList) c; omega) g6 (fun c => cnt_moved hb2 hc.2.2.1 c) l1 l2
      · exact tmov_c t _ F b _ _ hb2 _ _ g1 HA HW (fun W => TS t F W) hS w
    · exact tmov_b t _ F b hb2 _ _ e1 HA (fun W => vwr_bad 1 ⟨#[ltr b]⟩ t e1 W) w
end Go.Proofs.Yteomoeaoboaclae
