/-
  Several texts, joined: LThd, OOpen, TxO.
-/
import Derived.Test.YtkohhdkkbaifoaaGreatDoorJn31
import Derived.Test.YtkohhdkkbaifoaaGreatDoorJn34
import Derived.Test.YtkohhdkkbaifoaaGreatDoorJn30
import Derived.Maps.AppendAt
import Derived.Test.YtkohhdkkbaifoaaGreatDoorJn5
import Derived.Test.YtkohhdkkbaifoaaGreatDoorChecked
import Derived.Deep.Matrix
import Derived.ProofKit
import Derived.OpenShut
import Derived.ShutString
import Derived.ChangeOld
import Derived.Carry
import Derived.ChangeSlices
import Derived.Deep.Strs
/-
  TopHidden, walked.
-/
namespace Go.Proofs.YtkohhdkkbaifoaaGreatDoor
open Go.RowKit PK Vg Tl

/-- v is a slice of n texts. -/
def TxAt (W : World) (v : Value) (n : Nat) (K : Nat → ByteArray) : Prop := ∃ (a : Option Addr) (cap : Nat), v = .slice a n cap ∧ ∀ i, i < n → ∃ b o, a = some ⟨b, o, none⟩ ∧ W.cell? ⟨b, o + i, none⟩ = some (.string (K i))
theorem TxAt.below {w w' : World} {v : Value} {n : Nat} {K : Nat → ByteArray} (h : TxAt w v n K) (hb : Below w.heap.size w w') : TxAt w' v n K := by
  obtain ⟨a, cap, h1, h2⟩ := h
  refine ⟨a, cap, h1, fun i hi => ?_⟩
  obtain ⟨b, o, e, hc⟩ := h2 i hi
  exact ⟨b, o, e, (hb.cell (p := ⟨b, o + i, none⟩) (cell_block hc)).trans hc⟩
/-- The step that a key makes. -/
def spK (K : Nat → ByteArray) (i : Nat) : Sp := { sp0 2 (1 + i % 3) with key := K i }
theorem built_k2 (n : Int) (key : ByteArray) : Tryz.prog.built 31 [(0, .int .i64 2), (1, .int .i64 n), (2, .string key)] = some (spA 2 n key (.slice none 0 0) (.slice none 0 0) (.slice none 0 0) (.slice none 0 0) (fun _ => 0) (fun _ => 0)) := by kernel_rfl
theorem i3_stepT : (Tryz.prog.info? 31).map (fun i => (i.zero, i.size, i.bytes)) = some (some (.agg (spA 0 0 ⟨#[]⟩ (.slice none 0 0) (.slice none 0 0) (.slice none 0 0) (.slice none 0 0) (fun _ => 0) (fun _ => 0))), 59, 544) := by kernel_rfl
theorem sq_k (K : Nat → ByteArray) (i : Nat) (W : World) : SqAt W (.agg (spA 2 ((1 + i % 3 : Nat) : Int) (K i) (.slice none 0 0) (.slice none 0 0) (.slice none 0 0) (.slice none 0 0) (fun _ => 0) (fun _ => 0))) (spK K i) :=
  ⟨_, _, _, _, rfl, ⟨none, 0, fun _ => undef, rfl, Nat.zero_le _, fun r hr => absurd hr (Nat.not_lt_zero r), fun r hr => absurd hr (Nat.not_lt_zero r)⟩, ⟨none, 0, fun _ => undef, rfl, Nat.zero_le _, fun r hr => absurd hr (Nat.not_lt_zero r), fun r hr => absurd hr (Nat.not_lt_zero r)⟩, ⟨none, 0, rfl, Nat.zero_le _, fun r hr => absurd hr (Nat.not_lt_zero r)⟩, ⟨none, 0, rfl, Nat.zero_le _, fun r hr => absurd hr (Nat.not_lt_zero r)⟩⟩
theorem SpO.nil (W : World) (B : Nat) (l : Nat → Sp) (R : Nat → Array Value) : SpO W B (.slice none 0 0) 0 l R := ⟨World.ownsRow_nil W B _ 59, fun j hj => by omega, fun j hj => by omega⟩
theorem hid_same (w : World) {n m : Nat} {K : Nat → ByteArray} {t : List UInt8} (hE : rE n (spK K) t = 0) (hK : ∀ i, i < n → (K i).size = m) : SameIx (rS n (spK K) t) t (m : Int) := by
  obtain ⟨h1, h2, _⟩ := rE_zero hE
  have hst := (chE_zero h1).2
  have e : rS n (spK K) t = runT (spK K) t n := by unfold rS; rw [if_pos hE]
  rw [e]
  refine hid_run w hst (fun i hi => ⟨rfl, ?_, ?_⟩) h2 n (Nat.le_refl _)
  · show ((1 + i % 3 : Nat) : Int) ≤ 3
    omega
  · show (K i).data.toList.length = m
    rw [← Pl.size_len, hK i hi]
set_option maxRecDepth 100000 in
set_option maxHeartbeats 4000000 in
theorem thd_any (v : Value) (n : Nat) (K : Nat → ByteArray) (t : ByteArray) (w : World) (hv : TxAt w v n K) (hnn : n ≤ 9223372036854775807) (hks : ∀ i, i < n → (K i).size ≤ 9223372036854775807) (hn : NmAt w) (he : ErAt w) : Calls Tryz.prog 7 #[v, .string t] w fun e w' => e = .returned (.bool true) ∧ Below w.heap.size w w' := by
  have HA : Hid _ := alivetop_any w hn he
  have HV : Hid (TxAt w v n K) := hv
  have HKS : Hid _ := hks
  obtain ⟨a, cap, rfl, -⟩ := id hv
  obtain ⟨i0, hi0, hz0, hz1, hz2⟩ := info17 i3_stepT
  clear hn he hv hks
  go_enter Tryz.func7, Tryz.ntmps7
  go_wp2_with fail
  refine Calls.mono HA.out ?_
  rintro e W0 ⟨rfl, hb0⟩
  have HV0 : Hid (TxAt W0 (.slice a n cap) n K) := HV.out.below hb0
  have HB0 : Hid (Below w.heap.size w W0) := hb0
  clear hb0 HA HV
  by_cases hn1 : n < 1
  · have hn1i : (n : Int) < 1 := by omega
    go_wp2
    go_ret
    exact ⟨rfl, HB0.out⟩
  have hn1i : ¬ (n : Int) < 1 := by omega
  by_cases hn64 : 64 < n
  · have hn64i : (64 : Int) < (n : Int) := by omega
    go_wp2
    go_ret
    exact ⟨rfl, HB0.out⟩
  have hn64i : ¬ (64 : Int) < (n : Int) := by omega
  obtain ⟨b, o, rfl, hc0⟩ : ∃ b o, a = some ⟨b, o, none⟩ ∧ W0.cell? ⟨b, o, none⟩ = some (.string (K 0)) := by
    obtain ⟨_, _, e, h⟩ := HV0.out
    cases e
    obtain ⟨b, o, e, h⟩ := h 0 (by omega)
    exact ⟨b, o, e, h⟩
  have HK0 : Hid ((K 0).size ≤ 9223372036854775807) := HKS.out 0 (by omega)
  obtain ⟨m, hm⟩ : ∃ m, m = (K 0).size := ⟨_, rfl⟩
  by_cases hm1 : m < 1
  · have hm1i : ((K 0).size : Int) < 1 := by omega
    clear hm
    go_wp2
    go_ret
    exact ⟨rfl, HB0.out⟩
  have hm1i : ¬ ((K 0).size : Int) < 1 := by omega
  by_cases hm64 : 64 < m
  · have hm64i : (64 : Int) < ((K 0).size : Int) := by omega
    clear hm
    go_wp2
    go_ret
    exact ⟨rfl, HB0.out⟩
  have hm64i : ¬ (64 : Int) < ((K 0).size : Int) := by omega
  have HM : Hid (m = (K 0).size) := hm
  clear hm
  go_upto_region 7 with fail
  have HB00 : Hid (w.heap.size ≤ W0.heap.size) := HB0.out.size
  go_loopw [5, 39] (fun s i W => ∃ (k : Nat) (R : Nat → Array Value) (sg : Option Addr) (sc : Nat), k ≤ n ∧ i = .int .i64 k ∧ s = .slice sg k sc ∧ Hid (∀ j, j < k → (K j).size = m) ∧ Hid (SpO W W0.heap.size (.slice sg k sc) k (spK K) R) ∧ Hid (Below W0.heap.size W0 W)) (fun _ i _ => ((n : Int) - intOf i).toNat)
  case atStart => exact ⟨0, fun _ => #[], none, 0, by omega, rfl, rfl, fun j hj => by omega, SpO.nil _ _ _ _, Below.refl _ _⟩
  case round =>
    obtain ⟨k, R, sg, sc, hk, rfl, rfl, HSM, HO, HBW⟩ := hrel
    obtain ⟨_a, _c, hva, hcs⟩ := HV0.out.below HBW.out
    have hcw : wr.cell? ⟨b, o, none⟩ = some (.string (K 0)) := (HBW.out.cell (p := ⟨b, o, none⟩) (cell_block hc0)).trans hc0
    by_cases hlt : k < n
    · have hck : wr.cell? ⟨b, o + k, none⟩ = some (.string (K k)) := by
        obtain ⟨b2, o2, e2, h2⟩ := hcs k hlt
        injection hva with e3 _ _
        rw [e2] at e3
        injection e3 with e3
        cases e3
        exact h2
      have hkl : (k : Int) < (n : Int) := by omega
      clear hcs hva
      have HKK : Hid ((K k).size ≤ 9223372036854775807) := HKS.out k hlt
      by_cases hsame : (K k).size = (K 0).size
      · have hs1 : (((K k).size : Int) != ((K 0).size : Int)) = false := by simp [hsame]
        go_upto_region 11 with fail
        obtain ⟨CS, hCS⟩ : ∃ CS, CS = spA 2 (1 + (k : Int) % 3) (K k) (.slice none 0 0) (.slice none 0 0) (.slice none 0 0) (.slice none 0 0) (fun _ => 0) (fun _ => 0) := ⟨_, rfl⟩
        have HBK : Hid (Tryz.prog.built 31 [(0, .int .i64 2), (1, .int .i64 (1 + (k : Int) % 3)), (2, .string (K k))] = some CS) := by rw [Hid, hCS]; exact built_k2 _ _
        have hc59 : CS.size = 59 := by rw [hCS]; exact spA_size _ _ _ _ _ _ _ _ _
        have HC1 : Hid (CS.all (·.oneCell') = true) := by rw [Hid, hCS]; exact spA_one rfl rfl rfl rfl
        have HSQ : Hid (∀ W, SqAt W (.agg CS) (spK K k)) := fun W => by
          rw [hCS]
          have e : (1 + (k : Int) % 3) = ((1 + k % 3 : Nat) : Int) := by omega
          rw [e]
          exact sq_k K k W
        have hown := HO.out.own
        have HOW : Hid (∀ g', (Value.slice sg k sc).ownBlock = some g' → W0.heap.size ≤ g' ∧ g' < wr.heap.size) := fun g' hg' => World.ownsRow.lt HO.out.own g' hg'
        have hwz : W0.heap.size ≤ wr.heap.size := HBW.out.size
        clear hCS hcw hck
        go_wp2_with (first | refine wpList_bA rfl 31 [(0, _), (1, _), (2, _)] rfl [(0, .int .i64 2), (1, .int .i64 (1 + (k : Int) % 3)), (2, .string (K k))] rfl CS HBK.out ?_ | refine wpList_build17 rfl 22 31 _ rfl 59 (spA 0 0 ⟨#[]⟩ (.slice none 0 0) (.slice none 0 0) (.slice none 0 0) (.slice none 0 0) (fun _ => 0) (fun _ => 0)) CS rfl (by decide) (by decide) Tryz.underlying22 (spA_size _ _ _ _ _ _ _ _ _) hc59 s_zs17 ?_ | (at_builtin; refine wpList_append_own_at _ rfl _ _ 22 rfl W0.heap.size 31 i0 (.agg (spA 0 0 ⟨#[]⟩ (.slice none 0 0) (.slice none 0 0) (.slice none 0 0) (.slice none 0 0) (fun _ => 0) (fun _ => 0))) 59 544 Tryz.underlying22 hi0 hz0 hz1 hz2 (spA_size _ _ _ _ _ _ _ _ _) (by decide) _ _ _ rfl (World.ownsRow.alloc hown _) ⟨wr.heap.size, 0, none⟩ 1 1 CS.toList rfl (by rw [Array.length_toList, hc59]) (fun q u hu => by rw [Addr.add_mid, Nat.zero_add]; exact (RowAt.new wr 31 CS).cell (by rw [← Array.getElem?_toList]; exact hu)) (fun u hu => by have := HC1.out; rw [← Array.all_toList] at this; exact List.all_eq_true.1 this u hu) (by unfold maxLen; omega) (by omega) (by simp; omega) ?_; intro v5 w5 hown5 hgrow5 _ hat5; obtain ⟨g5, c5, rfl⟩ := own_form17 hown5; have HOWN : Hid _ := hown5; have HGR : Hid _ := hgrow5; have HAT : Hid _ := hat5; clear hown5 hgrow5 hat5))
        have hal : Below wr.heap.size wr (wr.alloc (.cells CS 31)) := (Below.refl _ wr).alloc (Nat.le_refl _) _
        have hmore := (HO.out.below hal).more (b := wr.heap.size) (c := CS) (s := spK K k) hwz (fun g' hg' => (HOW.out g' hg').2) (fun W2 _ => HSQ.out W2) HOWN.out HGR.out HAT.out
        have hnew := hmore.congr (l' := spK K) (R' := fun i => if i = k then CS else R i) (fun j hj => by
          by_cases e : j = k
          · rw [if_pos e, e]
          · rw [if_neg e]) (fun _ _ => rfl)
        have hbn : Below W0.heap.size W0 w5 := (HBW.out.trans (hal.mono hwz)).grown HGR.out (by rw [World.size_alloc]; omega) (fun r e => (HOW.out r e).1)
        go_wp2
        go_roundw
        case rel =>
          refine ⟨k + 1, fun i => if i = k then CS else R i, g5, c5, by omega, by go_num, rfl, fun j hj => ?_, hnew, hbn⟩
          by_cases e : j = k
          · rw [e, hsame]; exact HM.out.symm
          · exact HSM.out j (by omega)
        case measure => simp [intOf]; omega
      · have hs1 : (((K k).size : Int) != ((K 0).size : Int)) = true := by simp; omega
        go_wp2
        go_ret
        exact ⟨rfl, HB0.out.trans (HBW.out.mono HB00.out)⟩
    · have HN : Hid (k = n) := by rw [Hid]; omega
      have hsp := HO.out
      have hsm := HSM.out
      rw [HN.out] at hsp hsm
      have hkn : ¬ (k : Int) < (n : Int) := by omega
      have HKN : Hid _ := hkn
      have hch : ChAt wr (.slice sg n sc) n (spK K) := hsp.chain.here
      have HRN : Hid _ := run_any _ n (spK K) t wr hch
      have HSI : Hid (rE n (spK K) t.data.toList = 0 → SameIx (rS n (spK K) t.data.toList) t.data.toList (m : Int)) := fun h => hid_same w h hsm
      have HV1 : Hid (TxAt wr (.slice (some ⟨b, o, none⟩) n cap) n K) := HV0.out.below HBW.out
      have hb1 := HB0.out.trans (HBW.out.mono HB00.out)
      have HB1 : Hid (Below w.heap.size w wr) := hb1
      have hc0w : wr.cell? ⟨b, o, none⟩ = some (.string (K 0)) := hcw
      have HC0 : Hid _ := hc0w
      obtain rfl : k = n := HN.out
      clear hcs hva hsp hsm hch hb1 hcw hc0w HSM HO HBW HV0 HB0 HN hlt hkn hc0
      have hkn := HKN.out
      generalize rA k (spK K) t.data.toList = A1 at *
      go_wp2_with fail
      refine Calls.mono HRN.out ?_
      rintro e V1 ⟨rfl, hb1⟩
      have hbv := HB1.out.trans (hb1.mono HB1.out.size)
      by_cases hE : rE k (spK K) t.data.toList = 0
      · have hsi := HSI.out hE
        rw [hE]
        generalize rS k (spK K) t.data.toList = S at *
        obtain ⟨X1, hX1⟩ : ∃ X1, X1 = V1.alloc (.cells #[.int .i64 0, .int .i64 (A1 : Int)] 35) := ⟨_, rfl⟩
        have hx1 : Below V1.heap.size V1 X1 := by rw [hX1]; exact (Below.refl _ V1).alloc (Nat.le_refl _) _
        have hbx : Below w.heap.size w X1 := hbv.trans (hx1.mono hbv.size)
        have hw1 : Below wr.heap.size wr X1 := hb1.trans (hx1.mono hb1.size)
        have hf9 : RowAt X1 V1.heap.size 35 #[.int .i64 0, .int .i64 (A1 : Int)] := by rw [hX1]; exact RowAt.new V1 _ _
        have hcx : X1.cell? ⟨b, o, none⟩ = some (.string (K 0)) := (hw1.cell (p := ⟨b, o, none⟩) (cell_block HC0.out)).trans HC0.out
        have c9 := RowAt.cell hf9 (i := 0) rfl
        have I1 : Hid (∀ W, Calls Tryz.prog 25 #[.string t, .int .i64 ((K 0).size : Nat)] W fun e w' => e = .returned (.tuple #[.agg #[.int .i64 (ixU t.data.toList m : Nat), .int .i64 (ixD t.data.toList m : Nat)], .agg #[.int .i64 (ixE t.data.toList m), .int .i64 (ixAt t.data.toList)]]) ∧ Below W.heap.size W w') := fun W => by rw [← HM.out]; exact tix_any t m W
        have I2 : Hid (∀ W, Calls Tryz.prog 25 #[.string ⟨S.toArray⟩, .int .i64 ((K 0).size : Nat)] W fun e w' => e = .returned (.tuple #[.agg #[.int .i64 (ixU t.data.toList m : Nat), .int .i64 (ixD t.data.toList m : Nat)], .agg #[.int .i64 (ixE t.data.toList m), .int .i64 (ixAt t.data.toList)]]) ∧ Below W.heap.size W w') := fun W => by
          rw [← HM.out]
          have h := tix_any ⟨S.toArray⟩ m W
          obtain ⟨q1, q2, q3, q4⟩ := hsi
          change Calls Tryz.prog 25 _ _ fun e w' => e = .returned (.tuple #[.agg #[.int .i64 (ixU S m : Nat), .int .i64 (ixD S m : Nat)], .agg #[.int .i64 (ixE S m), .int .i64 (ixAt S)]]) ∧ _ at h
          rw [q1, q2, q3, q4] at h
          exact h
        have HL1 : Hid (w.heap.size ≤ V1.heap.size) := hbv.size
        have HBX : Hid (Below w.heap.size w X1) := hbx
        have HF9 : Hid _ := hf9
        have HCX : Hid _ := hcx
        have HBL : Hid (b < V1.heap.size) := by have h : b < wr.heap.size := cell_block HC0.out; have h2 := hb1.size; rw [Hid]; omega
        generalize ixU t.data.toList m = U at *
        generalize ixD t.data.toList m = D at *
        generalize ixE t.data.toList m = E at *
        generalize ixAt t.data.toList = A at *
        clear hb1 hbv hx1 hbx hw1 hf9 hE HRN HSI HV1 HC0 hsi HM HK0 HKS
        unfold fltV
        go_upto_region 14 with fail
        rw [← hX1]
        clear hX1
        go_wp2_with fail
        refine Calls.mono (I1.out _) ?_
        rintro e W2 ⟨rfl, hb2⟩
        have s2 := RowAt.below HF9.out hb2 (RowAt.lt HF9.out)
        have b2 := HBX.out.trans (hb2.mono HBX.out.size)
        have l2 : V1.heap.size < W2.heap.size := RowAt.lt s2
        have k0 := RowAt.cell s2 (i := 0) rfl
        have k1 := RowAt.cell s2 (i := 1) rfl
        have kf0 := RowAt.frozen s2 0
        have kf1 := RowAt.frozen s2 1
        have n1 : ¬ V1.heap.size = W2.heap.size := by omega
        have n2 : ¬ W2.heap.size = V1.heap.size := by omega
        obtain ⟨X2, hX2⟩ : ∃ X2, X2 = ((W2.setCell ⟨V1.heap.size, 0, none⟩ (.int .i64 E)).setCell ⟨V1.heap.size, 1, none⟩ (.int .i64 A)).alloc (.cells #[.int .i64 (U : Nat), .int .i64 (D : Nat)] 53) := ⟨_, rfl⟩
        have s3 : RowAt X2 V1.heap.size 35 #[.int .i64 E, .int .i64 A] := by rw [hX2]; exact RowAt.alloc ((RowAt.set s2 0 _).set 1 _) _
        have hsz : ((W2.setCell ⟨V1.heap.size, 0, none⟩ (.int .i64 E)).setCell ⟨V1.heap.size, 1, none⟩ (.int .i64 A)).heap.size = W2.heap.size := by rw [World.size_setCell, World.size_setCell]
        have r3 : RowAt X2 W2.heap.size 53 #[.int .i64 (U : Nat), .int .i64 (D : Nat)] := by
          have h := RowAt.new ((W2.setCell ⟨V1.heap.size, 0, none⟩ (.int .i64 E)).setCell ⟨V1.heap.size, 1, none⟩ (.int .i64 A)) 53 #[.int .i64 (U : Nat), .int .i64 (D : Nat)]
          rw [hsz] at h
          rw [hX2]
          exact h
        have b3 : Below w.heap.size w X2 := by rw [hX2]; exact ((b2.setCell (p := ⟨V1.heap.size, 0, none⟩) HL1.out _).setCell (p := ⟨V1.heap.size, 1, none⟩) HL1.out _).alloc (by rw [hsz]; have := HL1.out; omega) _
        have hcx2 : X2.cell? ⟨b, o, none⟩ = some (.string (K 0)) := by
          have hbl := HBL.out
          have h2 : W2.cell? ⟨b, o, none⟩ = some (.string (K 0)) := (hb2.cell (p := ⟨b, o, none⟩) (cell_block HCX.out)).trans HCX.out
          have h3 : ((W2.setCell ⟨V1.heap.size, 0, none⟩ (.int .i64 E)).setCell ⟨V1.heap.size, 1, none⟩ (.int .i64 A)).cell? ⟨b, o, none⟩ = some (.string (K 0)) := (World.cell?_setCell_far _ ⟨V1.heap.size, 1, none⟩ ⟨b, o, none⟩ _ (by simp; omega)).trans ((World.cell?_setCell_far _ ⟨V1.heap.size, 0, none⟩ ⟨b, o, none⟩ _ (by simp; omega)).trans h2)
          rw [hX2]
          exact (((Below.refl _ _).alloc (Nat.le_refl _) _).cell (p := ⟨b, o, none⟩) (cell_block h3)).trans h3
        have S3 : Hid _ := s3
        have R3 : Hid _ := r3
        have B3 : Hid (Below w.heap.size w X2) := b3
        clear s2 b2 hb2 hsz s3 r3 b3 hcx c9
        go_upto_region 17 with fail
        rw [← hX2]
        clear hX2 k0 k1 kf0 kf1
        go_wp2_with fail
        refine Calls.mono (I2.out _) ?_
        rintro e W3 ⟨rfl, hb3⟩
        have l3 : W2.heap.size < W3.heap.size := by have := hb3.size; have := RowAt.lt R3.out; omega
        have hw3 : w.heap.size ≤ W3.heap.size := by have := HL1.out; omega
        have b4 := ((B3.out.trans (hb3.mono B3.out.size)).alloc hw3 (.cells #[.int .i64 (U : Nat), .int .i64 (D : Nat)] 53)).alloc (by simp; omega) (.cells #[.int .i64 E, .int .i64 A] 35)
        have s4 := RowAt.alloc (RowAt.alloc (RowAt.below S3.out hb3 (RowAt.lt S3.out)) (.cells #[.int .i64 (U : Nat), .int .i64 (D : Nat)] 53)) (.cells #[.int .i64 E, .int .i64 A] 35)
        have r4 := RowAt.alloc (RowAt.alloc (RowAt.below R3.out hb3 (RowAt.lt R3.out)) (.cells #[.int .i64 (U : Nat), .int .i64 (D : Nat)] 53)) (.cells #[.int .i64 E, .int .i64 A] 35)
        have c0 := RowAt.cell s4 (i := 0) rfl
        have c1 := RowAt.cell s4 (i := 1) rfl
        have d0 := RowAt.cell r4 (i := 0) rfl
        have d1 := RowAt.cell r4 (i := 1) rfl
        have B4 : Hid _ := b4
        clear hb3 s4 r4 b4 hcx2
        go_wp2
        go_ret
        exact ⟨rfl, B4.out⟩
      · have hne : (rE k (spK K) t.data.toList != 0) = true := by simpa using hE
        have HBE : Hid (Below w.heap.size w (V1.alloc (.cells #[.int .i64 (rE k (spK K) t.data.toList), .int .i64 (A1 : Int)] 35))) := hbv.alloc hbv.size _
        clear hb1 hbv hE HSI HRN
        generalize rS k (spK K) t.data.toList = S at *
        generalize rE k (spK K) t.data.toList = E at *
        unfold fltV
        go_wp2
        go_ret
        exact ⟨rfl, HBE.out⟩
end Go.Proofs.YtkohhdkkbaifoaaGreatDoor

/-
  A machine as an argument: opened.
-/
namespace Go.Proofs.YtkohhdkkbaifoaaGreatDoor
open Go.RowKit PK Go.ChangeShapes Go.WideShapes Go.ChangeAt

section
variable {H : Type} {enc : TypeId × Value → H} {W : World}
end
end Go.Proofs.YtkohhdkkbaifoaaGreatDoor

/-
  A slice of texts as an argument.
-/
namespace Go.Proofs.YtkohhdkkbaifoaaGreatDoor
open Go.RowKit PK Vg

open Go.ChangeShapes Go.WideShapes Go.ChangeAt

theorem s_cells_str17 : Tryz.prog.cellsOf 9 = 1 := by kernel_rfl
set_option maxRecDepth 100000 in
theorem open_strs17 {H : Type} {enc : TypeId × Value → H} {W : World} {base : Nat} {v : Value} {d : DataW H} {p : List MemPlace} (hval : Value.okWide Tryz.prog W .any base 51 v) (h : DataW.Trod enc Tryz.prog W 0 (fun _ => true) true 51 v d p) :
    ∃ n K, TxAt W v n K ∧ n ≤ 9223372036854775807 ∧ ∀ i, i < n → (K i).size ≤ 9223372036854775807 := by
  obtain ⟨a0, len, cap, rfl⟩ := okWide_slice Tryz.underlying51 hval
  obtain ⟨fuel, hf⟩ := h
  rcases Go.Deep.open_strs Tryz.underlying51 Tryz.underlying9 s_cells_str17 hf with ⟨hcs0, hx⟩ | ⟨a, len', cap', m, Sx, hcs0, _, hl, hm, hmm, hx, hcell⟩
  · simp [Value.cells] at hcs0
    obtain ⟨rfl, rfl, rfl⟩ := hcs0
    exact ⟨0, fun _ => ByteArray.empty, ⟨none, 0, rfl, fun c hc => by omega⟩, by omega, fun i hi => by omega⟩
  · simp [Value.cells] at hcs0
    obtain ⟨rfl, rfl, rfl⟩ := hcs0
    have hmc : m = cap := by rw [hmm]; rfl
    unfold maxLen at hm
    refine ⟨len, Sx, ⟨some a, cap, rfl, fun c hc => ?_⟩, by omega, fun i hi => ?_⟩
    · have h0 := (hcell c (by omega)).1
      have hsp := World.cell?_spot (hcell 0 (by omega)).1
      obtain ⟨bm, om, spot⟩ := a
      have hspot : spot = none := by simpa [Addr.add] using hsp
      subst hspot
      exact ⟨bm, om, rfl, by rw [← add_plain]; exact h0⟩
    · have h0 := (hcell i (by omega)).2
      unfold maxLen at h0
      omega
end Go.Proofs.YtkohhdkkbaifoaaGreatDoor
