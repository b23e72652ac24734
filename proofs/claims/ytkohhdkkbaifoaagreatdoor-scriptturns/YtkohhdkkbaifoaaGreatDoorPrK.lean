/-
  For script.Print: a chain in words.
-/
import Derived.Test.YtkohhdkkbaifoaaGreatDoorJn31
import Derived.Test.YtkohhdkkbaifoaaGreatDoorScI
namespace Go.Proofs.YtkohhdkkbaifoaaGreatDoor
open Go.RowKit PK Vg

/-- What keeps a chain from being written, and where; its text. -/
def prE (n : Nat) (l : Nat → Sp) : Int := if chE n l ≠ 0 then chE n l else if n = 0 then 5 else firV (fun i => woE (l i)) n
def prA (n : Nat) (l : Nat → Sp) : Nat := if chE n l ≠ 0 then chA n l else if n = 0 then 0 else firA (fun i => woE (l i)) n
def prW (s : Sp) : ByteArray := ⟨(Lib.join ((woW s).map (·.data.toList)) [32]).toArray⟩
def prL (n : Nat) (l : Nat → Sp) : List ByteArray := (List.range n).map fun i => prW (l i)
def prS (n : Nat) (l : Nat → Sp) : List UInt8 := Lib.join ((prL n l).map (·.data.toList)) [32, 124, 32]
theorem woE_cases (s : Sp) : woE s = 0 ∨ woE s = 7 := by
  unfold woE mcE
  split
  · split
    · exact .inr rfl
    · split
      · exact .inr rfl
      · exact .inl rfl
  · exact .inl rfl
theorem prW_len {s : Sp} (hs : stE s = 0) : (prW s).data.toList.length ≤ 20000 := by
  obtain ⟨h1, h2⟩ := woW_len hs (fun h => plS_len (st_rotor hs h))
  have h := join17_len ((woW s).map (·.data.toList)) [32] (k := 1000) (fun x hx => by obtain ⟨y, hy, rfl⟩ := List.mem_map.1 hx; exact h2 y hy)
  rw [List.length_map] at h
  have h3 : (1000 + [32].length) * (woW s).length ≤ 1001 * 18 := Nat.mul_le_mul_left _ h1
  exact Nat.le_trans h (Nat.le_trans h3 (by decide))
theorem prL_len (n : Nat) (l : Nat → Sp) : (prL n l).length = n := by simp [prL]
theorem prS_len {n : Nat} {l : Nat → Sp} (hn : n ≤ 64) (hs : ∀ i, i < n → stE (l i) = 0) : (prS n l).length ≤ 2000000 := by
  have h := join17_len ((prL n l).map (·.data.toList)) [32, 124, 32] (k := 20000) (fun x hx => by
    obtain ⟨y, hy, rfl⟩ := List.mem_map.1 hx
    obtain ⟨i, hi, rfl⟩ := List.mem_map.1 hy
    exact prW_len (hs i (by simpa using hi)))
  rw [List.length_map, prL_len] at h
  have h3 : (20000 + [32, 124, 32].length) * n ≤ 20003 * 64 := Nat.mul_le_mul_left _ hn
  exact Nat.le_trans h (Nat.le_trans h3 (by decide))
def prC (l : Nat → Sp) (m : Nat) : Nat → Value := fillV (fun i => .string (prW (l i))) (.string ⟨#[]⟩) m
set_option maxRecDepth 100000 in
set_option maxHeartbeats 4000000 in
theorem print1_any (bl : Nat) (a : Option Addr) (n cap : Nat) (l : Nat → Sp) (w : World) (hv : ChAt w (.slice a n cap) n l) (hx : RowAt w bl 22 #[.slice a n cap]) (hnm : NmAt w) (ho : OldAt w) : Calls Tryz.prog 47 #[.pointer (some ⟨bl, 0, none⟩)] w fun e w' => (prE n l = 0 → e = .returned (.string ⟨(prS n l).toArray⟩)) ∧ (prE n l ≠ 0 → e = .panicked [flt (prE n l) (prA n l)]) ∧ Below w.heap.size w w' := by
  have cl := RowAt.cell hx (i := 0) rfl
  have HX : Hid (RowAt w bl 22 #[.slice a n cap]) := hx
  have HV : Hid (ChAt w (.slice a n cap) n l) := hv
  have HNM : Hid (NmAt w ∧ OldAt w) := ⟨hnm, ho⟩
  clear hnm ho hx
  by_cases hce : chE n l = 0
  · obtain ⟨hn64, hall⟩ := chE_zero hce
    have HALL : Hid (∀ i, i < n → stE (l i) = 0) := hall
    have HC : Hid _ := cc_ok _ n l w hv hce
    have HPE : Hid (prE n l = if n = 0 then 5 else firV (fun i => woE (l i)) n) := by rw [Hid]; unfold prE; rw [if_neg (fun h => h hce)]
    have HPA : Hid (prA n l = if n = 0 then 0 else firA (fun i => woE (l i)) n) := by rw [Hid]; unfold prA; rw [if_neg (fun h => h hce)]
    clear hce hall hv
    go_enter Tryz.func47, Tryz.ntmps47
    go_wp2_with fail
    refine Calls.mono HC.out ?_
    rintro e V ⟨rfl, hb⟩
    have hxv := RowAt.below HX.out hb (RowAt.lt HX.out)
    have cv := RowAt.cell hxv (i := 0) rfl
    have HBV : Hid (Below w.heap.size w V) := hb
    clear hb hxv HC cl
    by_cases hn0 : n = 0
    · have HTH : Hid _ := throw_any 5 0 V
      have HE5 : Hid (prE n l = 5 ∧ prA n l = 0) := ⟨by rw [HPE.out, if_pos hn0], by rw [HPA.out, if_pos hn0]⟩
      subst hn0
      go_wp2_with fail
      refine Calls.mono HTH.out ?_
      rintro e V2 ⟨rfl, hV2⟩
      rw [hV2]
      exact ⟨rfl, fun h => absurd (HE5.out.1.symm.trans h) (by decide), fun _ => by rw [HE5.out.1, HE5.out.2]; rfl, HBV.out⟩
    have hn0b : ((n : Int) == 0) = false := beq_false_of_ne (by omega)
    have hmk := run_make_row' (P := Tryz.prog) 51 9 (.string ⟨#[]⟩) 16 Tryz.underlying51 str3 rfl .i64 .i64 n (by omega) (by omega)
    rw [made_tab] at hmk
    obtain ⟨W1, hW1⟩ : ∃ W1, W1 = V.alloc (.cells (tab n fun _ => .string ⟨#[]⟩) 9) := ⟨_, rfl⟩
    have hq1 : RowAt W1 V.heap.size 9 (tab n (prC l 0)) := by
      rw [hW1, show tab n (prC l 0) = tab n (fun _ => .string ⟨#[]⟩) from tab_ext (fun i _ => by simp [prC, fillV])]
      exact RowAt.new V _ _
    have hb1 : Below w.heap.size w W1 := by rw [hW1]; exact HBV.out.alloc HBV.out.size _
    have cw := RowAt.cell (RowAt.below HX.out hb1 (RowAt.lt HX.out)) (i := 0) rfl
    have HQ1 : Hid _ := hq1
    have HB1 : Hid (Below w.heap.size w W1) := hb1
    have HVZ : Hid (w.heap.size ≤ V.heap.size) := HBV.out.size
    clear hq1 hb1
    go_upto_region 5 with fail
    rw [← hW1]
    clear hW1 hmk cv HBV
    go_wp2
    clear cw
    go_loopw [16] (fun i W => ∃ m : Nat, m ≤ n ∧ i = .int .i64 m ∧ Hid (RowAt W V.heap.size 9 (tab n (prC l m))) ∧ Hid (∀ j, j < m → woE (l j) = 0) ∧ Hid (Below w.heap.size w W)) (fun i _ => ((n : Int) - intOf i).toNat)
    case atStart => exact ⟨0, by omega, rfl, HQ1, fun j hj => by omega, HB1⟩
    case round =>
      clear HQ1 HB1
      obtain ⟨m, hm, rfl, HQ, HJ, HB⟩ := hrel
      by_cases hlt : m < n
      · obtain ⟨cb, co, CS, rfl, hrg, HSQ⟩ : ∃ cb co CS, a = some ⟨cb, co, none⟩ ∧ wr.rangeAt cb (co + m * 59) CS.toList ∧ Hid (SqAt wr (.agg CS) (l m)) := by
          obtain ⟨_, _, R, e, _, h1, h2⟩ := HV.out.below HB.out
          cases e
          obtain ⟨b, o, e, hc⟩ := h1 m hlt
          exact ⟨b, o, R m, e, hc, h2 m hlt⟩
        have hmi : (m : Int) < (n : Int) := by omega
        obtain ⟨hcs, hco⟩ := sq_size HSQ.out
        have HCO : Hid (CS.all (·.oneCell') = true) := hco
        have hz59 := o_zero s_zero
        obtain ⟨X, hX⟩ : ∃ X, X = (wr.alloc (.cells (spA 0 0 ⟨#[]⟩ (.slice none 0 0) (.slice none 0 0) (.slice none 0 0) (.slice none 0 0) (fun _ => 0) (fun _ => 0)) 31)).setRow wr.heap.size CS := ⟨_, rfl⟩
        have hxb : Below wr.heap.size wr X := by rw [hX]; exact PK.Below.setRow ((Below.refl _ wr).alloc (Nat.le_refl _) _) wr.heap.size (Nat.le_refl _) _
        have hxr : RowAt X wr.heap.size 31 CS := by rw [hX]; exact (RowAt.new wr _ _).row _
        have hbx := HB.out.trans (hxb.mono HB.out.size)
        have hst := HALL.out m hlt
        have HWO : Hid _ := wordsOf_any CS (l m) m X (HSQ.out.below hxb) hst (HNM.out.1.below hbx) (HNM.out.2.below hbx)
        have HQX : Hid (RowAt X V.heap.size 9 (tab n (prC l m))) := RowAt.below HQ.out hxb (RowAt.lt HQ.out)
        have HBX : Hid (Below w.heap.size w X) := hbx
        have HWL : Hid _ := woW_len hst (fun h => plS_len (st_rotor hst h))
        have HPL : Hid ((prW (l m)).data.toList.length ≤ 20000) := prW_len hst
        clear hxb hbx hco HSQ HQ HB hst
        go_upto_region 8 with (first | refine wpList_load_arr rfl 31 _ rfl cb (co + m * 59) rfl CS _ hrg Tryz.underlying31 rfl (by rw [hcs]; exact s_info) ?_ | refine wpList_store_row rfl 31 _ _ rfl wr.heap.size CS rfl rfl 31 _ (RowAt.new wr _ _) (by rw [hcs]; exact s_info) (by rw [hcs, spA_size]) HCO.out ?_)
        rw [← hX]
        clear hX hrg
        go_wp2_with (first | refine wpList_load_row rfl 31 _ rfl wr.heap.size rfl 31 CS (0, 0) _ hxr Tryz.underlying31 rfl (by rw [hcs]; exact s_info) ?_)
        refine Calls.mono HWO.out ?_
        rintro e V2 ⟨hbad, hgood, hb2⟩
        have HB2 : Hid (Below w.heap.size w V2) := HBX.out.trans (hb2.mono HBX.out.size)
        by_cases hE : ¬ woE (l m) = 0
        · obtain rfl := hbad hE
          have h7 : woE (l m) = 7 := by rcases woE_cases (l m) with h | h; exact absurd h hE; exact h
          have hfi := firV_of (f := fun i => woE (l i)) hlt HJ.out hE
          have hE1 : prE n l = 7 := by rw [HPE.out, if_neg hn0, hfi.1, h7]
          have hA1 : prA n l = m := by rw [HPA.out, if_neg hn0, hfi.2]
          exact ⟨rfl, fun h => absurd (hE1.symm.trans h) (by decide), fun _ => by rw [hE1, hA1], HB2.out⟩
        have hE := Decidable.not_not.1 hE
        obtain ⟨v', rfl, hO⟩ := hgood hE
        have hne : woW (l m) ≠ [] := by unfold woW; intro h; cases h
        obtain ⟨ng, ncap, rfl, _, hng, hcap, hnc⟩ := hO.cells hne
        have hJN := join_any ng 0 ncap (woW (l m)) ⟨#[32]⟩ V2 hnc hng (by have := HWL.out.1; omega) hcap (Nat.le_trans HPL.out (by decide))
        change Calls Tryz.prog 49 _ _ fun e w' => e = .returned (.string (prW (l m))) ∧ _ at hJN
        have HJN : Hid _ := hJN
        have HQ2 : Hid (RowAt V2 V.heap.size 9 (tab n (prC l m))) := RowAt.below HQX.out hb2 (RowAt.lt HQX.out)
        have HJ2 : Hid (∀ j, j < m + 1 → woE (l j) = 0) := fun j hj => by
          by_cases e : j = m
          · rw [e]; exact hE
          · exact HJ.out j (by omega)
        have HLN : Hid ((woW (l m)).length ≤ 18) := HWL.out.1
        generalize hWL : (woW (l m)).length = WL at *
        clear hWL hbad hgood hO hne hng hcap hnc hb2 hJN hE HJ HWL HPL HWO HQX HBX hxr hcs HCO hlt
        go_wp2_with fail
        refine Calls.mono HJN.out ?_
        rintro e V3 ⟨rfl, hb3⟩
        have hq3 := RowAt.below HQ2.out hb3 (RowAt.lt HQ2.out)
        have k0 := RowAt.cell hq3 (tab_get (prC l m) (show m < n by omega))
        have kf := RowAt.frozen hq3 m
        have hput : RowAt (V3.setCell ⟨V.heap.size, m, none⟩ (.string (prW (l m)))) V.heap.size 9 (tab n (prC l (m + 1))) := by
          have h := RowAt.set hq3 m (.string (prW (l m)))
          rw [tab_set] at h
          unfold prC at h ⊢
          rw [fillV_step _ _ _ _ rfl] at h
          exact h
        have hb4 := HB2.out.trans (hb3.mono HB2.out.size)
        have HB4 : Hid (Below w.heap.size w (V3.setCell ⟨V.heap.size, m, none⟩ (.string (prW (l m))))) := hb4.setCell (p := ⟨V.heap.size, m, none⟩) HVZ.out _
        have HPUT : Hid _ := hput
        clear hq3 hput hb4 hb3 HJN HQ2 HB2
        generalize prW (l m) = PW at *
        generalize prC l m m = OV at *
        go_wp2
        go_roundw
        case rel => exact ⟨m + 1, by omega, by go_num, HPUT, HJ2, HB4⟩
        case measure => simp [intOf]; omega
      · obtain rfl : m = n := by omega
        have hmi : ¬ (m : Int) < (m : Int) := by omega
        have HE0 : Hid (prE m l = 0) := by rw [Hid, HPE.out, if_neg hn0, firV_all HJ.out]
        have hjl := prL_len m l
        have hJN := join_any V.heap.size 0 m (prL m l) ⟨#[32, 124, 32]⟩ wr (fun j x hx => by
            have hj : j < m := by
              have := (List.getElem?_eq_some_iff.1 hx).1
              omega
            rw [Nat.zero_add]
            have h1 := RowAt.cell HQ.out (tab_get (prC l m) hj)
            have h2 : prC l m j = .string x := by
              unfold prC fillV
              rw [if_pos hj]
              unfold prL at hx
              rw [List.getElem?_map, List.getElem?_range hj] at hx
              cases hx
              rfl
            rw [h2] at h1
            exact h1) (RowAt.lt HQ.out) (by omega) (by omega) (Nat.le_trans (prS_len hn64 HALL.out) (by decide))
        rw [hjl] at hJN
        change Calls Tryz.prog 49 _ _ fun e w' => e = .returned (.string ⟨(prS m l).toArray⟩) ∧ _ at hJN
        have HJN : Hid _ := hJN
        clear hJN hjl HJ HPE HPA
        go_wp2_with fail
        refine Calls.mono HJN.out ?_
        rintro e V3 ⟨rfl, hb3⟩
        have HB3 : Hid (Below w.heap.size w V3) := HB.out.trans (hb3.mono HB.out.size)
        clear hb3 HJN
        go_wp2
        go_ret
        exact ⟨fun _ => rfl, fun h => absurd HE0.out h, HB3.out⟩
  · have HC : Hid _ := cc_bad _ n l w hv hce
    have HPE : Hid (prE n l = chE n l ∧ prA n l = chA n l) := ⟨by unfold prE; rw [if_pos hce], by unfold prA; rw [if_pos hce]⟩
    have HNE : Hid (chE n l ≠ 0) := hce
    clear hce hv
    go_enter Tryz.func47, Tryz.ntmps47
    go_wp2_with fail
    refine Calls.mono HC.out ?_
    rintro e V ⟨rfl, hb⟩
    exact ⟨rfl, fun h => absurd (HPE.out.1.symm.trans h) HNE.out, fun _ => by rw [HPE.out.1, HPE.out.2], hb⟩
end Go.Proofs.YtkohhdkkbaifoaaGreatDoor
