/-
  Several texts, joined: PrI, PrJ, PtA, PtB, PtC, PTurn, PrK.
-/
import Derived.Test.YtkohhdkkbaifoaaGreatDoorJn25
import Derived.Test.YtkohhdkkbaifoaaGreatDoorJn22
import Derived.Lib.Join
import Derived.Test.YtkohhdkkbaifoaaGreatDoorJn21
import Derived.Test.YtkohhdkkbaifoaaGreatDoorScI
/-
  For script.Print: a step in words.
-/
namespace Go.Proofs.YtkohhdkkbaifoaaGreatDoor
open Go.RowKit PK Vg

def woE (s:Sp):Int:=if s.k=6 then mcE s.g else 0
def woW (s:Sp):List ByteArray:=[nmO s]++(if s.k=1∨s.k=3 then [dcD s.n] else if s.k=2∨s.k=4 then [s.key] else if s.k=5 then mwL s.r s.L s.Z s.r else mcW s.g)
set_option maxRecDepth 100000 in
set_option maxHeartbeats 4000000 in
theorem wordsOf_any (CS : Array Value) (s : Sp) (place : Nat) (w : World) (hc : SqAt w (.agg CS) s) (hs : stE s = 0) (hnm : NmAt w) (ho : OldAt w) : Calls Tryz.prog 50 #[.agg CS, .int .i64 (place : Int)] w fun e w' => (woE s ≠ 0 → e = .panicked [flt 7 (place : Int)]) ∧ (woE s = 0 → ∃ v, e = .returned v ∧ OwT w' w.heap.size v (woW s)) ∧ Below w.heap.size w w' := by
  have hc0 := hc
  obtain ⟨mv, av, bv, cv, hM0, hmv, hav, hbv, hcv⟩ := hc
  have hCS := Value.agg.inj hM0
  clear hM0
  obtain ⟨W0, hW0⟩ : ∃ W0, W0 = w.alloc (.cells CS 31) := ⟨_, rfl⟩
  have hb0 : Below w.heap.size w W0 := by rw [hW0]; exact (Below.refl _ w).alloc (Nat.le_refl _) _
  have hq0 : RowAt W0 w.heap.size 31 CS := by rw [hW0]; exact RowAt.new w _ _
  have HSZ : Hid (CS.size = 59) := by rw [Hid, hCS]; exact spA_size _ _ _ _ _ _ _ _ _
  have HNO : Hid _ := nameOf_any s hs CS W0 (hc0.below hb0) (hnm.below hb0)
  have HCS : Hid _ := hCS
  have HMV : Hid (MatAt w mv s.r s.L s.Z) := hmv
  have HMC : Hid (MacAt w (.agg (mac av bv cv s.g.rf s.g.pl)) s.g) := ⟨av, bv, cv, rfl, hav, hbv, hcv⟩
  have HOL : Hid (OldAt w) := ho
  have HQ0 : Hid _ := hq0
  have HB0 : Hid (Below w.heap.size w W0) := hb0
  obtain ⟨i0, hi0, hz0, hz1, hz2⟩ := info17 str3
  clear hc0 hmv hav hbv hcv hCS hnm ho hb0
  go_enter Tryz.func50, Tryz.ntmps50
  go_upto_region 1 with fail
  rw [← hW0]
  clear hW0
  go_wp2_with (first | refine wpList_load_row rfl 31 _ rfl w.heap.size rfl 31 CS (0, 0) _ hq0 Tryz.underlying31 rfl (by rw [HSZ.out]; exact s_info) ?_)
  refine Calls.mono HNO.out ?_
  rintro e V ⟨rfl, hb⟩
  obtain ⟨V2, hV2⟩ : ∃ V2, V2 = V.alloc (.cells #[.string (nmO s)] 9) := ⟨_, rfl⟩
  have hbv := HB0.out.trans (hb.mono HB0.out.size)
  have hb2 : Below w.heap.size w V2 := by rw [hV2]; exact hbv.alloc hbv.size _
  have hown : V2.ownsRow w.heap.size 9 1 (.slice (some ⟨V.heap.size, 0, none⟩) 1 1) 1 [.string (nmO s)] := by rw [hV2]; exact OwT.first hbv.size (nmO s)
  have hq2 : RowAt V2 w.heap.size 31 CS := by rw [hV2]; exact RowAt.alloc (RowAt.below HQ0.out hb (RowAt.lt HQ0.out)) _
  have d0 : V2.cell? ⟨w.heap.size, 0, none⟩ = some (.int .i64 s.k) := RowAt.cell hq2 (by rw [HCS.out]; exact spA_0 _ _ _ _ _ _ _ _ _)
  have d1 : V2.cell? ⟨w.heap.size, 1, none⟩ = some (.int .i64 s.n) := RowAt.cell hq2 (by rw [HCS.out]; exact spA_1 _ _ _ _ _ _ _ _ _)
  have d2 : V2.cell? ⟨w.heap.size, 2, none⟩ = some (.string s.key) := RowAt.cell hq2 (by rw [HCS.out]; exact spA_2 _ _ _ _ _ _ _ _ _)
  have d3 : V2.cell? ⟨w.heap.size, 3, none⟩ = some mv := RowAt.cell hq2 (by rw [HCS.out]; exact spA_3 _ _ _ _ _ _ _ _ _)
  have HB2 : Hid (Below w.heap.size w V2) := hb2
  have hv2 : w.heap.size ≤ V2.heap.size := hb2.size
  have HQ2 : Hid _ := hq2
  clear hb hbv hb2 hq0 hq2 HNO HQ0 HB0
  go_upto_region 2 with fail
  rw [← hV2]
  clear hV2
  have hkk := st_kinds hs
  by_cases hk : s.k = 1
  · have HE0 : Hid (woE s = 0) := by rw [Hid]; unfold woE; rw [if_neg (by omega)]
    have HWW : Hid (woW s = [nmO s] ++ [dcD s.n]) := by rw [Hid]; unfold woW; rw [if_pos (by omega)]
    obtain ⟨n, hn⟩ : ∃ n : Nat, s.n = n := ⟨s.n.toNat, by have := st_move hs hk; omega⟩
    have hn100 : n < 100 := by have := st_move hs hk; omega
    have HIT : Hid _ := itoa_any n hn100 V2
    have HDC : Hid (dcD s.n = ⟨(Lib.decDigits n).toArray⟩) := by rw [Hid, hn]; rfl
    rw [HDC.out] at HWW
    rw [hk] at d0
    rw [hn] at d1
    generalize nmO s = NO at *
    clear hs hn
    go_wp2_with fail
    refine Calls.mono HIT.out ?_
    rintro e V3 ⟨rfl, hV3⟩
    rw [hV3]
    clear hV3 V3 HIT
    go_wp2_with (first | (at_builtin; refine wpList_append_own_at _ rfl _ _ 51 rfl w.heap.size 9 i0 (.string ⟨#[]⟩) 1 16 Tryz.underlying51 hi0 hz0 hz1 hz2 rfl (by decide) _ _ _ rfl (World.ownsRow.alloc hown _) ⟨V2.heap.size, 0, none⟩ 1 1 [.string ⟨(Lib.decDigits n).toArray⟩] rfl rfl (cell_one_new _ _ _) (fun u hu => by simp at hu; subst hu; rfl) (by unfold maxLen; omega) (by omega) (by simp; omega) ?_; intro v6 w6 hown6 hgrow6 _ _; obtain ⟨g6, c6, rfl⟩ := own_form17 hown6; have HOWN : Hid _ := hown6; have HGR : Hid _ := hgrow6; clear hown6 hgrow6))
    have hal : Below V2.heap.size V2 (V2.alloc (.cells #[.string ⟨(Lib.decDigits n).toArray⟩] 9)) := (Below.refl _ V2).alloc (Nat.le_refl _) _
    have HB6 : Hid (Below w.heap.size w w6) := (HB2.out.trans (hal.mono hv2)).grown HGR.out (by rw [World.size_alloc]; omega) (fun r e => (World.ownsRow.lt hown r e).1)
    clear hal
    go_wp2
    go_ret
    exact ⟨fun h => absurd HE0.out h, fun _ => ⟨_, rfl, by rw [HWW.out]; exact HOWN.out⟩, HB6.out⟩
  by_cases hk : s.k = 3
  · have HE0 : Hid (woE s = 0) := by rw [Hid]; unfold woE; rw [if_neg (by omega)]
    have HWW : Hid (woW s = [nmO s] ++ [dcD s.n]) := by rw [Hid]; unfold woW; rw [if_pos (by omega)]
    obtain ⟨n, hn⟩ : ∃ n : Nat, s.n = n := ⟨s.n.toNat, by have := st_rail hs hk; omega⟩
    have hn100 : n < 100 := by have := st_rail hs hk; omega
    have HIT : Hid _ := itoa_any n hn100 V2
    have HDC : Hid (dcD s.n = ⟨(Lib.decDigits n).toArray⟩) := by rw [Hid, hn]; rfl
    rw [HDC.out] at HWW
    rw [hk] at d0
    rw [hn] at d1
    generalize nmO s = NO at *
    clear hs hn
    go_wp2_with fail
    refine Calls.mono HIT.out ?_
    rintro e V3 ⟨rfl, hV3⟩
    rw [hV3]
    clear hV3 V3 HIT
    go_wp2_with (first | (at_builtin; refine wpList_append_own_at _ rfl _ _ 51 rfl w.heap.size 9 i0 (.string ⟨#[]⟩) 1 16 Tryz.underlying51 hi0 hz0 hz1 hz2 rfl (by decide) _ _ _ rfl (World.ownsRow.alloc hown _) ⟨V2.heap.size, 0, none⟩ 1 1 [.string ⟨(Lib.decDigits n).toArray⟩] rfl rfl (cell_one_new _ _ _) (fun u hu => by simp at hu; subst hu; rfl) (by unfold maxLen; omega) (by omega) (by simp; omega) ?_; intro v6 w6 hown6 hgrow6 _ _; obtain ⟨g6, c6, rfl⟩ := own_form17 hown6; have HOWN : Hid _ := hown6; have HGR : Hid _ := hgrow6; clear hown6 hgrow6))
    have hal : Below V2.heap.size V2 (V2.alloc (.cells #[.string ⟨(Lib.decDigits n).toArray⟩] 9)) := (Below.refl _ V2).alloc (Nat.le_refl _) _
    have HB6 : Hid (Below w.heap.size w w6) := (HB2.out.trans (hal.mono hv2)).grown HGR.out (by rw [World.size_alloc]; omega) (fun r e => (World.ownsRow.lt hown r e).1)
    clear hal
    go_wp2
    go_ret
    exact ⟨fun h => absurd HE0.out h, fun _ => ⟨_, rfl, by rw [HWW.out]; exact HOWN.out⟩, HB6.out⟩
  by_cases hk : s.k = 2
  · have HE0 : Hid (woE s = 0) := by rw [Hid]; unfold woE; rw [if_neg (by omega)]
    have HWW : Hid (woW s = [nmO s] ++ [s.key]) := by rw [Hid]; unfold woW; rw [if_neg (by omega), if_pos (by omega)]
    rw [hk] at d0
    generalize nmO s = NO at *
    generalize s.key = KEY at *
    clear hs
    go_wp2_with (first | (at_builtin; refine wpList_append_own_at _ rfl _ _ 51 rfl w.heap.size 9 i0 (.string ⟨#[]⟩) 1 16 Tryz.underlying51 hi0 hz0 hz1 hz2 rfl (by decide) _ _ _ rfl (World.ownsRow.alloc hown _) ⟨V2.heap.size, 0, none⟩ 1 1 [.string KEY] rfl rfl (cell_one_new _ _ _) (fun u hu => by simp at hu; subst hu; rfl) (by unfold maxLen; omega) (by omega) (by simp; omega) ?_; intro v6 w6 hown6 hgrow6 _ _; obtain ⟨g6, c6, rfl⟩ := own_form17 hown6; have HOWN : Hid _ := hown6; have HGR : Hid _ := hgrow6; clear hown6 hgrow6))
    have hal : Below V2.heap.size V2 (V2.alloc (.cells #[.string KEY] 9)) := (Below.refl _ V2).alloc (Nat.le_refl _) _
    have HB6 : Hid (Below w.heap.size w w6) := (HB2.out.trans (hal.mono hv2)).grown HGR.out (by rw [World.size_alloc]; omega) (fun r e => (World.ownsRow.lt hown r e).1)
    clear hal
    go_wp2
    go_ret
    exact ⟨fun h => absurd HE0.out h, fun _ => ⟨_, rfl, by rw [HWW.out]; exact HOWN.out⟩, HB6.out⟩
  by_cases hk : s.k = 4
  · have HE0 : Hid (woE s = 0) := by rw [Hid]; unfold woE; rw [if_neg (by omega)]
    have HWW : Hid (woW s = [nmO s] ++ [s.key]) := by rw [Hid]; unfold woW; rw [if_neg (by omega), if_pos (by omega)]
    rw [hk] at d0
    generalize nmO s = NO at *
    generalize s.key = KEY at *
    clear hs
    go_wp2_with (first | (at_builtin; refine wpList_append_own_at _ rfl _ _ 51 rfl w.heap.size 9 i0 (.string ⟨#[]⟩) 1 16 Tryz.underlying51 hi0 hz0 hz1 hz2 rfl (by decide) _ _ _ rfl (World.ownsRow.alloc hown _) ⟨V2.heap.size, 0, none⟩ 1 1 [.string KEY] rfl rfl (cell_one_new _ _ _) (fun u hu => by simp at hu; subst hu; rfl) (by unfold maxLen; omega) (by omega) (by simp; omega) ?_; intro v6 w6 hown6 hgrow6 _ _; obtain ⟨g6, c6, rfl⟩ := own_form17 hown6; have HOWN : Hid _ := hown6; have HGR : Hid _ := hgrow6; clear hown6 hgrow6))
    have hal : Below V2.heap.size V2 (V2.alloc (.cells #[.string KEY] 9)) := (Below.refl _ V2).alloc (Nat.le_refl _) _
    have HB6 : Hid (Below w.heap.size w w6) := (HB2.out.trans (hal.mono hv2)).grown HGR.out (by rw [World.size_alloc]; omega) (fun r e => (World.ownsRow.lt hown r e).1)
    clear hal
    go_wp2
    go_ret
    exact ⟨fun h => absurd HE0.out h, fun _ => ⟨_, rfl, by rw [HWW.out]; exact HOWN.out⟩, HB6.out⟩
  by_cases hk : s.k = 5
  · obtain ⟨hgm, hlm⟩ := (matErr_zero _ _ _).1 (st_hill hs hk)
    have HE0 : Hid (woE s = 0) := by rw [Hid]; unfold woE; rw [if_neg (by omega)]
    have HWW : Hid (woW s = [nmO s] ++ mwL s.r s.L s.Z s.r) := by rw [Hid]; unfold woW; rw [if_neg (by omega), if_neg (by omega), if_pos hk]
    obtain ⟨ma, mc, _, rfl, -⟩ := id HMV.out
    have hr4 := hgm.le
    have HMW : Hid _ := matrixWords_any _ s.r s.L s.Z hr4 (fun r hr => by rw [hlm r hr]; exact hr4) (fun r hr c hc => by rw [hlm r hr] at hc; have := hgm.num r hr c hc; omega) V2 (HMV.out.below HB2.out)
    have hlen : (mwL s.r s.L s.Z s.r).length ≤ 17 := by have := mwL_len (n := s.r) (Z := s.Z) (L := s.L) s.r (fun r hr => by rw [hlm r hr]; exact hr4); omega
    have hne : mwL s.r s.L s.Z s.r ≠ [] := by
      cases hr0 : s.r with
      | zero => have := hgm.pos; omega
      | succ y => rw [show mwL (y + 1) s.L s.Z (y + 1) = mwL (y + 1) s.L s.Z y ++ mwR (s.Z y) (s.L y) from rfl]; have hL : s.L y = y + 1 := by rw [hlm y (by omega), hr0]
                  intro h; have := congrArg List.length h; rw [List.length_append, mwR_len, hL] at this; simp at this
    rw [hk] at d0
    clear hs hgm hlm hkk
    go_wp2_with fail
    refine Calls.mono HMW.out ?_
    rintro e V3 ⟨v', rfl, hO3, hb3⟩
    have hown3 := own_step17 hown hb3
    obtain ⟨ng, ncap, rfl, _, hng, hcap, hnc⟩ := hO3.cells hne
    have HNC : Hid _ := hnc
    have HB3 : Hid (Below w.heap.size w V3) := HB2.out.trans (hb3.mono hv2)
    have hv3 : w.heap.size ≤ V3.heap.size := HB3.out.size
    clear hO3 hnc hb3 hown hcap hng
    generalize hLL : mwL s.r s.L s.Z s.r = LL at *
    clear hLL
    go_wp2_with (first | (at_builtin; refine wpList_append_own_at _ rfl _ _ 51 rfl w.heap.size 9 i0 (.string ⟨#[]⟩) 1 16 Tryz.underlying51 hi0 hz0 hz1 hz2 rfl (by decide) _ _ _ rfl hown3 ⟨ng, 0, none⟩ LL.length ncap (LL.map Value.string) rfl (by rw [List.length_map, Nat.mul_one]) (fun j u hu => by rw [List.getElem?_map] at hu; obtain ⟨x, hx, rfl⟩ := Option.map_eq_some_iff.1 hu; rw [Addr.add_mid]; exact HNC.out j x hx) (fun u hu => by obtain ⟨x, _, rfl⟩ := List.mem_map.1 hu; rfl) (by unfold maxLen; omega) (by omega) (by omega) ?_; intro v6 w6 hown6 hgrow6 _ _; obtain ⟨g6, c6, rfl⟩ := own_form17 hown6; have HOWN : Hid _ := hown6; have HGR : Hid _ := hgrow6; clear hown6 hgrow6))
    have HB6 : Hid (Below w.heap.size w w6) := HB3.out.grown HGR.out hv3 (fun r e => (World.ownsRow.lt hown3 r e).1)
    go_wp2
    go_ret
    exact ⟨fun h => absurd HE0.out h, fun _ => ⟨_, rfl, by rw [HWW.out]; unfold OwT; rw [List.length_append, List.map_append]; exact HOWN.out⟩, HB6.out⟩
  · have hk6 : s.k = 6 := by omega
    have hge := st_rotor hs hk6
    have HMW : Hid _ := machineWords_any _ s.g place V2 (HMC.out.below HB2.out) hge (HOL.out.below HB2.out)
    have r4 : V2.rangeAt w.heap.size 4 (mac av bv cv s.g.rf s.g.pl).toList := fun j v hv => RowAt.cell HQ2.out (by rw [HCS.out, spA_mac, ← Array.getElem?_toList]; exact hv)
    have HEM : Hid (woE s = mcE s.g) := by rw [Hid]; unfold woE; rw [if_pos hk6]
    have HWW : Hid (woW s = [nmO s] ++ mcW s.g) := by rw [Hid]; unfold woW; rw [if_neg (by omega), if_neg (by omega), if_neg (by omega)]
    have HMS : Hid ((mac av bv cv s.g.rf s.g.pl).size = 55) := mac_size _ _ _ _ _
    obtain ⟨MM, hMM⟩ : ∃ MM, MM = mac av bv cv s.g.rf s.g.pl := ⟨_, rfl⟩
    rw [← hMM] at HMW r4 HMS
    rw [hk6] at d0
    clear hs hkk hk hge hMM
    go_wp2_with (first | refine wpList_load_arr rfl 29 _ rfl w.heap.size 4 rfl MM _ r4 Tryz.underlying29 rfl (by rw [HMS.out]; exact v_info_mac) ?_)
    refine Calls.mono HMW.out ?_
    rintro e V3 ⟨hbad, hgood, hb3⟩
    by_cases hE : ¬ mcE s.g = 0
    · obtain rfl := hbad hE
      exact ⟨rfl, fun _ => rfl, fun h => absurd (HEM.out.symm.trans h) hE, HB2.out.trans (hb3.mono hv2)⟩
    have hE := Decidable.not_not.1 hE
    have HE0 : Hid (woE s = 0) := HEM.out.trans hE
    obtain ⟨v', rfl, hO3⟩ := hgood hE
    have hlen : (mcW s.g).length ≤ 17 := by
      unfold mcW
      rw [List.length_append]
      have h1 : (mc4 s.g).length = 4 := rfl
      split
      · rw [h1]; decide
      · rw [h1]; simp
    have hne : mcW s.g ≠ [] := by
      unfold mcW mc4
      intro h
      cases h
    clear hbad hgood HMW HEM r4
    have hown3 := own_step17 hown hb3
    obtain ⟨ng, ncap, rfl, _, hng, hcap, hnc⟩ := hO3.cells hne
    have HNC : Hid _ := hnc
    have HB3 : Hid (Below w.heap.size w V3) := HB2.out.trans (hb3.mono hv2)
    have hv3 : w.heap.size ≤ V3.heap.size := HB3.out.size
    clear hO3 hnc hb3 hown hcap hng
    generalize hLL : mcW s.g = LL at *
    clear hLL
    go_wp2_with (first | (at_builtin; refine wpList_append_own_at _ rfl _ _ 51 rfl w.heap.size 9 i0 (.string ⟨#[]⟩) 1 16 Tryz.underlying51 hi0 hz0 hz1 hz2 rfl (by decide) _ _ _ rfl hown3 ⟨ng, 0, none⟩ LL.length ncap (LL.map Value.string) rfl (by rw [List.length_map, Nat.mul_one]) (fun j u hu => by rw [List.getElem?_map] at hu; obtain ⟨x, hx, rfl⟩ := Option.map_eq_some_iff.1 hu; rw [Addr.add_mid]; exact HNC.out j x hx) (fun u hu => by obtain ⟨x, _, rfl⟩ := List.mem_map.1 hu; rfl) (by unfold maxLen; omega) (by omega) (by omega) ?_; intro v6 w6 hown6 hgrow6 _ _; obtain ⟨g6, c6, rfl⟩ := own_form17 hown6; have HOWN : Hid _ := hown6; have HGR : Hid _ := hgrow6; clear hown6 hgrow6))
    have HB6 : Hid (Below w.heap.size w w6) := HB3.out.grown HGR.out hv3 (fun r e => (World.ownsRow.lt hown3 r e).1)
    go_wp2
    go_ret
    exact ⟨fun h => absurd HE0.out h, fun _ => ⟨_, rfl, by rw [HWW.out]; unfold OwT; rw [List.length_append, List.map_append]; exact HOWN.out⟩, HB6.out⟩
end Go.Proofs.YtkohhdkkbaifoaaGreatDoor

/-
  For script.Print: how long words are.
-/
namespace Go.Proofs.YtkohhdkkbaifoaaGreatDoor
open Go.RowKit PK Vg

theorem nmN_len (i:Nat):(nmN i).data.toList.length≤8:=by
 match i with
 | 0=>decide
 | 1=>decide
 | 2=>decide
 | 3=>decide
 | 4=>decide
 | 5=>decide
 | 6=>decide
 | _+7=>exact Nat.zero_le _
theorem tbN_len (i:Nat):(tbN i).data.toList.length≤8:=by
 match i with
 | 0=>decide
 | 1=>decide
 | 2=>decide
 | 3=>decide
 | 4=>decide
 | _+5=>exact Nat.zero_le _
theorem nmO_len (s:Sp):(nmO s).data.toList.length≤8:=by
 unfold nmO
 split
 ·exact tbN_len _
 ·exact nmN_len _
theorem dc_len:∀i,i<100→(Lib.decDigits i).length≤2:=by decide +kernel
theorem dcD_len {x:Int} (h:0≤x∧x<100):(dcD x).data.toList.length≤2:=dc_len x.toNat (by omega)
theorem mrN_len (i:Nat):(mrN i).data.toList.length≤1:=by
 match i with
 | 0=>decide
 | 1=>decide
 | _+2=>exact Nat.zero_le _
theorem mwL_word {n:Nat} {L:Nat→Nat} {Z:Nat→Nat→Int} (hn:n<100):∀y,(∀r,r<y→∀c,c<L r→0≤Z r c∧Z r c<100)→∀x ∈ mwL n L Z y,x.data.toList.length≤2
 | 0,_,x,hx=>by
  have e:x=dcD n:=by simpa [mwL] using hx
  rw[e];exact dcD_len (by omega)
 | y+1,h,x,hx=>by
  rcases List.mem_append.1 (show x ∈ mwL n L Z y++mwR (Z y) (L y) from hx) with h1 | h1
  ·exact mwL_word hn y (fun r hr=>h r (by omega)) x h1
  ·obtain ⟨c,hc,rfl⟩:=List.mem_map.1 h1
   exact dcD_len (h y (by omega) c (by simpa using hc))
theorem mcW_word {g:Gm} (hg:gE g=0) (hp:(plS g).length≤1000):∀x ∈ mcW g,x.data.toList.length≤1000:=by
 obtain ⟨⟨_,hn⟩,_,⟨h4,_⟩,⟨h6,_⟩,_⟩:=gE_zero hg
 intro x hx
 have h1:=mcN_join g hn
 unfold mcW mc4 at hx
 rcases List.mem_append.1 hx with h | h
 ·simp only[List.mem_cons,List.mem_nil_iff,or_false] at h
  rcases h with rfl | rfl | rfl | rfl
  ·exact Nat.le_trans h1 (by decide)
  ·exact Nat.le_trans (mrN_len _) (by decide)
  ·show (sptL g.rl g.ri).length≤1000;rw[sptL_length];omega
  ·show (sptL g.sl g.st).length≤1000;rw[sptL_length];omega
 ·split at h
  ·cases h
  ·simp only[List.mem_cons,List.mem_nil_iff,or_false] at h
   rw[h]
   exact hp
theorem mcW_len (g:Gm):(mcW g).length≤17:=by
 unfold mcW
 rw[List.length_append]
 have h1:(mc4 g).length=4:=rfl
 split
 ·rw[h1];decide
 ·rw[h1];simp
theorem plS_len {g:Gm} (hg:gE g=0):(plS g).length≤1000:=by
 obtain ⟨_,_,_,_,_,h10,_⟩:=gE_zero hg
 obtain ⟨hpl,_⟩:=perm_toNat h10
 have h1:=wrAll_len (Pm.cycs (fun c=>(g.pl c).toNat) 26) (fun l hl=>(cycs_each hpl l hl).2)
 have h2:(Pm.cycs (fun c=>(g.pl c).toNat) 26).length≤26:=Pm.cycs_len _ 26
 unfold plS
 omega
theorem woW_len {s:Sp} (hs:stE s=0) (hp:s.k=6→(plS s.g).length≤1000):(woW s).length≤18∧∀x ∈ woW s,x.data.toList.length≤1000:=by
 have h0:=nmO_len s
 unfold woW
 have key:∀r:List ByteArray,r.length≤17→(∀x ∈ r,x.data.toList.length≤1000)→([nmO s]++r).length≤18∧∀x ∈ [nmO s]++r,x.data.toList.length≤1000:=fun r h1 h2=>by
  refine ⟨by rw[List.length_append];show 1+r.length≤18;omega,fun x hx=>?_⟩
  rcases List.mem_append.1 hx with h | h
  ·simp only[List.mem_cons,List.mem_nil_iff,or_false] at h
   rw[h];omega
  ·exact h2 x h
 by_cases h13:s.k=1∨s.k=3
 ·rw[if_pos h13]
  refine key _ (by simp) (fun x hx=>?_)
  simp only[List.mem_cons,List.mem_nil_iff,or_false] at hx
  rw[hx]
  rcases h13 with h | h
  ·have:=st_move hs h;exact Nat.le_trans (dcD_len (by omega)) (by decide)
  ·have:=st_rail hs h;exact Nat.le_trans (dcD_len (by omega)) (by decide)
 rw[if_neg h13]
 by_cases h24:s.k=2∨s.k=4
 ·rw[if_pos h24]
  refine key _ (by simp) (fun x hx=>?_)
  simp only[List.mem_cons,List.mem_nil_iff,or_false] at hx
  rw[hx]
  rcases h24 with h | h
  ·have:=(st_tab hs h).2.2.2;omega
  ·have:=(st_col hs h).2.2;omega
 rw[if_neg h24]
 by_cases h5:s.k=5
 ·rw[if_pos h5]
  obtain ⟨hgm,hlm⟩:=(matErr_zero _ _ _).1 (st_hill hs h5)
  have hr4:=hgm.le
  refine key _ ?_ (fun x hx=>Nat.le_trans (mwL_word (by omega) s.r (fun r hr c hc=>by rw[hlm r hr] at hc;have:=hgm.num r hr c hc;omega) x hx) (by decide))
  have:=mwL_len (n:=s.r) (Z:=s.Z) (L:=s.L) s.r (fun r hr=>by rw[hlm r hr];exact hr4)
  omega
 rw[if_neg h5]
 have h6:s.k=6:=by have:=st_kinds hs;omega
 exact key _ (mcW_len _) (mcW_word (st_rotor hs h6) (hp h6))
end Go.Proofs.YtkohhdkkbaifoaaGreatDoor

/-
  What is written is read: single words.
-/
namespace Go.Proofs.YtkohhdkkbaifoaaGreatDoor
open Go.RowKit PK Vg

end Go.Proofs.YtkohhdkkbaifoaaGreatDoor

/-
  What is written is read: words one behind the other.
-/
namespace Go.Proofs.YtkohhdkkbaifoaaGreatDoor
open Go.RowKit PK Vg

end Go.Proofs.YtkohhdkkbaifoaaGreatDoor

/-
  What is written is read: steps.
-/
namespace Go.Proofs.YtkohhdkkbaifoaaGreatDoor
open Go.RowKit PK Vg

end Go.Proofs.YtkohhdkkbaifoaaGreatDoor

/-
  Plain mathematics: what is written as cycles is read; the lengths of the cycles.
-/
namespace Go.Proofs.YtkohhdkkbaifoaaGreatDoor
open Go.RowKit PK

/-! ### The lengths -/
end Go.Proofs.YtkohhdkkbaifoaaGreatDoor

/-
  For script.Print: a chain in words.
-/
namespace Go.Proofs.YtkohhdkkbaifoaaGreatDoor
open Go.RowKit PK Vg

def prE (n:Nat) (l:Nat→Sp):Int:=if chE n l≠0 then chE n l else if n=0 then 5 else firV (fun i=>woE (l i)) n
def prA (n:Nat) (l:Nat→Sp):Nat:=if chE n l≠0 then chA n l else if n=0 then 0 else firA (fun i=>woE (l i)) n
def prW (s:Sp):ByteArray:=⟨(Lib.join ((woW s).map (·.data.toList)) [32]).toArray⟩
def prL (n:Nat) (l:Nat→Sp):List ByteArray:=(List.range n).map fun i=>prW (l i)
def prS (n:Nat) (l:Nat→Sp):List UInt8:=Lib.join ((prL n l).map (·.data.toList)) [32,124,32]
theorem woE_cases (s:Sp):woE s=0∨woE s=7:=by
 unfold woE mcE
 split
 ·split
  ·exact .inr rfl
  ·split
   ·exact .inr rfl
   ·exact .inl rfl
 ·exact .inl rfl
theorem prW_len {s:Sp} (hs:stE s=0):(prW s).data.toList.length≤20000:=by
 obtain ⟨h1,h2⟩:=woW_len hs (fun h=>plS_len (st_rotor hs h))
 have h:=join17_len ((woW s).map (·.data.toList)) [32] (k:=1000) (fun x hx=>by obtain ⟨y,hy,rfl⟩:=List.mem_map.1 hx;exact h2 y hy)
 rw[List.length_map] at h
 have h3:(1000+[32].length)*(woW s).length≤1001*18:=Nat.mul_le_mul_left _ h1
 exact Nat.le_trans h (Nat.le_trans h3 (by decide))
theorem prL_len (n:Nat) (l:Nat→Sp):(prL n l).length=n:=by simp[prL]
theorem prS_len {n:Nat} {l:Nat→Sp} (hn:n≤64) (hs:∀i,i<n→stE (l i)=0):(prS n l).length≤2000000:=by
 have h:=join17_len ((prL n l).map (·.data.toList)) [32,124,32] (k:=20000) (fun x hx=>by
  obtain ⟨y,hy,rfl⟩:=List.mem_map.1 hx
  obtain ⟨i,hi,rfl⟩:=List.mem_map.1 hy
  exact prW_len (hs i (by simpa using hi)))
 rw[List.length_map,prL_len] at h
 have h3:(20000+[32,124,32].length)*n≤20003*64:=Nat.mul_le_mul_left _ hn
 exact Nat.le_trans h (Nat.le_trans h3 (by decide))
def prC (l:Nat→Sp) (m:Nat):Nat→Value:=fillV (fun i=>.string (prW (l i))) (.string ⟨#[]⟩) m
set_option maxRecDepth 100000 in
set_option maxHeartbeats 4000000 in
theorem print1_any (bl:Nat) (a:Option Addr) (n cap:Nat) (l:Nat→Sp) (w:World) (hv:ChAt w (.slice a n cap) n l) (hx:RowAt w bl 22 #[.slice a n cap]) (hnm:NmAt w) (ho:OldAt w):Calls Tryz.prog 47 #[.pointer (some ⟨bl,0,none⟩)] w fun e w'=>(prE n l=0→e=.returned (.string ⟨(prS n l).toArray⟩))∧(prE n l≠0→e=.panicked [flt (prE n l) (prA n l)])∧Below w.heap.size w w':=by
 have cl:=RowAt.cell hx (i:=0) rfl
 have HX:Hid (RowAt w bl 22 #[.slice a n cap]):=hx
 have HV:Hid (ChAt w (.slice a n cap) n l):=hv
 have HNM:Hid (NmAt w∧OldAt w):=⟨hnm,ho⟩
 clear hnm ho hx
 by_cases hce:chE n l=0
 ·obtain ⟨hn64,hall⟩:=chE_zero hce
  have HALL:Hid (∀i,i<n→stE (l i)=0):=hall
  have HC:Hid _:=cc_ok _ n l w hv hce
  have HPE:Hid (prE n l=if n=0 then 5 else firV (fun i=>woE (l i)) n):=by rw[Hid];unfold prE;rw[if_neg (fun h=>h hce)]
  have HPA:Hid (prA n l=if n=0 then 0 else firA (fun i=>woE (l i)) n):=by rw[Hid];unfold prA;rw[if_neg (fun h=>h hce)]
  clear hce hall hv
  go_enter Tryz.func47,Tryz.ntmps47
  go_wp2_with fail
  refine Calls.mono HC.out ?_
  rintro e V ⟨rfl,hb⟩
  have hxv:=RowAt.below HX.out hb (RowAt.lt HX.out)
  have cv:=RowAt.cell hxv (i:=0) rfl
  have HBV:Hid (Below w.heap.size w V):=hb
  clear hb hxv HC cl
  by_cases hn0:n=0
  ·have HTH:Hid _:=throw_any 5 0 V
   have HE5:Hid (prE n l=5∧prA n l=0):=⟨by rw[HPE.out,if_pos hn0],by rw[HPA.out,if_pos hn0]⟩
   subst hn0
   go_wp2_with fail
   refine Calls.mono HTH.out ?_
   rintro e V2 ⟨rfl,hV2⟩
   rw[hV2]
   exact ⟨rfl,fun h=>absurd (HE5.out.1.symm.trans h) (by decide),fun _=>by rw[HE5.out.1,HE5.out.2];rfl,HBV.out⟩
  have hn0b:((n:Int)==0)=false:=beq_false_of_ne (by omega)
  have hmk:=run_make_row' (P:=Tryz.prog) 51 9 (.string ⟨#[]⟩) 16 Tryz.underlying51 str3 rfl .i64 .i64 n (by omega) (by omega)
  rw[made_tab] at hmk
  obtain ⟨W1,hW1⟩:∃W1,W1=V.alloc (.cells (tab n fun _=>.string ⟨#[]⟩) 9):=⟨_,rfl⟩
  have hq1:RowAt W1 V.heap.size 9 (tab n (prC l 0)):=by
   rw[hW1,show tab n (prC l 0)=tab n (fun _=>.string ⟨#[]⟩) from tab_ext (fun i _=>by simp[prC,fillV])]
   exact RowAt.new V _ _
  have hb1:Below w.heap.size w W1:=by rw[hW1];exact HBV.out.alloc HBV.out.size _
  have cw:=RowAt.cell (RowAt.below HX.out hb1 (RowAt.lt HX.out)) (i:=0) rfl
  have HQ1:Hid _:=hq1
  have HB1:Hid (Below w.heap.size w W1):=hb1
  have HVZ:Hid (w.heap.size≤V.heap.size):=HBV.out.size
  clear hq1 hb1
  go_upto_region 5 with fail
  rw[←hW1]
  clear hW1 hmk cv HBV
  go_wp2
  clear cw
  go_loopw [16] (fun i W=>∃m:Nat,m≤n∧i=.int .i64 m∧Hid (RowAt W V.heap.size 9 (tab n (prC l m)))∧Hid (∀j,j<m→woE (l j)=0)∧Hid (Below w.heap.size w W)) (fun i _=>((n:Int)-intOf i).toNat)
  case atStart=>exact ⟨0,by omega,rfl,HQ1,fun j hj=>by omega,HB1⟩
  case round =>
   clear HQ1 HB1
   obtain ⟨m,hm,rfl,HQ,HJ,HB⟩:=hrel
   by_cases hlt:m<n
   ·obtain ⟨cb,co,CS,rfl,hrg,HSQ⟩:∃cb co CS,a=some ⟨cb,co,none⟩∧wr.rangeAt cb (co+m*59) CS.toList∧Hid (SqAt wr (.agg CS) (l m)):=by
     obtain ⟨_,_,R,e,_,h1,h2⟩:=HV.out.below HB.out
     cases e
     obtain ⟨b,o,e,hc⟩:=h1 m hlt
     exact ⟨b,o,R m,e,hc,h2 m hlt⟩
    have hmi:(m:Int)<(n:Int):=by omega
    obtain ⟨hcs,hco⟩:=sq_size HSQ.out
    have HCO:Hid (CS.all (·.oneCell')=true):=hco
    have hz59:=o_zero s_zero
    obtain ⟨X,hX⟩:∃X,X=(wr.alloc (.cells (spA 0 0 ⟨#[]⟩ (.slice none 0 0) (.slice none 0 0) (.slice none 0 0) (.slice none 0 0) (fun _=>0) (fun _=>0)) 31)).setRow wr.heap.size CS:=⟨_,rfl⟩
    have hxb:Below wr.heap.size wr X:=by rw[hX];exact PK.Below.setRow ((Below.refl _ wr).alloc (Nat.le_refl _) _) wr.heap.size (Nat.le_refl _) _
    have hxr:RowAt X wr.heap.size 31 CS:=by rw[hX];exact (RowAt.new wr _ _).row _
    have hbx:=HB.out.trans (hxb.mono HB.out.size)
    have hst:=HALL.out m hlt
    have HWO:Hid _:=wordsOf_any CS (l m) m X (HSQ.out.below hxb) hst (HNM.out.1.below hbx) (HNM.out.2.below hbx)
    have HQX:Hid (RowAt X V.heap.size 9 (tab n (prC l m))):=RowAt.below HQ.out hxb (RowAt.lt HQ.out)
    have HBX:Hid (Below w.heap.size w X):=hbx
    have HWL:Hid _:=woW_len hst (fun h=>plS_len (st_rotor hst h))
    have HPL:Hid ((prW (l m)).data.toList.length≤20000):=prW_len hst
    clear hxb hbx hco HSQ HQ HB hst
    go_upto_region 8 with (first | refine wpList_load_arr rfl 31 _ rfl cb (co+m*59) rfl CS _ hrg Tryz.underlying31 rfl (by rw[hcs];exact s_info) ?_ | refine wpList_store_row rfl 31 _ _ rfl wr.heap.size CS rfl rfl 31 _ (RowAt.new wr _ _) (by rw[hcs];exact s_info) (by rw[hcs,spA_size]) HCO.out ?_)
    rw[←hX]
    clear hX hrg
    go_wp2_with (first | refine wpList_load_row rfl 31 _ rfl wr.heap.size rfl 31 CS (0,0) _ hxr Tryz.underlying31 rfl (by rw[hcs];exact s_info) ?_)
    refine Calls.mono HWO.out ?_
    rintro e V2 ⟨hbad,hgood,hb2⟩
    have HB2:Hid (Below w.heap.size w V2):=HBX.out.trans (hb2.mono HBX.out.size)
    by_cases hE:¬woE (l m)=0
    ·obtain rfl:=hbad hE
     have h7:woE (l m)=7:=by rcases woE_cases (l m) with h | h;exact absurd h hE;exact h
     have hfi:=firV_of (f:=fun i=>woE (l i)) hlt HJ.out hE
     have hE1:prE n l=7:=by rw[HPE.out,if_neg hn0,hfi.1,h7]
     have hA1:prA n l=m:=by rw[HPA.out,if_neg hn0,hfi.2]
     exact ⟨rfl,fun h=>absurd (hE1.symm.trans h) (by decide),fun _=>by rw[hE1,hA1],HB2.out⟩
    have hE:=Decidable.not_not.1 hE
    obtain ⟨v',rfl,hO⟩:=hgood hE
    have hne:woW (l m)≠[]:=by unfold woW;intro h;cases h
    obtain ⟨ng,ncap,rfl,_,hng,hcap,hnc⟩:=hO.cells hne
    have hJN:=join_any ng 0 ncap (woW (l m)) ⟨#[32]⟩ V2 hnc hng (by have:=HWL.out.1;omega) hcap (Nat.le_trans HPL.out (by decide))
    change Calls Tryz.prog 49 _ _ fun e w'=>e=.returned (.string (prW (l m)))∧_ at hJN
    have HJN:Hid _:=hJN
    have HQ2:Hid (RowAt V2 V.heap.size 9 (tab n (prC l m))):=RowAt.below HQX.out hb2 (RowAt.lt HQX.out)
    have HJ2:Hid (∀j,j<m+1→woE (l j)=0):=fun j hj=>by
     by_cases e:j=m
     ·rw[e];exact hE
     ·exact HJ.out j (by omega)
    have HLN:Hid ((woW (l m)).length≤18):=HWL.out.1
    generalize hWL:(woW (l m)).length=WL at *
    clear hWL hbad hgood hO hne hng hcap hnc hb2 hJN hE HJ HWL HPL HWO HQX HBX hxr hcs HCO hlt
    go_wp2_with fail
    refine Calls.mono HJN.out ?_
    rintro e V3 ⟨rfl,hb3⟩
    have hq3:=RowAt.below HQ2.out hb3 (RowAt.lt HQ2.out)
    have k0:=RowAt.cell hq3 (tab_get (prC l m) (show m<n by omega))
    have kf:=RowAt.frozen hq3 m
    have hput:RowAt (V3.setCell ⟨V.heap.size,m,none⟩ (.string (prW (l m)))) V.heap.size 9 (tab n (prC l (m+1))):=by
     have h:=RowAt.set hq3 m (.string (prW (l m)))
     rw[tab_set] at h
     unfold prC at h ⊢
     rw[fillV_step _ _ _ _ rfl] at h
     exact h
    have hb4:=HB2.out.trans (hb3.mono HB2.out.size)
    have HB4:Hid (Below w.heap.size w (V3.setCell ⟨V.heap.size,m,none⟩ (.string (prW (l m))))):=hb4.setCell (p:=⟨V.heap.size,m,none⟩) HVZ.out _
    have HPUT:Hid _:=hput
    clear hq3 hput hb4 hb3 HJN HQ2 HB2
    generalize prW (l m)=PW at *
    generalize prC l m m=OV at *
    go_wp2
    go_roundw
    case rel=>exact ⟨m+1,by omega,by go_num,HPUT,HJ2,HB4⟩
    case measure=>simp[intOf];omega
   ·obtain rfl:m=n:=by omega
    have hmi:¬(m:Int)<(m:Int):=by omega
    have HE0:Hid (prE m l=0):=by rw[Hid,HPE.out,if_neg hn0,firV_all HJ.out]
    have hjl:=prL_len m l
    have hJN:=join_any V.heap.size 0 m (prL m l) ⟨#[32,124,32]⟩ wr (fun j x hx=>by
      have hj:j<m:=by
       have:=(List.getElem?_eq_some_iff.1 hx).1
       omega
      rw[Nat.zero_add]
      have h1:=RowAt.cell HQ.out (tab_get (prC l m) hj)
      have h2:prC l m j=.string x:=by
       unfold prC fillV
       rw[if_pos hj]
       unfold prL at hx
       rw[List.getElem?_map,List.getElem?_range hj] at hx
       cases hx
       rfl
      rw[h2] at h1
      exact h1) (RowAt.lt HQ.out) (by omega) (by omega) (Nat.le_trans (prS_len hn64 HALL.out) (by decide))
    rw[hjl] at hJN
    change Calls Tryz.prog 49 _ _ fun e w'=>e=.returned (.string ⟨(prS m l).toArray⟩)∧_ at hJN
    have HJN:Hid _:=hJN
    clear hJN hjl HJ HPE HPA
    go_wp2_with fail
    refine Calls.mono HJN.out ?_
    rintro e V3 ⟨rfl,hb3⟩
    have HB3:Hid (Below w.heap.size w V3):=HB.out.trans (hb3.mono HB.out.size)
    clear hb3 HJN
    go_wp2
    go_ret
    exact ⟨fun _=>rfl,fun h=>absurd HE0.out h,HB3.out⟩
 ·have HC:Hid _:=cc_bad _ n l w hv hce
  have HPE:Hid (prE n l=chE n l∧prA n l=chA n l):=⟨by unfold prE;rw[if_pos hce],by unfold prA;rw[if_pos hce]⟩
  have HNE:Hid (chE n l≠0):=hce
  clear hce hv
  go_enter Tryz.func47,Tryz.ntmps47
  go_wp2_with fail
  refine Calls.mono HC.out ?_
  rintro e V ⟨rfl,hb⟩
  exact ⟨rfl,fun h=>absurd (HPE.out.1.symm.trans h) HNE.out,fun _=>by rw[HPE.out.1,HPE.out.2],hb⟩
end Go.Proofs.YtkohhdkkbaifoaaGreatDoor
