/-
  The law's plain: a step with what its kind has, alone.
-/
import Derived.Test.YtkohhdkkbaifoaaGreatDoorPtN
import Derived.Test.YtkohhdkkbaifoaaGreatDoorScSw
import Derived.Deep.DeepCutAuto
namespace Go.Proofs.YtkohhdkkbaifoaaGreatDoor
open Go.RowKit PK Vg

theorem stE_kind {s : Sp} (h : stE s = 0) : s.k = 1 ∨ s.k = 2 ∨ s.k = 3 ∨ s.k = 4 ∨ s.k = 5 ∨ s.k = 6 := by
  unfold stE at h
  by_cases h1 : s.k = 1
  · exact .inl h1
  by_cases h2 : s.k = 2
  · exact .inr (.inl h2)
  by_cases h3 : s.k = 3
  · exact .inr (.inr (.inl h3))
  by_cases h4 : s.k = 4
  · exact .inr (.inr (.inr (.inl h4)))
  by_cases h5 : s.k = 5
  · exact .inr (.inr (.inr (.inr (.inl h5))))
  by_cases h6 : s.k = 6
  · exact .inr (.inr (.inr (.inr (.inr h6))))
  rw [if_neg h1, if_neg h2, if_neg h3, if_neg h4, if_neg h5, if_neg h6] at h
  cases h
theorem wheels_nil (W : World) (wi : Nat → Nat → Int) (nl : Nat → Nat) (no : Nat → Nat → Int) : WheelsAt W (.slice none 0 0) 0 wi nl no := ⟨none, 0, fun _ => .bool false, rfl, by decide, fun r hr => by omega, fun r hr => by omega⟩
theorem nums_nil (W : World) (f : Nat → Int) : NumsAt W (.slice none 0 0) 0 f := ⟨none, 0, rfl, by decide, fun c hc => by omega⟩
/-- What plain answers. -/
theorem pln_at {W : World} {s : Sp} {mv a b c : Value} (hm : MatAt W mv s.r s.L s.Z) (ha : WheelsAt W a s.g.n s.g.wi s.g.nl s.g.no) (hb : NumsAt W b s.g.rl s.g.ri) (hc : NumsAt W c s.g.sl s.g.st) :
    SqAt W (.agg (spA s.k (plnS s).n (plnS s).key (if s.k = 5 then mv else .slice none 0 0) (if s.k = 6 then a else .slice none 0 0) (if s.k = 6 then b else .slice none 0 0) (if s.k = 6 then c else .slice none 0 0) (plnS s).g.rf (plnS s).g.pl)) (plnS s) := by
  refine ⟨_, _, _, _, rfl, ?_, ?_, ?_, ?_⟩
  · by_cases h : s.k = 5
    · rw [if_pos h]
      show MatAt W mv (if s.k = 5 then s.r else 0) s.L s.Z
      rw [if_pos h]; exact hm
    · rw [if_neg h]
      show MatAt W _ (if s.k = 5 then s.r else 0) s.L s.Z
      rw [if_neg h]; exact MatAt.nil _ _ _
  · by_cases h : s.k = 6
    · rw [if_pos h]
      have e : (plnS s).g = s.g := by unfold plnS; exact if_pos h
      rw [e]; exact ha
    · rw [if_neg h]
      have e : (plnS s).g = gm0 := by unfold plnS; exact if_neg h
      rw [e]; exact wheels_nil _ _ _ _
  · by_cases h : s.k = 6
    · rw [if_pos h]
      have e : (plnS s).g = s.g := by unfold plnS; exact if_pos h
      rw [e]; exact hb
    · rw [if_neg h]
      have e : (plnS s).g = gm0 := by unfold plnS; exact if_neg h
      rw [e]; exact nums_nil _ _
  · by_cases h : s.k = 6
    · rw [if_pos h]
      have e : (plnS s).g = s.g := by unfold plnS; exact if_pos h
      rw [e]; exact hc
    · rw [if_neg h]
      have e : (plnS s).g = gm0 := by unfold plnS; exact if_neg h
      rw [e]; exact nums_nil _ _
set_option maxRecDepth 100000 in
set_option maxHeartbeats 4000000 in
theorem plain17_ok (v : Value) (s : Sp) (hs : stE s = 0) (w0 : World) (hv : SqAt w0 v s) (w : World) : Calls Tryz.prog 19 #[v] w fun e w' => ∃ c, e = .returned (.agg c) ∧ SqAt w0 (.agg c) (plnS s) ∧ Below w.heap.size w w' := by
  obtain ⟨mv, x, y, z, rfl, M, XW, YN, ZN⟩ := hv
  obtain ⟨CC, hCC⟩ : ∃ CC, CC = spA s.k (plnS s).n (plnS s).key (if s.k = 5 then mv else .slice none 0 0) (if s.k = 6 then x else .slice none 0 0) (if s.k = 6 then y else .slice none 0 0) (if s.k = 6 then z else .slice none 0 0) (plnS s).g.rf (plnS s).g.pl := ⟨_, rfl⟩
  have HP : Hid (SqAt w0 (.agg CC) (plnS s)) := by rw [Hid, hCC]; exact pln_at M XW YN ZN
  have HCC : Hid (CC = spA s.k (plnS s).n (plnS s).key (if s.k = 5 then mv else .slice none 0 0) (if s.k = 6 then x else .slice none 0 0) (if s.k = 6 then y else .slice none 0 0) (if s.k = 6 then z else .slice none 0 0) (plnS s).g.rf (plnS s).g.pl) := hCC
  clear hCC
  obtain ⟨CS, hCS⟩ : ∃ CS, CS = spA s.k s.n s.key mv x y z s.g.rf s.g.pl := ⟨_, rfl⟩
  rw [← hCS]
  obtain ⟨ZS, hZS⟩ : ∃ ZS, ZS = (spA 0 0 ⟨#[]⟩ (.slice none 0 0) (.slice none 0 0) (.slice none 0 0) (.slice none 0 0) (fun _ => 0) (fun _ => 0)) := ⟨_, rfl⟩
  obtain ⟨KS, hKS⟩ : ∃ KS, KS = (spA s.k 0 ⟨#[]⟩ (.slice none 0 0) (.slice none 0 0) (.slice none 0 0) (.slice none 0 0) (fun _ => 0) (fun _ => 0)) := ⟨_, rfl⟩
  have hz59 := o_zero s_zero
  rw [← hZS] at hz59
  have HBK : Hid (Tryz.prog.built 31 [(0, .int .i64 s.k)] = some KS) := by rw [Hid, hKS]; exact built_k s.k
  have HKZ : Hid (KS.size = 59) := by rw [Hid, hKS]; exact spA_size _ _ _ _ _ _ _ _ _
  have HKO : Hid (KS.all (·.oneCell') = true) := by rw [Hid, hKS]; exact spA_one rfl rfl rfl rfl
  have HZZ : Hid (ZS.size = 59) := by rw [Hid, hZS]; exact spA_size _ _ _ _ _ _ _ _ _
  obtain ⟨W1, hW1⟩ : ∃ W1, W1 = (w.alloc (.cells CS 31)).alloc (.cells ZS 31) := ⟨_, rfl⟩
  have hb1 : Below w.heap.size w W1 := by rw [hW1]; exact ((Below.refl _ w).alloc (Nat.le_refl _) _).alloc (by simp) _
  have hz1 : W1.heap.size = w.heap.size + 2 := by rw [hW1]; simp
  have q1 : RowAt W1 w.heap.size 31 CS := by rw [hW1]; exact (RowAt.new w _ _).alloc _
  have q2 : RowAt W1 (w.heap.size + 1) 31 ZS := by
    rw [hW1]
    have := RowAt.new (w.alloc (.cells CS 31)) 31 ZS
    rw [World.size_alloc] at this
    exact this
  have k0 : W1.cell? ⟨w.heap.size, 0, none⟩ = some (.int .i64 s.k) := RowAt.cell q1 (by rw [hCS]; exact spA_0 _ _ _ _ _ _ _ _ _)
  obtain ⟨V, hV⟩ : ∃ V, V = (W1.alloc (.cells ZS 31)).setRow W1.heap.size KS := ⟨_, rfl⟩
  have hbV : Below W1.heap.size W1 V := by rw [hV]; exact PK.Below.setRow ((Below.refl _ W1).alloc (Nat.le_refl _) _) W1.heap.size (Nat.le_refl _) _
  have v1 : RowAt V w.heap.size 31 CS := RowAt.below q1 hbV (RowAt.lt q1)
  have v2 : RowAt V (w.heap.size + 1) 31 ZS := RowAt.below q2 hbV (RowAt.lt q2)
  have v3 : RowAt V (w.heap.size + 2) 31 KS := by
    have h : RowAt V W1.heap.size 31 KS := by rw [hV]; exact (RowAt.new W1 _ _).row _
    rw [hz1] at h
    exact h
  have HBV : Hid (Below w.heap.size w V) := hb1.trans (hbV.mono hb1.size)
  have c0 : V.cell? ⟨w.heap.size, 0, none⟩ = some (.int .i64 s.k) := RowAt.cell v1 (by rw [hCS]; exact spA_0 _ _ _ _ _ _ _ _ _)
  have c1 : V.cell? ⟨w.heap.size, 1, none⟩ = some (.int .i64 s.n) := RowAt.cell v1 (by rw [hCS]; exact spA_1 _ _ _ _ _ _ _ _ _)
  have c2 : V.cell? ⟨w.heap.size, 2, none⟩ = some (.string s.key) := RowAt.cell v1 (by rw [hCS]; exact spA_2 _ _ _ _ _ _ _ _ _)
  have c3 : V.cell? ⟨w.heap.size, 3, none⟩ = some mv := RowAt.cell v1 (by rw [hCS]; exact spA_3 _ _ _ _ _ _ _ _ _)
  have r4 : V.rangeAt w.heap.size 4 (mac x y z s.g.rf s.g.pl).toList := row_mid v1 4 _ (fun i u hu => by rw [hCS, spA_mac]; exact hu)
  obtain ⟨qa, qc, _, rfl, -⟩ := id M
  have HONE : Hid ((mac x y z s.g.rf s.g.pl).all (·.oneCell') = true ∧ x.oneCell' = true ∧ y.oneCell' = true ∧ z.oneCell' = true) := by
    obtain ⟨_, _, _, rfl, _⟩ := XW
    obtain ⟨_, _, rfl, _⟩ := YN
    obtain ⟨_, _, rfl, _⟩ := ZN
    exact ⟨mac_one rfl rfl rfl, rfl, rfl, rfl⟩
  have HQV : Hid (RowAt V (w.heap.size + 1) 31 ZS ∧ RowAt V (w.heap.size + 2) 31 KS) := ⟨v2, v3⟩
  have HKS : Hid (KS = (spA s.k 0 ⟨#[]⟩ (.slice none 0 0) (.slice none 0 0) (.slice none 0 0) (.slice none 0 0) (fun _ => 0) (fun _ => 0))) := hKS
  have t0 := RowAt.cell v3 (i := 0) (by rw [hKS]; exact spA_0 _ _ _ _ _ _ _ _ _)
  have t1 := RowAt.cell v3 (i := 1) (by rw [hKS]; exact spA_1 _ _ _ _ _ _ _ _ _)
  have t2 := RowAt.cell v3 (i := 2) (by rw [hKS]; exact spA_2 _ _ _ _ _ _ _ _ _)
  have t3 := RowAt.cell v3 (i := 3) (by rw [hKS]; exact spA_3 _ _ _ _ _ _ _ _ _)
  have f1 := RowAt.frozen v3 1
  have f2 := RowAt.frozen v3 2
  have f3 := RowAt.frozen v3 3
  have HTH : Hid (V.there (w.heap.size + 2) 4 55) := fun j hj => ⟨by rw [RowAt.cell v3 (Array.getElem?_eq_getElem (by rw [HKZ.out]; omega))]; rfl, RowAt.frozen v3 _⟩
  -- what is left behind the switch
  have HEND : Hid (∀ (X : World) (c : Array Value), RowAt X (w.heap.size + 1) 31 ZS → RowAt X (w.heap.size + 2) 31 c → Below w.heap.size w X → c = CC →
      RowAt (X.setRow (w.heap.size + 1) c) (w.heap.size + 1) 31 c ∧ c.size = 59 ∧ c.all (·.oneCell') = true ∧ SqAt w0 (.agg c) (plnS s) ∧ Below w.heap.size w (X.setRow (w.heap.size + 1) c)) := fun X c g1 g2 g3 g4 => by
    subst g4
    exact ⟨g1.row _, (sq_size HP.out).1, (sq_size HP.out).2, HP.out, PK.Below.setRow g3 _ (by omega) _⟩
  have HCSW : Hid (CS = spA s.k s.n s.key (.slice qa s.r qc) x y z s.g.rf s.g.pl) := hCS
  clear hCS hZS hKS q1 q2 hb1 hbV v1 v2 v3 M XW YN ZN
  rcases stE_kind hs with hk | hk | hk | hk | hk | hk
  · have hX : Hid (∃ X c, X = V.setCell ⟨w.heap.size + 2, 1, none⟩ (.int .i64 s.n) ∧ c = KS.setIfInBounds 1 (.int .i64 s.n) ∧ RowAt X (w.heap.size + 2) 31 c ∧ RowAt (X.setRow (w.heap.size + 1) c) (w.heap.size + 1) 31 c ∧ RowAt X (w.heap.size + 1) 31 ZS ∧ c.size = 59 ∧ c.all (·.oneCell') = true ∧ SqAt w0 (.agg c) (plnS s) ∧ Below w.heap.size w (X.setRow (w.heap.size + 1) c)) := by
      refine ⟨_, _, rfl, rfl, ?_⟩
      have h2 := HQV.out.2.set 1 (.int .i64 s.n)
      have h1 := HQV.out.1.setOther ⟨w.heap.size + 2, 1, none⟩ (.int .i64 s.n) (by show _ + 1 ≠ _ + 2; omega)
      have h := HEND.out _ _ h1 h2 (HBV.out.setCell (p := ⟨w.heap.size + 2, 1, none⟩) (by show _ ≤ _ + 2; omega) _) (by rw [HKS.out, sps1, HCC.out]; simp [plnS, hk, gm0])
      exact ⟨h2, h.1, h1, h.2.1, h.2.2.1, h.2.2.2.1, h.2.2.2.2⟩
    obtain ⟨X, MC, hX, hMC, x2, x3, x1, xz, xo, xs, xb⟩ := hX.out
    have HX9 : Hid (RowAt (X.setRow (w.heap.size + 1) MC) (w.heap.size + 1) 31 MC ∧ SqAt w0 (.agg MC) (plnS s) ∧ Below w.heap.size w (X.setRow (w.heap.size + 1) MC)) := ⟨x3, xs, xb⟩
    have HXZ : Hid (MC.size = 59 ∧ MC.all (·.oneCell') = true) := ⟨xz, xo⟩
    clear hMC x3 xz xo xs xb HEND HP HKS HQV HBV HCSW HCC
    rw [hk] at c0 k0 HBK t0
    have HZ1 : Hid (W1.heap.size = w.heap.size + 2) := hz1
    clear hz1
    go_enter Tryz.func19, Tryz.ntmps19
    go_upto_region 1 with fail
    rw [← hW1]
    clear hW1
    go_upto_region 2 with (first | refine wpList_bA rfl 31 [(0, _)] rfl [(0, .int .i64 1)] rfl KS HBK.out ?_ | refine wpList_store_row rfl 31 _ _ rfl W1.heap.size KS rfl rfl 31 _ (RowAt.new W1 _ _) (by rw [HKZ.out]; exact s_info) (by rw [HKZ.out, HZZ.out]) HKO.out ?_)
    rw [← hV]
    clear hV k0 hz59
    rw [HZ1.out]
    clear HZ1
    go_upto_region 14 with fail
    rw [← hX]
    clear hX
    go_wp2_with (first | refine wpList_load_row rfl 31 _ rfl (w.heap.size + 2) rfl 31 MC (0, 0) _ x2 Tryz.underlying31 rfl (by rw [HXZ.out.1]; exact s_info) ?_ | refine wpList_store_row rfl 31 _ _ rfl (w.heap.size + 1) MC rfl rfl 31 _ x1 (by rw [HXZ.out.1]; exact s_info) (by rw [HXZ.out.1, HZZ.out]) HXZ.out.2 ?_)
    exact ⟨rfl, _, results_c1 rfl _ _ (w.heap.size + 1) 31 MC (0, 0) _ rfl HX9.out.1 Tryz.underlying31 rfl (by rw [HXZ.out.1]; exact s_info), MC, rfl, HX9.out.2.1, by first | exact HX9.out.2.2 | exact HX9.out.2.2.drew⟩
  · have hX : Hid (∃ X c, X = (V.setCell ⟨w.heap.size + 2, 1, none⟩ (.int .i64 s.n)).setCell ⟨w.heap.size + 2, 2, none⟩ (.string s.key) ∧ c = (KS.setIfInBounds 1 (.int .i64 s.n)).setIfInBounds 2 (.string s.key) ∧ RowAt X (w.heap.size + 2) 31 c ∧ RowAt (X.setRow (w.heap.size + 1) c) (w.heap.size + 1) 31 c ∧ RowAt X (w.heap.size + 1) 31 ZS ∧ c.size = 59 ∧ c.all (·.oneCell') = true ∧ SqAt w0 (.agg c) (plnS s) ∧ Below w.heap.size w (X.setRow (w.heap.size + 1) c)) := by
      refine ⟨_, _, rfl, rfl, ?_⟩
      have h2 := (HQV.out.2.set 1 (.int .i64 s.n)).set 2 (.string s.key)
      have h1 := (HQV.out.1.setOther ⟨w.heap.size + 2, 1, none⟩ (.int .i64 s.n) (by show _ + 1 ≠ _ + 2; omega)).setOther ⟨w.heap.size + 2, 2, none⟩ (.string s.key) (by show _ + 1 ≠ _ + 2; omega)
      have h := HEND.out _ _ h1 h2 ((HBV.out.setCell (p := ⟨w.heap.size + 2, 1, none⟩) (by show _ ≤ _ + 2; omega) _).setCell (p := ⟨w.heap.size + 2, 2, none⟩) (by show _ ≤ _ + 2; omega) _) (by rw [HKS.out, sps1, sps2, HCC.out]; simp [plnS, hk, gm0])
      exact ⟨h2, h.1, h1, h.2.1, h.2.2.1, h.2.2.2.1, h.2.2.2.2⟩
    obtain ⟨X, MC, hX, hMC, x2, x3, x1, xz, xo, xs, xb⟩ := hX.out
    have HX9 : Hid (RowAt (X.setRow (w.heap.size + 1) MC) (w.heap.size + 1) 31 MC ∧ SqAt w0 (.agg MC) (plnS s) ∧ Below w.heap.size w (X.setRow (w.heap.size + 1) MC)) := ⟨x3, xs, xb⟩
    have HXZ : Hid (MC.size = 59 ∧ MC.all (·.oneCell') = true) := ⟨xz, xo⟩
    clear hMC x3 xz xo xs xb HEND HP HKS HQV HBV HCSW HCC
    rw [hk] at c0 k0 HBK t0
    have HZ1 : Hid (W1.heap.size = w.heap.size + 2) := hz1
    clear hz1
    go_enter Tryz.func19, Tryz.ntmps19
    go_upto_region 1 with fail
    rw [← hW1]
    clear hW1
    go_upto_region 2 with (first | refine wpList_bA rfl 31 [(0, _)] rfl [(0, .int .i64 2)] rfl KS HBK.out ?_ | refine wpList_store_row rfl 31 _ _ rfl W1.heap.size KS rfl rfl 31 _ (RowAt.new W1 _ _) (by rw [HKZ.out]; exact s_info) (by rw [HKZ.out, HZZ.out]) HKO.out ?_)
    rw [← hV]
    clear hV k0 hz59
    rw [HZ1.out]
    clear HZ1
    go_upto_region 7 with fail
    go_region
    all_goals (go_upto_region 14 with fail)
    all_goals (
      rw [← hX]
      clear hX
      go_wp2_with (first | refine wpList_load_row rfl 31 _ rfl (w.heap.size + 2) rfl 31 MC (0, 0) _ x2 Tryz.underlying31 rfl (by rw [HXZ.out.1]; exact s_info) ?_ | refine wpList_store_row rfl 31 _ _ rfl (w.heap.size + 1) MC rfl rfl 31 _ x1 (by rw [HXZ.out.1]; exact s_info) (by rw [HXZ.out.1, HZZ.out]) HXZ.out.2 ?_)
      exact ⟨rfl, _, results_c1 rfl _ _ (w.heap.size + 1) 31 MC (0, 0) _ rfl HX9.out.1 Tryz.underlying31 rfl (by rw [HXZ.out.1]; exact s_info), MC, rfl, HX9.out.2.1, by first | exact HX9.out.2.2 | exact HX9.out.2.2.drew⟩)
  · have hX : Hid (∃ X c, X = V.setCell ⟨w.heap.size + 2, 1, none⟩ (.int .i64 s.n) ∧ c = KS.setIfInBounds 1 (.int .i64 s.n) ∧ RowAt X (w.heap.size + 2) 31 c ∧ RowAt (X.setRow (w.heap.size + 1) c) (w.heap.size + 1) 31 c ∧ RowAt X (w.heap.size + 1) 31 ZS ∧ c.size = 59 ∧ c.all (·.oneCell') = true ∧ SqAt w0 (.agg c) (plnS s) ∧ Below w.heap.size w (X.setRow (w.heap.size + 1) c)) := by
      refine ⟨_, _, rfl, rfl, ?_⟩
      have h2 := HQV.out.2.set 1 (.int .i64 s.n)
      have h1 := HQV.out.1.setOther ⟨w.heap.size + 2, 1, none⟩ (.int .i64 s.n) (by show _ + 1 ≠ _ + 2; omega)
      have h := HEND.out _ _ h1 h2 (HBV.out.setCell (p := ⟨w.heap.size + 2, 1, none⟩) (by show _ ≤ _ + 2; omega) _) (by rw [HKS.out, sps1, HCC.out]; simp [plnS, hk, gm0])
      exact ⟨h2, h.1, h1, h.2.1, h.2.2.1, h.2.2.2.1, h.2.2.2.2⟩
    obtain ⟨X, MC, hX, hMC, x2, x3, x1, xz, xo, xs, xb⟩ := hX.out
    have HX9 : Hid (RowAt (X.setRow (w.heap.size + 1) MC) (w.heap.size + 1) 31 MC ∧ SqAt w0 (.agg MC) (plnS s) ∧ Below w.heap.size w (X.setRow (w.heap.size + 1) MC)) := ⟨x3, xs, xb⟩
    have HXZ : Hid (MC.size = 59 ∧ MC.all (·.oneCell') = true) := ⟨xz, xo⟩
    clear hMC x3 xz xo xs xb HEND HP HKS HQV HBV HCSW HCC
    rw [hk] at c0 k0 HBK t0
    have HZ1 : Hid (W1.heap.size = w.heap.size + 2) := hz1
    clear hz1
    go_enter Tryz.func19, Tryz.ntmps19
    go_upto_region 1 with fail
    rw [← hW1]
    clear hW1
    go_upto_region 2 with (first | refine wpList_bA rfl 31 [(0, _)] rfl [(0, .int .i64 3)] rfl KS HBK.out ?_ | refine wpList_store_row rfl 31 _ _ rfl W1.heap.size KS rfl rfl 31 _ (RowAt.new W1 _ _) (by rw [HKZ.out]; exact s_info) (by rw [HKZ.out, HZZ.out]) HKO.out ?_)
    rw [← hV]
    clear hV k0 hz59
    rw [HZ1.out]
    clear HZ1
    go_upto_region 14 with fail
    rw [← hX]
    clear hX
    go_wp2_with (first | refine wpList_load_row rfl 31 _ rfl (w.heap.size + 2) rfl 31 MC (0, 0) _ x2 Tryz.underlying31 rfl (by rw [HXZ.out.1]; exact s_info) ?_ | refine wpList_store_row rfl 31 _ _ rfl (w.heap.size + 1) MC rfl rfl 31 _ x1 (by rw [HXZ.out.1]; exact s_info) (by rw [HXZ.out.1, HZZ.out]) HXZ.out.2 ?_)
    exact ⟨rfl, _, results_c1 rfl _ _ (w.heap.size + 1) 31 MC (0, 0) _ rfl HX9.out.1 Tryz.underlying31 rfl (by rw [HXZ.out.1]; exact s_info), MC, rfl, HX9.out.2.1, by first | exact HX9.out.2.2 | exact HX9.out.2.2.drew⟩
  · have hX : Hid (∃ X c, X = V.setCell ⟨w.heap.size + 2, 2, none⟩ (.string s.key) ∧ c = KS.setIfInBounds 2 (.string s.key) ∧ RowAt X (w.heap.size + 2) 31 c ∧ RowAt (X.setRow (w.heap.size + 1) c) (w.heap.size + 1) 31 c ∧ RowAt X (w.heap.size + 1) 31 ZS ∧ c.size = 59 ∧ c.all (·.oneCell') = true ∧ SqAt w0 (.agg c) (plnS s) ∧ Below w.heap.size w (X.setRow (w.heap.size + 1) c)) := by
      refine ⟨_, _, rfl, rfl, ?_⟩
      have h2 := HQV.out.2.set 2 (.string s.key)
      have h1 := HQV.out.1.setOther ⟨w.heap.size + 2, 2, none⟩ (.string s.key) (by show _ + 1 ≠ _ + 2; omega)
      have h := HEND.out _ _ h1 h2 (HBV.out.setCell (p := ⟨w.heap.size + 2, 2, none⟩) (by show _ ≤ _ + 2; omega) _) (by rw [HKS.out, sps2, HCC.out]; simp [plnS, hk, gm0])
      exact ⟨h2, h.1, h1, h.2.1, h.2.2.1, h.2.2.2.1, h.2.2.2.2⟩
    obtain ⟨X, MC, hX, hMC, x2, x3, x1, xz, xo, xs, xb⟩ := hX.out
    have HX9 : Hid (RowAt (X.setRow (w.heap.size + 1) MC) (w.heap.size + 1) 31 MC ∧ SqAt w0 (.agg MC) (plnS s) ∧ Below w.heap.size w (X.setRow (w.heap.size + 1) MC)) := ⟨x3, xs, xb⟩
    have HXZ : Hid (MC.size = 59 ∧ MC.all (·.oneCell') = true) := ⟨xz, xo⟩
    clear hMC x3 xz xo xs xb HEND HP HKS HQV HBV HCSW HCC
    rw [hk] at c0 k0 HBK t0
    have HZ1 : Hid (W1.heap.size = w.heap.size + 2) := hz1
    clear hz1
    go_enter Tryz.func19, Tryz.ntmps19
    go_upto_region 1 with fail
    rw [← hW1]
    clear hW1
    go_upto_region 2 with (first | refine wpList_bA rfl 31 [(0, _)] rfl [(0, .int .i64 4)] rfl KS HBK.out ?_ | refine wpList_store_row rfl 31 _ _ rfl W1.heap.size KS rfl rfl 31 _ (RowAt.new W1 _ _) (by rw [HKZ.out]; exact s_info) (by rw [HKZ.out, HZZ.out]) HKO.out ?_)
    rw [← hV]
    clear hV k0 hz59
    rw [HZ1.out]
    clear HZ1
    go_upto_region 14 with fail
    rw [← hX]
    clear hX
    go_wp2_with (first | refine wpList_load_row rfl 31 _ rfl (w.heap.size + 2) rfl 31 MC (0, 0) _ x2 Tryz.underlying31 rfl (by rw [HXZ.out.1]; exact s_info) ?_ | refine wpList_store_row rfl 31 _ _ rfl (w.heap.size + 1) MC rfl rfl 31 _ x1 (by rw [HXZ.out.1]; exact s_info) (by rw [HXZ.out.1, HZZ.out]) HXZ.out.2 ?_)
    exact ⟨rfl, _, results_c1 rfl _ _ (w.heap.size + 1) 31 MC (0, 0) _ rfl HX9.out.1 Tryz.underlying31 rfl (by rw [HXZ.out.1]; exact s_info), MC, rfl, HX9.out.2.1, by first | exact HX9.out.2.2 | exact HX9.out.2.2.drew⟩
  · have hX : Hid (∃ X c, X = V.setCell ⟨w.heap.size + 2, 3, none⟩ (.slice qa s.r qc) ∧ c = KS.setIfInBounds 3 (.slice qa s.r qc) ∧ RowAt X (w.heap.size + 2) 31 c ∧ RowAt (X.setRow (w.heap.size + 1) c) (w.heap.size + 1) 31 c ∧ RowAt X (w.heap.size + 1) 31 ZS ∧ c.size = 59 ∧ c.all (·.oneCell') = true ∧ SqAt w0 (.agg c) (plnS s) ∧ Below w.heap.size w (X.setRow (w.heap.size + 1) c)) := by
      refine ⟨_, _, rfl, rfl, ?_⟩
      have h2 := HQV.out.2.set 3 (.slice qa s.r qc)
      have h1 := HQV.out.1.setOther ⟨w.heap.size + 2, 3, none⟩ (.slice qa s.r qc) (by show _ + 1 ≠ _ + 2; omega)
      have h := HEND.out _ _ h1 h2 (HBV.out.setCell (p := ⟨w.heap.size + 2, 3, none⟩) (by show _ ≤ _ + 2; omega) _) (by rw [HKS.out, sps3, HCC.out]; simp [plnS, hk, gm0])
      exact ⟨h2, h.1, h1, h.2.1, h.2.2.1, h.2.2.2.1, h.2.2.2.2⟩
    obtain ⟨X, MC, hX, hMC, x2, x3, x1, xz, xo, xs, xb⟩ := hX.out
    have HX9 : Hid (RowAt (X.setRow (w.heap.size + 1) MC) (w.heap.size + 1) 31 MC ∧ SqAt w0 (.agg MC) (plnS s) ∧ Below w.heap.size w (X.setRow (w.heap.size + 1) MC)) := ⟨x3, xs, xb⟩
    have HXZ : Hid (MC.size = 59 ∧ MC.all (·.oneCell') = true) := ⟨xz, xo⟩
    clear hMC x3 xz xo xs xb HEND HP HKS HQV HBV HCSW HCC
    rw [hk] at c0 k0 HBK t0
    have HZ1 : Hid (W1.heap.size = w.heap.size + 2) := hz1
    clear hz1
    go_enter Tryz.func19, Tryz.ntmps19
    go_upto_region 1 with fail
    rw [← hW1]
    clear hW1
    go_upto_region 2 with (first | refine wpList_bA rfl 31 [(0, _)] rfl [(0, .int .i64 5)] rfl KS HBK.out ?_ | refine wpList_store_row rfl 31 _ _ rfl W1.heap.size KS rfl rfl 31 _ (RowAt.new W1 _ _) (by rw [HKZ.out]; exact s_info) (by rw [HKZ.out, HZZ.out]) HKO.out ?_)
    rw [← hV]
    clear hV k0 hz59
    rw [HZ1.out]
    clear HZ1
    go_upto_region 14 with fail
    rw [← hX]
    clear hX
    go_wp2_with (first | refine wpList_load_row rfl 31 _ rfl (w.heap.size + 2) rfl 31 MC (0, 0) _ x2 Tryz.underlying31 rfl (by rw [HXZ.out.1]; exact s_info) ?_ | refine wpList_store_row rfl 31 _ _ rfl (w.heap.size + 1) MC rfl rfl 31 _ x1 (by rw [HXZ.out.1]; exact s_info) (by rw [HXZ.out.1, HZZ.out]) HXZ.out.2 ?_)
    exact ⟨rfl, _, results_c1 rfl _ _ (w.heap.size + 1) 31 MC (0, 0) _ rfl HX9.out.1 Tryz.underlying31 rfl (by rw [HXZ.out.1]; exact s_info), MC, rfl, HX9.out.2.1, by first | exact HX9.out.2.2 | exact HX9.out.2.2.drew⟩
  · have hX : Hid (∃ X c, X = V.setCells (w.heap.size + 2) 4 (mac x y z s.g.rf s.g.pl).toList ∧ c = setMany KS 4 (mac x y z s.g.rf s.g.pl).toList ∧ RowAt X (w.heap.size + 2) 31 c ∧ RowAt (X.setRow (w.heap.size + 1) c) (w.heap.size + 1) 31 c ∧ RowAt X (w.heap.size + 1) 31 ZS ∧ c.size = 59 ∧ c.all (·.oneCell') = true ∧ SqAt w0 (.agg c) (plnS s) ∧ Below w.heap.size w (X.setRow (w.heap.size + 1) c)) := by
      refine ⟨_, _, rfl, rfl, ?_⟩
      have h2 := row_setCells (o := 4) (l := (mac x y z s.g.rf s.g.pl).toList) HQV.out.2
      have h1 := row_setCells_other (g := w.heap.size + 2) (o := 4) (l := (mac x y z s.g.rf s.g.pl).toList) (by omega) HQV.out.1
      have h := HEND.out _ _ h1 h2 (below_setCells (B := w.heap.size) (g := w.heap.size + 2) (by omega) (l := (mac x y z s.g.rf s.g.pl).toList) (o := 4) HBV.out) (by rw [HKS.out, sps4, HCC.out]; simp [plnS, hk])
      exact ⟨h2, h.1, h1, h.2.1, h.2.2.1, h.2.2.2.1, h.2.2.2.2⟩
    obtain ⟨X, MC, hX, hMC, x2, x3, x1, xz, xo, xs, xb⟩ := hX.out
    have HX9 : Hid (RowAt (X.setRow (w.heap.size + 1) MC) (w.heap.size + 1) 31 MC ∧ SqAt w0 (.agg MC) (plnS s) ∧ Below w.heap.size w (X.setRow (w.heap.size + 1) MC)) := ⟨x3, xs, xb⟩
    have HXZ : Hid (MC.size = 59 ∧ MC.all (·.oneCell') = true) := ⟨xz, xo⟩
    clear hMC x3 xz xo xs xb HEND HP HKS HQV HBV HCSW HCC
    rw [hk] at c0 k0 HBK t0
    have HZ1 : Hid (W1.heap.size = w.heap.size + 2) := hz1
    clear hz1
    go_enter Tryz.func19, Tryz.ntmps19
    go_upto_region 1 with fail
    rw [← hW1]
    clear hW1
    go_upto_region 2 with (first | refine wpList_bA rfl 31 [(0, _)] rfl [(0, .int .i64 6)] rfl KS HBK.out ?_ | refine wpList_store_row rfl 31 _ _ rfl W1.heap.size KS rfl rfl 31 _ (RowAt.new W1 _ _) (by rw [HKZ.out]; exact s_info) (by rw [HKZ.out, HZZ.out]) HKO.out ?_)
    rw [← hV]
    clear hV k0 hz59
    rw [HZ1.out]
    clear HZ1
    go_upto_region 14 with (first | refine wpList_load_arr17 (by rfl) 29 _ rfl w.heap.size 4 rfl (mac x y z s.g.rf s.g.pl) _ r4 Tryz.underlying29 rfl (by rw [mac_size]; exact v_info_mac) ?_ | refine wpList_store_mid rfl 29 _ _ rfl (w.heap.size + 2) 4 (mac x y z s.g.rf s.g.pl) rfl rfl (by rw [mac_size]; exact HTH.out) (by rw [mac_size]; exact v_info_mac) HONE.out.1 ?_)
    rw [← hX]
    clear hX
    go_wp2_with (first | refine wpList_load_row rfl 31 _ rfl (w.heap.size + 2) rfl 31 MC (0, 0) _ x2 Tryz.underlying31 rfl (by rw [HXZ.out.1]; exact s_info) ?_ | refine wpList_store_row rfl 31 _ _ rfl (w.heap.size + 1) MC rfl rfl 31 _ x1 (by rw [HXZ.out.1]; exact s_info) (by rw [HXZ.out.1, HZZ.out]) HXZ.out.2 ?_)
    exact ⟨rfl, _, results_c1 rfl _ _ (w.heap.size + 1) 31 MC (0, 0) _ rfl HX9.out.1 Tryz.underlying31 rfl (by rw [HXZ.out.1]; exact s_info), MC, rfl, HX9.out.2.1, by first | exact HX9.out.2.2 | exact HX9.out.2.2.drew⟩
end Go.Proofs.YtkohhdkkbaifoaaGreatDoor
