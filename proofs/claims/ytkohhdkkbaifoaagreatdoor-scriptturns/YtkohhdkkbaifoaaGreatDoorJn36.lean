/-
  Several texts, joined: PtJ, PtK, PtL, PtM, HSame.
-/
import Derived.Test.YtkohhdkkbaifoaaGreatDoorJn35
import Derived.Deep.QuietTactic
import Derived.BigQuiet
import Derived.Test.YtkohhdkkbaifoaaGreatDoorJn15
/-
  What is read can be written: steps, chains.
-/
namespace Go.Proofs.YtkohhdkkbaifoaaGreatDoor
open Go.RowKit PK Vg

/-- A step that is right, can be written, and has what its kind has, alone. -/
structure Neat (s : Sp) : Prop where
  st : stE s = 0
  wo : woE s = 0
  pl : SameS s (plnS s)
theorem pln_num {k : Nat} {x : Int} (hk : k = 1 ∨ k = 3) : SameS { sp0 k 0 with n := x } (plnS { sp0 k 0 with n := x }) := by
  refine ⟨rfl, ?_, ?_, ?_, fun _ _ => rfl, fun _ _ _ _ => rfl, ?_⟩
  · show x = if (k : Int) = 1 ∨ (k : Int) = 2 ∨ (k : Int) = 3 then x else 0
    rw [if_pos (by omega)]
  · show (⟨#[]⟩ : ByteArray) = if (k : Int) = 2 ∨ (k : Int) = 4 then (⟨#[]⟩ : ByteArray) else ⟨#[]⟩
    rw [ite_self]
  · show 0 = if (k : Int) = 5 then 0 else 0
    rw [ite_self]
  · show SameG gm0 (if (k : Int) = 6 then gm0 else gm0)
    rw [ite_self]
    exact .refl _
theorem pln_key {k n : Nat} {x : ByteArray} (hk : (k = 2) ∨ (k = 4 ∧ n = 0)) : SameS { sp0 k n with key := x } (plnS { sp0 k n with key := x }) := by
  refine ⟨rfl, ?_, ?_, ?_, fun _ _ => rfl, fun _ _ _ _ => rfl, ?_⟩
  · show (n : Int) = if (k : Int) = 1 ∨ (k : Int) = 2 ∨ (k : Int) = 3 then (n : Int) else 0
    by_cases e : (k : Int) = 1 ∨ (k : Int) = 2 ∨ (k : Int) = 3
    · rw [if_pos e]
    · rw [if_neg e]; omega
  · show x = if (k : Int) = 2 ∨ (k : Int) = 4 then x else ⟨#[]⟩
    rw [if_pos (by omega)]
  · show 0 = if (k : Int) = 5 then 0 else 0
    rw [ite_self]
  · show SameG gm0 (if (k : Int) = 6 then gm0 else gm0)
    rw [ite_self]
    exact .refl _
theorem pln_mat {r : Nat} {L : Nat → Nat} {Z : Nat → Nat → Int} : SameS { sp0 5 0 with r := r, L := L, Z := Z } (plnS { sp0 5 0 with r := r, L := L, Z := Z }) := by
  refine ⟨rfl, ?_, ?_, ?_, fun _ _ => rfl, fun _ _ _ _ => rfl, ?_⟩
  · show ((0 : Nat) : Int) = if ((5 : Nat) : Int) = 1 ∨ ((5 : Nat) : Int) = 2 ∨ ((5 : Nat) : Int) = 3 then ((0 : Nat) : Int) else 0
    rw [if_neg (by omega)]; rfl
  · show (⟨#[]⟩ : ByteArray) = if ((5 : Nat) : Int) = 2 ∨ ((5 : Nat) : Int) = 4 then (⟨#[]⟩ : ByteArray) else ⟨#[]⟩
    rw [ite_self]
  · show r = if ((5 : Nat) : Int) = 5 then r else 0
    rw [if_pos (by decide)]
  · show SameG gm0 (if ((5 : Nat) : Int) = 6 then gm0 else gm0)
    rw [ite_self]
    exact .refl _
theorem pln_mac {g : Gm} : SameS { sp0 6 0 with g := g } (plnS { sp0 6 0 with g := g }) := by
  refine ⟨rfl, ?_, ?_, ?_, fun _ _ => rfl, fun _ _ _ _ => rfl, ?_⟩
  · show ((0 : Nat) : Int) = if ((6 : Nat) : Int) = 1 ∨ ((6 : Nat) : Int) = 2 ∨ ((6 : Nat) : Int) = 3 then ((0 : Nat) : Int) else 0
    rw [if_neg (by omega)]; rfl
  · show (⟨#[]⟩ : ByteArray) = if ((6 : Nat) : Int) = 2 ∨ ((6 : Nat) : Int) = 4 then (⟨#[]⟩ : ByteArray) else ⟨#[]⟩
    rw [ite_self]
  · show 0 = if ((6 : Nat) : Int) = 5 then 0 else 0
    rw [ite_self]
  · show SameG g (if ((6 : Nat) : Int) = 6 then g else gm0)
    rw [if_pos (by decide)]
    exact .refl _
theorem rStep_neat {t : List UInt8} {place p : Nat} {s : Sp} {q : Nat} (h : rStep t place p = .ok (s, q)) : place < 64 ∧ Neat s := by
  refine ⟨rStep_ok h, ?_⟩
  unfold rStep at h
  obtain ⟨l, q1, hw, h⟩ := rBind_ok h
  obtain ⟨_, _, _, _, hl0, _, _⟩ := rWord_ok hw
  cases hk : nmK ⟨l.toArray⟩ with
  | none => rw [hk] at h; cases h
  | some x =>
    obtain ⟨k, n⟩ := x
    rw [hk] at h
    have hkn := nmK_ok hk (by intro e; apply hl0; have := congrArg (·.data.toList) e; simpa using this)
    have h : (if 64 ≤ place then .error (5, p)
      else if k = 1 then rBind (rNum t 0 25 q1) fun x q' => .ok ({ sp0 k n with n := x }, q')
      else if k = 3 then rBind (rNum t 1 64 q1) fun x q' => .ok ({ sp0 k n with n := x }, q')
      else if k = 2 ∨ k = 4 then rBind (rKey t q1) fun x q' => .ok ({ sp0 k n with key := ⟨x.toArray⟩ }, q')
      else if k = 5 then rBind (rMat t q1) fun x q' => .ok ({ sp0 k n with r := x.1, L := fun _ => x.1, Z := fun i j => (x.2.getD (i * x.1 + j) 0 : Nat) }, q')
      else if k = 6 then rBind (rMach t q1) fun x q' => .ok ({ sp0 k n with g := x }, q')
      else .ok (sp0 k n, q1) : Rz Sp) = .ok (s, q) := h
    by_cases hp : 64 ≤ place
    · rw [if_pos hp] at h; cases h
    rw [if_neg hp] at h
    by_cases k1 : k = 1
    · rw [if_pos k1] at h
      obtain ⟨x, q', h1, h2⟩ := rBind_ok h
      cases h2
      have := rNum_ok h1
      obtain rfl : n = 0 := by omega
      subst k1
      refine ⟨?_, ?_, pln_num (.inl rfl)⟩
      · show inE (x : Int) 0 25 = 0
        exact inE_zero.2 this
      · unfold woE; exact if_neg (by show ¬ ((1 : Nat) : Int) = 6; decide)
    rw [if_neg k1] at h
    by_cases k3 : k = 3
    · rw [if_pos k3] at h
      obtain ⟨x, q', h1, h2⟩ := rBind_ok h
      cases h2
      have := rNum_ok h1
      obtain rfl : n = 0 := by omega
      subst k3
      refine ⟨?_, ?_, pln_num (.inr rfl)⟩
      · show inE (x : Int) 1 64 = 0
        exact inE_zero.2 this
      · unfold woE; exact if_neg (by show ¬ ((3 : Nat) : Int) = 6; decide)
    rw [if_neg k3] at h
    by_cases k2 : k = 2 ∨ k = 4
    · rw [if_pos k2] at h
      obtain ⟨x, q', h1, h2⟩ := rBind_ok h
      cases h2
      unfold rKey at h1
      obtain ⟨x', q2, _, h3⟩ := rBind_ok h1
      obtain ⟨h4, h5⟩ := rChk_ok h3
      cases h5
      refine ⟨?_, ?_, pln_key (by omega)⟩
      · rcases k2 with rfl | rfl
        · have h6 : inE (n : Int) 1 4 = 0 := inE_zero.2 (by omega)
          show (if inE (n : Int) 1 4 ≠ 0 then inE (n : Int) 1 4 else keyE x) = 0
          rw [if_neg (fun e => e h6)]
          exact h4
        · exact h4
      · unfold woE; exact if_neg (by show ¬ (k : Int) = 6; omega)
    rw [if_neg k2] at h
    by_cases k5 : k = 5
    · rw [if_pos k5] at h
      obtain ⟨⟨r, L⟩, q', h1, h2⟩ := rBind_ok h
      cases h2
      unfold rMat at h1
      obtain ⟨r', q2, h3, h1⟩ := rBind_ok h1
      obtain ⟨L', q3, h4, h1⟩ := rBind_ok h1
      cases h1
      have hr := rNum_ok h3
      obtain ⟨hL, hx⟩ := rNums_ok h4
      obtain rfl : n = 0 := by omega
      subst k5
      refine ⟨?_, ?_, pln_mat⟩
      · show matErr r (fun _ => r) (fun i j => (L.getD (i * r + j) 0 : Nat)) = 0
        refine (matErr_zero _ _ _).2 ⟨⟨by omega, by omega, fun i hi j hj => ?_⟩, fun _ _ => rfl⟩
        have hlt : i * r + j < L.length := by
          have h6 : (i + 1) * r ≤ r * r := Nat.mul_le_mul_right _ (by omega)
          rw [Nat.succ_mul] at h6
          omega
        have h7 := hx _ (List.getElem_mem hlt)
        rw [List.getD_eq_getElem?_getD, List.getElem?_eq_getElem hlt]
        simp only [Option.getD_some]
        omega
      · unfold woE; exact if_neg (by show ¬ ((5 : Nat) : Int) = 6; decide)
    rw [if_neg k5] at h
    by_cases k6 : k = 6
    · rw [if_pos k6] at h
      obtain ⟨g, q', h1, h2⟩ := rBind_ok h
      cases h2
      obtain ⟨a, b⟩ := rMach_ok h1
      obtain rfl : n = 0 := by omega
      subst k6
      exact ⟨a, by unfold woE; rw [if_pos (by rfl)]; exact b, pln_mac⟩
    · omega
theorem rMore_neat {t : List UInt8} : ∀ {f : Nat} {L L' : List Sp} {p q : Nat}, rMore t f L p = .ok (L', q) → (∀ s ∈ L, Neat s) → 1 ≤ L.length → L.length ≤ 64 → (∀ s ∈ L', Neat s) ∧ 1 ≤ L'.length ∧ L'.length ≤ 64
  | 0, L, L', p, q, h, h1, h2, h3 => by cases h; exact ⟨h1, h2, h3⟩
  | f + 1, L, L', p, q, h, h1, h2, h3 => by
    unfold rMore at h
    by_cases e : t.length < p
    · rw [if_pos e] at h; cases h; exact ⟨h1, h2, h3⟩
    rw [if_neg e] at h
    obtain ⟨l, q1, _, h⟩ := rBind_ok h
    by_cases e2 : l = [124]
    · rw [if_pos e2] at h
      obtain ⟨s, q2, h4, h⟩ := rBind_ok h
      obtain ⟨h5, h6⟩ := rStep_neat h4
      refine rMore_neat h (fun x hx => ?_) (by simp) (by simp; omega)
      rcases List.mem_append.1 hx with hx | hx
      · exact h1 x hx
      · have : x = s := by simpa using hx
        rw [this]; exact h6
    · rw [if_neg e2] at h; cases h
/-- WHAT IS READ CAN BE WRITTEN. -/
theorem rRead_neat {t : List UInt8} {L : List Sp} {q : Nat} (h : rRead t = .ok (L, q)) : prE L.length (spD L) = 0 ∧ L.length ≤ 64 ∧ ∀ i, i < L.length → SameS (spD L i) (plnS (spD L i)) := by
  unfold rRead at h
  by_cases e : 65536 < t.length
  · rw [if_pos e] at h; cases h
  rw [if_neg e] at h
  obtain ⟨s, q1, h1, h⟩ := rBind_ok h
  have hs := (rStep_neat h1).2
  obtain ⟨h2, h3, h4⟩ := rMore_neat h (fun x hx => by have : x = s := by simpa using hx
                                                      rw [this]; exact hs) (by simp) (by simp)
  have h5 : ∀ i, i < L.length → Neat (spD L i) := fun i hi => by
    refine h2 _ ?_
    unfold spD
    rw [List.getD_eq_getElem?_getD, List.getElem?_eq_getElem hi]
    exact List.getElem_mem hi
  refine ⟨?_, h4, fun i hi => (h5 i hi).pl⟩
  unfold prE
  rw [if_neg (fun e => e (chE_ok h4 fun i hi => (h5 i hi).st)), if_neg (by omega)]
  exact firV_all fun i hi => (h5 i hi).wo
theorem SameG.trans {a b c : Gm} (h : SameG a b) (k : SameG b c) : SameG a c where
  n := h.n.trans k.n
  wi := fun r hr i hi => (h.wi r hr i hi).trans (k.wi r (by rw [← h.n]; exact hr) i hi)
  nl := fun r hr => (h.nl r hr).trans (k.nl r (by rw [← h.n]; exact hr))
  no := fun r hr i hi => (h.no r hr i hi).trans (k.no r (by rw [← h.n]; exact hr) i (by rw [← h.nl r hr]; exact hi))
  rl := h.rl.trans k.rl
  ri := fun i hi => (h.ri i hi).trans (k.ri i (by rw [← h.rl]; exact hi))
  sl := h.sl.trans k.sl
  st := fun i hi => (h.st i hi).trans (k.st i (by rw [← h.sl]; exact hi))
  rf := fun i hi => (h.rf i hi).trans (k.rf i hi)
  pl := fun i hi => (h.pl i hi).trans (k.pl i hi)
theorem SameS.trans {a b c : Sp} (h : SameS a b) (k : SameS b c) : SameS a c where
  k := h.k.trans k.k
  n := h.n.trans k.n
  key := h.key.trans k.key
  r := h.r.trans k.r
  L := fun i hi => (h.L i hi).trans (k.L i (by rw [← h.r]; exact hi))
  Z := fun i hi j hj => (h.Z i hi j hj).trans (k.Z i (by rw [← h.r]; exact hi) j (by rw [← h.L i hi]; exact hj))
  g := h.g.trans k.g
end Go.Proofs.YtkohhdkkbaifoaaGreatDoor

/-
  The document's Same: numbers, wheels.
-/
namespace Go.Proofs.YtkohhdkkbaifoaaGreatDoor
open Go.RowKit PK Vg

theorem wpList_load_arr17 {P : Program} {ops : Array Oper} {rest : List Oper} {op : Oper} {a : Act} {w : World} {Q : Exit → Act → World → Prop} (hw : Region.wanted op (yielded ops a.tmps) = true) (ty : TypeId) (x : Operand) (ho : op.op = .load ty x)
    (b o : Nat) (hx : a.eval x = .pointer (some ⟨b, o, none⟩)) (cs : Array Value) (d : TypeDesc) (hc : w.rangeAt b o cs.toList)
    (hu : P.underlying ty = some d) (hd : d.isRow = true) (hi : (P.info? ty).map (·.size) = some cs.size)
    (h : wpList P ops Q rest (a.put op.dst (.agg cs)) w) : wpList P ops Q (op :: rest) a w := by
  refine wpList_step fun K hK => ?_
  rw [if_pos hw]
  refine wp_load_mid ty x ho b o hx cs.toList d hc hu hd (by rw [Array.length_toList]; exact hi) ?_
  rw [Array.toArray_toList]
  exact hK _ _ h
set_option maxRecDepth 100000 in
set_option maxHeartbeats 1000000 in
theorem rsameN_any (u v : Value) (n m : Nat) (hn : n = m → n ≤ 1048576) (f g : Nat → Int) (w : World) (hu : NumsAt w u n f) (hv : NumsAt w v m g) :
    Calls Tryz.prog 110 #[u, v] w fun e w' => e = .returned (.bool (numsEq n m f g)) ∧ Below w.heap.size w w' := by
  obtain ⟨a, ca, rfl, _, hca⟩ := hu
  obtain ⟨b, cb, rfl, _, hcb⟩ := hv
  by_cases hnm : n = m
  · subst hnm
    have hn := hn rfl
    have HA : Hid (∀ c, c < n → ∃ b o, a = some ⟨b, o, none⟩ ∧ w.cell? ⟨b, o + c, none⟩ = some (.int .i64 (f c))) := hca
    have HB : Hid (∀ c, c < n → ∃ b' o, b = some ⟨b', o, none⟩ ∧ w.cell? ⟨b', o + c, none⟩ = some (.int .i64 (g c))) := hcb
    have HQ : Hid (numsEq n n f g = eqI n f g) := by rw [Hid]; unfold numsEq; simp
    generalize numsEq n n f g = R at *
    clear hca hcb
    go_enter Tryz.func110, Tryz.ntmps110
    go_wp2
    go_loopw [13] (fun i W => ∃ m : Nat, m ≤ n ∧ i = .int .i64 m ∧ Hid (∀ j, j < m → f j = g j) ∧ Below w.heap.size w W) (fun i _ => ((n : Int) - intOf i).toNat)
    case atStart => exact ⟨0, by omega, rfl, fun j hj => by omega, Below.refl _ _⟩
    case round =>
      obtain ⟨m, hm, rfl, HJ, hb⟩ := hrel
      by_cases hlt : m < n
      · obtain ⟨b1, o1, e1, h1⟩ := HA.out m hlt
        obtain ⟨b2, o2, e2, h2⟩ := HB.out m hlt
        subst e1 e2
        have c1 := (hb.cell (cell_block h1)).trans h1
        have c2 := (hb.cell (cell_block h2)).trans h2
        by_cases hfg : f m = g m
        · have HN : Hid (∀ j, j < m + 1 → f j = g j) := fun j hj => by
            by_cases e : j = m
            · rw [e]; exact hfg
            · exact HJ.out j (by omega)
          rw [← hfg] at c2
          clear hfg HJ
          generalize f m = x at *
          clear h1 h2
          go_wp2_with fail
          go_quiet (fail)
          go_wp2
          go_roundw
          case rel => exact ⟨m + 1, by omega, by go_num, HN, ⟨hb.os, hb.tape, hb.output, hb.size, hb.block⟩⟩
          case measure => simp [intOf] <;> omega
        · have HF : Hid (R = false) := by
            rw [Hid, HQ.out]
            cases hq : eqI n f g with
            | false => rfl
            | true => exact absurd ((eqI_iff n f g).1 hq m hlt) hfg
          have hne : (f m != g m) = true := by simpa using hfg
          have hne2 : (f m == g m) = false := by simpa using hfg
          clear hfg HJ HQ
          generalize f m = x at *
          generalize g m = y at *
          clear h1 h2
          go_wp2_with fail
          go_quiet (fail)
          go_wp2
          go_ret
          exact ⟨by rw [HF.out]; rfl, ⟨hb.os, hb.tape, hb.output, hb.size, hb.block⟩⟩
      · have HT : Hid (R = true) := by rw [Hid, HQ.out]; exact eqI_of fun i hi => HJ.out i (by omega)
        go_wp2
        go_ret
        exact ⟨by rw [HT.out]; rfl, hb⟩
  · have hR : numsEq n m f g = false := by unfold numsEq; simp [hnm]
    rw [hR]
    have hne : ((n : Int) != (m : Int)) = true := by simp; omega
    have hne2 : ((n : Int) == (m : Int)) = false := by simp; omega
    have hnb : (n == m) = false := by simpa using hnm
    clear hca hcb hR
    go_enter Tryz.func110, Tryz.ntmps110
    go_wp2
    go_ret
    exact ⟨rfl, Below.refl _ _⟩
end Go.Proofs.YtkohhdkkbaifoaaGreatDoor

/-
  The document's sameWheel.
-/
namespace Go.Proofs.YtkohhdkkbaifoaaGreatDoor
open Go.RowKit PK Vg

set_option maxRecDepth 100000 in
set_option maxHeartbeats 4000000 in
theorem rsameW_any (f g : Nat → Int) (R S : Value) (n m : Nat) (hn : n = m → n ≤ 1048576) (p q : Nat → Int) (w : World) (hR : NumsAt w R n p) (hS : NumsAt w S m q) :
    Calls Tryz.prog 102 #[.agg (whl f R), .agg (whl g S)] w fun e w' => e = .returned (.bool (eqI 26 f g && numsEq n m p q)) ∧ Below w.heap.size w w' := by
  obtain ⟨CA, hCA⟩ : ∃ CA, CA = whl f R := ⟨_, rfl⟩
  obtain ⟨CB, hCB⟩ : ∃ CB, CB = whl g S := ⟨_, rfl⟩
  rw [← hCA, ← hCB]
  obtain ⟨W, hW⟩ : ∃ W, W = (w.alloc (.cells CA 97)).alloc (.cells CB 97) := ⟨_, rfl⟩
  have hb1 : Below w.heap.size w W := by rw [hW]; exact ((Below.refl _ w).alloc (Nat.le_refl _) _).alloc (by simp) _
  have hq1 : RowAt W w.heap.size 97 CA := by rw [hW]; exact (RowAt.new w _ _).alloc _
  have hq2 : RowAt W (w.heap.size + 1) 97 CB := by
    rw [hW]
    have := RowAt.new (w.alloc (.cells CA 97)) 97 CB
    rw [World.size_alloc] at this
    exact this
  have HB : Hid (Below w.heap.size w W) := hb1
  have HR : Hid (NumsAt W R n p) := hR.below hb1
  have HS : Hid (NumsAt W S m q) := hS.below hb1
  have HEQ : Hid _ := rsameN_any R S n m hn p q W HR.out HS.out
  obtain ⟨ra, rc, rfl, -⟩ := id hR
  obtain ⟨sa, sc, rfl, -⟩ := id hS
  have r1 : W.rangeAt w.heap.size 0 (ints 26 f).toList := whl_range (by rw [← hCA]; exact hq1)
  have r2 : W.rangeAt (w.heap.size + 1) 0 (ints 26 g).toList := whl_range (by rw [← hCB]; exact hq2)
  have d1 : W.cell? ⟨w.heap.size, 26, none⟩ = some (.slice ra n rc) := RowAt.cell hq1 (by rw [hCA]; exact whl_last _ _)
  have d2 : W.cell? ⟨w.heap.size + 1, 26, none⟩ = some (.slice sa m sc) := RowAt.cell hq2 (by rw [hCB]; exact whl_last _ _)
  have hql := run_eql_perm f g W
  clear hR hS hCA hCB hq1 hq2 hb1 HR HS hn
  by_cases hg : eqI 26 f g = true
  · rw [hg] at hql ⊢
    rw [Bool.true_and]
    generalize numsEq n m p q = RR at *
    clear hg
    go_enter Tryz.func102, Tryz.ntmps102
    go_upto_region 1 with fail
    rw [← hW]
    clear hW
    go_wp2_with (first | refine wpList_load_arr rfl 27 _ rfl w.heap.size 0 rfl (ints 26 f) _ r1 Tryz.underlying27 rfl (by rw [ints_size]; exact info_perm) ?_ | refine wpList_load_arr rfl 27 _ rfl (w.heap.size + 1) 0 rfl (ints 26 g) _ r2 Tryz.underlying27 rfl (by rw [ints_size]; exact info_perm) ?_)
    refine Calls.mono HEQ.out ?_
    rintro e V2 ⟨rfl, hb2⟩
    have HB3 : Hid (Below w.heap.size w V2) := HB.out.trans (hb2.mono HB.out.size)
    clear hb2 HEQ r1 r2 d1 d2 hql
    go_wp2
    go_ret
    exact ⟨rfl, HB3.out⟩
  · have hg2 : eqI 26 f g = false := by simpa using hg
    rw [hg2] at hql ⊢
    rw [Bool.false_and]
    clear hg hg2 HEQ
    go_enter Tryz.func102, Tryz.ntmps102
    go_upto_region 1 with fail
    rw [← hW]
    clear hW
    go_wp2_with (first | refine wpList_load_arr rfl 27 _ rfl w.heap.size 0 rfl (ints 26 f) _ r1 Tryz.underlying27 rfl (by rw [ints_size]; exact info_perm) ?_ | refine wpList_load_arr rfl 27 _ rfl (w.heap.size + 1) 0 rfl (ints 26 g) _ r2 Tryz.underlying27 rfl (by rw [ints_size]; exact info_perm) ?_)
    go_ret
    exact ⟨rfl, HB.out⟩
end Go.Proofs.YtkohhdkkbaifoaaGreatDoor

/-
  The document's SameMachine, of machines that have the same.
-/
namespace Go.Proofs.YtkohhdkkbaifoaaGreatDoor
open Go.RowKit PK Vg

theorem numsEq_of {n m : Nat} {f g : Nat → Int} (h : n = m) (hf : ∀ i, i < n → f i = g i) : numsEq n m f g = true := by
  unfold numsEq
  rw [eqI_of hf]
  simp [h]
/-- How long its rows may be. -/
structure Few (g : Gm) : Prop where
  n : g.n ≤ 1000
  nl : ∀ r, r < g.n → g.nl r ≤ 1048576
  rl : g.rl ≤ 1048576
  sl : g.sl ≤ 1048576
set_option maxRecDepth 100000 in
set_option maxHeartbeats 4000000 in
theorem rsameM_ok (u v : Value) (g h : Gm) (hgh : SameG g h) (hf : Few g) (w : World) (hu : MacAt w u g) (hv : MacAt w v h) :
    Calls Tryz.prog 58 #[u, v] w fun e w' => e = .returned (.bool true) ∧ Below w.heap.size w w' := by
  obtain ⟨a1, b1, c1, rfl, ha1, hb1, hc1⟩ := hu
  obtain ⟨a2, b2, c2, rfl, ha2, hb2, hc2⟩ := hv
  obtain ⟨CA, hCA⟩ : ∃ CA, CA = mac a1 b1 c1 g.rf g.pl := ⟨_, rfl⟩
  obtain ⟨CB, hCB⟩ : ∃ CB, CB = mac a2 b2 c2 h.rf h.pl := ⟨_, rfl⟩
  rw [← hCA, ← hCB]
  obtain ⟨Y0, hW⟩ : ∃ Y0, Y0 = (w.alloc (.cells CA 29)).alloc (.cells CB 29) := ⟨_, rfl⟩
  have hbw : Below w.heap.size w Y0 := by rw [hW]; exact ((Below.refl _ w).alloc (Nat.le_refl _) _).alloc (by simp) _
  have hq1 : RowAt Y0 w.heap.size 29 CA := by rw [hW]; exact (RowAt.new w _ _).alloc _
  have hq2 : RowAt Y0 (w.heap.size + 1) 29 CB := by
    rw [hW]
    have := RowAt.new (w.alloc (.cells CA 29)) 29 CB
    rw [World.size_alloc] at this
    exact this
  have HB : Hid (Below w.heap.size w Y0) := hbw
  have HW1 : Hid (WheelsAt Y0 a1 g.n g.wi g.nl g.no) := ha1.below hbw
  have HW2 : Hid (WheelsAt Y0 a2 g.n h.wi h.nl h.no) := by rw [Hid, hgh.n]; exact ha2.below hbw
  have HN1 : Hid (∀ X, Below Y0.heap.size Y0 X → Calls Tryz.prog 110 #[b1, b2] X fun e w' => e = .returned (.bool true) ∧ Below X.heap.size X w') := fun X hX => by
    have := rsameN_any b1 b2 g.rl h.rl (fun _ => hf.rl) g.ri h.ri X ((hb1.below hbw).below hX) ((hb2.below hbw).below hX)
    rw [numsEq_of hgh.rl hgh.ri] at this
    exact this
  have HN2 : Hid (∀ X, Below Y0.heap.size Y0 X → Calls Tryz.prog 110 #[c1, c2] X fun e w' => e = .returned (.bool true) ∧ Below X.heap.size X w') := fun X hX => by
    have := rsameN_any c1 c2 g.sl h.sl (fun _ => hf.sl) g.st h.st X ((hc1.below hbw).below hX) ((hc2.below hbw).below hX)
    rw [numsEq_of hgh.sl hgh.st] at this
    exact this
  obtain ⟨ra, rc, _, rfl, hm1, -⟩ := id ha1
  obtain ⟨sa, sc, _, rfl, -⟩ := id ha2
  obtain ⟨rb, rbc, rfl, -⟩ := id hb1
  obtain ⟨sb, sbc, rfl, -⟩ := id hb2
  obtain ⟨rs, rsc, rfl, -⟩ := id hc1
  obtain ⟨ss, ssc, rfl, -⟩ := id hc2
  rw [← hgh.n] at hCB HW2
  have HNN : Hid (g.n ≤ 1000) := hf.n
  have HSW : Hid (∀ r, r < g.n → ∀ R S X, NumsAt X R (g.nl r) (g.no r) → NumsAt X S (h.nl r) (h.no r) → Calls Tryz.prog 102 #[.agg (whl (g.wi r) R), .agg (whl (h.wi r) S)] X fun e w' => e = .returned (.bool true) ∧ Below X.heap.size X w') := fun r hr R S X h1 h2 => by
    have := rsameW_any (g.wi r) (h.wi r) R S (g.nl r) (h.nl r) (fun _ => hf.nl r hr) (g.no r) (h.no r) X h1 h2
    rw [eqI_of (hgh.wi r hr), numsEq_of (hgh.nl r hr) (hgh.no r hr)] at this
    exact this
  have r1 : Y0.rangeAt w.heap.size 3 (ints 26 g.rf).toList := mid_rf (by rw [← hCA]; exact hq1)
  have r2 : Y0.rangeAt (w.heap.size + 1) 3 (ints 26 h.rf).toList := mid_rf (by rw [← hCB]; exact hq2)
  have r3 : Y0.rangeAt w.heap.size 29 (ints 26 g.pl).toList := mid_pl (by rw [← hCA]; exact hq1)
  have r4 : Y0.rangeAt (w.heap.size + 1) 29 (ints 26 h.pl).toList := mid_pl (by rw [← hCB]; exact hq2)
  have d0 : Y0.cell? ⟨w.heap.size, 0, none⟩ = some (.slice ra g.n rc) := RowAt.cell hq1 (by rw [hCA]; exact mac_0 _ _ _ _ _)
  have e0 : Y0.cell? ⟨w.heap.size + 1, 0, none⟩ = some (.slice sa g.n sc) := RowAt.cell hq2 (by rw [hCB]; exact mac_0 _ _ _ _ _)
  have d1 : Y0.cell? ⟨w.heap.size, 1, none⟩ = some (.slice rb g.rl rbc) := RowAt.cell hq1 (by rw [hCA]; exact mac_1 _ _ _ _ _)
  have e1 : Y0.cell? ⟨w.heap.size + 1, 1, none⟩ = some (.slice sb h.rl sbc) := RowAt.cell hq2 (by rw [hCB]; exact mac_1 _ _ _ _ _)
  have HD : Hid (w.heap.size + 1 < Y0.heap.size ∧ Y0.cell? ⟨w.heap.size, 0, none⟩ = some (.slice ra g.n rc) ∧ Y0.cell? ⟨w.heap.size + 1, 0, none⟩ = some (.slice sa g.n sc) ∧ Y0.cell? ⟨w.heap.size, 2, none⟩ = some (.slice rs g.sl rsc) ∧ Y0.cell? ⟨w.heap.size + 1, 2, none⟩ = some (.slice ss h.sl ssc)) := ⟨RowAt.lt hq2, d0, e0, RowAt.cell hq1 (by rw [hCA]; exact mac_2 _ _ _ _ _), RowAt.cell hq2 (by rw [hCB]; exact mac_2 _ _ _ _ _)⟩
  have hql1 := run_eql_perm g.rf h.rf Y0
  have hql2 := run_eql_perm g.pl h.pl Y0
  rw [eqI_of hgh.rf] at hql1
  rw [eqI_of hgh.pl] at hql2
  have hcl := HN1.out Y0 (Below.refl _ _)
  have HCL : Hid (Calls Tryz.prog 110 #[.slice rb g.rl rbc, .slice sb h.rl sbc] Y0 fun e w' => e = .returned (.bool true) ∧ Below Y0.heap.size Y0 w') := hcl
  have HMN : Hid (g.n ≤ maxLen) := hm1
  generalize g.rf = GRF at *
  generalize g.pl = GPL at *
  generalize h.rf = HRF at *
  generalize h.pl = HPL at *
  generalize g.rl = GRL at *
  generalize h.rl = HRL at *
  generalize g.sl = GSL at *
  generalize h.sl = HSL at *
  generalize g.n = n at *
  clear hcl hm1 hgh hf hb1 hb2 hc1 hc2 ha1 ha2 hq1 hq2 hCA hCB hbw
  go_enter Tryz.func58, Tryz.ntmps58
  go_upto_region 1 with fail
  rw [← hW]
  clear hW
  go_wp2_with (first | refine wpList_load_arr17 (by rfl) 27 _ rfl w.heap.size 3 rfl (ints 26 GRF) _ r1 Tryz.underlying27 rfl (by rw [ints_size]; exact info_perm) ?_ | refine wpList_load_arr17 (by rfl) 27 _ rfl (w.heap.size + 1) 3 rfl (ints 26 HRF) _ r2 Tryz.underlying27 rfl (by rw [ints_size]; exact info_perm) ?_ | refine wpList_load_arr17 (by rfl) 27 _ rfl w.heap.size 29 rfl (ints 26 GPL) _ r3 Tryz.underlying27 rfl (by rw [ints_size]; exact info_perm) ?_ | refine wpList_load_arr17 (by rfl) 27 _ rfl (w.heap.size + 1) 29 rfl (ints 26 HPL) _ r4 Tryz.underlying27 rfl (by rw [ints_size]; exact info_perm) ?_)
  refine Calls.mono HCL.out ?_
  rintro e V1 ⟨rfl, hbv⟩
  have HV1 : Hid (Below Y0.heap.size Y0 V1) := hbv
  have d2 : V1.cell? ⟨w.heap.size, 2, none⟩ = some (.slice rs GSL rsc) := (hbv.cell (by have := HD.out.1; show w.heap.size < _; omega)).trans HD.out.2.2.2.1
  have e2 : V1.cell? ⟨w.heap.size + 1, 2, none⟩ = some (.slice ss HSL ssc) := (hbv.cell (by have := HD.out.1; show w.heap.size + 1 < _; omega)).trans HD.out.2.2.2.2
  have HCL2 : Hid _ := HN2.out V1 hbv
  clear r1 r2 r3 r4 hql1 hql2 d0 e0 d1 e1 HCL HN1 HN2 hbv
  go_wp2_with fail
  refine Calls.mono HCL2.out ?_
  rintro e V2 ⟨rfl, hbv2⟩
  have HV2 : Hid (Below Y0.heap.size Y0 V2) := HV1.out.trans (hbv2.mono HV1.out.size)
  have d0 : V2.cell? ⟨w.heap.size, 0, none⟩ = some (.slice ra n rc) := (HV2.out.cell (by have := HD.out.1; show w.heap.size < _; omega)).trans HD.out.2.1
  clear d2 e2 HCL2 hbv2 HV1
  go_wp2_with fail
  go_loopw [46] (fun i X => ∃ k : Nat, k ≤ n ∧ i = .int .i64 (k : Nat) ∧ Below Y0.heap.size Y0 X) (fun i _ => ((n : Int) - intOf i).toNat)
  case atStart => exact ⟨0, by omega, rfl, HV2.out⟩
  case round =>
    obtain ⟨k, hk, rfl, hbe⟩ := hrel
    by_cases hlt : k < n
    · have HLT : Hid (k < n) := hlt
      have hlt2 : (k : Int) < (n : Int) := by omega
      obtain ⟨_, _, R1, hx1, -, hr1, hs1⟩ := id HW1.out
      obtain ⟨_, _, R2, hx2, -, hr2, hs2⟩ := id HW2.out
      obtain ⟨p1, o1, rfl, hg1⟩ := hr1 k hlt
      obtain ⟨p2, o2, rfl, hg2⟩ := hr2 k hlt
      injection hx1 with hx1 _ _
      injection hx2 with hx2 _ _
      subst hx1 hx2
      have HG1 : Hid (Y0.rangeAt p1 (o1 + k * 27) (whl (g.wi k) (R1 k)).toList) := hg1
      have HG2 : Hid (Y0.rangeAt p2 (o2 + k * 27) (whl (h.wi k) (R2 k)).toList) := hg2
      have HM1 : Hid (NumsAt Y0 (R1 k) (g.nl k) (g.no k)) := hs1 k hlt
      have HM2 : Hid (NumsAt Y0 (R2 k) (h.nl k) (h.no k)) := hs2 k hlt
      have HCW : Hid _ := HSW.out k hlt (R1 k) (R2 k)
      have hk1000 : k ≤ 1000 := by have := HNN.out; omega
      obtain ⟨C1, hC1⟩ : ∃ C, C = whl (g.wi k) (R1 k) := ⟨_, rfl⟩
      obtain ⟨C2, hC2⟩ : ∃ C, C = whl (h.wi k) (R2 k) := ⟨_, rfl⟩
      have HZ1 : Hid (C1.size = 27) := by rw [Hid, hC1]; exact whl_size _ _
      have HZ2 : Hid (C2.size = 27) := by rw [Hid, hC2]; exact whl_size _ _
      rw [← hC1] at HG1 HCW
      rw [← hC2] at HG2 HCW
      clear hC1 hC2 hg1 hg2 hs1 hs2 hr1 hr2 hlt d0
      go_upto_region 6 with fail
      have hSd : Below Y0.heap.size Y0 wr.drew := hbe.drew
      clear hbe
      refine wp_region_noPanic ?_
      refine wp_region_held_drew (S := fun X => Below Y0.heap.size Y0 X) (by kernel_rfl) hSd (fun hS => ?_)
      clear hSd
      obtain ⟨Z, hZ⟩ : ∃ x, x = wr.drew := ⟨_, rfl⟩
      rw [← hZ] at hS ⊢
      clear hZ
      refine vtake 0 49 (.pointer (some ⟨w.heap.size, 0, none⟩)) rfl rfl (by kernel_rfl) (by kernel_rfl) (by kernel_rfl) (fun _ _ _ _ h => h) (by rfl) (fun W hW => by clear hS hW; go_simp) hS ?_
      simp only [List.setIfInBounds_toArray, List.set_cons_succ, List.set_cons_zero]
      refine vtake 1 50 (.slice (some ⟨p1, o1, none⟩) n rc) rfl rfl (by kernel_rfl) (by kernel_rfl) (by kernel_rfl) (fun _ _ _ _ h => h) (by rfl) (fun W hW => by have u := (hW.cell (by have := HD.out.1; show w.heap.size < _; omega)).trans HD.out.2.1; clear hS hW; go_simp) hS ?_
      simp only [List.setIfInBounds_toArray, List.set_cons_succ, List.set_cons_zero]
      refine vtake 2 51 (.int .i64 (k : Nat)) rfl rfl (by kernel_rfl) (by kernel_rfl) (by kernel_rfl) (fun _ _ _ _ h => h) (by rfl) (fun W hW => by clear hS hW; go_simp) hS ?_
      simp only [List.setIfInBounds_toArray, List.set_cons_succ, List.set_cons_zero]
      refine vtake 3 52 (.pointer (some ⟨p1, o1 + k * 27, none⟩)) rfl rfl (by kernel_rfl) (by kernel_rfl) (by kernel_rfl) (fun _ _ _ _ h => h) (by rfl) (fun W hW => by clear hS hW; go_simp) hS ?_
      simp only [List.setIfInBounds_toArray, List.set_cons_succ, List.set_cons_zero]
      refine vtake 4 53 (.agg C1) rfl rfl (by kernel_rfl) (by kernel_rfl) (by kernel_rfl) (fun _ _ _ _ h => h) (by rfl) (fun W hW => by have u := run_loadAt_mid (P := Tryz.prog) W p1 (o1 + k * 27) 97 C1.toList _ (rangeAt_below HG1.out hW) Tryz.underlying97 rfl (by rw [Array.length_toList, HZ1.out]; exact v_info_whl); clear hS hW; simp [execOp, Act.eval, u]) hS ?_
      simp only [List.setIfInBounds_toArray, List.set_cons_succ, List.set_cons_zero]
      refine vtake 5 54 (.pointer (some ⟨w.heap.size + 1, 0, none⟩)) rfl rfl (by kernel_rfl) (by kernel_rfl) (by kernel_rfl) (fun _ _ _ _ h => h) (by rfl) (fun W hW => by clear hS hW; go_simp) hS ?_
      simp only [List.setIfInBounds_toArray, List.set_cons_succ, List.set_cons_zero]
      refine vtake 6 55 (.slice (some ⟨p2, o2, none⟩) n sc) rfl rfl (by kernel_rfl) (by kernel_rfl) (by kernel_rfl) (fun _ _ _ _ h => h) (by rfl) (fun W hW => by have u := (hW.cell (by have := HD.out.1; show w.heap.size + 1 < _; omega)).trans HD.out.2.2.1; clear hS hW; go_simp) hS ?_
      simp only [List.setIfInBounds_toArray, List.set_cons_succ, List.set_cons_zero]
      refine vtake 7 56 (.int .i64 (k : Nat)) rfl rfl (by kernel_rfl) (by kernel_rfl) (by kernel_rfl) (fun _ _ _ _ h => h) (by rfl) (fun W hW => by clear hS hW; go_simp) hS ?_
      simp only [List.setIfInBounds_toArray, List.set_cons_succ, List.set_cons_zero]
      refine vtake 8 57 (.pointer (some ⟨p2, o2 + k * 27, none⟩)) rfl rfl (by kernel_rfl) (by kernel_rfl) (by kernel_rfl) (fun _ _ _ _ h => h) (by rfl) (fun W hW => by clear hS hW; go_simp) hS ?_
      simp only [List.setIfInBounds_toArray, List.set_cons_succ, List.set_cons_zero]
      refine vtake 9 58 (.agg C2) rfl rfl (by kernel_rfl) (by kernel_rfl) (by kernel_rfl) (fun _ _ _ _ h => h) (by rfl) (fun W hW => by have u := run_loadAt_mid (P := Tryz.prog) W p2 (o2 + k * 27) 97 C2.toList _ (rangeAt_below HG2.out hW) Tryz.underlying97 rfl (by rw [Array.length_toList, HZ2.out]; exact v_info_whl); clear hS hW; simp [execOp, Act.eval, u]) hS ?_
      simp only [List.setIfInBounds_toArray, List.set_cons_succ, List.set_cons_zero]
      refine wpAnyH_ready (rs := [10]) (by kernel_rfl) (by simp) ?_
      refine AllReadyH.cons (o := _) rfl (fun K hK => ?_) AllReadyH.nil
      rw [if_pos (by rfl)]
      go_simp
      refine Calls.mono (HCW.out _ (HM1.out.below hS) (HM2.out.below hS)) ?_
      rintro e Y ⟨rfl, hb8⟩
      refine hK.out _ _ (hS.trans (hb8.mono hS.size)) (fun hS1 => ?_)
      clear hK hS K
      have hS := hS1
      clear hS1
      refine vtake 11 60 (.bool false) rfl rfl (by kernel_rfl) (by kernel_rfl) (by kernel_rfl) (fun _ _ _ _ h => h) (by rfl) (fun W hW => by clear hS hW; go_simp) hS ?_
      simp only [List.setIfInBounds_toArray, List.set_cons_succ, List.set_cons_zero]
      refine wpAnyH_done (by kernel_rfl) ?_ _
      refine NoPanic.normal ?_
      have HS := (show Hid _ from hS)
      clear hS
      go_wp2_with fail
      go_roundw
      case rel => exact ⟨_, _, _, ⟨k + 1, HLT.out, rfl, HS.out⟩, rfl, rfl, by go_num⟩
      case measure => have := HLT.out; simp [intOf]; omega
    · obtain rfl : k = n := by omega
      have hnn : ¬ ((k : Nat) : Int) < ((k : Nat) : Int) := by omega
      have HE : Hid (Below w.heap.size w wr) := HB.out.trans (hbe.mono HB.out.size)
      clear hbe
      go_wp2
      go_ret
      exact ⟨rfl, HE.out⟩
end Go.Proofs.YtkohhdkkbaifoaaGreatDoor

/-
  Contract of the document's Same, of two alike; the law's alive.
-/
namespace Go.Proofs.YtkohhdkkbaifoaaGreatDoor
open Go.RowKit PK

set_option maxHeartbeats 2000000 in
theorem rsame_ok (u v : Value) (n : Nat) (hn : n ≤ 4) (Z : Nat → Nat → Int) (w : World) (hu : MatAt w u n (fun _ => n) Z) (hv : MatAt w v n (fun _ => n) Z) :
    Calls Tryz.prog 57 #[u, v] w fun e w' => e = .returned (.bool true) ∧ Below w.heap.size w w' := by
  by_cases h0 : n = 0
  · subst h0
    obtain ⟨a, cap, rfl, _⟩ := hu.len
    obtain ⟨a', cap', rfl, _⟩ := hv.len
    clear hu hv
    go_enter Tryz.func57, Tryz.ntmps57
    go_wp2
    go_loop [14] (fun i => i = .int .i64 0) (fun i => (0 - intOf i).toNat)
    case atStart => rfl
    case round =>
      subst hrel
      go_wp2
      go_ret
      exact ⟨rfl, Below.refl _ _⟩
  · have HU := (show Hid (MatAt w u n (fun _ => n) Z) from hu)
    have HV := (show Hid (MatAt w v n (fun _ => n) Z) from hv)
    obtain ⟨b, o, cap, R, rfl, _, hc, hr⟩ := hu.form (by omega)
    obtain ⟨b', o', cap', R', rfl, _, hc', hr'⟩ := hv.form (by omega)
    have HC : Hid (∀ r, r < n → ∃ x1 y1 c1 x2 y2 c2, R r = .slice (some ⟨x1, y1, none⟩) n c1 ∧ R' r = .slice (some ⟨x2, y2, none⟩) n c2 ∧ w.cell? ⟨b, o + r, none⟩ = some (R r) ∧ w.cell? ⟨b', o' + r, none⟩ = some (R' r) ∧ ∀ c, c < n → w.cell? ⟨x1, y1 + c, none⟩ = some (.int .i64 (Z r c)) ∧ w.cell? ⟨x2, y2 + c, none⟩ = some (.int .i64 (Z r c))) := fun r hr0 => by
      obtain ⟨x1, y1, c1, e1, _, k1⟩ := (hr r hr0).form (by omega)
      obtain ⟨x2, y2, c2, e2, _, k2⟩ := (hr' r hr0).form (by omega)
      exact ⟨x1, y1, c1, x2, y2, c2, e1, e2, hc r hr0, hc' r hr0, fun c hc0 => ⟨k1 c hc0, k2 c hc0⟩⟩
    clear hu hv hc hr hc' hr'
    go_enter Tryz.func57, Tryz.ntmps57
    go_wp2
    go_loopw [14] (fun i W => ∃ r k : Nat, r ≤ n ∧ i = .int .i64 r ∧ W = w.drewN k) (fun i _ => ((n : Int) - intOf i).toNat)
    case atStart => exact ⟨0, 0, by omega, rfl, rfl⟩
    case round =>
      obtain ⟨r, k, hr, rfl, rfl⟩ := hrel
      by_cases hlt : r < n
      · obtain ⟨x1, y1, c1, x2, y2, c2, e1, e2, k1, k2, k3⟩ := HC.out r hlt
        rw [e1] at k1
        rw [e2] at k2
        have HK : Hid (∀ c, c < n → w.cell? ⟨x1, y1 + c, none⟩ = some (.int .i64 (Z r c)) ∧ w.cell? ⟨x2, y2 + c, none⟩ = some (.int .i64 (Z r c))) := k3
        clear k3 e1 e2
        go_wp2
        go_quiet (fail)
        go_wp2
        go_loopw [33] (fun i W => ∃ c k : Nat, c ≤ n ∧ i = .int .i64 c ∧ W = w.drewN k) (fun i _ => ((n : Int) - intOf i).toNat)
        case atStart => exact ⟨0, k + nq, by omega, rfl, rfl⟩
        case round =>
          obtain ⟨c, k, hc, rfl, rfl⟩ := hrel
          by_cases hcl : c < n
          · obtain ⟨h1, h2⟩ := HK.out c hcl
            go_wp2
            go_quiet (fail)
            go_wp2
            go_roundw
            case rel => exact ⟨c + 1, k + nq, by omega, by go_num, rfl⟩
            case measure => simp [intOf]; omega
          · go_wp2
            go_roundw
            case rel => exact ⟨r + 1, k, by omega, by go_num, rfl⟩
            case measure => simp [intOf]; omega
      · go_wp2
        go_ret
        exact ⟨rfl, rfl, rfl, rfl, Nat.le_refl _, fun _ _ => rfl⟩
end Go.Proofs.YtkohhdkkbaifoaaGreatDoor
