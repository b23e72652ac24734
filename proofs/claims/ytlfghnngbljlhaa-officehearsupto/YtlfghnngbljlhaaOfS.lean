/-
  Contracts of Left, Send and Take (chapter 16).
-/
import Derived.Test.YtlfghnngbljlhaaOfD
import Derived.Deep.QuietTactic
import Derived.BigQuiet
import Derived.BigRegion
namespace Go.Proofs.Ytlfghnngbljlhaa
open Go.RowKit PK Pd

/-- What Send comes to. -/
def SendP (w w' : World) (q g o : Nat) (n : Int) (vs : Value) (P : Nat) (p : Nat → Int) (D : Nat) (d : Nat → Int) (s : Oc.St) (x : Oc.Sp) (e : Ending) : Prop :=
  ∃ v, e = .returned (.tuple #[.int .i64 (if Oc.snE n P p s x = 0 then (Oc.us P s.a : Nat) else 0), v, .int .i64 (Oc.snE n P p s x)]) ∧ NumsAt w' v (if Oc.snE n P p s x = 0 then x.tn else 0) (wrF n x.tf (Oc.on p (Oc.us P s.a))) ∧ New w v ∧ OfSt w' q g o n vs P p D d (Oc.snS n P p s x) ∧ Fr [q, g, o] w w'
def TakeP (w w' : World) (q g o : Nat) (n : Int) (vs : Value) (P : Nat) (p : Nat → Int) (D : Nat) (d : Nat → Int) (s : Oc.St) (x : Oc.Sp) (e : Ending) : Prop :=
  ∃ v, e = .returned (.tuple #[v, .int .i64 (Oc.tkE n P p s x)]) ∧ NumsAt w' v (if Oc.tkE n P p s x = 0 then x.tn else 0) (rdF n x.tf (Oc.on p x.pl.toNat)) ∧ New w v ∧ OfSt w' q g o n vs P p D d (Oc.tkS n P p s x) ∧ Fr [q, g, o] w w'
theorem nums_nil (w : World) (f : Nat → Int) : NumsAt w (.slice none 0 0) 0 f := ⟨none, 0, rfl, by decide, fun c hc => by omega⟩
section
variable {w w' : World} {q g o D P : Nat} {d p : Nat → Int} {n : Int} {vs : Value} {s : Oc.St} {x : Oc.Sp}
theorem SendP.bad {E : Int} (hE : Oc.snE n P p s x = E) (h0 : E ≠ 0) (h11 : E ≠ 11) (h : OfSt w' q g o n vs P p D d s) (hf : Fr [q, g, o] w w') : SendP w w' q g o n vs P p D d s x (.returned (.tuple #[.int .i64 0, .slice none 0 0, .int .i64 E])) := by
  subst hE
  refine ⟨_, by rw [if_neg h0], by rw [if_neg h0]; exact nums_nil _ _, New.nil _, ?_, hf⟩
  unfold Oc.snS
  rw [if_neg h0, if_neg h11]
  exact h
theorem TakeP.bad {E : Int} (hE : Oc.tkE n P p s x = E) (h0 : E ≠ 0) (h11 : E ≠ 11) (h : OfSt w' q g o n vs P p D d s) (hf : Fr [q, g, o] w w') : TakeP w w' q g o n vs P p D d s x (.returned (.tuple #[.slice none 0 0, .int .i64 E])) := by
  subst hE
  refine ⟨_, rfl, by rw [if_neg h0]; exact nums_nil _ _, New.nil _, ?_, hf⟩
  unfold Oc.tkS
  rw [if_neg h0, if_neg h11]
  exact h
theorem SendP.dead (hE : Oc.snE n P p s x = 11) (h : OfAt w' q g o n vs P p D (Oc.dk d s) s.lf true) (hf : Fr [q, g, o] w w') : SendP w w' q g o n vs P p D d s x (.returned (.tuple #[.int .i64 0, .slice none 0 0, .int .i64 11])) := by
  have h0 : ¬ Oc.snE n P p s x = 0 := by rw [hE]; decide
  refine ⟨_, by rw [if_neg h0, hE], by rw [if_neg h0]; exact nums_nil _ _, New.nil _, ?_, hf⟩
  unfold Oc.snS
  rw [if_neg h0, if_pos hE]
  exact h
theorem TakeP.dead (hE : Oc.tkE n P p s x = 11) (h : OfAt w' q g o n vs P p D (Oc.dk d s) s.lf true) (hf : Fr [q, g, o] w w') : TakeP w w' q g o n vs P p D d s x (.returned (.tuple #[.slice none 0 0, .int .i64 11])) := by
  have h0 : ¬ Oc.tkE n P p s x = 0 := by rw [hE]; decide
  refine ⟨_, by rw [hE], by rw [if_neg h0]; exact nums_nil _ _, New.nil _, ?_, hf⟩
  unfold Oc.tkS
  rw [if_neg h0, if_pos hE]
  exact h
theorem SendP.good {v : Value} (hE : Oc.snE n P p s x = 0) (hv : NumsAt w' v x.tn (wrF n x.tf (Oc.on p (Oc.us P s.a)))) (hn : New w v) (h : OfAt w' q g o n vs P p D (upd (Oc.dk d s) 0 ((Oc.us P s.a + x.tn : Nat) : Int)) (Oc.low s.lf) s.dd) (hf : Fr [q, g, o] w w') : SendP w w' q g o n vs P p D d s x (.returned (.tuple #[.int .i64 (Oc.us P s.a : Nat), v, .int .i64 0])) := by
  refine ⟨_, by rw [if_pos hE, hE], by rw [if_pos hE]; exact hv, hn, ?_, hf⟩
  unfold Oc.snS
  rw [if_pos hE]
  rw [dk_set0 d s _ (Oc.low s.lf) s.dd] at h
  exact h
theorem TakeP.good {v : Value} (hE : Oc.tkE n P p s x = 0) (hv : NumsAt w' v x.tn (rdF n x.tf (Oc.on p x.pl.toNat))) (hn : New w v) (h : OfAt w' q g o n vs P p D (upd (Oc.dk d s) 1 (x.pl + (x.tn : Nat))) (Oc.low s.lf) s.dd) (hf : Fr [q, g, o] w w') : TakeP w w' q g o n vs P p D d s x (.returned (.tuple #[v, .int .i64 0])) := by
  refine ⟨_, by rw [hE], by rw [if_pos hE]; exact hv, hn, ?_, hf⟩
  unfold Oc.tkS
  rw [if_pos hE]
  rw [dk_set1 d s _ (Oc.low s.lf) s.dd] at h
  exact h
end
theorem New.below {w W : World} {v : Value} (h : New W v) (hb : w.heap.size ≤ W.heap.size) : New w v := fun b e => Nat.le_trans hb (h b e)
set_option maxRecDepth 100000 in
set_option maxHeartbeats 4000000 in
theorem oleft_any {w : World} {q g o D P : Nat} {d p : Nat → Int} {n : Int} {vs : Value} {s : Oc.St} (h : OfSt w q g o n vs P p D d s) (hD : 2 ≤ D) (hP : P ≤ 65536) : Calls Try.prog 13 #[.pointer (some ⟨o, 0, none⟩)] w fun e w' => e = .returned (.int .i64 (Oc.sLf P s)) ∧ Below w.heap.size w w' := by
  have HU : Hid (∀ W, Below w.heap.size w W → Calls Try.prog 22 #[.pointer (some ⟨o, 0, none⟩), .int .i64 0] W fun e w' => W = w' ∧ e = .returned (.int .i64 (Oc.us P (s.a) : Nat))) := fun W hb => oused_any (h.below hb) 0 (by omega)
  have hul := Oc.us_le P s.a
  have HL : Hid (Oc.sLf P s = ((P - Oc.us P s.a : Nat) : Int)) := rfl
  obtain ⟨a, cs, rfl, hm, _⟩ := h.nums
  have c1 : w.cell? ⟨o, 1, none⟩ = some (.slice a P cs) := h.row.cell rfl
  generalize Oc.us P s.a = u at *
  have hsu : wrap64 ((P : Int) - (u : Int)) = ((P - u : Nat) : Int) := by go_arith
  clear h hm
  go_enter Try.func13, Try.ntmps13
  go_upto_region 1 with fail
  go_region_with (first | (go_at_call 22; refine (HU.out _ (by first | exact Below.refl _ _ | exact (Below.refl _ _).drew)).mono ?_; rintro e X1 ⟨rfl, rfl⟩))
  all_goals
    go_wp2
    go_ret
    exact ⟨by rw [HL.out]; first | rfl | (show Ending.returned (.int .i64 (IntKind.i64.wrap ((P : Int) - (u : Int)))) = .returned (.int .i64 ((P - u : Nat) : Int)); exact ret_int (by go_arith)), by first | exact Below.refl _ _ | exact (Below.refl _ _).drew⟩
set_option maxRecDepth 100000 in
set_option maxHeartbeats 4000000 in
theorem osend_any {w : World} {q g o D P : Nat} {d p : Nat → Int} {n : Int} {vs : Value} {s : Oc.St} (h : OfSt w q g o n vs P p D d s) (hD : 2 ≤ D) (hP : P ≤ 65536) {vt : Value} (x : Oc.Sp) (hx : NumsAt w vt x.tn x.tf) : Calls Try.prog 11 #[.pointer (some ⟨o, 0, none⟩), vt] w fun e w' => SendP w w' q g o n vs P p D d s x e := by
  have HU : Hid (∀ W, Below w.heap.size w W → Calls Try.prog 22 #[.pointer (some ⟨o, 0, none⟩), .int .i64 0] W fun e w' => W = w' ∧ e = .returned (.int .i64 (Oc.us P (s.a) : Nat))) := fun W hb => oused_any (h.below hb) 0 (by omega)
  have H : Hid (OfSt w q g o n vs P p D d s) := h
  have hul := Oc.us_le P s.a
  obtain ⟨v', hsl, hsn⟩ := slice_from_nums h.nums hul h.vc
  have HE : Hid (Oc.snE n P p s x = if s.dd = true then 9 else if txE n x.tn (P - Oc.us P s.a) x.tf (Oc.on p (Oc.us P s.a)) ≠ 0 then txE n x.tn (P - Oc.us P s.a) x.tf (Oc.on p (Oc.us P s.a)) else if s.lf = 0 then 11 else 0) := rfl
  have HW : Hid (∀ W, Below w.heap.size w W → Calls Try.prog 20 #[.int .i64 n, vt, v'] W fun e w' => ∃ v, e = .returned (.tuple #[v, .int .i64 (txE n x.tn (P - Oc.us P s.a) x.tf (Oc.on p (Oc.us P s.a)))]) ∧ Ans w' v (rl (txE n x.tn (P - Oc.us P s.a) x.tf (Oc.on p (Oc.us P s.a))) x.tn) (wrF n x.tf (Oc.on p (Oc.us P s.a))) ∧ New W v ∧ Below W.heap.size W w') := fun W hb => pwr_new n vt v' _ _ _ _ W (hx.below hb) (hsn W (h.nums.below hb))
  have HUS : Hid (∀ (W : World) (v : Int), Below w.heap.size w W → Calls Try.prog 23 #[.pointer (some ⟨o, 0, none⟩), .int .i64 0, .int .i64 v] W fun e w' => UseP W w' q g o n vs P p D (Oc.dk d s) 0 v s.lf s.dd e) := fun W v hb => ouse_any (h.below hb) 0 (by omega) v
  obtain ⟨at', ct, rfl, hmt, _⟩ := hx
  obtain ⟨a, cs, rfl, hm, _⟩ := h.nums
  have c0 : w.cell? ⟨o, 0, none⟩ = some (.int .i64 n) := h.row.cell rfl
  have c1 : w.cell? ⟨o, 1, none⟩ = some (.slice a P cs) := h.row.cell rfl
  have c3 : w.cell? ⟨o, 3, none⟩ = some (.bool s.dd) := h.row.cell rfl
  have HP' : Hid (∀ E : Int, E = 0 → txE n x.tn (P - Oc.us P s.a) x.tf (Oc.on p (Oc.us P s.a)) = E → Oc.us P s.a + x.tn ≤ P) := fun E e0 e => by
    have := (txE_zero (e.trans e0)).2.2.2.2.2
    omega
  have HNE : Hid (txE n x.tn (P - Oc.us P s.a) x.tf (Oc.on p (Oc.us P s.a)) ≠ 11) := by
    rcases Oc.txE_ne (n := n) (nt := x.tn) (np := P - Oc.us P s.a) (ft := x.tf) (fp := Oc.on p (Oc.us P s.a)) with e | e | e | e | e <;> rw [Hid, e] <;> decide
  obtain ⟨E, hEE⟩ : ∃ E, E = txE n x.tn (P - Oc.us P s.a) x.tf (Oc.on p (Oc.us P s.a)) := ⟨_, rfl⟩
  have HEE : Hid (txE n x.tn (P - Oc.us P s.a) x.tf (Oc.on p (Oc.us P s.a)) = E) := hEE.symm
  rw [← hEE] at HE HW HNE
  clear h hm hsn hEE
  obtain ⟨u, hu⟩ : ∃ u, u = Oc.us P s.a := ⟨_, rfl⟩
  have HQU := (show Hid (u = Oc.us P s.a) from hu)
  rw [← hu] at hsl hul HU HP' HEE
  clear hu
  cases hdd : s.dd with
  | true =>
    have HB : Hid (Oc.snE n P p s x = 9) := by rw [Hid, HE.out, if_pos hdd]
    rw [hdd] at c3
    clear hdd
    go_enter Try.func11, Try.ntmps11
    go_wp2
    go_ret3
    exact SendP.bad HB.out (by decide) (by decide) H.out (Fr.refl _ _)
  | false =>
    have HDD : Hid (¬ s.dd = true) := by rw [Hid, hdd]; decide
    rw [hdd] at c3
    clear hdd
    go_enter Try.func11, Try.ntmps11
    go_wp2_with fail
    refine (HU.out _ (Below.refl _ _)).mono ?_
    rintro e W1 ⟨rfl, rfl⟩
    clear HU
    go_upto_region 4 with fail
    go_region_with (first | (go_at_call 20; refine (HW.out _ (by first | exact Below.refl _ _ | exact (Below.refl _ _).drew)).mono ?_; rintro e X1 ⟨v, rfl, hv, hnew, hbx⟩))
    all_goals
      have hb1 : Below w.heap.size w X1 := (Below.refl _ _).drew.trans hbx
      have hn1 : New w v := fun b e => hnew b e
      have hvn := hv.2
      obtain ⟨⟨av, cv, rfl, _⟩, _⟩ := hv
      clear hnew hbx HW
      by_cases hE0 : E = 0
      · have hut := HP'.out E hE0 HEE.out
        have HE2 : Hid (Oc.snE n P p s x = if s.lf = 0 then 11 else 0) := by rw [Hid, HE.out, if_neg HDD.out, if_neg (by simpa using hE0)]
        have HR : Hid (rl E x.tn = x.tn) := by rw [hE0]; rfl
        rw [HR.out] at hvn hn1 ⊢
        clear HE HP' HEE HNE
        have HVN := (show Hid _ from hvn)
        have HN1 := (show Hid _ from hn1)
        clear hvn hn1
        subst hE0
        go_wp2_with fail
        refine (HUS.out X1 _ hb1).mono ?_
        rintro e W2 ⟨hf2, (⟨hl, rfl, ho⟩ | ⟨hl, rfl, ho⟩)⟩
        · have HB : Hid (Oc.snE n P p s x = 11) := by rw [Hid, HE2.out, if_pos hl]
          have HO := (show Hid _ from ho)
          have HF : Hid (Fr [q, g, o] w W2) := (Fr.of_below _ hb1).trans hf2
          clear hl ho hf2 HE2 HUS
          go_wp2
          go_ret3
          exact SendP.dead HB.out HO.out HF.out
        · have HB : Hid (Oc.snE n P p s x = 0) := by rw [Hid, HE2.out, if_neg hl]
          have HF : Hid (Fr [q, g, o] w W2) := (Fr.of_below _ hb1).trans hf2
          have HN2 : Hid (NumsAt W2 (.slice av x.tn cv) x.tn (wrF n x.tf (Oc.on p (Oc.us P s.a)))) := hf2.nums HVN.out (fun h0 b hb => by
            have h1 := HN1.out b hb
            have h2 := H.out.dk.lt
            have h3 := H.out.row.lt
            simp
            omega)
          have HO : Hid (OfAt W2 q g o n (.slice a P cs) P p D (upd (Oc.dk d s) 0 ((Oc.us P s.a + x.tn : Nat) : Int)) (Oc.low s.lf) s.dd) := by rw [← HQU.out, Int.natCast_add]; exact ho
          clear hl ho hf2 HE2 HUS HVN
          go_wp2
          go_ret3
          rw [HQU.out]
          exact SendP.good HB.out HN2.out HN1.out HO.out HF.out
      · have hE1 : (E != 0) = true := by simpa using hE0
        have HB : Hid (Oc.snE n P p s x = E) := by rw [Hid, HE.out, if_neg HDD.out, if_pos hE0]
        have HZ : Hid (E ≠ 0) := hE0
        clear hE0 HE HP' HEE HUS
        go_wp2
        go_ret3
        exact SendP.bad HB.out HZ.out HNE.out (OfAt.below H.out hb1) (Fr.of_below _ hb1)
set_option maxRecDepth 100000 in
set_option maxHeartbeats 4000000 in
theorem otake_any {w : World} {q g o D P : Nat} {d p : Nat → Int} {n : Int} {vs : Value} {s : Oc.St} (h : OfSt w q g o n vs P p D d s) (hD : 2 ≤ D) (hP : P ≤ 65536) {vt : Value} (x : Oc.Sp) (hx : NumsAt w vt x.tn x.tf) : Calls Try.prog 12 #[.pointer (some ⟨o, 0, none⟩), .int .i64 x.pl, vt] w fun e w' => TakeP w w' q g o n vs P p D d s x e := by
  have HU : Hid (∀ W, Below w.heap.size w W → Calls Try.prog 22 #[.pointer (some ⟨o, 0, none⟩), .int .i64 1] W fun e w' => W = w' ∧ e = .returned (.int .i64 (Oc.us P (s.b) : Nat))) := fun W hb => oused_any (h.below hb) 1 (by omega)
  have H : Hid (OfSt w q g o n vs P p D d s) := h
  have hul := Oc.us_le P s.b
  have HE : Hid (Oc.tkE n P p s x = if s.dd = true then 9 else if x.pl < 0 ∨ (P : Int) < x.pl then 3 else if x.pl < (Oc.us P s.b : Nat) then 10 else if txE n x.tn (P - x.pl.toNat) x.tf (Oc.on p x.pl.toNat) ≠ 0 then txE n x.tn (P - x.pl.toNat) x.tf (Oc.on p x.pl.toNat) else if s.lf = 0 then 11 else 0) := rfl
  have HUS : Hid (∀ (W : World) (v : Int), Below w.heap.size w W → Calls Try.prog 23 #[.pointer (some ⟨o, 0, none⟩), .int .i64 1, .int .i64 v] W fun e w' => UseP W w' q g o n vs P p D (Oc.dk d s) 1 v s.lf s.dd e) := fun W v hb => ouse_any (h.below hb) 1 (by omega) v
  have c0 : w.cell? ⟨o, 0, none⟩ = some (.int .i64 n) := h.row.cell rfl
  have c1 : w.cell? ⟨o, 1, none⟩ = some vs := h.row.cell rfl
  have c3 : w.cell? ⟨o, 3, none⟩ = some (.bool s.dd) := h.row.cell rfl
  cases hdd : s.dd with
  | true =>
    have HB : Hid (Oc.tkE n P p s x = 9) := by rw [Hid, HE.out, if_pos hdd]
    rw [hdd] at c3
    clear hdd h hx
    go_enter Try.func12, Try.ntmps12
    go_wp2
    go_ret2
    exact TakeP.bad HB.out (by decide) (by decide) H.out (Fr.refl _ _)
  | false =>
    have HDD : Hid (¬ s.dd = true) := by rw [Hid, hdd]; decide
    rw [hdd] at c3
    clear hdd
    by_cases hr : x.pl < 0 ∨ (P : Int) < x.pl
    · have HB : Hid (Oc.tkE n P p s x = 3) := by rw [Hid, HE.out, if_neg HDD.out, if_pos hr]
      obtain ⟨a, cs, rfl, hm, _⟩ := h.nums
      unfold maxLen at hm
      generalize x.pl = z at hr ⊢
      clear h hx HE HU HUS
      rcases Int.lt_or_le z 0 with h1 | h1
      · clear hr
        go_enter Try.func12, Try.ntmps12
        go_wp2
        go_ret2
        exact TakeP.bad HB.out (by decide) (by decide) H.out (Fr.refl _ _)
      · have h2 : (P : Int) < z := by omega
        have h3 : ¬ z < 0 := by omega
        clear hr
        go_enter Try.func12, Try.ntmps12
        go_wp2
        go_ret2
        exact TakeP.bad HB.out (by decide) (by decide) H.out (Fr.refl _ _)
    obtain ⟨k, hk⟩ : ∃ k : Nat, x.pl = (k : Int) := ⟨x.pl.toNat, by omega⟩
    have hkp : k ≤ P := by omega
    have hkt : x.pl.toNat = k := by omega
    rw [if_neg HDD.out, if_neg hr] at HE
    rw [hkt] at HE
    obtain ⟨v', hsl, hsn⟩ := slice_from_nums h.nums hkp h.vc
    have HW : Hid (∀ W, Below w.heap.size w W → Calls Try.prog 24 #[.int .i64 n, vt, v'] W fun e w' => ∃ v, e = .returned (.tuple #[v, .int .i64 (txE n x.tn (P - k) x.tf (Oc.on p k))]) ∧ Ans w' v (rl (txE n x.tn (P - k) x.tf (Oc.on p k)) x.tn) (rdF n x.tf (Oc.on p k)) ∧ New W v ∧ Below W.heap.size W w') := fun W hb => prd_new n vt v' _ _ _ _ W (hx.below hb) (hsn W (h.nums.below hb))
    have HP' : Hid (∀ E : Int, E = 0 → txE n x.tn (P - k) x.tf (Oc.on p k) = E → k + x.tn ≤ P) := fun E e0 e => by
      have := (txE_zero (e.trans e0)).2.2.2.2.2
      omega
    have HNE : Hid (txE n x.tn (P - k) x.tf (Oc.on p k) ≠ 11) := by
      rcases Oc.txE_ne (n := n) (nt := x.tn) (np := P - k) (ft := x.tf) (fp := Oc.on p k) with e | e | e | e | e <;> rw [Hid, e] <;> decide
    obtain ⟨E, hEE⟩ : ∃ E, E = txE n x.tn (P - k) x.tf (Oc.on p k) := ⟨_, rfl⟩
    have HEE : Hid (txE n x.tn (P - k) x.tf (Oc.on p k) = E) := hEE.symm
    rw [← hEE] at HE HW HNE
    obtain ⟨at', ct, rfl, hmt, _⟩ := hx
    obtain ⟨a, cs, rfl, hm, _⟩ := h.nums
    unfold maxLen at hm hmt
    have HK : Hid (x.pl = (k : Int)) := hk
    have HKT : Hid (x.pl.toNat = k) := hkt
    rw [hk] at HE ⊢
    clear h hsn hEE hk hkt hr
    obtain ⟨u, hu⟩ : ∃ u, u = Oc.us P s.b := ⟨_, rfl⟩
    rw [← hu] at hul HU HE
    clear hu
    have hk0 : ¬ ((k : Nat) : Int) < 0 := by omega
    have hkP : ¬ ((P : Nat) : Int) < ((k : Nat) : Int) := by omega
    by_cases hku : k < u
    · have HB : Hid (Oc.tkE n P p s x = 10) := by rw [Hid, HE.out, if_pos (by omega)]
      have hku2 : ((k : Nat) : Int) < ((u : Nat) : Int) := by omega
      clear HE HUS HW HP' HNE HEE
      go_enter Try.func12, Try.ntmps12
      go_wp2_with fail
      refine (HU.out _ (Below.refl _ _)).mono ?_
      rintro e W1 ⟨rfl, rfl⟩
      clear HU
      go_wp2
      go_ret2
      exact TakeP.bad HB.out (by decide) (by decide) H.out (Fr.refl _ _)
    rw [if_neg (by omega)] at HE
    have hku2 : ¬ ((k : Nat) : Int) < ((u : Nat) : Int) := by omega
    clear hku
    go_enter Try.func12, Try.ntmps12
    go_wp2_with fail
    refine (HU.out _ (Below.refl _ _)).mono ?_
    rintro e W1 ⟨rfl, rfl⟩
    clear HU
    go_upto_region 7 with fail
    go_region_with (first | (go_at_call 24; refine (HW.out _ (by first | exact Below.refl _ _ | exact (Below.refl _ _).drew)).mono ?_; rintro e X1 ⟨v, rfl, hv, hnew, hbx⟩))
    all_goals
      have hb1 : Below w.heap.size w X1 := (Below.refl _ _).drew.trans hbx
      have hn1 : New w v := fun b e => hnew b e
      have hvn := hv.2
      obtain ⟨⟨av, cv, rfl, _⟩, _⟩ := hv
      clear hnew hbx HW
      by_cases hE0 : E = 0
      · have hut := HP'.out E hE0 HEE.out
        have HE2 : Hid (Oc.tkE n P p s x = if s.lf = 0 then 11 else 0) := by rw [Hid, HE.out, if_neg (by simpa using hE0)]
        have HR : Hid (rl E x.tn = x.tn) := by rw [hE0]; rfl
        rw [HR.out] at hvn hn1 ⊢
        clear HE HP' HEE HNE
        have HVN := (show Hid _ from hvn)
        have HN1 := (show Hid _ from hn1)
        clear hvn hn1
        subst hE0
        go_wp2_with fail
        refine (HUS.out X1 _ hb1).mono ?_
        rintro e W2 ⟨hf2, (⟨hl, rfl, ho⟩ | ⟨hl, rfl, ho⟩)⟩
        · have HB : Hid (Oc.tkE n P p s x = 11) := by rw [Hid, HE2.out, if_pos hl]
          have HO := (show Hid _ from ho)
          have HF : Hid (Fr [q, g, o] w W2) := (Fr.of_below _ hb1).trans hf2
          clear hl ho hf2 HE2 HUS
          go_wp2
          go_ret2
          exact TakeP.dead HB.out HO.out HF.out
        · have HB : Hid (Oc.tkE n P p s x = 0) := by rw [Hid, HE2.out, if_neg hl]
          have HF : Hid (Fr [q, g, o] w W2) := (Fr.of_below _ hb1).trans hf2
          have HN2 : Hid (NumsAt W2 (.slice av x.tn cv) x.tn (rdF n x.tf (Oc.on p x.pl.toNat))) := by
            rw [HKT.out]
            exact hf2.nums HVN.out (fun h0 b hb => by
              have h1 := HN1.out b hb
              have h2 := H.out.dk.lt
              have h3 := H.out.row.lt
              simp
              omega)
          have HO : Hid (OfAt W2 q g o n (.slice a P cs) P p D (upd (Oc.dk d s) 1 (x.pl + (x.tn : Nat))) (Oc.low s.lf) s.dd) := by rw [HK.out]; exact ho
          clear hl ho hf2 HE2 HUS HVN
          go_wp2
          go_ret2
          exact TakeP.good HB.out HN2.out HN1.out HO.out HF.out
      · have hE1 : (E != 0) = true := by simpa using hE0
        have HB : Hid (Oc.tkE n P p s x = E) := by rw [Hid, HE.out, if_pos hE0]
        have HZ : Hid (E ≠ 0) := hE0
        clear hE0 HE HP' HEE HUS
        go_wp2
        go_ret2
        exact TakeP.bad HB.out HZ.out HNE.out (OfAt.below H.out hb1) (Fr.of_below _ hb1)
end Go.Proofs.Ytlfghnngbljlhaa
