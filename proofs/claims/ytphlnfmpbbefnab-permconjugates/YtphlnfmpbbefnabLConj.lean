/-
  PermConjugates: the walk.
-/
import Derived.Test.YtphlnfmpbbefnabPLoc
import Derived.Test.YtphlnfmpbbefnabPConj
import Derived.Test.YtphlnfmpbbefnabPSameL
import Derived.Test.YtphlnfmpbbefnabPBetween
import Derived.Test.YtphlnfmpbbefnabCFirst
import Derived.Test.YtphlnfmpbbefnabCMath
import Derived.Test.YtphlnfmpbbefnabPAlive
import Derived.Test.YtphlnfmpbbefnabPTurn
namespace Go.Proofs.Ytphlnfmpbbefnab
open Go.RowKit PK

theorem iter_congr {p q : Nat → Nat} (hp : Pm.IsPerm p) (h : ∀ i, i < 26 → p i = q i) (i : Nat) (hi : i < 26) : ∀ k, Pm.iter p k i = Pm.iter q k i
  | 0 => rfl
  | k + 1 => by
    show p (Pm.iter p k i) = q (Pm.iter q k i)
    rw [h _ (Pm.iter_lt hp i hi k), iter_congr hp h i hi k]
theorem len_congr {p q : Nat → Nat} (hp : Pm.IsPerm p) (h : ∀ i, i < 26 → p i = q i) (i : Nat) (hi : i < 26) : Pm.len p i = Pm.len q i := by
  unfold Pm.len
  rw [show (fun n => decide (0 < n) && Pm.iter p n i == i) = (fun n => decide (0 < n) && Pm.iter q n i == i) from funext fun n => by rw [iter_congr hp h i hi n]]
theorem type_congr {p q : Nat → Nat} (hp : Pm.IsPerm p) (hq : Pm.IsPerm q) (h : ∀ i, i < 26 → p i = q i) : typeOf p = typeOf q := by
  unfold typeOf
  refine tyDown_congr _ _ (fun n h0 _ => ?_) 26 (Nat.le_refl _)
  have h1 := inAll_cnt hp n
  have h2 := inAll_cnt hq n
  have h3 : inAll p n = inAll q n := by
    unfold inAll
    rw [List.filter_congr fun i hi => by rw [len_congr hp h i (by simpa using hi)]]
  rw [h3, h2] at h1
  exact (Nat.eq_of_mul_eq_mul_left h0 h1).symm
theorem type_len (p : Nat → Nat) : (typeOf p).length ≤ 1000000 := by
  have := tyDown_len (cnt (Pm.cycs p 26)) (fun n => Nat.le_trans (cnt_le _ n) (Pm.cycs_len p 26)) 26
  unfold typeOf
  omega
theorem sameL_any (a b : List Nat) (B B' : Nat) (u v : Value) (w : World) (ha : OwnsN w B u a) (hb : OwnsN w B' v b) (hmax : a.length ≤ 1000000) :
    Calls Try.prog 10 #[u, v] w fun e w' => e = .returned (.bool (a == b)) ∧ Below w.heap.size w w' := by
  by_cases h : a.length = b.length
  · exact same_vals a b B B' u v w ha hb h hmax
  · refine (same_len a b B B' u v w ha hb h).mono ?_
    rintro e w' ⟨rfl, rfl⟩
    have : (a == b) = false := by
      rw [beq_eq_false_iff_ne]
      rintro rfl
      exact h rfl
    rw [this]
    exact ⟨rfl, Below.refl _ _⟩
/-- What Between answers, and what follows. -/
theorem betw_cases (p q x : Nat → Nat) (hp : Pm.IsPerm p) (hq : Pm.IsPerm q) (hx : Pm.IsPerm x) : ∃ (Y : Nat → Int) (E : Int),
    (∀ W, Calls Try.prog 8 #[.agg (ints 26 (Pm.up p)), .agg (ints 26 (Pm.up q))] W fun e w' => e = .returned (.tuple #[.agg (ints 26 Y), .int .i64 E]) ∧ Below W.heap.size W w') ∧
    ((E = 6 ∧ (typeOf p == typeOf q) = false ∧ eqI 26 (Pm.up (Pm.conj p x)) (Pm.up q) = false) ∨
     (E = 0 ∧ (typeOf p == typeOf q) = true ∧ ∃ y, Pm.IsPerm y ∧ Y = Pm.up y ∧ eqI 26 (Pm.up (Pm.conj p y)) (Pm.up q) = true ∧
       (eqI 26 (Pm.up (Pm.conj p x)) (Pm.up q) = true → ∀ i, i < 26 → x i ≠ y i → (∀ j, j < i → x j = y j) → y i < x i))) := by
  have hB := between_ok p q hp hq
  have hI := betw_some hp hq
  have hT := type_iff hp hq
  have hE : eqI 27 (Pm.up (cnt (Pm.cycs p 26))) (Pm.up (cnt (Pm.cycs q 26))) = true ↔ typeOf p = typeOf q := by
    rw [hT, eqI_iff]
    exact ⟨fun h n hn => by have := h n hn; simp only [Pm.up] at this; omega, fun h n hn => by simp only [Pm.up]; rw [h n hn]⟩
  cases hl : layN (Pm.cycs p 26) (Pm.cycs q 26) (fun _ => 0) (Pm.cycs p 26).length with
  | none =>
    have hb : betw p q = none := by unfold betw; rw [hl]; rfl
    have hne : typeOf p ≠ typeOf q := fun h => by
      obtain ⟨s, hs⟩ := hI.1 (hE.2 h)
      rw [hl] at hs
      cases hs
    refine ⟨fun _ => 0, 6, fun W => ?_, .inl ⟨rfl, by simpa using hne, ?_⟩⟩
    · have := hB W
      rw [hb] at this
      exact this
    · rw [Bool.eq_false_iff]
      intro h
      rw [eqI_iff] at h
      have h2 := type_congr (hp.conj hx) hq (fun i hi => by have := h i hi; simp only [Pm.up] at this; omega)
      rw [type_conj hp hx] at h2
      exact hne h2
  | some s =>
    have hb : betw p q = some s.2 := by unfold betw; rw [hl]; rfl
    obtain ⟨y, hy, hsy, hyc⟩ := lay_perm hp hq _ s hl
    have he : typeOf p = typeOf q := hE.1 (hI.2 ⟨s, hl⟩)
    have key : ∀ z, Pm.IsPerm z → (eqI 26 (Pm.up (Pm.conj p z)) (Pm.up q) = true ↔ ∀ i, i < 26 → z (p i) = q (z i)) := fun z hz => by
      rw [eqI_iff]
      constructor
      · intro h i hi
        have h1 := h (z i) (hz.lt i hi)
        simp only [Pm.up] at h1
        rw [conj_at hz i hi] at h1
        omega
      · intro h i hi
        have hv := hz.inv_spec i hi
        have h1 := h (Pm.inv z i) hv.1
        rw [hv.2] at h1
        simp only [Pm.up, Pm.conj]
        rw [h1]
    refine ⟨Pm.up y, 0, fun W => ?_, .inr ⟨rfl, by simpa using he, y, hy, rfl, (key y hy).2 hyc, fun h i hi hne hbe => lay_first hp hq _ s hl y hsy hyc x hx ((key x hx).1 h) i hi hne hbe⟩⟩
    have := hB W
    rw [hb] at this
    have e2 : ints 26 s.2 = ints 26 (Pm.up y) := ints_ext fun i hi => hsy i hi
    have e3 : outB (some s.2) = (s.2, 0) := rfl
    rw [e3] at this
    simp only [] at this
    rw [e2] at this
    exact this

set_option maxRecDepth 100000 in
set_option maxHeartbeats 4000000 in
theorem law_conj_ok (p q x : Nat → Nat) (hp : Pm.IsPerm p) (hq : Pm.IsPerm q) (hx : Pm.IsPerm x) (w : World) :
    Calls Try.prog 3 #[.agg (ints 26 (Pm.up p)), .agg (ints 26 (Pm.up q)), .agg (ints 26 (Pm.up x))] w fun e w' => e = .returned (.bool true) ∧ Below w.heap.size w w' := by
  have KP : Hid (Pm.wrong (Pm.up p) = 0) := Pm.wrong_up p hp
  have KQ : Hid (Pm.wrong (Pm.up q) = 0) := Pm.wrong_up q hq
  have KX : Hid (Pm.wrong (Pm.up x) = 0) := Pm.wrong_up x hx
  obtain ⟨Y, E, HB0, hcs⟩ := betw_cases p q x hp hq hx
  have HB : Hid (∀ W, Calls Try.prog 8 #[.agg (ints 26 (Pm.up p)), .agg (ints 26 (Pm.up q))] W fun e w' => e = .returned (.tuple #[.agg (ints 26 Y), .int .i64 E]) ∧ Below W.heap.size W w') := HB0
  have HCS := (show Hid _ from hcs)
  clear HB0 hcs
  go_enter Try.func3, Try.ntmps3
  go_wp2_with fail
  refine (alive_any _).mono ?_
  rintro e W1 ⟨rfl, hb0⟩
  obtain ⟨rp, rq, rx, hb1, hs1⟩ := after3 hb0
  clear hb0
  go_wp2_with (first | refine load_perm rfl _ rfl _ rfl _ rp ?_)
  refine (wrong_any _ _).mono ?_
  rintro e W2 ⟨rfl, hb2⟩
  rw [KP.out]
  have hs2 := hb2.size
  have rp2 := rp.below hb2 rp.lt
  have rq2 := rq.below hb2 rq.lt
  have rx2 := rx.below hb2 rx.lt
  have hb2' := hb1.trans (hb2.mono (by omega))
  clear rp rq rx hb1 hb2
  go_wp2_with (first | refine load_perm rfl _ rfl _ rfl _ rq2 ?_)
  refine (wrong_any _ _).mono ?_
  rintro e W3 ⟨rfl, hb3⟩
  rw [KQ.out]
  have hs3 := hb3.size
  have rp3 := rp2.below hb3 rp2.lt
  have rq3 := rq2.below hb3 rq2.lt
  have rx3 := rx2.below hb3 rx2.lt
  have hb3' := hb2'.trans (hb3.mono (by omega))
  clear rp2 rq2 rx2 hb2' hb3
  go_wp2_with (first | refine load_perm rfl _ rfl _ rfl _ rx3 ?_)
  refine (wrong_any _ _).mono ?_
  rintro e W4 ⟨rfl, hb4⟩
  rw [KX.out]
  have hs4 := hb4.size
  have rp := rp3.below hb4 rp3.lt
  have rq := rq3.below hb4 rq3.lt
  have rx := rx3.below hb4 rx3.lt
  have hb := hb3'.trans (hb4.mono (by omega))
  have hsz : w.heap.size + 3 ≤ W4.heap.size := by omega
  clear rp3 rq3 rx3 hb3' hb4 hs1 hs2 hs3 hs4 KP KQ KX
  go_wp2_with (first | refine load_perm rfl _ rfl _ rfl _ rp ?_ | refine load_perm rfl _ rfl _ rfl _ rq ?_)
  refine (type_ok p hp _).mono ?_
  rintro e V1 ⟨vs, rfl, os, hc⟩
  have hz1 := hc.size
  replace rp := rp.below hc rp.lt
  replace rq := rq.below hc rq.lt
  replace rx := rx.below hc rx.lt
  replace hb := hb.trans (hc.mono (by omega))
  clear hc
  go_wp2_with (first | refine load_perm rfl _ rfl _ rfl _ rp ?_ | refine load_perm rfl _ rfl _ rfl _ rq ?_)
  refine (type_ok q hq _).mono ?_
  rintro e V2 ⟨vt, rfl, ot, hc⟩
  have hz2 := hc.size
  replace rp := rp.below hc rp.lt
  replace rq := rq.below hc rq.lt
  replace rx := rx.below hc rx.lt
  have os' := own_below os hc
  replace hb := hb.trans (hc.mono (by omega))
  clear hc os
  go_wp2_with (first | refine load_perm rfl _ rfl _ rfl _ rp ?_ | refine load_perm rfl _ rfl _ rfl _ rq ?_)
  refine (HB.out _).mono ?_
  rintro e V3 ⟨rfl, hc⟩
  have hz3 := hc.size
  replace rp := row_step rp hc (.cells (ints 26 Y) 23)
  replace rq := row_step rq hc (.cells (ints 26 Y) 23)
  replace rx := row_step rx hc (.cells (ints 26 Y) 23)
  have ry := RowAt.new V3 23 (ints 26 Y)
  have os := own_below os' hc
  replace ot := own_below ot hc
  replace hb := below_step hb (by omega) hc (.cells (ints 26 Y) 23)
  clear hc os'
  go_wp2_with (first | refine store_new rfl _ _ rfl rfl _ rfl rfl ?_ | refine load_perm rfl _ rfl _ rfl _ rp ?_ | refine load_perm rfl _ rfl _ rfl _ rx ?_)
  refine (conj_ok p x hp hx _).mono ?_
  rintro e V4 ⟨rfl, hc⟩
  go_wp2_with (first | refine store_new rfl _ _ rfl rfl _ rfl rfl ?_ | refine load_perm rfl _ rfl _ rfl _ rp ?_ | refine load_perm rfl _ rfl _ rfl _ rx ?_)
  have hz4 := hc.size
  rw [World.size_alloc] at hz4
  replace rp := row_step rp hc (.cells (ints 26 (Pm.up (Pm.conj p x))) 23)
  replace rq := row_step rq hc (.cells (ints 26 (Pm.up (Pm.conj p x))) 23)
  replace rx := row_step rx hc (.cells (ints 26 (Pm.up (Pm.conj p x))) 23)
  replace ry := row_step ry hc (.cells (ints 26 (Pm.up (Pm.conj p x))) 23)
  have rc := RowAt.new V4 23 (ints 26 (Pm.up (Pm.conj p x)))
  have os4 := World.ownsRow.alloc (own_below (World.ownsRow.alloc os (.cells (ints 26 Y) 23)) hc) (.cells (ints 26 (Pm.up (Pm.conj p x))) 23)
  have ot4 := World.ownsRow.alloc (own_below (World.ownsRow.alloc ot (.cells (ints 26 Y) 23)) hc) (.cells (ints 26 (Pm.up (Pm.conj p x))) 23)
  replace hb := below_step hb (by rw [World.size_alloc]; omega) hc (.cells (ints 26 (Pm.up (Pm.conj p x))) 23)
  clear hc os ot
  refine (sameL_any (typeOf p) (typeOf q) _ _ _ _ _ os4 ot4 (type_len p)).mono ?_
  rintro e V5 ⟨rfl, hc⟩
  have hz5 := hc.size
  rw [World.size_alloc] at hz5
  replace rp := rp.below hc rp.lt
  replace rq := rq.below hc rq.lt
  replace rx := rx.below hc rx.lt
  replace ry := ry.below hc ry.lt
  replace rc := rc.below hc rc.lt
  have os5 := own_below os4 hc
  replace hb := hb.trans (hc.mono (by rw [World.size_alloc]; omega))
  clear hc os4 ot4
  rcases HCS.out with ⟨rfl, h1, h2⟩ | ⟨rfl, h1, y, hy, rfl, h2, h3⟩
  · rw [h1]
    clear HCS h1
    go_wp2_with (first | refine load_perm rfl _ rfl _ rfl _ rc ?_)
    refine (type_ok (Pm.conj p x) (hp.conj hx) _).mono ?_
    rintro e V6 ⟨vu, rfl, ou, hc⟩
    have hz6 := hc.size
    replace rp := rp.below hc rp.lt
    replace rq := rq.below hc rq.lt
    replace rx := rx.below hc rx.lt
    replace ry := ry.below hc ry.lt
    replace rc := rc.below hc rc.lt
    have os6 := own_below os5 hc
    replace hb := hb.trans (hc.mono (by omega))
    clear hc os5
    go_wp2_with fail
    refine (sameL_any (typeOf (Pm.conj p x)) (typeOf p) _ _ _ _ _ ou os6 (type_len _)).mono ?_
    rintro e V7 ⟨rfl, hc⟩
    have hz7 := hc.size
    replace rp := rp.below hc rp.lt
    replace rq := rq.below hc rq.lt
    replace rx := rx.below hc rx.lt
    replace ry := ry.below hc ry.lt
    replace rc := rc.below hc rc.lt
    replace hb := hb.trans (hc.mono (by omega))
    clear hc os6 ou
    rw [show (typeOf (Pm.conj p x) == typeOf p) = true by rw [type_conj hp hx]; exact beq_self_eq_true _]
    have hre : ∀ w, (Op.equalIn 10000 23 (.agg (ints 26 (Pm.up (Pm.conj p x)))) (.agg (ints 26 (Pm.up q)))).run Try.prog w = .ok false w := fun w => by rw [run_eq_perm, h2]
    have hmg : Try.prog.eqGuardType Try.prog.depth 23 = false := by kernel_rfl
    go_wp2_with (first | refine load_perm rfl _ rfl _ rfl _ rc ?_ | refine load_perm rfl _ rfl _ rfl _ rq ?_)
    go_ret
    exact ⟨rfl, hb⟩
  · rw [h1]
    clear HCS h1
    go_wp2_with (first | refine load_perm rfl _ rfl _ rfl _ rc ?_)
    refine (type_ok (Pm.conj p x) (hp.conj hx) _).mono ?_
    rintro e V6 ⟨vu, rfl, ou, hc⟩
    have hz6 := hc.size
    replace rp := rp.below hc rp.lt
    replace rq := rq.below hc rq.lt
    replace rx := rx.below hc rx.lt
    replace ry := ry.below hc ry.lt
    replace rc := rc.below hc rc.lt
    have os6 := own_below os5 hc
    replace hb := hb.trans (hc.mono (by omega))
    clear hc os5
    go_wp2_with fail
    refine (sameL_any (typeOf (Pm.conj p x)) (typeOf p) _ _ _ _ _ ou os6 (type_len _)).mono ?_
    rintro e V7 ⟨rfl, hc⟩
    have hz7 := hc.size
    replace rp := rp.below hc rp.lt
    replace rq := rq.below hc rq.lt
    replace rx := rx.below hc rx.lt
    replace ry := ry.below hc ry.lt
    replace rc := rc.below hc rc.lt
    replace hb := hb.trans (hc.mono (by omega))
    clear hc os6 ou
    rw [show (typeOf (Pm.conj p x) == typeOf p) = true by rw [type_conj hp hx]; exact beq_self_eq_true _]
    have hmg : Try.prog.eqGuardType Try.prog.depth 23 = false := by kernel_rfl
    have hrd : ∀ w, (Op.equalIn 10000 23 (.agg (ints 26 (Pm.up (Pm.conj p y)))) (.agg (ints 26 (Pm.up q)))).run Try.prog w = .ok true w := fun w => by rw [run_eq_perm, h2]
    go_wp2_with (first | refine load_perm rfl _ rfl _ rfl _ rp ?_ | refine load_perm rfl _ rfl _ rfl _ ry ?_)
    refine (conj_ok p y hp hy _).mono ?_
    rintro e V8 ⟨rfl, hc⟩
    have hz8 := hc.size
    replace rq := row_step rq hc (.cells (ints 26 (Pm.up (Pm.conj p y))) 23)
    replace rx := row_step rx hc (.cells (ints 26 (Pm.up (Pm.conj p y))) 23)
    replace ry := row_step ry hc (.cells (ints 26 (Pm.up (Pm.conj p y))) 23)
    replace rc := row_step rc hc (.cells (ints 26 (Pm.up (Pm.conj p y))) 23)
    have rd := RowAt.new V8 23 (ints 26 (Pm.up (Pm.conj p y)))
    replace hb := below_step hb (by omega) hc (.cells (ints 26 (Pm.up (Pm.conj p y))) 23)
    clear hc rp
    by_cases hcq : eqI 26 (Pm.up (Pm.conj p x)) (Pm.up q) = true
    · have hre : ∀ w, (Op.equalIn 10000 23 (.agg (ints 26 (Pm.up (Pm.conj p x)))) (.agg (ints 26 (Pm.up q)))).run Try.prog w = .ok true w := fun w => by rw [run_eq_perm, hcq]
      have H3 := (show Hid _ from h3 hcq)
      clear h3 hcq h2
      by_cases hxy : eqI 26 (Pm.up x) (Pm.up y) = true
      · have hrx : ∀ w, (Op.equalIn 10000 23 (.agg (ints 26 (Pm.up x))) (.agg (ints 26 (Pm.up y)))).run Try.prog w = .ok true w := fun w => by rw [run_eq_perm, hxy]
        go_wp2_with (first | refine store_new rfl _ _ rfl rfl _ rfl rfl ?_ | refine load_perm rfl _ rfl _ rfl _ rd ?_ | refine load_perm rfl _ rfl _ rfl _ rc ?_ | refine load_perm rfl _ rfl _ rfl _ rq ?_ | refine load_perm rfl _ rfl _ rfl _ rx ?_ | refine load_perm rfl _ rfl _ rfl _ ry ?_)
        go_ret
        exact ⟨rfl, hb⟩
      · have hrx : ∀ w, (Op.equalIn 10000 23 (.agg (ints 26 (Pm.up x))) (.agg (ints 26 (Pm.up y)))).run Try.prog w = .ok false w := fun w => by rw [run_eq_perm, Bool.eq_false_iff.2 hxy]
        go_wp2_with (first | refine store_new rfl _ _ rfl rfl _ rfl rfl ?_ | refine load_perm rfl _ rfl _ rfl _ rd ?_ | refine load_perm rfl _ rfl _ rfl _ rc ?_ | refine load_perm rfl _ rfl _ rfl _ rq ?_ | refine load_perm rfl _ rfl _ rfl _ rx ?_ | refine load_perm rfl _ rfl _ rfl _ ry ?_)
        clear hre hrd hrx hxy rc rd rq hmg HB
        generalize (V8.alloc (.cells (ints 26 (Pm.up (Pm.conj p y))) 23)) = Z at *
        clear hz1 hz2 hz3 hz4 hz5 hz6 hz7 hz8
        go_loopw [118] (fun i W => ∃ k : Nat, k ≤ 26 ∧ i = .int .i64 k ∧ Hid (∀ j, j < k → x j = y j) ∧ RowAt W (w.heap.size + 1 + 1) 23 (ints 26 (Pm.up x)) ∧ RowAt W V3.heap.size 23 (ints 26 (Pm.up y)) ∧ Below w.heap.size w W) (fun i _ => (26 - intOf i).toNat)
        case atStart => exact ⟨0, by omega, rfl, (fun j hj => by omega), rx, ry, hb⟩
        case round =>
          obtain ⟨k, hk, rfl, HT, rx', ry', hbw⟩ := hrel
          clear rx ry hb
          by_cases hlt : k < 26
          · have hcx := rx'.cell (ints_get (Pm.up x) hlt)
            have hcy := ry'.cell (ints_get (Pm.up y) hlt)
            simp only [Pm.up] at hcx hcy
            by_cases hxy : x k = y k
            · have hbe : (((x k : Nat) : Int) != ((y k : Nat) : Int)) = false := by rw [hxy]; simp
              have HXY : Hid (x k = y k) := hxy
              clear hxy
              go_wp2
              go_quiet (fail)
              go_wp2
              go_roundw
              case rel => exact ⟨k + 1, by omega, by go_num, (fun j hj => by
                rcases Nat.lt_or_eq_of_le (Nat.le_of_lt_succ hj) with h | rfl
                · exact HT.out j h
                · exact HXY.out), rx', ry', ⟨hbw.os, hbw.tape, hbw.output, hbw.size, hbw.block⟩⟩
              case measure => simp [intOf]; omega
            · have hbe : (((x k : Nat) : Int) != ((y k : Nat) : Int)) = true := by simp; omega
              have hl := H3.out k hlt hxy HT.out
              have hlt2 : (decide (((y k : Nat) : Int) < ((x k : Nat) : Int))) = true := by simp; omega
              clear hxy
              go_wp2
              go_quiet (fail)
              go_wp2
              go_quiet (fail)
              go_wp2
              go_ret
              exact ⟨rfl, ⟨hbw.os, hbw.tape, hbw.output, hbw.size, hbw.block⟩⟩
          · have hk26 : k = 26 := by omega
            subst hk26
            go_wp2
            go_ret
            exact ⟨rfl, hbw⟩
    · have hre : ∀ w, (Op.equalIn 10000 23 (.agg (ints 26 (Pm.up (Pm.conj p x)))) (.agg (ints 26 (Pm.up q)))).run Try.prog w = .ok false w := fun w => by rw [run_eq_perm, Bool.eq_false_iff.2 hcq]
      clear h3 h2
      go_wp2_with (first | refine store_new rfl _ _ rfl rfl _ rfl rfl ?_ | refine load_perm rfl _ rfl _ rfl _ rd ?_ | refine load_perm rfl _ rfl _ rfl _ rc ?_ | refine load_perm rfl _ rfl _ rfl _ rq ?_ | refine load_perm rfl _ rfl _ rfl _ rx ?_ | refine load_perm rfl _ rfl _ rfl _ ry ?_)
      go_ret
      exact ⟨rfl, hb⟩
end Go.Proofs.Ytphlnfmpbbefnab
