/-
  PermGroup: the walk.
-/
import Derived.Test.YtphlnfmpbbefnaaPLoc
import Derived.Test.YtphlnfmpbbefnaaPThenB
import Derived.Deep.RegionHeld3
import Derived.OrdersHeld
namespace Go.Proofs.Ytphlnfmpbbefnaa
open Go.RowKit PK

theorem then_inv (p : Nat → Nat) (hp : Pm.IsPerm p) (w : World) : Calls Try.prog 20 #[.agg (ints 26 (Pm.up p)), .agg (ints 26 (Pm.up (Pm.inv p)))] w fun e w' => e = .returned (.tuple #[.agg (ints 26 (Pm.up fun i => i)), .int .i64 0]) ∧ Below w.heap.size w w' := by
  have e : ints 26 (Pm.up fun i => Pm.inv p (p i)) = ints 26 (Pm.up fun i => i) := ints_ext fun i hi => by simp only [Pm.up]; rw [hp.inv_left i hi]
  have := then_ok p (Pm.inv p) hp hp.inv w
  rw [e] at this
  exact this
theorem then_inv' (p : Nat → Nat) (hp : Pm.IsPerm p) (w : World) : Calls Try.prog 20 #[.agg (ints 26 (Pm.up (Pm.inv p))), .agg (ints 26 (Pm.up p))] w fun e w' => e = .returned (.tuple #[.agg (ints 26 (Pm.up fun i => i)), .int .i64 0]) ∧ Below w.heap.size w w' := by
  have e : ints 26 (Pm.up fun i => p (Pm.inv p i)) = ints 26 (Pm.up fun i => i) := ints_ext fun i hi => by simp only [Pm.up]; rw [(hp.inv_spec i hi).2]
  have := then_ok (Pm.inv p) p hp.inv hp w
  rw [e] at this
  exact this
theorem then_same (p : Nat → Nat) (hp : Pm.IsPerm p) (w : World) : Calls Try.prog 20 #[.agg (ints 26 (Pm.up p)), .agg (ints 26 (Pm.up fun i => i))] w fun e w' => e = .returned (.tuple #[.agg (ints 26 (Pm.up p)), .int .i64 0]) ∧ Below w.heap.size w w' :=
  then_ok p (fun i => i) hp Pm.IsPerm.id w
theorem s15_call {Z : World} {bp bx yb bu bv g : Nat} {P X I : List Value} {W W' : World} (hp : bp < Z.heap.size) (hx : bx < Z.heap.size) (hy : yb < Z.heap.size) (hu : bu < Z.heap.size) (hv : bv < Z.heap.size)
    (h : Below Z.heap.size Z W ∧ g < W.heap.size ∧ W.rangeAt bp 0 P ∧ W.rangeAt bx 0 X ∧ W.rangeAt yb 0 X ∧ W.rangeAt bu 0 I ∧ W.rangeAt bv 0 I ∧ W.rangeAt g 0 P) (hc : Below W.heap.size W W') :
    Below Z.heap.size Z W' ∧ g < W'.heap.size ∧ W'.rangeAt bp 0 P ∧ W'.rangeAt bx 0 X ∧ W'.rangeAt yb 0 X ∧ W'.rangeAt bu 0 I ∧ W'.rangeAt bv 0 I ∧ W'.rangeAt g 0 P := by
  obtain ⟨a, b, c, d, e, f, i, j⟩ := h
  have hz := a.size
  exact ⟨a.trans (hc.mono hz), by have := hc.size; omega, Below.rangeAt hc c (by omega), Below.rangeAt hc d (by omega), Below.rangeAt hc e (by omega), Below.rangeAt hc f (by omega), Below.rangeAt hc i (by omega), Below.rangeAt hc j b⟩
theorem s15_start {Z : World} {bp bx yb bu bv g : Nat} {T : TypeId} {P X I : Array Value} {Y : World} (rp : RowAt Z bp T P) (rx : RowAt Z bx T X) (ry : RowAt Z yb T X) (ru : RowAt Z bu T I) (rv : RowAt Z bv T I)
    (hb : Below Z.heap.size Z Y) (hg : g < Y.heap.size) (hr : Y.rangeAt g 0 P.toList) :
    Below Z.heap.size Z Y.drew ∧ g < Y.drew.heap.size ∧ Y.drew.rangeAt bp 0 P.toList ∧ Y.drew.rangeAt bx 0 X.toList ∧ Y.drew.rangeAt yb 0 X.toList ∧ Y.drew.rangeAt bu 0 I.toList ∧ Y.drew.rangeAt bv 0 I.toList ∧ Y.drew.rangeAt g 0 P.toList :=
  ⟨hb.drew, hg, Below.rangeAt hb rp.range rp.lt, Below.rangeAt hb rx.range rx.lt, Below.rangeAt hb ry.range ry.lt, Below.rangeAt hb ru.range ru.lt, Below.rangeAt hb rv.range rv.lt, hr⟩
theorem size_setCells (g : Nat) : ∀ (vs : List Value) (o : Nat) (w : World), (w.setCells g o vs).heap.size = w.heap.size
  | [], _, _ => rfl
  | v :: vs, o, w => (size_setCells g vs (o + 1) _).trans (World.size_setCell w _ v)
theorem keep_start {Z : World} {b : Nat} {cs : List Value} (h : Z.rangeAt b 0 cs) : Below Z.heap.size Z Z.drew ∧ Z.drew.rangeAt b 0 cs := ⟨(Below.refl _ _).drew, by simpa using h⟩
theorem keep_alloc {Z W : World} {b : Nat} {cs : List Value} (h : Below Z.heap.size Z W ∧ W.rangeAt b 0 cs) (o : Obj) : Below Z.heap.size Z (W.alloc o) ∧ (W.alloc o).rangeAt b 0 cs := ⟨h.1.alloc h.1.size o, World.rangeAt_alloc h.2 o⟩
theorem keep_store {Z W : World} {b g o : Nat} {cs vs : List Value} (hb : b < Z.heap.size) (hg : Z.heap.size ≤ g) (h : Below Z.heap.size Z W ∧ W.rangeAt b 0 cs) : Below Z.heap.size Z (W.setCells g o vs) ∧ (W.setCells g o vs).rangeAt b 0 cs :=
  ⟨below_setCells g hg vs o W h.1, World.rangeAt_setCells_apart h.2 g o vs (.inl (by omega))⟩
theorem sizeS {Z W W' : World} {b : Nat} {cs : List Value} (h : Below Z.heap.size Z W ∧ W.rangeAt b 0 cs) (hc : Below W.heap.size W W') : Z.heap.size ≤ W'.heap.size := Nat.le_trans h.1.size hc.size
theorem keep_call {Z W W' : World} {b : Nat} {cs : List Value} (hb : b < Z.heap.size) (h : Below Z.heap.size Z W ∧ W.rangeAt b 0 cs) (hc : Below W.heap.size W W') : Below Z.heap.size Z W' ∧ W'.rangeAt b 0 cs :=
  ⟨h.1.trans (hc.mono h.1.size), Below.rangeAt hc h.2 (Nat.lt_of_lt_of_le hb h.1.size)⟩

set_option maxRecDepth 100000 in
set_option maxHeartbeats 4000000 in
theorem law_group_ok (p q r : Nat → Nat) (hp : Pm.IsPerm p) (hq : Pm.IsPerm q) (hr : Pm.IsPerm r) (w : World) :
    Calls Try.prog 8 #[.agg (ints 26 (Pm.up p)), .agg (ints 26 (Pm.up q)), .agg (ints 26 (Pm.up r))] w fun e w' => e = .returned (.bool true) ∧ Below w.heap.size w w' := by
  have KP : Hid (Pm.wrong (Pm.up p) = 0) := Pm.wrong_up p hp
  have KQ : Hid (Pm.wrong (Pm.up q) = 0) := Pm.wrong_up q hq
  have KR : Hid (Pm.wrong (Pm.up r) = 0) := Pm.wrong_up r hr
  go_enter Try.func8, Try.ntmps8
  go_wp2_with fail
  refine (alive_any _).mono ?_
  rintro e W1 ⟨rfl, hb0⟩
  obtain ⟨rp, rq, rr, hb1, hs1⟩ := after3 hb0
  clear hb0
  go_wp2_with (first | refine load_perm rfl _ rfl _ rfl _ rp ?_)
  refine (wrong_any _ _).mono ?_
  rintro e W2 ⟨rfl, hb2⟩
  rw [KP.out]
  have hs2 := hb2.size
  have rp2 := rp.below hb2 rp.lt
  have rq2 := rq.below hb2 rq.lt
  have rr2 := rr.below hb2 rr.lt
  have hb2' := hb1.trans (hb2.mono (by omega))
  clear rp rq rr hb1 hb2
  go_wp2_with (first | refine load_perm rfl _ rfl _ rfl _ rq2 ?_)
  refine (wrong_any _ _).mono ?_
  rintro e W3 ⟨rfl, hb3⟩
  rw [KQ.out]
  have hs3 := hb3.size
  have rp3 := rp2.below hb3 rp2.lt
  have rq3 := rq2.below hb3 rq2.lt
  have rr3 := rr2.below hb3 rr2.lt
  have hb3' := hb2'.trans (hb3.mono (by omega))
  clear rp2 rq2 rr2 hb2' hb3
  go_wp2_with (first | refine load_perm rfl _ rfl _ rfl _ rr3 ?_)
  refine (wrong_any _ _).mono ?_
  rintro e W4 ⟨rfl, hb4⟩
  rw [KR.out]
  have hs4 := hb4.size
  have rp := rp3.below hb4 rp3.lt
  have rq := rq3.below hb4 rq3.lt
  have rr := rr3.below hb4 rr3.lt
  have hb := hb3'.trans (hb4.mono (by omega))
  have hsz : w.heap.size + 3 ≤ W4.heap.size := by omega
  clear rp3 rq3 rr3 hb3' hb4 hs1 hs2 hs3 hs4 KP KQ KR
  go_wp2_with (first | refine load_perm rfl _ rfl _ rfl _ rp ?_ | refine load_perm rfl _ rfl _ rfl _ rq ?_)
  refine (then_ok (p) (q) (hp) (hq) _).mono ?_
  rintro e V0 ⟨rfl, hc⟩
  replace rp := row_step rp hc (.cells (ints 26 (Pm.up (fun i => q (p i)))) 35)
  replace rq := row_step rq hc (.cells (ints 26 (Pm.up (fun i => q (p i)))) 35)
  replace rr := row_step rr hc (.cells (ints 26 (Pm.up (fun i => q (p i)))) 35)
  have rpq := RowAt.new V0 35 (ints 26 (Pm.up (fun i => q (p i))))
  replace hb := below_step hb (by omega) hc (.cells (ints 26 (Pm.up (fun i => q (p i)))) 35)
  have hsz' : w.heap.size + 3 ≤ (V0.alloc (.cells (ints 26 (Pm.up (fun i => q (p i)))) 35)).heap.size := size_step hsz hc _
  clear hsz hc
  have hsz := hsz'
  clear hsz'
  go_wp2_with (first | refine store_new rfl _ _ rfl rfl _ rfl rfl ?_ | refine load_perm rfl _ rfl _ rfl _ rq ?_ | refine load_perm rfl _ rfl _ rfl _ rr ?_)
  refine (then_ok (q) (r) (hq) (hr) _).mono ?_
  rintro e V1 ⟨rfl, hc⟩
  replace rp := row_step rp hc (.cells (ints 26 (Pm.up (fun i => r (q i)))) 35)
  replace rq := row_step rq hc (.cells (ints 26 (Pm.up (fun i => r (q i)))) 35)
  replace rr := row_step rr hc (.cells (ints 26 (Pm.up (fun i => r (q i)))) 35)
  replace rpq := row_step rpq hc (.cells (ints 26 (Pm.up (fun i => r (q i)))) 35)
  have rqr := RowAt.new V1 35 (ints 26 (Pm.up (fun i => r (q i))))
  replace hb := below_step hb (by omega) hc (.cells (ints 26 (Pm.up (fun i => r (q i)))) 35)
  have hsz' : w.heap.size + 3 ≤ (V1.alloc (.cells (ints 26 (Pm.up (fun i => r (q i)))) 35)).heap.size := size_step hsz hc _
  clear hsz hc
  have hsz := hsz'
  clear hsz'
  go_wp2_with (first | refine store_new rfl _ _ rfl rfl _ rfl rfl ?_ | refine load_perm rfl _ rfl _ rfl _ rpq ?_ | refine load_perm rfl _ rfl _ rfl _ rr ?_)
  refine (then_ok (fun i => q (p i)) (r) (hp.comp hq) (hr) _).mono ?_
  rintro e V2 ⟨rfl, hc⟩
  replace rp := row_step rp hc (.cells (ints 26 (Pm.up (fun i => r (q (p i))))) 35)
  replace rq := row_step rq hc (.cells (ints 26 (Pm.up (fun i => r (q (p i))))) 35)
  replace rr := row_step rr hc (.cells (ints 26 (Pm.up (fun i => r (q (p i))))) 35)
  replace rpq := row_step rpq hc (.cells (ints 26 (Pm.up (fun i => r (q (p i))))) 35)
  replace rqr := row_step rqr hc (.cells (ints 26 (Pm.up (fun i => r (q (p i))))) 35)
  have rx := RowAt.new V2 35 (ints 26 (Pm.up (fun i => r (q (p i)))))
  replace hb := below_step hb (by omega) hc (.cells (ints 26 (Pm.up (fun i => r (q (p i))))) 35)
  have hsz' : w.heap.size + 3 ≤ (V2.alloc (.cells (ints 26 (Pm.up (fun i => r (q (p i))))) 35)).heap.size := size_step hsz hc _
  clear hsz hc
  have hsz := hsz'
  clear hsz'
  go_wp2_with (first | refine store_new rfl _ _ rfl rfl _ rfl rfl ?_ | refine load_perm rfl _ rfl _ rfl _ rp ?_ | refine load_perm rfl _ rfl _ rfl _ rqr ?_)
  refine (then_ok (p) (fun i => r (q i)) (hp) (hq.comp hr) _).mono ?_
  rintro e V3 ⟨rfl, hc⟩
  replace rp := row_step rp hc (.cells (ints 26 (Pm.up (fun i => r (q (p i))))) 35)
  replace rq := row_step rq hc (.cells (ints 26 (Pm.up (fun i => r (q (p i))))) 35)
  replace rr := row_step rr hc (.cells (ints 26 (Pm.up (fun i => r (q (p i))))) 35)
  replace rpq := row_step rpq hc (.cells (ints 26 (Pm.up (fun i => r (q (p i))))) 35)
  replace rqr := row_step rqr hc (.cells (ints 26 (Pm.up (fun i => r (q (p i))))) 35)
  replace rx := row_step rx hc (.cells (ints 26 (Pm.up (fun i => r (q (p i))))) 35)
  have ry := RowAt.new V3 35 (ints 26 (Pm.up (fun i => r (q (p i)))))
  replace hb := below_step hb (by omega) hc (.cells (ints 26 (Pm.up (fun i => r (q (p i))))) 35)
  have hsz' : w.heap.size + 3 ≤ (V3.alloc (.cells (ints 26 (Pm.up (fun i => r (q (p i))))) 35)).heap.size := size_step hsz hc _
  clear hsz hc
  have hsz := hsz'
  clear hsz'
  go_wp2_with (first | refine store_new rfl _ _ rfl rfl _ rfl rfl ?_ | refine load_perm rfl _ rfl _ rfl _ rp ?_)
  refine (back_ok (p) (hp) _).mono ?_
  rintro e V4 ⟨rfl, hc⟩
  replace rp := row_step rp hc (.cells (ints 26 (Pm.up (Pm.inv p))) 35)
  replace rq := row_step rq hc (.cells (ints 26 (Pm.up (Pm.inv p))) 35)
  replace rr := row_step rr hc (.cells (ints 26 (Pm.up (Pm.inv p))) 35)
  replace rpq := row_step rpq hc (.cells (ints 26 (Pm.up (Pm.inv p))) 35)
  replace rqr := row_step rqr hc (.cells (ints 26 (Pm.up (Pm.inv p))) 35)
  replace rx := row_step rx hc (.cells (ints 26 (Pm.up (Pm.inv p))) 35)
  replace ry := row_step ry hc (.cells (ints 26 (Pm.up (Pm.inv p))) 35)
  have rb := RowAt.new V4 35 (ints 26 (Pm.up (Pm.inv p)))
  replace hb := below_step hb (by omega) hc (.cells (ints 26 (Pm.up (Pm.inv p))) 35)
  have hsz' : w.heap.size + 3 ≤ (V4.alloc (.cells (ints 26 (Pm.up (Pm.inv p))) 35)).heap.size := size_step hsz hc _
  clear hsz hc
  have hsz := hsz'
  clear hsz'
  go_wp2_with (first | refine store_new rfl _ _ rfl rfl _ rfl rfl ?_ | refine load_perm rfl _ rfl _ rfl _ rp ?_ | refine load_perm rfl _ rfl _ rfl _ rb ?_)
  refine (then_inv p hp _).mono ?_
  rintro e V5 ⟨rfl, hc⟩
  replace rp := row_step rp hc (.cells (ints 26 (Pm.up (fun i => i))) 35)
  replace rq := row_step rq hc (.cells (ints 26 (Pm.up (fun i => i))) 35)
  replace rr := row_step rr hc (.cells (ints 26 (Pm.up (fun i => i))) 35)
  replace rpq := row_step rpq hc (.cells (ints 26 (Pm.up (fun i => i))) 35)
  replace rqr := row_step rqr hc (.cells (ints 26 (Pm.up (fun i => i))) 35)
  replace rx := row_step rx hc (.cells (ints 26 (Pm.up (fun i => i))) 35)
  replace ry := row_step ry hc (.cells (ints 26 (Pm.up (fun i => i))) 35)
  replace rb := row_step rb hc (.cells (ints 26 (Pm.up (fun i => i))) 35)
  have ru := RowAt.new V5 35 (ints 26 (Pm.up (fun i => i)))
  replace hb := below_step hb (by omega) hc (.cells (ints 26 (Pm.up (fun i => i))) 35)
  have hsz' : w.heap.size + 3 ≤ (V5.alloc (.cells (ints 26 (Pm.up (fun i => i))) 35)).heap.size := size_step hsz hc _
  clear hsz hc
  have hsz := hsz'
  clear hsz'
  go_wp2_with (first | refine store_new rfl _ _ rfl rfl _ rfl rfl ?_ | refine load_perm rfl _ rfl _ rfl _ rb ?_ | refine load_perm rfl _ rfl _ rfl _ rp ?_)
  refine (then_inv' p hp _).mono ?_
  rintro e V6 ⟨rfl, hc⟩
  replace rp := row_step rp hc (.cells (ints 26 (Pm.up (fun i => i))) 35)
  replace rq := row_step rq hc (.cells (ints 26 (Pm.up (fun i => i))) 35)
  replace rr := row_step rr hc (.cells (ints 26 (Pm.up (fun i => i))) 35)
  replace rpq := row_step rpq hc (.cells (ints 26 (Pm.up (fun i => i))) 35)
  replace rqr := row_step rqr hc (.cells (ints 26 (Pm.up (fun i => i))) 35)
  replace rx := row_step rx hc (.cells (ints 26 (Pm.up (fun i => i))) 35)
  replace ry := row_step ry hc (.cells (ints 26 (Pm.up (fun i => i))) 35)
  replace rb := row_step rb hc (.cells (ints 26 (Pm.up (fun i => i))) 35)
  replace ru := row_step ru hc (.cells (ints 26 (Pm.up (fun i => i))) 35)
  have rv := RowAt.new V6 35 (ints 26 (Pm.up (fun i => i)))
  replace hb := below_step hb (by omega) hc (.cells (ints 26 (Pm.up (fun i => i))) 35)
  have hsz' : w.heap.size + 3 ≤ (V6.alloc (.cells (ints 26 (Pm.up (fun i => i))) 35)).heap.size := size_step hsz hc _
  clear hsz hc
  have hsz := hsz'
  clear hsz'
  go_wp2_with (first | refine store_new rfl _ _ rfl rfl _ rfl rfl ?_ | fail)
  obtain ⟨Z, hZ⟩ : ∃ Z, Z = V6.alloc (.cells (ints 26 (Pm.up (fun i => i))) 35) := ⟨_, rfl⟩
  rw [← hZ] at rp rx ry ru rv hb hsz ⊢
  clear rq rr rpq rqr rb hZ
  have hrg : Z.rangeAt w.heap.size 0 (ints 26 (Pm.up p)).toList := rp.range
  have hu := Try.underlying35
  have hi : (Try.prog.info? 35).map (·.size) = some (ints 26 (Pm.up p)).toList.length := by rw [Array.length_toList, ints_size]; exact info_perm
  have h1 := ints_cells_one (Pm.up p)
  have hi2 : (Try.prog.info? 35).map (·.size) = some (ints 26 (Pm.up p)).size := by rw [ints_size]; exact info_perm
  have hbp : w.heap.size < Z.heap.size := by omega
  have hiX : (Try.prog.info? 35).map (·.size) = some (ints 26 (Pm.up fun i => r (q (p i)))).size := by rw [ints_size]; exact info_perm
  have hiI : (Try.prog.info? 35).map (·.size) = some (ints 26 (Pm.up fun i => i)).size := by rw [ints_size]; exact info_perm
  have hre := refl_perm
  have hmg : Try.prog.eqGuardType Try.prog.depth 35 = false := by kernel_rfl
  go_region_held3 (fun W => Below Z.heap.size Z W ∧ W.rangeAt w.heap.size 0 (ints 26 (Pm.up p)).toList)
    (first
      | exact keep_store hbp (by first | omega | exact Nat.le_refl _) (by assumption)
      | exact keep_alloc (by assumption) _
      | exact keep_start hrg
      | exact keep_call hbp (by assumption) (by assumption))
    (first
      | (go_at_call 35; refine (same_any _).mono ?_; rintro e WS ⟨rfl, hc⟩; have hz1 := sizeS (by assumption) hc; first | (have hx2 := there_new2 (n := ((List.range 26).map fun i => Value.int .i64 (Pm.up p i)).length) hc rfl; have hth := hx2.1; have hgl := hx2.2; clear hx2) | (have hx2 := there_new3 (n := ((List.range 26).map fun i => Value.int .i64 (Pm.up p i)).length) hc rfl; have hth := hx2.1; have hgl := hx2.2; clear hx2) | skip)
      | (go_at_call 20; refine (then_same p hp _).mono ?_; rintro e WT ⟨rfl, hd⟩; have hz2 := sizeS (by assumption) hd; first | (have hx2 := there_new2 (n := ((List.range 26).map fun i => Value.int .i64 (Pm.up p i)).length) hd rfl; have hth := hx2.1; have hgl := hx2.2; clear hx2) | (have hth2 := there_keep hth hgl hd; clear hth) | have hfr := there_fresh WT #[.int .i64 0, .int .i64 0, .int .i64 0, .int .i64 0, .int .i64 0, .int .i64 0, .int .i64 0, .int .i64 0, .int .i64 0, .int .i64 0, .int .i64 0, .int .i64 0, .int .i64 0, .int .i64 0, .int .i64 0, .int .i64 0, .int .i64 0, .int .i64 0, .int .i64 0, .int .i64 0, .int .i64 0, .int .i64 0, .int .i64 0, .int .i64 0, .int .i64 0, .int .i64 0] 35 (((List.range 26).map fun i => Value.int .i64 (Pm.up p i)).length) rfl))
  · rename_i hS0
    have hrw : (WT.alloc (.cells #[.int .i64 0, .int .i64 0, .int .i64 0, .int .i64 0, .int .i64 0, .int .i64 0, .int .i64 0, .int .i64 0, .int .i64 0, .int .i64 0, .int .i64 0, .int .i64 0, .int .i64 0, .int .i64 0, .int .i64 0, .int .i64 0, .int .i64 0, .int .i64 0, .int .i64 0, .int .i64 0, .int .i64 0, .int .i64 0, .int .i64 0, .int .i64 0, .int .i64 0, .int .i64 0] 35)).setCells (WT.heap.size) 0 ((List.range 26).map fun i => Value.int .i64 (Pm.up p i)) |>.rangeAt (WT.heap.size) 0 (ints 26 (Pm.up p)).toList := by rw [ints_toList]; exact World.rangeAt_setCells_same _ _ _ _ hfr
    have hgs : (WT.heap.size) < ((WT.alloc (.cells #[.int .i64 0, .int .i64 0, .int .i64 0, .int .i64 0, .int .i64 0, .int .i64 0, .int .i64 0, .int .i64 0, .int .i64 0, .int .i64 0, .int .i64 0, .int .i64 0, .int .i64 0, .int .i64 0, .int .i64 0, .int .i64 0, .int .i64 0, .int .i64 0, .int .i64 0, .int .i64 0, .int .i64 0, .int .i64 0, .int .i64 0, .int .i64 0, .int .i64 0, .int .i64 0] 35)).setCells (WT.heap.size) 0 ((List.range 26).map fun i => Value.int .i64 (Pm.up p i))).heap.size := by rw [size_setCells]; simp
    obtain ⟨hbY, _⟩ := hS0
    generalize (WT.alloc (.cells #[.int .i64 0, .int .i64 0, .int .i64 0, .int .i64 0, .int .i64 0, .int .i64 0, .int .i64 0, .int .i64 0, .int .i64 0, .int .i64 0, .int .i64 0, .int .i64 0, .int .i64 0, .int .i64 0, .int .i64 0, .int .i64 0, .int .i64 0, .int .i64 0, .int .i64 0, .int .i64 0, .int .i64 0, .int .i64 0, .int .i64 0, .int .i64 0, .int .i64 0, .int .i64 0] 35)).setCells (WT.heap.size) 0 ((List.range 26).map fun i => Value.int .i64 (Pm.up p i)) = Y at hrw hgs hbY ⊢
    go_wp2
    refine wp_region_noPanic ?_
    refine wp_region_held_drew (S := (fun W => Below Z.heap.size Z W ∧ (WT.heap.size) < W.heap.size ∧ W.rangeAt w.heap.size 0 (ints 26 (Pm.up p)).toList ∧ W.rangeAt V2.heap.size 0 (ints 26 (Pm.up fun i => r (q (p i)))).toList ∧ W.rangeAt V3.heap.size 0 (ints 26 (Pm.up fun i => r (q (p i)))).toList ∧ W.rangeAt V5.heap.size 0 (ints 26 (Pm.up fun i => i)).toList ∧ W.rangeAt V6.heap.size 0 (ints 26 (Pm.up fun i => i)).toList ∧ W.rangeAt (WT.heap.size) 0 (ints 26 (Pm.up p)).toList)) (by kernel_rfl) (s15_start rp rx ry ru rv hbY hgs hrw) (fun hS => ?_)
    refine take_load 0 115 rfl rfl (by kernel_rfl) (by kernel_rfl) (by kernel_rfl) (fun _ _ _ _ h => h) (by rfl) 35 _ (by rfl) (V2.heap.size) (ints 26 (Pm.up fun i => r (q (p i)))) _ (by rfl) (fun W h => h.2.2.2.1) hu rfl hiX hS ?_
    simp only [List.setIfInBounds_toArray, List.set_cons_succ, List.set_cons_zero]
    refine take_load 1 116 rfl rfl (by kernel_rfl) (by kernel_rfl) (by kernel_rfl) (fun _ _ _ _ h => h) (by rfl) 35 _ (by rfl) (V3.heap.size) (ints 26 (Pm.up fun i => r (q (p i)))) _ (by rfl) (fun W h => h.2.2.2.2.1) hu rfl hiX hS ?_
    simp only [List.setIfInBounds_toArray, List.set_cons_succ, List.set_cons_zero]
    refine take_pure 2 117 (.bool true) rfl rfl (by kernel_rfl) (by kernel_rfl) (by kernel_rfl) (fun _ _ _ _ h => h) (by rfl) (fun W => by clear hS; go_simp) hS ?_
    simp only [List.setIfInBounds_toArray, List.set_cons_succ, List.set_cons_zero]
    refine take_pure 3 118 (.bool true) rfl rfl (by kernel_rfl) (by kernel_rfl) (by kernel_rfl) (fun _ _ _ _ h => h) (by rfl) (fun W => by clear hS; go_simp) hS ?_
    simp only [List.setIfInBounds_toArray, List.set_cons_succ, List.set_cons_zero]
    refine take_load 4 119 rfl rfl (by kernel_rfl) (by kernel_rfl) (by kernel_rfl) (fun _ _ _ _ h => h) (by rfl) 35 _ (by rfl) (V5.heap.size) (ints 26 (Pm.up fun i => i)) _ (by rfl) (fun W h => h.2.2.2.2.2.1) hu rfl hiI hS ?_
    simp only [List.setIfInBounds_toArray, List.set_cons_succ, List.set_cons_zero]
    refine wpAnyH_ready (rs := [5]) (by kernel_rfl) (by simp) ?_
    refine AllReadyH.cons (o := _) rfl (fun K hK => ?_) AllReadyH.nil
    rw [if_pos (by rfl)]
    go_simp
    refine (same_any _).mono ?_
    rintro e WQ1 ⟨rfl, hq1⟩
    refine hK.out _ _ (s15_call rp.lt rx.lt ry.lt ru.lt rv.lt hS hq1) (fun hS1 => ?_)
    clear hK hS
    have hS := hS1
    clear hS1 K
    refine take_pure 6 121 (.bool true) rfl rfl (by kernel_rfl) (by kernel_rfl) (by kernel_rfl) (fun _ _ _ _ h => h) (by rfl) (fun W => by clear hS; go_simp) hS ?_
    simp only [List.setIfInBounds_toArray, List.set_cons_succ, List.set_cons_zero]
    refine take_pure 7 122 (.bool true) rfl rfl (by kernel_rfl) (by kernel_rfl) (by kernel_rfl) (fun _ _ _ _ h => h) (by rfl) (fun W => by clear hS; go_simp) hS ?_
    simp only [List.setIfInBounds_toArray, List.set_cons_succ, List.set_cons_zero]
    refine take_pure 8 123 (.bool true) rfl rfl (by kernel_rfl) (by kernel_rfl) (by kernel_rfl) (fun _ _ _ _ h => h) (by rfl) (fun W => by clear hS; go_simp) hS ?_
    simp only [List.setIfInBounds_toArray, List.set_cons_succ, List.set_cons_zero]
    refine take_load 9 124 rfl rfl (by kernel_rfl) (by kernel_rfl) (by kernel_rfl) (fun _ _ _ _ h => h) (by rfl) 35 _ (by rfl) (V6.heap.size) (ints 26 (Pm.up fun i => i)) _ (by rfl) (fun W h => h.2.2.2.2.2.2.1) hu rfl hiI hS ?_
    simp only [List.setIfInBounds_toArray, List.set_cons_succ, List.set_cons_zero]
    refine wpAnyH_ready (rs := [10]) (by kernel_rfl) (by simp) ?_
    refine AllReadyH.cons (o := _) rfl (fun K hK => ?_) AllReadyH.nil
    rw [if_pos (by rfl)]
    go_simp
    refine (same_any _).mono ?_
    rintro e WQ2 ⟨rfl, hq2⟩
    refine hK.out _ _ (s15_call rp.lt rx.lt ry.lt ru.lt rv.lt hS hq2) (fun hS2 => ?_)
    clear hK hS
    have hS := hS2
    clear hS2 K
    refine take_pure 11 126 (.bool true) rfl rfl (by kernel_rfl) (by kernel_rfl) (by kernel_rfl) (fun _ _ _ _ h => h) (by rfl) (fun W => by clear hS; go_simp) hS ?_
    simp only [List.setIfInBounds_toArray, List.set_cons_succ, List.set_cons_zero]
    refine take_pure 12 127 (.bool true) rfl rfl (by kernel_rfl) (by kernel_rfl) (by kernel_rfl) (fun _ _ _ _ h => h) (by rfl) (fun W => by clear hS; go_simp) hS ?_
    simp only [List.setIfInBounds_toArray, List.set_cons_succ, List.set_cons_zero]
    refine take_pure 13 128 (.bool true) rfl rfl (by kernel_rfl) (by kernel_rfl) (by kernel_rfl) (fun _ _ _ _ h => h) (by rfl) (fun W => by clear hS; go_simp) hS ?_
    simp only [List.setIfInBounds_toArray, List.set_cons_succ, List.set_cons_zero]
    refine take_load 14 129 rfl rfl (by kernel_rfl) (by kernel_rfl) (by kernel_rfl) (fun _ _ _ _ h => h) (by rfl) 35 _ (by rfl) (WT.heap.size) (ints 26 (Pm.up p)) _ (by rfl) (fun W h => h.2.2.2.2.2.2.2) hu rfl hi2 hS ?_
    simp only [List.setIfInBounds_toArray, List.set_cons_succ, List.set_cons_zero]
    refine take_load 15 130 rfl rfl (by kernel_rfl) (by kernel_rfl) (by kernel_rfl) (fun _ _ _ _ h => h) (by rfl) 35 _ (by rfl) (w.heap.size) (ints 26 (Pm.up p)) _ (by rfl) (fun W h => h.2.2.1) hu rfl hi2 hS ?_
    simp only [List.setIfInBounds_toArray, List.set_cons_succ, List.set_cons_zero]
    refine take_pure 16 131 (.bool true) rfl rfl (by kernel_rfl) (by kernel_rfl) (by kernel_rfl) (fun _ _ _ _ h => h) (by rfl) (fun W => by clear hS; go_simp) hS ?_
    simp only [List.setIfInBounds_toArray, List.set_cons_succ, List.set_cons_zero]
    refine take_pure 17 132 (.bool true) rfl rfl (by kernel_rfl) (by kernel_rfl) (by kernel_rfl) (fun _ _ _ _ h => h) (by rfl) (fun W => by clear hS; go_simp) hS ?_
    simp only [List.setIfInBounds_toArray, List.set_cons_succ, List.set_cons_zero]
    refine take_pure 18 6 (.bool true) rfl rfl (by kernel_rfl) (by kernel_rfl) (by kernel_rfl) (fun _ _ _ _ h => h) (by rfl) (fun W => by clear hS; go_simp) hS ?_
    simp only [List.setIfInBounds_toArray, List.set_cons_succ, List.set_cons_zero]
    refine wpAnyH_done (by kernel_rfl) ?_ _
    refine NoPanic.normal ?_
    go_wp2
    go_ret
    exact ⟨by kernel_rfl, hb.trans (hS.1.mono (by omega))⟩
  · rename_i hS0
    have hrw : (WT).setCells (WS.heap.size) 0 ((List.range 26).map fun i => Value.int .i64 (Pm.up p i)) |>.rangeAt (WS.heap.size) 0 (ints 26 (Pm.up p)).toList := by rw [ints_toList]; exact World.rangeAt_setCells_same _ _ _ _ hth
    have hgs : (WS.heap.size) < ((WT).setCells (WS.heap.size) 0 ((List.range 26).map fun i => Value.int .i64 (Pm.up p i))).heap.size := by rw [size_setCells]; omega
    obtain ⟨hbY, _⟩ := hS0
    generalize (WT).setCells (WS.heap.size) 0 ((List.range 26).map fun i => Value.int .i64 (Pm.up p i)) = Y at hrw hgs hbY ⊢
    go_wp2
    refine wp_region_noPanic ?_
    refine wp_region_held_drew (S := (fun W => Below Z.heap.size Z W ∧ (WS.heap.size) < W.heap.size ∧ W.rangeAt w.heap.size 0 (ints 26 (Pm.up p)).toList ∧ W.rangeAt V2.heap.size 0 (ints 26 (Pm.up fun i => r (q (p i)))).toList ∧ W.rangeAt V3.heap.size 0 (ints 26 (Pm.up fun i => r (q (p i)))).toList ∧ W.rangeAt V5.heap.size 0 (ints 26 (Pm.up fun i => i)).toList ∧ W.rangeAt V6.heap.size 0 (ints 26 (Pm.up fun i => i)).toList ∧ W.rangeAt (WS.heap.size) 0 (ints 26 (Pm.up p)).toList)) (by kernel_rfl) (s15_start rp rx ry ru rv hbY hgs hrw) (fun hS => ?_)
    refine take_load 0 115 rfl rfl (by kernel_rfl) (by kernel_rfl) (by kernel_rfl) (fun _ _ _ _ h => h) (by rfl) 35 _ (by rfl) (V2.heap.size) (ints 26 (Pm.up fun i => r (q (p i)))) _ (by rfl) (fun W h => h.2.2.2.1) hu rfl hiX hS ?_
    simp only [List.setIfInBounds_toArray, List.set_cons_succ, List.set_cons_zero]
    refine take_load 1 116 rfl rfl (by kernel_rfl) (by kernel_rfl) (by kernel_rfl) (fun _ _ _ _ h => h) (by rfl) 35 _ (by rfl) (V3.heap.size) (ints 26 (Pm.up fun i => r (q (p i)))) _ (by rfl) (fun W h => h.2.2.2.2.1) hu rfl hiX hS ?_
    simp only [List.setIfInBounds_toArray, List.set_cons_succ, List.set_cons_zero]
    refine take_pure 2 117 (.bool true) rfl rfl (by kernel_rfl) (by kernel_rfl) (by kernel_rfl) (fun _ _ _ _ h => h) (by rfl) (fun W => by clear hS; go_simp) hS ?_
    simp only [List.setIfInBounds_toArray, List.set_cons_succ, List.set_cons_zero]
    refine take_pure 3 118 (.bool true) rfl rfl (by kernel_rfl) (by kernel_rfl) (by kernel_rfl) (fun _ _ _ _ h => h) (by rfl) (fun W => by clear hS; go_simp) hS ?_
    simp only [List.setIfInBounds_toArray, List.set_cons_succ, List.set_cons_zero]
    refine take_load 4 119 rfl rfl (by kernel_rfl) (by kernel_rfl) (by kernel_rfl) (fun _ _ _ _ h => h) (by rfl) 35 _ (by rfl) (V5.heap.size) (ints 26 (Pm.up fun i => i)) _ (by rfl) (fun W h => h.2.2.2.2.2.1) hu rfl hiI hS ?_
    simp only [List.setIfInBounds_toArray, List.set_cons_succ, List.set_cons_zero]
    refine wpAnyH_ready (rs := [5]) (by kernel_rfl) (by simp) ?_
    refine AllReadyH.cons (o := _) rfl (fun K hK => ?_) AllReadyH.nil
    rw [if_pos (by rfl)]
    go_simp
    refine (same_any _).mono ?_
    rintro e WQ1 ⟨rfl, hq1⟩
    refine hK.out _ _ (s15_call rp.lt rx.lt ry.lt ru.lt rv.lt hS hq1) (fun hS1 => ?_)
    clear hK hS
    have hS := hS1
    clear hS1 K
    refine take_pure 6 121 (.bool true) rfl rfl (by kernel_rfl) (by kernel_rfl) (by kernel_rfl) (fun _ _ _ _ h => h) (by rfl) (fun W => by clear hS; go_simp) hS ?_
    simp only [List.setIfInBounds_toArray, List.set_cons_succ, List.set_cons_zero]
    refine take_pure 7 122 (.bool true) rfl rfl (by kernel_rfl) (by kernel_rfl) (by kernel_rfl) (fun _ _ _ _ h => h) (by rfl) (fun W => by clear hS; go_simp) hS ?_
    simp only [List.setIfInBounds_toArray, List.set_cons_succ, List.set_cons_zero]
    refine take_pure 8 123 (.bool true) rfl rfl (by kernel_rfl) (by kernel_rfl) (by kernel_rfl) (fun _ _ _ _ h => h) (by rfl) (fun W => by clear hS; go_simp) hS ?_
    simp only [List.setIfInBounds_toArray, List.set_cons_succ, List.set_cons_zero]
    refine take_load 9 124 rfl rfl (by kernel_rfl) (by kernel_rfl) (by kernel_rfl) (fun _ _ _ _ h => h) (by rfl) 35 _ (by rfl) (V6.heap.size) (ints 26 (Pm.up fun i => i)) _ (by rfl) (fun W h => h.2.2.2.2.2.2.1) hu rfl hiI hS ?_
    simp only [List.setIfInBounds_toArray, List.set_cons_succ, List.set_cons_zero]
    refine wpAnyH_ready (rs := [10]) (by kernel_rfl) (by simp) ?_
    refine AllReadyH.cons (o := _) rfl (fun K hK => ?_) AllReadyH.nil
    rw [if_pos (by rfl)]
    go_simp
    refine (same_any _).mono ?_
    rintro e WQ2 ⟨rfl, hq2⟩
    refine hK.out _ _ (s15_call rp.lt rx.lt ry.lt ru.lt rv.lt hS hq2) (fun hS2 => ?_)
    clear hK hS
    have hS := hS2
    clear hS2 K
    refine take_pure 11 126 (.bool true) rfl rfl (by kernel_rfl) (by kernel_rfl) (by kernel_rfl) (fun _ _ _ _ h => h) (by rfl) (fun W => by clear hS; go_simp) hS ?_
    simp only [List.setIfInBounds_toArray, List.set_cons_succ, List.set_cons_zero]
    refine take_pure 12 127 (.bool true) rfl rfl (by kernel_rfl) (by kernel_rfl) (by kernel_rfl) (fun _ _ _ _ h => h) (by rfl) (fun W => by clear hS; go_simp) hS ?_
    simp only [List.setIfInBounds_toArray, List.set_cons_succ, List.set_cons_zero]
    refine take_pure 13 128 (.bool true) rfl rfl (by kernel_rfl) (by kernel_rfl) (by kernel_rfl) (fun _ _ _ _ h => h) (by rfl) (fun W => by clear hS; go_simp) hS ?_
    simp only [List.setIfInBounds_toArray, List.set_cons_succ, List.set_cons_zero]
    refine take_load 14 129 rfl rfl (by kernel_rfl) (by kernel_rfl) (by kernel_rfl) (fun _ _ _ _ h => h) (by rfl) 35 _ (by rfl) (WS.heap.size) (ints 26 (Pm.up p)) _ (by rfl) (fun W h => h.2.2.2.2.2.2.2) hu rfl hi2 hS ?_
    simp only [List.setIfInBounds_toArray, List.set_cons_succ, List.set_cons_zero]
    refine take_load 15 130 rfl rfl (by kernel_rfl) (by kernel_rfl) (by kernel_rfl) (fun _ _ _ _ h => h) (by rfl) 35 _ (by rfl) (w.heap.size) (ints 26 (Pm.up p)) _ (by rfl) (fun W h => h.2.2.1) hu rfl hi2 hS ?_
    simp only [List.setIfInBounds_toArray, List.set_cons_succ, List.set_cons_zero]
    refine take_pure 16 131 (.bool true) rfl rfl (by kernel_rfl) (by kernel_rfl) (by kernel_rfl) (fun _ _ _ _ h => h) (by rfl) (fun W => by clear hS; go_simp) hS ?_
    simp only [List.setIfInBounds_toArray, List.set_cons_succ, List.set_cons_zero]
    refine take_pure 17 132 (.bool true) rfl rfl (by kernel_rfl) (by kernel_rfl) (by kernel_rfl) (fun _ _ _ _ h => h) (by rfl) (fun W => by clear hS; go_simp) hS ?_
    simp only [List.setIfInBounds_toArray, List.set_cons_succ, List.set_cons_zero]
    refine take_pure 18 6 (.bool true) rfl rfl (by kernel_rfl) (by kernel_rfl) (by kernel_rfl) (fun _ _ _ _ h => h) (by rfl) (fun W => by clear hS; go_simp) hS ?_
    simp only [List.setIfInBounds_toArray, List.set_cons_succ, List.set_cons_zero]
    refine wpAnyH_done (by kernel_rfl) ?_ _
    refine NoPanic.normal ?_
    go_wp2
    go_ret
    exact ⟨by kernel_rfl, hb.trans (hS.1.mono (by omega))⟩
  · rename_i hS0
    have hrw : (WT).setCells (Z.heap.size) 0 ((List.range 26).map fun i => Value.int .i64 (Pm.up p i)) |>.rangeAt (Z.heap.size) 0 (ints 26 (Pm.up p)).toList := by rw [ints_toList]; exact World.rangeAt_setCells_same _ _ _ _ hth2
    have hgs : (Z.heap.size) < ((WT).setCells (Z.heap.size) 0 ((List.range 26).map fun i => Value.int .i64 (Pm.up p i))).heap.size := by rw [size_setCells]; have h9 := hd.size; omega
    obtain ⟨hbY, _⟩ := hS0
    generalize (WT).setCells (Z.heap.size) 0 ((List.range 26).map fun i => Value.int .i64 (Pm.up p i)) = Y at hrw hgs hbY ⊢
    go_wp2
    refine wp_region_noPanic ?_
    refine wp_region_held_drew (S := (fun W => Below Z.heap.size Z W ∧ (Z.heap.size) < W.heap.size ∧ W.rangeAt w.heap.size 0 (ints 26 (Pm.up p)).toList ∧ W.rangeAt V2.heap.size 0 (ints 26 (Pm.up fun i => r (q (p i)))).toList ∧ W.rangeAt V3.heap.size 0 (ints 26 (Pm.up fun i => r (q (p i)))).toList ∧ W.rangeAt V5.heap.size 0 (ints 26 (Pm.up fun i => i)).toList ∧ W.rangeAt V6.heap.size 0 (ints 26 (Pm.up fun i => i)).toList ∧ W.rangeAt (Z.heap.size) 0 (ints 26 (Pm.up p)).toList)) (by kernel_rfl) (s15_start rp rx ry ru rv hbY hgs hrw) (fun hS => ?_)
    refine take_load 0 115 rfl rfl (by kernel_rfl) (by kernel_rfl) (by kernel_rfl) (fun _ _ _ _ h => h) (by rfl) 35 _ (by rfl) (V2.heap.size) (ints 26 (Pm.up fun i => r (q (p i)))) _ (by rfl) (fun W h => h.2.2.2.1) hu rfl hiX hS ?_
    simp only [List.setIfInBounds_toArray, List.set_cons_succ, List.set_cons_zero]
    refine take_load 1 116 rfl rfl (by kernel_rfl) (by kernel_rfl) (by kernel_rfl) (fun _ _ _ _ h => h) (by rfl) 35 _ (by rfl) (V3.heap.size) (ints 26 (Pm.up fun i => r (q (p i)))) _ (by rfl) (fun W h => h.2.2.2.2.1) hu rfl hiX hS ?_
    simp only [List.setIfInBounds_toArray, List.set_cons_succ, List.set_cons_zero]
    refine take_pure 2 117 (.bool true) rfl rfl (by kernel_rfl) (by kernel_rfl) (by kernel_rfl) (fun _ _ _ _ h => h) (by rfl) (fun W => by clear hS; go_simp) hS ?_
    simp only [List.setIfInBounds_toArray, List.set_cons_succ, List.set_cons_zero]
    refine take_pure 3 118 (.bool true) rfl rfl (by kernel_rfl) (by kernel_rfl) (by kernel_rfl) (fun _ _ _ _ h => h) (by rfl) (fun W => by clear hS; go_simp) hS ?_
    simp only [List.setIfInBounds_toArray, List.set_cons_succ, List.set_cons_zero]
    refine take_load 4 119 rfl rfl (by kernel_rfl) (by kernel_rfl) (by kernel_rfl) (fun _ _ _ _ h => h) (by rfl) 35 _ (by rfl) (V5.heap.size) (ints 26 (Pm.up fun i => i)) _ (by rfl) (fun W h => h.2.2.2.2.2.1) hu rfl hiI hS ?_
    simp only [List.setIfInBounds_toArray, List.set_cons_succ, List.set_cons_zero]
    refine wpAnyH_ready (rs := [5]) (by kernel_rfl) (by simp) ?_
    refine AllReadyH.cons (o := _) rfl (fun K hK => ?_) AllReadyH.nil
    rw [if_pos (by rfl)]
    go_simp
    refine (same_any _).mono ?_
    rintro e WQ1 ⟨rfl, hq1⟩
    refine hK.out _ _ (s15_call rp.lt rx.lt ry.lt ru.lt rv.lt hS hq1) (fun hS1 => ?_)
    clear hK hS
    have hS := hS1
    clear hS1 K
    refine take_pure 6 121 (.bool true) rfl rfl (by kernel_rfl) (by kernel_rfl) (by kernel_rfl) (fun _ _ _ _ h => h) (by rfl) (fun W => by clear hS; go_simp) hS ?_
    simp only [List.setIfInBounds_toArray, List.set_cons_succ, List.set_cons_zero]
    refine take_pure 7 122 (.bool true) rfl rfl (by kernel_rfl) (by kernel_rfl) (by kernel_rfl) (fun _ _ _ _ h => h) (by rfl) (fun W => by clear hS; go_simp) hS ?_
    simp only [List.setIfInBounds_toArray, List.set_cons_succ, List.set_cons_zero]
    refine take_pure 8 123 (.bool true) rfl rfl (by kernel_rfl) (by kernel_rfl) (by kernel_rfl) (fun _ _ _ _ h => h) (by rfl) (fun W => by clear hS; go_simp) hS ?_
    simp only [List.setIfInBounds_toArray, List.set_cons_succ, List.set_cons_zero]
    refine take_load 9 124 rfl rfl (by kernel_rfl) (by kernel_rfl) (by kernel_rfl) (fun _ _ _ _ h => h) (by rfl) 35 _ (by rfl) (V6.heap.size) (ints 26 (Pm.up fun i => i)) _ (by rfl) (fun W h => h.2.2.2.2.2.2.1) hu rfl hiI hS ?_
    simp only [List.setIfInBounds_toArray, List.set_cons_succ, List.set_cons_zero]
    refine wpAnyH_ready (rs := [10]) (by kernel_rfl) (by simp) ?_
    refine AllReadyH.cons (o := _) rfl (fun K hK => ?_) AllReadyH.nil
    rw [if_pos (by rfl)]
    go_simp
    refine (same_any _).mono ?_
    rintro e WQ2 ⟨rfl, hq2⟩
    refine hK.out _ _ (s15_call rp.lt rx.lt ry.lt ru.lt rv.lt hS hq2) (fun hS2 => ?_)
    clear hK hS
    have hS := hS2
    clear hS2 K
    refine take_pure 11 126 (.bool true) rfl rfl (by kernel_rfl) (by kernel_rfl) (by kernel_rfl) (fun _ _ _ _ h => h) (by rfl) (fun W => by clear hS; go_simp) hS ?_
    simp only [List.setIfInBounds_toArray, List.set_cons_succ, List.set_cons_zero]
    refine take_pure 12 127 (.bool true) rfl rfl (by kernel_rfl) (by kernel_rfl) (by kernel_rfl) (fun _ _ _ _ h => h) (by rfl) (fun W => by clear hS; go_simp) hS ?_
    simp only [List.setIfInBounds_toArray, List.set_cons_succ, List.set_cons_zero]
    refine take_pure 13 128 (.bool true) rfl rfl (by kernel_rfl) (by kernel_rfl) (by kernel_rfl) (fun _ _ _ _ h => h) (by rfl) (fun W => by clear hS; go_simp) hS ?_
    simp only [List.setIfInBounds_toArray, List.set_cons_succ, List.set_cons_zero]
    refine take_load 14 129 rfl rfl (by kernel_rfl) (by kernel_rfl) (by kernel_rfl) (fun _ _ _ _ h => h) (by rfl) 35 _ (by rfl) (Z.heap.size) (ints 26 (Pm.up p)) _ (by rfl) (fun W h => h.2.2.2.2.2.2.2) hu rfl hi2 hS ?_
    simp only [List.setIfInBounds_toArray, List.set_cons_succ, List.set_cons_zero]
    refine take_load 15 130 rfl rfl (by kernel_rfl) (by kernel_rfl) (by kernel_rfl) (fun _ _ _ _ h => h) (by rfl) 35 _ (by rfl) (w.heap.size) (ints 26 (Pm.up p)) _ (by rfl) (fun W h => h.2.2.1) hu rfl hi2 hS ?_
    simp only [List.setIfInBounds_toArray, List.set_cons_succ, List.set_cons_zero]
    refine take_pure 16 131 (.bool true) rfl rfl (by kernel_rfl) (by kernel_rfl) (by kernel_rfl) (fun _ _ _ _ h => h) (by rfl) (fun W => by clear hS; go_simp) hS ?_
    simp only [List.setIfInBounds_toArray, List.set_cons_succ, List.set_cons_zero]
    refine take_pure 17 132 (.bool true) rfl rfl (by kernel_rfl) (by kernel_rfl) (by kernel_rfl) (fun _ _ _ _ h => h) (by rfl) (fun W => by clear hS; go_simp) hS ?_
    simp only [List.setIfInBounds_toArray, List.set_cons_succ, List.set_cons_zero]
    refine take_pure 18 6 (.bool true) rfl rfl (by kernel_rfl) (by kernel_rfl) (by kernel_rfl) (fun _ _ _ _ h => h) (by rfl) (fun W => by clear hS; go_simp) hS ?_
    simp only [List.setIfInBounds_toArray, List.set_cons_succ, List.set_cons_zero]
    refine wpAnyH_done (by kernel_rfl) ?_ _
    refine NoPanic.normal ?_
    go_wp2
    go_ret
    exact ⟨by kernel_rfl, hb.trans (hS.1.mono (by omega))⟩
end Go.Proofs.Ytphlnfmpbbefnaa
