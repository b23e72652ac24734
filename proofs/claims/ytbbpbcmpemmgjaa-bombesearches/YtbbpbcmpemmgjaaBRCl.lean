/-
  Contract of the document's Closed (chapter 10).
-/
import Derived.Test.YtbbpbcmpemmgjaaJn35
import Derived.Test.YtbbpbcmpemmgjaaJn22
import Derived.Test.YtbbpbcmpemmgjaaJn30
import Derived.Deep.DeepCutAuto
namespace Go.Proofs.Ytbbpbcmpemmgjaa
open Go.RowKit PK Vg

/-- What a pass has checked: letters, then places. -/
def Sym (p : Nat → Int) (k : Nat) : Prop := ∀ x y : Nat, x < k → p x = (y : Int) → p y = (x : Nat)
def Keys (m : Bo.Mn) (p : Nat → Int) (k : Nat) : Prop := ∀ i y : Nat, i < k → (p (m.x i) = (y : Int) → p (m.y i) = (m.s i y : Nat)) ∧ (p (m.y i) = (y : Int) → p (m.x i) = (m.s i y : Nat))
/-- A number, read in a world; the measure of passes. -/
def rdI (W : World) (q i : Nat) : Int := match W.cell? ⟨q, i, none⟩ with | some (.int _ n) => n | _ => 0
def rdB (W : World) (q : Nat) : Nat := match W.cell? ⟨q, 0, none⟩ with | some (.bool true) => 1 | _ => 0
def clM (w W : World) : Nat := 2 * (26 - Bo.cs (rdI W (w.heap.size + 1))) + rdB W (w.heap.size + 2 + 1)
theorem cs_congr {p q : Nat → Int} (h : ∀ i, i < 26 → p i = q i) : Bo.cs p = Bo.cs q := by
  unfold Bo.cs
  congr 1
  refine List.filter_congr fun x hx => ?_
  rw [h x (by simpa using hx)]
theorem clM_eq {w W : World} {p : Nat → Int} {good again : Bool} (h : ClS w W p good again) : clM w W = 2 * (26 - Bo.cs p) + (if again = true then 1 else 0) := by
  unfold clM
  have h1 : Bo.cs (rdI W (w.heap.size + 1)) = Bo.cs p := cs_congr fun i hi => by
    unfold rdI
    rw [h.pr.cell (ints_get p hi)]
  have h2 : rdB W (w.heap.size + 2 + 1) = if again = true then 1 else 0 := by
    unfold rdB
    rw [h.ar.cell (i := 0) rfl]
    cases again <;> rfl
  rw [h1, h2]
theorem closed_pass {m : Bo.Mn} {a b c0 : Nat} {p : Nat → Int} {good again : Bool} (h : PI m a b c0 p good again) (hs : Sym p 26) (hk : Keys m p m.k) : Bo.Closed m a b p := ⟨h.base, fun x y hx e => hs x y hx e, fun i y hi e => (hk i y hi).1 e, fun i y hi e => (hk i y hi).2 e⟩
theorem Sym.next {p : Nat → Int} {k v : Nat} (h : Sym p k) (hv : p k = (v : Nat)) (h2 : p v = (k : Nat)) : Sym p (k + 1) := fun x y hx e => by
  by_cases e1 : x = k
  · subst e1
    rw [hv] at e
    have : y = v := by omega
    rw [this]; exact h2
  · exact h x y (by omega) e
theorem Sym.skip {p : Nat → Int} {k : Nat} (h : Sym p k) (hv : p k = -1) : Sym p (k + 1) := fun x y hx e => by
  by_cases e1 : x = k
  · subst e1
    rw [hv] at e
    omega
  · exact h x y (by omega) e
/-- The states: between passes, at a letter, at a place. -/
def StP (m : Bo.Mn) (a b : Nat) (w W : World) : Prop := ∃ p good again, ClS w W p good again ∧ PI m a b 0 p good again ∧ (again = false → good = true → Bo.Closed m a b p)
def S1P (m : Bo.Mn) (a b c0 k : Nat) (w W : World) : Prop := ∃ p good again, ClS w W p good again ∧ PI m a b c0 p good again ∧ (again = false → good = true → Sym p k)
def S2P (m : Bo.Mn) (a b c0 i : Nat) (w W : World) : Prop := ∃ p good again, ClS w W p good again ∧ PI m a b c0 p good again ∧ (again = false → good = true → Sym p 26 ∧ Keys m p i)
theorem S2P.end {m : Bo.Mn} {a b c0 : Nat} {w W W0 : World} {p0 : Nat → Int} (h : S2P m a b c0 m.k w W) (h0 : ClS w W0 p0 true true) (hc : c0 = Bo.cs p0) : StP m a b w W ∧ clM w W < clM w W0 := by
  obtain ⟨p, good, again, h1, h2, h3⟩ := h
  have e0 := clM_eq h0
  have e1 := clM_eq h1
  have l0 := Bo.cs_le p0
  have l1 := Bo.cs_le p
  have g1 := h2.le
  refine ⟨⟨p, good, again, h1, ⟨h2.sub, h2.base, h2.conf, Nat.zero_le _, fun e => by have := h2.grow e; omega⟩, fun e f => closed_pass h2 (h3 e f).1 (h3 e f).2⟩, ?_⟩
  rw [e0, e1, if_pos rfl]
  cases again
  · simp; omega
  · have := h2.grow rfl
    simp; omega
set_option maxRecDepth 100000 in
set_option maxHeartbeats 8000000 in
theorem rclosed_any (m : Bo.Mn) (hm : m.Ok) (cr te : ByteArray) (hmo : MenuOf m cr te) (a b : Nat) (ha : a < 26) (hb : b < 26) (ok : Bool) (pr : Nat → Int) (hres : Bo.Res m a b ok pr) (vk : Value) (w : World) (hks : KeysAt w vk m.k m.s) : Calls Try.prog 73 #[vk, .string cr, .string te, .int .i64 (a : Nat), .int .i64 (b : Nat)] w fun e w' => e = .returned (.tuple #[.agg (ints 26 pr), .bool ok]) ∧ Below w.heap.size w w' := by
  obtain ⟨gk, ck, rfl, hkc⟩ := hks
  have HKC := (show Hid (∀ i c, i < m.k → c < 26 → w.cell? ⟨gk, i * 26 + c, none⟩ = some (.int .i64 (m.s i c : Nat))) from hkc)
  have HCONF := (show Hid (Bo.Conf m a b → ok = false ∧ pr = fun _ => 0) from fun hc => res_conf hm ha hb hres hc)
  have HTRUE := (show Hid (∀ p, Bo.Sub m a b p → Bo.Closed m a b p → ok = true ∧ ints 26 pr = ints 26 p) from fun p h1 h2 => by
    have := Bo.Res.unique hm ha hb hres (.inl ⟨rfl, h1, h2⟩)
    exact ⟨this.1, ints_ext this.2⟩)
  obtain ⟨hk, hle, hsz, hx, hy⟩ := hmo
  have HX := (show Hid (∀ i, i < m.k → m.x i < 26 ∧ ∀ h : i < cr.size, (cr[i].toNat : Int) = (m.x i : Int) + 65) from hx)
  have HY := (show Hid (∀ i, i < m.k → m.y i < 26 ∧ ∀ h : i < te.size, (te[i].toNat : Int) = (m.y i : Int) + 65) from hy)
  have HSL := (show Hid (∀ i, i < m.k → ∀ c, c < 26 → m.s i c < 26) from hm.s)
  have HDL := (show Hid (∀ x y, Bo.Der m a b x y → x < 26 ∧ y < 26) from fun x y hd => hd.lt hm ha hb)
  have HSUB := (show Hid (∀ p, Bo.Sub m a b p → ∀ x, x < 26 → p x = -1 ∨ ∃ y : Nat, y < 26 ∧ p x = (y : Int) ∧ Bo.Der m a b x y) from fun p h x hx => h x hx)
  have hz26 := o_zero v_zero_perm
  have ha2 : (a : Int) < 26 := by omega
  have hr0 : RowAt ((w.alloc (.cells (ints 26 fun _ => 0) 25)).alloc (.cells (ints 26 fun _ => 0) 25)) w.heap.size 25 (ints 26 fun _ => 0) := (RowAt.new w _ _).alloc _
  have hr1 : RowAt ((w.alloc (.cells (ints 26 fun _ => 0) 25)).alloc (.cells (ints 26 fun _ => 0) 25)) (w.heap.size + 1) 25 (ints 26 fun c => if c < 0 then -1 else 0) := by
    have h := RowAt.new (w.alloc (.cells (ints 26 fun _ => 0) 25)) 25 (ints 26 fun _ => 0)
    rw [World.size_alloc] at h
    have e : (ints 26 fun c => if c < 0 then (-1 : Int) else 0) = ints 26 fun _ => 0 := ints_ext fun i _ => if_neg (by omega)
    rw [e]
    exact h
  have hb0 : Below w.heap.size w ((w.alloc (.cells (ints 26 fun _ => 0) 25)).alloc (.cells (ints 26 fun _ => 0) 25)) := ((Below.refl _ w).alloc (Nat.le_refl _) _).alloc (by simp) _
  have hsz0 : ((w.alloc (.cells (ints 26 fun _ => 0) 25)).alloc (.cells (ints 26 fun _ => 0) 25)).heap.size = w.heap.size + 2 := by simp
  have HK := (show Hid (m.k = cr.size) from hk)
  clear hkc hres hx hy hk
  go_enter Try.func73, Try.ntmps73
  go_upto_region 2 with fail
  generalize (w.alloc (.cells (ints 26 fun _ => 0) 25)).alloc (.cells (ints 26 fun _ => 0) 25) = W0 at *
  clear hz26
  go_wp2_with fail
  go_loopw [21] (fun i W => ∃ k : Nat, k ≤ 26 ∧ i = .int .i64 (k : Nat) ∧ RowAt W w.heap.size 25 (ints 26 fun _ => 0) ∧ RowAt W (w.heap.size + 1) 25 (ints 26 fun c => if c < k then -1 else 0) ∧ Below w.heap.size w W ∧ W.heap.size = w.heap.size + 2) (fun i _ => ((26 : Int) - intOf i).toNat)
  case atStart => exact ⟨0, by omega, rfl, hr0, hr1, hb0, hsz0⟩
  case round =>
    clear hr0 hr1 hb0 hsz0
    obtain ⟨k, hk26, rfl, hr0, hr1, hbe, hse⟩ := hrel
    by_cases hlt : k < 26
    · have HLT : Hid (k < 26) := hlt
      have hlt2 : (k : Int) < 26 := by omega
      have hc := hr1.cell (ints_get (fun c => if c < k then -1 else 0) hlt)
      have hf := hr1.frozen k
      have HN : Hid (RowAt (wr.setCell ⟨w.heap.size + 1, k, none⟩ (.int .i64 (-1))) w.heap.size 25 (ints 26 fun _ => 0) ∧ RowAt (wr.setCell ⟨w.heap.size + 1, k, none⟩ (.int .i64 (-1))) (w.heap.size + 1) 25 (ints 26 fun c => if c < k + 1 then -1 else 0) ∧ Below w.heap.size w (wr.setCell ⟨w.heap.size + 1, k, none⟩ (.int .i64 (-1))) ∧ (wr.setCell ⟨w.heap.size + 1, k, none⟩ (.int .i64 (-1))).heap.size = w.heap.size + 2) := by
        refine ⟨hr0.setOther _ _ (by simp), ?_, hbe.setCell (p := ⟨w.heap.size + 1, k, none⟩) (by simp) _, by simpa using hse⟩
        have h1 := hr1.set k (.int .i64 (-1))
        rw [ints_set] at h1
        have e : upd (fun c => if c < k then (-1 : Int) else 0) k (-1) = fun c => if c < k + 1 then -1 else 0 := funext fun c => by
          unfold upd
          by_cases e1 : c = k
          · rw [if_pos e1, if_pos (by omega)]
          · rw [if_neg e1]
            show (if c < k then (-1 : Int) else 0) = if c < k + 1 then -1 else 0
            by_cases e2 : c < k
            · rw [if_pos e2, if_pos (by omega)]
            · rw [if_neg e2, if_neg (by omega)]
        rw [e] at h1
        exact h1
      clear hlt hr0 hr1 hbe hse
      go_wp2
      go_roundw
      case rel => exact ⟨k + 1, HLT.out, by go_num, HN.out.1, HN.out.2.1, HN.out.2.2.1, HN.out.2.2.2⟩
      case measure => have := HLT.out; simp [intOf]; omega
    · obtain rfl : k = 26 := by omega
      have e26 : (ints 26 fun c => if c < 26 then (-1 : Int) else 0) = ints 26 fun _ => -1 := ints_ext fun i hi => if_pos hi
      rw [e26] at hr1
      have hca := hr1.cell (ints_get (fun _ => -1) ha)
      have hfa := hr1.frozen a
      have hcl : ClS w (((wr.setCell ⟨w.heap.size + 1, a, none⟩ (.int .i64 (b : Nat))).alloc (.cells #[.bool true] 4)).alloc (.cells #[.bool true] 4)) (upd (fun _ => -1) a (b : Nat)) true true := by
        have r0 := hr0.setOther ⟨w.heap.size + 1, a, none⟩ (.int .i64 (b : Nat)) (by simp)
        have r1 := hr1.set a (.int .i64 (b : Nat))
        rw [ints_set] at r1
        have r2 := RowAt.new (wr.setCell ⟨w.heap.size + 1, a, none⟩ (.int .i64 (b : Nat))) 4 #[.bool true]
        have r3 := RowAt.new ((wr.setCell ⟨w.heap.size + 1, a, none⟩ (.int .i64 (b : Nat))).alloc (.cells #[.bool true] 4)) 4 #[.bool true]
        have z0 : (wr.setCell ⟨w.heap.size + 1, a, none⟩ (.int .i64 (b : Nat))).heap.size = w.heap.size + 2 := by simpa using hse
        rw [z0] at r2
        rw [World.size_alloc, z0] at r3
        have hb1 := hbe.setCell (p := ⟨w.heap.size + 1, a, none⟩) (by simp) (.int .i64 (b : Nat))
        exact ⟨(r0.alloc _).alloc _, (r1.alloc _).alloc _, r2.alloc _, r3, (hb1.alloc hb1.size _).alloc (by have := hb1.size; simp at this ⊢; omega) _⟩
      have hpi : PI m a b 0 (upd (fun _ => -1) a (b : Nat)) true true := by
        have hs0 : Bo.Sub m a b (fun _ => -1) := fun x _ => .inl rfl
        refine ⟨hs0.put hb .base, by simp, (fun h => by cases h), Nat.zero_le _, fun _ => ?_⟩
        have := Bo.cs_put (p := fun _ => -1) (y := b) ha rfl
        omega
      have hst : ∃ p good again, ClS w (((wr.setCell ⟨w.heap.size + 1, a, none⟩ (.int .i64 (b : Nat))).alloc (.cells #[.bool true] 4)).alloc (.cells #[.bool true] 4)) p good again ∧ PI m a b 0 p good again ∧ (again = false → good = true → Bo.Closed m a b p) := ⟨_, _, _, hcl, hpi, (fun h => by cases h)⟩
      clear hlt hr0 hr1 hcl hpi e26
      go_wp2_with fail
      generalize ((wr.setCell ⟨w.heap.size + 1, a, none⟩ (.int .i64 (b : Nat))).alloc (.cells #[.bool true] 4)).alloc (.cells #[.bool true] 4) = V0 at *
      have HST : Hid (StP m a b w V0) := hst
      clear hst hbe hca hfa hse
      go_loopw [17] (fun _ W => StP m a b w W) (fun _ W => clM w W)
      case atStart => exact HST.out
      case round =>
        clear HST
        obtain ⟨p, good, again, hcl, hpi, hclo⟩ := hrel
        have ca := hcl.ar.cell (i := 0) rfl
        have cg := hcl.gr.cell (i := 0) rfl
        have HBE := (show Hid (Below w.heap.size w wr) from hcl.below)
        cases good
        · have HRS := (show Hid _ from HCONF.out (hpi.conf rfl))
          have hrs := hcl.res
          clear hcl hpi hclo
          cases again
          · go_wp2_with (first | refine wpList_build0 rfl 25 rfl (ints 26 fun _ => 0) built_perm' ?_ | refine wpList_store_row rfl 25 _ _ rfl w.heap.size (ints 26 fun _ => 0) rfl rfl 25 _ hrs (by rw [ints_size]; exact info_perm) (by simp only [ints_size]) (ints_one _ _) ?_)
            exact bodyPost_ret (v := .tuple #[.agg (ints 26 fun _ => 0), .bool false]) (results_cell_tmp2 rfl _ _ w.heap.size 25 _ (0, 0) _ _ rfl rfl (hrs.row _) Try.underlying25 rfl (by rw [ints_size]; exact info_perm)) rfl ⟨by rw [HRS.out.1, HRS.out.2], Below.setRow HBE.out _ (Nat.le_refl _) _⟩
          · go_wp2_with (first | refine wpList_build0 rfl 25 rfl (ints 26 fun _ => 0) built_perm' ?_ | refine wpList_store_row rfl 25 _ _ rfl w.heap.size (ints 26 fun _ => 0) rfl rfl 25 _ hrs (by rw [ints_size]; exact info_perm) (by simp only [ints_size]) (ints_one _ _) ?_)
            exact bodyPost_ret (v := .tuple #[.agg (ints 26 fun _ => 0), .bool false]) (results_cell_tmp2 rfl _ _ w.heap.size 25 _ (0, 0) _ _ rfl rfl (hrs.row _) Try.underlying25 rfl (by rw [ints_size]; exact info_perm)) rfl ⟨by rw [HRS.out.1, HRS.out.2], Below.setRow HBE.out _ (Nat.le_refl _) _⟩
        · cases again
          · have HT := (show Hid _ from HTRUE.out p hpi.sub (hclo rfl rfl))
            have hrs := hcl.res
            have hpr := hcl.pr
            clear hcl hpi hclo
            go_wp2_with (first | refine wpList_load_row rfl 25 _ rfl (w.heap.size + 1) rfl 25 (ints 26 p) (0, 0) _ hpr Try.underlying25 rfl (by rw [ints_size]; exact info_perm) ?_ | refine wpList_store_row rfl 25 _ _ rfl w.heap.size (ints 26 p) rfl rfl 25 _ hrs (by rw [ints_size]; exact info_perm) (by simp only [ints_size]) (ints_one _ _) ?_)
            exact bodyPost_ret (v := .tuple #[.agg (ints 26 p), .bool true]) (results_cell_tmp2 rfl _ _ w.heap.size 25 _ (0, 0) _ _ rfl rfl (hrs.row _) Try.underlying25 rfl (by rw [ints_size]; exact info_perm)) rfl ⟨by rw [HT.out.1, HT.out.2], Below.setRow HBE.out _ (Nat.le_refl _) _⟩
          · have fa := hcl.ar.frozen 0
            obtain ⟨c0, hc0⟩ : ∃ c, c = Bo.cs p := ⟨_, rfl⟩
            have HCL0 := (show Hid (ClS w wr p true true) from hcl)
            have HC0 := (show Hid (c0 = Bo.cs p) from hc0)
            have hs0 : S1P m a b c0 0 w (wr.setCell ⟨w.heap.size + 2 + 1, 0, none⟩ (.bool false)) := ⟨p, true, false, hcl.setA false, ⟨hpi.sub, hpi.base, hpi.conf, by rw [hc0]; exact Nat.le_refl _, fun h => by cases h⟩, fun _ _ x y hx => by omega⟩
            have HS0 := (show Hid _ from hs0)
            obtain ⟨W00, hW00⟩ : ∃ x, x = wr := ⟨_, rfl⟩
            have HEND := (show Hid (∀ W, S2P m a b c0 m.k w W → StP m a b w W ∧ clM w W < clM w wr) from fun W h => h.end HCL0.out HC0.out)
            clear hs0 hcl hpi hclo hc0 HBE HCL0 HC0 hW00
            go_wp2_with fail
            clear ca cg fa
            generalize wr.setCell ⟨w.heap.size + 2 + 1, 0, none⟩ (.bool false) = V1 at *
            go_loopw [35] (fun i W => ∃ k : Nat, k ≤ 26 ∧ i = .int .i64 (k : Nat) ∧ S1P m a b c0 k w W) (fun i _ => ((26 : Int) - intOf i).toNat)
            case atStart => exact ⟨0, by omega, rfl, HS0.out⟩
            case round =>
              clear HS0
              obtain ⟨k, hk26, rfl, p, good, again, hcl, hpi, hchk⟩ := hrel
              by_cases hlt : k < 26
              · have HLT : Hid (k < 26) := hlt
                have hlt2 : (k : Int) < 26 := by omega
                have cp := hcl.pr.cell (ints_get p hlt)
                rcases HSUB.out p hpi.sub k hlt with hp | ⟨v, hv26, hp, hdv⟩
                · rw [hp] at cp
                  have HN : Hid (S1P m a b c0 (k + 1) w wr) := ⟨p, good, again, hcl, hpi, fun e f => (hchk e f).skip hp⟩
                  clear hp hcl hpi hchk hlt
                  go_wp2
                  go_roundw
                  case rel => first | exact ⟨k + 1, HLT.out, by go_num, HN.out⟩ | exact ⟨_, _, _, _, _, _, _, _, _, _, _, _, _, _, _, ⟨k + 1, HLT.out, by go_num, HN.out⟩, rfl⟩ | exact ⟨_, _, _, _, _, _, _, _, _, _, _, _, _, _, _, _, _, _, _, _, _, _, _, _, _, _, _, _, _, _, _, _, _, _, _, _, _, _, _, _, _, _, _, _, _, _, _, ⟨k + 1, HLT.out, by go_num, HN.out⟩, rfl⟩ | exact ⟨_, _, _, _, _, _, _, _, _, _, _, _, _, _, _, _, _, _, _, _, _, _, _, _, _, _, _, _, _, _, _, _, _, _, _, _, _, _, _, _, _, _, _, _, _, _, ⟨k + 1, HLT.out, by go_num, HN.out⟩, rfl⟩ | exact ⟨_, _, _, _, _, _, _, _, _, _, _, _, _, _, _, _, _, _, _, _, _, _, _, _, _, _, _, _, _, _, _, _, _, _, _, _, _, _, _, _, _, _, _, _, _, _, _, _, ⟨k + 1, HLT.out, by go_num, HN.out⟩, rfl⟩
                  case measure => have := HLT.out; simp [intOf]; omega
                · rw [hp] at cp
                  have v0 : (0 : Int) ≤ (v : Int) := by omega
                  have HMU := (show Hid (Calls Try.prog 92 #[.int .i64 (v : Nat), .int .i64 (k : Nat), .pointer (some ⟨w.heap.size + 1, 0, none⟩), .pointer (some ⟨w.heap.size + 2, 0, none⟩), .pointer (some ⟨w.heap.size + 2 + 1, 0, none⟩)] wr fun e w' => e = .returned (.tuple #[]) ∧ S1P m a b c0 (k + 1) w w') from (must_any m a b c0 p good again v k hv26 hlt hdv.sym hpi w wr hcl).mono (by
                    rintro e w' ⟨rfl, p2, g2, a2, h1, h2, h3⟩
                    refine ⟨rfl, p2, g2, a2, h1, h2, fun e f => ?_⟩
                    obtain ⟨k1, k2⟩ := h3.keep e
                    obtain ⟨k3, k4⟩ := h3.fits e f
                    rw [k1]
                    exact (hchk k2 k3).next hp k4))
                  clear hp hcl hpi hchk hlt hdv
                  go_wp2_with fail
                  refine HMU.out.mono ?_
                  rintro e W3 ⟨rfl, hs⟩
                  have HN := (show Hid _ from hs)
                  clear hs HMU cp
                  go_wp2
                  go_roundw
                  case rel => first | exact ⟨k + 1, HLT.out, by go_num, HN.out⟩ | exact ⟨_, _, _, _, _, _, _, _, _, _, _, _, _, _, _, ⟨k + 1, HLT.out, by go_num, HN.out⟩, rfl⟩ | exact ⟨_, _, _, _, _, _, _, _, _, _, _, _, _, _, _, _, _, _, _, _, _, _, _, _, _, _, _, _, _, _, _, _, _, _, _, _, _, _, _, _, _, _, _, _, _, _, _, ⟨k + 1, HLT.out, by go_num, HN.out⟩, rfl⟩ | exact ⟨_, _, _, _, _, _, _, _, _, _, _, _, _, _, _, _, _, _, _, _, _, _, _, _, _, _, _, _, _, _, _, _, _, _, _, _, _, _, _, _, _, _, _, _, _, _, ⟨k + 1, HLT.out, by go_num, HN.out⟩, rfl⟩ | exact ⟨_, _, _, _, _, _, _, _, _, _, _, _, _, _, _, _, _, _, _, _, _, _, _, _, _, _, _, _, _, _, _, _, _, _, _, _, _, _, _, _, _, _, _, _, _, _, _, _, ⟨k + 1, HLT.out, by go_num, HN.out⟩, rfl⟩
                  case measure => have := HLT.out; simp [intOf]; omega
              · obtain rfl : k = 26 := by omega
                have hcv := fun w => Lib.run_convert_string_bytes (P := Try.prog) w 9 88 5 cr Try.underlying9 Try.underlying88 Try.underlying5
                clear hlt
                go_wp2_with fail
                have hbB : Below wr.heap.size wr (Lib.bytesWorld wr 5 cr) := below_bytes wr (Nat.le_refl _) 5 cr
                have HS0 : Hid (S2P m a b c0 0 w (Lib.bytesWorld wr 5 cr)) := ⟨p, good, again, hcl.step hbB, hpi, fun e f => ⟨hchk e f, fun i y hi => by omega⟩⟩
                generalize Lib.bytesWorld wr 5 cr = V2 at *
                clear hcv hbB hcl hpi hchk
                go_loopw [52] (fun x W => ∃ i : Nat, i ≤ cr.size ∧ x = .int .i64 (i : Nat) ∧ S2P m a b c0 i w W) (fun x _ => ((cr.size : Int) - intOf x).toNat)
                case atStart => exact ⟨0, by omega, rfl, HS0.out⟩
                case round =>
                  clear HS0
                  obtain ⟨i, hi, rfl, p, good, again, hcl, hpi, hchk⟩ := hrel
                  by_cases hlt : i < cr.size
                  case neg =>
                    obtain rfl : i = cr.size := by omega
                    have hnn : ¬ ((cr.size : Nat) : Int) < ((cr.size : Nat) : Int) := by omega
                    have HFIN := (show Hid _ from HEND.out wr ⟨p, good, again, hcl, hpi, fun e f => by rw [HK.out]; exact hchk e f⟩)
                    clear hlt hcl hpi hchk
                    go_wp2
                    go_roundw
                    case rel => exact HFIN.out.1
                    case measure => exact HFIN.out.2
                  have HLT : Hid (i < cr.size) := hlt
                  have hl1 : (i : Int) < (cr.size : Int) := by omega
                  have hl2 : (i : Int) < (te.size : Int) := by omega
                  have hik : i < m.k := by rw [HK.out]; exact hlt
                  have hik2 : (i : Int) < (m.k : Int) := by omega
                  obtain ⟨hx26, hxb⟩ := HX.out i hik
                  obtain ⟨hy26, hyb⟩ := HY.out i hik
                  have ea := hxb hlt
                  have eb := hyb (by omega)
                  have HKI := (show Hid (∀ c, c < 26 → w.cell? ⟨gk, i * 26 + c, none⟩ = some (.int .i64 (m.s i c : Nat))) from fun c hc => HKC.out i c hik hc)
                  have HSI := (show Hid (∀ c, c < 26 → m.s i c < 26) from fun c hc => HSL.out i hik c hc)
                  have HFW := (show Hid (∀ y, Bo.Der m a b (m.x i) y → Bo.Der m a b (m.y i) (m.s i y)) from fun y h => Bo.Der.fwd hik h)
                  have HBW := (show Hid (∀ y, Bo.Der m a b (m.y i) y → Bo.Der m a b (m.x i) (m.s i y)) from fun y h => Bo.Der.bwd hik h)
                  have HKN := (show Hid (∀ p : Nat → Int, Keys m p i → (∀ v : Nat, p (m.x i) = (v : Int) → p (m.y i) = (m.s i v : Nat)) → (∀ v : Nat, p (m.y i) = (v : Int) → p (m.x i) = (m.s i v : Nat)) → Keys m p (i + 1)) from fun p h1 h2 h3 n v hn => by
                    by_cases e : n = i
                    · subst e
                      exact ⟨h2 v, h3 v⟩
                    · exact h1 n v (by omega))
                  obtain ⟨x, hxe⟩ : ∃ x, x = m.x i := ⟨_, rfl⟩
                  obtain ⟨y, hye⟩ : ∃ y, y = m.y i := ⟨_, rfl⟩
                  rw [← hxe] at hx26 ea HFW HBW HKN
                  rw [← hye] at hy26 eb HFW HBW HKN
                  have hx2 : (x : Int) < 26 := by omega
                  have hy2 : (y : Int) < 26 := by omega
                  clear hxb hyb hxe hye
                  go_upto_region 21 with fail
                  go_quiet (fail)
                  have hclX := hcl.drewN nq
                  generalize wr.drewN nq = X at *
                  clear hcl ea eb hl1 hl2
                  rcases HSUB.out p hpi.sub x hx26 with hp | ⟨v, hv26, hp, hdv⟩
                  · have cp := hclX.pr.cell (ints_get p hx26)
                    rw [hp] at cp
                    have hA : ∃ p' good' again', ClS w X p' good' again' ∧ PI m a b c0 p' good' again' ∧ (again' = false → good' = true → Sym p' 26 ∧ Keys m p' i ∧ ∀ v : Nat, p' x = (v : Int) → p' y = (m.s i v : Nat)) := ⟨p, good, again, hclX, hpi, fun e f => ⟨(hchk e f).1, (hchk e f).2, fun v e2 => by rw [hp] at e2; omega⟩⟩
                    have HAA := (show Hid _ from hA)
                    clear hA hp hclX hpi hchk
                    go_upto_region 24 with fail
                    clear cp
                    obtain ⟨p, good, again, hclX, hpi, hchk⟩ := HAA.out
                    rcases HSUB.out p hpi.sub y hy26 with hp | ⟨v, hv26, hp, hdv⟩
                    · have cp := hclX.pr.cell (ints_get p hy26)
                      rw [hp] at cp
                      have HN : Hid (S2P m a b c0 (i + 1) w X) := ⟨p, good, again, hclX, hpi, fun e f => ⟨(hchk e f).1, HKN.out p (hchk e f).2.1 (hchk e f).2.2 (fun u eu => by rw [hp] at eu; omega)⟩⟩
                      clear hp hclX hpi hchk HAA
                      go_wp2
                      go_roundw
                      case rel => first | exact ⟨i + 1, HLT.out, by go_num, HN.out⟩ | exact ⟨_, _, _, _, _, _, _, _, _, _, _, _, _, _, _, ⟨i + 1, HLT.out, by go_num, HN.out⟩, rfl⟩ | exact ⟨_, _, _, _, _, _, _, _, _, _, _, _, _, _, _, _, _, _, _, _, _, _, _, _, _, _, _, _, _, _, _, _, _, _, _, _, _, _, _, _, _, _, _, _, _, _, _, ⟨i + 1, HLT.out, by go_num, HN.out⟩, rfl⟩ | exact ⟨_, _, _, _, _, _, _, _, _, _, _, _, _, _, _, _, _, _, _, _, _, _, _, _, _, _, _, _, _, _, _, _, _, _, _, _, _, _, _, _, _, _, _, _, _, _, ⟨i + 1, HLT.out, by go_num, HN.out⟩, rfl⟩ | exact ⟨_, _, _, _, _, _, _, _, _, _, _, _, _, _, _, _, _, _, _, _, _, _, _, _, _, _, _, _, _, _, _, _, _, _, _, _, _, _, _, _, _, _, _, _, _, _, _, _, ⟨i + 1, HLT.out, by go_num, HN.out⟩, rfl⟩
                      case measure => have := HLT.out; simp [intOf]; omega
                    · obtain ⟨z, hz⟩ : ∃ z, z = m.s i v := ⟨_, rfl⟩
                      have HCK : Hid (w.cell? ⟨gk, i * 26 + v, none⟩ = some (.int .i64 (z : Nat))) := by rw [hz]; exact HKI.out v hv26
                      have hz26 : z < 26 := by rw [hz]; exact HSI.out v hv26
                      have HMU := (show Hid (∀ W, ClS w W p good again → Calls Try.prog 92 #[.int .i64 (x : Nat), .int .i64 (z : Nat), .pointer (some ⟨w.heap.size + 1, 0, none⟩), .pointer (some ⟨w.heap.size + 2, 0, none⟩), .pointer (some ⟨w.heap.size + 2 + 1, 0, none⟩)] W fun e w' => e = .returned (.tuple #[]) ∧ ∃ p' good' again', ClS w w' p' good' again' ∧ p' y = (v : Nat) ∧ PI m a b c0 p' good' again' ∧ (again' = false → good' = true → Sym p' 26 ∧ Keys m p' (i + 1))) from fun W hW => (must_any m a b c0 p good again x z hx26 hz26 (by rw [hz]; exact HBW.out v hdv) hpi w W hW).mono (by
                        rintro e w' ⟨rfl, p2, g2, a2, h1, h2, h3⟩
                        refine ⟨rfl, p2, g2, a2, h1, h3.ext _ _ hp, h2, fun e f => ?_⟩
                        obtain ⟨k1, k2⟩ := h3.keep e
                        obtain ⟨k3, k4⟩ := h3.fits e f
                        rw [k1]
                        refine ⟨(hchk k2 k3).1, HKN.out p (hchk k2 k3).2.1 (hchk k2 k3).2.2 (fun u eu => ?_)⟩
                        have : u = v := by rw [hp] at eu; omega
                        rw [this, k4, hz]))
                      have cp := hclX.pr.cell (ints_get p hy26)
                      rw [hp] at cp
                      have v0 : (0 : Int) ≤ (v : Int) := by omega
                      have v2 : (v : Int) < 26 := by omega
                      have HP := (show Hid _ from hp)
                      have HCX := (show Hid _ from hclX)
                      clear hp hclX hpi hchk hdv hz HAA
                      go_upto_region 25 with fail
                      clear cp
                      have hSd : ClS w X.drew p good again := HCX.out.drew
                      refine wp_region_noPanic ?_
                      refine wp_region_held_drew (S := fun W => ∃ p' g' a', ClS w W p' g' a' ∧ p' y = (v : Nat)) (by kernel_rfl) ⟨_, _, _, hSd, HP.out⟩ (fun hS => ?_)
                      obtain ⟨U, hU⟩ : ∃ x, x = X.drew := ⟨_, rfl⟩
                      rw [← hU] at hS hSd ⊢
                      clear hU HCX
                      refine vtake 0 84 (.func (.func 92) #[] #[.pointer (some ⟨w.heap.size + 1, 0, none⟩), .pointer (some ⟨w.heap.size + 2, 0, none⟩), .pointer (some ⟨w.heap.size + 2 + 1, 0, none⟩)]) rfl rfl (by kernel_rfl) (by kernel_rfl) (by kernel_rfl) (fun _ _ _ _ h => h) (by rfl) (fun W hW => by clear hS hW; go_simp) hS ?_
                      simp only [List.setIfInBounds_toArray, List.set_cons_succ, List.set_cons_zero]
                      refine vtake 1 85 (.int .i64 (x : Nat)) rfl rfl (by kernel_rfl) (by kernel_rfl) (by kernel_rfl) (fun _ _ _ _ h => h) (by rfl) (fun W hW => by clear hS hW; go_simp) hS ?_
                      simp only [List.setIfInBounds_toArray, List.set_cons_succ, List.set_cons_zero]
                      refine vtake 2 86 (.slice (some ⟨gk, 0, none⟩) m.k ck) rfl rfl (by kernel_rfl) (by kernel_rfl) (by kernel_rfl) (fun _ _ _ _ h => h) (by rfl) (fun W hW => by clear hS hW; go_simp) hS ?_
                      simp only [List.setIfInBounds_toArray, List.set_cons_succ, List.set_cons_zero]
                      refine vtake 3 87 (.int .i64 (i : Nat)) rfl rfl (by kernel_rfl) (by kernel_rfl) (by kernel_rfl) (fun _ _ _ _ h => h) (by rfl) (fun W hW => by clear hS hW; go_simp) hS ?_
                      simp only [List.setIfInBounds_toArray, List.set_cons_succ, List.set_cons_zero]
                      refine vtake 4 88 (.int .i64 (y : Nat)) rfl rfl (by kernel_rfl) (by kernel_rfl) (by kernel_rfl) (fun _ _ _ _ h => h) (by rfl) (fun W hW => by clear hS hW; go_simp) hS ?_
                      simp only [List.setIfInBounds_toArray, List.set_cons_succ, List.set_cons_zero]
                      refine vtake 5 89 (.pointer (some ⟨w.heap.size + 1, y, none⟩)) rfl rfl (by kernel_rfl) (by kernel_rfl) (by kernel_rfl) (fun _ _ _ _ h => h) (by rfl) (fun W hW => by clear hS hW; go_simp) hS ?_
                      simp only [List.setIfInBounds_toArray, List.set_cons_succ, List.set_cons_zero]
                      refine vtake 6 90 (.int .i64 (v : Nat)) rfl rfl (by kernel_rfl) (by kernel_rfl) (by kernel_rfl) (fun _ _ _ _ h => h) (by rfl) (fun W hW => by obtain ⟨p', _, _, hW, hv'⟩ := hW; have u := hW.pr.cell (ints_get p' hy26); rw [hv'] at u; clear hS hW; go_simp) hS ?_
                      simp only [List.setIfInBounds_toArray, List.set_cons_succ, List.set_cons_zero]
                      refine vtake 7 91 (.pointer (some ⟨gk, i * 26, none⟩)) rfl rfl (by kernel_rfl) (by kernel_rfl) (by kernel_rfl) (fun _ _ _ _ h => h) (by rfl) (fun W hW => by clear hS hW; go_simp) hS ?_
                      simp only [List.setIfInBounds_toArray, List.set_cons_succ, List.set_cons_zero]
                      refine vtake 8 92 (.pointer (some ⟨gk, i * 26 + v, none⟩)) rfl rfl (by kernel_rfl) (by kernel_rfl) (by kernel_rfl) (fun _ _ _ _ h => h) (by rfl) (fun W hW => by clear hS hW; go_simp) hS ?_
                      simp only [List.setIfInBounds_toArray, List.set_cons_succ, List.set_cons_zero]
                      refine vtake 9 93 (.int .i64 (z : Nat)) rfl rfl (by kernel_rfl) (by kernel_rfl) (by kernel_rfl) (fun _ _ _ _ h => h) (by rfl) (fun W hW => by obtain ⟨_, _, _, hW, _⟩ := hW; have u := (hW.below.cell (p := ⟨gk, i * 26 + v, none⟩) (cell_block HCK.out)).trans HCK.out; clear hS hW; go_simp) hS ?_
                      simp only [List.setIfInBounds_toArray, List.set_cons_succ, List.set_cons_zero]
                      refine wpAnyH_ready (rs := [10]) (by kernel_rfl) (by simp) ?_
                      refine AllReadyH.cons (o := _) rfl (fun K hK => ?_) AllReadyH.nil
                      rw [if_pos (by rfl)]
                      go_simp
                      refine Calls.mono (HMU.out _ hSd) ?_
                      rintro e Z ⟨rfl, p', g', a', h1, h2, h3, h4⟩
                      refine hK.out _ _ ⟨p', g', a', h1, h2⟩ (fun _ => ?_)
                      clear hK K hS hSd
                      refine wpAnyH_done (by kernel_rfl) ?_ _
                      refine NoPanic.normal ?_
                      have HN : Hid (S2P m a b c0 (i + 1) w Z) := ⟨p', g', a', h1, h3, h4⟩
                      clear h1 h2 h3 h4
                      go_wp2_with fail
                      go_roundw
                      case rel => first | exact ⟨i + 1, HLT.out, by go_num, HN.out⟩ | exact ⟨_, _, _, _, _, _, _, _, _, _, _, _, _, _, _, ⟨i + 1, HLT.out, by go_num, HN.out⟩, rfl⟩ | exact ⟨_, _, _, _, _, _, _, _, _, _, _, _, _, _, _, _, _, _, _, _, _, _, _, _, _, _, _, _, _, _, _, _, _, _, _, _, _, _, _, _, _, _, _, _, _, _, _, ⟨i + 1, HLT.out, by go_num, HN.out⟩, rfl⟩ | exact ⟨_, _, _, _, _, _, _, _, _, _, _, _, _, _, _, _, _, _, _, _, _, _, _, _, _, _, _, _, _, _, _, _, _, _, _, _, _, _, _, _, _, _, _, _, _, _, ⟨i + 1, HLT.out, by go_num, HN.out⟩, rfl⟩ | exact ⟨_, _, _, _, _, _, _, _, _, _, _, _, _, _, _, _, _, _, _, _, _, _, _, _, _, _, _, _, _, _, _, _, _, _, _, _, _, _, _, _, _, _, _, _, _, _, _, _, ⟨i + 1, HLT.out, by go_num, HN.out⟩, rfl⟩
                      case measure => have := HLT.out; simp [intOf]; omega
                  · obtain ⟨z, hz⟩ : ∃ z, z = m.s i v := ⟨_, rfl⟩
                    have HCK : Hid (w.cell? ⟨gk, i * 26 + v, none⟩ = some (.int .i64 (z : Nat))) := by rw [hz]; exact HKI.out v hv26
                    have hz26 : z < 26 := by rw [hz]; exact HSI.out v hv26
                    have HMU := (show Hid (∀ W, ClS w W p good again → Calls Try.prog 92 #[.int .i64 (y : Nat), .int .i64 (z : Nat), .pointer (some ⟨w.heap.size + 1, 0, none⟩), .pointer (some ⟨w.heap.size + 2, 0, none⟩), .pointer (some ⟨w.heap.size + 2 + 1, 0, none⟩)] W fun e w' => e = .returned (.tuple #[]) ∧ ∃ p' good' again', ClS w w' p' good' again' ∧ p' x = (v : Nat) ∧ PI m a b c0 p' good' again' ∧ (again' = false → good' = true → Sym p' 26 ∧ Keys m p' i ∧ ∀ v : Nat, p' x = (v : Int) → p' y = (m.s i v : Nat))) from fun W hW => (must_any m a b c0 p good again y z hy26 hz26 (by rw [hz]; exact HFW.out v hdv) hpi w W hW).mono (by
                      rintro e w' ⟨rfl, p2, g2, a2, h1, h2, h3⟩
                      refine ⟨rfl, p2, g2, a2, h1, h3.ext _ _ hp, h2, fun e f => ?_⟩
                      obtain ⟨k1, k2⟩ := h3.keep e
                      obtain ⟨k3, k4⟩ := h3.fits e f
                      rw [k1]
                      refine ⟨(hchk k2 k3).1, (hchk k2 k3).2, fun u eu => ?_⟩
                      have : u = v := by rw [hp] at eu; omega
                      rw [this, k4, hz]))
                    have cp := hclX.pr.cell (ints_get p hx26)
                    rw [hp] at cp
                    have v0 : (0 : Int) ≤ (v : Int) := by omega
                    have v2 : (v : Int) < 26 := by omega
                    have HP := (show Hid _ from hp)
                    have HCX := (show Hid _ from hclX)
                    clear hp hclX hpi hchk hdv hz
                    go_upto_region 23 with fail
                    clear cp
                    have hSd : ClS w X.drew p good again := HCX.out.drew
                    refine wp_region_noPanic ?_
                    refine wp_region_held_drew (S := fun W => ∃ p' g' a', ClS w W p' g' a' ∧ p' x = (v : Nat)) (by kernel_rfl) ⟨_, _, _, hSd, HP.out⟩ (fun hS => ?_)
                    obtain ⟨U, hU⟩ : ∃ x, x = X.drew := ⟨_, rfl⟩
                    rw [← hU] at hS hSd ⊢
                    clear hU HCX
                    refine vtake 0 69 (.func (.func 92) #[] #[.pointer (some ⟨w.heap.size + 1, 0, none⟩), .pointer (some ⟨w.heap.size + 2, 0, none⟩), .pointer (some ⟨w.heap.size + 2 + 1, 0, none⟩)]) rfl rfl (by kernel_rfl) (by kernel_rfl) (by kernel_rfl) (fun _ _ _ _ h => h) (by rfl) (fun W hW => by clear hS hW; go_simp) hS ?_
                    simp only [List.setIfInBounds_toArray, List.set_cons_succ, List.set_cons_zero]
                    refine vtake 1 70 (.int .i64 (y : Nat)) rfl rfl (by kernel_rfl) (by kernel_rfl) (by kernel_rfl) (fun _ _ _ _ h => h) (by rfl) (fun W hW => by clear hS hW; go_simp) hS ?_
                    simp only [List.setIfInBounds_toArray, List.set_cons_succ, List.set_cons_zero]
                    refine vtake 2 71 (.slice (some ⟨gk, 0, none⟩) m.k ck) rfl rfl (by kernel_rfl) (by kernel_rfl) (by kernel_rfl) (fun _ _ _ _ h => h) (by rfl) (fun W hW => by clear hS hW; go_simp) hS ?_
                    simp only [List.setIfInBounds_toArray, List.set_cons_succ, List.set_cons_zero]
                    refine vtake 3 72 (.int .i64 (i : Nat)) rfl rfl (by kernel_rfl) (by kernel_rfl) (by kernel_rfl) (fun _ _ _ _ h => h) (by rfl) (fun W hW => by clear hS hW; go_simp) hS ?_
                    simp only [List.setIfInBounds_toArray, List.set_cons_succ, List.set_cons_zero]
                    refine vtake 4 73 (.int .i64 (x : Nat)) rfl rfl (by kernel_rfl) (by kernel_rfl) (by kernel_rfl) (fun _ _ _ _ h => h) (by rfl) (fun W hW => by clear hS hW; go_simp) hS ?_
                    simp only [List.setIfInBounds_toArray, List.set_cons_succ, List.set_cons_zero]
                    refine vtake 5 74 (.pointer (some ⟨w.heap.size + 1, x, none⟩)) rfl rfl (by kernel_rfl) (by kernel_rfl) (by kernel_rfl) (fun _ _ _ _ h => h) (by rfl) (fun W hW => by clear hS hW; go_simp) hS ?_
                    simp only [List.setIfInBounds_toArray, List.set_cons_succ, List.set_cons_zero]
                    refine vtake 6 75 (.int .i64 (v : Nat)) rfl rfl (by kernel_rfl) (by kernel_rfl) (by kernel_rfl) (fun _ _ _ _ h => h) (by rfl) (fun W hW => by obtain ⟨p', _, _, hW, hv'⟩ := hW; have u := hW.pr.cell (ints_get p' hx26); rw [hv'] at u; clear hS hW; go_simp) hS ?_
                    simp only [List.setIfInBounds_toArray, List.set_cons_succ, List.set_cons_zero]
                    refine vtake 7 76 (.pointer (some ⟨gk, i * 26, none⟩)) rfl rfl (by kernel_rfl) (by kernel_rfl) (by kernel_rfl) (fun _ _ _ _ h => h) (by rfl) (fun W hW => by clear hS hW; go_simp) hS ?_
                    simp only [List.setIfInBounds_toArray, List.set_cons_succ, List.set_cons_zero]
                    refine vtake 8 77 (.pointer (some ⟨gk, i * 26 + v, none⟩)) rfl rfl (by kernel_rfl) (by kernel_rfl) (by kernel_rfl) (fun _ _ _ _ h => h) (by rfl) (fun W hW => by clear hS hW; go_simp) hS ?_
                    simp only [List.setIfInBounds_toArray, List.set_cons_succ, List.set_cons_zero]
                    refine vtake 9 78 (.int .i64 (z : Nat)) rfl rfl (by kernel_rfl) (by kernel_rfl) (by kernel_rfl) (fun _ _ _ _ h => h) (by rfl) (fun W hW => by obtain ⟨_, _, _, hW, _⟩ := hW; have u := (hW.below.cell (p := ⟨gk, i * 26 + v, none⟩) (cell_block HCK.out)).trans HCK.out; clear hS hW; go_simp) hS ?_
                    simp only [List.setIfInBounds_toArray, List.set_cons_succ, List.set_cons_zero]
                    refine wpAnyH_ready (rs := [10]) (by kernel_rfl) (by simp) ?_
                    refine AllReadyH.cons (o := _) rfl (fun K hK => ?_) AllReadyH.nil
                    rw [if_pos (by rfl)]
                    go_simp
                    refine Calls.mono (HMU.out _ hSd) ?_
                    rintro e Y ⟨rfl, p', g', a', h1, h2, h3, h4⟩
                    refine hK.out _ _ ⟨p', g', a', h1, h2⟩ (fun _ => ?_)
                    clear hK K hS hSd
                    refine wpAnyH_done (by kernel_rfl) ?_ _
                    refine NoPanic.normal ?_
                    have HAA : Hid (∃ p' good' again', ClS w Y p' good' again' ∧ PI m a b c0 p' good' again' ∧ (again' = false → good' = true → Sym p' 26 ∧ Keys m p' i ∧ ∀ v : Nat, p' x = (v : Int) → p' y = (m.s i v : Nat))) := ⟨p', g', a', h1, h3, h4⟩
                    clear h1 h2 h3 h4 HMU HCK HP v0 v2 hz26 hv26
                    go_upto_region 24 with fail
                    obtain ⟨p, good, again, hclX, hpi, hchk⟩ := HAA.out
                    rcases HSUB.out p hpi.sub y hy26 with hp | ⟨v, hv26, hp, hdv⟩
                    · have cp := hclX.pr.cell (ints_get p hy26)
                      rw [hp] at cp
                      have HN : Hid (S2P m a b c0 (i + 1) w Y) := ⟨p, good, again, hclX, hpi, fun e f => ⟨(hchk e f).1, HKN.out p (hchk e f).2.1 (hchk e f).2.2 (fun u eu => by rw [hp] at eu; omega)⟩⟩
                      clear hp hclX hpi hchk HAA
                      go_wp2
                      go_roundw
                      case rel => first | exact ⟨i + 1, HLT.out, by go_num, HN.out⟩ | exact ⟨_, _, _, _, _, _, _, _, _, _, _, _, _, _, _, ⟨i + 1, HLT.out, by go_num, HN.out⟩, rfl⟩ | exact ⟨_, _, _, _, _, _, _, _, _, _, _, _, _, _, _, _, _, _, _, _, _, _, _, _, _, _, _, _, _, _, _, _, _, _, _, _, _, _, _, _, _, _, _, _, _, _, _, ⟨i + 1, HLT.out, by go_num, HN.out⟩, rfl⟩ | exact ⟨_, _, _, _, _, _, _, _, _, _, _, _, _, _, _, _, _, _, _, _, _, _, _, _, _, _, _, _, _, _, _, _, _, _, _, _, _, _, _, _, _, _, _, _, _, _, ⟨i + 1, HLT.out, by go_num, HN.out⟩, rfl⟩ | exact ⟨_, _, _, _, _, _, _, _, _, _, _, _, _, _, _, _, _, _, _, _, _, _, _, _, _, _, _, _, _, _, _, _, _, _, _, _, _, _, _, _, _, _, _, _, _, _, _, _, ⟨i + 1, HLT.out, by go_num, HN.out⟩, rfl⟩
                      case measure => have := HLT.out; simp [intOf]; omega
                    · obtain ⟨z, hz⟩ : ∃ z, z = m.s i v := ⟨_, rfl⟩
                      have HCK : Hid (w.cell? ⟨gk, i * 26 + v, none⟩ = some (.int .i64 (z : Nat))) := by rw [hz]; exact HKI.out v hv26
                      have hz26 : z < 26 := by rw [hz]; exact HSI.out v hv26
                      have HMU := (show Hid (∀ W, ClS w W p good again → Calls Try.prog 92 #[.int .i64 (x : Nat), .int .i64 (z : Nat), .pointer (some ⟨w.heap.size + 1, 0, none⟩), .pointer (some ⟨w.heap.size + 2, 0, none⟩), .pointer (some ⟨w.heap.size + 2 + 1, 0, none⟩)] W fun e w' => e = .returned (.tuple #[]) ∧ ∃ p' good' again', ClS w w' p' good' again' ∧ p' y = (v : Nat) ∧ PI m a b c0 p' good' again' ∧ (again' = false → good' = true → Sym p' 26 ∧ Keys m p' (i + 1))) from fun W hW => (must_any m a b c0 p good again x z hx26 hz26 (by rw [hz]; exact HBW.out v hdv) hpi w W hW).mono (by
                        rintro e w' ⟨rfl, p2, g2, a2, h1, h2, h3⟩
                        refine ⟨rfl, p2, g2, a2, h1, h3.ext _ _ hp, h2, fun e f => ?_⟩
                        obtain ⟨k1, k2⟩ := h3.keep e
                        obtain ⟨k3, k4⟩ := h3.fits e f
                        rw [k1]
                        refine ⟨(hchk k2 k3).1, HKN.out p (hchk k2 k3).2.1 (hchk k2 k3).2.2 (fun u eu => ?_)⟩
                        have : u = v := by rw [hp] at eu; omega
                        rw [this, k4, hz]))
                      have cp := hclX.pr.cell (ints_get p hy26)
                      rw [hp] at cp
                      have v0 : (0 : Int) ≤ (v : Int) := by omega
                      have v2 : (v : Int) < 26 := by omega
                      have HP := (show Hid _ from hp)
                      have HCX := (show Hid _ from hclX)
                      clear hp hclX hpi hchk hdv hz HAA
                      go_upto_region 25 with fail
                      clear cp
                      have hSd : ClS w Y.drew p good again := HCX.out.drew
                      refine wp_region_noPanic ?_
                      refine wp_region_held_drew (S := fun W => ∃ p' g' a', ClS w W p' g' a' ∧ p' y = (v : Nat)) (by kernel_rfl) ⟨_, _, _, hSd, HP.out⟩ (fun hS => ?_)
                      obtain ⟨U, hU⟩ : ∃ x, x = Y.drew := ⟨_, rfl⟩
                      rw [← hU] at hS hSd ⊢
                      clear hU HCX
                      refine vtake 0 84 (.func (.func 92) #[] #[.pointer (some ⟨w.heap.size + 1, 0, none⟩), .pointer (some ⟨w.heap.size + 2, 0, none⟩), .pointer (some ⟨w.heap.size + 2 + 1, 0, none⟩)]) rfl rfl (by kernel_rfl) (by kernel_rfl) (by kernel_rfl) (fun _ _ _ _ h => h) (by rfl) (fun W hW => by clear hS hW; go_simp) hS ?_
                      simp only [List.setIfInBounds_toArray, List.set_cons_succ, List.set_cons_zero]
                      refine vtake 1 85 (.int .i64 (x : Nat)) rfl rfl (by kernel_rfl) (by kernel_rfl) (by kernel_rfl) (fun _ _ _ _ h => h) (by rfl) (fun W hW => by clear hS hW; go_simp) hS ?_
                      simp only [List.setIfInBounds_toArray, List.set_cons_succ, List.set_cons_zero]
                      refine vtake 2 86 (.slice (some ⟨gk, 0, none⟩) m.k ck) rfl rfl (by kernel_rfl) (by kernel_rfl) (by kernel_rfl) (fun _ _ _ _ h => h) (by rfl) (fun W hW => by clear hS hW; go_simp) hS ?_
                      simp only [List.setIfInBounds_toArray, List.set_cons_succ, List.set_cons_zero]
                      refine vtake 3 87 (.int .i64 (i : Nat)) rfl rfl (by kernel_rfl) (by kernel_rfl) (by kernel_rfl) (fun _ _ _ _ h => h) (by rfl) (fun W hW => by clear hS hW; go_simp) hS ?_
                      simp only [List.setIfInBounds_toArray, List.set_cons_succ, List.set_cons_zero]
                      refine vtake 4 88 (.int .i64 (y : Nat)) rfl rfl (by kernel_rfl) (by kernel_rfl) (by kernel_rfl) (fun _ _ _ _ h => h) (by rfl) (fun W hW => by clear hS hW; go_simp) hS ?_
                      simp only [List.setIfInBounds_toArray, List.set_cons_succ, List.set_cons_zero]
                      refine vtake 5 89 (.pointer (some ⟨w.heap.size + 1, y, none⟩)) rfl rfl (by kernel_rfl) (by kernel_rfl) (by kernel_rfl) (fun _ _ _ _ h => h) (by rfl) (fun W hW => by clear hS hW; go_simp) hS ?_
                      simp only [List.setIfInBounds_toArray, List.set_cons_succ, List.set_cons_zero]
                      refine vtake 6 90 (.int .i64 (v : Nat)) rfl rfl (by kernel_rfl) (by kernel_rfl) (by kernel_rfl) (fun _ _ _ _ h => h) (by rfl) (fun W hW => by obtain ⟨p', _, _, hW, hv'⟩ := hW; have u := hW.pr.cell (ints_get p' hy26); rw [hv'] at u; clear hS hW; go_simp) hS ?_
                      simp only [List.setIfInBounds_toArray, List.set_cons_succ, List.set_cons_zero]
                      refine vtake 7 91 (.pointer (some ⟨gk, i * 26, none⟩)) rfl rfl (by kernel_rfl) (by kernel_rfl) (by kernel_rfl) (fun _ _ _ _ h => h) (by rfl) (fun W hW => by clear hS hW; go_simp) hS ?_
                      simp only [List.setIfInBounds_toArray, List.set_cons_succ, List.set_cons_zero]
                      refine vtake 8 92 (.pointer (some ⟨gk, i * 26 + v, none⟩)) rfl rfl (by kernel_rfl) (by kernel_rfl) (by kernel_rfl) (fun _ _ _ _ h => h) (by rfl) (fun W hW => by clear hS hW; go_simp) hS ?_
                      simp only [List.setIfInBounds_toArray, List.set_cons_succ, List.set_cons_zero]
                      refine vtake 9 93 (.int .i64 (z : Nat)) rfl rfl (by kernel_rfl) (by kernel_rfl) (by kernel_rfl) (fun _ _ _ _ h => h) (by rfl) (fun W hW => by obtain ⟨_, _, _, hW, _⟩ := hW; have u := (hW.below.cell (p := ⟨gk, i * 26 + v, none⟩) (cell_block HCK.out)).trans HCK.out; clear hS hW; go_simp) hS ?_
                      simp only [List.setIfInBounds_toArray, List.set_cons_succ, List.set_cons_zero]
                      refine wpAnyH_ready (rs := [10]) (by kernel_rfl) (by simp) ?_
                      refine AllReadyH.cons (o := _) rfl (fun K hK => ?_) AllReadyH.nil
                      rw [if_pos (by rfl)]
                      go_simp
                      refine Calls.mono (HMU.out _ hSd) ?_
                      rintro e Z ⟨rfl, p', g', a', h1, h2, h3, h4⟩
                      refine hK.out _ _ ⟨p', g', a', h1, h2⟩ (fun _ => ?_)
                      clear hK K hS hSd
                      refine wpAnyH_done (by kernel_rfl) ?_ _
                      refine NoPanic.normal ?_
                      have HN : Hid (S2P m a b c0 (i + 1) w Z) := ⟨p', g', a', h1, h3, h4⟩
                      clear h1 h2 h3 h4
                      go_wp2_with fail
                      go_roundw
                      case rel => first | exact ⟨i + 1, HLT.out, by go_num, HN.out⟩ | exact ⟨_, _, _, _, _, _, _, _, _, _, _, _, _, _, _, ⟨i + 1, HLT.out, by go_num, HN.out⟩, rfl⟩ | exact ⟨_, _, _, _, _, _, _, _, _, _, _, _, _, _, _, _, _, _, _, _, _, _, _, _, _, _, _, _, _, _, _, _, _, _, _, _, _, _, _, _, _, _, _, _, _, _, _, ⟨i + 1, HLT.out, by go_num, HN.out⟩, rfl⟩ | exact ⟨_, _, _, _, _, _, _, _, _, _, _, _, _, _, _, _, _, _, _, _, _, _, _, _, _, _, _, _, _, _, _, _, _, _, _, _, _, _, _, _, _, _, _, _, _, _, ⟨i + 1, HLT.out, by go_num, HN.out⟩, rfl⟩ | exact ⟨_, _, _, _, _, _, _, _, _, _, _, _, _, _, _, _, _, _, _, _, _, _, _, _, _, _, _, _, _, _, _, _, _, _, _, _, _, _, _, _, _, _, _, _, _, _, _, _, ⟨i + 1, HLT.out, by go_num, HN.out⟩, rfl⟩
                      case measure => have := HLT.out; simp [intOf]; omega
end Go.Proofs.Ytbbpbcmpemmgjaa
