/-
  Several texts, joined: BRMo, BRMu.
-/
import Derived.Test.YtbbpbcmpemmgjaaJn28
import Derived.Test.YtbbpbcmpemmgjaaJn29
import Derived.Test.YtbbpbcmpemmgjaaJn22
import Derived.Test.YtbbpbcmpemmgjaaBoFo
import Derived.Test.YtbbpbcmpemmgjaaJn23
/-
  Contract of the document's Most (chapter 10).
-/
namespace Go.Proofs.Ytbbpbcmpemmgjaa
open Go.RowKit PK Vg

/-- How often a letter stands at the first n places. -/
def cl (l : List UInt8) (c : Nat) : Nat → Nat
  | 0 => 0
  | n + 1 => cl l c n + if num (l.getD n 0) = c then 1 else 0
theorem cl_le (l : List UInt8) (c : Nat) : ∀ n, cl l c n ≤ n
  | 0 => Nat.le_refl _
  | n + 1 => by
    have := cl_le l c n
    unfold cl
    by_cases e : num (l.getD n 0) = c <;> simp only [e, if_true, if_false] <;> omega
theorem cl_left (a b : List UInt8) (c : Nat) : ∀ n, n ≤ a.length → cl (a ++ b) c n = cl a c n
  | 0, _ => rfl
  | n + 1, h => by
    unfold cl
    rw [cl_left a b c n (by omega), List.getD_eq_getElem?_getD, List.getElem?_append_left (by omega), ← List.getD_eq_getElem?_getD]
theorem cl_right (a b : List UInt8) (c : Nat) : ∀ n, cl (a ++ b) c (a.length + n) = cl a c a.length + cl b c n
  | 0 => by rw [Nat.add_zero, cl_left a b c _ (Nat.le_refl _)]; rfl
  | n + 1 => by
    show cl (a ++ b) c (a.length + n) + (if num ((a ++ b).getD (a.length + n) 0) = c then 1 else 0) = cl a c a.length + (cl b c n + if num (b.getD n 0) = c then 1 else 0)
    rw [cl_right a b c n, List.getD_eq_getElem?_getD, List.getElem?_append_right (by omega), show a.length + n - a.length = n by omega, ← List.getD_eq_getElem?_getD]
    omega
theorem ml_cl (cr te : List UInt8) (K : Nat) (S : Nat → Nat → Nat) (c : Nat) : ∀ n, (Bo.ml ⟨K, fun i => num (cr.getD i 0), fun i => num (te.getD i 0), S⟩ c n).length = cl cr c n + cl te c n
  | 0 => rfl
  | n + 1 => by
    have ih := ml_cl cr te K S c n
    unfold Bo.ml cl
    rw [List.length_append, List.length_append, ih]
    by_cases e1 : num (cr.getD n 0) = c <;> by_cases e2 : num (te.getD n 0) = c <;> simp only [e1, e2, if_true, if_false, List.length_cons, List.length_nil] <;> omega
set_option maxRecDepth 100000 in
set_option maxHeartbeats 4000000 in
theorem rmost_any (cr te : ByteArray) (h1 : Ls cr.data.toList) (h2 : Ls te.data.toList) (hs1 : cr.size ≤ 32) (hs2 : te.size ≤ 32) (w : World) : Calls Try.prog 72 #[.string cr, .string te] w fun e w' => e = .returned (.int .i64 (Bo.most (fun c => cl cr.data.toList c cr.size + cl te.data.toList c te.size) 26 : Nat)) ∧ Below w.heap.size w w' := by
  obtain ⟨T, hT⟩ : ∃ T, T = cr ++ te := ⟨_, rfl⟩
  have hTl : T.data.toList = cr.data.toList ++ te.data.toList := by rw [hT]; simp
  have z1 := Pl.size_len cr
  have z2 := Pl.size_len te
  have z3 := Pl.size_len T
  have hTs : T.size = cr.size + te.size := by rw [z3, hTl, List.length_append, z1, z2]
  have hLT : Ls T.data.toList := by
    rw [hTl]
    intro c hc
    rcases List.mem_append.1 hc with h | h
    · exact h1 c h
    · exact h2 c h
  have HCL : Hid (∀ c, cl T.data.toList c T.size = cl cr.data.toList c cr.size + cl te.data.toList c te.size) := fun c => by
    rw [hTl, hTs]
    have := cl_right cr.data.toList te.data.toList c te.size
    rw [← z1] at this
    exact this
  have HLT := (show Hid (∀ j (hj : j < T.size), num (T.data.toList.getD j 0) < 26 ∧ (T[j].toNat : Int) = (num (T.data.toList.getD j 0) : Int) + 65) from fun j hj => by
    have hx := hLT.at (getD_size hj)
    refine ⟨num_lt hx, ?_⟩
    rw [← getD_byte T j hj]
    unfold num
    omega)
  obtain ⟨f, hf⟩ : ∃ f, f = fun c => cl cr.data.toList c cr.size + cl te.data.toList c te.size := ⟨_, rfl⟩
  have HF : Hid (∀ c, f c = cl T.data.toList c T.size) := by rw [hf]; exact fun c => (HCL.out c).symm
  rw [← hf]
  have hTs2 : T.size ≤ 64 := by omega
  have HSUC := (show Hid (∀ k, Bo.most f (k + 1) = if f (Bo.most f k) < f k then k else Bo.most f k) from fun k => rfl)
  have HM0 : Hid (Bo.most f 0 = 0) := rfl
  clear hf hTl z1 z2 z3 hLT HCL h1 h2
  go_enter Try.func72, Try.ntmps72
  go_wp2_with fail
  go_loopw [5, 6, 7] (fun b m x W => ∃ k n : Nat, k ≤ 26 ∧ x = .int .i64 (k : Nat) ∧ b = .int .i64 (Bo.most f k : Nat) ∧ m = .int .i64 (n : Nat) ∧ ((k = 0 ∧ n = 0) ∨ (0 < k ∧ n = f (Bo.most f k))) ∧ Below w.heap.size w W) (fun _ _ x _ => ((26 : Int) - intOf x).toNat)
  case atStart => exact ⟨0, 0, by omega, rfl, rfl, rfl, .inl ⟨rfl, rfl⟩, Below.refl _ _⟩
  case round =>
    obtain ⟨k, n, hk, rfl, rfl, rfl, hn, hbe⟩ := hrel
    by_cases hlt : k < 26
    case neg =>
      obtain rfl : k = 26 := by omega
      have HBE := (show Hid _ from hbe)
      clear hlt hbe hn
      go_wp2
      go_ret
      exact ⟨rfl, HBE.out⟩
    have HLK : Hid (k < 26) := hlt
    have hlt2 : (k : Int) < 26 := by omega
    have hcv := fun w => Lib.run_convert_string_bytes (P := Try.prog) w 9 88 5 T Try.underlying9 Try.underlying88 Try.underlying5
    have HS := (show Hid _ from HSUC.out k)
    have HN := (show Hid _ from hn)
    have HFK : Hid (f k = cl T.data.toList k T.size) := HF.out k
    obtain ⟨o, ho⟩ : ∃ o, o = Bo.most f k := ⟨_, rfl⟩
    have HO := (show Hid _ from ho)
    rw [← ho]
    clear hlt hn ho
    rw [hT] at hcv
    go_wp2_with fail
    rw [← hT]
    have hbB : Below wr.heap.size wr (Lib.bytesWorld wr 5 T) := below_bytes wr (Nat.le_refl _) 5 T
    have HC : Hid (∀ j (hj : j < T.size), (Lib.bytesWorld wr 5 T).cell? ⟨wr.heap.size, j, none⟩ = some (.int .u8 T[j].toNat)) := fun j hj => bytes_cell wr 5 T j hj
    have hbeB := hbe.trans (hbB.mono hbe.size)
    have hszB := Lib.bytesWorld_size wr 5 T
    generalize Lib.bytesWorld wr 5 T = V2 at *
    obtain ⟨q18, hq⟩ : ∃ x, x = wr.heap.size := ⟨_, rfl⟩
    rw [← hq] at HC ⊢
    clear hcv hbB hbe hq hszB
    go_loopw [8, 20] (fun a x W => ∃ j : Nat, j ≤ T.size ∧ x = .int .i64 (j : Nat) ∧ a = .int .i64 (cl T.data.toList k j : Nat) ∧ Below V2.heap.size V2 W) (fun _ x _ => ((T.size : Int) - intOf x).toNat)
    case atStart => exact ⟨0, by omega, rfl, rfl, Below.refl _ _⟩
    case round =>
      obtain ⟨j, hj, rfl, rfl, hb2⟩ := hrel
      have HB2 := (show Hid _ from hb2)
      by_cases hlt : j < T.size
      · have HLJ : Hid (j < T.size) := hlt
        have hltj : (j : Int) < (T.size : Int) := by omega
        have hltj2 : (j : Int) < (cr.size : Int) + (te.size : Int) := by omega
        have hcj := HC.out j hlt
        have hcw := (hb2.cell (p := ⟨q18, j, none⟩) (cell_block hcj)).trans hcj
        obtain ⟨hx26, hxe⟩ := HLT.out j hlt
        have HSC := (show Hid (cl T.data.toList k (j + 1) = cl T.data.toList k j + if num (T.data.toList.getD j 0) = k then 1 else 0) from rfl)
        have hle := cl_le T.data.toList k j
        obtain ⟨x, hx⟩ : ∃ x, x = num (T.data.toList.getD j 0) := ⟨_, rfl⟩
        rw [← hx] at hx26 hxe HSC
        rw [hxe] at hcw
        have hx2 : (x : Int) < 26 := by omega
        clear hx hxe hb2 hlt hcj
        generalize cl T.data.toList k j = q at *
        by_cases e : x = k
        · have hxb : (((x : Nat) : Int) == ((k : Nat) : Int)) = true := by rw [e]; simp
          have HQ : Hid (cl T.data.toList k (j + 1) = q + 1) := by rw [Hid, HSC.out, if_pos e]
          clear e HSC
          go_wp2
          go_roundw
          case rel => exact ⟨j + 1, HLJ.out, by go_num, by rw [HQ.out]; go_num, HB2.out⟩
          case measure => have := HLJ.out; simp [intOf]; omega
        · have hxb : (((x : Nat) : Int) == ((k : Nat) : Int)) = false := by simp; omega
          have HQ : Hid (cl T.data.toList k (j + 1) = q) := by rw [Hid, HSC.out, if_neg e, Nat.add_zero]
          clear e HSC
          go_wp2
          go_roundw
          case rel => exact ⟨j + 1, HLJ.out, by go_num, by rw [HQ.out], HB2.out⟩
          case measure => have := HLJ.out; simp [intOf]; omega
      · obtain rfl : j = T.size := by omega
        have hnn : ¬ ((T.size : Nat) : Int) < ((T.size : Nat) : Int) := by omega
        have hnn2 : ¬ ((T.size : Nat) : Int) < (cr.size : Int) + (te.size : Int) := by omega
        have HBE := (show Hid (Below w.heap.size w wr) from hbeB.trans (hb2.mono hbeB.size))
        rw [← HFK.out]
        clear hlt hb2 HB2 hbeB
        obtain ⟨z, hz⟩ : ∃ z, z = f k := ⟨_, rfl⟩
        have HZ := (show Hid _ from hz)
        rw [← hz]
        clear hz
        by_cases hnz : n < z
        · have hnz2 : (n : Int) < (z : Int) := by omega
          have HFIN : Hid (Bo.most f (k + 1) = k) := by
            rcases HN.out with ⟨e1, e2⟩ | ⟨e1, e2⟩
            · rw [Hid, HS.out, e1, HM0.out]
              by_cases e3 : f 0 < f 0
              · omega
              · rw [if_neg e3]
            · rw [Hid, HS.out, if_pos (by rw [← e2, ← HZ.out]; exact hnz)]
          clear hnz
          go_wp2
          go_roundw
          case rel => exact ⟨k + 1, z, HLK.out, by go_num, by rw [HFIN.out], rfl, .inr ⟨by omega, by rw [HFIN.out]; exact HZ.out⟩, HBE.out⟩
          case measure => have := HLK.out; simp [intOf]; omega
        · have hnz2 : ¬ (n : Int) < (z : Int) := by omega
          have HFIN : Hid (Bo.most f (k + 1) = o ∧ n = f o) := by
            rcases HN.out with ⟨e1, e2⟩ | ⟨e1, e2⟩
            · have e4 : o = 0 := by rw [HO.out, e1]; exact HM0.out
              have e5 : f k = 0 := by rw [← HZ.out]; omega
              rw [e1] at e5
              refine ⟨?_, by rw [e4, e5]; exact e2⟩
              rw [HS.out, e1, HM0.out, e4]
              by_cases e3 : f 0 < f 0
              · omega
              · rw [if_neg e3]
            · refine ⟨?_, by rw [HO.out]; exact e2⟩
              rw [HS.out, if_neg (by rw [← e2, ← HZ.out]; exact hnz), HO.out]
          clear hnz
          go_wp2
          go_roundw
          case rel => exact ⟨k + 1, n, HLK.out, by go_num, by rw [HFIN.out.1], rfl, .inr ⟨by omega, by rw [HFIN.out.1]; exact HFIN.out.2⟩, HBE.out⟩
          case measure => have := HLK.out; simp [intOf]; omega
end Go.Proofs.Ytbbpbcmpemmgjaa

/-
  Contract of the closure of the document's Closed (chapter 10).
-/
namespace Go.Proofs.Ytbbpbcmpemmgjaa
open Go.RowKit PK Vg

/-- What Closed holds: its result, the table, and two flags. -/
structure ClS (w W : World) (p : Nat → Int) (good again : Bool) : Prop where
  res : RowAt W w.heap.size 25 (ints 26 fun _ => 0)
  pr : RowAt W (w.heap.size + 1) 25 (ints 26 p)
  gr : RowAt W (w.heap.size + 2) 4 #[.bool good]
  ar : RowAt W (w.heap.size + 2 + 1) 4 #[.bool again]
  below : Below w.heap.size w W
section
variable {w W W' : World} {p : Nat → Int} {good again : Bool}
theorem ClS.step (h : ClS w W p good again) (hb : Below W.heap.size W W') : ClS w W' p good again := ⟨h.res.below hb h.res.lt, h.pr.below hb h.pr.lt, h.gr.below hb h.gr.lt, h.ar.below hb h.ar.lt, h.below.trans (hb.mono h.below.size)⟩
theorem ClS.drew (h : ClS w W p good again) : ClS w W.drew p good again := ⟨h.res, h.pr, h.gr, h.ar, h.below.drew⟩
theorem ClS.drewN (h : ClS w W p good again) (n : Nat) : ClS w (W.drewN n) p good again := ⟨h.res, h.pr, h.gr, h.ar, h.below.trans ⟨rfl, rfl, rfl, Nat.le_refl _, fun _ _ => rfl⟩⟩
theorem ClS.set (h : ClS w W p good again) (x : Nat) (v : Int) : ClS w (W.setCell ⟨w.heap.size + 1, x, none⟩ (.int .i64 v)) (upd p x v) good again := by
  refine ⟨h.res.setOther _ _ (by simp), ?_, h.gr.setOther _ _ (by simp), h.ar.setOther _ _ (by simp), h.below.setCell (p := ⟨w.heap.size + 1, x, none⟩) (by simp) _⟩
  have := h.pr.set x (.int .i64 v)
  rw [ints_set] at this
  exact this
theorem ClS.setG (h : ClS w W p good again) (v : Bool) : ClS w (W.setCell ⟨w.heap.size + 2, 0, none⟩ (.bool v)) p v again := ⟨h.res.setOther _ _ (by simp), h.pr.setOther _ _ (by simp), h.gr.set 0 (.bool v), h.ar.setOther _ _ (by simp), h.below.setCell (p := ⟨w.heap.size + 2, 0, none⟩) (by simp) _⟩
theorem ClS.setA (h : ClS w W p good again) (v : Bool) : ClS w (W.setCell ⟨w.heap.size + 2 + 1, 0, none⟩ (.bool v)) p good v := ⟨h.res.setOther _ _ (by simp; omega), h.pr.setOther _ _ (by simp), h.gr.setOther _ _ (by simp), h.ar.set 0 (.bool v), h.below.setCell (p := ⟨w.heap.size + 2 + 1, 0, none⟩) (by simp; omega) _⟩
end
/-- What is so of the table during a pass. -/
structure PI (m : Bo.Mn) (a b c0 : Nat) (p : Nat → Int) (good again : Bool) : Prop where
  sub : Bo.Sub m a b p
  base : p a = (b : Nat)
  conf : good = false → Bo.Conf m a b
  le : c0 ≤ Bo.cs p
  grow : again = true → c0 < Bo.cs p
/-- What one step does. -/
structure MR (p : Nat → Int) (good again : Bool) (x y : Nat) (p' : Nat → Int) (good' again' : Bool) : Prop where
  ext : Bo.Ext p p'
  keep : again' = false → p' = p ∧ again = false
  fits : again' = false → good' = true → good = true ∧ p x = (y : Nat)
theorem must_put {m : Bo.Mn} {a b c0 : Nat} {p : Nat → Int} {good again : Bool} (h : PI m a b c0 p good again) {x y : Nat} (hx : x < 26) (hy : y < 26) (hd : Bo.Der m a b x y) (hp : p x = -1) (hc : Bo.Der m a b x y → p a = (b : Nat)) : PI m a b c0 (upd p x (y : Nat)) good true ∧ MR p good again x y (upd p x (y : Nat)) good true := by
  have hcs := Bo.cs_put (y := y) hx hp
  have hex := Bo.Ext.put (p := p) (x := x) ((y : Nat) : Int) hp
  refine ⟨⟨h.sub.put hy hd, hex _ _ (hc hd), h.conf, by have := h.le; omega, fun _ => by have := h.le; omega⟩, hex, (fun e => by cases e), (fun e => by cases e)⟩
/-- What stands behind the step. -/
def MuP (m : Bo.Mn) (a b c0 : Nat) (p : Nat → Int) (good again : Bool) (x y : Nat) (w w' : World) : Prop := ∃ p' good' again', ClS w w' p' good' again' ∧ PI m a b c0 p' good' again' ∧ MR p good again x y p' good' again'
set_option maxRecDepth 100000 in
set_option maxHeartbeats 2000000 in
theorem must_any (m : Bo.Mn) (a b c0 : Nat) (p : Nat → Int) (good again : Bool) (x y : Nat) (hx : x < 26) (hy : y < 26) (hd : Bo.Der m a b x y) (hpi : PI m a b c0 p good again) (w W : World) (h : ClS w W p good again) : Calls Try.prog 92 #[.int .i64 (x : Nat), .int .i64 (y : Nat), .pointer (some ⟨w.heap.size + 1, 0, none⟩), .pointer (some ⟨w.heap.size + 2, 0, none⟩), .pointer (some ⟨w.heap.size + 2 + 1, 0, none⟩)] W fun e w' => e = .returned (.tuple #[]) ∧ MuP m a b c0 p good again x y w w' := by
  have hx2 : (x : Int) < 26 := by omega
  have hc := h.pr.cell (ints_get p hx)
  have hf := h.pr.frozen x
  by_cases hp : p x = -1
  · have HFIN := (show Hid _ from must_put hpi hx hy hd hp (fun _ => hpi.base))
    have HST := (show Hid _ from (h.set x (y : Nat)).setA true)
    rw [hp] at hc
    have ga := (h.set x ((y : Nat) : Int)).ar.cell (i := 0) rfl
    have fa := (h.set x ((y : Nat) : Int)).ar.frozen 0
    clear hp hpi hd h
    go_enter Try.func92, Try.ntmps92
    go_wp2
    exact bodyPost_end (results_none rfl _ _ _) rfl ⟨rfl, _, _, _, HST.out, HFIN.out.1, HFIN.out.2⟩
  · obtain ⟨v, hv, hpv, hdv⟩ : ∃ v : Nat, v < 26 ∧ p x = (v : Int) ∧ Bo.Der m a b x v := by
      rcases hpi.sub x hx with e | e
      · exact absurd e hp
      · exact e
    rw [hpv] at hc
    have v0 : (0 : Int) ≤ (v : Int) := by omega
    have v1 : ¬ (v : Int) < 0 := by omega
    by_cases e : v = y
    · have HFIN : Hid (PI m a b c0 p good again ∧ MR p good again x y p good again) := ⟨hpi, Bo.Ext.refl _, fun h => ⟨rfl, h⟩, fun _ h2 => ⟨h2, by rw [hpv, e]⟩⟩
      have HST := (show Hid _ from h)
      have hb : (((v : Nat) : Int) != ((y : Nat) : Int)) = false := by rw [e]; simp
      clear hp hpi hd h e hpv hdv
      go_enter Try.func92, Try.ntmps92
      go_wp2
      exact bodyPost_end (results_none rfl _ _ _) rfl ⟨rfl, _, _, _, HST.out, HFIN.out.1, HFIN.out.2⟩
    · have HFIN : Hid (PI m a b c0 p false again ∧ MR p good again x y p false again) := ⟨⟨hpi.sub, hpi.base, fun _ => ⟨x, v, y, hdv, hd, e⟩, hpi.le, hpi.grow⟩, Bo.Ext.refl _, fun h => ⟨rfl, h⟩, fun _ h2 => by cases h2⟩
      have HST := (show Hid _ from h.setG false)
      have hb : (((v : Nat) : Int) != ((y : Nat) : Int)) = true := by simp; omega
      have gg := h.gr.cell (i := 0) rfl
      have fg := h.gr.frozen 0
      have hcG := (h.setG false).pr.cell (ints_get p hx)
      rw [hpv] at hcG
      clear hp hpi hd h e hpv hdv
      go_enter Try.func92, Try.ntmps92
      go_wp2
      exact bodyPost_end (results_none rfl _ _ _) rfl ⟨rfl, _, _, _, HST.out, HFIN.out.1, HFIN.out.2⟩
end Go.Proofs.Ytbbpbcmpemmgjaa
