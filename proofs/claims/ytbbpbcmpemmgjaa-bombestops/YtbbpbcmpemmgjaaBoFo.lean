/-
  Contract of (*menu).follow.
-/
import Derived.Test.YtbbpbcmpemmgjaaJn29
import Derived.Test.YtbbpbcmpemmgjaaJn30
import Derived.Test.YtbbpbcmpemmgjaaJn23
namespace Go.Proofs.Ytbbpbcmpemmgjaa
open Go.RowKit PK Vg

/-- What follow holds. -/
structure FoS (w W : World) (q : Nat) (p : Nat → Int) (s : Nat → Nat) (n : Nat) : Prop where
  res : RowAt W w.heap.size 25 (ints 26 fun _ => 0)
  bd : BdAt W q p s n
  below : Below w.heap.size w W
  q1 : w.heap.size < q
section
variable {w W W' : World} {q : Nat} {p p' : Nat → Int} {s s' : Nat → Nat} {n n' : Nat}
theorem FoS.step (h : FoS w W q p s n) (hb : Below W.heap.size W W') : FoS w W' q p s n := ⟨h.res.below hb h.res.lt, RowAt.below h.bd hb (RowAt.lt h.bd), h.below.trans (hb.mono h.below.size), h.q1⟩
theorem FoS.alloc (h : FoS w W q p s n) (o : Obj) : FoS w (W.alloc o) q p s n := h.step ((Below.refl _ _).alloc (Nat.le_refl _) o)
theorem FoS.grown (h : FoS w W q p s n) (hg : W.grownBy W' (some q)) (hb : BdAt W' q p' s' n') : FoS w W' q p' s' n' := by
  have h1 := h.q1
  exact ⟨(hg.block _ h.res.lt (fun e => by cases e; omega)).trans h.res, hb, h.below.grown hg h.below.size (fun k hk => by cases hk; omega), h1⟩
theorem FoS.drew (h : FoS w W q p s n) : FoS w W.drew q p s n := ⟨h.res, h.bd, h.below.drew, h.q1⟩
end
theorem bd_range {W : World} {q : Nat} {p : Nat → Int} {s : Nat → Nat} {n : Nat} (h : BdAt W q p s n) : W.rangeAt q 0 (ints 26 p).toList := row_mid (T := 152) h _ _ fun i v hv => by
  obtain ⟨h1, rfl⟩ := at_ints hv
  rw [Nat.zero_add, ints_get _ (by omega), bd_x _ _ _ h1]
/-- One letter on its way: so many of its links are drawn. -/
structure Way (m : Bo.Mn) (a b : Nat) (p0 : Nat → Int) (s0 : Nat → Nat) (n0 : Nat) (x y : Nat) (l : List (Nat × Nat)) (j : Nat) (p : Nat → Int) (s : Nat → Nat) (n : Nat) : Prop where
  said : Bo.Said m a b p s n
  ext : Bo.Ext p0 p
  same : ∀ i, i < n0 → s i = s0 i
  le : n0 ≤ n
  xy : p x = (y : Nat)
  yx : p y = (x : Nat)
  links : ∀ i, i < j → p (l.getD i (0, 0)).2 = (m.s (l.getD i (0, 0)).1 y : Nat)
theorem Way.put {m : Bo.Mn} {a b : Nat} {p0 : Nat → Int} {s0 : Nat → Nat} {n0 x y : Nat} {l : List (Nat × Nat)} {j : Nat} {p : Nat → Int} {s : Nat → Nat} {n : Nat} (h : Way m a b p0 s0 n0 x y l j p s n) {u v : Nat} (hu : u < 26) (hv : v < 26) (hp : p u = -1) (hd : Bo.Der m a b u v) (he : (l.getD j (0, 0)).2 = u) (hs : m.s (l.getD j (0, 0)).1 y = v) : Way m a b p0 s0 n0 x y l (j + 1) (upd p u (v : Nat)) (fun i => if i = n then u else s i) (n + 1) := by
  have hx := Bo.Ext.put (p := p) (x := u) ((v : Nat) : Int) hp
  refine ⟨h.said.put hu hv hp hd, h.ext.trans hx, fun i hi => ?_, by have := h.le; omega, hx _ _ h.xy, hx _ _ h.yx, fun i hi => ?_⟩
  · show (if i = n then u else s i) = s0 i
    rw [if_neg (by have := h.le; omega)]
    exact h.same i hi
  · by_cases e : i = j
    · rw [e, he, hs]
      unfold upd
      rw [if_pos rfl]
    · exact hx _ _ (h.links i (by omega))
theorem Way.keep {m : Bo.Mn} {a b : Nat} {p0 : Nat → Int} {s0 : Nat → Nat} {n0 x y : Nat} {l : List (Nat × Nat)} {j : Nat} {p : Nat → Int} {s : Nat → Nat} {n : Nat} (h : Way m a b p0 s0 n0 x y l j p s n) {u v : Nat} (hp : p u = (v : Nat)) (he : (l.getD j (0, 0)).2 = u) (hs : m.s (l.getD j (0, 0)).1 y = v) : Way m a b p0 s0 n0 x y l (j + 1) p s n := by
  refine ⟨h.said, h.ext, h.same, h.le, h.xy, h.yx, fun i hi => ?_⟩
  by_cases e : i = j
  · rw [e, he, hs]; exact hp
  · exact h.links i (by omega)
theorem Way.done {m : Bo.Mn} {a b : Nat} {p0 : Nat → Int} {s0 : Nat → Nat} {n0 x y : Nat} {j : Nat} {p : Nat → Int} {s : Nat → Nat} {n : Nat} (h : Way m a b p0 s0 n0 x y (Bo.ml m x m.k) j p s n) (hj : j = (Bo.ml m x m.k).length) : Bo.Done m p x := by
  refine ⟨y, h.xy, h.yx, fun r hr => ?_⟩
  obtain ⟨i, hi, e⟩ := List.mem_iff_getElem.1 hr
  have := h.links i (by omega)
  rw [List.getD_eq_getElem?_getD, List.getElem?_eq_getElem hi, e] at this
  exact this
theorem mem_getD {l : List (Nat × Nat)} {j : Nat} (h : j < l.length) : l.getD j (0, 0) ∈ l := by
  rw [List.getD_eq_getElem?_getD, List.getElem?_eq_getElem h]
  exact List.getElem_mem h
theorem res_conf {m : Bo.Mn} (hm : m.Ok) {a b : Nat} (ha : a < 26) (hb : b < 26) {ok : Bool} {p : Nat → Int} (h : Bo.Res m a b ok p) (hc : Bo.Conf m a b) : ok = false ∧ p = fun _ => 0 := by
  rcases h with ⟨_, _, h2⟩ | ⟨h1, _, h2⟩
  · exact absurd hc (h2.not_conf hm ha hb)
  · exact ⟨h1, h2⟩
/-- The keys. -/
def KeysAt (W : World) (v : Value) (k : Nat) (S : Nat → Nat → Nat) : Prop := ∃ g cap, v = .slice (some ⟨g, 0, none⟩) k cap ∧ ∀ i c, i < k → c < 26 → W.cell? ⟨g, i * 26 + c, none⟩ = some (.int .i64 (S i c : Nat))
theorem KeysAt.below {W W' : World} {v : Value} {k : Nat} {S : Nat → Nat → Nat} (h : KeysAt W v k S) (hb : Below W.heap.size W W') : KeysAt W' v k S := by
  obtain ⟨g, cap, e, h1⟩ := h
  exact ⟨g, cap, e, fun i c hi hc => (hb.cell (p := ⟨g, i * 26 + c, none⟩) (cell_block (h1 i c hi hc))).trans (h1 i c hi hc)⟩
theorem keys_of_row {W : World} {g k cap : Nat} {T : TypeId} {S : Nat → Nat → Nat} (h : RowAt W g T (ints (k * 26) (flat S))) : KeysAt W (.slice (some ⟨g, 0, none⟩) k cap) k S := ⟨g, cap, rfl, fun i c hi hc => by
  have h1 := h.cell (ints_get (flat S) (i := i * 26 + c) (by omega))
  unfold flat at h1
  rw [show (i * 26 + c) / 26 = i by omega, show (i * 26 + c) % 26 = c by omega] at h1
  exact h1⟩
theorem built_perm' : Try.prog.built 25 [] = some (ints 26 fun _ => 0) := by kernel_rfl
set_option maxRecDepth 100000 in
set_option maxHeartbeats 8000000 in
theorem follow_any (m : Bo.Mn) (hm : m.Ok) (hk32 : m.k ≤ 32) (a b : Nat) (ha : a < 26) (hb : b < 26) (ok : Bool) (pr : Nat → Int) (hres : Bo.Res m a b ok pr) (G : Nat) (vk : Value) (w : World) (hmn : MnAt w G (fun c => Bo.ml m c m.k)) (hks : KeysAt w vk m.k m.s) : Calls Try.prog 69 #[.pointer (some ⟨G, 0, none⟩), vk, .int .i64 (a : Nat), .int .i64 (b : Nat)] w fun e w' => e = .returned (.tuple #[.agg (ints 26 pr), .bool ok]) ∧ Below w.heap.size w w' := by
  obtain ⟨vals, hmrow, hlk⟩ := hmn
  obtain ⟨gk, ck, rfl, hkc⟩ := hks
  have HMR := (show Hid (∀ c, c < 26 → w.cell? ⟨G, c, none⟩ = some (vals c)) from hmrow)
  have HLK := (show Hid (∀ c, c < 26 → LinksAt w (vals c) (Bo.ml m c m.k)) from hlk)
  have HKC := (show Hid (∀ i c, i < m.k → c < 26 → w.cell? ⟨gk, i * 26 + c, none⟩ = some (.int .i64 (m.s i c : Nat))) from hkc)
  have HCONF := (show Hid (Bo.Conf m a b → ok = false ∧ pr = fun _ => 0) from fun hc => res_conf hm ha hb hres hc)
  have HTRUE := (show Hid (∀ p, Bo.Sub m a b p → Bo.Closed m a b p → ok = true ∧ ints 26 pr = ints 26 p) from fun p h1 h2 => by
    have := Bo.Res.unique hm ha hb hres (.inl ⟨rfl, h1, h2⟩)
    exact ⟨this.1, ints_ext this.2⟩)
  have HM := (show Hid m.Ok from hm)
  have HDL := (show Hid (∀ x y, Bo.Der m a b x y → x < 26 ∧ y < 26) from fun x y hd => hd.lt hm ha hb)
  have hz26 := o_zero v_zero_perm
  have hr0 := RowAt.new w 25 (ints 26 fun _ => 0)
  have hb0 := (Below.refl w.heap.size w).alloc (Nat.le_refl _) (.cells (ints 26 fun _ => 0) 25)
  clear hmrow hlk hkc hres hm
  go_enter Try.func69, Try.ntmps69
  go_upto_region 1 with fail
  generalize hW0 : w.alloc (.cells (ints 26 fun _ => 0) 25) = W0 at *
  clear hz26 hW0
  go_wp2_with fail
  refine (empty_any W0).mono ?_
  rintro e W1 ⟨q, rfl, hq, hbd, hbw⟩
  have h1 : FoS w W1 q (fun _ => -1) (fun _ => 0) 0 := ⟨hr0.below hbw hr0.lt, hbd, hb0.trans (hbw.mono hb0.size), by have := hr0.lt; omega⟩
  clear hr0 hb0 hbd hbw hq
  go_wp2_with fail
  refine (say_any q _ _ 0 a b ha (fun _ => by decide) _ h1.bd).mono ?_
  rintro e W2 ⟨hgr, ⟨_, rfl, hbd⟩ | ⟨hne, _⟩⟩
  case inr => exact absurd rfl hne
  have hg0 := h1.grown hgr hbd
  have hsd0 : Bo.Said m a b (upd (fun _ => (-1 : Int)) a (b : Nat)) (fun j => if j = 0 then a else 0) 1 :=
    Bo.Said.put (m := m) (a := a) (b := b) (p := fun _ => -1) (s := fun _ => 0) (n := 0) ⟨fun j hj => by omega, fun i j hi => by omega, fun j hj => by omega, fun x _ h => absurd rfl h, fun x _ => .inl rfl⟩ ha hb rfl .base
  have hpa0 : upd (fun _ => (-1 : Int)) a ((b : Nat) : Int) a = (b : Nat) := by simp
  clear h1 hgr hbd
  generalize upd (fun _ => (-1 : Int)) a ((b : Nat) : Int) = p0 at *
  generalize (fun j => if j = 0 then a else 0) = s0 at *
  go_wp2_with fail
  go_loopw [11] (fun i W => ∃ (d : Nat) (p : Nat → Int) (s : Nat → Nat) (n : Nat), d ≤ n ∧ i = .int .i64 (d : Nat) ∧ FoS w W q p s n ∧ Bo.Said m a b p s n ∧ p a = (b : Nat) ∧ ∀ j, j < d → Bo.Done m p (s j)) (fun i _ => ((26 : Int) - intOf i).toNat)
  case atStart => exact ⟨0, p0, s0, _, by omega, rfl, hg0, hsd0, hpa0, fun j hj => by omega⟩
  case round =>
    clear hg0 hsd0 hpa0
    clear p0 s0
    obtain ⟨d, p, s, n, hd, rfl, hg, hsd, hpa, hdn⟩ := hrel
    have hn26 := hsd.le
    have cn := RowAt.cell (T := 152) hg.bd (ints_get (bdF p s n) (i := 52) (by omega))
    rw [bd_n] at cn
    by_cases hlt : d < n
    case neg =>
      obtain rfl : d = n := by omega
      have hnn : ¬ ((d : Nat) : Int) < ((d : Nat) : Int) := by omega
      have HT := (show Hid _ from HTRUE.out p hsd.sub (Bo.closed_of HM.out hsd hpa hdn))
      have HRG := (show Hid _ from bd_range hg.bd)
      have hrs := hg.res
      have HBE := (show Hid (Below w.heap.size w wr) from hg.below)
      clear hlt hg hsd hpa hdn hn26
      go_wp2_with (first | refine wpList_load_mid rfl 25 _ rfl q 0 rfl (ints 26 p).toList _ HRG.out Try.underlying25 rfl (by rw [Array.length_toList, ints_size]; exact info_perm) ?_ | refine wpList_store_row rfl 25 _ _ rfl w.heap.size (ints 26 p) rfl rfl 25 _ hrs (by rw [ints_size]; exact info_perm) (by simp only [ints_size]) (ints_one _ _) ?_)
      exact bodyPost_ret (v := .tuple #[.agg (ints 26 p), .bool true]) (results_cell_tmp2 rfl _ _ w.heap.size 25 _ (0, 0) _ _ rfl rfl (hrs.row _) Try.underlying25 rfl (by rw [ints_size]; exact info_perm)) rfl ⟨by rw [HT.out.1, HT.out.2], Below.setRow HBE.out _ (Nat.le_refl _) _⟩
    have HLD : Hid (d < n ∧ d < 26) := ⟨hlt, by omega⟩
    have hltd : (d : Int) < (n : Int) := by omega
    have hd26 : (d : Int) < 26 := by omega
    have hxl := hsd.lt d hlt
    obtain ⟨x, hx⟩ : ∃ x, x = s d := ⟨_, rfl⟩
    obtain ⟨y, hy26, hpx, hder⟩ : ∃ y : Nat, y < 26 ∧ p x = (y : Int) ∧ Bo.Der m a b x y := by
      rcases hsd.sub x (by rw [hx]; exact hxl) with h | h
      · rw [hx] at h; exact absurd h (hsd.set d hlt)
      · exact h
    have csd := RowAt.cell (T := 152) hg.bd (ints_get (bdF p s n) (i := 26 + d) (by omega))
    rw [bd_s _ _ _ (by omega), ← hx] at csd
    rw [← hx] at hxl
    have cpx := RowAt.cell (T := 152) hg.bd (ints_get (bdF p s n) (i := x) (by omega))
    rw [bd_x _ _ _ hxl, hpx] at cpx
    have HXD := (show Hid _ from hx)
    have hx2 : (x : Int) < 26 := by omega
    have hy2 : (y : Int) < 26 := by omega
    have HDER := (show Hid _ from hder)
    have HPX := (show Hid _ from hpx)
    have HSD := (show Hid _ from hsd)
    have HPA := (show Hid _ from hpa)
    have HDN := (show Hid _ from hdn)
    have HG := (show Hid _ from hg)
    clear hsd hpa hdn hder hpx hx hlt
    go_wp2_with fail
    refine (say_any q p s n y x hy26 (fun h => HSD.out.lt_of hy26 h) _ HG.out.bd).mono ?_
    have hcases : ∀ (e : Ending) (W3 : World), (wr.grownBy W3 (some q) ∧ ((p y = -1 ∧ e = .returned (.bool true) ∧ BdAt W3 q (upd p y (x : Nat)) (fun j => if j = n then y else s j) (n + 1)) ∨ (p y ≠ -1 ∧ e = .returned (.bool (p y == ((x : Nat) : Int))) ∧ BdAt W3 q p s n))) → (e = .returned (.bool false) ∧ Bo.Conf m a b ∧ FoS w W3 q p s n) ∨ (e = .returned (.bool true) ∧ ∃ p2 s2 n2, FoS w W3 q p2 s2 n2 ∧ Way m a b p s n x y (Bo.ml m x m.k) 0 p2 s2 n2) := by
      rintro e W3 ⟨hgr, ⟨h1, h2, h3⟩ | ⟨h1, h2, h3⟩⟩
      · have hx3 := Bo.Ext.put (p := p) (x := y) ((x : Nat) : Int) h1
        refine .inr ⟨h2, _, _, _, HG.out.grown hgr h3, HSD.out.put hy26 hxl h1 HDER.out.sym, hx3, fun i hi => if_neg (by omega), by omega, hx3 _ _ HPX.out, by simp, fun i hi => by omega⟩
      · by_cases e2 : p y = ((x : Nat) : Int)
        · refine .inr ⟨by rw [h2, e2]; simp, _, _, _, HG.out.grown hgr h3, HSD.out, Bo.Ext.refl _, fun i hi => rfl, Nat.le_refl _, HPX.out, e2, fun i hi => by omega⟩
        · refine .inl ⟨by rw [h2]; simp [e2], ?_, HG.out.grown hgr h3⟩
          rcases HSD.out.sub y hy26 with h | ⟨z, _, hz, hdz⟩
          · exact absurd h h1
          · exact ⟨y, z, x, hdz, HDER.out.sym, fun e3 => e2 (by rw [hz, e3])⟩
    have HCS := (show Hid _ from hcases)
    clear hcases HG csd cpx cn
    intro e W3 hpost
    rcases HCS.out e W3 hpost with ⟨rfl, hcf, hg3⟩ | ⟨rfl, p2, s2, n2, hg3, hway⟩
    · have HRS := (show Hid _ from HCONF.out hcf)
      have hrs := hg3.res
      have hbe := hg3.below
      clear hcf hg3 hpost HCS
      go_wp2_with (first | refine wpList_build0 rfl 25 rfl (ints 26 fun _ => 0) built_perm' ?_ | refine wpList_store_row rfl 25 _ _ rfl w.heap.size (ints 26 fun _ => 0) rfl rfl 25 _ hrs (by rw [ints_size]; exact info_perm) (by simp only [ints_size]) (ints_one _ _) ?_)
      exact bodyPost_ret (v := .tuple #[.agg (ints 26 fun _ => 0), .bool false]) (results_cell_tmp2 rfl _ _ w.heap.size 25 _ (0, 0) _ _ rfl rfl (hrs.row _) Try.underlying25 rfl (by rw [ints_size]; exact info_perm)) rfl ⟨by rw [HRS.out.1, HRS.out.2], Below.setRow hbe _ (Nat.le_refl _) _⟩
    clear hpost HCS
    have cml := (hg3.below.cell (cell_block (HMR.out x hxl))).trans (HMR.out x hxl)
    obtain ⟨al, cl, hev, hlc⟩ := HLK.out x hxl
    rw [hev] at cml
    have HLC := (show Hid (∀ c, c < (Bo.ml m x m.k).length → ∃ b, al = some ⟨b, 0, none⟩ ∧ w.cell? ⟨b, c * 2, none⟩ = some (.int .i64 (((Bo.ml m x m.k).getD c (0, 0)).1 : Nat)) ∧ w.cell? ⟨b, c * 2 + 1, none⟩ = some (.int .i64 (((Bo.ml m x m.k).getD c (0, 0)).2 : Nat))) from hlc)
    have hll := Bo.ml_len m x m.k
    have HLM := (show Hid (∀ j, j < (Bo.ml m x m.k).length → ((Bo.ml m x m.k).getD j (0, 0)).1 < m.k ∧ Bo.Der m a b ((Bo.ml m x m.k).getD j (0, 0)).2 (m.s ((Bo.ml m x m.k).getD j (0, 0)).1 y)) from fun j hj => ⟨(Bo.ml_mem m x m.k (mem_getD hj)).1, Bo.der_link (mem_getD hj) HDER.out⟩)
    have HDONE := (show Hid (∀ j p2 s2 n2, Way m a b p s n x y (Bo.ml m x m.k) j p2 s2 n2 → j = (Bo.ml m x m.k).length → Bo.Done m p2 x) from fun j p2 s2 n2 h1 h2 => h1.done h2)
    obtain ⟨L, hL⟩ : ∃ L, L = Bo.ml m x m.k := ⟨_, rfl⟩
    rw [← hL] at HLC hll HLM HDONE cml hway
    clear hev hlc hL
    go_wp2_with fail
    clear cml
    go_loopw [53] (fun i W => ∃ (j : Nat) (p2 : Nat → Int) (s2 : Nat → Nat) (n2 : Nat), j ≤ L.length ∧ i = .int .i64 (j : Nat) ∧ FoS w W q p2 s2 n2 ∧ Way m a b p s n x y L j p2 s2 n2) (fun i _ => ((L.length : Int) - intOf i).toNat)
    case atStart => exact ⟨0, p2, s2, n2, by omega, rfl, hg3, hway⟩
    case round =>
      clear hg3 hway
      clear p2 s2 n2
      obtain ⟨j, p2, s2, n2, hj, rfl, hg, hway⟩ := hrel
      by_cases hlt : j < L.length
      case neg =>
        obtain rfl : j = L.length := by omega
        have hnn : ¬ ((L.length : Nat) : Int) < ((L.length : Nat) : Int) := by omega
        have HFIN : Hid (d + 1 ≤ n2 ∧ Bo.Said m a b p2 s2 n2 ∧ p2 a = (b : Nat) ∧ ∀ j, j < d + 1 → Bo.Done m p2 (s2 j)) := by
          have h1 := HLD.out.1
          have h2 := hway.le
          refine ⟨by omega, hway.said, hway.ext _ _ HPA.out, fun i hi => ?_⟩
          rw [hway.same i (by omega)]
          by_cases e : i = d
          · rw [e, ← HXD.out]
            exact HDONE.out _ _ _ _ hway rfl
          · exact (HDN.out i (by omega)).ext hway.ext
        have HG := (show Hid _ from hg)
        clear hg hway hlt
        go_wp2
        go_roundw
        case rel => exact ⟨d + 1, p2, s2, n2, HFIN.out.1, by go_num, HG.out, HFIN.out.2.1, HFIN.out.2.2.1, HFIN.out.2.2.2⟩
        case measure => have := HLD.out.2; simp [intOf]; omega
      have HLT : Hid (j < L.length) := hlt
      have hlt2 : (j : Int) < (L.length : Int) := by omega
      obtain ⟨bl, rfl, c1, c2⟩ := HLC.out j hlt
      have d1 := (hg.below.cell (p := ⟨bl, j * 2, none⟩) (cell_block c1)).trans c1
      have d2 := (hg.below.cell (p := ⟨bl, j * 2 + 1, none⟩) (cell_block c2)).trans c2
      obtain ⟨hik, hdr⟩ := HLM.out j hlt
      have hol := HDL.out _ _ hdr
      have HDR := (show Hid _ from hdr)
      obtain ⟨i, hi⟩ : ∃ i, i = (L.getD j (0, 0)).1 := ⟨_, rfl⟩
      obtain ⟨o, ho⟩ : ∃ o, o = (L.getD j (0, 0)).2 := ⟨_, rfl⟩
      rw [← hi] at d1 hik hol HDR
      rw [← ho] at d2 hol HDR
      have ckey := HKC.out i y hik hy26
      have HCK := (show Hid _ from ckey)
      obtain ⟨v, hv⟩ : ∃ v, v = m.s i y := ⟨_, rfl⟩
      rw [← hv] at HCK hol HDR
      have HIO := (show Hid (o = (L.getD j (0, 0)).2 ∧ v = m.s (L.getD j (0, 0)).1 y) from ⟨ho, by rw [hv, hi]⟩)
      have HWAY := (show Hid _ from hway)
      have HG := (show Hid _ from hg)
      have ho2 : (o : Int) < 26 := by omega
      have hi2 : (i : Int) < (m.k : Int) := by omega
      clear hi ho hv hlt c1 c2 hdr ckey hway hg
      go_upto_region 13 with fail
      have hg4 := HG.out.alloc (.cells #[.int .i64 (i : Nat), .int .i64 (o : Nat)] 115)
      have hr15 := RowAt.new wr 115 #[.int .i64 (i : Nat), .int .i64 (o : Nat)]
      have hl15 := RowAt.lt HG.out.bd
      generalize wr.alloc (.cells #[.int .i64 (i : Nat), .int .i64 (o : Nat)] 115) = V4 at *
      obtain ⟨q15, hq15⟩ : ∃ x, x = wr.heap.size := ⟨_, rfl⟩
      rw [← hq15] at hr15 hl15 ⊢
      clear hq15 HG d1 d2
      have hSd : FoS w V4.drew q p2 s2 n2 ∧ RowAt V4.drew q15 115 #[.int .i64 (i : Nat), .int .i64 (o : Nat)] := ⟨hg4.drew, hr15⟩
      clear hg4 hr15
      refine wp_region_noPanic ?_
      refine wp_region_held_drew (S := fun W => ∃ p2 s2 n2, FoS w W q p2 s2 n2 ∧ RowAt W q15 115 #[.int .i64 (i : Nat), .int .i64 (o : Nat)]) (by kernel_rfl) ⟨_, _, _, hSd⟩ (fun hS => ?_)
      obtain ⟨U, hU⟩ : ∃ x, x = V4.drew := ⟨_, rfl⟩
      rw [← hU] at hS hSd ⊢
      clear hU
      refine vtake 0 57 (.pointer (some ⟨q, 0, none⟩)) rfl rfl (by kernel_rfl) (by kernel_rfl) (by kernel_rfl) (fun _ _ _ _ h => h) (by rfl) (fun W hW => by clear hS hW; go_simp) hS ?_
      simp only [List.setIfInBounds_toArray, List.set_cons_succ, List.set_cons_zero]
      refine vtake 1 58 (.pointer (some ⟨q15, 1, none⟩)) rfl rfl (by kernel_rfl) (by kernel_rfl) (by kernel_rfl) (fun _ _ _ _ h => h) (by rfl) (fun W hW => by clear hS hW; go_simp) hS ?_
      simp only [List.setIfInBounds_toArray, List.set_cons_succ, List.set_cons_zero]
      refine vtake 2 59 (.int .i64 (o : Nat)) rfl rfl (by kernel_rfl) (by kernel_rfl) (by kernel_rfl) (fun _ _ _ _ h => h) (by rfl) (fun W hW => by obtain ⟨_, _, _, hWa, hW⟩ := hW; have u := hW.cell (i := 1) rfl; clear hS hW; go_simp) hS ?_
      simp only [List.setIfInBounds_toArray, List.set_cons_succ, List.set_cons_zero]
      refine vtake 3 60 (.slice (some ⟨gk, 0, none⟩) m.k ck) rfl rfl (by kernel_rfl) (by kernel_rfl) (by kernel_rfl) (fun _ _ _ _ h => h) (by rfl) (fun W hW => by clear hS hW; go_simp) hS ?_
      simp only [List.setIfInBounds_toArray, List.set_cons_succ, List.set_cons_zero]
      refine vtake 4 61 (.pointer (some ⟨q15, 0, none⟩)) rfl rfl (by kernel_rfl) (by kernel_rfl) (by kernel_rfl) (fun _ _ _ _ h => h) (by rfl) (fun W hW => by clear hS hW; go_simp) hS ?_
      simp only [List.setIfInBounds_toArray, List.set_cons_succ, List.set_cons_zero]
      refine vtake 5 62 (.int .i64 (i : Nat)) rfl rfl (by kernel_rfl) (by kernel_rfl) (by kernel_rfl) (fun _ _ _ _ h => h) (by rfl) (fun W hW => by obtain ⟨_, _, _, hWa, hW⟩ := hW; have u := hW.cell (i := 0) rfl; clear hS hW; go_simp) hS ?_
      simp only [List.setIfInBounds_toArray, List.set_cons_succ, List.set_cons_zero]
      refine vtake 6 63 (.int .i64 (y : Nat)) rfl rfl (by kernel_rfl) (by kernel_rfl) (by kernel_rfl) (fun _ _ _ _ h => h) (by rfl) (fun W hW => by clear hS hW; go_simp) hS ?_
      simp only [List.setIfInBounds_toArray, List.set_cons_succ, List.set_cons_zero]
      refine vtake 7 64 (.pointer (some ⟨gk, i * 26, none⟩)) rfl rfl (by kernel_rfl) (by kernel_rfl) (by kernel_rfl) (fun _ _ _ _ h => h) (by rfl) (fun W hW => by clear hS hW; go_simp) hS ?_
      simp only [List.setIfInBounds_toArray, List.set_cons_succ, List.set_cons_zero]
      refine vtake 8 65 (.pointer (some ⟨gk, i * 26 + y, none⟩)) rfl rfl (by kernel_rfl) (by kernel_rfl) (by kernel_rfl) (fun _ _ _ _ h => h) (by rfl) (fun W hW => by clear hS hW; go_simp) hS ?_
      simp only [List.setIfInBounds_toArray, List.set_cons_succ, List.set_cons_zero]
      refine vtake 9 66 (.int .i64 (v : Nat)) rfl rfl (by kernel_rfl) (by kernel_rfl) (by kernel_rfl) (fun _ _ _ _ h => h) (by rfl) (fun W hW => by obtain ⟨_, _, _, hWa, hW⟩ := hW; have u := (hWa.below.cell (p := ⟨gk, i * 26 + y, none⟩) (cell_block HCK.out)).trans HCK.out; clear hS hW; go_simp) hS ?_
      simp only [List.setIfInBounds_toArray, List.set_cons_succ, List.set_cons_zero]
      refine wpAnyH_ready (rs := [10]) (by kernel_rfl) (by simp) ?_
      refine AllReadyH.cons (o := _) rfl (fun K hK => ?_) AllReadyH.nil
      rw [if_pos (by rfl)]
      go_simp
      refine (say_any q p2 s2 n2 o v hol.1 (fun h => HWAY.out.said.lt_of hol.1 h) _ hSd.1.bd).mono ?_
      have hcases : ∀ (e : Ending) (W3 : World), (U.grownBy W3 (some q) ∧ ((p2 o = -1 ∧ e = .returned (.bool true) ∧ BdAt W3 q (upd p2 o (v : Nat)) (fun j => if j = n2 then o else s2 j) (n2 + 1)) ∨ (p2 o ≠ -1 ∧ e = .returned (.bool (p2 o == ((v : Nat) : Int))) ∧ BdAt W3 q p2 s2 n2))) → RowAt W3 q15 115 #[.int .i64 (i : Nat), .int .i64 (o : Nat)] ∧ ((e = .returned (.bool false) ∧ Bo.Conf m a b ∧ FoS w W3 q p2 s2 n2) ∨ (e = .returned (.bool true) ∧ ∃ p3 s3 n3, FoS w W3 q p3 s3 n3 ∧ Way m a b p s n x y L (j + 1) p3 s3 n3)) := by
        rintro e W3 ⟨hgr, hor⟩
        refine ⟨(hgr.block _ hSd.2.lt (fun e => by cases e; omega)).trans hSd.2, ?_⟩
        rcases hor with ⟨h1, h2, h3⟩ | ⟨h1, h2, h3⟩
        · exact .inr ⟨h2, _, _, _, hSd.1.grown hgr h3, HWAY.out.put hol.1 hol.2 h1 HDR.out HIO.out.1.symm HIO.out.2.symm⟩
        · by_cases e2 : p2 o = ((v : Nat) : Int)
          · exact .inr ⟨by rw [h2, e2]; simp, _, _, _, hSd.1.grown hgr h3, HWAY.out.keep e2 HIO.out.1.symm HIO.out.2.symm⟩
          · refine .inl ⟨by rw [h2]; simp [e2], ?_, hSd.1.grown hgr h3⟩
            rcases HWAY.out.said.sub o hol.1 with h | ⟨z, _, hz, hdz⟩
            · exact absurd h h1
            · exact ⟨o, z, v, hdz, HDR.out, fun e3 => e2 (by rw [hz, e3])⟩
      intro e W3 hpost
      obtain ⟨hl3, hor⟩ := hcases e W3 hpost
      clear hpost hcases hSd hS
      rcases hor with ⟨rfl, hcf, hg3⟩ | ⟨rfl, p3, s3, n3, hg3, hw3⟩
      · refine hK.out _ _ ⟨_, _, _, hg3, hl3⟩ (fun hS => ?_)
        clear hK K
        refine vtake 11 68 (.bool true) rfl rfl (by kernel_rfl) (by kernel_rfl) (by kernel_rfl) (fun _ _ _ _ h => h) (by rfl) (fun W hW => by clear hS hW; go_simp) hS ?_
        simp only [List.setIfInBounds_toArray, List.set_cons_succ, List.set_cons_zero]
        refine wpAnyH_done (by kernel_rfl) ?_ _
        refine NoPanic.normal ?_
        have HRS := (show Hid _ from HCONF.out hcf)
        have hrs := hg3.res
        have hbe := hg3.below
        clear hcf hg3 hS hl3
        go_wp2_with (first | refine wpList_build0 rfl 25 rfl (ints 26 fun _ => 0) built_perm' ?_ | refine wpList_store_row rfl 25 _ _ rfl w.heap.size (ints 26 fun _ => 0) rfl rfl 25 _ hrs (by rw [ints_size]; exact info_perm) (by simp only [ints_size]) (ints_one _ _) ?_)
        exact bodyPost_ret (v := .tuple #[.agg (ints 26 fun _ => 0), .bool false]) (results_cell_tmp2 rfl _ _ w.heap.size 25 _ (0, 0) _ _ rfl rfl (hrs.row _) Try.underlying25 rfl (by rw [ints_size]; exact info_perm)) rfl ⟨by rw [HRS.out.1, HRS.out.2], Below.setRow hbe _ (Nat.le_refl _) _⟩
      · refine hK.out _ _ ⟨_, _, _, hg3, hl3⟩ (fun hS => ?_)
        clear hK K
        refine vtake 11 68 (.bool false) rfl rfl (by kernel_rfl) (by kernel_rfl) (by kernel_rfl) (fun _ _ _ _ h => h) (by rfl) (fun W hW => by clear hS hW; go_simp) hS ?_
        simp only [List.setIfInBounds_toArray, List.set_cons_succ, List.set_cons_zero]
        refine wpAnyH_done (by kernel_rfl) ?_ _
        refine NoPanic.normal ?_
        have HG3 := (show Hid _ from hg3)
        have HW3 := (show Hid _ from hw3)
        clear hg3 hS hl3 hw3
        go_wp2_with fail
        go_roundw
        case rel => exact ⟨j + 1, p3, s3, n3, HLT.out, by go_num, HG3.out, HW3.out⟩
        case measure => have := HLT.out; simp [intOf]; omega
end Go.Proofs.Ytbbpbcmpemmgjaa
