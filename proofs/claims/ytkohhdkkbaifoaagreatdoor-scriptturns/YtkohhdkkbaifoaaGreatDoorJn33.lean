/-
  Several texts, joined: PtG, ScM.
-/
import Derived.Test.YtkohhdkkbaifoaaGreatDoorJn32
import Derived.Test.YtkohhdkkbaifoaaGreatDoorJn25
import Derived.Test.YtkohhdkkbaifoaaGreatDoorJn16
import Derived.Test.YtkohhdkkbaifoaaGreatDoorJn21
/-
  What is written is read: rotors; chains.
-/
namespace Go.Proofs.YtkohhdkkbaifoaaGreatDoor
open Go.RowKit PK Vg

/-- What follows a step: nothing, or the bar. -/
def Bar (r : List UInt8) : Prop := r = [] ∨ ∃ r', r = 32 :: 124 :: 32 :: r'
theorem mcE_zero {g : Gm} (h : mcE g = 0) : (∀ i, i < g.n → ∃ j, whF (g.wi i) (g.nl i) (g.no i) = some j) ∧ ∃ j, mrF g.rf = some j := by
  unfold mcE at h
  by_cases h1 : wnE g ≠ 0
  · rw [if_pos h1] at h; cases h
  rw [if_neg h1] at h
  by_cases h2 : mrF g.rf = none
  · rw [if_pos h2] at h; cases h
  refine ⟨fun i hi => ?_, Option.ne_none_iff_exists'.1 h2⟩
  have h3 := firV_zero (Decidable.not_not.1 h1) i hi
  by_cases h4 : whF (g.wi i) (g.nl i) (g.no i) = none
  · rw [if_pos h4] at h3; cases h3
  · exact Option.ne_none_iff_exists'.1 h4
/-- The plugs that are read. -/
theorem plugs_read {g : Gm} (hg : gE g = 0) : ∃ q : Nat → Nat, readOut (plS g) = (Pm.up q, 0, 0) ∧ (∀ x, x < 26 → Pm.up q x = g.pl x) ∧ plgE (plS g) = 0 := by
  obtain ⟨_, _, _, _, _, h10, h11⟩ := gE_zero hg
  obtain ⟨hp, hpe⟩ := perm_toNat h10
  obtain ⟨q, h1, h2⟩ := print_read hp
  have h3 : ∀ x, x < 26 → Pm.up q x = g.pl x := fun x hx => by
    show ((q x : Nat) : Int) = g.pl x
    rw [h2 x hx, ← hpe x hx]
  refine ⟨q, h1, h3, ?_⟩
  unfold plgE
  rw [show readOut (plS g) = (Pm.up q, 0, 0) from h1]
  rw [if_neg (fun e => e rfl), if_pos]
  unfold selfU
  refine eqI_of fun i hi => ?_
  have h4 := ((undo_iff false g.pl).1 h11 i hi).1
  have h5 := hp.lt i hi
  show Pm.up q (Pm.up q i).toNat = _
  rw [h3 i hi, h3 _ h5, h4]
  rfl
theorem plS_wd {g : Gm} (hg : gE g = 0) (h : plS g ≠ []) : Wd (plS g) ∧ plS g ≠ [124] := by
  obtain ⟨_, _, _, _, _, h10, _⟩ := gE_zero hg
  obtain ⟨hp, _⟩ := perm_toNat h10
  refine ⟨⟨h, wrAll_mem fun l hl x hx => ?_⟩, fun e => ?_⟩
  · have := (Pm.flat_all hp x).1 (List.mem_flatten.2 ⟨l, hl, hx⟩)
    exact this
  · rcases wrAll_head (ls := Pm.cycs (fun c => (g.pl c).toNat) 26) with e2 | ⟨r, e2⟩
    · exact h e2
    · have e3 : plS g = 40 :: r := e2
      rw [e] at e3
      cases e3
theorem Lies.bar {t : List UInt8} {p : Nat} {r : List UInt8} (h : p + r.length = t.length + 1) (hb : Bar r) (hl : ∃ A, t = A ++ r) : (r = [] ∧ t.length < p) ∨ (r ≠ [] ∧ ¬ t.length < p ∧ rWord t p = .ok ([124], p + 2)) := by
  obtain ⟨A, rfl⟩ := hl
  rcases hb with rfl | ⟨r', rfl⟩
  · left; simp at h ⊢; omega
  · right
    simp at h
    have hp : p = (A ++ [32]).length := by simp; omega
    refine ⟨by simp, by simp; omega, ?_⟩
    have h1 := rWord_mid (A := A ++ [32]) (w := [124]) (r := r') (by decide) (by decide)
    rw [← hp] at h1
    rw [show A ++ 32 :: 124 :: 32 :: r' = A ++ [32] ++ ([124] ++ 32 :: r') by simp]
    exact h1
theorem Lies.cut {t : List UInt8} {p : Nat} {ws : List (List UInt8)} {r : List UInt8} (h : Lies t p ws r) : ∃ A, t = A ++ r := by
  obtain ⟨A, rfl, _, _⟩ := h
  exact ⟨A ++ Lib.join ws [32], by simp⟩
set_option maxHeartbeats 1000000 in
theorem sd_rotor {t : List UInt8} {p place : Nat} {s : Sp} {r : List UInt8} (hs : stE s = 0) (hk : s.k = 6) (hwo : woE s = 0) (hp : place < 64) (hb : Bar r) (h : Lies t p ((woW s).map (·.data.toList)) r) : StepRead t p place s r := by
  have hg := st_rotor hs hk
  have hmc : mcE s.g = 0 := by unfold woE at hwo; rw [if_pos hk] at hwo; exact hwo
  obtain ⟨hwh, jm, hjm⟩ := mcE_zero hmc
  obtain ⟨⟨hn1, hn4⟩, _, ⟨hrl, hri⟩, ⟨hsl, hst⟩, _, _, _⟩ := gE_zero hg
  obtain ⟨hm2, hmr⟩ := mrF_some hjm
  obtain ⟨mw1, mw2⟩ := mrN_ok jm hm2
  have hri := (ins_iff _ _).1 hri
  have hst := (ins_iff _ _).1 hst
  obtain ⟨q, hro, hpl, hpe⟩ := plugs_read hg
  -- the names
  obtain ⟨xs, hxs⟩ : ∃ xs, xs = (mcN s.g).map (·.data.toList) := ⟨_, rfl⟩
  have hxl : xs.length = s.g.n := by rw [hxs, List.length_map, mcN_len]
  have hxe : ∀ i (hi : i < xs.length), xs[i] = (wnm s.g i).data.toList := by
    intro i hi
    subst hxs
    simp [mcN]
  have hxo : ∀ i (hi : i < xs.length), ∃ j, j < 5 ∧ xs[i] = (whN j).data.toList ∧ whF (s.g.wi i) (s.g.nl i) (s.g.no i) = some j := by
    intro i hi
    obtain ⟨j, hj⟩ := hwh i (by omega)
    refine ⟨j, (whF_some hj).1, ?_, hj⟩
    rw [hxe i hi]
    unfold wnm
    rw [hj]
    rfl
  have hx44 : ∀ x ∈ xs, ∀ d ∈ x, d ≠ 44 ∧ d ≠ 32 := fun x hx d hd => by
    obtain ⟨i, hi, rfl⟩ := List.getElem_of_mem hx
    obtain ⟨j, hj, e, _⟩ := hxo i hi
    rw [e] at hd
    exact (whN_ok j hj).2.1 d hd
  have hx0 : xs ≠ [] := by intro e; rw [e] at hxl; simp at hxl; omega
  obtain ⟨l1, hl1⟩ : ∃ l1, l1 = Lib.join xs [44] := ⟨_, rfl⟩
  have hpcn : pcn l1 = s.g.n := by rw [hl1, pcn_join (fun x hx d hd => (hx44 x hx d hd).1) hx0, hxl]
  have hpce : ∀ i (hi : i < xs.length), pce l1 i = xs[i] := fun i hi => by rw [hl1, pce_join (fun x hx d hd => (hx44 x hx d hd).1) hi]
  have hwd1 : Wd l1 := by
    refine ⟨fun e => ?_, by rw [hl1]; exact join_mem (fun x hx d hd => (hx44 x hx d hd).2) (by decide)⟩
    have h0 : 0 < xs.length := by omega
    have h1 := hpce 0 h0
    rw [e] at h1
    obtain ⟨j, hj, e2, _⟩ := hxo 0 h0
    rw [e2] at h1
    exact (whN_ok j hj).1 h1.symm
  have hws : wsE l1 = 0 := by
    have h0 : firV (fun k => knE (pce l1 k)) (pcn l1) = 0 := firV_all fun i hi => by
      have hi' : i < xs.length := by omega
      obtain ⟨j, hj, e, _⟩ := hxo i hi'
      show knE (pce l1 i) = 0
      rw [hpce i hi', e]
      exact (whN_ok j hj).2.2
    unfold wsE
    rw [if_neg (fun e => e h0), if_neg (by omega)]
  obtain ⟨l3, hl3⟩ : ∃ l3, l3 = sptL s.g.rl s.g.ri := ⟨_, rfl⟩
  obtain ⟨l4, hl4⟩ : ∃ l4, l4 = sptL s.g.sl s.g.st := ⟨_, rfl⟩
  have hse3 : setE l3 (pcn l1) = 0 := by rw [hl3, hpcn, hrl]; exact spt_set hn4 (fun i hi => hri i (by omega))
  have hse4 : setE l4 (pcn l1) = 0 := by rw [hl4, hpcn, hsl]; exact spt_set hn4 (fun i hi => hst i (by omega))
  have hwd3 : Wd l3 := by rw [hl3]; exact spt_wd (by omega) hri
  have hwd4 : Wd l4 := by rw [hl4]; exact spt_wd (by omega) hst
  have hw : (woW s).map (·.data.toList) = (nmN 6).data.toList :: l1 :: (mrN jm).data.toList :: l3 :: l4 :: (if plS s.g = [] then [] else [plS s.g]) := by
    unfold woW mcW mc4
    rw [if_neg (by omega), if_neg (by omega), if_neg (by omega), hjm, ← hxs, ← hl1, ← hl3, ← hl4]
    unfold nmO
    rw [if_neg (by omega), hk]
    by_cases e : plS s.g = []
    · rw [if_pos e, if_pos e]; rfl
    · rw [if_neg e, if_neg e]; rfl
  rw [hw] at h
  obtain ⟨a1, h⟩ := h.word wd_names.2.2.1
  obtain ⟨a2, h⟩ := h.word hwd1
  obtain ⟨a3, h⟩ := h.word mw1
  obtain ⟨a4, h⟩ := h.word hwd3
  -- the settings, and the plugs
  obtain ⟨P0, hP0⟩ : ∃ P0, P0 = p + (nmN 6).data.toList.length + 1 := ⟨_, rfl⟩
  rw [← hP0] at a1 a2 a3 a4 h
  have hrest : ∃ p4 pl p5, rWord t (P0 + l1.length + 1 + (mrN jm).data.toList.length + 1 + l3.length + 1) = .ok (l4, p4) ∧ rPlg t p4 = .ok (pl, p5) ∧ (∀ x, x < 26 → pl x = s.g.pl x) ∧ p5 + r.length = t.length + 1 := by
    by_cases e : plS s.g = []
    · rw [if_pos e] at h
      have he := h.endp
      refine ⟨_, Pm.up fun i => i, _, h.last hwd4, ?_, ?_, he⟩
      · unfold rPlg
        rcases Lies.bar he hb h.cut with ⟨_, h1⟩ | ⟨_, h1, h2⟩
        · rw [if_pos h1]
        · rw [if_neg h1, h2]
          simp [rBind]
      · intro x hx
        rw [← hpl x hx]
        rw [e] at hro
        have h2 : Pm.up (fun i => i) = Pm.up q := by
          have h3 : readOut [] = (Pm.up fun i => i, 0, 0) := rfl
          rw [h3] at hro
          exact congrArg (·.1) hro
        rw [h2]
    · rw [if_neg e] at h
      obtain ⟨b1, h⟩ := h.word hwd4
      obtain ⟨w1, w2⟩ := plS_wd hg e
      have he := h.endp
      refine ⟨_, Pm.up q, _, b1, ?_, hpl, he⟩
      unfold rPlg
      have hle : ¬ t.length < P0 + l1.length + 1 + (mrN jm).data.toList.length + 1 + l3.length + 1 + l4.length + 1 := by
        have : 1 ≤ (plS s.g).length := List.length_pos_iff.2 e
        omega
      rw [if_neg hle, h.last w1]
      show (if plS s.g = [124] then _ else rChk (plgE (plS s.g)) _ (.ok ((readOut (plS s.g)).1, _))) = _
      rw [if_neg w2]
      unfold rChk
      rw [if_pos hpe, hro]
  obtain ⟨p4, pl, p5, b1, b2, b3, b4⟩ := hrest
  have hmach : rMach t P0 = .ok (gmOf l1 (mrN jm).data.toList l3 l4 pl, p5) := by
    unfold rMach
    rw [a2]
    show rChk (wsE l1) _ _ = _
    unfold rChk
    rw [if_pos hws, a3]
    show (if miE (mrN jm).data.toList = 0 then _ else _) = _
    rw [if_pos mw2, a4]
    show (if setE l3 (pcn l1) = 0 then _ else _) = _
    rw [if_pos hse3, b1]
    show (if setE l4 (pcn l1) = 0 then _ else _) = _
    rw [if_pos hse4, b2]
    rfl
  refine ⟨{ sp0 6 0 with g := gmOf l1 (mrN jm).data.toList l3 l4 pl }, p5, by rw [rStep_name a1 name_read.2.2.2.2.1 hp, if_neg (by decide), if_neg (by decide), if_neg (by decide), if_neg (by decide), if_pos rfl, hmach]; rfl, ⟨?_, ?_, ?_, ?_, ?_, ?_, ?_⟩, b4⟩
  · show ((6 : Nat) : Int) = s.k
    omega
  · show ((0 : Nat) : Int) = if s.k = 1 ∨ s.k = 2 ∨ s.k = 3 then s.n else 0
    rw [if_neg (by omega)]; rfl
  · show (⟨#[]⟩ : ByteArray) = if s.k = 2 ∨ s.k = 4 then s.key else ⟨#[]⟩
    rw [if_neg (by omega)]
  · show 0 = if s.k = 5 then s.r else 0
    rw [if_neg (by omega)]
  · intro i hi; exact absurd hi (Nat.not_lt_zero _)
  · intro i hi; exact absurd hi (Nat.not_lt_zero _)
  · show SameG (gmOf l1 (mrN jm).data.toList l3 l4 pl) (if s.k = 6 then s.g else gm0)
    rw [if_pos hk]
    have hwr : ∀ r, r < pcn l1 → ∃ j, pce l1 r = (whN j).data.toList ∧ whF (s.g.wi r) (s.g.nl r) (s.g.no r) = some j := fun r hr => by
      obtain ⟨j, _, e, ej⟩ := hxo r (by omega)
      exact ⟨j, by rw [hpce r (by omega), e], ej⟩
    refine ⟨hpcn, fun r hr i hi => ?_, fun r hr => ?_, fun r hr i hi => ?_, by show pcn l1 = _; rw [hpcn, hrl], fun i hi => ?_, by show pcn l1 = _; rw [hpcn, hsl], fun i hi => ?_, fun i hi => ?_, b3⟩
    · obtain ⟨j, e, ej⟩ := hwr r hr
      show knW (pce l1 r) i = _
      rw [e, (whF_some ej).2.1 i hi]
    · obtain ⟨j, e, ej⟩ := hwr r hr
      show (knN (pce l1 r)).length = _
      rw [e, (whF_some ej).2.2.1]
    · obtain ⟨j, e, ej⟩ := hwr r hr
      have hi' : i < (knN (pce l1 r)).length := hi
      rw [e] at hi'
      show (((knN (pce l1 r)).getD i 0 : Nat) : Int) = _
      rw [e, (whF_some ej).2.2.2 i (by rw [(whF_some ej).2.2.1]; exact hi')]
    · have hi' : i < pcn l1 := hi
      show setF l3 i = _
      rw [hl3, spt_get (by omega) (hri i (by omega))]
    · have hi' : i < pcn l1 := hi
      show setF l4 i = _
      rw [hl4, spt_get (by omega) (hst i (by omega))]
    · exact (hmr i hi).symm
/-- A step's words, read where they lie. -/
theorem sd_any {t : List UInt8} {p place : Nat} {s : Sp} {r : List UInt8} (hs : stE s = 0) (hwo : woE s = 0) (hp : place < 64) (hb : Bar r) (h : Lies t p ((woW s).map (·.data.toList)) r) : StepRead t p place s r := by
  rcases st_kinds hs with hk | hk | hk | hk | hk | hk
  · exact sd_move hs hk hp h
  · exact sd_tab hs hk hp h
  · exact sd_rail hs hk hp h
  · exact sd_col hs hk hp h
  · exact sd_hill hs hk hp h
  · exact sd_rotor hs hk hwo hp hb h
end Go.Proofs.YtkohhdkkbaifoaaGreatDoor

/-
  A machine, as it is read.
-/
namespace Go.Proofs.YtkohhdkkbaifoaaGreatDoor
open Go.RowKit PK Vg

theorem mz17 : (Tryz.prog.info? 29).map (·.zero) = some (some (.agg (mac (.slice none 0 0) (.slice none 0 0) (.slice none 0 0) (fun _ => 0) (fun _ => 0)))) := by kernel_rfl
theorem ms0 (a b c c2 : Value) (rf pl : Nat → Int) : (mac a b c rf pl).setIfInBounds 0 c2 = mac c2 b c rf pl := by simp [mac]
theorem ms1 (a b c c2 : Value) (rf pl : Nat → Int) : (mac a b c rf pl).setIfInBounds 1 c2 = mac a c2 c rf pl := by simp [mac]
theorem ms2 (a b c c2 : Value) (rf pl : Nat → Int) : (mac a b c rf pl).setIfInBounds 2 c2 = mac a b c2 rf pl := by simp [mac]
theorem ms3 (a b c : Value) (rf pl rf2 : Nat → Int) : setMany (mac a b c rf pl) 3 (ints 26 rf2).toList = mac a b c rf2 pl := by
  have hl : (ints 26 rf2).toList.length = 26 := by rw [Array.length_toList, ints_size]
  apply Array.ext_getElem?
  intro i
  rw [setMany_get _ _ _ _ (by rw [hl, mac_size]; omega), hl]
  by_cases h : 3 ≤ i ∧ i < 3 + 26
  · obtain ⟨j, rfl⟩ : ∃ j, i = 3 + j := ⟨i - 3, by omega⟩
    rw [if_pos h, Nat.add_sub_cancel_left, Array.getElem?_toList, ints_get _ (by omega), mac_rf _ _ _ _ _ (by omega)]
  · rw [if_neg h]
    by_cases h0 : i < 3
    · have : i = 0 ∨ i = 1 ∨ i = 2 := by omega
      rcases this with rfl | rfl | rfl
      · rw [mac_0, mac_0]
      · rw [mac_1, mac_1]
      · rw [mac_2, mac_2]
    · by_cases h1 : i < 55
      · obtain ⟨j, rfl⟩ : ∃ j, i = 29 + j := ⟨i - 29, by omega⟩
        rw [mac_pl _ _ _ _ _ (by omega), mac_pl _ _ _ _ _ (by omega)]
      · rw [Array.getElem?_eq_none (by rw [mac_size]; omega), Array.getElem?_eq_none (by rw [mac_size]; omega)]
theorem ws_four {l : List UInt8} (h : wsE l = 0) : pcn l ≤ 4 := by
  unfold wsE at h
  by_cases h1 : firV (fun k => knE (pce l k)) (pcn l) ≠ 0
  · rw [if_pos h1] at h; exact absurd h h1
  · rw [if_neg h1] at h
    by_cases h2 : 4 < pcn l
    · rw [if_pos h2] at h; cases h
    · omega
/-- What is held while a machine is read: q the result's box, then the machine's; P: what is known of its slices. -/
structure McI (w W : World) (b q : Nat) (T : ByteArray) (p : Nat) (a c d : Value) (rf pl : Nat → Int) (P : World → Prop) : Prop where
  res : RowAt W q 29 (mac (.slice none 0 0) (.slice none 0 0) (.slice none 0 0) (fun _ => 0) (fun _ => 0))
  box : RowAt W (q + 1) 29 (mac a c d rf pl)
  rd : RdAt W b T p
  fb : Fb b w W
  ne : b < q
  sz : w.heap.size = q
  nw : Nw (q + 2) W.heap.size P W
section
variable {w W W' : World} {b q : Nat} {T : ByteArray} {p p' : Nat} {a c d a' c' d' : Value} {rf pl rf' pl' : Nat → Int} {P Q : World → Prop}
theorem McI.step (h : McI w W b q T p a c d rf pl P) (hf : Fb b W W') (hr : RdAt W' b T p') : McI w W' b q T p' a c d rf pl P := by
  have hne := h.ne
  refine ⟨hf.row h.res (by omega), hf.row h.box (by omega), hr, h.fb.trans hf, h.ne, h.sz, ?_⟩
  refine (h.nw.mono (Nat.le_refl _) hf.size).keep fun i o x h1 _ h3 => ?_
  have := hf.block i (cell_block h3) (by omega)
  simp only [World.cell?, this] at h3 ⊢
  exact h3
theorem McI.calm (h : McI w W b q T p a c d rf pl P) (hb : Below W.heap.size W W') : McI w W' b q T p a c d rf pl P := h.step (Fb.of hb) (RowAt.below h.rd hb (RowAt.lt h.rd))
theorem McI.more (h : McI w W b q T p a c d rf pl P) (hq : Nw (q + 2) W.heap.size Q W) : McI w W b q T p a c d rf pl (fun W => P W ∧ Q W) := ⟨h.res, h.box, h.rd, h.fb, h.ne, h.sz, fun W2 h2 => ⟨h.nw W2 h2, hq W2 h2⟩⟩
theorem McI.put (h : McI w W b q T p a c d rf pl P) (i : Nat) (v : Value) (hc : (mac a c d rf pl).setIfInBounds i v = mac a' c' d' rf' pl') : McI w (W.setCell ⟨q + 1, i, none⟩ v) b q T p a' c' d' rf' pl' P := by
  have hne := h.ne
  have hsz := h.sz
  refine ⟨RowAt.setOther h.res ⟨q + 1, i, none⟩ v (by show q ≠ q + 1; omega), ?_, RowAt.setOther h.rd ⟨q + 1, i, none⟩ v (by show b ≠ q + 1; omega), ?_, h.ne, h.sz, ?_⟩
  · rw [← hc]; exact RowAt.set h.box i v
  · exact ⟨h.fb.os, h.fb.tape, h.fb.output, by rw [World.size_setCell]; exact h.fb.size, fun k hk hb => (heap_setCell_other W ⟨q + 1, i, none⟩ k v (by show k ≠ q + 1; omega)).trans (h.fb.block k hk hb)⟩
  · rw [World.size_setCell]
    refine h.nw.keep fun j o x h1 _ h3 => ?_
    have := heap_setCell_other W ⟨q + 1, i, none⟩ j v (by show j ≠ q + 1; omega)
    simp only [World.cell?, this] at h3 ⊢
    exact h3
theorem heap_lay {g j : Nat} (hj : j ≠ g) : ∀ (l : List Value) (o : Nat) (W : World), (W.setCells g o l).heap[j]? = W.heap[j]?
  | [], _, _ => rfl
  | v :: l, o, W => (heap_lay hj l (o + 1) (W.setCell ⟨g, o, none⟩ v)).trans (heap_setCell_other W ⟨g, o, none⟩ j v hj)
theorem McI.lay (h : McI w W b q T p a c d rf pl P) (o : Nat) (l : List Value) (hc : setMany (mac a c d rf pl) o l = mac a' c' d' rf' pl') : McI w (W.setCells (q + 1) o l) b q T p a' c' d' rf' pl' P := by
  have hne := h.ne
  have hsz := h.sz
  have hB := below_setCells (B := q + 1) (g := q + 1) (Nat.le_refl _) (l := l) (o := o) (Below.refl _ W)
  refine ⟨row_setCells_other (by omega) h.res, ?_, row_setCells_other (by omega) h.rd, ?_, h.ne, h.sz, ?_⟩
  · rw [← hc]; exact row_setCells h.box
  · exact ⟨hB.os.trans h.fb.os, hB.tape.trans h.fb.tape, hB.output.trans h.fb.output, Nat.le_trans h.fb.size hB.size, fun k hk hb => (heap_lay (by omega) l o W).trans (h.fb.block k hk hb)⟩
  · refine (h.nw.mono (Nat.le_refl _) hB.size).keep fun j o2 x h1 _ h3 => ?_
    have := heap_lay (g := q + 1) (j := j) (by omega) l o W
    simp only [World.cell?, this] at h3 ⊢
    exact h3
theorem McI.drew (h : McI w W b q T p a c d rf pl P) : McI w W.drew b q T p a c d rf pl P := ⟨h.res, h.box, h.rd, ⟨h.fb.os, h.fb.tape, h.fb.output, h.fb.size, h.fb.block⟩, h.ne, h.sz, h.nw⟩
theorem McI.fin (h : McI w W b q T p a c d rf pl P) (MC : Array Value) : RdAt (W.setRow q MC) b T p ∧ Fb b w (W.setRow q MC) ∧ Nw q (W.setRow q MC).heap.size P (W.setRow q MC) := by
  have hne := h.ne
  have hsz := h.sz
  have hB := PK.Below.setRow (Below.refl q W) q (Nat.le_refl _) MC
  refine ⟨RowAt.rowOther h.rd q MC (by omega), ⟨hB.os.trans h.fb.os, hB.tape.trans h.fb.tape, hB.output.trans h.fb.output, Nat.le_trans h.fb.size hB.size, fun k hk hb => (setRow_other W q k MC (by omega)).trans (h.fb.block k hk hb)⟩, ?_⟩
  refine (h.nw.keep fun j o2 x h1 _ h3 => ?_).mono (by omega) hB.size
  have := setRow_other W q j MC (by omega)
  simp only [World.cell?, this] at h3 ⊢
  exact h3
theorem McI.there (h : McI w W b q T p a c d rf pl P) {o n : Nat} (hn : o + n ≤ 55) : W.there (q + 1) o n := fun j hj => by
  have hlt : o + j < (mac a c d rf pl).size := by rw [mac_size]; omega
  exact ⟨by rw [RowAt.cell h.box (Array.getElem?_eq_getElem hlt)]; rfl, RowAt.frozen h.box _⟩
end
end Go.Proofs.YtkohhdkkbaifoaaGreatDoor
