/-
  Several texts, joined: ScCh, PtH, PtI.
-/
import Derived.Test.YtkohhdkkbaifoaaGreatDoorScSw
import Derived.Test.YtkohhdkkbaifoaaGreatDoorJn25
import Derived.Maps.AppendAt
import Derived.Test.YtkohhdkkbaifoaaGreatDoorJn33
/-
  A chain, as it is read: the walk.
-/
namespace Go.Proofs.YtkohhdkkbaifoaaGreatDoor
open Go.RowKit PK Vg

theorem i3_step17 : (Tryz.prog.info? 31).map (fun i => (i.zero, i.size, i.bytes)) = some (some (.agg (spA 0 0 ⟨#[]⟩ (.slice none 0 0) (.slice none 0 0) (.slice none 0 0) (.slice none 0 0) (fun _ => 0) (fun _ => 0))), 59, 544) := by kernel_rfl
def slN : Value → Nat
  | .slice _ n _ => n
  | _ => 0
theorem rStep_ok {t : List UInt8} {place p : Nat} {x : Sp × Nat} (h : rStep t place p = .ok x) : place < 64 := by
  unfold rStep at h
  rcases hw : rWord t p with e | ⟨l, q⟩
  · rw [hw] at h; cases h
  · rw [hw] at h
    change (match nmK ⟨l.toArray⟩ with | none => _ | some (k, n) => _) = _ at h
    cases hk : nmK ⟨l.toArray⟩ with
    | none => rw [hk] at h; cases h
    | some kn =>
      obtain ⟨k, n⟩ := kn
      rw [hk] at h
      change (if 64 ≤ place then _ else _) = _ at h
      by_cases h64 : 64 ≤ place
      · rw [if_pos h64] at h; cases h
      · omega
/-- A step of a list. -/
def spD (L : List Sp) (i : Nat) : Sp := L.getD i (sp0 0 0)
theorem spD_old {L : List Sp} {s : Sp} {j : Nat} (h : j < L.length) : spD (L ++ [s]) j = spD L j := by
  unfold spD
  simp only [List.getD]
  rw [List.getElem?_append_left h]
theorem spD_new (L : List Sp) (s : Sp) : spD (L ++ [s]) L.length = s := by
  unfold spD
  simp only [List.getD]
  rw [List.getElem?_append_right (Nat.le_refl _), Nat.sub_self]
  rfl
/-- What is held between two steps. -/
structure ChI (w W : World) (b : Nat) (T : ByteArray) (v : Value) (L : List Sp) (R : Nat → Array Value) (p : Nat) : Prop where
  own : SpO W w.heap.size v L.length (spD L) R
  rd : RdAt W b T p
  fb : Fb b w W
  ne : b < w.heap.size
theorem ChI.calm {w W W' : World} {b : Nat} {T : ByteArray} {v : Value} {L : List Sp} {R : Nat → Array Value} {p : Nat} (h : ChI w W b T v L R p) (hb : Below W.heap.size W W') : ChI w W' b T v L R p :=
  ⟨h.own.below hb, RowAt.below h.rd hb (RowAt.lt h.rd), h.fb.trans (Fb.of hb), h.ne⟩
theorem ChI.step {w W W' : World} {b : Nat} {T : ByteArray} {v : Value} {L : List Sp} {R : Nat → Array Value} {p q : Nat} (h : ChI w W b T v L R p) (hf : Fb b W W') (hr : RdAt W' b T q) : ChI w W' b T v L R q :=
  ⟨h.own.fb hf h.ne, hr, h.fb.trans hf, h.ne⟩
theorem Fb.grown {b : Nat} {A B C : World} {row : Option Nat} (h : Fb b A B) (hg : B.grownBy C row) (hr : ∀ r, row = some r → A.heap.size ≤ r) : Fb b A C :=
  ⟨hg.os.trans h.os, hg.tape.trans h.tape, hg.output.trans h.output, Nat.le_trans h.size hg.size, fun i hi hb => (hg.block i (by have := h.size; omega) (fun e => by have := hr i e.symm; omega)).trans (h.block i hi hb)⟩
set_option maxRecDepth 100000 in
set_option maxHeartbeats 4000000 in
theorem rchain17_any (b : Nat) (T : ByteArray) (w : World) (hr : RdAt w b T 0) (hs : T.size ≤ 65536) (hn : NmAt w) (he : ErAt w) (hgb : gRange < b ∧ 1 < b) : Calls Tryz.prog 56 #[.pointer (some ⟨b, 0, none⟩)] w fun e w' => Told (rBind (rStep T.data.toList 0 0) fun s q => rMore T.data.toList 66 [s] q) e (fun L _ v => Nw w.heap.size w'.heap.size (fun W => ChAt W v L.length (spD L)) w') ∧ Fb b w w' := by
  have hbl := RowAt.lt hr
  obtain ⟨RR, hRR0⟩ : ∃ RR, RR = (rBind (rStep T.data.toList 0 0) fun s q => rMore T.data.toList 66 [s] q) := ⟨_, rfl⟩
  have HRM : Hid (RR = (rBind (rStep T.data.toList 0 0) fun s q => rMore T.data.toList 66 [s] q)) := hRR0
  rw [← hRR0]
  clear hRR0
  have htl := Pl.size_len T
  have HGL : Hid (∀ W, Fb b w W → ErAt W ∧ NmAt W) := fun W hW => ⟨he.fb hW hgb.1, hn.fb hW hgb.2⟩
  have HST : Hid _ := rstep17_any b T 0 0 w hr hs hn he hgb (by omega)
  obtain ⟨i0, hi0, hz0, hz1, hz2⟩ := info17 i3_step17
  clear hr hn he
  go_enter Tryz.func56, Tryz.ntmps56
  go_wp2_with fail
  refine Calls.mono HST.out ?_
  rintro e V1 ⟨ht, hf⟩
  rcases hw1 : rStep T.data.toList 0 0 with ⟨E, A⟩ | ⟨s1, p1⟩
  · rw [hw1] at ht
    obtain rfl : e = .panicked [flt E A] := ht
    have hRR : RR = .error (E, A) := by have h := HRM.out; rw [hw1] at h; exact h
    exact ⟨rfl, by rw [hRR]; rfl, hf⟩
  rw [hw1] at ht
  obtain ⟨v, rfl, c, rfl, hnw, hrd⟩ := ht
  have HRM1 : Hid (RR = rMore T.data.toList 66 [s1] p1) := by have h := HRM.out; rw [hw1] at h; exact h
  have hc59 := (sq_size hnw.here).1
  have hI0 : ChI w (V1.alloc (.cells c 31)) b T (.slice (some ⟨V1.heap.size, 0, none⟩) 1 1) [s1] (fun _ => c) p1 := by
    refine ⟨(SpO.first hf.size hnw).congr (fun j hj => ?_) (fun _ _ => rfl), RowAt.alloc hrd _, hf.trans (Fb.alloc b _ _), hbl⟩
    obtain rfl : j = 0 := by simp at hj; omega
    rfl
  have HI0 : Hid _ := hI0
  clear hI0 HRM HST hw1 hf hrd hnw
  go_upto_region 2 with (first | refine wpList_build17 rfl 22 31 _ rfl 59 (spA 0 0 ⟨#[]⟩ (.slice none 0 0) (.slice none 0 0) (.slice none 0 0) (.slice none 0 0) (fun _ => 0) (fun _ => 0)) c rfl (by decide) (by decide) Tryz.underlying22 (spA_size _ _ _ _ _ _ _ _ _) hc59 s_zs17 ?_)
  go_loopw [3] (fun o W => ∃ (L : List Sp) (R : Nat → Array Value) (p : Nat) (g : Option Addr) (cp : Nat), o = .slice g L.length cp ∧ (1 ≤ L.length ∧ L.length ≤ 64) ∧ Hid (RR = rMore T.data.toList (67 - L.length) L p) ∧ Hid (ChI w W b T (.slice g L.length cp) L R p)) (fun o _ => 65 - slN o)
  case atStart => exact ⟨[s1], fun _ => c, p1, _, _, rfl, ⟨by simp, by simp⟩, HRM1, HI0⟩
  case round =>
    clear HI0 HRM1 hc59
    obtain ⟨L, R, p, g, cp, rfl, ⟨hl1, hl2⟩, HRM, HI⟩ := hrel
    have HEN : Hid _ := ended_any b T p wr HI.out.rd
    obtain ⟨k, hk⟩ : ∃ k, k = L.length := ⟨_, rfl⟩
    rw [← hk] at hl1 hl2 ⊢
    have HK : Hid (L.length = k) := hk.symm
    clear hk
    go_wp2_with fail
    refine Calls.mono HEN.out ?_
    rintro e V2 ⟨rfl, hb⟩
    have HI2 : Hid _ := HI.out.calm hb
    have hrm := HRM.out
    rw [HK.out, show 67 - k = (66 - k) + 1 by omega] at hrm
    change RR = (if T.data.toList.length < p then _ else _) at hrm
    clear HI HEN HRM hb
    by_cases hend : T.size < p
    · have hd : decide (T.size < p) = true := by simpa using hend
      rw [hd]
      have HRR : Hid (RR = .ok (L, p)) := by rw [Hid, hrm, if_pos (by omega)]
      clear hd hend hrm
      go_wp2
      go_ret
      refine ⟨?_, HI2.out.fb⟩
      rw [HRR.out]
      exact ⟨_, rfl, by rw [← HK.out]; exact HI2.out.own.chain⟩
    · have hd : decide (T.size < p) = false := by simpa using hend
      rw [hd]
      rw [if_neg (by omega)] at hrm
      have HRM : Hid _ := hrm
      have HWD : Hid _ := word_rz b T p V2 HI2.out.rd hs
      clear hd hrm hend
      go_wp2_with fail
      refine Calls.mono HWD.out ?_
      rintro e V3 ⟨ht, hf⟩
      rcases hw2 : rWord T.data.toList p with ⟨E, A⟩ | ⟨l2, p2⟩
      · rw [hw2] at ht
        obtain rfl : e = .panicked [flt E A] := ht
        have hRR : RR = .error (E, A) := by have h := HRM.out; rw [hw2] at h; exact h
        exact ⟨rfl, by rw [hRR]; rfl, HI2.out.fb.trans hf⟩
      rw [hw2] at ht
      obtain ⟨v, rfl, rfl, hrd⟩ := ht
      have hrm := HRM.out
      rw [hw2] at hrm
      change RR = (if l2 = [124] then _ else _) at hrm
      obtain ⟨X3, hX3⟩ : ∃ X3, X3 = V3.alloc (.cells #[.string ⟨l2.toArray⟩, .int .i64 (p : Int)] 137) := ⟨_, rfl⟩
      have hI4 : ChI w X3 b T (.slice g L.length cp) L R p2 := by rw [hX3]; exact (HI2.out.step hf hrd).calm ((Below.refl _ _).alloc (Nat.le_refl _) _)
      have hwr : RowAt X3 V3.heap.size 137 #[.string ⟨l2.toArray⟩, .int .i64 (p : Int)] := by rw [hX3]; exact RowAt.new V3 _ _
      have c0 := RowAt.cell hwr (i := 0) rfl
      have c1 := RowAt.cell hwr (i := 1) rfl
      have HI4 : Hid _ := hI4
      have HRM3 : Hid _ := hrm
      clear HRM HWD HI2 hI4 hf hrd hw2 hrm hwr
      unfold wdV
      go_upto_region 4 with fail
      rw [← hX3]
      clear hX3
      by_cases hbar : l2 = [124]
      · have hbn : (l2 == [124]) = true := by simpa using hbar
        have HRM : Hid (RR = rBind (rStep T.data.toList k p2) fun s q' => rMore T.data.toList (66 - k) (L ++ [s]) q') := by rw [Hid, HRM3.out, if_pos hbar, HK.out]
        have HST : Hid _ := rstep17_any b T p2 k X3 HI4.out.rd hs (HGL.out _ HI4.out.fb).2 (HGL.out _ HI4.out.fb).1 hgb hl2
        clear HRM3 hbar
        go_wp2_with fail
        refine Calls.mono HST.out ?_
        rintro e V5 ⟨ht, hf⟩
        rcases hw3 : rStep T.data.toList k p2 with ⟨E, A⟩ | ⟨s, p3⟩
        · rw [hw3] at ht
          obtain rfl : e = .panicked [flt E A] := ht
          have hRR : RR = .error (E, A) := by have h := HRM.out; rw [hw3] at h; exact h
          exact ⟨rfl, by rw [hRR]; rfl, HI4.out.fb.trans hf⟩
        have hk64 := rStep_ok hw3
        rw [hw3] at ht
        obtain ⟨v, rfl, c, rfl, hnw, hrd⟩ := ht
        have HRM5 : Hid (RR = rMore T.data.toList (66 - k) (L ++ [s]) p3) := by have h := HRM.out; rw [hw3] at h; exact h
        obtain ⟨hc59, hc1⟩ := sq_size hnw.here
        have hI5 := HI4.out.step hf hrd
        have HOW : Hid (∀ g', (Value.slice g L.length cp).ownBlock = some g' → w.heap.size ≤ g' ∧ g' < X3.heap.size) := fun g' hg' => World.ownsRow.lt HI4.out.own.own g' hg'
        have hsz5 : X3.heap.size ≤ V5.heap.size := hf.size
        have hwz : w.heap.size ≤ V5.heap.size := hI5.fb.size
        have HX3 : Hid (w.heap.size ≤ X3.heap.size) := HI4.out.fb.size
        have hown := hI5.own.own
        rw [HK.out] at hown
        have HI5 : Hid _ := hI5
        have HNW : Hid (Nw X3.heap.size V5.heap.size (fun W => SqAt W (.agg c) s) V5) := hnw
        have HC1 : Hid (c.all (·.oneCell') = true) := hc1
        clear hI5 hnw hc1 hrd hf HST HRM hw3 HI4 c0 c1
        go_wp2_with (first | refine wpList_build17 rfl 22 31 _ rfl 59 (spA 0 0 ⟨#[]⟩ (.slice none 0 0) (.slice none 0 0) (.slice none 0 0) (.slice none 0 0) (fun _ => 0) (fun _ => 0)) c rfl (by decide) (by decide) Tryz.underlying22 (spA_size _ _ _ _ _ _ _ _ _) hc59 s_zs17 ?_ | (at_builtin; refine wpList_append_own_at _ rfl _ _ 22 rfl w.heap.size 31 i0 (.agg (spA 0 0 ⟨#[]⟩ (.slice none 0 0) (.slice none 0 0) (.slice none 0 0) (.slice none 0 0) (fun _ => 0) (fun _ => 0))) 59 544 Tryz.underlying22 hi0 hz0 hz1 hz2 (spA_size _ _ _ _ _ _ _ _ _) (by decide) _ _ _ rfl (World.ownsRow.alloc hown _) ⟨V5.heap.size, 0, none⟩ 1 1 c.toList rfl (by rw [Array.length_toList, hc59]) (fun q u hu => by rw [Addr.add_mid, Nat.zero_add]; exact (RowAt.new V5 31 c).cell (by rw [← Array.getElem?_toList]; exact hu)) (fun u hu => by have := HC1.out; rw [← Array.all_toList] at this; exact List.all_eq_true.1 this u hu) (by unfold maxLen; omega) (by omega) (by simp; omega) ?_; intro v5 w5 hown5 hgrow5 _ hat5; obtain ⟨g5, c5, rfl⟩ := own_form17 hown5; have HOWN : Hid _ := hown5; have HGR : Hid _ := hgrow5; have HAT : Hid _ := hat5; clear hown5 hgrow5 hat5))
        have hal : Below V5.heap.size V5 (V5.alloc (.cells c 31)) := (Below.refl _ V5).alloc (Nat.le_refl _) _
        have hsp := HI5.out.own
        rw [HK.out] at hsp
        have hmore := (hsp.below hal).more (b := X3.heap.size) (c := c) (s := s) (by have := HI5.out.fb.size; have := HX3.out; omega) (fun g' hg' => (HOW.out g' (by rw [HK.out]; exact hg')).2) ((HNW.out.mono (Nat.le_refl _) hal.size).below hal) HOWN.out HGR.out HAT.out
        have hnew : ChI w w5 b T (.slice g5 (L ++ [s]).length c5) (L ++ [s]) (fun i => if i = L.length then c else R i) p3 := by
          refine ⟨?_, ?_, ?_, hbl⟩
          · rw [List.length_append]
            show SpO w5 w.heap.size (.slice g5 (L.length + 1) c5) (L.length + 1) (spD (L ++ [s])) _
            rw [HK.out]
            refine hmore.congr (fun j hj => ?_) (fun _ _ => rfl)
            by_cases e : j = k
            · rw [if_pos e, e, ← HK.out]; exact spD_new L s
            · rw [if_neg e]; exact spD_old (by rw [HK.out]; omega)
          · exact (HGR.out.block b (by have := HI5.out.fb.size; rw [World.size_alloc]; omega) (fun e => by have := (HOW.out b (by rw [HK.out]; exact e.symm)).1; omega)).trans (RowAt.alloc HI5.out.rd _)
          · exact (HI5.out.fb.trans (Fb.of hal)).grown HGR.out (fun r e => (HOW.out r (by rw [HK.out]; exact e)).1)
        have hlen : (L ++ [s]).length = k + 1 := by rw [List.length_append, HK.out]; rfl
        go_wp2
        go_roundw
        case rel => exact ⟨L ++ [s], fun i => if i = L.length then c else R i, p3, g5, c5, by rw [hlen], by rw [hlen]; exact ⟨by omega, by omega⟩, by rw [Hid, HRM5.out, hlen, show 67 - (k + 1) = 66 - k by omega], hnew⟩
        case measure => simp [slN]; omega
      · have hbn : (l2 == [124]) = false := by simpa using hbar
        have HRR : Hid (RR = .error (2, p)) := by rw [Hid, HRM3.out, if_neg hbar]
        have HTH : Hid _ := throw_any 2 (p : Int) X3
        clear HRM3 hbar
        go_wp2_with fail
        refine Calls.mono HTH.out ?_
        rintro e V4 ⟨rfl, rfl⟩
        exact ⟨rfl, by rw [HRR.out]; rfl, HI4.out.fb⟩
end Go.Proofs.YtkohhdkkbaifoaaGreatDoor

/-
  What is written is read: chains.
-/
namespace Go.Proofs.YtkohhdkkbaifoaaGreatDoor
open Go.RowKit PK Vg

/-- What is left of a chain's text behind a step. -/
def tlS (ws : List (List UInt8)) : List UInt8 := Lib.joinTail [32, 124, 32] ws
theorem tlS_bar (ws : List (List UInt8)) : Bar (tlS ws) := by
  cases ws with
  | nil => left; rfl
  | cons w ws => right; exact ⟨w ++ tlS ws, by unfold tlS Lib.joinTail; simp⟩
theorem tlS_cons (w : List UInt8) (ws : List (List UInt8)) : tlS (w :: ws) = 32 :: 124 :: 32 :: (w ++ tlS ws) := by unfold tlS; simp [Lib.joinTail]
def stW (s : Sp) : List UInt8 := Lib.join ((woW s).map (·.data.toList)) [32]
theorem lies_step {A r : List UInt8} (s : Sp) (hb : Bar r) : Lies (A ++ (stW s ++ r)) A.length ((woW s).map (·.data.toList)) r := by
  refine ⟨A, rfl, rfl, ?_⟩
  rcases hb with rfl | ⟨r', rfl⟩
  · exact .inl rfl
  · exact .inr ⟨_, rfl⟩
/-- The steps of a list, read. -/
def AllS (L : List Sp) (m : List Sp) : Prop := L.length = m.length ∧ ∀ i, i < m.length → SameS (spD L i) (plnS (spD m i))
theorem more_read : ∀ (f : Nat) (rest done L : List Sp) (A : List UInt8), (∀ s ∈ rest, stE s = 0 ∧ woE s = 0) → done.length + rest.length ≤ 64 → rest.length < f → AllS L done → ∃ L' q, rMore (A ++ tlS (rest.map stW)) f L (A.length + 1) = .ok (L', q) ∧ AllS L' (done ++ rest)
  | 0, rest, done, L, A, _, _, hf, _ => by omega
  | f + 1, [], done, L, A, _, _, _, ha => by
    refine ⟨L, A.length + 1, ?_, by simpa using ha⟩
    unfold rMore
    rw [if_pos (by simp [tlS, Lib.joinTail])]
  | f + 1, s :: rest, done, L, A, hs, hl, hf, ha => by
    obtain ⟨hs1, hs2⟩ := hs s (by simp)
    rw [List.length_cons] at hl hf
    have e0 : A ++ tlS ((s :: rest).map stW) = (A ++ [32]) ++ ([124] ++ 32 :: (stW s ++ tlS (rest.map stW))) := by rw [List.map_cons, tlS_cons]; simp
    have e1 : A ++ tlS ((s :: rest).map stW) = (A ++ [32, 124, 32]) ++ (stW s ++ tlS (rest.map stW)) := by rw [List.map_cons, tlS_cons]; simp
    have hw := rWord_mid (A := A ++ [32]) (w := [124]) (r := stW s ++ tlS (rest.map stW)) (by decide) (by decide)
    rw [← e0] at hw
    have hli := lies_step (A := A ++ [32, 124, 32]) s (tlS_bar (rest.map stW))
    rw [← e1] at hli
    have hL : L.length < 64 := by rw [ha.1]; omega
    obtain ⟨s', q, h1, h2, h3⟩ := sd_any (place := L.length) hs1 hs2 hL (tlS_bar _) hli
    have hq : q = (A ++ [32, 124, 32] ++ stW s).length + 1 := by
      rw [e1] at h3
      simp only [List.length_append] at h3 ⊢
      omega
    have e2 : A ++ tlS ((s :: rest).map stW) = (A ++ [32, 124, 32] ++ stW s) ++ tlS (rest.map stW) := by rw [e1]; simp
    have ha' : AllS (L ++ [s']) (done ++ [s]) := by
      refine ⟨by simp [ha.1], fun i hi => ?_⟩
      rw [List.length_append] at hi
      by_cases e : i < done.length
      · rw [spD_old (by rw [ha.1]; exact e), spD_old e]
        exact ha.2 i e
      · have hi2 : i = done.length := by simp at hi; omega
        subst hi2
        rw [spD_new]
        rw [← ha.1, spD_new]
        exact h2
    obtain ⟨L', q', h4, h5⟩ := more_read f rest (done ++ [s]) (L ++ [s']) (A ++ [32, 124, 32] ++ stW s) (fun x hx => hs x (by simp [hx])) (by simp; omega) (by omega) ha'
    refine ⟨L', q', ?_, by simpa using h5⟩
    unfold rMore
    rw [if_neg (by rw [e1]; simp), show A.length + 1 = (A ++ [32]).length by simp, hw]
    simp only [rBind, List.length_cons, List.length_nil, if_true]
    have e3 : (A ++ [32]).length + (0 + 1) + 1 = (A ++ [32, 124, 32]).length := by simp
    rw [e3, h1]
    show rMore _ f (L ++ [s']) q = _
    rw [hq, e2]
    exact h4
theorem prS_list (n : Nat) (l : Nat → Sp) : prS n l = Lib.join (((List.range n).map l).map stW) [32, 124, 32] := by
  unfold prS prL
  congr 1
  rw [List.map_map, List.map_map]
  rfl
/-- WHAT IS WRITTEN IS READ. -/
theorem prS_read {n : Nat} {l : Nat → Sp} (h : prE n l = 0) (hs : (prS n l).length ≤ 65536) : ∃ L q, rRead (prS n l) = .ok (L, q) ∧ L.length = n ∧ ∀ i, i < n → SameS (spD L i) (plnS (l i)) := by
  unfold prE at h
  by_cases hc : chE n l ≠ 0
  · rw [if_pos hc] at h; exact absurd h hc
  rw [if_neg hc] at h
  obtain ⟨hn, hst⟩ := chE_zero (Decidable.not_not.1 hc)
  by_cases h0 : n = 0
  · rw [if_pos h0] at h; cases h
  rw [if_neg h0] at h
  have hwo := firV_zero h
  obtain ⟨m, hm⟩ : ∃ m, n = m + 1 := ⟨n - 1, by omega⟩
  obtain ⟨xs, hxs⟩ : ∃ xs, xs = (List.range n).map l := ⟨_, rfl⟩
  have hxl : xs.length = n := by rw [hxs]; simp
  have hxg : ∀ i, i < n → spD xs i = l i := fun i hi => by
    unfold spD
    rw [hxs, List.getD_eq_getElem?_getD]
    simp [hi]
  have hxm : ∀ s ∈ xs, stE s = 0 ∧ woE s = 0 := fun s hs => by
    rw [hxs] at hs
    obtain ⟨i, hi, rfl⟩ := List.mem_map.1 hs
    have hi : i < n := by simpa using hi
    exact ⟨hst i hi, hwo i hi⟩
  obtain ⟨s, rest, hsr⟩ : ∃ s rest, xs = s :: rest := by
    cases hx : xs with
    | nil => rw [hx] at hxl; simp at hxl; omega
    | cons s r => exact ⟨s, r, rfl⟩
  have et : prS n l = [] ++ (stW s ++ tlS (rest.map stW)) := by
    rw [prS_list, ← hxs, hsr, List.map_cons, Lib.join_cons]
    rfl
  have hli := lies_step (A := []) s (tlS_bar (rest.map stW))
  rw [← et] at hli
  rw [hsr] at hxm hxl
  obtain ⟨hs1, hs2⟩ := hxm s (by simp)
  obtain ⟨s', q, h1, h2, h3⟩ := sd_any (place := 0) hs1 hs2 (by omega) (tlS_bar _) hli
  have hq : q = (stW s).length + 1 := by
    rw [et] at h3
    simp only [List.length_append, List.length_nil] at h3
    omega
  rw [List.length_cons] at hxl
  obtain ⟨L', q', h4, h5, h6⟩ := more_read 66 rest [s] [s'] (stW s) (fun x hx => hxm x (by simp [hx])) (by simp; omega) (by omega) ⟨rfl, fun i hi => by
    have : i = 0 := by simp at hi; omega
    subst this
    exact h2⟩
  refine ⟨L', q', ?_, by rw [h5]; simp; omega, fun i hi => ?_⟩
  · unfold rRead
    rw [if_neg (by omega)]
    rw [show rStep (prS n l) 0 0 = .ok (s', q) from h1]
    show rMore _ 66 [s'] q = _
    rw [hq, et]
    exact h4
  · have := h6 i (by simp; omega)
    rw [show [s] ++ rest = xs by rw [hsr]; rfl, hxg i hi] at this
    exact this
end Go.Proofs.YtkohhdkkbaifoaaGreatDoor

/-
  What is read can be written, and has what its kind has alone.
-/
namespace Go.Proofs.YtkohhdkkbaifoaaGreatDoor
open Go.RowKit PK Vg

theorem rBind_ok {α β : Type} {r : Rz α} {f : α → Nat → Rz β} {y : β × Nat} (h : rBind r f = .ok y) : ∃ x q, r = .ok (x, q) ∧ f x q = .ok y := by
  unfold rBind at h
  rcases r with e | ⟨x, q⟩
  · cases h
  · exact ⟨x, q, rfl, h⟩
theorem rChk_ok {α : Type} {E : Int} {A : Nat} {r : Rz α} {y : α × Nat} (h : rChk E A r = .ok y) : E = 0 ∧ r = .ok y := by
  unfold rChk at h
  by_cases e : E = 0
  · rw [if_pos e] at h; exact ⟨e, h⟩
  · rw [if_neg e] at h; cases h
theorem rNum_ok {t : List UInt8} {lo hi : Int} {p : Nat} {x q : Nat} (h : rNum t lo hi p = .ok (x, q)) : lo ≤ x ∧ (x : Int) ≤ hi := by
  unfold rNum at h
  obtain ⟨l, q', _, h2⟩ := rBind_ok h
  obtain ⟨h3, h4⟩ := rChk_ok h2
  cases h4
  unfold numE at h3
  by_cases e : isNum l = false
  · rw [if_pos e] at h3; cases h3
  · rw [if_neg e] at h3; exact inE_zero.1 h3
theorem rNums_ok {t : List UInt8} {p : Nat} : ∀ {m : Nat} {L : List Nat} {q : Nat}, rNums t p m = .ok (L, q) → L.length = m ∧ ∀ x ∈ L, x ≤ 25
  | 0, L, q, h => by cases h; exact ⟨rfl, fun x hx => by cases hx⟩
  | m + 1, L, q, h => by
    unfold rNums at h
    obtain ⟨L0, q0, h1, h2⟩ := rBind_ok h
    obtain ⟨x, q1, h3, h4⟩ := rBind_ok h2
    cases h4
    obtain ⟨a, b⟩ := rNums_ok h1
    have := rNum_ok h3
    refine ⟨by simp [a], fun y hy => ?_⟩
    rcases List.mem_append.1 hy with hy | hy
    · exact b y hy
    · have : y = x := by simpa using hy
      omega
theorem fstN_some {f : Nat → ByteArray} {s : ByteArray} : ∀ {m i : Nat}, fstN f s m = some i → i < m ∧ f i = s
  | 0, i, h => by cases h
  | m + 1, i, h => by
    unfold fstN at h
    cases hm : fstN f s m with
    | some j =>
      rw [hm] at h
      cases h
      obtain ⟨a, b⟩ := fstN_some hm
      exact ⟨by omega, b⟩
    | none =>
      rw [hm] at h
      by_cases hp : f m = s
      · simp only [if_pos hp] at h; cases h; exact ⟨Nat.lt_succ_self _, hp⟩
      · simp only [if_neg hp] at h; cases h
theorem nmK_ok {s : ByteArray} {k n : Nat} (h : nmK s = some (k, n)) (h0 : s ≠ ⟨#[]⟩) : ((k = 1 ∨ k = 3 ∨ k = 4 ∨ k = 5 ∨ k = 6) ∧ n = 0) ∨ (k = 2 ∧ 1 ≤ n ∧ n ≤ 4) := by
  unfold nmK at h
  cases hm : fstN nmN s 7 with
  | some j =>
    rw [hm] at h
    cases h
    obtain ⟨a, b⟩ := fstN_some hm
    refine .inl ⟨?_, rfl⟩
    match k, a, b with
    | 0, _, b => exact absurd b.symm h0
    | 1, _, _ => omega
    | 2, _, b => exact absurd b.symm h0
    | 3, _, _ => omega
    | 4, _, _ => omega
    | 5, _, _ => omega
    | 6, _, _ => omega
  | none =>
    rw [hm] at h
    cases ht : fstN tbN s 5 with
    | none => rw [ht] at h; cases h
    | some j =>
      rw [ht] at h
      cases h
      obtain ⟨a, b⟩ := fstN_some ht
      refine .inr ⟨rfl, ?_, by omega⟩
      match n, a, b with
      | 0, _, b => exact absurd b.symm h0
      | n + 1, _, _ => omega
/-! ### Machines -/
theorem knE_name {l : List UInt8} (h : knE l = 0) : ∃ j, j < 5 ∧ l = (whN j).data.toList := by
  unfold knE at h
  cases hk : knI l with
  | none => rw [hk] at h; cases h
  | some x =>
    have h1 := List.mem_of_find?_eq_some hk
    have h2 := List.find?_some hk
    have h2 : x.1 = l := by simpa using h2
    unfold knT at h1
    simp only [List.mem_cons, List.not_mem_nil, or_false] at h1
    rcases h1 with rfl | rfl | rfl | rfl | rfl
    · exact ⟨0, by decide, h2.symm⟩
    · exact ⟨1, by decide, h2.symm⟩
    · exact ⟨2, by decide, h2.symm⟩
    · exact ⟨3, by decide, h2.symm⟩
    · exact ⟨4, by decide, h2.symm⟩
set_option maxRecDepth 100000 in
theorem kn_right : ∀ j, j < 5 → Pm.wrong (knW (whN j).data.toList) = 0 ∧ ins (knN (whN j).data.toList).length (fun i => (((knN (whN j).data.toList).getD i 0 : Nat) : Int)) = true := by decide +kernel
set_option maxRecDepth 100000 in
theorem mi_right : ∀ j, j < 2 → Pm.wrong (miP (mrN j).data.toList) = 0 ∧ undo true (miP (mrN j).data.toList) = true := by decide +kernel
theorem miE_name {l : List UInt8} (h : miE l = 0) : ∃ j, j < 2 ∧ l = (mrN j).data.toList := by
  unfold miE at h
  by_cases e : l = [66] ∨ l = [67]
  · rcases e with e | e
    · exact ⟨0, by decide, e⟩
    · exact ⟨1, by decide, e⟩
  · rw [if_neg e] at h; cases h
theorem setE_ok {l : List UInt8} {m : Nat} (h : setE l m = 0) : l.length = m ∧ ins m (setF l) = true := by
  unfold setE at h
  by_cases h1 : ckE l ≠ 0
  · rw [if_pos h1] at h; exact absurd h h1
  rw [if_neg h1] at h
  by_cases h2 : l.length ≠ m
  · rw [if_pos h2] at h; cases h
  have h2 := Decidable.not_not.1 h2
  refine ⟨h2, (ins_iff _ _).2 fun i hi => ?_⟩
  have hl := (ls_ck (Decidable.not_not.1 h1)).1
  have hm : l[i]'(by omega) ∈ l := List.getElem_mem _
  have := hl _ hm
  unfold setF
  rw [List.getD_eq_getElem?_getD, List.getElem?_eq_getElem (by omega)]
  simp only [Option.getD_some]
  unfold Vg.num
  omega
theorem id_plugs : Pm.wrong (Pm.up fun i => i) = 0 ∧ undo false (Pm.up fun i => i) = true := ⟨Pm.wrong_up _ ⟨fun i hi => hi, fun i j _ _ h => h⟩, (undo_iff _ _).2 fun i _ => ⟨rfl, fun h => by cases h⟩⟩
theorem rPlg_ok {t : List UInt8} {p : Nat} {pl : Nat → Int} {q : Nat} (h : rPlg t p = .ok (pl, q)) : Pm.wrong pl = 0 ∧ undo false pl = true := by
  unfold rPlg at h
  by_cases h1 : t.length < p
  · rw [if_pos h1] at h; cases h; exact id_plugs
  rw [if_neg h1] at h
  obtain ⟨l, q', _, h2⟩ := rBind_ok h
  by_cases h3 : l = [124]
  · rw [if_pos h3] at h2; cases h2; exact id_plugs
  rw [if_neg h3] at h2
  obtain ⟨h4, h5⟩ := rChk_ok h2
  cases h5
  unfold plgE at h4
  by_cases h6 : (readOut l).2.1 ≠ 0
  · rw [if_pos h6] at h4; exact absurd h4 h6
  rw [if_neg h6] at h4
  by_cases h7 : selfU (readOut l).1 = true
  · obtain ⟨q, hq, e⟩ := read_perm (Decidable.not_not.1 h6)
    rw [e] at h7 ⊢
    refine ⟨Pm.wrong_up q hq, (undo_iff _ _).2 fun i hi => ⟨?_, fun h => by cases h⟩⟩
    exact (eqI_iff _ _ _).1 h7 i hi
  · rw [if_neg h7] at h4; cases h4
theorem whE_all {g : Gm} : ∀ {k : Nat}, (∀ r, r < k → Pm.wrong (g.wi r) = 0 ∧ ins (g.nl r) (g.no r) = true) → whE g k = 0
  | 0, _ => rfl
  | k + 1, h => by
    unfold whE
    rw [if_neg (fun e => e (whE_all fun r hr => h r (by omega))), if_neg (fun e => e (h k (by omega)).1), if_pos (h k (by omega)).2]
theorem rMach_ok {t : List UInt8} {p : Nat} {g : Gm} {q : Nat} (h : rMach t p = .ok (g, q)) : gE g = 0 ∧ mcE g = 0 := by
  unfold rMach at h
  obtain ⟨l1, p1, _, h⟩ := rBind_ok h
  obtain ⟨e1, h⟩ := rChk_ok h
  obtain ⟨l2, p2, _, h⟩ := rBind_ok h
  obtain ⟨e2, h⟩ := rChk_ok h
  obtain ⟨l3, p3, _, h⟩ := rBind_ok h
  obtain ⟨e3, h⟩ := rChk_ok h
  obtain ⟨l4, p4, _, h⟩ := rBind_ok h
  obtain ⟨e4, h⟩ := rChk_ok h
  obtain ⟨pl, p5, h5, h⟩ := rBind_ok h
  cases h
  obtain ⟨e5, e6⟩ := rPlg_ok h5
  obtain ⟨j2, hj2, rfl⟩ := miE_name e2
  obtain ⟨_, e3⟩ := setE_ok e3
  obtain ⟨_, e4⟩ := setE_ok e4
  have hn : pcn l1 ≤ 4 ∧ ∀ k, k < pcn l1 → knE (pce l1 k) = 0 := by
    unfold wsE at e1
    by_cases h1 : firV (fun k => knE (pce l1 k)) (pcn l1) ≠ 0
    · rw [if_pos h1] at e1; exact absurd e1 h1
    rw [if_neg h1] at e1
    by_cases h2 : 4 < pcn l1
    · rw [if_pos h2] at e1; cases e1
    · exact ⟨by omega, firV_zero (Decidable.not_not.1 h1)⟩
  obtain ⟨hn, hk⟩ := hn
  have hn1 : 1 ≤ pcn l1 := by unfold pcn; omega
  constructor
  · unfold gE
    have hw : whE (gmOf l1 (mrN j2).data.toList l3 l4 pl) (pcn l1) = 0 := whE_all fun r hr => by
      obtain ⟨j, hj, e⟩ := knE_name (hk r hr)
      have := kn_right j hj
      show Pm.wrong (knW (pce l1 r)) = 0 ∧ ins (knN (pce l1 r)).length (fun i => (((knN (pce l1 r)).getD i 0 : Nat) : Int)) = true
      rw [e]
      exact this
    obtain ⟨m1, m2⟩ := mi_right j2 hj2
    rw [if_neg (by show ¬ (pcn l1 < 1 ∨ 4 < pcn l1); omega), if_neg (fun e => e hw), if_neg (fun e => e rfl), if_neg (by show ¬ ins (pcn l1) (setF l3) = false; rw [e3]; decide), if_neg (fun e => e rfl), if_neg (by show ¬ ins (pcn l1) (setF l4) = false; rw [e4]; decide)]
    rw [if_neg (fun e => e m1), if_neg (by show ¬ undo true (miP (mrN j2).data.toList) = false; rw [m2]; decide), if_neg (fun e => e e5), if_neg (by show ¬ undo false pl = false; rw [e6]; decide)]
  · unfold mcE
    have hw : wnE (gmOf l1 (mrN j2).data.toList l3 l4 pl) = 0 := wnE_zero fun r hr => by
      have hr' : r < pcn l1 := hr
      obtain ⟨j, hj, e⟩ := knE_name (hk r hr')
      refine fstB_ex hj ?_
      show whB (knW (pce l1 r)) (knN (pce l1 r)).length (fun i => (((knN (pce l1 r)).getD i 0 : Nat) : Int)) j = true
      rw [e]
      unfold whB numsEq
      rw [eqI_refl, eqI_refl]
      simp
    have hm : mrF (gmOf l1 (mrN j2).data.toList l3 l4 pl).rf ≠ none := fstB_ex hj2 (eqI_refl _ _)
    rw [if_neg (fun e => e hw), if_neg hm]
end Go.Proofs.YtkohhdkkbaifoaaGreatDoor
