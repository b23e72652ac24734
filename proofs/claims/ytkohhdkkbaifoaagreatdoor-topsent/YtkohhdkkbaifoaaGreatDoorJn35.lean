/-
  Several texts, joined: ScCh, ScRd, ScAl, LScU, ScAt, LtSm.
-/
import Derived.Test.YtkohhdkkbaifoaaGreatDoorScSw
import Derived.Test.YtkohhdkkbaifoaaGreatDoorJn32
import Derived.Maps.AppendAt
import Derived.Test.YtkohhdkkbaifoaaGreatDoorScI
import Derived.Test.YtkohhdkkbaifoaaGreatDoorJn34
import Derived.Test.YtkohhdkkbaifoaaGreatDoorScN
import Derived.Test.YtkohhdkkbaifoaaGreatDoorJn1
/-
  A chain, as it is read: the walk.
-/
namespace Go.Proofs.YtkohhdkkbaifoaaGreatDoor
open Go.RowKit PK Vg

theorem i3_step17 : (Tryz.prog.info? 31).map (fun i => (i.zero, i.size, i.bytes)) = some (some (.agg (spA 0 0 ⟨#[]⟩ (.slice none 0 0) (.slice none 0 0) (.slice none 0 0) (.slice none 0 0) (fun _ => 0) (fun _ => 0))), 59, 544) := by kernel_rfl
def slN : Value → Nat
  | .slice _ n _ => n
  | _ => 0
theorem rStep_ok {t : List UInt8} {place p : Nat} {x : Sp × Nat} (h : rStep t place p = .ok x) : place < 64 := by
  unfold rStep at h
  rcases hw : rWord t p with e | ⟨l, q⟩
  · rw [hw] at h; cases h
  · rw [hw] at h
    change (match nmK ⟨l.toArray⟩ with | none => _ | some (k, n) => _) = _ at h
    cases hk : nmK ⟨l.toArray⟩ with
    | none => rw [hk] at h; cases h
    | some kn =>
      obtain ⟨k, n⟩ := kn
      rw [hk] at h
      change (if 64 ≤ place then _ else _) = _ at h
      by_cases h64 : 64 ≤ place
      · rw [if_pos h64] at h; cases h
      · omega
/-- A step of a list. -/
def spD (L : List Sp) (i : Nat) : Sp := L.getD i (sp0 0 0)
theorem spD_old {L : List Sp} {s : Sp} {j : Nat} (h : j < L.length) : spD (L ++ [s]) j = spD L j := by
  unfold spD
  simp only [List.getD]
  rw [List.getElem?_append_left h]
theorem spD_new (L : List Sp) (s : Sp) : spD (L ++ [s]) L.length = s := by
  unfold spD
  simp only [List.getD]
  rw [List.getElem?_append_right (Nat.le_refl _), Nat.sub_self]
  rfl
/-- What is held between two steps. -/
structure ChI (w W : World) (b : Nat) (T : ByteArray) (v : Value) (L : List Sp) (R : Nat → Array Value) (p : Nat) : Prop where
  own : SpO W w.heap.size v L.length (spD L) R
  rd : RdAt W b T p
  fb : Fb b w W
  ne : b < w.heap.size
theorem ChI.calm {w W W' : World} {b : Nat} {T : ByteArray} {v : Value} {L : List Sp} {R : Nat → Array Value} {p : Nat} (h : ChI w W b T v L R p) (hb : Below W.heap.size W W') : ChI w W' b T v L R p :=
  ⟨h.own.below hb, RowAt.below h.rd hb (RowAt.lt h.rd), h.fb.trans (Fb.of hb), h.ne⟩
theorem ChI.step {w W W' : World} {b : Nat} {T : ByteArray} {v : Value} {L : List Sp} {R : Nat → Array Value} {p q : Nat} (h : ChI w W b T v L R p) (hf : Fb b W W') (hr : RdAt W' b T q) : ChI w W' b T v L R q :=
  ⟨h.own.fb hf h.ne, hr, h.fb.trans hf, h.ne⟩
theorem Fb.grown {b : Nat} {A B C : World} {row : Option Nat} (h : Fb b A B) (hg : B.grownBy C row) (hr : ∀ r, row = some r → A.heap.size ≤ r) : Fb b A C :=
  ⟨hg.os.trans h.os, hg.tape.trans h.tape, hg.output.trans h.output, Nat.le_trans h.size hg.size, fun i hi hb => (hg.block i (by have := h.size; omega) (fun e => by have := hr i e.symm; omega)).trans (h.block i hi hb)⟩
set_option maxRecDepth 100000 in
set_option maxHeartbeats 4000000 in
theorem rchain17_any (b : Nat) (T : ByteArray) (w : World) (hr : RdAt w b T 0) (hs : T.size ≤ 65536) (hn : NmAt w) (he : ErAt w) (hgb : gRange < b ∧ 1 < b) : Calls Tryz.prog 56 #[.pointer (some ⟨b, 0, none⟩)] w fun e w' => Told (rBind (rStep T.data.toList 0 0) fun s q => rMore T.data.toList 66 [s] q) e (fun L _ v => Nw w.heap.size w'.heap.size (fun W => ChAt W v L.length (spD L)) w') ∧ Fb b w w' := by
  have hbl := RowAt.lt hr
  obtain ⟨RR, hRR0⟩ : ∃ RR, RR = (rBind (rStep T.data.toList 0 0) fun s q => rMore T.data.toList 66 [s] q) := ⟨_, rfl⟩
  have HRM : Hid (RR = (rBind (rStep T.data.toList 0 0) fun s q => rMore T.data.toList 66 [s] q)) := hRR0
  rw [← hRR0]
  clear hRR0
  have htl := Pl.size_len T
  have HGL : Hid (∀ W, Fb b w W → ErAt W ∧ NmAt W) := fun W hW => ⟨he.fb hW hgb.1, hn.fb hW hgb.2⟩
  have HST : Hid _ := rstep17_any b T 0 0 w hr hs hn he hgb (by omega)
  obtain ⟨i0, hi0, hz0, hz1, hz2⟩ := info17 i3_step17
  clear hr hn he
  go_enter Tryz.func56, Tryz.ntmps56
  go_wp2_with fail
  refine Calls.mono HST.out ?_
  rintro e V1 ⟨ht, hf⟩
  rcases hw1 : rStep T.data.toList 0 0 with ⟨E, A⟩ | ⟨s1, p1⟩
  · rw [hw1] at ht
    obtain rfl : e = .panicked [flt E A] := ht
    have hRR : RR = .error (E, A) := by have h := HRM.out; rw [hw1] at h; exact h
    exact ⟨rfl, by rw [hRR]; rfl, hf⟩
  rw [hw1] at ht
  obtain ⟨v, rfl, c, rfl, hnw, hrd⟩ := ht
  have HRM1 : Hid (RR = rMore T.data.toList 66 [s1] p1) := by have h := HRM.out; rw [hw1] at h; exact h
  have hc59 := (sq_size hnw.here).1
  have hI0 : ChI w (V1.alloc (.cells c 31)) b T (.slice (some ⟨V1.heap.size, 0, none⟩) 1 1) [s1] (fun _ => c) p1 := by
    refine ⟨(SpO.first hf.size hnw).congr (fun j hj => ?_) (fun _ _ => rfl), RowAt.alloc hrd _, hf.trans (Fb.alloc b _ _), hbl⟩
    obtain rfl : j = 0 := by simp at hj; omega
    rfl
  have HI0 : Hid _ := hI0
  clear hI0 HRM HST hw1 hf hrd hnw
  go_upto_region 2 with (first | refine wpList_build17 rfl 22 31 _ rfl 59 (spA 0 0 ⟨#[]⟩ (.slice none 0 0) (.slice none 0 0) (.slice none 0 0) (.slice none 0 0) (fun _ => 0) (fun _ => 0)) c rfl (by decide) (by decide) Tryz.underlying22 (spA_size _ _ _ _ _ _ _ _ _) hc59 s_zs17 ?_)
  go_loopw [3] (fun o W => ∃ (L : List Sp) (R : Nat → Array Value) (p : Nat) (g : Option Addr) (cp : Nat), o = .slice g L.length cp ∧ (1 ≤ L.length ∧ L.length ≤ 64) ∧ Hid (RR = rMore T.data.toList (67 - L.length) L p) ∧ Hid (ChI w W b T (.slice g L.length cp) L R p)) (fun o _ => 65 - slN o)
  case atStart => exact ⟨[s1], fun _ => c, p1, _, _, rfl, ⟨by simp, by simp⟩, HRM1, HI0⟩
  case round =>
    clear HI0 HRM1 hc59
    obtain ⟨L, R, p, g, cp, rfl, ⟨hl1, hl2⟩, HRM, HI⟩ := hrel
    have HEN : Hid _ := ended_any b T p wr HI.out.rd
    obtain ⟨k, hk⟩ : ∃ k, k = L.length := ⟨_, rfl⟩
    rw [← hk] at hl1 hl2 ⊢
    have HK : Hid (L.length = k) := hk.symm
    clear hk
    go_wp2_with fail
    refine Calls.mono HEN.out ?_
    rintro e V2 ⟨rfl, hb⟩
    have HI2 : Hid _ := HI.out.calm hb
    have hrm := HRM.out
    rw [HK.out, show 67 - k = (66 - k) + 1 by omega] at hrm
    change RR = (if T.data.toList.length < p then _ else _) at hrm
    clear HI HEN HRM hb
    by_cases hend : T.size < p
    · have hd : decide (T.size < p) = true := by simpa using hend
      rw [hd]
      have HRR : Hid (RR = .ok (L, p)) := by rw [Hid, hrm, if_pos (by omega)]
      clear hd hend hrm
      go_wp2
      go_ret
      refine ⟨?_, HI2.out.fb⟩
      rw [HRR.out]
      exact ⟨_, rfl, by rw [← HK.out]; exact HI2.out.own.chain⟩
    · have hd : decide (T.size < p) = false := by simpa using hend
      rw [hd]
      rw [if_neg (by omega)] at hrm
      have HRM : Hid _ := hrm
      have HWD : Hid _ := word_rz b T p V2 HI2.out.rd hs
      clear hd hrm hend
      go_wp2_with fail
      refine Calls.mono HWD.out ?_
      rintro e V3 ⟨ht, hf⟩
      rcases hw2 : rWord T.data.toList p with ⟨E, A⟩ | ⟨l2, p2⟩
      · rw [hw2] at ht
        obtain rfl : e = .panicked [flt E A] := ht
        have hRR : RR = .error (E, A) := by have h := HRM.out; rw [hw2] at h; exact h
        exact ⟨rfl, by rw [hRR]; rfl, HI2.out.fb.trans hf⟩
      rw [hw2] at ht
      obtain ⟨v, rfl, rfl, hrd⟩ := ht
      have hrm := HRM.out
      rw [hw2] at hrm
      change RR = (if l2 = [124] then _ else _) at hrm
      obtain ⟨X3, hX3⟩ : ∃ X3, X3 = V3.alloc (.cells #[.string ⟨l2.toArray⟩, .int .i64 (p : Int)] 137) := ⟨_, rfl⟩
      have hI4 : ChI w X3 b T (.slice g L.length cp) L R p2 := by rw [hX3]; exact (HI2.out.step hf hrd).calm ((Below.refl _ _).alloc (Nat.le_refl _) _)
      have hwr : RowAt X3 V3.heap.size 137 #[.string ⟨l2.toArray⟩, .int .i64 (p : Int)] := by rw [hX3]; exact RowAt.new V3 _ _
      have c0 := RowAt.cell hwr (i := 0) rfl
      have c1 := RowAt.cell hwr (i := 1) rfl
      have HI4 : Hid _ := hI4
      have HRM3 : Hid _ := hrm
      clear HRM HWD HI2 hI4 hf hrd hw2 hrm hwr
      unfold wdV
      go_upto_region 4 with fail
      rw [← hX3]
      clear hX3
      by_cases hbar : l2 = [124]
      · have hbn : (l2 == [124]) = true := by simpa using hbar
        have HRM : Hid (RR = rBind (rStep T.data.toList k p2) fun s q' => rMore T.data.toList (66 - k) (L ++ [s]) q') := by rw [Hid, HRM3.out, if_pos hbar, HK.out]
        have HST : Hid _ := rstep17_any b T p2 k X3 HI4.out.rd hs (HGL.out _ HI4.out.fb).2 (HGL.out _ HI4.out.fb).1 hgb hl2
        clear HRM3 hbar
        go_wp2_with fail
        refine Calls.mono HST.out ?_
        rintro e V5 ⟨ht, hf⟩
        rcases hw3 : rStep T.data.toList k p2 with ⟨E, A⟩ | ⟨s, p3⟩
        · rw [hw3] at ht
          obtain rfl : e = .panicked [flt E A] := ht
          have hRR : RR = .error (E, A) := by have h := HRM.out; rw [hw3] at h; exact h
          exact ⟨rfl, by rw [hRR]; rfl, HI4.out.fb.trans hf⟩
        have hk64 := rStep_ok hw3
        rw [hw3] at ht
        obtain ⟨v, rfl, c, rfl, hnw, hrd⟩ := ht
        have HRM5 : Hid (RR = rMore T.data.toList (66 - k) (L ++ [s]) p3) := by have h := HRM.out; rw [hw3] at h; exact h
        obtain ⟨hc59, hc1⟩ := sq_size hnw.here
        have hI5 := HI4.out.step hf hrd
        have HOW : Hid (∀ g', (Value.slice g L.length cp).ownBlock = some g' → w.heap.size ≤ g' ∧ g' < X3.heap.size) := fun g' hg' => World.ownsRow.lt HI4.out.own.own g' hg'
        have hsz5 : X3.heap.size ≤ V5.heap.size := hf.size
        have hwz : w.heap.size ≤ V5.heap.size := hI5.fb.size
        have HX3 : Hid (w.heap.size ≤ X3.heap.size) := HI4.out.fb.size
        have hown := hI5.own.own
        rw [HK.out] at hown
        have HI5 : Hid _ := hI5
        have HNW : Hid (Nw X3.heap.size V5.heap.size (fun W => SqAt W (.agg c) s) V5) := hnw
        have HC1 : Hid (c.all (·.oneCell') = true) := hc1
        clear hI5 hnw hc1 hrd hf HST HRM hw3 HI4 c0 c1
        go_wp2_with (first | refine wpList_build17 rfl 22 31 _ rfl 59 (spA 0 0 ⟨#[]⟩ (.slice none 0 0) (.slice none 0 0) (.slice none 0 0) (.slice none 0 0) (fun _ => 0) (fun _ => 0)) c rfl (by decide) (by decide) Tryz.underlying22 (spA_size _ _ _ _ _ _ _ _ _) hc59 s_zs17 ?_ | (at_builtin; refine wpList_append_own_at _ rfl _ _ 22 rfl w.heap.size 31 i0 (.agg (spA 0 0 ⟨#[]⟩ (.slice none 0 0) (.slice none 0 0) (.slice none 0 0) (.slice none 0 0) (fun _ => 0) (fun _ => 0))) 59 544 Tryz.underlying22 hi0 hz0 hz1 hz2 (spA_size _ _ _ _ _ _ _ _ _) (by decide) _ _ _ rfl (World.ownsRow.alloc hown _) ⟨V5.heap.size, 0, none⟩ 1 1 c.toList rfl (by rw [Array.length_toList, hc59]) (fun q u hu => by rw [Addr.add_mid, Nat.zero_add]; exact (RowAt.new V5 31 c).cell (by rw [← Array.getElem?_toList]; exact hu)) (fun u hu => by have := HC1.out; rw [← Array.all_toList] at this; exact List.all_eq_true.1 this u hu) (by unfold maxLen; omega) (by omega) (by simp; omega) ?_; intro v5 w5 hown5 hgrow5 _ hat5; obtain ⟨g5, c5, rfl⟩ := own_form17 hown5; have HOWN : Hid _ := hown5; have HGR : Hid _ := hgrow5; have HAT : Hid _ := hat5; clear hown5 hgrow5 hat5))
        have hal : Below V5.heap.size V5 (V5.alloc (.cells c 31)) := (Below.refl _ V5).alloc (Nat.le_refl _) _
        have hsp := HI5.out.own
        rw [HK.out] at hsp
        have hmore := (hsp.below hal).more (b := X3.heap.size) (c := c) (s := s) (by have := HI5.out.fb.size; have := HX3.out; omega) (fun g' hg' => (HOW.out g' (by rw [HK.out]; exact hg')).2) ((HNW.out.mono (Nat.le_refl _) hal.size).below hal) HOWN.out HGR.out HAT.out
        have hnew : ChI w w5 b T (.slice g5 (L ++ [s]).length c5) (L ++ [s]) (fun i => if i = L.length then c else R i) p3 := by
          refine ⟨?_, ?_, ?_, hbl⟩
          · rw [List.length_append]
            show SpO w5 w.heap.size (.slice g5 (L.length + 1) c5) (L.length + 1) (spD (L ++ [s])) _
            rw [HK.out]
            refine hmore.congr (fun j hj => ?_) (fun _ _ => rfl)
            by_cases e : j = k
            · rw [if_pos e, e, ← HK.out]; exact spD_new L s
            · rw [if_neg e]; exact spD_old (by rw [HK.out]; omega)
          · exact (HGR.out.block b (by have := HI5.out.fb.size; rw [World.size_alloc]; omega) (fun e => by have := (HOW.out b (by rw [HK.out]; exact e.symm)).1; omega)).trans (RowAt.alloc HI5.out.rd _)
          · exact (HI5.out.fb.trans (Fb.of hal)).grown HGR.out (fun r e => (HOW.out r (by rw [HK.out]; exact e)).1)
        have hlen : (L ++ [s]).length = k + 1 := by rw [List.length_append, HK.out]; rfl
        go_wp2
        go_roundw
        case rel => exact ⟨L ++ [s], fun i => if i = L.length then c else R i, p3, g5, c5, by rw [hlen], by rw [hlen]; exact ⟨by omega, by omega⟩, by rw [Hid, HRM5.out, hlen, show 67 - (k + 1) = 66 - k by omega], hnew⟩
        case measure => simp [slN]; omega
      · have hbn : (l2 == [124]) = false := by simpa using hbar
        have HRR : Hid (RR = .error (2, p)) := by rw [Hid, HRM3.out, if_neg hbar]
        have HTH : Hid _ := throw_any 2 (p : Int) X3
        clear HRM3 hbar
        go_wp2_with fail
        refine Calls.mono HTH.out ?_
        rintro e V4 ⟨rfl, rfl⟩
        exact ⟨rfl, by rw [HRR.out]; rfl, HI4.out.fb⟩
end Go.Proofs.YtkohhdkkbaifoaaGreatDoor

/-
  script.Read.
-/
namespace Go.Proofs.YtkohhdkkbaifoaaGreatDoor
open Go.RowKit PK Vg

theorem Nw.setc {B E : Nat} {P : World → Prop} {W : World} (h : Nw B E P W) {g o : Nat} (hg : g < B) (v : Value) : Nw B E P (W.setCell ⟨g, o, none⟩ v) := h.keep fun b o2 x h1 _ h3 => by
  have := heap_setCell_other W ⟨g, o, none⟩ b v (by show b ≠ g; omega)
  simp only [World.cell?, this] at h3 ⊢
  exact h3
theorem ent_read1 (args : Array Value) (W : World) : (callFunc 55 args).run Tryz.prog W = .ok (.enter 55 args) W := by kernel_rfl
theorem glob17 {w : World} (hn : NmAt w) (he : ErAt w) : gRange < w.heap.size ∧ 1 < w.heap.size := by
  obtain ⟨ev, h1, _⟩ := he
  exact ⟨cell_block h1, cell_block (hn.kn 0 _ rfl)⟩
theorem RdAt_new (T : ByteArray) (X : World) : RdAt (X.alloc (.cells #[.string T, .int .i64 0] 83)) X.heap.size T 0 := RowAt.new X _ _
set_option maxRecDepth 100000 in
set_option maxHeartbeats 4000000 in
theorem read1_any (q : Nat) (T : ByteArray) (X : World) (hq : RowAt X q 9 #[.string T]) (hn : NmAt X) (he : ErAt X) : Calls Tryz.prog 55 #[.pointer (some ⟨q, 0, none⟩)] X fun e w' => Told (rRead T.data.toList) e (fun L _ v => Nw X.heap.size w'.heap.size (fun W => ChAt W v L.length (spD L)) w') ∧ Below X.heap.size X w' := by
  have htl := Pl.size_len T
  have c0 := RowAt.cell hq (i := 0) rfl
  unfold rRead
  by_cases hbig : 65536 < T.data.toList.length
  · rw [if_pos hbig]
    have HTH : Hid _ := throw_any 4 0 X
    have hb : (65536 : Int) < (T.size : Int) := by omega
    clear hq hn he htl hbig
    go_enter Tryz.func55, Tryz.ntmps55
    go_wp2_with fail
    refine Calls.mono HTH.out ?_
    rintro e V ⟨rfl, rfl⟩
    exact ⟨rfl, rfl, Below.refl _ _⟩
  · rw [if_neg hbig]
    have hgl := glob17 hn he
    have hal : Below X.heap.size X (X.alloc (.cells #[.string T, .int .i64 0] 83)) := (Below.refl _ X).alloc (Nat.le_refl _) _
    have hb : ¬ (65536 : Int) < (T.size : Int) := by omega
    have HCH : Hid _ := rchain17_any X.heap.size T _ (RdAt_new T X) (by omega) (hn.below hal) (he.below hal) hgl
    have HAL : Hid (Below X.heap.size X (X.alloc (.cells #[.string T, .int .i64 0] 83))) := hal
    clear hal hq hn he htl hbig hgl
    go_enter Tryz.func55, Tryz.ntmps55
    go_wp2_with fail
    refine Calls.mono HCH.out ?_
    rintro e V ⟨ht, hf⟩
    have HB : Hid (Below X.heap.size X V) := Fb.old HAL.out hf (Nat.le_refl _)
    rcases hRR : (rBind (rStep T.data.toList 0 0) fun s q => rMore T.data.toList 66 [s] q) with ⟨E, A⟩ | ⟨L, p⟩
    · rw [hRR] at ht
      obtain rfl : e = .panicked [flt E A] := ht
      exact ⟨rfl, by rw [hRR]; rfl, HB.out⟩
    · rw [hRR] at ht
      obtain ⟨v, rfl, hnw⟩ := ht
      obtain ⟨a, cap, R, rfl, -⟩ := hnw.here
      have HNW : Hid (Nw X.heap.size V.heap.size (fun W => ChAt W (.slice a L.length cap) L.length (spD L)) V) := hnw.mono (by rw [World.size_alloc]; omega) (Nat.le_refl _)
      have HRR : Hid _ := hRR
      clear hnw hf HCH HAL hRR
      go_wp2
      go_ret
      exact ⟨by rw [HRR.out]; exact ⟨_, rfl, HNW.out⟩, HB.out⟩
/-- What script.Read answers. -/
def Rdd (r : Rz (List Sp)) (e : Ending) (w' : World) : Prop := match r with
  | .ok (L, _) => ∃ v, e = .returned (.tuple #[v, fltV 0 0]) ∧ ChAt w' v L.length (spD L)
  | .error (E, A) => e = .returned (.tuple #[.slice none 0 0, fltV E A])
set_option maxRecDepth 100000 in
set_option maxHeartbeats 4000000 in
theorem read17_any (T : ByteArray) (w : World) (hn : NmAt w) (he : ErAt w) : Calls Tryz.prog 18 #[.string T] w fun e w' => Rdd (rRead T.data.toList) e w' ∧ Below w.heap.size w w' := by
  obtain ⟨W1, hW1⟩ : ∃ W1, W1 = (w.alloc (.cells #[.string T] 9)).alloc (.cells #[.int .i64 0, .int .i64 0] 35) := ⟨_, rfl⟩
  have hsz : W1.heap.size = w.heap.size + 2 := by rw [hW1]; simp
  have h1 : Below w.heap.size w W1 := by rw [hW1]; exact ((Below.refl _ w).alloc (Nat.le_refl _) _).alloc (by simp) _
  have hbx : RowAt W1 w.heap.size 9 #[.string T] := by rw [hW1]; exact (RowAt.new w _ _).alloc _
  have h5 : RowAt W1 (w.heap.size + 1) 35 #[.int .i64 0, .int .i64 0] := by
    rw [hW1]
    have := RowAt.new (w.alloc (.cells #[.string T] 9)) 35 #[.int .i64 0, .int .i64 0]
    simpa using this
  have hF : Below W1.heap.size W1 (fbox W1) := (Below.refl _ W1).alloc (Nat.le_refl _) _
  have hF2 : Below w.heap.size w (fbox W1) := h1.trans (hF.mono h1.size)
  have hFs : (fbox W1).heap.size = W1.heap.size + 1 := by simp [fbox]
  have HR := read1_any w.heap.size T (fbox W1) (RowAt.below hbx hF (RowAt.lt hbx)) (hn.below hF2) (he.below hF2)
  have hbxF : RowAt (fbox W1) W1.heap.size 35 #[.int .i64 0, .int .i64 0] := RowAt.new W1 _ _
  have HB1 : Hid (Below w.heap.size w W1) := h1
  have hmf := mkf
  rcases hRR : rRead T.data.toList with ⟨E, A⟩ | ⟨L, p⟩
  · rw [hRR] at HR
    have HED : Hid (Calls Tryz.prog 54 #[.func (.func 55) #[] #[.pointer (some ⟨w.heap.size, 0, none⟩)]] W1 fun e w' => e = .returned (.tuple #[.slice none 0 0, fltV E A]) ∧ Below W1.heap.size W1 w') := by
      refine Calls.mono (edgeL_bad 55 _ ent_read1 W1 W1.heap.size (Nat.le_refl _) E A (fun _ => True) (Calls.mono HR ?_)) ?_
      · rintro e w' ⟨rfl, hb⟩
        exact ⟨rfl, trivial, RowAt.below hbxF hb (RowAt.lt hbxF), hb.mono (by omega)⟩
      · rintro e w' ⟨rfl, _, hb⟩
        exact ⟨rfl, hb⟩
    have H5 : Hid _ := h5
    clear HR h1 hbx h5 hF hF2 hbxF hn he hRR
    go_enter Tryz.func18, Tryz.ntmps18
    go_upto_region 1 with fail
    rw [← hW1]
    clear hW1
    go_wp2_with fail
    refine Calls.mono HED.out ?_
    rintro e V ⟨rfl, hb⟩
    have hr := RowAt.below H5.out hb (RowAt.lt H5.out)
    have c0 := hr.cell (i := 0) rfl
    have c1 := hr.cell (i := 1) rfl
    have f0 := hr.frozen 0
    have f1 := hr.frozen 1
    have HR2 : Hid (RowAt ((V.setCell ⟨w.heap.size + 1, 0, none⟩ (.int .i64 E)).setCell ⟨w.heap.size + 1, 1, none⟩ (.int .i64 A)) (w.heap.size + 1) 35 #[.int .i64 E, .int .i64 A]) := (hr.set 0 _).set 1 _
    have HB2 : Hid (Below w.heap.size w ((V.setCell ⟨w.heap.size + 1, 0, none⟩ (.int .i64 E)).setCell ⟨w.heap.size + 1, 1, none⟩ (.int .i64 A))) := ((HB1.out.trans (hb.mono (by omega))).setCell (p := ⟨w.heap.size + 1, 0, none⟩) (by show _ ≤ _ + 1; omega) _).setCell (p := ⟨w.heap.size + 1, 1, none⟩) (by show _ ≤ _ + 1; omega) _
    clear hr hb hsz hFs
    unfold fltV
    go_wp2
    exact ⟨rfl, _, results_tmp_cell rfl _ _ (w.heap.size + 1) 35 #[.int .i64 E, .int .i64 A] (0, 0) _ _ rfl rfl HR2.out Tryz.underlying35 rfl f_info, by show _ = Ending.returned (.tuple #[.slice none 0 0, fltV E A]); rfl, HB2.out⟩
  · rw [hRR] at HR
    have HED : Hid (Calls Tryz.prog 54 #[.func (.func 55) #[] #[.pointer (some ⟨w.heap.size, 0, none⟩)]] W1 fun e w' => ∃ a cap, e = .returned (.tuple #[.slice a L.length cap, fltV 0 0]) ∧ Nw (W1.heap.size + 1) w'.heap.size (fun W => ChAt W (.slice a L.length cap) L.length (spD L)) w' ∧ Below W1.heap.size W1 w') := by
      refine Calls.mono (edgeL_ok 55 _ ent_read1 W1 W1.heap.size (Nat.le_refl _) (fun v w' => Nw (W1.heap.size + 1) w'.heap.size (fun W => ChAt W v L.length (spD L)) w') (Calls.mono HR ?_)) ?_
      · rintro e w' ⟨⟨v, rfl, hnw⟩, hb⟩
        refine ⟨v, rfl, ?_, hnw.mono (by omega) (Nat.le_refl _), RowAt.below hbxF hb (RowAt.lt hbxF), hb.mono (by omega)⟩
        obtain ⟨a, cap, R, rfl, -⟩ := hnw.here
        rfl
      · rintro e w' ⟨v, rfl, ⟨w1, hnw, rfl⟩, hb⟩
        obtain ⟨a, cap, R, rfl, -⟩ := hnw.here
        refine ⟨a, cap, rfl, ?_, hb⟩
        rw [World.size_setCell, World.size_setCell]
        exact (hnw.setc (by omega) _).setc (by omega) _
    have H5 : Hid _ := h5
    clear HR h1 hbx h5 hF hF2 hbxF hn he hRR
    go_enter Tryz.func18, Tryz.ntmps18
    go_upto_region 1 with fail
    rw [← hW1]
    clear hW1
    go_wp2_with fail
    refine Calls.mono HED.out ?_
    rintro e V ⟨a, cap, rfl, hnw, hb⟩
    have hr := RowAt.below H5.out hb (RowAt.lt H5.out)
    have c0 := hr.cell (i := 0) rfl
    have c1 := hr.cell (i := 1) rfl
    have f0 := hr.frozen 0
    have f1 := hr.frozen 1
    have HR2 : Hid (RowAt ((V.setCell ⟨w.heap.size + 1, 0, none⟩ (.int .i64 0)).setCell ⟨w.heap.size + 1, 1, none⟩ (.int .i64 0)) (w.heap.size + 1) 35 #[.int .i64 0, .int .i64 0]) := (hr.set 0 _).set 1 _
    have HB2 : Hid (Below w.heap.size w ((V.setCell ⟨w.heap.size + 1, 0, none⟩ (.int .i64 0)).setCell ⟨w.heap.size + 1, 1, none⟩ (.int .i64 0))) := ((HB1.out.trans (hb.mono (by omega))).setCell (p := ⟨w.heap.size + 1, 0, none⟩) (by show _ ≤ _ + 1; omega) _).setCell (p := ⟨w.heap.size + 1, 1, none⟩) (by show _ ≤ _ + 1; omega) _
    have HCA : Hid (ChAt ((V.setCell ⟨w.heap.size + 1, 0, none⟩ (.int .i64 0)).setCell ⟨w.heap.size + 1, 1, none⟩ (.int .i64 0)) (.slice a L.length cap) L.length (spD L)) := ((hnw.setc (by omega) _).setc (by omega) _).here
    clear hr hb hnw hsz hFs
    unfold fltV
    go_wp2
    exact ⟨rfl, _, results_tmp_cell rfl _ _ (w.heap.size + 1) 35 #[.int .i64 0, .int .i64 0] (0, 0) _ _ rfl rfl HR2.out Tryz.underlying35 rfl f_info, ⟨.slice a L.length cap, rfl, HCA.out⟩, HB2.out⟩
end Go.Proofs.YtkohhdkkbaifoaaGreatDoor

/-
  The closed facts that are asked first: alive.
-/
namespace Go.Proofs.YtkohhdkkbaifoaaGreatDoor
open Go.RowKit PK Vg

def spM (x : Nat) : Sp := { sp0 1 0 with n := (x : Int) }
def spR : Sp := { sp0 6 0 with g := gmOf [73] [66] [65] [65] (Pm.up fun i => i) }
set_option maxRecDepth 100000 in
theorem read_rotor : rRead [114, 111, 116, 111, 114, 32, 73, 32, 66, 32, 65, 32, 65, 32, 124, 32, 109, 111, 118, 101, 32, 48] = .ok ([spR, spM 0], 23) := by kernel_rfl
set_option maxRecDepth 100000 in
theorem st_spR : stE spR = 0 := by kernel_rfl
end Go.Proofs.YtkohhdkkbaifoaaGreatDoor

/-
  ScriptUndone, walked.
-/
namespace Go.Proofs.YtkohhdkkbaifoaaGreatDoor
open Go.RowKit PK Vg

theorem cat_facts (w : World) {n k : Nat} {l m : Nat → Sp} {t : List UInt8} (h : rE n l t = 0) : (uE n l (rS n l t) = 0 ∨ uE n l (rS n l t) = 6) ∧ (uE n l (rS n l t) = 0 → uS n l (rS n l t) = t ∧ uE n l t = 0 ∧ rE n l (uS n l t) = 0 ∧ rS n l (uS n l t) = t) ∧ (n + k ≤ 64 → rE (n + k) (catS n l m) t = rE k m (rS n l t) ∧ (rE k m (rS n l t) = 0 → rS (n + k) (catS n l m) t = rS k m (rS n l t))) := by
  obtain ⟨hc, ht, ho⟩ := rE_zero h
  obtain ⟨hn, hst⟩ := chE_zero hc
  have hrs : rS n l t = runT l t n := by unfold rS; rw [if_pos h]
  obtain ⟨h1, h2⟩ := runT_right w hst ht n (Nat.le_refl _)
  have hu1 : uE n l (rS n l t) = firV (fun i => undE (l (n - 1 - i)) t.length) n := by
    unfold uE
    rw [hrs, if_neg (fun e => e hc), if_neg (fun e => e h1), h2]
  have hu2 : uE n l t = firV (fun i => undE (l (n - 1 - i)) t.length) n := by
    unfold uE
    rw [if_neg (fun e => e hc), if_neg (fun e => e ht)]
  refine ⟨?_, fun hz => ?_, fun hk => run_cat w h hk⟩
  · rw [hu1]
    unfold firV
    cases hf : fir (fun i => undE (l (n - 1 - i)) t.length) n with
    | none => exact .inl rfl
    | some i =>
      obtain ⟨a1, _, _⟩ := fir_some hf
      exact undE_cases _ _ (ho (n - 1 - i) (by omega))
  · rw [hu1] at hz
    have hall : ∀ i, i < n → undE (l i) t.length = 0 := fun i hi => by
      have := firV_zero hz (n - 1 - i) (by omega)
      rw [show n - 1 - (n - 1 - i) = i by omega] at this
      exact this
    have hz2 : uE n l t = 0 := hu2.trans hz
    have e1 : uS n l (rS n l t) = t := by
      have := undT_runT w hst ht hall n (Nat.le_refl _)
      rw [Nat.sub_self] at this
      unfold uS
      rw [if_pos (hu1.trans hz), hrs]
      exact this
    have e2 : uS n l t = undT l n t n := by unfold uS; rw [if_pos hz2]
    obtain ⟨h3, h4⟩ := undT_right' w hst ht n (Nat.le_refl _)
    have e3 : rE n l (undT l n t n) = 0 := by
      unfold rE
      rw [if_neg (fun e => e hc), if_neg (fun e => e h3), h4]
      exact firV_all ho
    refine ⟨e1, hz2, by rw [e2]; exact e3, ?_⟩
    rw [e2]
    have := runT_undT w hst ht hall n (Nat.le_refl _)
    rw [Nat.sub_self] at this
    unfold rS
    rw [if_pos e3]
    exact this
end Go.Proofs.YtkohhdkkbaifoaaGreatDoor

/-
  The closed fact that the statements through the layers ask first.
-/
namespace Go.Proofs.YtkohhdkkbaifoaaGreatDoor
open Go.RowKit PK Vg

theorem mvL_zero {l : List UInt8} (h : Ls l) : mvL 0 l = l := by
  unfold mvL
  conv => rhs; rw [← List.map_id l]
  refine List.map_congr_left fun c hc => ?_
  unfold mvC
  have := num_lt (h c hc)
  rw [Nat.add_zero, Nat.mod_eq_of_lt this, ltr_num (h c hc)]
  rfl
theorem run_aaa : rE 2 (spD [spR, spM 0]) [65, 65, 65] = 0 ∧ ∃ x y z, rS 2 (spD [spR, spM 0]) [65, 65, 65] = [x, y, z] ∧ x ≠ 65 := by
  have h : rE 2 (spD [spR, spM 0]) [65, 65, 65] = 0 := by kernel_rfl
  refine ⟨h, ?_⟩
  have hL : Ls [65, 65, 65] := fun c hc => by
    simp at hc
    subst hc
    decide
  have hok := (ok_maOf (st_rotor st_spR rfl)).1
  have h1 : rS 2 (spD [spR, spM 0]) [65, 65, 65] = Om.wr (maOf spR.g) (maOf spR.g).st [65, 65, 65] := by
    unfold rS
    rw [if_pos h]
    show one (spM 0) (one spR [65, 65, 65]) = _
    rw [one_6 (s := spR) rfl, one_1 (s := spM 0) rfl]
    exact mvL_zero (Om.wr_ls hok _ hL)
  have h2 := Om.wr_length (maOf spR.g) [65, 65, 65] (maOf spR.g).st
  have h3 := Om.wr_ne hok (maOf spR.g).st hL 0 (by decide)
  rw [h1]
  generalize Om.wr (maOf spR.g) (maOf spR.g).st [65, 65, 65] = S at *
  match S, h2, h3 with
  | [x, y, z], _, h3 => exact ⟨x, y, z, rfl, h3⟩
set_option maxRecDepth 100000 in
set_option maxHeartbeats 2000000 in
theorem alivetop_any (w : World) (hn : NmAt w) (he : ErAt w) : Calls Tryz.prog 21 #[] w fun e w' => e = .returned (.bool true) ∧ Below w.heap.size w w' := by
  have HR : Hid _ := read17_any ⟨#[114, 111, 116, 111, 114, 32, 73, 32, 66, 32, 65, 32, 65, 32, 124, 32, 109, 111, 118, 101, 32, 48]⟩ w hn he
  clear hn he
  obtain ⟨r1, x, y, z, r2, hx⟩ := run_aaa
  go_enter Tryz.func21, Tryz.ntmps21
  go_wp2_with fail
  refine Calls.mono HR.out ?_
  rintro e V ⟨hrd, hb⟩
  rw [read_rotor] at hrd
  obtain ⟨v, rfl, hch⟩ := hrd
  obtain ⟨a, cap, R, rfl, -⟩ := id hch
  obtain ⟨V2, hV2⟩ : ∃ V2, V2 = V.alloc (.cells #[.int .i64 0, .int .i64 0] 35) := ⟨_, rfl⟩
  have hb2 : Below V.heap.size V V2 := by rw [hV2]; exact (Below.refl _ V).alloc (Nat.le_refl _) _
  have hf2 : RowAt V2 V.heap.size 35 #[.int .i64 0, .int .i64 0] := by rw [hV2]; exact RowAt.new V _ _
  have HRN : Hid _ := run_any _ 2 (spD [spR, spM 0]) ⟨#[65, 65, 65]⟩ V2 (hch.below hb2)
  change Hid (Calls Tryz.prog 11 _ _ fun e w' => e = .returned (.tuple #[.string ⟨(rS 2 (spD [spR, spM 0]) [65, 65, 65]).toArray⟩, fltV (rE 2 (spD [spR, spM 0]) [65, 65, 65]) (rA 2 (spD [spR, spM 0]) [65, 65, 65])]) ∧ _) at HRN
  rw [r1, r2] at HRN
  generalize rA 2 (spD [spR, spM 0]) [65, 65, 65] = RA at HRN
  have HB2 : Hid (Below w.heap.size w V2) := hb.trans (hb2.mono hb.size)
  have HF2 : Hid _ := hf2
  have HVS : Hid (w.heap.size ≤ V.heap.size) := hb.size
  have c0 := RowAt.cell hf2 (i := 0) rfl
  have hx2 : ((x.toNat : Int) == 65) = false := beq_false_of_ne (fun e => hx (by apply UInt8.toNat_inj.1; show x.toNat = 65; omega))
  clear HR hb hb2 hch hf2 r1 r2 hx
  unfold fltV
  go_upto_region 2 with fail
  rw [← hV2]
  clear hV2
  go_wp2_with fail
  refine Calls.mono HRN.out ?_
  rintro e V3 ⟨rfl, hb⟩
  have hf3 := RowAt.below HF2.out hb (RowAt.lt HF2.out)
  have c3 := RowAt.cell hf3 (i := 0) rfl
  have c4 := RowAt.cell hf3 (i := 1) rfl
  have f3 := RowAt.frozen hf3 0
  have f4 := RowAt.frozen hf3 1
  have HB3 : Hid (Below w.heap.size w ((V3.setCell ⟨V.heap.size, 0, none⟩ (.int .i64 0)).setCell ⟨V.heap.size, 1, none⟩ (.int .i64 (RA : Int)))) := ((HB2.out.trans (hb.mono HB2.out.size)).setCell (p := ⟨V.heap.size, 0, none⟩) HVS.out _).setCell (p := ⟨V.heap.size, 1, none⟩) HVS.out _
  clear hf3 hb HRN c0 HF2 HB2
  unfold fltV
  go_wp2
  go_ret
  refine ⟨?_, HB3.out⟩
  show Ending.returned (.bool ((x.toNat : Int) != 65)) = _
  rw [show ((x.toNat : Int) != 65) = true by simp only [bne, hx2, Bool.not_false]]
end Go.Proofs.YtkohhdkkbaifoaaGreatDoor

/-
  Contracts of small functions of package letters: gapAhead, spelling.
-/
namespace Go.Proofs.YtkohhdkkbaifoaaGreatDoor
open Go.RowKit

set_option maxHeartbeats 400000 in
theorem gapAhead_any (g W : Int) (w : World) (hg : 0 ≤ g) (hW : 1 ≤ W) (hg2 : g ≤ 1048576) (hW2 : W ≤ 9223372036854775807) :
    Calls Tryz.prog 60 #[.int .i64 g, .int .i64 W] w fun e w' => e = .returned (.int .u8 (if g % W = 0 then 10 else 32)) ∧ w = w' := by
  have hne : (W == 0) = false := by simp; omega
  by_cases h : g % W = 0
  · have hb : (g % W == 0) = true := by simp [h]
    go_enter Tryz.func60, Tryz.ntmps60
    go_wp2
    go_ret
    exact ⟨rfl, rfl⟩
  · have hb : (g % W == 0) = false := by simp [h]
    go_enter Tryz.func60, Tryz.ntmps60
    go_wp2
    go_ret
    exact ⟨rfl, rfl⟩

set_option maxRecDepth 100000 in
set_option maxHeartbeats 4000000 in
set_option maxRecDepth 100000 in
theorem spelling_any (r : Int) (w : World) :
    Calls Tryz.prog 111 #[.int .i32 r] w fun e w' => e = .returned (.string ⟨(Pl.spell r).toArray⟩) ∧ w = w' := by
  go_enter Tryz.func111, Tryz.ntmps111
  go_wp2
  all_goals
    go_ret
    refine ⟨?_, rfl⟩
    first
    | (have e : r = _ := eq_of_beq (by assumption)
       subst e
       rfl)
    | (simp only [Pl.spell, Pl.tab, Pl.look, *]; rfl)
end Go.Proofs.YtkohhdkkbaifoaaGreatDoor
