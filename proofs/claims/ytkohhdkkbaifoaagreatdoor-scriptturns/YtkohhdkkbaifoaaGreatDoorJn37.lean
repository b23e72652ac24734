/-
  Several texts, joined: PrL, PtP, ScRd, ScAl, WFind, WMath, ScUm, ScAp.
-/
import Derived.Test.YtkohhdkkbaifoaaGreatDoorPrK
import Derived.Test.YtkohhdkkbaifoaaGreatDoorPtO
import Derived.Test.YtkohhdkkbaifoaaGreatDoorJn35
import Derived.Test.YtkohhdkkbaifoaaGreatDoorScI
import Derived.Test.YtkohhdkkbaifoaaGreatDoorJn14
import Derived.Test.YtkohhdkkbaifoaaGreatDoorJn15
import Derived.Test.YtkohhdkkbaifoaaGreatDoorJn25
import Derived.Maps.AppendAt
import Derived.Laws.AppendOwnNone
/-
  script.Print.
-/
namespace Go.Proofs.YtkohhdkkbaifoaaGreatDoor
open Go.RowKit PK Vg

theorem ent_print1 (args : Array Value) (W : World) : (callFunc 47 args).run Tryz.prog W = .ok (.enter 47 args) W := by kernel_rfl
/-- What script.Print writes. -/
def prT (n : Nat) (l : Nat → Sp) : List UInt8 := if prE n l = 0 then prS n l else []
set_option maxRecDepth 100000 in
set_option maxHeartbeats 4000000 in
theorem print17_any (v : Value) (n : Nat) (l : Nat → Sp) (w : World) (hv : ChAt w v n l) (hnm : NmAt w) (ho : OldAt w) : Calls Tryz.prog 15 #[v] w fun e w' => e = .returned (.tuple #[.string ⟨(prT n l).toArray⟩, fltV (prE n l) (if prE n l = 0 then 0 else prA n l : Nat)]) ∧ Below w.heap.size w w' := by
  have hv0 := hv
  obtain ⟨a, cap, R, rfl, -⟩ := hv
  obtain ⟨W1, hW1⟩ : ∃ W1, W1 = (w.alloc (.cells #[.slice a n cap] 22)).alloc (.cells #[.int .i64 0, .int .i64 0] 35) := ⟨_, rfl⟩
  have hsz : W1.heap.size = w.heap.size + 2 := by rw [hW1]; simp
  have h1 : Below w.heap.size w W1 := by rw [hW1]; exact ((Below.refl _ w).alloc (Nat.le_refl _) _).alloc (by simp) _
  have hbx : RowAt W1 w.heap.size 22 #[.slice a n cap] := by rw [hW1]; exact (RowAt.new w _ _).alloc _
  have h5 : RowAt W1 (w.heap.size + 1) 35 #[.int .i64 0, .int .i64 0] := by
    rw [hW1]
    have := RowAt.new (w.alloc (.cells #[.slice a n cap] 22)) 35 #[.int .i64 0, .int .i64 0]
    simpa using this
  have hF : Below W1.heap.size W1 (fbox W1) := (Below.refl _ W1).alloc (Nat.le_refl _) _
  have hF2 : Below w.heap.size w (fbox W1) := h1.trans (hF.mono h1.size)
  have hFs : (fbox W1).heap.size = W1.heap.size + 1 := by simp [fbox]
  have HR := print1_any w.heap.size a n cap l (fbox W1) (hv0.below hF2) (RowAt.below hbx hF (RowAt.lt hbx)) (hnm.below hF2) (ho.below hF2)
  have hbxF : RowAt (fbox W1) W1.heap.size 35 #[.int .i64 0, .int .i64 0] := RowAt.new W1 _ _
  have HB1 : Hid (Below w.heap.size w W1) := h1
  have hmf := mkf
  have HED : Hid (Calls Tryz.prog 34 #[.func (.func 47) #[] #[.pointer (some ⟨w.heap.size, 0, none⟩)]] W1 fun e w' => e = .returned (.tuple #[.string ⟨(prT n l).toArray⟩, fltV (prE n l) (if prE n l = 0 then 0 else prA n l : Nat)]) ∧ Below W1.heap.size W1 w') := by
    by_cases hE : prE n l = 0
    · refine Calls.mono (edgeS_ok 47 _ ent_print1 W1 W1.heap.size (Nat.le_refl _) (fun v _ => v = .string ⟨(prT n l).toArray⟩) (Calls.mono HR ?_)) ?_
      · rintro e w' ⟨h1, _, hb⟩
        exact ⟨_, h1 hE, rfl, by unfold prT; rw [if_pos hE], RowAt.below hbxF hb (RowAt.lt hbxF), hb.mono (by omega)⟩
      · rintro e w' ⟨v, rfl, ⟨w1, rfl, rfl⟩, hb⟩
        exact ⟨by rw [if_pos hE, hE]; rfl, hb⟩
    · refine Calls.mono (edgeS_bad 47 _ ent_print1 W1 W1.heap.size (Nat.le_refl _) (prE n l) (prA n l) (fun _ => True) (Calls.mono HR ?_)) ?_
      · rintro e w' ⟨_, h2, hb⟩
        exact ⟨h2 hE, trivial, RowAt.below hbxF hb (RowAt.lt hbxF), hb.mono (by omega)⟩
      · rintro e w' ⟨rfl, _, hb⟩
        exact ⟨by unfold prT; rw [if_neg hE, if_neg hE], hb⟩
  have H5 : Hid _ := h5
  clear HR h1 hbx h5 hF hF2 hbxF hnm ho hv0 R
  generalize prT n l = PT at *
  generalize (if prE n l = 0 then 0 else prA n l) = PA at *
  generalize prE n l = PE at *
  go_enter Tryz.func15, Tryz.ntmps15
  go_upto_region 1 with fail
  rw [← hW1]
  clear hW1
  go_wp2_with fail
  refine Calls.mono HED.out ?_
  rintro e V ⟨rfl, hb⟩
  have hr := RowAt.below H5.out hb (RowAt.lt H5.out)
  have c0 := hr.cell (i := 0) rfl
  have c1 := hr.cell (i := 1) rfl
  have f0 := hr.frozen 0
  have f1 := hr.frozen 1
  have HR2 : Hid (RowAt ((V.setCell ⟨w.heap.size + 1, 0, none⟩ (.int .i64 PE)).setCell ⟨w.heap.size + 1, 1, none⟩ (.int .i64 (PA : Nat))) (w.heap.size + 1) 35 #[.int .i64 PE, .int .i64 (PA : Nat)]) := (hr.set 0 _).set 1 _
  have HB2 : Hid (Below w.heap.size w ((V.setCell ⟨w.heap.size + 1, 0, none⟩ (.int .i64 PE)).setCell ⟨w.heap.size + 1, 1, none⟩ (.int .i64 (PA : Nat)))) := ((HB1.out.trans (hb.mono (by omega))).setCell (p := ⟨w.heap.size + 1, 0, none⟩) (by show _ ≤ _ + 1; omega) _).setCell (p := ⟨w.heap.size + 1, 1, none⟩) (by show _ ≤ _ + 1; omega) _
  clear hr hb hsz hFs
  unfold fltV
  go_wp2
  exact ⟨rfl, _, results_tmp_cell rfl _ _ (w.heap.size + 1) 35 #[.int .i64 PE, .int .i64 (PA : Nat)] (0, 0) _ _ rfl rfl HR2.out Tryz.underlying35 rfl f_info, rfl, HB2.out⟩
end Go.Proofs.YtkohhdkkbaifoaaGreatDoor

/-
  ScriptTurns: what is needed of chains that are read and written.
-/
namespace Go.Proofs.YtkohhdkkbaifoaaGreatDoor
open Go.RowKit PK Vg

/-- What is wrong is told as wrong. -/
def Nz {α : Type} (r : Rz α) : Prop := ∀ E A, r = .error (E, A) → E ≠ 0
section
variable {α β : Type}
theorem Nz.ok (x : α × Nat) : Nz (.ok x) := fun _ _ h => by cases h
theorem Nz.err {E : Int} (h : E ≠ 0) (A : Nat) : Nz (α := α) (.error (E, A)) := fun _ _ e => by cases e; exact h
theorem Nz.bind {r : Rz α} {f : α → Nat → Rz β} (h : Nz r) (hf : ∀ x q, Nz (f x q)) : Nz (rBind r f) := by
  unfold rBind
  cases r with
  | ok x => exact hf x.1 x.2
  | error e => exact fun E A he => by cases he; exact h E A rfl
theorem Nz.chk {E : Int} {A : Nat} {r : Rz α} (h : Nz r) : Nz (rChk E A r) := by
  unfold rChk
  split
  · exact h
  · rename_i e; exact .err e A
end
theorem nz_word (t : List UInt8) (p : Nat) : Nz (rWord t p) := by
  unfold rWord
  split
  · exact .ok _
  · exact .err (by decide) _
theorem nz_num (t : List UInt8) (lo hi : Int) (p : Nat) : Nz (rNum t lo hi p) := (nz_word t p).bind fun _ _ => (Nz.ok _).chk
theorem nz_key (t : List UInt8) (p : Nat) : Nz (rKey t p) := (nz_word t p).bind fun _ _ => (Nz.ok _).chk
theorem nz_nums (t : List UInt8) (p : Nat) : ∀ m, Nz (rNums t p m)
  | 0 => .ok _
  | m + 1 => (nz_nums t p m).bind fun _ q => (nz_num t 0 25 q).bind fun _ _ => .ok _
theorem nz_mat (t : List UInt8) (p : Nat) : Nz (rMat t p) := (nz_num t 1 4 p).bind fun n q => (nz_nums t q (n * n)).bind fun _ _ => .ok _
theorem nz_plg (t : List UInt8) (p : Nat) : Nz (rPlg t p) := by
  unfold rPlg
  split
  · exact .ok _
  · refine (nz_word t p).bind fun l q => ?_
    split
    · exact .ok _
    · exact (Nz.ok _).chk
theorem nz_mach (t : List UInt8) (p : Nat) : Nz (rMach t p) :=
  (nz_word t p).bind fun _ p1 => ((nz_word t p1).bind fun _ p2 => ((nz_word t p2).bind fun _ p3 => ((nz_word t p3).bind fun _ p4 => ((nz_plg t p4).bind fun _ _ => .ok _).chk).chk).chk).chk
theorem nz_step (t : List UInt8) (place p : Nat) : Nz (rStep t place p) := by
  refine (nz_word t p).bind fun l q => ?_
  split
  · exact .err (by decide) _
  · split
    · exact .err (by decide) _
    · split
      · exact (nz_num t 0 25 q).bind fun _ _ => .ok _
      · split
        · exact (nz_num t 1 64 q).bind fun _ _ => .ok _
        · split
          · exact (nz_key t q).bind fun _ _ => .ok _
          · split
            · exact (nz_mat t q).bind fun _ _ => .ok _
            · split
              · exact (nz_mach t q).bind fun _ _ => .ok _
              · exact .ok _
theorem nz_more (t : List UInt8) : ∀ (f : Nat) (L : List Sp) (p : Nat), Nz (rMore t f L p)
  | 0, _, _ => .ok _
  | f + 1, L, p => by
    unfold rMore
    split
    · exact .ok _
    · refine (nz_word t p).bind fun l q => ?_
      split
      · exact (nz_step t L.length q).bind fun s q' => nz_more t f _ q'
      · exact .err (by decide) _
theorem nz_read (t : List UInt8) : Nz (rRead t) := by
  unfold rRead
  split
  · exact .err (by decide) _
  · exact (nz_step t 0 0).bind fun s q => nz_more t 66 [s] q
theorem kn_few : ∀ j, j < 5 → (knN (whN j).data.toList).length ≤ 26 := by decide +kernel
/-- Same can go through what is right, can be written, and has what its kind has alone. -/
theorem neat_few {s : Sp} (h : Neat s) : FewS s := by
  have hg : Few s.g := by
    by_cases h6 : s.k = 6
    · have h1 := st_rotor h.st h6
      have h2 : mcE s.g = 0 := by have := h.wo; unfold woE at this; rw [if_pos h6] at this; exact this
      obtain ⟨⟨_, hn⟩, _, ⟨hr, _⟩, ⟨hs, _⟩, _⟩ := gE_zero h1
      refine ⟨by omega, fun r hr => ?_, by omega, by omega⟩
      obtain ⟨j, hj⟩ := (mcE_zero h2).1 r hr
      obtain ⟨h3, _, h4, _⟩ := whF_some hj
      have := kn_few j h3
      omega
    · have h1 := h.pl.g
      have e : (plnS s).g = gm0 := by unfold plnS; exact if_neg h6
      rw [e] at h1
      have h2 : s.g.n = 0 := h1.n
      have h3 : s.g.rl = 0 := h1.rl
      have h4 : s.g.sl = 0 := h1.sl
      exact ⟨by omega, fun r hr => by omega, by omega, by omega⟩
  by_cases h5 : s.k = 5
  · obtain ⟨h1, h2⟩ := (matErr_zero _ _ _).1 (st_hill h.st h5)
    exact ⟨hg, h1.le, h2⟩
  · have h1 : s.r = 0 := by
      have := h.pl.r
      have e : (plnS s).r = 0 := by unfold plnS; exact if_neg h5
      rw [e] at this
      exact this
    exact ⟨hg, by omega, fun j hj => by omega⟩
theorem prE_parts {n : Nat} {l : Nat → Sp} (h : prE n l = 0) : 1 ≤ n ∧ n ≤ 64 ∧ ∀ i, i < n → stE (l i) = 0 ∧ woE (l i) = 0 := by
  unfold prE at h
  by_cases hc : chE n l ≠ 0
  · rw [if_pos hc] at h; exact absurd h hc
  rw [if_neg hc] at h
  obtain ⟨hn, hst⟩ := chE_zero (Decidable.not_not.1 hc)
  by_cases h0 : n = 0
  · rw [if_pos h0] at h; cases h
  rw [if_neg h0] at h
  exact ⟨by omega, hn, fun i hi => ⟨hst i hi, firV_zero h i hi⟩⟩
theorem read_few {t : List UInt8} {L : List Sp} {q : Nat} (h : rRead t = .ok (L, q)) : prE L.length (spD L) = 0 ∧ L.length ≤ 64 ∧ (∀ i, i < L.length → FewS (spD L i)) ∧ ∀ i, i < L.length → SameS (spD L i) (plnS (spD L i)) := by
  obtain ⟨h1, h2, h3⟩ := rRead_neat h
  obtain ⟨_, _, h4⟩ := prE_parts h1
  exact ⟨h1, h2, fun i hi => neat_few ⟨(h4 i hi).1, (h4 i hi).2, h3 i hi⟩, h3⟩
/-- What is wanted so far: steps that lie where those of the chain lie, in a slice of the law's own. -/
structure WtO (w0 W : World) (B : Nat) (v : Value) (k : Nat) (l : Nat → Sp) (R : Nat → Array Value) : Prop where
  own : W.ownsRow B 31 59 v k (rws R k)
  size : ∀ j, j < k → (R j).size = 59
  each : ∀ j, j < k → SqAt w0 (.agg (R j)) (l j)
theorem WtO.chain {w0 W : World} {B k : Nat} {v : Value} {l : Nat → Sp} {R : Nat → Array Value} (h : WtO w0 W B v k l R) (hb : Below w0.heap.size w0 W) : ChAt W v k l := by
  obtain ⟨a, cap, rfl, hm, hr⟩ := rws_range h.own h.size
  refine ⟨a, cap, R, rfl, hm, fun r hrk => ?_, fun r hrk => (h.each r hrk).below hb⟩
  obtain ⟨b, o, rfl, hb, hc⟩ := hr r hrk
  exact ⟨b, o, rfl, hc⟩
theorem WtO.more {w0 W W' : World} {B k : Nat} {v v' : Value} {l : Nat → Sp} {R : Nat → Array Value} {c : Array Value} (h : WtO w0 W B v k l R) (hc : SqAt w0 (.agg c) (l k)) (hown : W'.ownsRow B 31 59 v' (k + 1) (rws R k ++ c.toList)) : WtO w0 W' B v' (k + 1) l (fun i => if i = k then c else R i) := by
  refine ⟨?_, fun j hj => ?_, fun j hj => ?_⟩
  · rw [rws, rws_congr (g := R) (fun j hj => if_neg (by omega)), if_pos rfl]
    exact hown
  · by_cases e : j = k
    · rw [if_pos e]; exact (sq_size hc).1
    · rw [if_neg e]; exact h.size j (by omega)
  · by_cases e : j = k
    · simp only [e, if_pos]; exact hc
    · simp only [if_neg e]; exact h.each j (by omega)
end Go.Proofs.YtkohhdkkbaifoaaGreatDoor

/-
  script.Read.
-/
namespace Go.Proofs.YtkohhdkkbaifoaaGreatDoor
open Go.RowKit PK Vg

theorem Nw.setc {B E : Nat} {P : World → Prop} {W : World} (h : Nw B E P W) {g o : Nat} (hg : g < B) (v : Value) : Nw B E P (W.setCell ⟨g, o, none⟩ v) := h.keep fun b o2 x h1 _ h3 => by
  have := heap_setCell_other W ⟨g, o, none⟩ b v (by show b ≠ g; omega)
  simp only [World.cell?, this] at h3 ⊢
  exact h3
theorem ent_read1 (args : Array Value) (W : World) : (callFunc 55 args).run Tryz.prog W = .ok (.enter 55 args) W := by kernel_rfl
theorem glob17 {w : World} (hn : NmAt w) (he : ErAt w) : gRange < w.heap.size ∧ 1 < w.heap.size := by
  obtain ⟨ev, h1, _⟩ := he
  exact ⟨cell_block h1, cell_block (hn.kn 0 _ rfl)⟩
theorem RdAt_new (T : ByteArray) (X : World) : RdAt (X.alloc (.cells #[.string T, .int .i64 0] 83)) X.heap.size T 0 := RowAt.new X _ _
set_option maxRecDepth 100000 in
set_option maxHeartbeats 4000000 in
theorem read1_any (q : Nat) (T : ByteArray) (X : World) (hq : RowAt X q 9 #[.string T]) (hn : NmAt X) (he : ErAt X) : Calls Tryz.prog 55 #[.pointer (some ⟨q, 0, none⟩)] X fun e w' => Told (rRead T.data.toList) e (fun L _ v => Nw X.heap.size w'.heap.size (fun W => ChAt W v L.length (spD L)) w') ∧ Below X.heap.size X w' := by
  have htl := Pl.size_len T
  have c0 := RowAt.cell hq (i := 0) rfl
  unfold rRead
  by_cases hbig : 65536 < T.data.toList.length
  · rw [if_pos hbig]
    have HTH : Hid _ := throw_any 4 0 X
    have hb : (65536 : Int) < (T.size : Int) := by omega
    clear hq hn he htl hbig
    go_enter Tryz.func55, Tryz.ntmps55
    go_wp2_with fail
    refine Calls.mono HTH.out ?_
    rintro e V ⟨rfl, rfl⟩
    exact ⟨rfl, rfl, Below.refl _ _⟩
  · rw [if_neg hbig]
    have hgl := glob17 hn he
    have hal : Below X.heap.size X (X.alloc (.cells #[.string T, .int .i64 0] 83)) := (Below.refl _ X).alloc (Nat.le_refl _) _
    have hb : ¬ (65536 : Int) < (T.size : Int) := by omega
    have HCH : Hid _ := rchain17_any X.heap.size T _ (RdAt_new T X) (by omega) (hn.below hal) (he.below hal) hgl
    have HAL : Hid (Below X.heap.size X (X.alloc (.cells #[.string T, .int .i64 0] 83))) := hal
    clear hal hq hn he htl hbig hgl
    go_enter Tryz.func55, Tryz.ntmps55
    go_wp2_with fail
    refine Calls.mono HCH.out ?_
    rintro e V ⟨ht, hf⟩
    have HB : Hid (Below X.heap.size X V) := Fb.old HAL.out hf (Nat.le_refl _)
    rcases hRR : (rBind (rStep T.data.toList 0 0) fun s q => rMore T.data.toList 66 [s] q) with ⟨E, A⟩ | ⟨L, p⟩
    · rw [hRR] at ht
      obtain rfl : e = .panicked [flt E A] := ht
      exact ⟨rfl, by rw [hRR]; rfl, HB.out⟩
    · rw [hRR] at ht
      obtain ⟨v, rfl, hnw⟩ := ht
      obtain ⟨a, cap, R, rfl, -⟩ := hnw.here
      have HNW : Hid (Nw X.heap.size V.heap.size (fun W => ChAt W (.slice a L.length cap) L.length (spD L)) V) := hnw.mono (by rw [World.size_alloc]; omega) (Nat.le_refl _)
      have HRR : Hid _ := hRR
      clear hnw hf HCH HAL hRR
      go_wp2
      go_ret
      exact ⟨by rw [HRR.out]; exact ⟨_, rfl, HNW.out⟩, HB.out⟩
/-- What script.Read answers. -/
def Rdd (r : Rz (List Sp)) (e : Ending) (w' : World) : Prop := match r with
  | .ok (L, _) => ∃ v, e = .returned (.tuple #[v, fltV 0 0]) ∧ ChAt w' v L.length (spD L)
  | .error (E, A) => e = .returned (.tuple #[.slice none 0 0, fltV E A])
set_option maxRecDepth 100000 in
set_option maxHeartbeats 4000000 in
theorem read17_any (T : ByteArray) (w : World) (hn : NmAt w) (he : ErAt w) : Calls Tryz.prog 18 #[.string T] w fun e w' => Rdd (rRead T.data.toList) e w' ∧ Below w.heap.size w w' := by
  obtain ⟨W1, hW1⟩ : ∃ W1, W1 = (w.alloc (.cells #[.string T] 9)).alloc (.cells #[.int .i64 0, .int .i64 0] 35) := ⟨_, rfl⟩
  have hsz : W1.heap.size = w.heap.size + 2 := by rw [hW1]; simp
  have h1 : Below w.heap.size w W1 := by rw [hW1]; exact ((Below.refl _ w).alloc (Nat.le_refl _) _).alloc (by simp) _
  have hbx : RowAt W1 w.heap.size 9 #[.string T] := by rw [hW1]; exact (RowAt.new w _ _).alloc _
  have h5 : RowAt W1 (w.heap.size + 1) 35 #[.int .i64 0, .int .i64 0] := by
    rw [hW1]
    have := RowAt.new (w.alloc (.cells #[.string T] 9)) 35 #[.int .i64 0, .int .i64 0]
    simpa using this
  have hF : Below W1.heap.size W1 (fbox W1) := (Below.refl _ W1).alloc (Nat.le_refl _) _
  have hF2 : Below w.heap.size w (fbox W1) := h1.trans (hF.mono h1.size)
  have hFs : (fbox W1).heap.size = W1.heap.size + 1 := by simp [fbox]
  have HR := read1_any w.heap.size T (fbox W1) (RowAt.below hbx hF (RowAt.lt hbx)) (hn.below hF2) (he.below hF2)
  have hbxF : RowAt (fbox W1) W1.heap.size 35 #[.int .i64 0, .int .i64 0] := RowAt.new W1 _ _
  have HB1 : Hid (Below w.heap.size w W1) := h1
  have hmf := mkf
  rcases hRR : rRead T.data.toList with ⟨E, A⟩ | ⟨L, p⟩
  · rw [hRR] at HR
    have HED : Hid (Calls Tryz.prog 54 #[.func (.func 55) #[] #[.pointer (some ⟨w.heap.size, 0, none⟩)]] W1 fun e w' => e = .returned (.tuple #[.slice none 0 0, fltV E A]) ∧ Below W1.heap.size W1 w') := by
      refine Calls.mono (edgeL_bad 55 _ ent_read1 W1 W1.heap.size (Nat.le_refl _) E A (fun _ => True) (Calls.mono HR ?_)) ?_
      · rintro e w' ⟨rfl, hb⟩
        exact ⟨rfl, trivial, RowAt.below hbxF hb (RowAt.lt hbxF), hb.mono (by omega)⟩
      · rintro e w' ⟨rfl, _, hb⟩
        exact ⟨rfl, hb⟩
    have H5 : Hid _ := h5
    clear HR h1 hbx h5 hF hF2 hbxF hn he hRR
    go_enter Tryz.func18, Tryz.ntmps18
    go_upto_region 1 with fail
    rw [← hW1]
    clear hW1
    go_wp2_with fail
    refine Calls.mono HED.out ?_
    rintro e V ⟨rfl, hb⟩
    have hr := RowAt.below H5.out hb (RowAt.lt H5.out)
    have c0 := hr.cell (i := 0) rfl
    have c1 := hr.cell (i := 1) rfl
    have f0 := hr.frozen 0
    have f1 := hr.frozen 1
    have HR2 : Hid (RowAt ((V.setCell ⟨w.heap.size + 1, 0, none⟩ (.int .i64 E)).setCell ⟨w.heap.size + 1, 1, none⟩ (.int .i64 A)) (w.heap.size + 1) 35 #[.int .i64 E, .int .i64 A]) := (hr.set 0 _).set 1 _
    have HB2 : Hid (Below w.heap.size w ((V.setCell ⟨w.heap.size + 1, 0, none⟩ (.int .i64 E)).setCell ⟨w.heap.size + 1, 1, none⟩ (.int .i64 A))) := ((HB1.out.trans (hb.mono (by omega))).setCell (p := ⟨w.heap.size + 1, 0, none⟩) (by show _ ≤ _ + 1; omega) _).setCell (p := ⟨w.heap.size + 1, 1, none⟩) (by show _ ≤ _ + 1; omega) _
    clear hr hb hsz hFs
    unfold fltV
    go_wp2
    exact ⟨rfl, _, results_tmp_cell rfl _ _ (w.heap.size + 1) 35 #[.int .i64 E, .int .i64 A] (0, 0) _ _ rfl rfl HR2.out Tryz.underlying35 rfl f_info, by show _ = Ending.returned (.tuple #[.slice none 0 0, fltV E A]); rfl, HB2.out⟩
  · rw [hRR] at HR
    have HED : Hid (Calls Tryz.prog 54 #[.func (.func 55) #[] #[.pointer (some ⟨w.heap.size, 0, none⟩)]] W1 fun e w' => ∃ a cap, e = .returned (.tuple #[.slice a L.length cap, fltV 0 0]) ∧ Nw (W1.heap.size + 1) w'.heap.size (fun W => ChAt W (.slice a L.length cap) L.length (spD L)) w' ∧ Below W1.heap.size W1 w') := by
      refine Calls.mono (edgeL_ok 55 _ ent_read1 W1 W1.heap.size (Nat.le_refl _) (fun v w' => Nw (W1.heap.size + 1) w'.heap.size (fun W => ChAt W v L.length (spD L)) w') (Calls.mono HR ?_)) ?_
      · rintro e w' ⟨⟨v, rfl, hnw⟩, hb⟩
        refine ⟨v, rfl, ?_, hnw.mono (by omega) (Nat.le_refl _), RowAt.below hbxF hb (RowAt.lt hbxF), hb.mono (by omega)⟩
        obtain ⟨a, cap, R, rfl, -⟩ := hnw.here
        rfl
      · rintro e w' ⟨v, rfl, ⟨w1, hnw, rfl⟩, hb⟩
        obtain ⟨a, cap, R, rfl, -⟩ := hnw.here
        refine ⟨a, cap, rfl, ?_, hb⟩
        rw [World.size_setCell, World.size_setCell]
        exact (hnw.setc (by omega) _).setc (by omega) _
    have H5 : Hid _ := h5
    clear HR h1 hbx h5 hF hF2 hbxF hn he hRR
    go_enter Tryz.func18, Tryz.ntmps18
    go_upto_region 1 with fail
    rw [← hW1]
    clear hW1
    go_wp2_with fail
    refine Calls.mono HED.out ?_
    rintro e V ⟨a, cap, rfl, hnw, hb⟩
    have hr := RowAt.below H5.out hb (RowAt.lt H5.out)
    have c0 := hr.cell (i := 0) rfl
    have c1 := hr.cell (i := 1) rfl
    have f0 := hr.frozen 0
    have f1 := hr.frozen 1
    have HR2 : Hid (RowAt ((V.setCell ⟨w.heap.size + 1, 0, none⟩ (.int .i64 0)).setCell ⟨w.heap.size + 1, 1, none⟩ (.int .i64 0)) (w.heap.size + 1) 35 #[.int .i64 0, .int .i64 0]) := (hr.set 0 _).set 1 _
    have HB2 : Hid (Below w.heap.size w ((V.setCell ⟨w.heap.size + 1, 0, none⟩ (.int .i64 0)).setCell ⟨w.heap.size + 1, 1, none⟩ (.int .i64 0))) := ((HB1.out.trans (hb.mono (by omega))).setCell (p := ⟨w.heap.size + 1, 0, none⟩) (by show _ ≤ _ + 1; omega) _).setCell (p := ⟨w.heap.size + 1, 1, none⟩) (by show _ ≤ _ + 1; omega) _
    have HCA : Hid (ChAt ((V.setCell ⟨w.heap.size + 1, 0, none⟩ (.int .i64 0)).setCell ⟨w.heap.size + 1, 1, none⟩ (.int .i64 0)) (.slice a L.length cap) L.length (spD L)) := ((hnw.setc (by omega) _).setc (by omega) _).here
    clear hr hb hnw hsz hFs
    unfold fltV
    go_wp2
    exact ⟨rfl, _, results_tmp_cell rfl _ _ (w.heap.size + 1) 35 #[.int .i64 0, .int .i64 0] (0, 0) _ _ rfl rfl HR2.out Tryz.underlying35 rfl f_info, ⟨.slice a L.length cap, rfl, HCA.out⟩, HB2.out⟩
end Go.Proofs.YtkohhdkkbaifoaaGreatDoor

/-
  The closed facts that are asked first: alive.
-/
namespace Go.Proofs.YtkohhdkkbaifoaaGreatDoor
open Go.RowKit PK Vg

def spM (x : Nat) : Sp := { sp0 1 0 with n := (x : Int) }
set_option maxRecDepth 100000 in
theorem read_move1 : rRead [109, 111, 118, 101, 32, 49] = .ok ([spM 1], 7) := by kernel_rfl
theorem run_hal : rE 1 (spD [spM 1]) [72, 65, 76] = 0 ∧ rS 1 (spD [spM 1]) [72, 65, 76] = [73, 66, 77] := by
  have h : rE 1 (spD [spM 1]) [72, 65, 76] = 0 := by kernel_rfl
  refine ⟨h, ?_⟩
  unfold rS
  rw [if_pos h]
  show one (spM 1) [72, 65, 76] = _
  rw [one_1 rfl]
  kernel_rfl
set_option maxRecDepth 100000 in
set_option maxHeartbeats 2000000 in
theorem alive17_any (w : World) (hn : NmAt w) (he : ErAt w) : Calls Tryz.prog 17 #[] w fun e w' => e = .returned (.bool true) ∧ Below w.heap.size w w' := by
  have HR : Hid _ := read17_any ⟨#[109, 111, 118, 101, 32, 49]⟩ w hn he
  clear hn he
  go_enter Tryz.func17, Tryz.ntmps17
  go_wp2_with fail
  refine Calls.mono HR.out ?_
  rintro e V ⟨hrd, hb⟩
  rw [read_move1] at hrd
  obtain ⟨v, rfl, hch⟩ := hrd
  obtain ⟨a, cap, R, rfl, -⟩ := id hch
  obtain ⟨V2, hV2⟩ : ∃ V2, V2 = V.alloc (.cells #[.int .i64 0, .int .i64 0] 35) := ⟨_, rfl⟩
  have hb2 : Below V.heap.size V V2 := by rw [hV2]; exact (Below.refl _ V).alloc (Nat.le_refl _) _
  have hf2 : RowAt V2 V.heap.size 35 #[.int .i64 0, .int .i64 0] := by rw [hV2]; exact RowAt.new V _ _
  have HRN : Hid _ := run_any _ 1 (spD [spM 1]) ⟨#[72, 65, 76]⟩ V2 (hch.below hb2)
  change Hid (Calls Tryz.prog 11 _ _ fun e w' => e = .returned (.tuple #[.string ⟨(rS 1 (spD [spM 1]) [72, 65, 76]).toArray⟩, fltV (rE 1 (spD [spM 1]) [72, 65, 76]) (rA 1 (spD [spM 1]) [72, 65, 76])]) ∧ _) at HRN
  rw [run_hal.1, run_hal.2] at HRN
  generalize rA 1 (spD [spM 1]) [72, 65, 76] = RA at HRN
  have HB2 : Hid (Below w.heap.size w V2) := hb.trans (hb2.mono hb.size)
  have HF2 : Hid _ := hf2
  have HVS : Hid (w.heap.size ≤ V.heap.size) := hb.size
  have c0 := RowAt.cell hf2 (i := 0) rfl
  clear HR hb hb2 hch hf2
  unfold fltV
  go_upto_region 2 with fail
  rw [← hV2]
  clear hV2
  go_wp2_with fail
  refine Calls.mono HRN.out ?_
  rintro e V3 ⟨rfl, hb⟩
  have hf3 := RowAt.below HF2.out hb (RowAt.lt HF2.out)
  have c3 := RowAt.cell hf3 (i := 0) rfl
  have c4 := RowAt.cell hf3 (i := 1) rfl
  have f3 := RowAt.frozen hf3 0
  have f4 := RowAt.frozen hf3 1
  have HB3 : Hid (Below w.heap.size w ((V3.setCell ⟨V.heap.size, 0, none⟩ (.int .i64 0)).setCell ⟨V.heap.size, 1, none⟩ (.int .i64 (RA : Int)))) := ((HB2.out.trans (hb.mono HB2.out.size)).setCell (p := ⟨V.heap.size, 0, none⟩) HVS.out _).setCell (p := ⟨V.heap.size, 1, none⟩) HVS.out _
  clear hf3 hb HRN c0 HF2 HB2
  unfold fltV
  go_wp2
  go_ret
  exact ⟨rfl, HB3.out⟩
end Go.Proofs.YtkohhdkkbaifoaaGreatDoor

/-
  Contracts of hill.columns and hill.Find.
-/
namespace Go.Proofs.YtkohhdkkbaifoaaGreatDoor
open Go.RowKit PK

end Go.Proofs.YtkohhdkkbaifoaaGreatDoor

/-
  Plain mathematics: what is multiplied twice; what is undone; what a known text tells.
-/
namespace Go.Proofs.YtkohhdkkbaifoaaGreatDoor
open Go.RowKit PK

/-- Where a place's piece lies. -/
theorem piece {n F i : Nat} (hF : F % n = 0) (hi : i < F) : ∃ q r, i = q * n + r ∧ r < n ∧ q * n + n ≤ F := by
  have hn : 0 < n := by
    rcases Nat.eq_zero_or_pos n with h | h
    · subst h; rw [Nat.mod_zero] at hF; omega
    · exact h
  refine ⟨i / n, i % n, (Nat.div_add_mod' i n).symm, Nat.mod_lt _ hn, ?_⟩
  have h1 := Nat.div_add_mod' F n
  rw [hF, Nat.add_zero] at h1
  have h2 : i / n < F / n := by
    rw [Nat.div_lt_iff_lt_mul hn, h1]
    exact hi
  have h3 := Nat.mul_le_mul_right n (show i / n + 1 ≤ F / n from h2)
  rw [Nat.succ_mul, h1] at h3
  exact h3
end Go.Proofs.YtkohhdkkbaifoaaGreatDoor

/-
  What is done is undone, and the other way round; chains one behind the other.
-/
namespace Go.Proofs.YtkohhdkkbaifoaaGreatDoor
open Go.RowKit PK Vg Sm

section
variable (w : World) {s : Sp} {t : List UInt8} (hs : stE s = 0) (ht : ckE t = 0) (hu : undE s t.length = 0)
include w hs ht hu
end
section
variable (w : World) {l : Nat → Sp} {n : Nat} (hl : ∀ i, i < n → stE (l i) = 0) {t : List UInt8} (ht : ckE t = 0)
include w hl ht
end
end Go.Proofs.YtkohhdkkbaifoaaGreatDoor

/-
  Chains that are arguments, appended.
-/
namespace Go.Proofs.YtkohhdkkbaifoaaGreatDoor
open Go.RowKit PK Vg

theorem rws_at {f : Nat → Array Value} {s : Nat} (h0 : 0 < s) {k : Nat} (hs : ∀ i, i < k → (f i).size = s) {j : Nat} {u : Value} (h : (rws f k)[j]? = some u) : ∃ r q, r < k ∧ q < s ∧ j = r * s + q ∧ (f r).toList[q]? = some u := by
  have hl := rws_len hs
  have hj : j < k * s := by have := (List.getElem?_eq_some_iff.1 h).1; omega
  have hr : j / s < k := (Nat.div_lt_iff_lt_mul h0).2 hj
  have hq : j % s < s := Nat.mod_lt _ h0
  have e : j = j / s * s + j % s := by have := Nat.div_add_mod j s; rw [Nat.mul_comm] at this; omega
  refine ⟨j / s, j % s, hr, hq, e, ?_⟩
  have hlt : j % s < (f (j / s)).toList.length := by rw [Array.length_toList, hs _ hr]; exact hq
  have h1 := rws_get hs (j / s) hr (j % s) _ (List.getElem?_eq_getElem hlt)
  rw [← e, h] at h1
  rw [h1]
  exact List.getElem?_eq_getElem hlt
/-- What an argument that is a chain gives to append. -/
theorem ChAt.src {w : World} {v : Value} {n : Nat} {l : Nat → Sp} (h : ChAt w v n l) : ∃ (a : Option Addr) (cap : Nat) (R : Nat → Array Value), v = .slice a n cap ∧ n ≤ maxLen ∧ (∀ i, i < n → (R i).size = 59 ∧ (R i).all (·.oneCell') = true ∧ SqAt w (.agg (R i)) (l i)) ∧ (∀ ad, a = some ad → ∀ j u, (rws R n)[j]? = some u → w.cell? (ad.add j) = some u) ∧ (rws R n).length = n * 59 ∧ ∀ u ∈ rws R n, u.oneCell' = true := by
  obtain ⟨a, cap, R, h1, h2, h3, h4⟩ := h
  have hsz : ∀ i, i < n → (R i).size = 59 := fun i hi => (sq_size (h4 i hi)).1
  refine ⟨a, cap, R, h1, h2, fun i hi => ⟨hsz i hi, (sq_size (h4 i hi)).2, h4 i hi⟩, fun ad ha j u hu => ?_, rws_len hsz, fun u hu => ?_⟩
  · obtain ⟨r, q, hr, _, rfl, hq⟩ := rws_at (by omega) hsz hu
    obtain ⟨b, o, e, hc⟩ := h3 r hr
    rw [ha] at e
    cases e
    have := hc q u hq
    rw [Addr.add_mid, ← Nat.add_assoc]
    exact this
  · obtain ⟨j, hj, rfl⟩ := List.getElem_of_mem hu
    obtain ⟨r, q, hr, _, rfl, hq⟩ := rws_at (by omega) hsz (List.getElem?_eq_getElem hj)
    have h5 := (sq_size (h4 r hr)).2
    rw [← Array.all_toList] at h5
    exact List.all_eq_true.1 h5 _ (List.mem_of_getElem? hq)
/-- An argument is nil, or it has a place. -/
def NilOr (v : Value) (n : Nat) : Prop := (v = .slice none 0 0 ∧ n = 0) ∨ ∃ ad c, v = .slice (some ad) n c
end Go.Proofs.YtkohhdkkbaifoaaGreatDoor
