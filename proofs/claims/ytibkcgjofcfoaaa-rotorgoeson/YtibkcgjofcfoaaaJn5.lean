/-
  Several texts, joined: OMa, LOUnd, OSame.
-/
import Derived.Test.YtibkcgjofcfoaaaORWt
import Derived.Test.YtibkcgjofcfoaaaOPm
import Derived.Deep.QuietTactic
import Derived.BigQuiet
/-
  The machine that a given one is.
-/
namespace Go.Proofs.Ytibkcgjofcfoaaa
open Go.RowKit PK Vg

def maOf (g : Gm) : Om.Ma := ⟨g.n, fun r c => (g.wi r c).toNat, fun r => (List.range (g.nl r)).map fun k => (g.no r k).toNat, fun i => (g.ri i).toNat, fun i => (g.st i).toNat, fun c => (g.rf c).toNat, fun c => (g.pl c).toNat⟩
theorem perm_toNat {f : Nat → Int} (h : Pm.wrong f = 0) : Pm.IsPerm (fun c => (f c).toNat) ∧ ∀ i, i < 26 → f i = (((f i).toNat : Nat) : Int) := by
  obtain ⟨p, hp, e⟩ := (Pm.wrong_zero f).1 h
  have e2 : ∀ i, i < 26 → (f i).toNat = p i := fun i hi => by rw [e i hi]; rfl
  refine ⟨⟨fun i hi => by show (f i).toNat < 26; rw [e2 i hi]; exact hp.lt i hi, fun i j hi hj h => ?_⟩, fun i hi => by rw [e i hi]; rfl⟩
  have h' : (f i).toNat = (f j).toNat := h
  rw [e2 i hi, e2 j hj] at h'
  exact hp.inj i j hi hj h'
theorem ok_maOf {g : Gm} (h : gE g = 0) : Om.Ok (maOf g) ∧ ∀ W v, MacAt W v g → MacAt W v (gOf (maOf g)) := by
  obtain ⟨⟨h1, h2⟩, h3, ⟨h4, h5⟩, ⟨h6, h7⟩, ⟨h8, h9⟩, h10, h11⟩ := gE_zero h
  have hw := whE_zero g g.n h3
  rw [ins_iff] at h5 h7
  rw [undo_iff] at h9 h11
  obtain ⟨hrf, erf⟩ := perm_toNat h8
  obtain ⟨hpl, epl⟩ := perm_toNat h10
  have hwi : ∀ r, r < g.n → Pm.IsPerm (fun c => (g.wi r c).toNat) ∧ ∀ i, i < 26 → g.wi r i = (((g.wi r i).toNat : Nat) : Int) := fun r hr => perm_toNat (hw r hr).1
  have hno : ∀ r, r < g.n → ∀ k, k < g.nl r → 0 ≤ g.no r k ∧ g.no r k ≤ 25 := fun r hr => (ins_iff _ _).1 (hw r hr).2
  refine ⟨⟨h1, h2, fun i hi => (hwi i hi).1, fun i hi k hk => ?_, fun i hi => ?_, fun i hi => ?_, hrf, fun c hc => ?_, fun c hc => ?_, hpl, fun c hc => ?_⟩, ?_⟩
  · obtain ⟨q, hq, rfl⟩ := List.mem_map.1 hk
    have := hno i hi q (by simpa using hq)
    omega
  · have := h5 i (by rw [h4]; exact hi); show (g.ri i).toNat < 26; omega
  · have := h7 i (by rw [h6]; exact hi); show (g.st i).toNat < 26; omega
  · have := (h9 c hc).1
    show (g.rf (g.rf c).toNat).toNat = c
    omega
  · have := (h9 c hc).2 rfl
    have e := erf c hc
    show (g.rf c).toNat ≠ c
    omega
  · have := (h11 c hc).1
    show (g.pl (g.pl c).toNat).toNat = c
    omega
  · rintro W v ⟨a, b, c, e, k1, k2, k3⟩
    refine ⟨a, b, c, by rw [e, mac_ext erf epl]; rfl, ?_, ?_, ?_⟩
    · obtain ⟨a', cap, R, q1, q2, q3, q4⟩ := k1
      refine ⟨a', cap, R, q1, q2, fun r hr => ?_, fun r hr => ?_⟩
      · obtain ⟨b', o', e1, e2⟩ := q3 r hr
        rw [whl_ext (hwi r hr).2] at e2
        exact ⟨b', o', e1, e2⟩
      · have := q4 r hr
        show NumsAt W (R r) ((List.range (g.nl r)).map fun k => (g.no r k).toNat).length _
        rw [List.length_map, List.length_range]
        refine nums_ext this fun k hk => ?_
        have h0 := hno r hr k hk
        show g.no r k = (((List.range (g.nl r)).map fun k => (g.no r k).toNat).getD k 0 : Nat)
        simp [List.getD_eq_getElem?_getD, hk]
        omega
    · rw [h4] at k2
      exact nums_ext k2 fun i hi => by
        have := h5 i (by rw [h4]; exact hi)
        show g.ri i = ((g.ri i).toNat : Int)
        omega
    · rw [h6] at k3
      exact nums_ext k3 fun i hi => by
        have := h7 i (by rw [h6]; exact hi)
        show g.st i = ((g.st i).toNat : Int)
        omega
/-- What Write writes. -/
def rwS (g : Gm) (t : List UInt8) : List UInt8 := if rwE g t ≠ 0 then [] else Om.wr (maOf g) (maOf g).st t
theorem rwE_zero {g : Gm} {t : List UInt8} (h : rwE g t = 0) : gE g = 0 ∧ ckE t = 0 := by
  unfold rwE at h
  by_cases hg : gE g = 0
  · rw [if_neg (fun e => e hg)] at h; exact ⟨hg, h⟩
  · rw [if_pos hg] at h; exact absurd h hg
theorem rwrite_any (vm : Value) (g : Gm) (t : ByteArray) (w : World) (hm : MacAt w vm g) : Calls Try.prog 42 #[vm, .string t] w fun e w' => e = .returned (.tuple #[.string ⟨(rwS g t.data.toList).toArray⟩, .agg #[.int .i64 (rwE g t.data.toList), .int .i64 (rwAt g t.data.toList)]]) ∧ Below w.heap.size w w' := by
  have HW := fun W (hb : Below w.heap.size w W) => rgw_any vm g W (hm.below hb)
  unfold rwS
  by_cases hg : gE g = 0
  · rw [hg] at HW
    have e : rwE g t.data.toList = ckE t.data.toList := by unfold rwE; rw [if_neg (fun h => h hg)]
    have e' : rwAt g t.data.toList = ckAt t.data.toList := by unfold rwAt; rw [if_neg (fun h => h hg)]
    rcases ck_cases t.data.toList with ⟨e1, e2, e3, e4⟩ | e1
    · obtain ⟨hM, hmm⟩ := ok_maOf hg
      rw [e, e', e1, e2, if_neg (by decide)]
      exact rwt_ok _ hM vm t (ls_of e4) (by rw [Pl.size_len]; exact e3) w (hmm w vm hm) HW (fun W => by have := rcheck_all t W; rw [e1, e2] at this; exact this)
    · obtain ⟨a, b, c, rfl, _⟩ := hm
      rw [e, e', if_pos (by simpa using e1)]
      exact rwt_text a b c g.rf g.pl t _ _ e1 w HW (fun W => rcheck_all t W)
  · have e : rwE g t.data.toList = gE g := by unfold rwE; rw [if_pos hg]
    have e' : rwAt g t.data.toList = 0 := by unfold rwAt; rw [if_pos hg]
    obtain ⟨a, b, c, rfl, _⟩ := hm
    rw [e, e', if_pos hg]
    exact rwt_bad a b c g.rf g.pl t _ (by simpa using hg) w HW
end Go.Proofs.Ytibkcgjofcfoaaa

/-
  RotorUndone, for any Write that writes what the document's writes.
-/
namespace Go.Proofs.Ytibkcgjofcfoaaa
open Go.RowKit PK Vg

theorem rwS_ok {g : Gm} {l : List UInt8} (h : rwE g l = 0) : rwS g l = Om.wr (maOf g) (maOf g).st l := by unfold rwS; rw [if_neg (fun e => e h)]
/-- The machine in its variable, and a fault behind it. -/
structure FmAt (w W : World) (a b c : Value) (rf pl : Nat → Int) (q : Nat) (x y : Value) : Prop where
  mg : MgAt w W a b c rf pl
  f : RowAt W q 31 #[x, y]
  ne : w.heap.size < q
section
variable {w W W' : World} {a b c : Value} {rf pl : Nat → Int} {q : Nat} {x y : Value}
theorem FmAt.step (h : FmAt w W a b c rf pl q x y) (hb : Below W.heap.size W W') : FmAt w W' a b c rf pl q x y := ⟨h.mg.step hb, h.f.below hb h.f.lt, h.ne⟩
theorem FmAt.alloc (h : FmAt w W a b c rf pl q x y) (o : Obj) : FmAt w (W.alloc o) a b c rf pl q x y := h.step ((Below.refl _ _).alloc (Nat.le_refl _) o)
theorem FmAt.new (h : MgAt w W a b c rf pl) (x y : Value) : FmAt w (W.alloc (.cells #[x, y] 31)) a b c rf pl W.heap.size x y := ⟨h.alloc _, RowAt.new W _ _, h.lt⟩
theorem FmAt.set (h : FmAt w W a b c rf pl q x y) (u v : Value) : FmAt w ((W.setCell ⟨q, 0, none⟩ u).setCell ⟨q, 1, none⟩ v) a b c rf pl q u v := by
  have := h.ne
  exact ⟨⟨(h.mg.row.setOther _ _ (by simp; omega)).setOther _ _ (by simp; omega), (h.mg.below.setCell (p := ⟨q, 0, none⟩) (by simp; omega) _).setCell (p := ⟨q, 1, none⟩) (by simp; omega) _⟩, (h.f.set 0 u).set 1 v, h.ne⟩
theorem FmAt.draws (h : FmAt w W a b c rf pl q x y) (n : Nat) : FmAt w (W.drewN n) a b c rf pl q x y := ⟨⟨h.mg.row, h.mg.below.trans ⟨rfl, rfl, rfl, Nat.le_refl _, fun _ _ => rfl⟩⟩, h.f, h.ne⟩
end
end Go.Proofs.Ytibkcgjofcfoaaa

/-
  Contract of perm.Same.
-/
namespace Go.Proofs.Ytibkcgjofcfoaaa
open Go.RowKit PK

def fill (a : Nat → Nat) (v : Nat → Int) : Nat → Nat → Int
  | 0 => fun _ => 0
  | k + 1 => upd (fill a v k) (a k) (v k)
theorem taking_any (m : Nat) (cap : Array Value) (a : Nat → Nat) (v : Nat → Int) (ha : ∀ i, i < 26 → a i < 26) (w : World) (hent : ∀ (args : Array Value) (W : World), (callFunc m args).run Try.prog W = .ok (.enter m args) W)
    (hp : ∀ i, i < 26 → ∀ W : World, Below w.heap.size w W → Calls Try.prog m (#[.int .i64 (i : Nat)] ++ cap) W fun e w' => e = .returned (.tuple #[.int .i64 (a i : Nat), .int .i64 (v i)]) ∧ Below W.heap.size W w') :
    Calls Try.prog 47 #[.func (.func m) #[] cap] w fun e w' => e = .returned (.agg (ints 26 (fill a v 26))) ∧ Below w.heap.size w w' := by
  have HP : Hid (∀ i, i < 26 → ∀ W : World, Below w.heap.size w W → Calls Try.prog m (#[.int .i64 (i : Nat)] ++ cap) W fun e w' => e = .returned (.tuple #[.int .i64 (a i : Nat), .int .i64 (v i)]) ∧ Below W.heap.size W w') := hp
  clear hp
  go_enter Try.func47, Try.ntmps47
  go_wp2
  rw [zero26]
  go_loopw [7] (fun i W => ∃ k : Nat, k ≤ 26 ∧ i = .int .i64 k ∧ RowAt W w.heap.size 25 (ints 26 fun _ => 0) ∧ RowAt W (w.heap.size + 1) 25 (ints 26 (fill a v k)) ∧ Below w.heap.size w W) (fun i _ => (26 - intOf i).toNat)
  case atStart =>
    refine ⟨0, by omega, rfl, (RowAt.new w _ _).alloc _, ?_, ((Below.refl _ _).alloc (Nat.le_refl _) _).alloc (by simp) _⟩
    have := RowAt.new (w.alloc (Obj.cells (ints 26 fun _ => 0) 25)) 25 (ints 26 fun x => 0)
    rw [World.size_alloc] at this
    exact this
  case round =>
    obtain ⟨k, hk, rfl, hrow0, hrow, hb⟩ := hrel
    by_cases hlt : k < 26
    · have ha' := ha k hlt
      have hsz := hb.size
      have h1 := hrow.lt
      have HW := HP.out k hlt wr hb
      have HV : Hid (Calls Try.prog m (#[.int .i64 (k : Nat)] ++ cap) wr fun e w' => e = .returned (.tuple #[.int .i64 (a k : Nat), .int .i64 (v k)]) ∧ Below wr.heap.size wr w') := HW
      clear HW
      obtain ⟨n, hn⟩ : ∃ n : Nat, n = a k := ⟨_, rfl⟩
      rw [← hn] at HV ha'
      have HNN : Hid (n = a k) := hn
      clear hn
      go_wp2_with fail
      refine HV.out.mono ?_
      rintro e w1 ⟨rfl, hb1⟩
      have hrow1 := hrow.below hb1 h1
      have hc := hrow1.cell (ints_get (fill a v k) ha')
      have hf := hrow1.frozen n
      go_wp2
      go_roundw
      case rel =>
        refine ⟨k + 1, by omega, by go_num, ?_, ?_, ?_⟩
        · exact (hrow0.below hb1 hrow0.lt).setOther _ _ (by simp)
        · have := hrow1.set n (.int .i64 (v k))
          rw [ints_set] at this
          show RowAt _ _ _ (ints 26 (upd (fill a v k) (a k) (v k)))
          rw [← HNN.out]
          exact this
        · exact (hb.trans (hb1.mono hsz)).setCell (by simp) _
      case measure => simp [intOf]; omega
    · have HK : Hid (k = 26) := by rw [Hid]; omega
      have h1 := hrow.lt
      go_wp2_with (first
        | refine wpList_load_row rfl 25 _ rfl (w.heap.size + 1) rfl 25 (ints 26 (fill a v k)) (0, 0) _ hrow Try.underlying25 rfl (by rw [ints_size]; exact info_perm) ?_
        | refine wpList_store_row rfl 25 _ _ rfl w.heap.size (ints 26 (fill a v k)) rfl rfl 25 _ hrow0 (by rw [ints_size]; exact info_perm) (by simp only [ints_size]) (ints_one _ _) ?_)
      refine bodyPost_ret (v := .agg (ints 26 (fill a v k))) (results_cell_row rfl _ _ w.heap.size 25 _ (0, 0) _ rfl (hrow0.row _) Try.underlying25 rfl (by rw [ints_size]; exact info_perm)) rfl ⟨by rw [HK.out], Below.setRow hb _ (Nat.le_refl _) _⟩
theorem fill_at (a : Nat → Nat) (v : Nat → Int) (hi : ∀ i j, i < 26 → j < 26 → a i = a j → i = j) : ∀ k, k ≤ 26 → ∀ i, i < k → fill a v k (a i) = v i
  | 0, _, i, h => by omega
  | k + 1, hk, i, h => by
    show upd (fill a v k) (a k) (v k) (a i) = v i
    by_cases e : i = k
    · subst e; simp
    · rw [upd_other _ _ (fun e2 => e (hi i k (by omega) (by omega) e2))]
      exact fill_at a v hi k (by omega) i (by omega)
theorem fill_id (v : Nat → Int) : ints 26 (fill (fun i => i) v 26) = ints 26 v := ints_ext fun j hj => fill_at (fun i => i) v (fun _ _ _ _ e => e) 26 (Nat.le_refl _) j hj
theorem same1_any (i : Int) (w : World) : Calls Try.prog 48 #[.int .i64 i] w fun e w' => e = .returned (.tuple #[.int .i64 i, .int .i64 i]) ∧ w = w' := by
  go_enter Try.func48, Try.ntmps48
  go_wp2
  go_ret2
  exact ⟨rfl, rfl⟩
theorem same_any (w : World) : Calls Try.prog 20 #[] w fun e w' => e = .returned (.agg (ints 26 (Pm.up fun i => i))) ∧ Below w.heap.size w w' := by
  go_enter Try.func20, Try.ntmps20
  go_wp2_with fail
  rw [zero26]
  refine (taking_any 48 #[] (fun i => i) (Pm.up fun i => i) (fun _ h => h) _ (by intro args W; go_simp) (fun i hi W _ => (same1_any i W).mono ?_)).mono ?_
  · rintro e w' ⟨rfl, rfl⟩
    exact ⟨rfl, Below.refl _ _⟩
  · rintro e w1 ⟨rfl, hb1⟩
    rw [fill_id]
    have hrow := (RowAt.new w 25 (ints 26 fun _ => 0)).below hb1 (by simp)
    go_wp2_with (refine wpList_store_row rfl 25 _ _ rfl w.heap.size (ints 26 (Pm.up fun i => i)) rfl rfl 25 _ hrow (by rw [ints_size]; exact info_perm) (by simp only [ints_size]) (ints_one _ _) ?_)
    exact bodyPost_ret (v := .agg (ints 26 (Pm.up fun i => i))) (results_cell_row rfl _ _ w.heap.size 25 _ (0, 0) _ rfl (hrow.row _) Try.underlying25 rfl (by rw [ints_size]; exact info_perm)) rfl ⟨rfl, Below.setRow (((Below.refl _ _).alloc (Nat.le_refl _) _).trans (hb1.mono (by simp))) _ (Nat.le_refl _) _⟩
end Go.Proofs.Ytibkcgjofcfoaaa
