/-
  The machine that a given one is.
-/
import Derived.Test.YtpdjfjmfnmocmaeORWt
namespace Go.Proofs.Ytpdjfjmfnmocmae
open Go.RowKit PK Vg

def maOf (g : Gm) : Om.Ma := ⟨g.n, fun r c => (g.wi r c).toNat, fun r => (List.range (g.nl r)).map fun k => (g.no r k).toNat, fun i => (g.ri i).toNat, fun i => (g.st i).toNat, fun c => (g.rf c).toNat, fun c => (g.pl c).toNat⟩
theorem perm_toNat {f : Nat → Int} (h : Pm.wrong f = 0) : Pm.IsPerm (fun c => (f c).toNat) ∧ ∀ i, i < 26 → f i = (((f i).toNat : Nat) : Int) := by
  obtain ⟨p, hp, e⟩ := (Pm.wrong_zero f).1 h
  have e2 : ∀ i, i < 26 → (f i).toNat = p i := fun i hi => by rw [e i hi]; rfl
  refine ⟨⟨fun i hi => by show (f i).toNat < 26; rw [e2 i hi]; exact hp.lt i hi, fun i j hi hj h => ?_⟩, fun i hi => by rw [e i hi]; rfl⟩
  have h' : (f i).toNat = (f j).toNat := h
  rw [e2 i hi, e2 j hj] at h'
  exact hp.inj i j hi hj h'
theorem ok_maOf {g : Gm} (h : gE g = 0) : Om.Ok (maOf g) ∧ ∀ W v, MacAt W v g → MacAt W v (gOf (maOf g)) := by
  obtain ⟨⟨h1, h2⟩, h3, ⟨h4, h5⟩, ⟨h6, h7⟩, ⟨h8, h9⟩, h10, h11⟩ := gE_zero h
  have hw := whE_zero g g.n h3
  rw [ins_iff] at h5 h7
  rw [undo_iff] at h9 h11
  obtain ⟨hrf, erf⟩ := perm_toNat h8
  obtain ⟨hpl, epl⟩ := perm_toNat h10
  have hwi : ∀ r, r < g.n → Pm.IsPerm (fun c => (g.wi r c).toNat) ∧ ∀ i, i < 26 → g.wi r i = (((g.wi r i).toNat : Nat) : Int) := fun r hr => perm_toNat (hw r hr).1
  have hno : ∀ r, r < g.n → ∀ k, k < g.nl r → 0 ≤ g.no r k ∧ g.no r k ≤ 25 := fun r hr => (ins_iff _ _).1 (hw r hr).2
  refine ⟨⟨h1, h2, fun i hi => (hwi i hi).1, fun i hi k hk => ?_, fun i hi => ?_, fun i hi => ?_, hrf, fun c hc => ?_, fun c hc => ?_, hpl, fun c hc => ?_⟩, ?_⟩
  · obtain ⟨q, hq, rfl⟩ := List.mem_map.1 hk
    have := hno i hi q (by simpa using hq)
    omega
  · have := h5 i (by rw [h4]; exact hi); show (g.ri i).toNat < 26; omega
  · have := h7 i (by rw [h6]; exact hi); show (g.st i).toNat < 26; omega
  · have := (h9 c hc).1
    show (g.rf (g.rf c).toNat).toNat = c
    omega
  · have := (h9 c hc).2 rfl
    have e := erf c hc
    show (g.rf c).toNat ≠ c
    omega
  · have := (h11 c hc).1
    show (g.pl (g.pl c).toNat).toNat = c
    omega
  · rintro W v ⟨a, b, c, e, k1, k2, k3⟩
    refine ⟨a, b, c, by rw [e, mac_ext erf epl]; rfl, ?_, ?_, ?_⟩
    · obtain ⟨a', cap, R, q1, q2, q3, q4⟩ := k1
      refine ⟨a', cap, R, q1, q2, fun r hr => ?_, fun r hr => ?_⟩
      · obtain ⟨b', o', e1, e2⟩ := q3 r hr
        rw [whl_ext (hwi r hr).2] at e2
        exact ⟨b', o', e1, e2⟩
      · have := q4 r hr
        show NumsAt W (R r) ((List.range (g.nl r)).map fun k => (g.no r k).toNat).length _
        rw [List.length_map, List.length_range]
        refine nums_ext this fun k hk => ?_
        have h0 := hno r hr k hk
        show g.no r k = (((List.range (g.nl r)).map fun k => (g.no r k).toNat).getD k 0 : Nat)
        simp [List.getD_eq_getElem?_getD, hk]
        omega
    · rw [h4] at k2
      exact nums_ext k2 fun i hi => by
        have := h5 i (by rw [h4]; exact hi)
        show g.ri i = ((g.ri i).toNat : Int)
        omega
    · rw [h6] at k3
      exact nums_ext k3 fun i hi => by
        have := h7 i (by rw [h6]; exact hi)
        show g.st i = ((g.st i).toNat : Int)
        omega
/-- What Write writes. -/
def rwS (g : Gm) (t : List UInt8) : List UInt8 := if rwE g t ≠ 0 then [] else Om.wr (maOf g) (maOf g).st t
theorem rwE_zero {g : Gm} {t : List UInt8} (h : rwE g t = 0) : gE g = 0 ∧ ckE t = 0 := by
  unfold rwE at h
  by_cases hg : gE g = 0
  · rw [if_neg (fun e => e hg)] at h; exact ⟨hg, h⟩
  · rw [if_pos hg] at h; exact absurd h hg
theorem rwrite_any (vm : Value) (g : Gm) (t : ByteArray) (w : World) (hm : MacAt w vm g) : Calls Try.prog 28 #[vm, .string t] w fun e w' => e = .returned (.tuple #[.string ⟨(rwS g t.data.toList).toArray⟩, .agg #[.int .i64 (rwE g t.data.toList), .int .i64 (rwAt g t.data.toList)]]) ∧ Below w.heap.size w w' := by
  have HW := fun W (hb : Below w.heap.size w W) => rgw_any vm g W (hm.below hb)
  unfold rwS
  by_cases hg : gE g = 0
  · rw [hg] at HW
    have e : rwE g t.data.toList = ckE t.data.toList := by unfold rwE; rw [if_neg (fun h => h hg)]
    have e' : rwAt g t.data.toList = ckAt t.data.toList := by unfold rwAt; rw [if_neg (fun h => h hg)]
    rcases ck_cases t.data.toList with ⟨e1, e2, e3, e4⟩ | e1
    · obtain ⟨hM, hmm⟩ := ok_maOf hg
      rw [e, e', e1, e2, if_neg (by decide)]
      exact rwt_ok _ hM vm t (ls_of e4) (by rw [Pl.size_len]; exact e3) w (hmm w vm hm) HW (fun W => by have := rcheck_all t W; rw [e1, e2] at this; exact this)
    · obtain ⟨a, b, c, rfl, _⟩ := hm
      rw [e, e', if_pos (by simpa using e1)]
      exact rwt_text a b c g.rf g.pl t _ _ e1 w HW (fun W => rcheck_all t W)
  · have e : rwE g t.data.toList = gE g := by unfold rwE; rw [if_pos hg]
    have e' : rwAt g t.data.toList = 0 := by unfold rwAt; rw [if_pos hg]
    obtain ⟨a, b, c, rfl, _⟩ := hm
    rw [e, e', if_pos hg]
    exact rwt_bad a b c g.rf g.pl t _ (by simpa using hg) w HW
end Go.Proofs.Ytpdjfjmfnmocmae
