/-
  Contract of register's finder's take (chapter 11).
-/
import Derived.Test.YtflehdigikdhmaaRgP4
namespace Go.Proofs.Ytflehdigikdhmaa
open Go.RowKit PK Rg

/-- What is held behind n bits. -/
def TkP (s : Nat → Bool) (n B g : Nat) (W : World) : Prop := ∃ L lr lb d R M qr qm, FdAt W B g L lr lb d R M qr qm ∧ Fdr s n L R M lr lb d
/-- What is held while the rule is mended. -/
def TkS (w W : World) (B g L lr lb d : Nat) (R M : Nat → Bool) (qr qm : Nat) : Prop := (∃ lr' R' qr', FdAt W B g L lr' lb d R' M qr' qm) ∧ RowAt W qr 3 (ints lr (bi R)) ∧ Below B w W
theorem TkS.step {w W W' : World} {B g L lr lb d : Nat} {R M : Nat → Bool} {qr qm : Nat} (h : TkS w W B g L lr lb d R M qr qm) (hz : B ≤ W.heap.size) (hb : Below W.heap.size W W') : TkS w W' B g L lr lb d R M qr qm := by
  obtain ⟨⟨l, R', q, h1⟩, h2, h3⟩ := h
  exact ⟨⟨l, R', q, h1.step hb⟩, h2.below hb h2.lt, h3.trans (hb.mono hz)⟩
theorem TkS.size {w W : World} {B g L lr lb d : Nat} {R M : Nat → Bool} {qr qm : Nat} (h : TkS w W B g L lr lb d R M qr qm) : B ≤ W.heap.size := by
  obtain ⟨⟨l, R', q, h1⟩, h2, h3⟩ := h
  have := h1.row.lt
  have := h1.bg
  omega
theorem TkS.c2 {w W : World} {B g L lr lb d : Nat} {R M : Nat → Bool} {qr qm : Nat} (h : TkS w W B g L lr lb d R M qr qm) : W.cell? ⟨g, 2, none⟩ = some (.slice (some ⟨qm, 0, none⟩) lb lb) := h.1.elim fun _ h => h.elim fun _ h => h.elim fun _ h => h.c2
theorem TkS.c3 {w W : World} {B g L lr lb d : Nat} {R M : Nat → Bool} {qr qm : Nat} (h : TkS w W B g L lr lb d R M qr qm) : W.cell? ⟨g, 3, none⟩ = some (.int .i64 (d : Nat)) := h.1.elim fun _ h => h.elim fun _ h => h.elim fun _ h => h.c3
theorem results_none' {fn : Func} (h : fn.results = #[]) (tmps : Array Value) (P : Program) (w : World) : (results fn tmps).run P w = .ok (.tuple #[]) w := by
  simp [results, h]
set_option maxRecDepth 100000 in
set_option maxHeartbeats 8000000 in
theorem ptake_any (s : Nat → Bool) (n : Nat) (hn : n < 256) (B g : Nat) (vb : Value) (w : World) (ht : TkP s n B g w) (hb : NumsAt w vb (n + 1) (bi s)) :
    Calls Try.prog 20 #[.pointer (some ⟨g, 0, none⟩), vb] w fun e w' => e = .returned (.tuple #[]) ∧ TkP s (n + 1) B g w' ∧ Below B w w' := by
  obtain ⟨L, lr, lb, d, R, M, qr, qm, hfd, hF⟩ := ht
  have hL := hF.least.le
  have hlr := hF.lr_le
  have hre := hF.reach
  have hbg := hfd.bg
  have hgl := hfd.row.lt
  have HSUM := (show Hid (Calls Try.prog 16 #[.slice (some ⟨qr, 0, none⟩) lr lr, vb] w fun e w' => e = .returned (.int .i64 (b1 (rs R s lr n))) ∧ Below w.heap.size w w') from psum_any _ vb lr (n + 1) hlr R s w (hfd.rnums (by omega)) hb)
  have HF := (show Hid _ from hF)
  have HFD := (show Hid (FdAt w B g L lr lb d R M qr qm) from hfd)
  have c1 := hfd.c1
  obtain ⟨ab, cb, rfl, _, _⟩ := hb
  go_enter Try.func20, Try.ntmps20
  go_wp2_with fail
  refine Calls.mono HSUM.out ?_
  rintro e W1 ⟨rfl, hb1⟩
  have h1 := HFD.out.step hb1
  have hz1 := hb1.size
  have hbb1 : Below B w W1 := hb1.mono (by omega)
  clear HSUM HFD hfd hF hb1 c1
  cases hz : rs R s lr n
  · have hq := HF.out.keep hz
    have c3 := h1.c3
    have f3 := h1.row.frozen 3
    obtain ⟨d', hd'⟩ : ∃ d', d' = d + 1 := ⟨_, rfl⟩
    rw [← hd'] at hq
    have hN : Hid (TkP s (n + 1) B g (W1.setCell ⟨g, 3, none⟩ (.int .i64 (d' : Nat))) ∧ Below B w (W1.setCell ⟨g, 3, none⟩ (.int .i64 (d' : Nat)))) := ⟨⟨_, _, _, _, _, _, _, _, h1.setD d', hq⟩, hbb1.setCell (p := ⟨g, 3, none⟩) hbg _⟩
    have e0 : b1 false = 0 := rfl
    rw [e0]
    have hd1 : (d : Int) + 1 = (d' : Int) := by omega
    have hd2 : d' ≤ 1000 := by omega
    clear h1 hbb1 hq hz HF hd'
    go_wp2
    exact bodyPost_ret (results_none' rfl _ _ _) rfl ⟨rfl, hN.out.1, hN.out.2⟩
  · have e0 : b1 true = 1 := rfl
    rw [e0]
    have HZ : Hid (rs R s lr n = true) := hz
    have c1 := h1.c1
    clear hz
    go_upto_region 3 with fail
    have hS0 : TkS w W1.drew B g L lr lb d R M qr qm := ⟨⟨_, _, _, h1.drew⟩, h1.rule, hbb1.drew⟩
    have hnr := h1.nr
    have hbr := h1.br
    clear h1 hbb1 c1 hz1
    refine wp_region_noPanic ?_
    refine wp_region_held_drew (S := fun W => TkS w W B g L lr lb d R M qr qm) (by kernel_rfl) hS0 (fun hS => ?_)
    obtain ⟨U, hU⟩ : ∃ x, x = W1.drew := ⟨_, rfl⟩
    rw [← hU] at hS ⊢
    clear hU hS0
    refine vtake 0 24 (.pointer (some ⟨g, 0, none⟩)) rfl rfl (by kernel_rfl) (by kernel_rfl) (by kernel_rfl) (fun _ _ _ _ h => h) (by rfl) (fun W hW => by clear hS hW; go_simp) hS ?_
    simp only [List.setIfInBounds_toArray, List.set_cons_succ, List.set_cons_zero]
    refine vtake 1 25 (.slice (some ⟨qr, 0, none⟩) lr lr) rfl rfl (by kernel_rfl) (by kernel_rfl) (by kernel_rfl) (fun _ _ _ _ h => h) (by rfl) (fun W hW => by clear hS hW; go_simp) hS ?_
    simp only [List.setIfInBounds_toArray, List.set_cons_succ, List.set_cons_zero]
    refine vtake 2 26 (.pointer (some ⟨g, 0, none⟩)) rfl rfl (by kernel_rfl) (by kernel_rfl) (by kernel_rfl) (fun _ _ _ _ h => h) (by rfl) (fun W hW => by clear hS hW; go_simp) hS ?_
    simp only [List.setIfInBounds_toArray, List.set_cons_succ, List.set_cons_zero]
    refine vtake 3 27 (.pointer (some ⟨g, 0, none⟩)) rfl rfl (by kernel_rfl) (by kernel_rfl) (by kernel_rfl) (fun _ _ _ _ h => h) (by rfl) (fun W hW => by clear hS hW; go_simp) hS ?_
    simp only [List.setIfInBounds_toArray, List.set_cons_succ, List.set_cons_zero]
    refine vtake 4 28 (.pointer (some ⟨g, 2, none⟩)) rfl rfl (by kernel_rfl) (by kernel_rfl) (by kernel_rfl) (fun _ _ _ _ h => h) (by rfl) (fun W hW => by clear hS hW; go_simp) hS ?_
    simp only [List.setIfInBounds_toArray, List.set_cons_succ, List.set_cons_zero]
    refine vtake 5 29 (.slice (some ⟨qm, 0, none⟩) lb lb) rfl rfl (by kernel_rfl) (by kernel_rfl) (by kernel_rfl) (fun _ _ _ _ h => h) (by rfl) (fun W hW => by have u := TkS.c2 hW; clear hS hW; go_simp) hS ?_
    simp only [List.setIfInBounds_toArray, List.set_cons_succ, List.set_cons_zero]
    refine vtake 6 30 (.pointer (some ⟨g, 0, none⟩)) rfl rfl (by kernel_rfl) (by kernel_rfl) (by kernel_rfl) (fun _ _ _ _ h => h) (by rfl) (fun W hW => by clear hS hW; go_simp) hS ?_
    simp only [List.setIfInBounds_toArray, List.set_cons_succ, List.set_cons_zero]
    refine vtake 7 31 (.pointer (some ⟨g, 0, none⟩)) rfl rfl (by kernel_rfl) (by kernel_rfl) (by kernel_rfl) (fun _ _ _ _ h => h) (by rfl) (fun W hW => by clear hS hW; go_simp) hS ?_
    simp only [List.setIfInBounds_toArray, List.set_cons_succ, List.set_cons_zero]
    refine vtake 8 32 (.pointer (some ⟨g, 3, none⟩)) rfl rfl (by kernel_rfl) (by kernel_rfl) (by kernel_rfl) (fun _ _ _ _ h => h) (by rfl) (fun W hW => by clear hS hW; go_simp) hS ?_
    simp only [List.setIfInBounds_toArray, List.set_cons_succ, List.set_cons_zero]
    refine vtake 9 33 (.int .i64 (d : Nat)) rfl rfl (by kernel_rfl) (by kernel_rfl) (by kernel_rfl) (fun _ _ _ _ h => h) (by rfl) (fun W hW => by have u := TkS.c3 hW; clear hS hW; go_simp) hS ?_
    simp only [List.setIfInBounds_toArray, List.set_cons_succ, List.set_cons_zero]
    have hB1 := hS.size
    have hcon := (fun (W : World) (h : TkS w W B g L lr lb d R M qr qm) => padd_any (.slice (some ⟨qr, 0, none⟩) lr lr) (.slice (some ⟨qm, 0, none⟩) lb lb) lr lb d R M HF.out.rsup HF.out.bsup (max lr (lb + d)) rfl (by omega) W (NumsAt.of_row h.2.1 (by unfold maxLen; omega)) (h.1.elim fun _ h => h.elim fun _ h => h.elim fun _ h => h.mnums (by omega)))
    refine wpAnyH_ready (rs := [10]) (by kernel_rfl) (by simp) ?_
    refine AllReadyH.cons (o := _) rfl (fun K hK => ?_) AllReadyH.nil
    rw [if_pos (by rfl)]
    go_simp
    refine Calls.mono (hcon _ hS) ?_
    rintro e Y ⟨rfl, hnew, hb8⟩
    have hzU : g < U.heap.size := hS.1.elim fun _ h => h.elim fun _ h => h.elim fun _ h => h.row.lt
    refine hK.out _ _ (hS.step hB1 hb8) (fun hS1 => ?_)
    clear hK hS K
    have hS := hS1
    clear hS1
    obtain ⟨⟨l9, R9, q9, h9⟩, hru9, hbl9⟩ := hS
    have c9 := h9.c1
    have f9 := h9.row.frozen 1
    have hqU : U.heap.size ≠ g := by omega
    have h10 := h9.setR hnew hB1 hqU
    have hbl10 := hbl9.setCell (p := ⟨g, 1, none⟩) hbg (.slice (some ⟨U.heap.size, 0, none⟩) (max lr (lb + d)) (max lr (lb + d)))
    have hru10 := hru9.setOther ⟨g, 1, none⟩ (.slice (some ⟨U.heap.size, 0, none⟩) (max lr (lb + d)) (max lr (lb + d))) hnr
    have hS : TkS w Y B g L lr lb d R M qr qm := ⟨⟨_, _, _, h9⟩, hru9, hbl9⟩
    have hSn : TkS w (Y.setCell ⟨g, 1, none⟩ (.slice (some ⟨U.heap.size, 0, none⟩) (max lr (lb + d)) (max lr (lb + d)))) B g L lr lb d R M qr qm := ⟨⟨_, _, _, h10⟩, hru10, hbl10⟩
    clear hcon h9 hru9 hbl9 hnew hb8 hzU
    refine vtake 11 35 (.pointer (some ⟨g, 0, none⟩)) rfl rfl (by kernel_rfl) (by kernel_rfl) (by kernel_rfl) (fun _ _ _ _ h => h) (by rfl) (fun W hW => by clear hS hW; go_simp) hS ?_
    simp only [List.setIfInBounds_toArray, List.set_cons_succ, List.set_cons_zero]
    refine vtake 12 36 (.pointer (some ⟨g, 1, none⟩)) rfl rfl (by kernel_rfl) (by kernel_rfl) (by kernel_rfl) (fun _ _ _ _ h => h) (by rfl) (fun W hW => by clear hS hW; go_simp) hS ?_
    simp only [List.setIfInBounds_toArray, List.set_cons_succ, List.set_cons_zero]
    refine wpAnyH_ready (rs := [13]) (by kernel_rfl) (by simp) ?_
    refine AllReadyH.cons (o := _) rfl (fun K hK => ?_) AllReadyH.nil
    rw [if_pos (by rfl)]
    go_simp
    refine hK.out _ _ (hSn) (fun hS1 => ?_)
    clear hK hS K
    have hS := hS1
    clear hS1
    refine wpAnyH_done (by kernel_rfl) ?_ _
    refine NoPanic.normal ?_
    clear hS hSn c9 f9
    generalize Y.setCell ⟨g, 1, none⟩ (.slice (some ⟨U.heap.size, 0, none⟩) (max lr (lb + d)) (max lr (lb + d))) = V at *
    generalize U.heap.size = qn at *
    have HL0 : Hid (L ≤ n) := hL
    have c0 := h10.c0
    have hsub : (n : Int) + 1 - (L : Int) = ((n + 1 - L : Nat) : Int) := by omega
    by_cases hg : L < n + 1 - L
    · have hq := HF.out.grow HZ.out hg
      have hg2 : (L : Int) < ((n + 1 - L : Nat) : Int) := by omega
      have k1 := h10.setL (n + 1 - L)
      have k2 := k1.setM (hru10.setOther ⟨g, 0, none⟩ (.int .i64 ((n + 1 - L : Nat) : Int)) hnr) hbr hnr
      have k3 : FdAt (((V.setCell ⟨g, 0, none⟩ (.int .i64 ((n + 1 - L : Nat) : Int))).setCell ⟨g, 2, none⟩ (.slice (some ⟨qr, 0, none⟩) lr lr)).setCell ⟨g, 3, none⟩ (.int .i64 0)) B g (n + 1 - L) (max lr (lb + d)) lr 0 (ad R M d) R qn qr := k2.setD 0
      have hbl11 : Below B w (((V.setCell ⟨g, 0, none⟩ (.int .i64 ((n + 1 - L : Nat) : Int))).setCell ⟨g, 2, none⟩ (.slice (some ⟨qr, 0, none⟩) lr lr)).setCell ⟨g, 3, none⟩ (.int .i64 0)) := ((hbl10.setCell (p := ⟨g, 0, none⟩) hbg (.int .i64 ((n + 1 - L : Nat) : Int))).setCell (p := ⟨g, 2, none⟩) hbg (.slice (some ⟨qr, 0, none⟩) lr lr)).setCell (p := ⟨g, 3, none⟩) hbg (.int .i64 0)
      have v0 := h10.row.frozen 0
      have d1 := h10.c2
      have v1 := h10.row.frozen 2
      have d2 := h10.c3
      have v2 := h10.row.frozen 3
      generalize n + 1 - L = G at *
      have HK3 := (show Hid _ from k3)
      have HBL := (show Hid _ from hbl11)
      clear k1 k2 k3 hbl10 hbl11 hru10 h10 hg HF HZ
      go_upto_region 7 with fail
      clear c0 v0 d1 v1 d2 v2
      generalize ((V.setCell ⟨g, 0, none⟩ (.int .i64 (G : Nat))).setCell ⟨g, 2, none⟩ (.slice (some ⟨qr, 0, none⟩) lr lr)).setCell ⟨g, 3, none⟩ (.int .i64 0) = V3 at *
      have k3 := HK3.out
      have c3 : V3.cell? ⟨g, 3, none⟩ = some (.int .i64 0) := k3.c3
      have f3 := k3.row.frozen 3
      have k4 : FdAt (V3.setCell ⟨g, 3, none⟩ (.int .i64 1)) B g G (max lr (lb + d)) lr 1 (ad R M d) R qn qr := k3.setD 1
      have hN : Hid (TkP s (n + 1) B g (V3.setCell ⟨g, 3, none⟩ (.int .i64 1)) ∧ Below B w (V3.setCell ⟨g, 3, none⟩ (.int .i64 1))) := ⟨⟨_, _, _, _, _, _, _, _, k4, hq⟩, HBL.out.setCell (p := ⟨g, 3, none⟩) hbg _⟩
      clear k3 k4 hq HBL HK3
      go_wp2
      exact bodyPost_end (results_none' rfl _ _ _) rfl ⟨rfl, hN.out.1, hN.out.2⟩
    · have hq := HF.out.stay HZ.out hg
      have hg2 : ¬ (L : Int) < ((n + 1 - L : Nat) : Int) := by omega
      obtain ⟨d', hd'⟩ : ∃ d', d' = d + 1 := ⟨_, rfl⟩
      rw [← hd'] at hq
      have k4 := h10.setD d'
      have c3 := h10.c3
      have f3 := h10.row.frozen 3
      have hN : Hid (TkP s (n + 1) B g (V.setCell ⟨g, 3, none⟩ (.int .i64 (d' : Nat))) ∧ Below B w (V.setCell ⟨g, 3, none⟩ (.int .i64 (d' : Nat)))) := ⟨⟨_, _, _, _, _, _, _, _, k4, hq⟩, hbl10.setCell (p := ⟨g, 3, none⟩) hbg _⟩
      generalize n + 1 - L = G at *
      have hd1 : (d : Int) + 1 = (d' : Int) := by omega
      have hd2 : d' ≤ 1000 := by omega
      clear hd' k4 hq hbl10 hru10 h10 hg HF HZ
      go_wp2
      exact bodyPost_end (results_none' rfl _ _ _) rfl ⟨rfl, hN.out.1, hN.out.2⟩
end Go.Proofs.Ytflehdigikdhmaa
