/-
  Contract of the document's own Between.
-/
import Derived.Test.YtlgjgppojdamiaaRBNext
import Derived.Deep.RegionHeld3
import Derived.OrdersHeld
import Derived.Test.YtlgjgppojdamiaaRThen
import Derived.Test.YtlgjgppojdamiaaRRef
import Derived.Deep.QuietTactic
import Derived.BigQuiet
namespace Go.Proofs.Ytlgjgppojdamiaa
open Go.RowKit PK

theorem s19_start {Z : World} {bx bp bq : Nat} {T : TypeId} {X P Q : Array Value} (rx : RowAt Z bx T X) (rp : RowAt Z bp T P) (rq : RowAt Z bq T Q) :
    Below Z.heap.size Z Z.drew ∧ RowAt Z.drew bx T X ∧ Z.drew.rangeAt bp 0 P.toList ∧ Z.drew.rangeAt bq 0 Q.toList := ⟨(Below.refl _ _).drew, rx, rp.range, rq.range⟩
theorem s19_call {Z : World} {bx bp bq : Nat} {T : TypeId} {X : Array Value} {P Q : List Value} {W W' : World} (hx : bx < Z.heap.size) (hp : bp < Z.heap.size) (hq : bq < Z.heap.size)
    (h : Below Z.heap.size Z W ∧ RowAt W bx T X ∧ W.rangeAt bp 0 P ∧ W.rangeAt bq 0 Q) (hc : Below W.heap.size W W') : Below Z.heap.size Z W' ∧ RowAt W' bx T X ∧ W'.rangeAt bp 0 P ∧ W'.rangeAt bq 0 Q := by
  obtain ⟨a, b, c, d⟩ := h
  have hz := a.size
  exact ⟨a.trans (hc.mono hz), b.below hc (by omega), Below.rangeAt hc c (by omega), Below.rangeAt hc d (by omega)⟩

theorem below_drewN {b : Nat} {a w : World} (h : Below b a w) (n : Nat) : Below b a (w.drewN n) := ⟨h.os, h.tape, h.output, h.size, h.block⟩
section
variable {P : Program} {ops : Array Oper} {Q : Exit → Act → World → Prop} {md : Region.Mode} {S : World → Prop}
/-- An operation whose guard doesn't want it is passed over. -/
theorem take_skip (i d : Nat) {oi : Oper} {fuel : Nat} {listed : Array Bool} {tm : Array Value} {df : List Deferred} {w : World} (hi : ops[i]? = some oi) (hd : oi.dst = some d)
    (hs : Region.noSelect ops = true) (hf : Region.free md ops listed i = true) (hr : (Region.ready md ops listed).contains i = true)
    (hQ : ∀ c a a' w, Q (.panic c) a' w → Q (.panic c) a w) (hw : Region.wanted oi (yielded ops tm) = false) (hS : S w)
    (h : wpAnyH P md ops Q S fuel (listed.setIfInBounds i true) ⟨tm.setIfInBounds d undef, df⟩ w) : wpAnyH P md ops Q S (fuel + 1) listed ⟨tm, df⟩ w := by
  refine wpAnyH_take (i := i) (oi := oi) (v := undef) hi hs hf hr (fun c a w => hQ c a _ w) (Or.inr ⟨hw, rfl⟩) hS ?_
  rw [hd]
  exact h
end
set_option maxRecDepth 100000 in
set_option maxHeartbeats 4000000 in
theorem rbetween_ok (p q : Nat → Nat) (hp : Pm.IsPerm p) (hq : Pm.IsPerm q) (w : World) :
    Calls Try.prog 32 #[.agg (ints 26 (Pm.up p)), .agg (ints 26 (Pm.up q))] w fun e w' => e = .returned (.tuple #[.agg (ints 26 (outB (betw p q)).1), .int .i64 (outB (betw p q)).2]) ∧ Below w.heap.size w w' := by
  have H0 : Hid (Pm.firstBad (pair (Pm.up p) (Pm.up q)) 2 = 0) := pair_ok p q hp hq
  go_enter Try.func32, Try.ntmps32
  go_wp2_with (first
    | refine load_perm rfl _ rfl w.heap.size rfl (Pm.up p) (((RowAt.new w _ _).alloc _).alloc _) ?_
    | refine load_perm rfl _ rfl (w.heap.size + 1) rfl (Pm.up q) ((RowAt.newAt (by simp)).alloc _) ?_)
  rw [zero26]
  refine (rtwo_any (Pm.up p) (Pm.up q) _).mono ?_
  rintro e W1 ⟨rfl, hb0⟩
  obtain ⟨r1, r2, r3, hb1, hs1⟩ := after2r hb0
  clear hb0
  rw [H0.out]
  clear H0
  go_wp2
  rw [zero26]
  go_loopw [21] (fun i W => ∃ k : Nat, k ≤ 26 ∧ i = .int .i64 k ∧ RowAt W W1.heap.size 35 (ints 26 (fillTo (fun _ => -1) k)) ∧ RowAt W w.heap.size 35 (ints 26 (Pm.up p)) ∧ RowAt W (w.heap.size + 1) 35 (ints 26 (Pm.up q)) ∧ RowAt W (w.heap.size + 1 + 1) 35 (ints 26 fun _ => 0) ∧ Below w.heap.size w W ∧ W1.heap.size < W.heap.size) (fun i _ => (26 - intOf i).toNat)
  case atStart => exact ⟨0, by omega, rfl, by rw [fillTo_zero]; exact RowAt.new _ _ _, r1.alloc _, r2.alloc _, r3.alloc _, hb1.alloc (by omega) _, by simp⟩
  case round =>
    clear r1 r3 hb1 r2
    obtain ⟨k, hk, rfl, ro, r1, r2, r3, hb, hsz⟩ := hrel
    by_cases hlt : k < 26
    · have hco := ro.cell (ints_get (fillTo (fun _ => -1) k) hlt)
      have hfo := ro.frozen k
      have HST : Hid (upd (fillTo (fun _ => -1) k) k (-1) = fillTo (fun _ => -1) (k + 1)) := fillTo_step _ k
      clear hk
      go_wp2
      go_roundw
      case rel =>
        refine ⟨k + 1, by omega, by go_num, ?_, r1.setOther _ _ (by simp; omega), r2.setOther _ _ (by simp; omega), r3.setOther _ _ (by simp; omega), hb.setCell (by simp; omega) _, by simpa using hsz⟩
        rw [← HST.out, ← ints_set]
        exact ro.set k _
      case measure => simp [intOf]; omega
    · have HK : Hid (k = 26) := by rw [Hid]; omega
      rw [HK.out, fillTo_all] at ro
      have hmf : ∀ (fn : Fn) (first cap : Array Value) (w : World), (Instr.makeFunc fn first cap).run Try.prog w = .ok (.func fn first cap) w := fun _ _ _ _ => rfl
      go_wp2
      clear hmf HK hlt hk
      go_loopw [10] (fun i W => ∃ (k : Nat) (s : List (List Nat) × (Nat → Int)), k ≤ 26 ∧ i = .int .i64 k ∧ Hid (layI p q k = some s) ∧ RowAt W W1.heap.size 35 (ints 26 s.2) ∧ RowAt W w.heap.size 35 (ints 26 (Pm.up p)) ∧ RowAt W (w.heap.size + 1) 35 (ints 26 (Pm.up q)) ∧ RowAt W (w.heap.size + 1 + 1) 35 (ints 26 fun _ => 0) ∧ Below w.heap.size w W ∧ W1.heap.size < W.heap.size) (fun i _ => (26 - intOf i).toNat)
      case atStart => exact ⟨0, _, by omega, rfl, layI_zero p q, ro, r1, r2, r3, hb, hsz⟩
      case round =>
        clear ro r1 r2 r3 hb hsz
        obtain ⟨i, s, hi, rfl, HL, ro, r1, r2, r3, hb, hsz⟩ := hrel
        by_cases hlt : i < 26
        · have hF := layI_facts hp hq i hi s HL.out
          have hco := ro.cell (ints_get s.2 hlt)
          cases hm : Pm.met p i i with
          | true =>
            obtain ⟨b, hb26, hsb⟩ := hF.2.1 i hm
            have HN : Hid (layI p q (i + 1) = some s) := by rw [Hid, layI_met p q i hm]; exact HL.out
            rw [hsb] at hco
            clear hF hm hsb
            go_wp2
            go_roundw
            case rel => exact ⟨i + 1, s, by omega, by go_num, HN, ro, r1, r2, r3, hb, hsz⟩
            case measure => simp [intOf]; omega
          | false =>
            rw [hF.1 i hm] at hco
            have hsx := ro.lt
            have hsp := r1.lt
            have hsq := r2.lt
            obtain ⟨g, hg⟩ : ∃ g : Nat → Bool, g = fun k => !(tk s.2 (k : Nat)) && (Pm.len q k == Pm.len p i) := ⟨_, rfl⟩
            have HG : Hid (∀ k, g k = (!(tk s.2 (k : Nat)) && (Pm.len q k == Pm.len p i))) := by rw [Hid, hg]; exact fun _ => rfl
            clear hg
            have HM : Hid (Pm.met p i i = false) := hm
            have HF := (show Hid _ from hF)
            clear hF hm
            go_wp2
            go_loopw [11, 12] (fun to k W => ∃ (m : Nat) (T : Int), m ≤ 26 ∧ k = .int .i64 ((m : Int) - 1) ∧ to = .int .i64 T ∧ Hid (Least g m T) ∧ RowAt W W1.heap.size 35 (ints 26 s.2) ∧ RowAt W w.heap.size 35 (ints 26 (Pm.up p)) ∧ RowAt W (w.heap.size + 1) 35 (ints 26 (Pm.up q)) ∧ RowAt W (w.heap.size + 1 + 1) 35 (ints 26 fun _ => 0) ∧ Below w.heap.size w W ∧ W1.heap.size < W.heap.size) (fun _ k _ => (intOf k + 1).toNat)
            case atStart => exact ⟨26, -1, by omega, rfl, rfl, Least.top g, ro, r1, r2, r3, hb, hsz⟩
            case round =>
              clear ro r1 r2 r3 hb hsz hco hsx hsp hsq
              obtain ⟨m, T, hm, rfl, rfl, HT, ro, r1, r2, r3, hb, hsz⟩ := hrel
              cases m with
              | zero =>
                have hdec : Hid (decide ((i : Int) < 26) = true) := by rw [Hid]; simp; omega
                have hd2 : (((0 : Nat) : Int) - 1) = -1 := by omega
                rw [hd2]
                rcases HT.out with ⟨rfl, hno⟩ | ⟨t, rfl, _, ht, hgt, hgl⟩
                · have HB : Hid (betw p q = none) := next_none hp hq i hlt s HL.out HM.out fun k hk => by rw [← HG.out k]; exact hno k (by omega) hk
                  clear hno HT hd2
                  go_wp2_with (first
                    | refine wpList_build0 rfl 35 rfl _ built_perm ?_
                    | refine wpList_store_row rfl 35 _ _ rfl (w.heap.size + 1 + 1) (ints 26 fun _ => 0) rfl rfl 35 _ r3 (by rw [ints_size]; exact info_perm) (by simp only [ints_size]) (ints_one _ _) ?_)
                  refine bodyPost_ret (v := .tuple #[.agg (ints 26 fun _ => 0), .int .i64 6]) (results_cell_tmp2 rfl _ _ (w.heap.size + 1 + 1) 35 _ (0, 0) _ _ rfl rfl (r3.row _) Try.underlying35 rfl (by rw [ints_size]; exact info_perm)) rfl ⟨?_, Below.setRow hb _ (by omega) _⟩
                  rw [HB.out]
                  rfl
                · have HN : Hid (layI p q (i + 1) = some (s.1.erase (Pm.cyc q t), assignTo s.2 (Pm.cyc p i) (Pm.cyc q t) (Pm.len p i))) := next_some hp hq i hlt s HL.out HM.out t ht (by rw [← HG.out t]; exact hgt) (fun k hk => by rw [← HG.out k]; exact hgl k (by omega) hk)
                  have HEQ : Hid (Pm.len q t = Pm.len p i) := by
                    have := HG.out t
                    rw [hgt] at this
                    rw [Hid]
                    simp at this
                    exact this.2
                  clear hgt hgl HT hd2
                  go_wp2
                  go_loopw [13, 11] (fun a to W => ∃ m : Nat, m ≤ Pm.len p i ∧ a = .int .i64 (Pm.iter p m i : Nat) ∧ to = .int .i64 (Pm.iter q m t : Nat) ∧ RowAt W W1.heap.size 35 (ints 26 (assignTo s.2 (Pm.cyc p i) (Pm.cyc q t) m)) ∧ RowAt W w.heap.size 35 (ints 26 (Pm.up p)) ∧ RowAt W (w.heap.size + 1) 35 (ints 26 (Pm.up q)) ∧ RowAt W (w.heap.size + 1 + 1) 35 (ints 26 fun _ => 0) ∧ Below w.heap.size w W ∧ W1.heap.size < W.heap.size) (fun _ _ W => negW W1.heap.size W)
                  case atStart => exact ⟨0, by omega, rfl, rfl, ro, r1, r2, r3, hb, hsz⟩
                  case round =>
                    clear ro r1 r2 r3 hb hsz
                    obtain ⟨m, hm, rfl, rfl, ro, r1, r2, r3, hb, hsz⟩ := hrel
                    by_cases hlm : m < Pm.len p i
                    · have hai := Pm.iter_lt hp i hlt m
                      have hbi := Pm.iter_lt hq t ht m
                      have hneg : assignTo s.2 (Pm.cyc p i) (Pm.cyc q t) m (Pm.iter p m i) = -1 := (assign_new hp i hlt s.2 _ m hlm).trans (HF.out.1 _ (not_met hp i hlt HM.out m))
                      have HA : Hid (assignTo s.2 (Pm.cyc p i) (Pm.cyc q t) (m + 1) = upd (assignTo s.2 (Pm.cyc p i) (Pm.cyc q t) m) (Pm.iter p m i) (Pm.iter q m t : Nat)) := by
                        show upd _ ((Pm.cyc p i).getD m 0) (((Pm.cyc q t).getD m 0 : Nat) : Int) = _
                        rw [cyc_getD p i m hlm, cyc_getD q t m (by rw [HEQ.out]; exact hlm)]
                      have HI : Hid (Pm.iter p (m + 1) i = p (Pm.iter p m i) ∧ Pm.iter q (m + 1) t = q (Pm.iter q m t)) := ⟨rfl, rfl⟩
                      have hco := ro.cell (ints_get (assignTo s.2 (Pm.cyc p i) (Pm.cyc q t) m) hai)
                      have hfo := ro.frozen (Pm.iter p m i)
                      have HNG : Hid (negW W1.heap.size wr = negs (assignTo s.2 (Pm.cyc p i) (Pm.cyc q t) m) 26) := negW_row ro
                      have HNU : Hid (negs (upd (assignTo s.2 (Pm.cyc p i) (Pm.cyc q t) m) (Pm.iter p m i) (Pm.iter q m t : Nat)) 26 + 1 = negs (assignTo s.2 (Pm.cyc p i) (Pm.cyc q t) m) 26) := by
                        have := negs_upd (assignTo s.2 (Pm.cyc p i) (Pm.cyc q t) m) (Pm.iter p m i) (Pm.iter q m t : Nat) (by omega) (by omega) 26
                        rw [if_pos hai] at this
                        exact this
                      rw [hneg] at hco
                      have hc1 := r1.cell (ints_get (Pm.up p) hai)
                      have hc2 := r2.cell (ints_get (Pm.up q) hbi)
                      simp only [Pm.up] at hc1 hc2
                      clear hneg
                      generalize assignTo s.2 (Pm.cyc p i) (Pm.cyc q t) m = fx at *
                      generalize Pm.iter p m i = a at *
                      generalize Pm.iter q m t = b at *
                      go_wp2
                      go_quiet (fail)
                      go_wp2
                      go_roundw
                      case rel =>
                        refine ⟨m + 1, by omega, by rw [HI.out.1], by rw [HI.out.2], ?_, r1.setOther _ _ (by simp; omega), r2.setOther _ _ (by simp; omega), r3.setOther _ _ (by simp; omega), below_drewN (hb.setCell (by simp; omega) _) nq, by simpa using hsz⟩
                        rw [HA.out, ← ints_set]
                        exact ro.set a _
                      case measure =>
                        have h1 : RowAt ((wr.setCell ⟨W1.heap.size, a, none⟩ (.int .i64 (b : Nat))).drewN nq) W1.heap.size 35 (ints 26 (upd fx a (b : Nat))) := by
                          rw [← ints_set]
                          exact ro.set a _
                        rw [negW_row h1, HNG.out]
                        have := HNU.out
                        omega
                    · have hml : m = Pm.len p i := by omega
                      have HI : Hid (Pm.iter p m i = i) := by rw [Hid, hml]; exact (Pm.len_is hp i hlt).ret
                      have hpos := (Pm.len_is hp i hlt).pos
                      have h0 : (Pm.cyc p i).getD 0 0 = i := cyc_getD p i 0 hpos
                      have h0q : (Pm.cyc q t).getD 0 0 = t := cyc_getD q t 0 (by rw [HEQ.out]; exact hpos)
                      have hval : assignTo s.2 (Pm.cyc p i) (Pm.cyc q t) m i = (t : Nat) := by
                        have := assign_at s.2 (Pm.cyc p i) (Pm.cyc q t) (Pm.cyc_nodup hp i hlt) m (by rw [Pm.cyc_length]; exact hm) 0 (by omega)
                        rw [h0, h0q] at this
                        exact this
                      have HN2 : Hid (layI p q (i + 1) = some (s.1.erase (Pm.cyc q t), assignTo s.2 (Pm.cyc p i) (Pm.cyc q t) m)) := by rw [Hid, hml]; exact HN.out
                      have hco := ro.cell (ints_get (assignTo s.2 (Pm.cyc p i) (Pm.cyc q t) m) hlt)
                      rw [hval] at hco
                      rw [HI.out]
                      clear hval h0 h0q hml hlm hm HN hpos
                      generalize assignTo s.2 (Pm.cyc p i) (Pm.cyc q t) m = fx at *
                      go_wp2
                      go_roundw
                      case rel => exact ⟨i + 1, _, by omega, by go_num, HN2, ro, r1, r2, r3, hb, hsz⟩
                      case measure => simp [intOf]; omega
              | succ m =>
                have hdec : Hid (decide ((i : Int) < 26) = true) := by rw [Hid]; simp; omega
                have e1 : (((m + 1 : Nat) : Int) - 1) = (m : Nat) := by omega
                rw [e1]
                go_wp2
                refine wp_region_noPanic ?_
                refine wp_region_held_drew (S := (fun W => Below wr.heap.size wr W ∧ RowAt W W1.heap.size 35 (ints 26 s.2) ∧ W.rangeAt w.heap.size 0 (ints 26 (Pm.up p)).toList ∧ W.rangeAt (w.heap.size + 1) 0 (ints 26 (Pm.up q)).toList)) (by kernel_rfl) (s19_start ro r1 r2) (fun hS => ?_)
                have hu := Try.underlying35
                have hiP : (Try.prog.info? 35).map (·.size) = some (ints 26 (Pm.up p)).size := by rw [ints_size]; exact info_perm
                have hiQ : (Try.prog.info? 35).map (·.size) = some (ints 26 (Pm.up q)).size := by rw [ints_size]; exact info_perm
                have hsx := ro.lt
                have hsp := r1.lt
                have hsq := r2.lt
                refine take_pure 0 40 (.func (.func 54) #[] #[.pointer (some ⟨W1.heap.size, 0, none⟩)]) rfl rfl (by kernel_rfl) (by kernel_rfl) (by kernel_rfl) (fun _ _ _ _ h => h) (by rfl) (fun W => by clear hS; go_simp) hS ?_
                simp only [List.setIfInBounds_toArray, List.set_cons_succ, List.set_cons_zero]
                refine take_pure 1 41 (.int .i64 (m : Nat)) rfl rfl (by kernel_rfl) (by kernel_rfl) (by kernel_rfl) (fun _ _ _ _ h => h) (by rfl) (fun W => by clear hS; go_simp) hS ?_
                simp only [List.setIfInBounds_toArray, List.set_cons_succ, List.set_cons_zero]
                refine wpAnyH_ready (rs := [2]) (by kernel_rfl) (by simp) ?_
                refine AllReadyH.cons (o := _) rfl (fun K hK => ?_) AllReadyH.nil
                rw [if_pos (by rfl)]
                go_simp
                refine (taken_any s.2 (m : Nat) W1.heap.size _ hS.2.1).mono ?_
                rintro e X1 ⟨rfl, rfl⟩
                refine hK.out _ _ (s19_call hsx hsp hsq hS (Below.refl _ _)) (fun hS1 => ?_)
                clear hK hS
                have hS := hS1
                clear hS1 K
                have HGm := HG.out m
                cases htk : tk s.2 (m : Nat) with
                | true =>
                    have HN : Hid (Least g m T) := Least.skip (by rw [HGm, htk]; rfl) HT.out
                    clear HGm htk
                    refine take_pure 3 43 (.bool false) rfl rfl (by kernel_rfl) (by kernel_rfl) (by kernel_rfl) (fun _ _ _ _ h => h) (by rfl) (fun W => by clear hS; go_simp) hS ?_
                    simp only [List.setIfInBounds_toArray, List.set_cons_succ, List.set_cons_zero]
                    refine take_pure 4 44 (.bool false) rfl rfl (by kernel_rfl) (by kernel_rfl) (by kernel_rfl) (fun _ _ _ _ h => h) (by rfl) (fun W => by clear hS; go_simp) hS ?_
                    simp only [List.setIfInBounds_toArray, List.set_cons_succ, List.set_cons_zero]
                    refine take_skip 5 45 rfl rfl (by kernel_rfl) (by kernel_rfl) (by kernel_rfl) (fun _ _ _ _ h => h) (by rfl) hS ?_
                    simp only [List.setIfInBounds_toArray, List.set_cons_succ, List.set_cons_zero]
                    refine take_skip 6 46 rfl rfl (by kernel_rfl) (by kernel_rfl) (by kernel_rfl) (fun _ _ _ _ h => h) (by rfl) hS ?_
                    simp only [List.setIfInBounds_toArray, List.set_cons_succ, List.set_cons_zero]
                    refine take_skip 7 47 rfl rfl (by kernel_rfl) (by kernel_rfl) (by kernel_rfl) (fun _ _ _ _ h => h) (by rfl) hS ?_
                    simp only [List.setIfInBounds_toArray, List.set_cons_succ, List.set_cons_zero]
                    refine take_skip 8 48 rfl rfl (by kernel_rfl) (by kernel_rfl) (by kernel_rfl) (fun _ _ _ _ h => h) (by rfl) hS ?_
                    simp only [List.setIfInBounds_toArray, List.set_cons_succ, List.set_cons_zero]
                    refine take_skip 9 49 rfl rfl (by kernel_rfl) (by kernel_rfl) (by kernel_rfl) (fun _ _ _ _ h => h) (by rfl) hS ?_
                    simp only [List.setIfInBounds_toArray, List.set_cons_succ, List.set_cons_zero]
                    refine take_skip 10 50 rfl rfl (by kernel_rfl) (by kernel_rfl) (by kernel_rfl) (fun _ _ _ _ h => h) (by rfl) hS ?_
                    simp only [List.setIfInBounds_toArray, List.set_cons_succ, List.set_cons_zero]
                    refine take_skip 11 51 rfl rfl (by kernel_rfl) (by kernel_rfl) (by kernel_rfl) (fun _ _ _ _ h => h) (by rfl) hS ?_
                    simp only [List.setIfInBounds_toArray, List.set_cons_succ, List.set_cons_zero]
                    refine take_pure 12 52 (.bool false) rfl rfl (by kernel_rfl) (by kernel_rfl) (by kernel_rfl) (fun _ _ _ _ h => h) (by rfl) (fun W => by clear hS; go_simp) hS ?_
                    simp only [List.setIfInBounds_toArray, List.set_cons_succ, List.set_cons_zero]
                    refine wpAnyH_done (by kernel_rfl) ?_ _
                    refine NoPanic.normal ?_
                    obtain ⟨hS1, _, _, _⟩ := hS
                    have hSz := hS1.size
                    go_wp2
                    go_roundw
                    case rel => rw [hdec.out]; exact ⟨_, _, _, _, _, _, _, _, _, _, _, _, _, _, _, _, _, _, _, _, ⟨m, T, by omega, rfl, rfl, HN, ro.below hS1 hsx, r1.below hS1 hsp, r2.below hS1 hsq, r3.below hS1 r3.lt, hb.trans (hS1.mono (by omega)), by have := hSz; omega⟩, rfl⟩
                    case measure => first | (simp [intOf]; done) | (simp [intOf]; omega)
                | false =>
                    refine take_pure 3 43 (.bool true) rfl rfl (by kernel_rfl) (by kernel_rfl) (by kernel_rfl) (fun _ _ _ _ h => h) (by rfl) (fun W => by clear hS; go_simp) hS ?_
                    simp only [List.setIfInBounds_toArray, List.set_cons_succ, List.set_cons_zero]
                    refine take_pure 4 44 (.bool true) rfl rfl (by kernel_rfl) (by kernel_rfl) (by kernel_rfl) (fun _ _ _ _ h => h) (by rfl) (fun W => by clear hS; go_simp) hS ?_
                    simp only [List.setIfInBounds_toArray, List.set_cons_succ, List.set_cons_zero]
                    refine take_load 5 45 rfl rfl (by kernel_rfl) (by kernel_rfl) (by kernel_rfl) (fun _ _ _ _ h => h) (by rfl) 35 _ (by rfl) (w.heap.size + 1) (ints 26 (Pm.up q)) _ (by rfl) (fun W h => h.2.2.2) hu rfl hiQ hS ?_
                    simp only [List.setIfInBounds_toArray, List.set_cons_succ, List.set_cons_zero]
                    refine take_pure 6 46 (.int .i64 (m : Nat)) rfl rfl (by kernel_rfl) (by kernel_rfl) (by kernel_rfl) (fun _ _ _ _ h => h) (by rfl) (fun W => by clear hS; go_simp) hS ?_
                    simp only [List.setIfInBounds_toArray, List.set_cons_succ, List.set_cons_zero]
                    refine take_load 8 48 rfl rfl (by kernel_rfl) (by kernel_rfl) (by kernel_rfl) (fun _ _ _ _ h => h) (by rfl) 35 _ (by rfl) (w.heap.size) (ints 26 (Pm.up p)) _ (by rfl) (fun W h => h.2.2.1) hu rfl hiP hS ?_
                    simp only [List.setIfInBounds_toArray, List.set_cons_succ, List.set_cons_zero]
                    refine take_pure 9 49 (.int .i64 (i : Nat)) rfl rfl (by kernel_rfl) (by kernel_rfl) (by kernel_rfl) (fun _ _ _ _ h => h) (by rfl) (fun W => by clear hS; go_simp) hS ?_
                    simp only [List.setIfInBounds_toArray, List.set_cons_succ, List.set_cons_zero]
                    refine wpAnyH_ready (rs := [7]) (by kernel_rfl) (by simp) ?_
                    refine AllReadyH.cons (o := _) rfl (fun K hK => ?_) AllReadyH.nil
                    rw [if_pos (by rfl)]
                    go_simp
                    refine (rlong_any q hq m (by omega) _).mono ?_
                    rintro e X2 ⟨rfl, hc⟩
                    refine hK.out _ _ (s19_call hsx hsp hsq hS hc) (fun hS1 => ?_)
                    clear hK hS
                    have hS := hS1
                    clear hS1 K
                    refine wpAnyH_ready (rs := [10]) (by kernel_rfl) (by simp) ?_
                    refine AllReadyH.cons (o := _) rfl (fun K hK => ?_) AllReadyH.nil
                    rw [if_pos (by rfl)]
                    go_simp
                    refine (rlong_any p hp i hlt _).mono ?_
                    rintro e X3 ⟨rfl, hd⟩
                    refine hK.out _ _ (s19_call hsx hsp hsq hS hd) (fun hS1 => ?_)
                    clear hK hS
                    have hS := hS1
                    clear hS1 K
                    by_cases hl : Pm.len q m = Pm.len p i
                    · have hbe : (((Pm.len q m : Nat) : Int) == ((Pm.len p i : Nat) : Int)) = true := by rw [hl]; simp
                      have HN : Hid (Least g m (m : Nat)) := Least.take (by omega) (by rw [HGm, htk, hl]; simp)
                      clear HGm htk hl
                      refine take_pure 11 51 (.bool true) rfl rfl (by kernel_rfl) (by kernel_rfl) (by kernel_rfl) (fun _ _ _ _ h => h) (by rfl) (fun W => by clear hS; go_simp) hS ?_
                      simp only [List.setIfInBounds_toArray, List.set_cons_succ, List.set_cons_zero]
                      refine take_pure 12 52 (.bool true) rfl rfl (by kernel_rfl) (by kernel_rfl) (by kernel_rfl) (fun _ _ _ _ h => h) (by rfl) (fun W => by clear hS; go_simp) hS ?_
                      simp only [List.setIfInBounds_toArray, List.set_cons_succ, List.set_cons_zero]
                      refine wpAnyH_done (by kernel_rfl) ?_ _
                      refine NoPanic.normal ?_
                      obtain ⟨hS1, _, _, _⟩ := hS
                      have hSz := hS1.size
                      go_wp2
                      go_roundw
                      case rel => rw [hdec.out]; exact ⟨_, _, _, _, _, _, _, _, _, _, _, _, _, _, _, _, _, _, _, _, ⟨m, m, by omega, rfl, rfl, HN, ro.below hS1 hsx, r1.below hS1 hsp, r2.below hS1 hsq, r3.below hS1 r3.lt, hb.trans (hS1.mono (by omega)), by have := hSz; omega⟩, rfl⟩
                      case measure => first | (simp [intOf]; done) | (simp [intOf]; omega)
                    · have hbe : (((Pm.len q m : Nat) : Int) == ((Pm.len p i : Nat) : Int)) = false := by simp; omega
                      have HN : Hid (Least g m T) := Least.skip (by rw [HGm, htk]; simp; omega) HT.out
                      clear HGm htk hl
                      refine take_pure 11 51 (.bool false) rfl rfl (by kernel_rfl) (by kernel_rfl) (by kernel_rfl) (fun _ _ _ _ h => h) (by rfl) (fun W => by clear hS; go_simp) hS ?_
                      simp only [List.setIfInBounds_toArray, List.set_cons_succ, List.set_cons_zero]
                      refine take_pure 12 52 (.bool false) rfl rfl (by kernel_rfl) (by kernel_rfl) (by kernel_rfl) (fun _ _ _ _ h => h) (by rfl) (fun W => by clear hS; go_simp) hS ?_
                      simp only [List.setIfInBounds_toArray, List.set_cons_succ, List.set_cons_zero]
                      refine wpAnyH_done (by kernel_rfl) ?_ _
                      refine NoPanic.normal ?_
                      obtain ⟨hS1, _, _, _⟩ := hS
                      have hSz := hS1.size
                      go_wp2
                      go_roundw
                      case rel => rw [hdec.out]; exact ⟨_, _, _, _, _, _, _, _, _, _, _, _, _, _, _, _, _, _, _, _, ⟨m, T, by omega, rfl, rfl, HN, ro.below hS1 hsx, r1.below hS1 hsp, r2.below hS1 hsq, r3.below hS1 r3.lt, hb.trans (hS1.mono (by omega)), by have := hSz; omega⟩, rfl⟩
                      case measure => first | (simp [intOf]; done) | (simp [intOf]; omega)
        · have HK : Hid (i = 26) := by rw [Hid]; omega
          rw [HK.out] at HL
          have HO : Hid (ints 26 (outB (betw p q)).1 = ints 26 s.2 ∧ (outB (betw p q)).2 = 0) := by
            rcases layI_all (q := q) hp with ⟨h1, _⟩ | ⟨s', y, h1, h2, h3⟩
            · rw [HL.out] at h1; cases h1
            · rw [HL.out] at h1
              cases h1
              rw [Hid, h2]
              exact ⟨ints_ext fun a ha => (h3 a ha).symm, rfl⟩
          rw [HK.out]
          clear hlt hi HK
          go_wp2_with (first
            | refine load_perm rfl _ rfl _ rfl _ ro ?_
            | refine wpList_store_row rfl 35 _ _ rfl (w.heap.size + 1 + 1) (ints 26 s.2) rfl rfl 35 _ r3 (by rw [ints_size]; exact info_perm) (by simp only [ints_size]) (ints_one _ _) ?_)
          refine bodyPost_ret (v := .tuple #[.agg (ints 26 s.2), .int .i64 0]) (results_cell_tmp2 rfl _ _ (w.heap.size + 1 + 1) 35 _ (0, 0) _ _ rfl rfl (r3.row _) Try.underlying35 rfl (by rw [ints_size]; exact info_perm)) rfl ⟨?_, Below.setRow hb _ (by omega) _⟩
          rw [HO.out.1, HO.out.2]
set_option maxHeartbeats 2000000 in
theorem rbetween_bad (f g : Nat → Int) (E : Int) (hE : (E != 0) = true) (hw : Pm.firstBad (pair f g) 2 = E) (w : World) :
    Calls Try.prog 32 #[.agg (ints 26 f), .agg (ints 26 g)] w fun e w' => e = .returned (.tuple #[.agg (ints 26 fun _ => 0), .int .i64 E]) ∧ Below w.heap.size w w' := by
  have H0 : Hid (Pm.firstBad (pair f g) 2 = E) := hw
  clear hw
  go_enter Try.func32, Try.ntmps32
  go_wp2_with (first
    | refine load_perm rfl _ rfl w.heap.size rfl (f) (((RowAt.new w _ _).alloc _).alloc _) ?_
    | refine load_perm rfl _ rfl (w.heap.size + 1) rfl (g) ((RowAt.newAt (by simp)).alloc _) ?_)
  rw [zero26]
  refine (rtwo_any (f) (g) _).mono ?_
  rintro e W1 ⟨rfl, hb0⟩
  obtain ⟨r1, r2, r3, hb1, hs1⟩ := after2r hb0
  clear hb0
  rw [H0.out]
  go_wp2_with (first
    | refine wpList_build0 rfl 35 rfl _ built_perm ?_
    | refine wpList_store_row rfl 35 _ _ rfl (w.heap.size + 1 + 1) (ints 26 fun _ => 0) rfl rfl 35 _ r3 (by rw [ints_size]; exact info_perm) (by simp only [ints_size]) (ints_one _ _) ?_)
  exact bodyPost_ret (v := .tuple #[.agg (ints 26 fun _ => 0), .int .i64 E]) (results_cell_tmp2 rfl _ _ (w.heap.size + 1 + 1) 35 _ (0, 0) _ _ rfl rfl (r3.row _) Try.underlying35 rfl (by rw [ints_size]; exact info_perm)) rfl ⟨rfl, Below.setRow hb1 _ (by omega) _⟩
end Go.Proofs.Ytlgjgppojdamiaa
