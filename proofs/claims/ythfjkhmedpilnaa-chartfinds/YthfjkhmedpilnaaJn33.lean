/-
  Several texts, joined: KRTy, ChRTy.
-/
import Derived.Test.YthfjkhmedpilnaaJn29
import Derived.Test.YthfjkhmedpilnaaJn32
import Derived.Test.YthfjkhmedpilnaaJn30
/-
  Contract of the document's Type (chapter 2).
-/
namespace Go.Proofs.Ythfjkhmedpilnaa
open Go.RowKit PK

set_option maxRecDepth 100000 in
set_option maxHeartbeats 4000000 in
theorem rlong_any (p : Nat → Nat) (hp : Pm.IsPerm p) (i : Nat) (hi : i < 26) (w : World) :
    Calls Try.prog 82 #[.agg (ints 26 (Pm.up p)), .int .i64 (i : Nat)] w fun e w' => e = .returned (.int .i64 (Pm.len p i : Nat)) ∧ Below w.heap.size w w' := by
  have hlen := Pm.len_is hp i hi
  go_enter Try.func82, Try.ntmps82
  have hc0 : (ints 26 (Pm.up p))[i]? = some (.int .i64 (p i : Nat)) := ints_get (Pm.up p) hi
  go_wp2
  have hrow := RowAt.new w 25 (ints 26 (Pm.up p))
  have hb : Below w.heap.size w (w.alloc (.cells (ints 26 (Pm.up p)) 25)) := (Below.refl _ _).alloc (Nat.le_refl _) _
  generalize w.alloc (.cells (ints 26 (Pm.up p)) 25) = W at hrow hb ⊢
  clear hc0
  go_loop [5, 6] (fun n a => ∃ m : Nat, 1 ≤ m ∧ m ≤ Pm.len p i ∧ n = .int .i64 m ∧ a = .int .i64 (Pm.iter p m i : Nat)) (fun n _ => (27 - intOf n).toNat)
  case atStart => exact ⟨1, Nat.le_refl _, hlen.pos, rfl, rfl⟩
  case round =>
    obtain ⟨m, hm1, hm2, rfl, rfl⟩ := hrel
    have hx := Pm.iter_lt hp i hi m
    have hle := hlen.le
    by_cases hlt : m < Pm.len p i
    · have hne : ((Pm.iter p m i : Nat) : Int) ≠ ((i : Nat) : Int) := by have := hlen.min m (by omega) hlt; omega
      have HS : Hid (Pm.iter p (m + 1) i = p (Pm.iter p m i)) := rfl
      have hbne : (((Pm.iter p m i : Nat) : Int) != ((i : Nat) : Int)) = true := by simpa using hne
      have hc := hrow.cell (ints_get (Pm.up p) hx)
      simp only [Pm.up] at hc
      generalize Pm.iter p m i = x at *
      clear hne
      go_wp2
      exact ⟨⟨m + 1, by omega, by omega, by go_num, by rw [HS.out]⟩, by simp [intOf]; omega⟩
    · have HM : Hid (m = Pm.len p i) := by rw [Hid]; omega
      have hret : Pm.iter p m i = i := by rw [HM.out]; exact hlen.ret
      have hbe : (((Pm.iter p m i : Nat) : Int) != ((i : Nat) : Int)) = false := by rw [hret]; simp
      clear hret
      go_wp2
      go_ret
      exact ⟨ret_int (by rw [HM.out]), hb⟩
theorem flat_count (q : Nat → Bool) (n : Nat) : ∀ ls : List (List Nat), (∀ l ∈ ls, ∀ x ∈ l, q x = (l.length == n)) → (ls.flatten.filter q).length = n * cnt ls n
  | [], _ => by simp [cnt]
  | l :: ls, h => by
    have ih := flat_count q n ls (fun x hx => h x (by simp [hx]))
    have hl := h l (by simp)
    rw [List.flatten_cons, List.filter_append, List.length_append, ih]
    unfold cnt
    by_cases e : l.length = n
    · have h1 : l.filter q = l := List.filter_eq_self.2 fun x hx => by rw [hl x hx]; simpa using e
      rw [h1]
      simp [e, Nat.mul_succ]
      omega
    · have h1 : l.filter q = [] := List.filter_eq_nil_iff.2 fun x hx => by rw [hl x hx]; simpa using e
      rw [h1]
      simp [e]
def inN (p : Nat → Nat) (n k : Nat) : Nat := ((List.range k).filter fun i => Pm.len p i == n).length
theorem inN_succ (p : Nat → Nat) (n k : Nat) : inN p n (k + 1) = inN p n k + if Pm.len p k = n then 1 else 0 := by
  unfold inN
  rw [List.range_succ, List.filter_append, List.length_append]
  by_cases e : Pm.len p k = n <;> simp [e]
theorem inN_le (p : Nat → Nat) (n k : Nat) : inN p n k ≤ k := by
  unfold inN
  have := List.length_filter_le (fun i => Pm.len p i == n) (List.range k)
  simpa using this
theorem inN_all {p : Nat → Nat} (hp : Pm.IsPerm p) (n : Nat) : inN p n 26 = n * cnt (Pm.cycs p 26) n := by
  rw [← flat_count (fun i => Pm.len p i == n) n (Pm.cycs p 26) (fun l hl x hx => by
    obtain ⟨i, hi, rfl, _⟩ := Pm.mem_cycs p 26 l hl
    rw [Pm.cyc_length, Pm.len_of_mem hp x i hi hx])]
  unfold inN
  have hn1 : ((List.range 26).filter fun i => Pm.len p i == n).Nodup := List.Pairwise.sublist List.filter_sublist (List.nodup_range (n := 26))
  have hn2 : ((Pm.cycs p 26).flatten.filter fun i => Pm.len p i == n).Nodup := List.Pairwise.sublist List.filter_sublist (Pm.flat_nodup hp 26 (Nat.le_refl _))
  have h1 := Pm.nodup_le _ ((Pm.cycs p 26).flatten.filter fun i => Pm.len p i == n) hn1 (fun x hx => by
    rw [List.mem_filter] at hx ⊢
    exact ⟨(Pm.flat_all hp x).2 (by simpa using hx.1), hx.2⟩)
  have h2 := Pm.nodup_le _ ((List.range 26).filter fun i => Pm.len p i == n) hn2 (fun x hx => by
    rw [List.mem_filter] at hx ⊢
    exact ⟨by simpa using (Pm.flat_all hp x).1 hx.1, hx.2⟩)
  omega
theorem boxed1 {w W1 : World} {T : TypeId} {f : Nat → Int} (hb : Below (w.alloc (.cells (ints 26 f) T)).heap.size (w.alloc (.cells (ints 26 f) T)) W1) : RowAt W1 w.heap.size T (ints 26 f) ∧ Below w.heap.size w W1 ∧ w.heap.size + 1 ≤ W1.heap.size := by
  have hs := hb.size
  simp at hs
  exact ⟨RowAt.below (RowAt.new w _ _) hb (by simp), ((Below.refl _ _).alloc (Nat.le_refl _) _).trans (hb.mono (by simp)), hs⟩
set_option maxRecDepth 100000 in
set_option maxHeartbeats 4000000 in
theorem rtype_ok (p : Nat → Nat) (hp : Pm.IsPerm p) (w : World) :
    Calls Try.prog 53 #[.agg (ints 26 (Pm.up p))] w fun e w' => ∃ v, e = .returned (.tuple #[v, .int .i64 0]) ∧ OwnsN w' w.heap.size v (typeOf p) ∧ Below w.heap.size w w' := by
  obtain ⟨i0, hi0, hz0, hz1, hz2⟩ := info_parts info_int3
  have H0 : Hid (Pm.wrong (Pm.up p) = 0) := Pm.wrong_up p hp
  have hcnt : ∀ n, cnt (Pm.cycs p 26) n ≤ 26 := fun n => Nat.le_trans (cnt_le _ _) (Pm.cycs_len p 26)
  have HIN : Hid (∀ n, inN p n 26 = n * cnt (Pm.cycs p 26) n) := fun n => inN_all hp n
  obtain ⟨c, hc⟩ : ∃ c, c = cnt (Pm.cycs p 26) := ⟨_, rfl⟩
  have HC : Hid (c = cnt (Pm.cycs p 26)) := hc
  rw [← hc] at hcnt HIN
  clear hc
  go_enter Try.func53, Try.ntmps53
  go_wp2_with (first | refine load_perm rfl _ rfl _ rfl _ (RowAt.new w _ _) ?_)
  refine (rwrong_any (Pm.up p) _).mono ?_
  rintro e W1 ⟨rfl, hb0⟩
  obtain ⟨r1, hb1, hs1⟩ := boxed1 hb0
  clear hb0
  rw [H0.out]
  clear H0
  go_wp2
  go_loopw [5, 6] (fun v n W => ∃ k : Nat, k ≤ 26 ∧ n = .int .i64 ((26 - k : Nat) : Int) ∧ OwnsN W (w.heap.size + 1) v (tyDown c k) ∧ RowAt W w.heap.size 25 (ints 26 (Pm.up p)) ∧ Below w.heap.size w W) (fun _ n _ => (intOf n).toNat)
  case atStart => exact ⟨0, by omega, rfl, World.ownsRow_nil _ _ _ _, r1, hb1⟩
  case round =>
    clear r1 hb1 hs1
    obtain ⟨k, hk, rfl, hown, hrp, hb⟩ := hrel
    have htl := tyDown_len c hcnt k
    by_cases hlt : k < 26
    · obtain ⟨n, hn⟩ : ∃ n, n = 26 - k := ⟨_, rfl⟩
      have HN : Hid (n = 26 - k) := hn
      rw [← hn]
      have hpn : 0 < n := by omega
      have hn27 : n ≤ 26 := by omega
      clear hn
      have HTL : Hid ((tyDown c k).length ≤ 26 * k ∧ k < 26) := ⟨htl, hlt⟩
      have HCN : Hid (∀ n, c n ≤ 26) := hcnt
      clear htl hlt hk hcnt
      go_wp2
      go_loopw [7, 8] (fun a i W => ∃ j : Nat, j ≤ 26 ∧ i = .int .i64 j ∧ a = .int .i64 (inN p n j : Nat) ∧ OwnsN W (w.heap.size + 1) u5 (tyDown c k) ∧ RowAt W w.heap.size 25 (ints 26 (Pm.up p)) ∧ Below w.heap.size w W) (fun _ i _ => (26 - intOf i).toNat)
      case atStart => exact ⟨0, by omega, rfl, rfl, hown, hrp, hb⟩
      case round =>
        clear hown hrp hb
        obtain ⟨j, hj, rfl, rfl, hown, hrp, hb⟩ := hrel
        have hsz := hrp.lt
        by_cases hj26 : j < 26
        · have hin := inN_le p n j
          have HS : Hid (inN p n (j + 1) = inN p n j + if Pm.len p j = n then 1 else 0) := inN_succ p n j
          have HLC : Hid (∀ W, Calls Try.prog 82 #[.agg (ints 26 (Pm.up p)), .int .i64 (j : Nat)] W fun e w' => e = .returned (.int .i64 (Pm.len p j : Nat)) ∧ Below W.heap.size W w') := fun W => rlong_any p hp j hj26 W
          generalize inN p n j = q at *
          generalize Pm.len p j = l at *
          by_cases hl : l = n
          · rw [if_pos hl] at HS
            have hle : (((l : Nat) : Int) == ((n : Nat) : Int)) = true := by rw [hl]; simp
            clear hl
            go_wp2_with (first | refine load_perm rfl _ rfl _ rfl _ hrp ?_)
            refine (HLC.out _).mono ?_
            rintro e W2 ⟨rfl, hc2⟩
            go_wp2
            go_roundw
            case rel => exact ⟨j + 1, by omega, by go_num, by rw [HS.out]; go_num, own_belowK hown hc2, hrp.below hc2 hsz, hb.trans (hc2.mono (by omega))⟩
            case measure => simp [intOf]; omega
          · rw [if_neg hl] at HS
            have hle : (((l : Nat) : Int) == ((n : Nat) : Int)) = false := by simp; omega
            clear hl
            go_wp2_with (first | refine load_perm rfl _ rfl _ rfl _ hrp ?_)
            refine (HLC.out _).mono ?_
            rintro e W2 ⟨rfl, hc2⟩
            go_wp2
            go_roundw
            case rel => exact ⟨j + 1, by omega, by go_num, by rw [HS.out]; rfl, own_belowK hown hc2, hrp.below hc2 hsz, hb.trans (hc2.mono (by omega))⟩
            case measure => simp [intOf]; omega
        · have hj' : j = 26 := by omega
          have hIN := HIN.out n
          rw [← hj'] at hIN
          have hqn : ((inN p n j : Nat) : Int) / ((n : Nat) : Int) = ((c n : Nat) : Int) := by
            rw [hIN, Int.natCast_mul]
            exact Int.mul_ediv_cancel_left _ (by omega)
          have hi26 := inN_le p n j
          have hcn := HCN.out n
          obtain ⟨Q, hQ⟩ : ∃ Q, Q = c n := ⟨_, rfl⟩
          have HQ : Hid (Q = c n) := hQ
          rw [← hQ] at hqn hcn
          clear hQ hIN
          generalize inN p n j = I at *
          have hnz : ¬ (n = 0) := by omega
          clear hj'
          go_wp2
          go_loopw [5, 9] (fun v j W => ∃ m : Nat, m ≤ Q ∧ j = .int .i64 m ∧ OwnsN W (w.heap.size + 1) v (tyDown c k ++ List.replicate m n) ∧ RowAt W w.heap.size 25 (ints 26 (Pm.up p)) ∧ Below w.heap.size w W) (fun _ j _ => (Q - intOf j).toNat)
          case atStart => exact ⟨0, by omega, rfl, by simpa using hown, hrp, hb⟩
          case round =>
            clear hown hrp hb hsz
            obtain ⟨m, hm, rfl, hown, hrp, hb⟩ := hrel
            have hsz := hrp.lt
            obtain ⟨htl, hlt⟩ := HTL.out
            by_cases hmq : m < Q
            · have hlm : (tyDown c k ++ List.replicate m n).length ≤ 1000 := by simp; omega
              go_wp2_with (first
                | (at_builtin; refine wpList_append_own _ rfl _ _ 23 rfl (w.heap.size + 1) 3 i0 (.int .i64 0) 1 8 Try.underlying23 hi0 hz0 hz1 hz2 rfl (by decide) _ _ _ rfl (World.ownsRow.alloc hown _) ⟨wr.heap.size, 0, none⟩ 1 1 [.int .i64 (n : Nat)] rfl rfl (cell_one_new _ _ _) (fun u hu => by simp at hu; subst hu; rfl) (by unfold maxLen; omega) (by omega) (by simp; omega) ?_; intro v' w1 hown' hgrow _))
              go_roundw
              case rel =>
                refine ⟨m + 1, by omega, by go_num, ?_, row_grown (hrp.alloc _) hgrow (fun j hj => (World.ownsRow.lt hown j hj).1), (hb.alloc (by omega) _).grown hgrow (by simp; omega) (fun j hj => by have := (World.ownsRow.lt hown j hj).1; omega)⟩
                have e1 : tyDown c k ++ List.replicate (m + 1) n = (tyDown c k ++ List.replicate m n) ++ [n] := by rw [List.replicate_succ', List.append_assoc]
                rw [e1, OwnsN, nums_append, List.length_append]
                exact hown'
              case measure => simp [intOf]; omega
            · have HM : Hid (m = Q) := by rw [Hid]; omega
              go_wp2
              go_roundw
              case rel =>
                refine ⟨k + 1, by omega, ?_, ?_, hrp, hb⟩
                · have : ((26 - (k + 1) : Nat) : Int) = (n : Int) - 1 := by rw [HN.out]; omega
                  rw [this]
                · show OwnsN _ _ _ (tyDown c k ++ List.replicate (c (26 - k)) (26 - k))
                  rw [← HN.out, ← HQ.out, ← HM.out]
                  exact hown
              case measure => simp [intOf]; omega
    · have HK : Hid (k = 26) := by rw [Hid]; omega
      have hz : ((26 - k : Nat) : Int) = 0 := by omega
      go_wp2
      go_ret2
      refine ⟨_, rfl, ?_, hb⟩
      have := own_leK (B' := w.heap.size) hown (by omega)
      rw [typeOf, ← HC.out, ← HK.out]
      exact this
end Go.Proofs.Ythfjkhmedpilnaa

/-
  Contract of the document's Types (chapter 9).
-/
namespace Go.Proofs.Ythfjkhmedpilnaa
open Go.RowKit PK Vg

theorem flat_in3 {W : World} {g : Nat} {T : TypeId} {P : Nat → Nat → Nat} {j : Nat} (h : RowAt W g T (ints 78 (flat P))) (hj : j < 3) : W.rangeAt g (j * 26) (ints 26 (Pm.up (P j))).toList := row_mid h _ _ fun i v hv => by
  obtain ⟨h1, rfl⟩ := at_ints hv
  rw [ints_get _ (by omega)]
  unfold flat Pm.up
  rw [show (j * 26 + i) / 26 = j by omega, show (j * 26 + i) % 26 = i by omega]
/-- What the document's Types holds ahead of the chart. -/
structure RuS (w W : World) (a b c : Value) (rf pl : Nat → Int) : Prop where
  z : TzAt w W a b c rf pl
  out : RowAt W (w.heap.size + 2) 28 (sl3 0 fun _ => .slice none 0 0)
theorem RuS.new (w : World) (a b c : Value) (rf pl : Nat → Int) : RuS w (((w.alloc (.cells (mac a b c rf pl) 27)).alloc (.cells (sl3 0 fun _ => .slice none 0 0) 28)).alloc (.cells (sl3 0 fun _ => .slice none 0 0) 28)) a b c rf pl := by
  have h := RowAt.new ((w.alloc (.cells (mac a b c rf pl) 27)).alloc (.cells (sl3 0 fun _ => .slice none 0 0) 28)) 28 (sl3 0 fun _ => .slice none 0 0)
  rw [World.size_alloc, World.size_alloc] at h
  exact ⟨(TzAt.new w a b c rf pl).step ((Below.refl _ _).alloc (Nat.le_refl _) _), h⟩
theorem RuS.step {w W W' : World} {a b c : Value} {rf pl : Nat → Int} (h : RuS w W a b c rf pl) (hb : Below W.heap.size W W') : RuS w W' a b c rf pl := ⟨h.z.step hb, h.out.below hb h.out.lt⟩
/-- What it holds behind. -/
structure RtS (w W : World) (a b c : Value) (rf pl : Nat → Int) (P : Nat → Nat → Nat) (q k : Nat) (V : Nat → Value) : Prop where
  mg : MgAt w W a b c rf pl
  res : RowAt W (w.heap.size + 1) 28 (sl3 0 fun _ => .slice none 0 0)
  out : RowAt W (w.heap.size + 2) 28 (sl3 k V)
  ch : RowAt W q 68 (ints 78 (flat P))
  q1 : w.heap.size + 2 < q
  rows : TysAt W V k P
  far : ∀ i, i < k → ∀ p, (V i).ownBlock = some p → q < p
section
variable {w W W' : World} {a b c : Value} {rf pl : Nat → Int} {P : Nat → Nat → Nat} {q k : Nat} {V : Nat → Value}
theorem RtS.step (h : RtS w W a b c rf pl P q k V) (hb : Below W.heap.size W W') : RtS w W' a b c rf pl P q k V := ⟨h.mg.step hb, h.res.below hb h.res.lt, h.out.below hb h.out.lt, h.ch.below hb h.ch.lt, h.q1, fun i hi => (h.rows i hi).below hb, h.far⟩
theorem RtS.put (h : RtS w W a b c rf pl P q k V) {v : Value} {B : Nat} (hB : q < B) (ho : OwnsN W B v (typeOf (P k))) : RtS w (W.setCell ⟨w.heap.size + 2, k, none⟩ v) a b c rf pl P q (k + 1) (fun i => if i = k then v else V i) := by
  have h1 := h.q1
  have hgs := grown_set W (w.heap.size + 2) k v
  have hfv : ∀ p, v.ownBlock = some p → q < p := fun p hp => by
    have h3 : W.ownsRow B 3 1 v (typeOf (P k)).length (nums (typeOf (P k))) := ho
    have := (World.ownsRow.lt h3 p hp).1
    omega
  refine ⟨⟨h.mg.row.setOther _ _ (by show w.heap.size ≠ w.heap.size + 2; omega), h.mg.below.setCell (p := ⟨w.heap.size + 2, k, none⟩) (by show w.heap.size ≤ w.heap.size + 2; omega) _⟩, h.res.setOther _ _ (by show w.heap.size + 1 ≠ w.heap.size + 2; omega), ?_, h.ch.setOther _ _ (by show q ≠ w.heap.size + 2; omega), h.q1, fun i hi => ?_, fun i hi p hp => ?_⟩
  · have := h.out.set k v
    rw [sl3_set] at this
    exact this
  · show NumsAt _ (if i = k then v else V i) _ _
    by_cases e : i = k
    · rw [if_pos e, e]
      exact nums_grown (nums_of_own ho) hgs (fun p hp e2 => by have := hfv p hp; cases e2; omega)
    · rw [if_neg e]
      exact nums_grown (h.rows i (by omega)) hgs (fun p hp e2 => by have := h.far i (by omega) p hp; cases e2; omega)
  · have hp' : (if i = k then v else V i).ownBlock = some p := hp
    by_cases e : i = k
    · rw [if_pos e] at hp'; exact hfv p hp'
    · rw [if_neg e] at hp'; exact h.far i (by omega) p hp'
end
set_option maxRecDepth 100000 in
set_option maxHeartbeats 2000000 in
theorem rtypes_bad (a b c : Value) (rf pl : Nat → Int) (A : Array Value) (hA : Hid (A.size = 78)) (hA1 : Hid (A.all (·.oneCell') = true)) (E : Int) (hE : (E != 0) = true) (w : World) (HW : Hid (∀ W, Below w.heap.size w W → Calls Try.prog 52 #[.agg (mac a b c rf pl)] W fun e w' => e = .returned (.tuple #[.agg A, .int .i64 E]) ∧ Below W.heap.size W w')) : Calls Try.prog 24 #[.agg (mac a b c rf pl)] w fun e w' => e = .returned (.tuple #[.agg (sl3 0 fun _ => .slice none 0 0), .int .i64 E]) ∧ Below w.heap.size w w' := by
  have h0 := RuS.new w a b c rf pl
  have hz3 := o_zero v_zero_sl3
  have hz78 := o_zero v_zero_three
  go_enter Try.func24, Try.ntmps24
  go_upto_region 2 with fail
  generalize ((w.alloc (.cells (mac a b c rf pl) 27)).alloc (.cells (sl3 0 fun _ => .slice none 0 0) 28)).alloc (.cells (sl3 0 fun _ => .slice none 0 0) 28) = W0 at *
  have hld := h0.z.mg.row
  go_wp2_with (first | refine wpList_load_row rfl 27 _ rfl w.heap.size rfl 27 (mac a b c rf pl) (0, 0) _ hld Try.underlying27 rfl (by rw [mac_size]; exact v_info_mac) ?_)
  refine (HW.out _ h0.z.mg.below).mono ?_
  rintro e W1 ⟨rfl, hb⟩
  have h1 := h0.step hb
  have hl1 := h1.out.lt
  clear hb h0 HW hz3 hld
  have HR := (show Hid (RowAt ((W1.alloc (.cells (ints 78 fun _ => 0) 68)).setRow W1.heap.size A) (w.heap.size + 1) 28 (sl3 0 fun _ => .slice none 0 0)) from (h1.z.res.alloc (.cells (ints 78 fun _ => 0) 68)).rowOther W1.heap.size A (by omega))
  have HO := (show Hid (RowAt ((W1.alloc (.cells (ints 78 fun _ => 0) 68)).setRow W1.heap.size A) (w.heap.size + 2) 28 (sl3 0 fun _ => .slice none 0 0)) from (h1.out.alloc (.cells (ints 78 fun _ => 0) 68)).rowOther W1.heap.size A (by omega))
  have HBE := (show Hid _ from Below.setRow (Below.setRow (h1.z.mg.below.alloc h1.z.mg.below.size (.cells (ints 78 fun _ => 0) 68)) W1.heap.size h1.z.mg.below.size A) (w.heap.size + 1) (by omega) (sl3 0 fun _ => .slice none 0 0))
  clear h1 hl1
  go_wp2_with (first | refine wpList_load_row rfl 28 _ rfl (w.heap.size + 2) rfl 28 (sl3 0 fun _ => .slice none 0 0) (0, 0) _ HO.out Try.underlying28 rfl (by rw [sl3_size]; exact v_info_sl3) ?_ | refine wpList_store_row rfl 68 _ _ rfl W1.heap.size A rfl rfl 68 _ (RowAt.new W1 _ _) (by rw [hA.out]; exact v_info_three) (by rw [hA.out, ints_size]) hA1.out ?_ | refine wpList_store_row rfl 28 _ _ rfl (w.heap.size + 1) (sl3 0 fun _ => .slice none 0 0) rfl rfl 28 _ HR.out (by rw [sl3_size]; exact v_info_sl3) (by simp only [sl3_size]) (sl3_one fun i hi => by omega) ?_)
  exact bodyPost_ret (v := .tuple #[.agg (sl3 0 fun _ => .slice none 0 0), .int .i64 E]) (results_cell_tmp2 rfl _ _ (w.heap.size + 1) 28 _ (0, 0) _ _ rfl rfl (HR.out.row _) Try.underlying28 rfl (by rw [sl3_size]; exact v_info_sl3)) rfl ⟨rfl, HBE.out⟩
set_option maxRecDepth 100000 in
set_option maxHeartbeats 4000000 in
theorem rtypes_ok (P : Nat → Nat → Nat) (hP : ∀ k, Pm.IsPerm (P k)) (a b c : Value) (rf pl : Nat → Int) (w : World) (HW : Hid (∀ W, Below w.heap.size w W → Calls Try.prog 52 #[.agg (mac a b c rf pl)] W fun e w' => e = .returned (.tuple #[.agg (ints 78 (flat P)), .int .i64 0]) ∧ Below W.heap.size W w')) : Calls Try.prog 24 #[.agg (mac a b c rf pl)] w fun e w' => ∃ V, e = .returned (.tuple #[.agg (sl3 3 V), .int .i64 0]) ∧ TysAt w' V 3 P ∧ Below w.heap.size w w' := by
  have h0 := RuS.new w a b c rf pl
  have hz3 := o_zero v_zero_sl3
  have hz78 := o_zero v_zero_three
  have HPP := (show Hid _ from hP)
  clear hP
  go_enter Try.func24, Try.ntmps24
  go_upto_region 2 with fail
  generalize ((w.alloc (.cells (mac a b c rf pl) 27)).alloc (.cells (sl3 0 fun _ => .slice none 0 0) 28)).alloc (.cells (sl3 0 fun _ => .slice none 0 0) 28) = W0 at *
  have hld := h0.z.mg.row
  go_wp2_with (first | refine wpList_load_row rfl 27 _ rfl w.heap.size rfl 27 (mac a b c rf pl) (0, 0) _ hld Try.underlying27 rfl (by rw [mac_size]; exact v_info_mac) ?_)
  refine (HW.out _ h0.z.mg.below).mono ?_
  rintro e W1 ⟨rfl, hb⟩
  have h1 := h0.step hb
  have hl1 := h1.out.lt
  clear hb h0 HW hz3 hld
  go_upto_region 3 with (first | refine wpList_store_row rfl 68 _ _ rfl W1.heap.size (ints 78 (flat P)) rfl rfl 68 _ (RowAt.new W1 _ _) (by rw [ints_size]; exact v_info_three) (by simp only [ints_size]) (ints_one _ _) ?_)
  have hr4 := (RowAt.new W1 68 (ints 78 fun _ => 0)).row (ints 78 (flat P))
  have hb4 := Below.setRow ((Below.refl W1.heap.size W1).alloc (Nat.le_refl _) (.cells (ints 78 fun _ => 0) 68)) W1.heap.size (Nat.le_refl _) (ints 78 (flat P))
  have h4 := h1.step hb4
  have hg0 : RtS w ((W1.alloc (.cells (ints 78 fun _ => 0) 68)).setRow W1.heap.size (ints 78 (flat P))) a b c rf pl P W1.heap.size 0 (fun _ => .slice none 0 0) := ⟨h4.z.mg, h4.z.res, h4.out, hr4, hl1, fun i hi => by omega, fun i hi => by omega⟩
  clear hb4 h4 hr4 h1 hl1 hz78
  generalize (W1.alloc (.cells (ints 78 fun _ => 0) 68)).setRow W1.heap.size (ints 78 (flat P)) = V4 at *
  obtain ⟨q, hq⟩ : ∃ x, x = W1.heap.size := ⟨_, rfl⟩
  rw [← hq] at hg0 ⊢
  clear hq
  go_wp2_with fail
  go_loopw [17] (fun i W => ∃ (k : Nat) (V : Nat → Value), k ≤ 3 ∧ i = .int .i64 (k : Nat) ∧ RtS w W a b c rf pl P q k V) (fun i _ => ((3 : Int) - intOf i).toNat)
  case atStart => exact ⟨0, _, by omega, rfl, hg0⟩
  case round =>
    clear hg0
    obtain ⟨k, V, hk, rfl, hg⟩ := hrel
    by_cases hlt : k < 3
    · have HLT : Hid (k < 3) := hlt
      have hlt2 : (k : Int) < 3 := by omega
      have hpk := HPP.out k
      have hrg := flat_in3 hg.ch hlt
      obtain ⟨pk, hpe⟩ : ∃ p, p = P k := ⟨_, rfl⟩
      rw [← hpe] at hpk hrg
      have HPE := (show Hid _ from hpe)
      have HG := (show Hid _ from hg)
      have HRG := (show Hid _ from hrg)
      clear hpe hg hlt hrg
      go_wp2_with (first | refine wpList_load_mid rfl 25 _ rfl q (k * 26) rfl (ints 26 (Pm.up pk)).toList _ HRG.out Try.underlying25 rfl (by rw [Array.length_toList, ints_size]; exact info_perm) ?_)
      refine (rtype_ok pk hpk _).mono ?_
      rintro e Y ⟨v, rfl, hov, hb⟩
      have hg9 := HG.out.step hb
      rw [HPE.out] at hov
      have HNX := (show Hid _ from hg9.put HG.out.ch.lt hov)
      obtain ⟨av, cv, hev⟩ := own_slice' hov
      have hck := hg9.out.cell (sl3_get k V HLT.out)
      rw [if_neg (Nat.lt_irrefl _)] at hck
      have hfk := hg9.out.frozen k
      clear HG hg9 hb hov hpk HRG
      rw [hev] at HNX ⊢
      clear hev
      go_wp2
      go_roundw
      case rel => exact ⟨k + 1, _, HLT.out, by go_num, HNX.out⟩
      case measure => have := HLT.out; simp [intOf]; omega
    · obtain rfl : k = 3 := by omega
      have hor := hg.out
      have hrs := hg.res
      have hbe := hg.mg.below
      have hq1 := hg.q1
      have hone : (sl3 3 V).all (·.oneCell') = true := sl3_one fun i hi => one_nums (hg.rows i hi)
      have HRW : Hid (TysAt (wr.setRow (w.heap.size + 1) (sl3 3 V)) V 3 P) := fun i hi => nums_grown (hg.rows i hi) (grown_row wr (w.heap.size + 1) (sl3 3 V)) (fun p hp e => by have := hg.far i hi p hp; cases e; omega)
      have HONE := (show Hid _ from hone)
      clear hg hlt hone
      go_wp2_with (first | refine wpList_load_row rfl 28 _ rfl (w.heap.size + 2) rfl 28 (sl3 3 V) (0, 0) _ hor Try.underlying28 rfl (by rw [sl3_size]; exact v_info_sl3) ?_ | refine wpList_store_row rfl 28 _ _ rfl (w.heap.size + 1) (sl3 3 V) rfl rfl 28 _ hrs (by rw [sl3_size]; exact v_info_sl3) (by simp only [sl3_size]) HONE.out ?_)
      exact bodyPost_ret (v := .tuple #[.agg (sl3 3 V), .int .i64 0]) (results_cell_tmp2 rfl _ _ (w.heap.size + 1) 28 _ (0, 0) _ _ rfl rfl (hrs.row _) Try.underlying28 rfl (by rw [sl3_size]; exact v_info_sl3)) rfl ⟨V, rfl, HRW.out, Below.setRow hbe _ (by omega) _⟩
/-- What the document's Types says. -/
theorem rtypes_any (vm : Value) (g : Gm) (w : World) (hm : MacAt w vm g) : Calls Try.prog 24 #[vm] w fun e w' => (gE g ≠ 0 ∧ e = .returned (.tuple #[.agg (sl3 0 fun _ => .slice none 0 0), .int .i64 (gE g)]) ∧ Below w.heap.size w w') ∨ (gE g = 0 ∧ ∃ V, e = .returned (.tuple #[.agg (sl3 3 V), .int .i64 0]) ∧ TysAt w' V 3 (chC (maOf g)) ∧ Below w.heap.size w w') := by
  have HC := fun W (hb : Below w.heap.size w W) => rchart_any vm g W (hm.below hb)
  obtain ⟨a, b, c, rfl, _⟩ := hm
  unfold chA at HC
  by_cases hg : gE g = 0
  · obtain ⟨hM, _⟩ := ok_maOf hg
    rw [if_pos hg, hg] at HC
    refine (rtypes_ok _ (chC_perm hM) a b c g.rf g.pl w HC).mono ?_
    rintro e w' h
    exact .inr ⟨hg, h⟩
  · rw [if_neg hg] at HC
    refine (rtypes_bad a b c g.rf g.pl _ (ints_size _ _) (ints_one _ _) _ (by simpa using hg) w HC).mono ?_
    rintro e w' h
    exact .inl ⟨hg, h⟩
end Go.Proofs.Ythfjkhmedpilnaa
