/-
  Contracts of chart.signalWrong and chart.linked.
-/
import Derived.Test.YtigamiehnjipcaaChCh
import Derived.Test.YtigamiehnjipcaaJn2
import Derived.Deep.QuietTactic
import Derived.BigQuiet
namespace Go.Proofs.Ytigamiehnjipcaa
open Go.RowKit PK Vg

/-- Texts behind a slice. -/
def StrsAt (W : World) (v : Value) (n : Nat) (T : Nat → ByteArray) : Prop := ∃ (a : Option Addr) (cap : Nat), v = .slice a n cap ∧ n ≤ maxLen ∧ ∀ i, i < n → ∃ b o, a = some ⟨b, o, none⟩ ∧ W.cell? ⟨b, o + i, none⟩ = some (.string (T i))
theorem StrsAt.below {w W : World} {v : Value} {n : Nat} {T : Nat → ByteArray} (h : StrsAt w v n T) (hb : Below w.heap.size w W) : StrsAt W v n T := by
  obtain ⟨a, cap, e, hm, h1⟩ := h
  refine ⟨a, cap, e, hm, fun i hi => ?_⟩
  obtain ⟨b, o, ha, hc⟩ := h1 i hi
  exact ⟨b, o, ha, (hb.cell (p := ⟨b, o + i, none⟩) (cell_block hc)).trans hc⟩
/-- What is wrong with a message. -/
def sgE (l : List UInt8) : Int := if ckE l ≠ 0 then ckE l else if l.length < 6 then 5 else 0
set_option maxRecDepth 100000 in
set_option maxHeartbeats 1000000 in
theorem sig_any (t : ByteArray) (w : World) : Calls Try.prog 39 #[.string t] w fun e w' => e = .returned (.int .i64 (sgE t.data.toList)) ∧ Below w.heap.size w w' := by
  have HT := (show Hid (∀ W, Calls Try.prog 36 #[.string t] W fun e w' => e = .returned (.agg #[.int .i64 (ckE t.data.toList), .int .i64 (ckAt t.data.toList)]) ∧ Below W.heap.size W w') from fun W => check_all t W)
  unfold sgE
  by_cases h1 : ckE t.data.toList = 0
  · rw [if_neg (fun h => h h1)]
    rw [h1] at HT
    generalize ckAt t.data.toList = A at *
    have hz : t.size = t.data.toList.length := Pl.size_len t
    by_cases h2 : t.data.toList.length < 6
    · rw [if_pos h2]
      have h3 : (t.size : Int) < 6 := by omega
      clear hz
      go_enter Try.func39, Try.ntmps39
      go_wp2_with fail
      refine (HT.out _).mono ?_
      rintro e W1 ⟨rfl, hb⟩
      have HB := (show Hid _ from hb.alloc hb.size (.cells #[.int .i64 0, .int .i64 A] 39))
      have c0 := (RowAt.new W1 39 #[.int .i64 0, .int .i64 A]).cell (i := 0) rfl
      clear hb HT
      go_wp2
      go_ret
      exact ⟨rfl, HB.out⟩
    · rw [if_neg h2]
      have h3 : ¬ (t.size : Int) < 6 := by omega
      clear hz
      go_enter Try.func39, Try.ntmps39
      go_wp2_with fail
      refine (HT.out _).mono ?_
      rintro e W1 ⟨rfl, hb⟩
      have HB := (show Hid _ from hb.alloc hb.size (.cells #[.int .i64 0, .int .i64 A] 39))
      have c0 := (RowAt.new W1 39 #[.int .i64 0, .int .i64 A]).cell (i := 0) rfl
      clear hb HT
      go_wp2
      go_ret
      exact ⟨rfl, HB.out⟩
  · rw [if_pos h1]
    have h2 : (ckE t.data.toList != 0) = true := by simpa using h1
    generalize ckAt t.data.toList = A at *
    generalize ckE t.data.toList = E at *
    go_enter Try.func39, Try.ntmps39
    go_wp2_with fail
    refine (HT.out _).mono ?_
    rintro e W1 ⟨rfl, hb⟩
    have HB := (show Hid _ from hb.alloc hb.size (.cells #[.int .i64 E, .int .i64 A] 39))
    have c0 := (RowAt.new W1 39 #[.int .i64 E, .int .i64 A]).cell (i := 0) rfl
    clear hb HT h1
    go_wp2
    go_ret
    exact ⟨rfl, HB.out⟩
/-- What is linked behind k pairs: where each letter goes to, and comes from, one more than its number. -/
def lk (A B : Nat → Nat) : Nat → (Nat → Int) × (Nat → Int)
  | 0 => (fun _ => 0, fun _ => 0)
  | k + 1 => if (lk A B k).1 (A k) = 0 ∧ (lk A B k).2 (B k) = 0 then (upd (lk A B k).1 (A k) ((B k : Nat) + 1), upd (lk A B k).2 (B k) ((A k : Nat) + 1)) else lk A B k
/-- Do the first k fit? -/
def lkOk (A B : Nat → Nat) (k : Nat) : Prop := ∀ i, i < k → (lk A B (i + 1)).1 (A i) = (B i : Nat) + 1
structure LkS (w W : World) (f g : Nat → Int) : Prop where
  res : RowAt W w.heap.size 25 (ints 26 fun _ => 0)
  tr : RowAt W (w.heap.size + 1) 24 (ints 26 f)
  fr : RowAt W (w.heap.size + 1 + 1) 24 (ints 26 g)
  below : Below w.heap.size w W
section
variable {w W W' : World} {f g : Nat → Int}
theorem LkS.drewN (h : LkS w W f g) (n : Nat) : LkS w (W.drewN n) f g := ⟨h.res, h.tr, h.fr, h.below.trans ⟨rfl, rfl, rfl, Nat.le_refl _, fun _ _ => rfl⟩⟩
theorem LkS.put (h : LkS w W f g) (i j : Nat) (x y : Int) : LkS w ((W.setCell ⟨w.heap.size + 1, i, none⟩ (.int .i64 x)).setCell ⟨w.heap.size + 1 + 1, j, none⟩ (.int .i64 y)) (upd f i x) (upd g j y) := by
  refine ⟨(h.res.setOther _ _ (by simp)).setOther _ _ (by simp; omega), ?_, ?_, (h.below.setCell (p := ⟨w.heap.size + 1, i, none⟩) (by simp) _).setCell (p := ⟨w.heap.size + 1 + 1, j, none⟩) (by simp; omega) _⟩
  · have := (h.tr.set i (.int .i64 x)).setOther ⟨w.heap.size + 1 + 1, j, none⟩ (.int .i64 y) (by simp)
    rw [ints_set] at this
    exact this
  · have := (h.fr.setOther ⟨w.heap.size + 1, i, none⟩ (.int .i64 x) (by simp)).set j (.int .i64 y)
    rw [ints_set] at this
    exact this
end
theorem lk_bd {A B : Nat → Nat} {n : Nat} (h : ∀ i, i < n → B i < 26) : ∀ k, k ≤ n → ∀ c, 0 ≤ (lk A B k).1 c ∧ (lk A B k).1 c ≤ 26
  | 0, _, _ => ⟨Int.le_refl _, by show (0 : Int) ≤ 26; decide⟩
  | k + 1, hk, c => by
    have ih := lk_bd (A := A) h k (by omega) c
    have hb := h k (by omega)
    show 0 ≤ (if (lk A B k).1 (A k) = 0 ∧ (lk A B k).2 (B k) = 0 then (upd (lk A B k).1 (A k) ((B k : Nat) + 1), upd (lk A B k).2 (B k) ((A k : Nat) + 1)) else lk A B k).1 c ∧ (if (lk A B k).1 (A k) = 0 ∧ (lk A B k).2 (B k) = 0 then (upd (lk A B k).1 (A k) ((B k : Nat) + 1), upd (lk A B k).2 (B k) ((A k : Nat) + 1)) else lk A B k).1 c ≤ 26
    by_cases e : (lk A B k).1 (A k) = 0 ∧ (lk A B k).2 (B k) = 0
    · rw [if_pos e]
      show 0 ≤ upd (lk A B k).1 (A k) ((B k : Nat) + 1) c ∧ upd (lk A B k).1 (A k) ((B k : Nat) + 1) c ≤ 26
      unfold upd
      by_cases e2 : c = A k
      · rw [if_pos e2]; omega
      · rw [if_neg e2]; exact ih
    · rw [if_neg e]; exact ih
theorem v_zero_26 : (Try.prog.info? 24).map (·.zero) = some (some (.agg (ints 26 fun _ => 0))) := by kernel_rfl
theorem v_info_26 : (Try.prog.info? 24).map (·.size) = some 26 := by kernel_rfl
theorem lks_new (w : World) : LkS w (((w.alloc (.cells (ints 26 fun _ => 0) 25)).alloc (.cells (ints 26 fun _ => 0) 24)).alloc (.cells (ints 26 fun _ => 0) 24)) (fun _ => 0) (fun _ => 0) := by
  have h1 := RowAt.new w 25 (ints 26 fun _ => 0)
  have h2 := RowAt.new (w.alloc (.cells (ints 26 fun _ => 0) 25)) 24 (ints 26 fun _ => 0)
  have h3 := RowAt.new ((w.alloc (.cells (ints 26 fun _ => 0) 25)).alloc (.cells (ints 26 fun _ => 0) 24)) 24 (ints 26 fun _ => 0)
  simp only [World.size_alloc] at h2 h3
  exact ⟨(h1.alloc _).alloc _, h2.alloc _, h3, (((Below.refl _ w).alloc (Nat.le_refl _) _).alloc (by simp) _).alloc (by simp; omega) _⟩
/-- What is held while the permutation is laid. -/
structure FkS (w W : World) (q : Nat) (F : Nat → Int) (c : Nat) : Prop where
  res : RowAt W w.heap.size 25 (ints 26 fun _ => 0)
  tr : RowAt W (w.heap.size + 1) 24 (ints 26 F)
  out : RowAt W q 25 (ints 26 fun i => if i < c then F i - 1 else 0)
  lt : w.heap.size + 1 < q
  below : Below w.heap.size w W
theorem FkS.put {w W : World} {q : Nat} {F : Nat → Int} {c : Nat} (h : FkS w W q F c) : FkS w (W.setCell ⟨q, c, none⟩ (.int .i64 (F c - 1))) q F (c + 1) := by
  have hl := h.lt
  refine ⟨h.res.setOther _ _ (by show w.heap.size ≠ q; omega), h.tr.setOther _ _ (by show w.heap.size + 1 ≠ q; omega), ?_, h.lt, h.below.setCell (p := ⟨q, c, none⟩) (by show w.heap.size ≤ q; omega) _⟩
  have := h.out.set c (.int .i64 (F c - 1))
  rw [ints_set] at this
  have e : ints 26 (upd (fun i => if i < c then F i - 1 else 0) c (F c - 1)) = ints 26 (fun i => if i < c + 1 then F i - 1 else 0) := ints_ext fun i _ => by
    unfold upd
    by_cases h1 : i = c
    · rw [if_pos h1, if_pos (by omega), h1]
    · rw [if_neg h1]
      show (if i < c then F i - 1 else 0) = if i < c + 1 then F i - 1 else 0
      by_cases h2 : i < c
      · rw [if_pos h2, if_pos (by omega)]
      · rw [if_neg h2, if_neg (by omega)]
  rw [e] at this
  exact this
/-- Two letters of a text, as numbers. -/
structure TwoL (t : ByteArray) (i j a b : Nat) : Prop where
  hi : i < t.size
  hj : j < t.size
  ea : (t[i].toNat : Int) = (a : Int) + 65
  eb : (t[j].toNat : Int) = (b : Int) + 65
  ha : a < 26
  hb : b < 26
set_option maxRecDepth 100000 in
set_option maxHeartbeats 4000000 in
theorem linked_loop (v : Value) (n : Nat) (T : Nat → ByteArray) (here there : Nat) (A B : Nat → Nat) (hAB : ∀ i, i < n → TwoL (T i) here there (A i) (B i)) (w : World) (hv : StrsAt w v n T) : Calls Try.prog 40 #[v, .int .i64 (here : Nat), .int .i64 (there : Nat)] w fun e w' => Below w.heap.size w w' ∧ ((¬ lkOk A B n ∧ e = .returned (.tuple #[.agg (ints 26 fun _ => 0), .int .i64 8])) ∨ (lkOk A B n ∧ (∃ c, c < 26 ∧ (lk A B n).1 c = 0) ∧ e = .returned (.tuple #[.agg (ints 26 fun _ => 0), .int .i64 6])) ∨ (lkOk A B n ∧ (∀ c, c < 26 → (lk A B n).1 c ≠ 0) ∧ e = .returned (.tuple #[.agg (ints 26 fun c => (lk A B n).1 c - 1), .int .i64 0]))) := by
  obtain ⟨av, cv, rfl, hmv, hcv⟩ := hv
  have HCV := (show Hid (∀ i, i < n → ∃ b o, av = some ⟨b, o, none⟩ ∧ w.cell? ⟨b, o + i, none⟩ = some (.string (T i))) from hcv)
  have HAB := (show Hid _ from hAB)
  unfold maxLen at hmv
  have hz26 := o_zero v_zero_26
  have hzp := o_zero v_zero_perm
  have hg0 := lks_new w
  clear hcv hAB
  go_enter Try.func40, Try.ntmps40
  go_upto_region 2 with fail
  generalize ((w.alloc (.cells (ints 26 fun _ => 0) 25)).alloc (.cells (ints 26 fun _ => 0) 24)).alloc (.cells (ints 26 fun _ => 0) 24) = W0 at *
  clear hz26 hzp
  go_wp2_with fail
  go_loopw [19] (fun i W => ∃ k : Nat, k ≤ n ∧ i = .int .i64 (k : Nat) ∧ lkOk A B k ∧ LkS w W (lk A B k).1 (lk A B k).2) (fun i _ => ((n : Int) - intOf i).toNat)
  case atStart => exact ⟨0, by omega, rfl, fun i hi => by omega, hg0⟩
  case round =>
    clear hg0
    obtain ⟨k, hk, rfl, hok, hg⟩ := hrel
    by_cases hlt : k < n
    · have HLT : Hid (k < n) := hlt
      have hlt2 : (k : Int) < (n : Int) := by omega
      obtain ⟨bs, os, rfl, hcs⟩ := HCV.out k hlt
      have hcs2 := (hg.below.cell (p := ⟨bs, os + k, none⟩) (cell_block hcs)).trans hcs
      obtain ⟨hi, hj, ea, eb, ha, hb⟩ := HAB.out k hlt
      have hsuc : lk A B (k + 1) = if (lk A B k).1 (A k) = 0 ∧ (lk A B k).2 (B k) = 0 then (upd (lk A B k).1 (A k) ((B k : Nat) + 1), upd (lk A B k).2 (B k) ((A k : Nat) + 1)) else lk A B k := rfl
      have HSUC := (show Hid _ from hsuc)
      have HOK := (show Hid (lkOk A B k) from hok)
      have HNOT : Hid ((lk A B (k + 1)).1 (A k) ≠ (B k : Nat) + 1 → ¬ lkOk A B n) := fun h h2 => h (h2 k HLT.out)
      have HYES : Hid ((lk A B (k + 1)).1 (A k) = (B k : Nat) + 1 → lkOk A B (k + 1)) := fun h i hi => by
        by_cases e : i = k
        · rw [e]; exact h
        · exact HOK.out i (by omega)
      obtain ⟨F, hF⟩ : ∃ F, F = (lk A B k).1 := ⟨_, rfl⟩
      obtain ⟨G, hG⟩ : ∃ G, G = (lk A B k).2 := ⟨_, rfl⟩
      rw [← hF, ← hG] at hg
      rw [← hF, ← hG] at HSUC
      have HF := (show Hid _ from hF)
      have HGG := (show Hid _ from hG)
      have HLK : Hid (lk A B k = (F, G)) := by rw [Hid, hF, hG]
      have hca := hg.tr.cell (ints_get F ha)
      have hcb := hg.fr.cell (ints_get G hb)
      have hfa := hg.tr.frozen (A k)
      have hfb := hg.fr.frozen (B k)
      have ha2 : ((A k : Nat) : Int) < 26 := by omega
      have hb2 : ((B k : Nat) : Int) < 26 := by omega
      have hi2 : (here : Int) < ((T k).size : Int) := by omega
      have hj2 : (there : Int) < ((T k).size : Int) := by omega
      have HG := (show Hid (LkS w wr F G) from hg)
      clear hsuc hok hF hG hcs hlt hg
      go_upto_region 5 with fail
      go_quiet (fail)
      have hgX := HG.out.drewN nq
      have gca := hgX.tr.cell (ints_get F ha)
      have gcb := hgX.fr.cell (ints_get G hb)
      have gfa := hgX.tr.frozen (A k)
      have gfb := hgX.fr.frozen (B k)
      generalize wr.drewN nq = X at *
      obtain ⟨x, hx⟩ : ∃ x, x = A k := ⟨_, rfl⟩
      obtain ⟨y, hy⟩ : ∃ y, y = B k := ⟨_, rfl⟩
      rw [← hx, ← hy] at HSUC HNOT HYES
      rw [← hx] at gca gfa ha2 ea ha ⊢
      rw [← hy] at gcb gfb hb2 eb hb ⊢
      have HGX := (show Hid (LkS w X F G) from hgX)
      clear hgX HG hca hcb hfa hfb hcs2 hi hj ea eb hi2 hj2 hx hy HCV HF HGG
      by_cases h1 : F x = 0
      · rw [h1] at gca
        by_cases h2 : G y = 0
        · rw [h2] at gcb
          have HN : Hid (LkS w ((X.setCell ⟨w.heap.size + 1, x, none⟩ (.int .i64 ((y : Nat) + 1))).setCell ⟨w.heap.size + 1 + 1, y, none⟩ (.int .i64 ((x : Nat) + 1))) (lk A B (k + 1)).1 (lk A B (k + 1)).2 ∧ lkOk A B (k + 1)) := by
            have e := HSUC.out
            rw [if_pos ⟨h1, h2⟩] at e
            refine ⟨?_, HYES.out ?_⟩
            · rw [e]; exact HGX.out.put x y _ _
            · rw [e]; show upd F x ((y : Nat) + 1) x = (y : Nat) + 1; simp
          have hyy : (((y : Nat) : Int) + 1 != ((y : Nat) : Int) + 1) = false := by simp
          clear h1 h2 HSUC HNOT HYES HGX
          go_wp2
          go_roundw
          case rel => exact ⟨k + 1, HLT.out, by go_num, HN.out.2, HN.out.1⟩
          case measure => have := HLT.out; simp [intOf]; omega
        · have h2b : (G y == 0) = false := by simpa using h2
          have HNO : Hid (¬ lkOk A B n) := HNOT.out (by
            rw [HSUC.out, if_neg (fun h => h2 h.2), HLK.out]
            show F x ≠ _
            rw [h1]
            omega)
          have hzy : ((0 : Int) != ((y : Nat) : Int) + 1) = true := by simp; omega
          clear h1 h2 HSUC HNOT HYES
          go_wp2_with (first | refine wpList_build0 rfl 25 rfl (ints 26 fun _ => 0) built_perm ?_ | refine wpList_store_row rfl 25 _ _ rfl w.heap.size (ints 26 fun _ => 0) rfl rfl 25 _ HGX.out.res (by rw [ints_size]; exact info_perm) (by simp only [ints_size]) (ints_one _ _) ?_)
          exact bodyPost_ret (v := .tuple #[.agg (ints 26 fun _ => 0), .int .i64 8]) (results_cell_tmp2 rfl _ _ w.heap.size 25 _ (0, 0) _ _ rfl rfl (HGX.out.res.row _) Try.underlying25 rfl (by rw [ints_size]; exact info_perm)) rfl ⟨Below.setRow HGX.out.below _ (Nat.le_refl _) _, .inl ⟨HNO.out, rfl⟩⟩
      · have h1b : (F x == 0) = false := by simpa using h1
        by_cases h3 : F x = (y : Nat) + 1
        · have HN : Hid (LkS w X (lk A B (k + 1)).1 (lk A B (k + 1)).2 ∧ lkOk A B (k + 1)) := by
            have e := HSUC.out
            rw [if_neg (fun h => h1 h.1), HLK.out] at e
            refine ⟨?_, HYES.out ?_⟩
            · rw [e]; exact HGX.out
            · rw [e]; exact h3
          have hyy : (F x != ((y : Nat) : Int) + 1) = false := by simpa using h3
          clear h1 h3 HSUC HNOT HYES HGX
          generalize F x = fx at *
          go_wp2
          go_roundw
          case rel => exact ⟨k + 1, HLT.out, by go_num, HN.out.2, HN.out.1⟩
          case measure => have := HLT.out; simp [intOf]; omega
        · have HNO : Hid (¬ lkOk A B n) := HNOT.out (by
            rw [HSUC.out, if_neg (fun h => h1 h.1), HLK.out]
            exact h3)
          have hyy : (F x != ((y : Nat) : Int) + 1) = true := by simpa using h3
          clear h1 h3 HSUC HNOT HYES
          generalize F x = fx at *
          go_wp2_with (first | refine wpList_build0 rfl 25 rfl (ints 26 fun _ => 0) built_perm ?_ | refine wpList_store_row rfl 25 _ _ rfl w.heap.size (ints 26 fun _ => 0) rfl rfl 25 _ HGX.out.res (by rw [ints_size]; exact info_perm) (by simp only [ints_size]) (ints_one _ _) ?_)
          exact bodyPost_ret (v := .tuple #[.agg (ints 26 fun _ => 0), .int .i64 8]) (results_cell_tmp2 rfl _ _ w.heap.size 25 _ (0, 0) _ _ rfl rfl (HGX.out.res.row _) Try.underlying25 rfl (by rw [ints_size]; exact info_perm)) rfl ⟨Below.setRow HGX.out.below _ (Nat.le_refl _) _, .inl ⟨HNO.out, rfl⟩⟩
    · obtain rfl : k = n := by omega
      have hnn : ¬ ((k : Nat) : Int) < ((k : Nat) : Int) := by omega
      have hbd := lk_bd (A := A) (fun i hi => (HAB.out i hi).hb) k (Nat.le_refl _)
      have HOK := (show Hid (lkOk A B k) from hok)
      obtain ⟨F, hF⟩ : ∃ F, F = (lk A B k).1 := ⟨_, rfl⟩
      rw [← hF] at hg hbd
      have HFE := (show Hid (F = (lk A B k).1) from hF)
      have HBD := (show Hid (∀ c, 0 ≤ F c ∧ F c ≤ 26) from hbd)
      have hzp := o_zero v_zero_perm
      have htr := hg.tr
      have HG := (show Hid _ from hg)
      have hlr := hg.fr.lt
      have hl0 := hg.res.lt
      clear hF hbd hok HAB HCV hlt
      go_upto_region 12 with fail
      have hg0 : FkS w (wr.alloc (.cells (ints 26 fun _ => 0) 25)) wr.heap.size F 0 := ⟨HG.out.res.alloc _, HG.out.tr.alloc _, by
        have e : ints 26 (fun i => if i < 0 then F i - 1 else 0) = ints 26 fun _ => 0 := ints_ext fun i _ => if_neg (by omega)
        rw [e]
        exact RowAt.new wr _ _, by omega, HG.out.below.alloc HG.out.below.size _⟩
      generalize wr.alloc (.cells (ints 26 fun _ => 0) 25) = V2 at *
      obtain ⟨q14, hq⟩ : ∃ x, x = wr.heap.size := ⟨_, rfl⟩
      rw [← hq] at hg0 ⊢
      clear hq hzp htr HG hlr hl0 hg
      have htr := hg0.tr
      go_wp2_with (first | refine wpList_load_row rfl 24 _ rfl (w.heap.size + 1) rfl 24 (ints 26 F) (0, 0) _ htr Try.underlying24 rfl (by rw [ints_size]; exact v_info_26) ?_)
      clear htr
      go_loopw [60] (fun i W => ∃ c : Nat, c ≤ 26 ∧ i = .int .i64 (c : Nat) ∧ (∀ j, j < c → F j ≠ 0) ∧ FkS w W q14 F c) (fun i _ => ((26 : Int) - intOf i).toNat)
      case atStart => exact ⟨0, by omega, rfl, fun j hj => by omega, hg0⟩
      case round =>
        clear hg0
        obtain ⟨c, hc, rfl, hnz, hg⟩ := hrel
        by_cases hlt : c < 26
        · have HLT : Hid (c < 26) := hlt
          have hlt2 : (c : Int) < 26 := by omega
          have hix := run_index_ints (P := Try.prog) 24 3 26 Try.underlying24 Try.underlying3 info_int F c hlt
          have hb1 := (HBD.out c).1
          have hb2 := (HBD.out c).2
          have HNZ := (show Hid (∀ j, j < c → F j ≠ 0) from hnz)
          have HGX := (show Hid _ from hg)
          by_cases h0 : F c = 0
          · have HEX : Hid (∃ c, c < 26 ∧ F c = 0) := ⟨c, hlt, h0⟩
            rw [h0] at hix
            clear hg hlt hnz h0 hb1 hb2
            go_wp2_with (first | refine wpList_build0 rfl 25 rfl (ints 26 fun _ => 0) built_perm ?_ | refine wpList_store_row rfl 25 _ _ rfl w.heap.size (ints 26 fun _ => 0) rfl rfl 25 _ HGX.out.res (by rw [ints_size]; exact info_perm) (by simp only [ints_size]) (ints_one _ _) ?_)
            exact bodyPost_ret (v := .tuple #[.agg (ints 26 fun _ => 0), .int .i64 6]) (results_cell_tmp2 rfl _ _ w.heap.size 25 _ (0, 0) _ _ rfl rfl (HGX.out.res.row _) Try.underlying25 rfl (by rw [ints_size]; exact info_perm)) rfl ⟨Below.setRow HGX.out.below _ (Nat.le_refl _) _, .inr (.inl ⟨HOK.out, by rw [← HFE.out]; exact HEX.out, rfl⟩)⟩
          · have h0b : (F c == 0) = false := by simpa using h0
            have HNX : Hid (FkS w (wr.setCell ⟨q14, c, none⟩ (.int .i64 (F c - 1))) q14 F (c + 1) ∧ ∀ j, j < c + 1 → F j ≠ 0) := ⟨hg.put, fun j hj => by
              by_cases e : j = c
              · rw [e]; exact h0
              · exact HNZ.out j (by omega)⟩
            have hco := hg.out.cell (ints_get (fun i => if i < c then F i - 1 else 0) hlt)
            have hfo := hg.out.frozen c
            clear hg hlt hnz h0 HGX HNZ
            generalize F c = fx at *
            go_wp2
            go_roundw
            case rel => exact ⟨c + 1, HLT.out, by go_num, HNX.out.2, HNX.out.1⟩
            case measure => have := HLT.out; simp [intOf]; omega
        · obtain rfl : c = 26 := by omega
          have hor := hg.out
          have e : ints 26 (fun i => if i < 26 then F i - 1 else 0) = ints 26 fun i => F i - 1 := ints_ext fun i hi => if_pos hi
          rw [e] at hor
          have hrs := hg.res
          have HBE := (show Hid (Below w.heap.size w wr) from hg.below)
          have HNZ := (show Hid (∀ j, j < 26 → F j ≠ 0) from hnz)
          clear hg hlt hnz e
          go_wp2_with (first | refine wpList_load_row rfl 25 _ rfl q14 rfl 25 (ints 26 fun i => F i - 1) (0, 0) _ hor Try.underlying25 rfl (by rw [ints_size]; exact info_perm) ?_ | refine wpList_store_row rfl 25 _ _ rfl w.heap.size (ints 26 fun i => F i - 1) rfl rfl 25 _ hrs (by rw [ints_size]; exact info_perm) (by simp only [ints_size]) (ints_one _ _) ?_)
          exact bodyPost_ret (v := .tuple #[.agg (ints 26 fun i => F i - 1), .int .i64 0]) (results_cell_tmp2 rfl _ _ w.heap.size 25 _ (0, 0) _ _ rfl rfl (hrs.row _) Try.underlying25 rfl (by rw [ints_size]; exact info_perm)) rfl ⟨Below.setRow HBE.out _ (Nat.le_refl _) _, .inr (.inr ⟨HOK.out, by rw [← HFE.out]; exact HNZ.out, by rw [← HFE.out]⟩)⟩
end Go.Proofs.Ytigamiehnjipcaa
