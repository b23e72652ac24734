/-
  Contract of the closure of the document's Find: the columns.
-/
import Derived.Test.YtlgjgppojdamiabWFind
import Derived.Test.YtlgjgppojdamiabHOrd
import Derived.Test.YtlgjgppojdamiabWWrite
import Derived.Maps.AppendAt
namespace Go.Proofs.Ytlgjgppojdamiab
open Go.RowKit PK

/-- What row r has of the first i letters. -/
def rowC (n : Nat) (t : List UInt8) (i r : Nat) : List Int := ((List.range i).filter fun j => j % n == r).map fun j => num (t.getD j 0)
theorem rowC_step (n : Nat) (t : List UInt8) (i r : Nat) : rowC n t (i + 1) r = if i % n = r then rowC n t i r ++ [num (t.getD i 0)] else rowC n t i r := by
  unfold rowC
  rw [List.range_succ, List.filter_append, List.map_append]
  by_cases h : i % n = r
  · simp [h]
  · simp [h]
theorem rowC_len (n : Nat) (t : List UInt8) (i r : Nat) : (rowC n t i r).length ≤ i := by
  unfold rowC
  rw [List.length_map]
  have := List.length_filter_le (fun j => j % n == r) (List.range i)
  simpa using this
theorem rowC_all (n : Nat) (h4 : n ≤ 4) (t : List UInt8) (r : Nat) (hr : r < n) : rowC n t (n * n) r = (List.range n).map (colF n t r) := by
  have key : ∀ n, n ≤ 4 → ∀ r, r < n → (List.range (n * n)).filter (fun j => j % n == r) = (List.range n).map fun x => n * x + r := by decide
  unfold rowC
  rw [key n h4 r hr, List.map_map]
  rfl
section
variable {P : Program} (w : World)
theorem wp_append_own_at2 {o : Oper} {a : Act} {K : Act → World → Prop} {Q : Exit → Act → World → Prop} (s x : Operand) (t : TypeId)
    (ho : o.op = .call { callee := .builtin .append, args := #[s, x], argTypes := #[t, t] })
    (base : Nat) (e : TypeId) (i : TypeInfo) (z : Value) (size bytes : Nat) (ht : P.underlying t = some (.slice e)) (hi : P.info? e = some i) (hz : i.zero = some z)
    (hsize : i.size = size) (hby : i.bytes = bytes) (hzs : z.cells.size = size) (hsz : 0 < size)
    (v : Value) (n : Nat) (xs : List Value) (hs : a.eval s = v) (hown : w.ownsRow base e size v n xs)
    (ad : Addr) (m c : Nat) (news : List Value) (hx : a.eval x = .slice (some ad) m c) (hl : news.length = m * size) (hnews : ∀ j u, news[j]? = some u → w.cell? (ad.add j) = some u) (h1 : ∀ u ∈ news, u.oneCell' = true)
    (h63 : n + m ≤ maxLen) (hbytes : (n + m) * bytes ≤ 140737488355328) (hbase : base ≤ w.heap.size)
    (h : ∀ v' w', w'.ownsRow base e size v' (n + m) (xs ++ news) → w.grownBy w' v.ownBlock → (v'.ownBlock = v.ownBlock ∨ v'.ownBlock = some w.heap.size) → K (a.put o.dst v') w') : o.wp P a w K Q := by
  obtain ⟨v', w', hr, h2, h3, _, h5⟩ := run_append_own_at (P := P) w base t o.type e i z size bytes ht hi hz hsize hby hzs hsz v n xs hown ad m c news hl hnews h1 h63 hbytes hbase
  unfold Oper.wp execOp
  simp only [ho, resolve, invoke, builtin, Sem.run_bind, Sem.run_pure, Result.andThen_ok, List.map_toArray, List.map_cons, List.map_nil, hs, hx, hr]
  exact h v' w' h2 h3 h5
end
/-- The rows while they are filled. -/
structure ColsAt (W : World) (B n i : Nat) (t : List UInt8) (R : Nat → Value) : Prop where
  row : ∀ r, r < n → OwnsI W B (R r) (rowC n t i r)
  apart : ∀ r r', r < n → r' < n → r ≠ r' → (R r).ownBlock = none ∨ (R r).ownBlock ≠ (R r').ownBlock
theorem ColsAt.step {W Y : World} {B n i r g0 : Nat} {t : List UInt8} {R : Nat → Value} {v' : Value} {c : Array Value} (h : ColsAt W B n i t R) (hr : i % n = r) (hrn : r < n) (hrow : RowAt W g0 27 c)
    (hv : OwnsI Y B v' (rowC n t i r ++ [num (t.getD i 0)])) (hg : W.grownBy Y (R r).ownBlock) (hblk : v'.ownBlock = (R r).ownBlock ∨ v'.ownBlock = some W.heap.size) (x : Value) : ColsAt (Y.setCell ⟨g0, r, none⟩ x) B n (i + 1) t (upd R r v') := by
  have hkeep : RowAt Y g0 27 c := row_kept hrow hg (fun e => own_type (h.row r hrn) hrow (by decide) g0 e rfl)
  refine ⟨fun q hq => ?_, fun q q' hq hq' hne => ?_⟩
  · rw [rowC_step]
    by_cases e : q = r
    · subst e
      rw [upd_same, if_pos hr]
      exact own_set hv _ _ (own_type hv hkeep (by decide))
    · rw [upd_other _ _ e, if_neg (by omega)]
      have h1 : OwnsI Y B (R q) (rowC n t i q) := World.ownsRow.kept (h.row q hq) hg (h.apart q r hq hrn e)
      exact own_set h1 _ _ (own_type h1 hkeep (by decide))
  · have fresh : ∀ z, z < n → (R z).ownBlock ≠ some W.heap.size := fun z hz e => by
      have := (World.ownsRow.lt (h.row z hz) _ e).2
      omega
    by_cases e : q = r
    · subst e
      rw [upd_same, upd_other _ _ (Ne.symm hne)]
      rcases hblk with hb | hb
      · rw [hb]; exact h.apart q q' hq hq' hne
      · rw [hb]; exact .inr (fun e2 => fresh q' hq' e2.symm)
    · rw [upd_other _ _ e]
      by_cases e' : q' = r
      · subst e'
        rw [upd_same]
        rcases hblk with hb | hb
        · rw [hb]; exact h.apart q q' hq hq' hne
        · rw [hb]; exact .inr (fresh q hq)
      · rw [upd_other _ _ e']
        exact h.apart q q' hq hq' hne
theorem ColsAt.drew {W : World} {B n i : Nat} {t : List UInt8} {R : Nat → Value} (h : ColsAt W B n i t R) : ColsAt W.drew B n i t R := ⟨h.row, h.apart⟩
theorem ColsAt.alloc {W : World} {B n i : Nat} {t : List UInt8} {R : Nat → Value} (h : ColsAt W B n i t R) (o : Obj) : ColsAt (W.alloc o) B n i t R := ⟨fun r hr => World.ownsRow.alloc (h.row r hr) o, h.apart⟩
set_option maxRecDepth 100000 in
set_option maxHeartbeats 4000000 in
theorem rcol_any (s : ByteArray) (hl : Pl.Lets s.data.toList) (hs : s.size ≤ 70000) (n : Nat) (h1 : 1 ≤ n) (h4 : n ≤ 4) (hn : n * n ≤ s.size) (bn : Nat) (w : World) (hbn : w.cell? ⟨bn, 0, none⟩ = some (.int .i64 (n : Nat))) :
    Calls Try.prog 60 #[.string s, .pointer (some ⟨bn, 0, none⟩)] w fun e w' => ∃ v, e = .returned v ∧ MatAt w' v n (fun _ => n) (colF n s.data.toList) ∧ Below w.heap.size w w' := by
  obtain ⟨i0, hi0, hz0, hz1, hz2⟩ := info_parts h_info_int
  have hmk1 := run_make_row' (P := Try.prog) 41 27 (.slice none 0 0) 24 Try.underlying41 h_info_ints rfl .i64 .i64 n (by omega) (by omega)
  rw [made_tab] at hmk1
  obtain ⟨p, hp⟩ : ∃ p, p = n * n := ⟨_, rfl⟩
  have hp16 : p ≤ 16 := by rw [hp]; exact Nat.mul_le_mul h4 h4
  have hpw : IntKind.i64.wrap (((n : Nat) : Int) * ((n : Nat) : Int)) = ((p : Nat) : Int) := by rw [← Int.natCast_mul, ← hp, IntKind.wrap_i64]; omega
  have HALL := (show Hid (∀ r, r < n → rowC n s.data.toList p r = (List.range n).map (colF n s.data.toList r)) from fun r hr => by rw [hp]; exact rowC_all n h4 _ r hr)
  rw [← hp] at hn
  clear hp
  have HL : Hid (Pl.Lets s.data.toList) := hl
  have hbl := cell_block hbn
  have HBN := (show Hid (w.cell? ⟨bn, 0, none⟩ = some (.int .i64 (n : Nat))) from hbn)
  clear hl
  go_enter Try.func60, Try.ntmps60
  go_wp2
  go_loopw [5] (fun i W => ∃ (i' : Nat) (R : Nat → Value), i' ≤ p ∧ i = .int .i64 i' ∧ RowAt W w.heap.size 27 (tab n R) ∧ Hid (ColsAt W (w.heap.size + 1) n i' s.data.toList R) ∧ Below w.heap.size w W) (fun i _ => ((p : Int) - intOf i).toNat)
  case atStart =>
    refine ⟨0, fun _ => .slice none 0 0, by omega, rfl, RowAt.new w 27 _, ⟨fun r hr => OwnsI.nil _ _, fun r r' _ _ _ => .inl rfl⟩, (Below.refl _ _).alloc (Nat.le_refl _) _⟩
  case round =>
    obtain ⟨i, R, hi, rfl, ro, HC, hb⟩ := hrel
    have hz := hb.size
    have hrl := ro.lt
    have cn := (hb.cell (p := ⟨bn, 0, none⟩) hbl).trans HBN.out
    by_cases hlt : i < p
    · obtain ⟨r, hr⟩ : ∃ r, i % n = r := ⟨_, rfl⟩
      have hrn : r < n := by rw [← hr]; exact Nat.mod_lt _ (by omega)
      have em : ((i : Nat) : Int) % ((n : Nat) : Int) = ((r : Nat) : Int) := by omega
      have HR : Hid (i % n = r) := hr
      clear hr
      have hne : (((n : Nat) : Int) == 0) = false := by simp; omega
      have cr := ro.cell (tab_get R hrn)
      have fr := ro.frozen r
      have his : i < s.size := by omega
      have hb2 : 65 ≤ (s[i]).toNat ∧ (s[i]).toNat ≤ 90 := by
        have h9 := num_bound HL.out i (by have := Pl.size_len s; omega)
        rw [getD_byte s i his] at h9
        exact h9.2
      have HX : Hid (num (s.data.toList.getD i 0) = (((s[i]).toNat : Nat) : Int) - 65) := by rw [Hid, getD_byte s i his]; rfl
      obtain ⟨bt, hbt⟩ : ∃ bt, bt = (s[i]).toNat := ⟨_, rfl⟩
      rw [← hbt] at hb2 HX
      have hwu : IntKind.u8.wrap (((bt : Nat) : Int) - 65) = ((bt : Nat) : Int) - 65 := by rw [IntKind.wrap_u8]; omega
      have hwi : IntKind.i64.wrap (((bt : Nat) : Int) - 65) = ((bt : Nat) : Int) - 65 := by rw [IntKind.wrap_i64]; omega
      have hbt2 : (s[i]).toNat = bt := hbt.symm
      clear hbt
      have hri : ((r : Nat) : Int) < ((n : Nat) : Int) := by omega
      go_wp2
      refine wp_region_noPanic ?_
      refine wp_region_held_drew (S := fun W => W.cell? ⟨bn, 0, none⟩ = some (.int .i64 (n : Nat))) (by kernel_rfl) cn (fun hS => ?_)
      refine htake 0 15 (.slice (some ⟨w.heap.size, 0, none⟩) n n) rfl rfl (by kernel_rfl) (by kernel_rfl) (by kernel_rfl) (fun _ _ _ _ h => h) (by rfl) (fun W hW => by clear hS; go_simp) hS ?_
      simp only [List.setIfInBounds_toArray, List.set_cons_succ, List.set_cons_zero]
      refine htake 1 16 (.int .i64 (i : Nat)) rfl rfl (by kernel_rfl) (by kernel_rfl) (by kernel_rfl) (fun _ _ _ _ h => h) (by rfl) (fun W hW => by clear hS; go_simp) hS ?_
      simp only [List.setIfInBounds_toArray, List.set_cons_succ, List.set_cons_zero]
      refine htake 2 17 (.int .i64 (n : Nat)) rfl rfl (by kernel_rfl) (by kernel_rfl) (by kernel_rfl) (fun _ _ _ _ h => h) (by rfl) (fun W hW => by clear hS; go_simp) hS ?_
      simp only [List.setIfInBounds_toArray, List.set_cons_succ, List.set_cons_zero]
      refine htake 3 18 (.int .i64 (r : Nat)) rfl rfl (by kernel_rfl) (by kernel_rfl) (by kernel_rfl) (fun _ _ _ _ h => h) (by rfl) (fun W hW => by clear hS; go_simp; rw [if_neg (by omega), Int.tmod_eq_emod_of_nonneg (by omega), em]) hS ?_
      simp only [List.setIfInBounds_toArray, List.set_cons_succ, List.set_cons_zero]
      refine htake 4 19 (.slice (some ⟨w.heap.size, 0, none⟩) n n) rfl rfl (by kernel_rfl) (by kernel_rfl) (by kernel_rfl) (fun _ _ _ _ h => h) (by rfl) (fun W hW => by clear hS; go_simp) hS ?_
      simp only [List.setIfInBounds_toArray, List.set_cons_succ, List.set_cons_zero]
      refine htake 5 20 (.int .i64 (i : Nat)) rfl rfl (by kernel_rfl) (by kernel_rfl) (by kernel_rfl) (fun _ _ _ _ h => h) (by rfl) (fun W hW => by clear hS; go_simp) hS ?_
      simp only [List.setIfInBounds_toArray, List.set_cons_succ, List.set_cons_zero]
      refine htake 6 21 (.int .i64 (n : Nat)) rfl rfl (by kernel_rfl) (by kernel_rfl) (by kernel_rfl) (fun _ _ _ _ h => h) (by rfl) (fun W hW => by clear hS; go_simp) hS ?_
      simp only [List.setIfInBounds_toArray, List.set_cons_succ, List.set_cons_zero]
      refine htake 7 22 (.int .i64 (r : Nat)) rfl rfl (by kernel_rfl) (by kernel_rfl) (by kernel_rfl) (fun _ _ _ _ h => h) (by rfl) (fun W hW => by clear hS; go_simp; rw [if_neg (by omega), Int.tmod_eq_emod_of_nonneg (by omega), em]) hS ?_
      simp only [List.setIfInBounds_toArray, List.set_cons_succ, List.set_cons_zero]
      refine htake 8 23 (.pointer (some ⟨w.heap.size, r, none⟩)) rfl rfl (by kernel_rfl) (by kernel_rfl) (by kernel_rfl) (fun _ _ _ _ h => h) (by rfl) (fun W hW => by clear hS; go_simp) hS ?_
      simp only [List.setIfInBounds_toArray, List.set_cons_succ, List.set_cons_zero]
      refine htake 10 25 (.string s) rfl rfl (by kernel_rfl) (by kernel_rfl) (by kernel_rfl) (fun _ _ _ _ h => h) (by rfl) (fun W hW => by clear hS; go_simp) hS ?_
      simp only [List.setIfInBounds_toArray, List.set_cons_succ, List.set_cons_zero]
      refine htake 11 26 (.int .i64 (i : Nat)) rfl rfl (by kernel_rfl) (by kernel_rfl) (by kernel_rfl) (fun _ _ _ _ h => h) (by rfl) (fun W hW => by clear hS; go_simp) hS ?_
      simp only [List.setIfInBounds_toArray, List.set_cons_succ, List.set_cons_zero]
      refine htake 12 27 (.int .u8 (bt : Nat)) rfl rfl (by kernel_rfl) (by kernel_rfl) (by kernel_rfl) (fun _ _ _ _ h => h) (by rfl) (fun W hW => by clear hS; go_simp) hS ?_
      simp only [List.setIfInBounds_toArray, List.set_cons_succ, List.set_cons_zero]
      refine htake 13 28 (.int .u8 ((bt : Nat) - 65)) rfl rfl (by kernel_rfl) (by kernel_rfl) (by kernel_rfl) (fun _ _ _ _ h => h) (by rfl) (fun W hW => by clear hS; go_simp) hS ?_
      simp only [List.setIfInBounds_toArray, List.set_cons_succ, List.set_cons_zero]
      refine htake 14 29 (.int .i64 ((bt : Nat) - 65)) rfl rfl (by kernel_rfl) (by kernel_rfl) (by kernel_rfl) (fun _ _ _ _ h => h) (by rfl) (fun W hW => by clear hS; go_simp) hS ?_
      simp only [List.setIfInBounds_toArray, List.set_cons_succ, List.set_cons_zero]
      refine wpAnyH_ready (rs := [9, 15]) (by kernel_rfl) (by simp) ?_
      refine AllReadyH.cons (o := _) rfl (fun K hK => ?_) (AllReadyH.cons (o := _) rfl (fun K hK => ?_) AllReadyH.nil)
      · rw [if_pos (by rfl)]
        go_simp
        refine hK.out _ _ cn (fun _ => ?_)
        clear hK
        refine wpAnyH_ready (rs := [15]) (by kernel_rfl) (by simp) ?_
        refine AllReadyH.cons (o := _) rfl (fun K hK => ?_) AllReadyH.nil
        rw [if_pos (by rfl)]
        go_simp
        have r30 := RowAt.new wr 3 #[.int .i64 (((bt : Nat) : Int) - 65)]
        have roX := ro.alloc (.cells #[.int .i64 (((bt : Nat) : Int) - 65)] 3)
        have HCX := (show Hid (ColsAt (wr.alloc (.cells #[.int .i64 (((bt : Nat) : Int) - 65)] 3)) (w.heap.size + 1) n i s.data.toList R) from HC.out.alloc _)
        have hbX := hb.alloc hz (.cells #[.int .i64 (((bt : Nat) : Int) - 65)] 3)
        have hzX : w.heap.size ≤ (wr.alloc (.cells #[.int .i64 (((bt : Nat) : Int) - 65)] 3)).heap.size := hbX.size
        have cnX : (wr.alloc (.cells #[.int .i64 (((bt : Nat) : Int) - 65)] 3)).cell? ⟨bn, 0, none⟩ = some (.int .i64 (n : Nat)) := (hbX.cell (p := ⟨bn, 0, none⟩) hbl).trans HBN.out
        have crX := roX.cell (tab_get R hrn)
        have hrX := roX.lt
        obtain ⟨g30, hg30⟩ : ∃ g, g = wr.heap.size := ⟨_, rfl⟩
        rw [← hg30] at r30 ⊢
        clear hg30
        replace r30 : RowAt (wr.alloc (.cells #[.int .i64 (((bt : Nat) : Int) - 65)] 3)).drew g30 3 #[.int .i64 (((bt : Nat) : Int) - 65)] := r30
        replace roX : RowAt (wr.alloc (.cells #[.int .i64 (((bt : Nat) : Int) - 65)] 3)).drew w.heap.size 27 (tab n R) := roX
        replace HCX : Hid (ColsAt (wr.alloc (.cells #[.int .i64 (((bt : Nat) : Int) - 65)] 3)).drew (w.heap.size + 1) n i s.data.toList R) := HCX.out.drew
        replace hbX := hbX.drew
        replace hzX : w.heap.size ≤ (wr.alloc (.cells #[.int .i64 (((bt : Nat) : Int) - 65)] 3)).drew.heap.size := hzX
        replace cnX : (wr.alloc (.cells #[.int .i64 (((bt : Nat) : Int) - 65)] 3)).drew.cell? ⟨bn, 0, none⟩ = some (.int .i64 (n : Nat)) := cnX
        replace crX : (wr.alloc (.cells #[.int .i64 (((bt : Nat) : Int) - 65)] 3)).drew.cell? ⟨w.heap.size, r, none⟩ = some (R r) := crX
        replace hrX : w.heap.size < (wr.alloc (.cells #[.int .i64 (((bt : Nat) : Int) - 65)] 3)).drew.heap.size := hrX
        refine hK.out _ _ cnX (fun _ => ?_)
        clear hK
        generalize (wr.alloc (.cells #[.int .i64 (((bt : Nat) : Int) - 65)] 3)).drew = X at *
        have hI := HCX.out.row r hrn
        have hle := rowC_len n s.data.toList i r
        refine wpAnyH_ready (rs := [16]) (by kernel_rfl) (by simp) ?_
        refine AllReadyH.cons (o := _) rfl (fun K hK => ?_) AllReadyH.nil
        rw [if_pos (by rfl)]
        refine wp_append_own_at2 X _ _ 27 rfl (w.heap.size + 1) 3 i0 (.int .i64 0) 1 8 Try.underlying27 hi0 hz0 hz1 hz2 rfl (by decide) (R r) _ _ rfl hI ⟨g30, 0, none⟩ 1 1 [.int .i64 (((bt : Nat) : Int) - 65)] rfl rfl (cell_row1 r30) (fun u hu => by simp at hu; subst hu; rfl) (by unfold maxLen; omega) (by omega) (by omega) ?_
        intro v' Y hv' hgr hblk
        have hv2 : OwnsI Y (w.heap.size + 1) v' (rowC n s.data.toList i r ++ [num (s.data.toList.getD i 0)]) := by
          rw [HX.out]
          unfold OwnsI
          rw [inums_append, List.length_append]
          exact hv'
        obtain ⟨gv, cv, rfl⟩ := own_some hv2 (fun e => by
          have h9 := sliceLen_own hv2
          rw [e] at h9
          simp [sliceLen] at h9)
        generalize (rowC n s.data.toList i r ++ [num (s.data.toList.getD i 0)]).length = lv at *
        have hroY := row_kept roX hgr (fun e => own_type hI roX (by decide) w.heap.size e rfl)
        have hbY := hbX.grown hgr hzX (fun q hq => by have := (World.ownsRow.lt hI q hq).1; omega)
        have hcY := ColsAt.step HCX.out HR.out hrn roX hv2 hgr hblk (.slice (some ⟨gv, 0, none⟩) lv cv)
        have cnY : Y.cell? ⟨bn, 0, none⟩ = some (.int .i64 (n : Nat)) := (hbY.cell (p := ⟨bn, 0, none⟩) hbl).trans HBN.out
        have crY := hroY.cell (tab_get R hrn)
        have frY := hroY.frozen r
        refine hK.out _ _ cnY (fun hS => ?_)
        clear hK
        simp only [Act.put]
        refine htake 17 32 (.pointer (some ⟨w.heap.size, r, none⟩)) rfl rfl (by kernel_rfl) (by kernel_rfl) (by kernel_rfl) (fun _ _ _ _ h => h) (by rfl) (fun W hW => by clear hS; go_simp) hS ?_
        refine wpAnyH_ready (rs := [18]) (by kernel_rfl) (by simp) ?_
        refine AllReadyH.cons (o := _) rfl (fun K hK => ?_) AllReadyH.nil
        rw [if_pos (by rfl)]
        go_simp
        have hcS : (Y.setCell ⟨w.heap.size, r, none⟩ (.slice (some ⟨gv, 0, none⟩) lv cv)).cell? ⟨bn, 0, none⟩ = some (.int .i64 (n : Nat)) := (World.cell?_setCell_far Y ⟨w.heap.size, r, none⟩ ⟨bn, 0, none⟩ (.slice (some ⟨gv, 0, none⟩) lv cv) (by simp; omega)).trans cnY
        refine hK.out _ _ hcS (fun _ => ?_)
        clear hK
        refine wpAnyH_done (by kernel_rfl) ?_ _
        refine NoPanic.normal ?_
        have HCY := (show Hid (ColsAt (Y.setCell ⟨w.heap.size, r, none⟩ (.slice (some ⟨gv, 0, none⟩) lv cv)) (w.heap.size + 1) n (i + 1) s.data.toList (upd R r (.slice (some ⟨gv, 0, none⟩) lv cv))) from hcY)
        clear hcY hv' hv2 hI hgr hblk
        go_wp2
        go_roundw
        case rel =>
          refine ⟨i + 1, upd R r (.slice (some ⟨gv, 0, none⟩) lv cv), by omega, by go_num, ?_, HCY, hbY.setCell (by simp) _⟩
          have := hroY.set r (.slice (some ⟨gv, 0, none⟩) lv cv)
          rw [tab_set] at this
          exact this
        case measure => simp [intOf]; omega
      · rw [if_pos (by rfl)]
        go_simp
        have r30 := RowAt.new wr 3 #[.int .i64 (((bt : Nat) : Int) - 65)]
        have roX := ro.alloc (.cells #[.int .i64 (((bt : Nat) : Int) - 65)] 3)
        have HCX := (show Hid (ColsAt (wr.alloc (.cells #[.int .i64 (((bt : Nat) : Int) - 65)] 3)) (w.heap.size + 1) n i s.data.toList R) from HC.out.alloc _)
        have hbX := hb.alloc hz (.cells #[.int .i64 (((bt : Nat) : Int) - 65)] 3)
        have hzX : w.heap.size ≤ (wr.alloc (.cells #[.int .i64 (((bt : Nat) : Int) - 65)] 3)).heap.size := hbX.size
        have cnX : (wr.alloc (.cells #[.int .i64 (((bt : Nat) : Int) - 65)] 3)).cell? ⟨bn, 0, none⟩ = some (.int .i64 (n : Nat)) := (hbX.cell (p := ⟨bn, 0, none⟩) hbl).trans HBN.out
        have crX := roX.cell (tab_get R hrn)
        have hrX := roX.lt
        obtain ⟨g30, hg30⟩ : ∃ g, g = wr.heap.size := ⟨_, rfl⟩
        rw [← hg30] at r30 ⊢
        clear hg30
        replace r30 : RowAt (wr.alloc (.cells #[.int .i64 (((bt : Nat) : Int) - 65)] 3)).drew g30 3 #[.int .i64 (((bt : Nat) : Int) - 65)] := r30
        replace roX : RowAt (wr.alloc (.cells #[.int .i64 (((bt : Nat) : Int) - 65)] 3)).drew w.heap.size 27 (tab n R) := roX
        replace HCX : Hid (ColsAt (wr.alloc (.cells #[.int .i64 (((bt : Nat) : Int) - 65)] 3)).drew (w.heap.size + 1) n i s.data.toList R) := HCX.out.drew
        replace hbX := hbX.drew
        replace hzX : w.heap.size ≤ (wr.alloc (.cells #[.int .i64 (((bt : Nat) : Int) - 65)] 3)).drew.heap.size := hzX
        replace cnX : (wr.alloc (.cells #[.int .i64 (((bt : Nat) : Int) - 65)] 3)).drew.cell? ⟨bn, 0, none⟩ = some (.int .i64 (n : Nat)) := cnX
        replace crX : (wr.alloc (.cells #[.int .i64 (((bt : Nat) : Int) - 65)] 3)).drew.cell? ⟨w.heap.size, r, none⟩ = some (R r) := crX
        replace hrX : w.heap.size < (wr.alloc (.cells #[.int .i64 (((bt : Nat) : Int) - 65)] 3)).drew.heap.size := hrX
        refine hK.out _ _ cnX (fun _ => ?_)
        clear hK
        generalize (wr.alloc (.cells #[.int .i64 (((bt : Nat) : Int) - 65)] 3)).drew = X at *
        refine wpAnyH_ready (rs := [9]) (by kernel_rfl) (by simp) ?_
        refine AllReadyH.cons (o := _) rfl (fun K hK => ?_) AllReadyH.nil
        rw [if_pos (by rfl)]
        go_simp
        refine hK.out _ _ cnX (fun _ => ?_)
        clear hK
        have hI := HCX.out.row r hrn
        have hle := rowC_len n s.data.toList i r
        refine wpAnyH_ready (rs := [16]) (by kernel_rfl) (by simp) ?_
        refine AllReadyH.cons (o := _) rfl (fun K hK => ?_) AllReadyH.nil
        rw [if_pos (by rfl)]
        refine wp_append_own_at2 X _ _ 27 rfl (w.heap.size + 1) 3 i0 (.int .i64 0) 1 8 Try.underlying27 hi0 hz0 hz1 hz2 rfl (by decide) (R r) _ _ rfl hI ⟨g30, 0, none⟩ 1 1 [.int .i64 (((bt : Nat) : Int) - 65)] rfl rfl (cell_row1 r30) (fun u hu => by simp at hu; subst hu; rfl) (by unfold maxLen; omega) (by omega) (by omega) ?_
        intro v' Y hv' hgr hblk
        have hv2 : OwnsI Y (w.heap.size + 1) v' (rowC n s.data.toList i r ++ [num (s.data.toList.getD i 0)]) := by
          rw [HX.out]
          unfold OwnsI
          rw [inums_append, List.length_append]
          exact hv'
        obtain ⟨gv, cv, rfl⟩ := own_some hv2 (fun e => by
          have h9 := sliceLen_own hv2
          rw [e] at h9
          simp [sliceLen] at h9)
        generalize (rowC n s.data.toList i r ++ [num (s.data.toList.getD i 0)]).length = lv at *
        have hroY := row_kept roX hgr (fun e => own_type hI roX (by decide) w.heap.size e rfl)
        have hbY := hbX.grown hgr hzX (fun q hq => by have := (World.ownsRow.lt hI q hq).1; omega)
        have hcY := ColsAt.step HCX.out HR.out hrn roX hv2 hgr hblk (.slice (some ⟨gv, 0, none⟩) lv cv)
        have cnY : Y.cell? ⟨bn, 0, none⟩ = some (.int .i64 (n : Nat)) := (hbY.cell (p := ⟨bn, 0, none⟩) hbl).trans HBN.out
        have crY := hroY.cell (tab_get R hrn)
        have frY := hroY.frozen r
        refine hK.out _ _ cnY (fun hS => ?_)
        clear hK
        simp only [Act.put]
        refine htake 17 32 (.pointer (some ⟨w.heap.size, r, none⟩)) rfl rfl (by kernel_rfl) (by kernel_rfl) (by kernel_rfl) (fun _ _ _ _ h => h) (by rfl) (fun W hW => by clear hS; go_simp) hS ?_
        refine wpAnyH_ready (rs := [18]) (by kernel_rfl) (by simp) ?_
        refine AllReadyH.cons (o := _) rfl (fun K hK => ?_) AllReadyH.nil
        rw [if_pos (by rfl)]
        go_simp
        have hcS : (Y.setCell ⟨w.heap.size, r, none⟩ (.slice (some ⟨gv, 0, none⟩) lv cv)).cell? ⟨bn, 0, none⟩ = some (.int .i64 (n : Nat)) := (World.cell?_setCell_far Y ⟨w.heap.size, r, none⟩ ⟨bn, 0, none⟩ (.slice (some ⟨gv, 0, none⟩) lv cv) (by simp; omega)).trans cnY
        refine hK.out _ _ hcS (fun _ => ?_)
        clear hK
        refine wpAnyH_done (by kernel_rfl) ?_ _
        refine NoPanic.normal ?_
        have HCY := (show Hid (ColsAt (Y.setCell ⟨w.heap.size, r, none⟩ (.slice (some ⟨gv, 0, none⟩) lv cv)) (w.heap.size + 1) n (i + 1) s.data.toList (upd R r (.slice (some ⟨gv, 0, none⟩) lv cv))) from hcY)
        clear hcY hv' hv2 hI hgr hblk
        go_wp2
        go_roundw
        case rel =>
          refine ⟨i + 1, upd R r (.slice (some ⟨gv, 0, none⟩) lv cv), by omega, by go_num, ?_, HCY, hbY.setCell (by simp) _⟩
          have := hroY.set r (.slice (some ⟨gv, 0, none⟩) lv cv)
          rw [tab_set] at this
          exact this
        case measure => simp [intOf]; omega
    · have HIN : Hid (i = p) := by rw [Hid]; omega
      go_wp2
      go_ret
      refine ⟨_, rfl, ?_, hb⟩
      have hC := HC.out
      rw [HIN.out] at hC
      have hm : MatAt wr (.slice (some ⟨w.heap.size, 0, none⟩) n n) n (fun _ => n) (colF n s.data.toList) := MatAt.of_rows ro (by unfold maxLen; omega) fun r hr => by
        have h5 := (hC.row r hr).nums
        rw [HALL.out r hr] at h5
        have e5 : ((List.range n).map (colF n s.data.toList r)).length = n := by simp
        rw [e5] at h5
        exact h5.congr fun c hc => by simp [List.getD, hc]
      exact hm
end Go.Proofs.Ytlgjgppojdamiab
