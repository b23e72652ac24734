/-
  Contract of the document's Pairs.
-/
import Derived.Test.YtmabamlhhmjbaadZPair
import Derived.Deep.QuietTactic
import Derived.BigQuiet
import Derived.BigRegion
namespace Go.Proofs.Ytmabamlhhmjbaad
open Go.RowKit PK Vg Zq

theorem wp_append_string {P : Program} (w : World) {o : Oper} {a : Act} {K : Act → World → Prop} {Q : Exit → Act → World → Prop} (sl x : Operand) (t u : TypeId) (ho : o.op = .call { callee := .builtin .append, args := #[sl, x], argTypes := #[t, u] })
    (base : Nat) (e : TypeId) (i : TypeInfo) (ht : P.underlying t = some (.slice e)) (hu : P.underlying u = some .string) (hi : P.info? e = some i) (hz : i.zero = some (.int .u8 0)) (hsize : i.size = 1) (hby : i.bytes = 1)
    (v : Value) (n : Nat) (xs : List Value) (hs : a.eval sl = v) (hown : w.ownsRow base e 1 v n xs) (s : ByteArray) (hx : a.eval x = .string s) (h63 : n + s.size ≤ maxLen) (hbytes : n + s.size ≤ 140737488355328) (hbase : base ≤ w.heap.size)
    (h : ∀ v' w', w'.ownsRow base e 1 v' (n + s.size) (xs ++ Lib.strCells s) → w.grownBy w' v.ownBlock → K (a.put o.dst v') w') : o.wp P a w K Q := by
  obtain ⟨v', w', hr, h2, h3, _⟩ := Lib.run_append_own_string (P := P) w base t u o.type e i ht hu hi hz hsize hby v n xs hown s h63 hbytes hbase
  unfold Oper.wp execOp
  simp only [ho, resolve, invoke, builtin, Sem.run_bind, Sem.run_pure, Result.andThen_ok, List.map_toArray, List.map_cons, List.map_nil, hs, hx, hr]
  exact h v' w' h2 h3
theorem cells_str (l m : List UInt8) : Lib.byteCells l ++ Lib.strCells ⟨m.toArray⟩ = Lib.byteCells (l ++ m) := by simp [Lib.byteCells, Lib.strCells]
theorem own_form' {w : World} {B : Nat} {e : TypeId} {v : Value} {l : List UInt8} {n : Nat} (h : Kit.Owns w B e v l) (hn : l.length = n) (h0 : 0 < n) : ∃ g cap, v = .slice (some ⟨g, 0, none⟩) n cap ∧ n ≤ cap ∧ ∀ j, j < n → w.cell? ⟨g, j, none⟩ = some (.int .u8 (l.getD j 0).toNat) := by
  obtain ⟨g, cap, e1, hc⟩ := own_form h hn h0
  rcases h.2 with ⟨e2, _⟩ | ⟨g2, cap2, cur, e2, _, _, h5, _⟩
  · rw [e1] at e2; cases e2
  · rw [e1] at e2
    cases e2
    exact ⟨g, cap, e1, by omega, hc⟩
theorem cell_grown {w w' : World} {row : Option Nat} (hg : w.grownBy w' row) {a : Addr} {v : Value} (h : w.cell? a = some v) (hne : some a.block ≠ row) : w'.cell? a = some v := (World.cell?_of_block (hg.block _ (cell_block h) hne)).trans h
theorem below_draws' {B : Nat} {a w : World} (h : Below B a w) (n : Nat) : Below B a (w.drewN n) := h.trans ⟨rfl, rfl, rfl, Nat.le_refl _, fun _ _ => rfl⟩
def tlen : Value → Nat
  | .slice _ n _ => n
  | _ => 0
theorem v_size_byte : (Try.prog.info? 5).map (·.size) = some 1 := by kernel_rfl
theorem run_slice_from (g k len c d : Nat) (hd : d ≤ len) (w : World) : (Instr.slice 43 (.slice (some ⟨g, k, none⟩) len c) (some (.int .i64 (d : Int))) none none).run Try.prog w = .ok (.slice (if c = d then some ⟨g, k, none⟩ else some ⟨g, k + d, none⟩) (len - d) (c - d)) w := by
  have hs : (sizeOf 5).run Try.prog w = .ok 1 w := by
    obtain ⟨i, hi, hz⟩ := Option.map_eq_some_iff.1 v_size_byte
    simp [sizeOf, typeInfo, hi, hz]
  have hd2 : (0 : Int) ≤ (d : Int) ∧ (d : Int) ≤ (len : Int) := by omega
  have ha : ((⟨g, k, none⟩ : Addr).add d) = ⟨g, k + d, none⟩ := by unfold Addr.add; by_cases e0 : d = 0 <;> simp [e0]
  simp [Instr.slice, Instr.sliceBounds, Instr.sliceBound, asIntOf, run_underlying Try.underlying43, hs, hd2, hd, ha]
theorem map_take_succ (t : List UInt8) {k : Nat} (hk : k < t.length) : (t.take (k + 1)).map jI = (t.take k).map jI ++ [jI (t.getD k 0)] := by
  rw [List.take_succ_eq_append_getElem hk, List.map_append, getD_some hk]; rfl
set_option maxRecDepth 100000 in
set_option maxHeartbeats 4000000 in
theorem rpr_bad (t : ByteArray) (E A : Int) (hE : (E != 0) = true) (HT : Hid (∀ W, Calls Try.prog 29 #[.string t] W fun e w' => e = .returned (.agg #[.int .i64 E, .int .i64 A]) ∧ Below W.heap.size W w')) (w : World) : Calls Try.prog 21 #[.string t] w fun e w' => e = .returned (.tuple #[.string ⟨#[]⟩, .agg #[.int .i64 E, .int .i64 A]]) ∧ Below w.heap.size w w' := by
  go_enter Try.func21, Try.ntmps21
  go_wp2_with fail
  refine (HT.out _).mono ?_
  rintro e W1 ⟨rfl, hb⟩
  have hb1 : Below (w.heap.size + 1) (w.alloc (.cells #[.int .i64 0, .int .i64 0] 25)) W1 := by simpa using hb
  have hz := hb1.size
  simp at hz
  have hb2 := hb1.alloc (by omega) (.cells #[.int .i64 E, .int .i64 A] 25)
  clear hb
  obtain ⟨c0, c1, f0, f1, hsz⟩ := Kit.two_cells hb2
  clear HT hb1
  go_wp2_with fail
  go_region
  all_goals (try go_wp2)
  have q := Kit.read_two (.int .i64 E) (.int .i64 A) c0 c1
  refine bodyPost_ret (v := .tuple #[.string ⟨#[]⟩, .agg #[.int .i64 E, .int .i64 A]]) (by simp [results, Try.results21, go_sem, q.1, q.2]) rfl ⟨rfl, ?_⟩
  exact (Kit.below_two hb2 _ _).drew
set_option maxRecDepth 100000 in
set_option maxHeartbeats 4000000 in
theorem rpr_ok (t : ByteArray) (hs : t.size ≤ 65536) (HT : Hid (∀ W, Calls Try.prog 29 #[.string t] W fun e w' => e = .returned (.agg #[.int .i64 0, .int .i64 0]) ∧ Below W.heap.size W w')) (R : ByteArray) (E : Int) (HR : Hid (R = ⟨(if 65536 < (prs (t.data.toList.map jI)).length then [] else prs (t.data.toList.map jI)).toArray⟩)) (HRE : Hid (E = if 65536 < (prs (t.data.toList.map jI)).length then 4 else 0)) (w : World) : Calls Try.prog 21 #[.string t] w fun e w' => e = .returned (.tuple #[.string R, .agg #[.int .i64 E, .int .i64 0]]) ∧ Below w.heap.size w w' := by
  obtain ⟨i0, hi0, hz0, hz1, hz2⟩ := x_info_parts v_info_byte
  have hcv := fun w => Lib.run_convert_string_bytes (P := Try.prog) w 9 43 5 t Try.underlying9 Try.underlying43 Try.underlying5
  have HTS : Hid (t.size = t.data.toList.length) := Pl.size_len t
  go_enter Try.func21, Try.ntmps21
  go_wp2_with fail
  refine (HT.out _).mono ?_
  rintro e W1 ⟨rfl, hb⟩
  have hb1 : Below (w.heap.size + 1) (w.alloc (.cells #[.int .i64 0, .int .i64 0] 25)) W1 := by simpa using hb
  have hz := hb1.size
  simp at hz
  have hb2 := hb1.alloc (by omega) (.cells #[.int .i64 0, .int .i64 0] 25)
  clear hb HT hb1
  go_wp2_with fail
  have hp0 := bytes_plain (W1.alloc (.cells #[.int .i64 0, .int .i64 0] 25)) 5 t
  have hb3 := hb2.trans ((bytes_below (W1.alloc (.cells #[.int .i64 0, .int .i64 0] 25)) 5 t).mono (by have := hb2.size; simpa using this))
  obtain ⟨V, hV⟩ : ∃ V, V = Lib.bytesWorld (W1.alloc (.cells #[.int .i64 0, .int .i64 0] 25)) 5 t := ⟨_, rfl⟩
  rw [← hV] at hp0 hb3
  rw [← hV]
  have hVs : w.heap.size + 1 ≤ V.heap.size := by have := hb3.size; simpa using this
  clear hV hcv hb2
  rw [World.size_alloc] at hp0
  go_loopw [5, 18] (fun o i W => ∃ (k : Nat) (v : Value), k ≤ t.size ∧ i = .int .i64 (k : Nat) ∧ v = o ∧ Kit.Owns W V.heap.size 5 v ((t.data.toList.take k).map jI) ∧ Below V.heap.size V W) (fun _ i _ => ((t.size : Int) - intOf i).toNat)
  case atStart => exact ⟨0, _, by omega, rfl, rfl, Kit.Owns.nil _ _ _, Below.refl _ _⟩
  case round =>
    obtain ⟨k, v, hk, rfl, rfl, hown, hbv⟩ := hrel
    have hzv := hbv.size
    by_cases hlt : k < t.size
    · have hlt2 : (k : Int) < (t.size : Int) := by omega
      have hpm := hp0.below hbv k hlt
      have HST := (show Hid ((t.data.toList.take (k + 1)).map jI = (t.data.toList.take k).map jI ++ [jI (t.data.toList.getD k 0)]) from map_take_succ _ (getD_size hlt))
      have HLL : Hid (((t.data.toList.take k).map jI).length = k) := by rw [Hid, List.length_map, List.length_take]; have := HTS.out; omega
      have hJ := u8_beq (t.data.toList.getD k 0) 74
      have hjd : jI (t.data.toList.getD k 0) = if t.data.toList.getD k 0 = 74 then 73 else t.data.toList.getD k 0 := rfl
      generalize t.data.toList.getD k 0 = b at *
      by_cases hb : b = 74
      · subst hb
        have e73 : jI 74 = 73 := rfl
        rw [e73] at HST
        clear hjd e73 hJ
        go_wp2_with (first | (at_builtin; refine wpList_append_own _ rfl _ _ 43 rfl V.heap.size 5 i0 (.int .u8 0) 1 1 Try.underlying43 hi0 hz0 hz1 hz2 rfl (by decide) _ _ _ rfl (World.ownsRow.alloc hown _) ⟨wr.heap.size, 0, none⟩ 1 1 [.int .u8 (73 : Int)] rfl rfl (cells_new _ #[.int .u8 (73 : Int)] _) (fun u hu => by simp at hu; subst hu; rfl) (by have := HLL.out; unfold maxLen; omega) (by have := HLL.out; omega) (by simp; omega) ?_; intro v5 w5 hown5 hgrow5 _))
        have hbY := (hbv.alloc (by omega) (.cells #[.int .u8 (73 : Int)] 5)).grown hgrow5 (by simp; omega) (fun k hk => (World.ownsRow.lt hown k hk).1)
        go_roundw
        case rel =>
          refine ⟨k + 1, _, by omega, by go_num, rfl, ?_, hbY⟩
          rw [HST.out]
          unfold Kit.Owns
          rw [← v_cells_byte, List.length_append]
          exact hown5
        case measure => simp [intOf]; omega
      · rw [decide_eq_false hb] at hJ
        rw [if_neg hb] at hjd
        have hJ2 : ((b.toNat : Int) == 74) = false := hJ
        rw [hjd] at HST
        clear hjd hJ hb
        go_wp2_with (first | (at_builtin; refine wpList_append_own _ rfl _ _ 43 rfl V.heap.size 5 i0 (.int .u8 0) 1 1 Try.underlying43 hi0 hz0 hz1 hz2 rfl (by decide) _ _ _ rfl (World.ownsRow.alloc hown _) ⟨wr.heap.size, 0, none⟩ 1 1 [.int .u8 (b.toNat : Int)] rfl rfl (cells_new _ #[.int .u8 (b.toNat : Int)] _) (fun u hu => by simp at hu; subst hu; rfl) (by have := HLL.out; unfold maxLen; omega) (by have := HLL.out; omega) (by simp; omega) ?_; intro v5 w5 hown5 hgrow5 _))
        have hbY := (hbv.alloc (by omega) (.cells #[.int .u8 (b.toNat : Int)] 5)).grown hgrow5 (by simp; omega) (fun k hk => (World.ownsRow.lt hown k hk).1)
        go_roundw
        case rel =>
          refine ⟨k + 1, _, by omega, by go_num, rfl, ?_, hbY⟩
          rw [HST.out]
          unfold Kit.Owns
          rw [← v_cells_byte, List.length_append]
          exact hown5
        case measure => simp [intOf]; omega
    · obtain rfl : k = t.size := by omega
      rw [show (t.data.toList.take t.size) = t.data.toList by rw [Pl.size_len, List.take_length]] at hown
      have HUL : Hid ((t.data.toList.map jI).length = t.size) := by rw [Hid, List.length_map]; exact (Pl.size_len t).symm
      have hb4 := hb3.trans (hbv.mono hVs)
      clear hb3 hp0
      generalize t.data.toList.map jI = u at *
      obtain ⟨g, HG⟩ : ∃ g, Hid (0 < t.size → ∀ j, j < t.size → wr.cell? ⟨g, j, none⟩ = some (.int .u8 (u.getD j 0).toNat)) ∧ ∃ a c, v = .slice a t.size c ∧ t.size ≤ c ∧ (0 < t.size → a = some ⟨g, 0, none⟩) := by
        by_cases h0 : 0 < t.size
        · obtain ⟨g, cap, rfl, hcap, hc⟩ := own_form' hown HUL.out h0
          exact ⟨g, fun _ => hc, _, _, rfl, hcap, fun _ => rfl⟩
        · have e0 : t.size = 0 := by omega
          rcases hown.2 with ⟨rfl, h1⟩ | ⟨g, cap, cur, rfl, _⟩
          · exact ⟨0, fun h => absurd h h0, _, _, by rw [e0], by omega, fun h => absurd h h0⟩
          · exact ⟨0, fun h => absurd h h0, _, cap, by rw [HUL.out], by omega, fun h => absurd h h0⟩
      obtain ⟨HC, a0, c0, rfl, hc0, ha0⟩ := HG
      have hzw := hb4.size
      simp at hzw
      clear hown hbv
      obtain ⟨W2, hW2⟩ : ∃ W2, W2 = wr := ⟨_, rfl⟩
      rw [← hW2] at HC hb4 hzw ⊢
      clear hW2
      go_wp2_with fail
      go_loopw [5, 8] (fun tv o W => ∃ (k : Nat) (a : Option Addr) (c : Nat) (v : Value) (l : List UInt8), k ≤ t.size ∧ tv = .slice a (t.size - k) c ∧ t.size - k ≤ c ∧ Hid (k < t.size → a = some ⟨g, k, none⟩) ∧ v = o ∧ Kit.Owns W W2.heap.size 5 v l ∧ Hid (l ++ prs (u.drop k) = prs u) ∧ Hid (l.length ≤ 2 * k) ∧ Below W2.heap.size W2 W) (fun tv _ _ => tlen tv)
      case atStart => exact ⟨0, _, _, _, [], by omega, rfl, hc0, ha0, rfl, Kit.Owns.nil _ _ _, rfl, Nat.le_refl _, Below.refl _ _⟩
      case round =>
        clear ha0 hc0
        obtain ⟨k, a, c, v, l, hk, rfl, hc, HA, rfl, hown, HP, HLL, hbv⟩ := hrel
        have hzv := hbv.size
        by_cases hlt : k < t.size
        · obtain rfl := HA.out hlt
          obtain ⟨m, hm⟩ : ∃ m, m = t.size - k := ⟨_, rfl⟩
          have HM : Hid (m = t.size - k) := hm
          rw [← hm] at hc ⊢
          have hm1 : 1 ≤ m := by omega
          have hm2 : (0 : Int) < (m : Int) := by omega
          clear hm
          have hcx : wr.cell? ⟨g, k, none⟩ = some (.int .u8 (u.getD k 0).toNat) := by have h9 := HC.out (by omega) k hlt; exact (hbv.cell (p := ⟨g, k, none⟩) (cell_block h9)).trans h9
          have HX : Hid (wr.cell? ⟨g, k, none⟩ = some (.int .u8 (u.getD k 0).toNat)) := hcx
          have HG2 : Hid (g < W2.heap.size) := cell_block (HC.out (by omega) k hlt)
          by_cases hm3 : m = 1
          · have hm4 : ((m : Int) == 1) = true := by simp; omega
            have HM3 : Hid (m = 1) := hm3
            have HF := (show Hid (∀ W, Calls Try.prog 41 #[.int .u8 (u.getD k 0).toNat] W fun e w' => e = .returned (.string ⟨#[fil (u.getD k 0)]⟩) ∧ W = w') from rfiller_any _)
            have HS : Hid (prs (u.drop k) = [u.getD k 0, fil (u.getD k 0)] ++ prs (u.drop (k + 1))) := prs_one (by rw [HUL.out]; omega) (fun h => by rw [HUL.out] at h; have := HM.out; omega)
            clear hm3
            generalize u.getD k 0 = x at *
            go_upto_region 14 with fail
            go_quiet (fail)
            go_wp2_with fail
            have hownZ : Kit.Owns (wr.drewN nq) W2.heap.size 5 v l := hown
            have hbZ : Below W2.heap.size W2 (wr.drewN nq) := below_draws' hbv nq
            have hxZ : (wr.drewN nq).cell? ⟨g, k, none⟩ = some (.int .u8 x.toNat) := HX.out
            have hzZ : W2.heap.size ≤ (wr.drewN nq).heap.size := hbZ.size
            obtain ⟨Z, hZ⟩ : ∃ Z, Z = wr.drewN nq := ⟨_, rfl⟩
            rw [← hZ] at hownZ hbZ hxZ hzZ
            rw [← hZ]
            clear hZ hcx
            have hgz : g < Z.heap.size := cell_block hxZ
            refine wp_region_noPanic ?_
            refine wp_region_held_drew (S := fun W => W.cell? ⟨g, k, none⟩ = some (.int .u8 x.toNat)) (by kernel_rfl) hxZ (fun hS => ?_)
            refine vtake 0 44 (v) rfl rfl (by kernel_rfl) (by kernel_rfl) (by kernel_rfl) (fun _ _ _ _ h => h) (by rfl) (fun W hW => by clear hS hW; go_simp) hS ?_
            simp only [List.setIfInBounds_toArray, List.set_cons_succ, List.set_cons_zero]
            refine vtake 1 45 (.slice (some ⟨g, k, none⟩) m c) rfl rfl (by kernel_rfl) (by kernel_rfl) (by kernel_rfl) (fun _ _ _ _ h => h) (by rfl) (fun W hW => by clear hS hW; go_simp) hS ?_
            simp only [List.setIfInBounds_toArray, List.set_cons_succ, List.set_cons_zero]
            refine vtake 2 46 (.pointer (some ⟨g, k, none⟩)) rfl rfl (by kernel_rfl) (by kernel_rfl) (by kernel_rfl) (fun _ _ _ _ h => h) (by rfl) (fun W hW => by clear hS hW; go_simp) hS ?_
            simp only [List.setIfInBounds_toArray, List.set_cons_succ, List.set_cons_zero]
            refine vtake 3 47 (.int .u8 (x.toNat : Nat)) rfl rfl (by kernel_rfl) (by kernel_rfl) (by kernel_rfl) (fun _ _ _ _ h => h) (by rfl) (fun W hW => by have u9 := hW; clear hS hW; go_simp) hS ?_
            simp only [List.setIfInBounds_toArray, List.set_cons_succ, List.set_cons_zero]
            refine vtake 6 50 (.slice (some ⟨g, k, none⟩) m c) rfl rfl (by kernel_rfl) (by kernel_rfl) (by kernel_rfl) (fun _ _ _ _ h => h) (by rfl) (fun W hW => by clear hS hW; go_simp) hS ?_
            simp only [List.setIfInBounds_toArray, List.set_cons_succ, List.set_cons_zero]
            refine vtake 7 51 (.pointer (some ⟨g, k, none⟩)) rfl rfl (by kernel_rfl) (by kernel_rfl) (by kernel_rfl) (fun _ _ _ _ h => h) (by rfl) (fun W hW => by clear hS hW; go_simp) hS ?_
            simp only [List.setIfInBounds_toArray, List.set_cons_succ, List.set_cons_zero]
            refine vtake 8 52 (.int .u8 (x.toNat : Nat)) rfl rfl (by kernel_rfl) (by kernel_rfl) (by kernel_rfl) (fun _ _ _ _ h => h) (by rfl) (fun W hW => by have u9 := hW; clear hS hW; go_simp) hS ?_
            simp only [List.setIfInBounds_toArray, List.set_cons_succ, List.set_cons_zero]
            refine wpAnyH_ready (rs := [4]) (by kernel_rfl) (by simp) ?_
            refine AllReadyH.cons (o := _) rfl (fun K hK => ?_) AllReadyH.nil
            rw [if_pos (by rfl)]
            go_simp
            refine hK.out _ _ (cell_grown (World.grownBy_alloc _ _ none) hS (by simp)) (fun hS1 => ?_)
            clear hK hS K
            have hS := hS1
            clear hS1
            have hownY := World.ownsRow.alloc (World.ownsRow.drew hownZ) (.cells #[.int .u8 (x.toNat : Int)] 5)
            refine wpAnyH_ready (rs := [5]) (by kernel_rfl) (by simp) ?_
            refine AllReadyH.cons (o := _) rfl (fun K hK => ?_) AllReadyH.nil
            rw [if_pos (by rfl)]
            refine wp_append_own _ _ _ 43 rfl W2.heap.size 5 i0 (.int .u8 0) 1 1 Try.underlying43 hi0 hz0 hz1 hz2 rfl (by decide) _ _ _ rfl hownY ⟨Z.heap.size, 0, none⟩ 1 1 [.int .u8 (x.toNat : Int)] rfl rfl (cells_new Z.drew #[.int .u8 (x.toNat : Int)] 5) (fun u hu => by simp at hu; subst hu; rfl) (by have := HLL.out; unfold maxLen; omega) (by have := HLL.out; omega) (by simp; omega) ?_
            intro v5 w5 hown5 hgrow5 _
            have hb5 := (hbZ.drew.alloc (by simp; omega) (.cells #[.int .u8 (x.toNat : Int)] 5)).grown hgrow5 (by simp; omega) (fun k hk => (World.ownsRow.lt hownZ k hk).1)
            have hz5 := hb5.size
            refine hK.out _ _ (cell_grown hgrow5 hS (fun e => by have := (World.ownsRow.lt hownZ _ e.symm).1; have h8 := HG2.out; simp at this; omega)) (fun hS1 => ?_)
            clear hK hS K
            have hS := hS1
            clear hS1
            simp only [Act.put, List.setIfInBounds_toArray]
            refine wpAnyH_ready (rs := [9]) (by kernel_rfl) (by simp) ?_
            refine AllReadyH.cons (o := _) rfl (fun K hK => ?_) AllReadyH.nil
            rw [if_pos (by rfl)]
            go_simp
            refine Calls.mono (HF.out _) ?_
            rintro e Y ⟨rfl, rfl⟩
            refine hK.out _ _ (hS) (fun hS1 => ?_)
            clear hK hS K
            have hS := hS1
            clear hS1
            refine wpAnyH_ready (rs := [10]) (by kernel_rfl) (by simp) ?_
            refine AllReadyH.cons (o := _) rfl (fun K hK => ?_) AllReadyH.nil
            rw [if_pos (by rfl)]
            refine wp_append_string _ _ _ 43 9 rfl W2.heap.size 5 i0 Try.underlying43 Try.underlying9 hi0 hz0 hz1 hz2 _ _ _ rfl hown5 ⟨#[fil x]⟩ rfl (by have := HLL.out; have e1 : (⟨#[fil x]⟩ : ByteArray).size = 1 := rfl; unfold maxLen; omega) (by have := HLL.out; have e1 : (⟨#[fil x]⟩ : ByteArray).size = 1 := rfl; omega) hz5 ?_
            intro v6 w6 hown6 hgrow6
            have hb6 := hb5.grown hgrow6 hz5 (fun k hk => (World.ownsRow.lt hown5 k hk).1)
            refine hK.out _ _ (cell_grown hgrow6 hS (fun e => by have := (World.ownsRow.lt hown5 _ e.symm).1; have h8 := HG2.out; simp at this; omega)) (fun hS1 => ?_)
            clear hK hS K
            have hS := hS1
            clear hS1
            simp only [Act.put, List.setIfInBounds_toArray]
            refine vtake 11 8 (v6) rfl rfl (by kernel_rfl) (by kernel_rfl) (by kernel_rfl) (fun _ _ _ _ h => h) (by rfl) (fun W hW => by clear hS hW; go_simp) hS ?_
            simp only [List.setIfInBounds_toArray, List.set_cons_succ, List.set_cons_zero]
            refine wpAnyH_done (by kernel_rfl) ?_ _
            refine NoPanic.normal ?_
            have hsl := run_slice_from g k m c 1 hm1
            go_wp2_with fail
            go_roundw
            case rel =>
              refine ⟨k + 1, _, _, _, l ++ [x, fil x], by omega, by rw [HM.out, show t.size - (k + 1) = t.size - k - 1 by omega], by have := HM.out; omega, ?_, rfl, ?_, ?_, ?_, hb6⟩
              · intro h
                first | rfl | rw [if_neg (by have := HM.out; omega)]
              · unfold Kit.Owns
                rw [show l ++ [x, fil x] = (l ++ [x]) ++ [fil x] by simp, List.length_append, List.length_append, ← cells_str, ← v_cells_byte]
                exact hown6
              · rw [Hid, List.append_assoc, ← HS.out]; exact HP.out
              · rw [Hid, List.length_append]; have := HLL.out; simp; omega
            case measure => simp only [tlen]; omega
          · have hm4 : ((m : Int) == 1) = false := beq_false_of_ne (by omega)
            have hm5 : (1 : Int) < (m : Int) := by omega
            have hm6 : 2 ≤ m := by omega
            have hlt1 : k + 1 < t.size := by have := HM.out; omega
            have hcy : wr.cell? ⟨g, k + 1, none⟩ = some (.int .u8 (u.getD (k + 1) 0).toNat) := by have h9 := HC.out (by omega) (k + 1) hlt1; exact (hbv.cell (p := ⟨g, k + 1, none⟩) (cell_block h9)).trans h9
            have HY : Hid (wr.cell? ⟨g, k + 1, none⟩ = some (.int .u8 (u.getD (k + 1) 0).toNat)) := hcy
            clear hm3
            by_cases hxy : u.getD (k + 1) 0 = u.getD k 0
            · have HF := (show Hid (∀ W, Calls Try.prog 41 #[.int .u8 (u.getD k 0).toNat] W fun e w' => e = .returned (.string ⟨#[fil (u.getD k 0)]⟩) ∧ W = w') from rfiller_any _)
              have HS : Hid (prs (u.drop k) = [u.getD k 0, fil (u.getD k 0)] ++ prs (u.drop (k + 1))) := prs_one (by rw [HUL.out]; omega) (fun _ => hxy)
              rw [hxy] at hcy HY
              clear hxy HY
              generalize u.getD k 0 = x at *
              go_upto_region 14 with fail
              go_quiet (fail)
              clear hcy
              go_wp2_with fail
              have hownZ : Kit.Owns (wr.drewN nq) W2.heap.size 5 v l := hown
              have hbZ : Below W2.heap.size W2 (wr.drewN nq) := below_draws' hbv nq
              have hxZ : (wr.drewN nq).cell? ⟨g, k, none⟩ = some (.int .u8 x.toNat) := HX.out
              have hzZ : W2.heap.size ≤ (wr.drewN nq).heap.size := hbZ.size
              obtain ⟨Z, hZ⟩ : ∃ Z, Z = wr.drewN nq := ⟨_, rfl⟩
              rw [← hZ] at hownZ hbZ hxZ hzZ
              rw [← hZ]
              clear hZ hcx
              have hgz : g < Z.heap.size := cell_block hxZ
              refine wp_region_noPanic ?_
              refine wp_region_held_drew (S := fun W => W.cell? ⟨g, k, none⟩ = some (.int .u8 x.toNat)) (by kernel_rfl) hxZ (fun hS => ?_)
              refine vtake 0 44 (v) rfl rfl (by kernel_rfl) (by kernel_rfl) (by kernel_rfl) (fun _ _ _ _ h => h) (by rfl) (fun W hW => by clear hS hW; go_simp) hS ?_
              simp only [List.setIfInBounds_toArray, List.set_cons_succ, List.set_cons_zero]
              refine vtake 1 45 (.slice (some ⟨g, k, none⟩) m c) rfl rfl (by kernel_rfl) (by kernel_rfl) (by kernel_rfl) (fun _ _ _ _ h => h) (by rfl) (fun W hW => by clear hS hW; go_simp) hS ?_
              simp only [List.setIfInBounds_toArray, List.set_cons_succ, List.set_cons_zero]
              refine vtake 2 46 (.pointer (some ⟨g, k, none⟩)) rfl rfl (by kernel_rfl) (by kernel_rfl) (by kernel_rfl) (fun _ _ _ _ h => h) (by rfl) (fun W hW => by clear hS hW; go_simp) hS ?_
              simp only [List.setIfInBounds_toArray, List.set_cons_succ, List.set_cons_zero]
              refine vtake 3 47 (.int .u8 (x.toNat : Nat)) rfl rfl (by kernel_rfl) (by kernel_rfl) (by kernel_rfl) (fun _ _ _ _ h => h) (by rfl) (fun W hW => by have u9 := hW; clear hS hW; go_simp) hS ?_
              simp only [List.setIfInBounds_toArray, List.set_cons_succ, List.set_cons_zero]
              refine vtake 6 50 (.slice (some ⟨g, k, none⟩) m c) rfl rfl (by kernel_rfl) (by kernel_rfl) (by kernel_rfl) (fun _ _ _ _ h => h) (by rfl) (fun W hW => by clear hS hW; go_simp) hS ?_
              simp only [List.setIfInBounds_toArray, List.set_cons_succ, List.set_cons_zero]
              refine vtake 7 51 (.pointer (some ⟨g, k, none⟩)) rfl rfl (by kernel_rfl) (by kernel_rfl) (by kernel_rfl) (fun _ _ _ _ h => h) (by rfl) (fun W hW => by clear hS hW; go_simp) hS ?_
              simp only [List.setIfInBounds_toArray, List.set_cons_succ, List.set_cons_zero]
              refine vtake 8 52 (.int .u8 (x.toNat : Nat)) rfl rfl (by kernel_rfl) (by kernel_rfl) (by kernel_rfl) (fun _ _ _ _ h => h) (by rfl) (fun W hW => by have u9 := hW; clear hS hW; go_simp) hS ?_
              simp only [List.setIfInBounds_toArray, List.set_cons_succ, List.set_cons_zero]
              refine wpAnyH_ready (rs := [4]) (by kernel_rfl) (by simp) ?_
              refine AllReadyH.cons (o := _) rfl (fun K hK => ?_) AllReadyH.nil
              rw [if_pos (by rfl)]
              go_simp
              refine hK.out _ _ (cell_grown (World.grownBy_alloc _ _ none) hS (by simp)) (fun hS1 => ?_)
              clear hK hS K
              have hS := hS1
              clear hS1
              have hownY := World.ownsRow.alloc (World.ownsRow.drew hownZ) (.cells #[.int .u8 (x.toNat : Int)] 5)
              refine wpAnyH_ready (rs := [5]) (by kernel_rfl) (by simp) ?_
              refine AllReadyH.cons (o := _) rfl (fun K hK => ?_) AllReadyH.nil
              rw [if_pos (by rfl)]
              refine wp_append_own _ _ _ 43 rfl W2.heap.size 5 i0 (.int .u8 0) 1 1 Try.underlying43 hi0 hz0 hz1 hz2 rfl (by decide) _ _ _ rfl hownY ⟨Z.heap.size, 0, none⟩ 1 1 [.int .u8 (x.toNat : Int)] rfl rfl (cells_new Z.drew #[.int .u8 (x.toNat : Int)] 5) (fun u hu => by simp at hu; subst hu; rfl) (by have := HLL.out; unfold maxLen; omega) (by have := HLL.out; omega) (by simp; omega) ?_
              intro v5 w5 hown5 hgrow5 _
              have hb5 := (hbZ.drew.alloc (by simp; omega) (.cells #[.int .u8 (x.toNat : Int)] 5)).grown hgrow5 (by simp; omega) (fun k hk => (World.ownsRow.lt hownZ k hk).1)
              have hz5 := hb5.size
              refine hK.out _ _ (cell_grown hgrow5 hS (fun e => by have := (World.ownsRow.lt hownZ _ e.symm).1; have h8 := HG2.out; simp at this; omega)) (fun hS1 => ?_)
              clear hK hS K
              have hS := hS1
              clear hS1
              simp only [Act.put, List.setIfInBounds_toArray]
              refine wpAnyH_ready (rs := [9]) (by kernel_rfl) (by simp) ?_
              refine AllReadyH.cons (o := _) rfl (fun K hK => ?_) AllReadyH.nil
              rw [if_pos (by rfl)]
              go_simp
              refine Calls.mono (HF.out _) ?_
              rintro e Y ⟨rfl, rfl⟩
              refine hK.out _ _ (hS) (fun hS1 => ?_)
              clear hK hS K
              have hS := hS1
              clear hS1
              refine wpAnyH_ready (rs := [10]) (by kernel_rfl) (by simp) ?_
              refine AllReadyH.cons (o := _) rfl (fun K hK => ?_) AllReadyH.nil
              rw [if_pos (by rfl)]
              refine wp_append_string _ _ _ 43 9 rfl W2.heap.size 5 i0 Try.underlying43 Try.underlying9 hi0 hz0 hz1 hz2 _ _ _ rfl hown5 ⟨#[fil x]⟩ rfl (by have := HLL.out; have e1 : (⟨#[fil x]⟩ : ByteArray).size = 1 := rfl; unfold maxLen; omega) (by have := HLL.out; have e1 : (⟨#[fil x]⟩ : ByteArray).size = 1 := rfl; omega) hz5 ?_
              intro v6 w6 hown6 hgrow6
              have hb6 := hb5.grown hgrow6 hz5 (fun k hk => (World.ownsRow.lt hown5 k hk).1)
              refine hK.out _ _ (cell_grown hgrow6 hS (fun e => by have := (World.ownsRow.lt hown5 _ e.symm).1; have h8 := HG2.out; simp at this; omega)) (fun hS1 => ?_)
              clear hK hS K
              have hS := hS1
              clear hS1
              simp only [Act.put, List.setIfInBounds_toArray]
              refine vtake 11 8 (v6) rfl rfl (by kernel_rfl) (by kernel_rfl) (by kernel_rfl) (fun _ _ _ _ h => h) (by rfl) (fun W hW => by clear hS hW; go_simp) hS ?_
              simp only [List.setIfInBounds_toArray, List.set_cons_succ, List.set_cons_zero]
              refine wpAnyH_done (by kernel_rfl) ?_ _
              refine NoPanic.normal ?_
              have hsl := run_slice_from g k m c 1 hm1
              go_wp2_with fail
              go_roundw
              case rel =>
                refine ⟨k + 1, _, _, _, l ++ [x, fil x], by omega, by rw [HM.out, show t.size - (k + 1) = t.size - k - 1 by omega], by have := HM.out; omega, ?_, rfl, ?_, ?_, ?_, hb6⟩
                · intro h
                  first | rfl | rw [if_neg (by have := HM.out; omega)]
                · unfold Kit.Owns
                  rw [show l ++ [x, fil x] = (l ++ [x]) ++ [fil x] by simp, List.length_append, List.length_append, ← cells_str, ← v_cells_byte]
                  exact hown6
                · rw [Hid, List.append_assoc, ← HS.out]; exact HP.out
                · rw [Hid, List.length_append]; have := HLL.out; simp; omega
              case measure => simp only [tlen]; omega
            · have HS : Hid (prs (u.drop k) = [u.getD k 0, u.getD (k + 1) 0] ++ prs (u.drop (k + 2))) := prs_two (by rw [HUL.out]; omega) hxy
              have hne := u8_beq (u.getD k 0) (u.getD (k + 1) 0)
              rw [decide_eq_false (fun e => hxy e.symm)] at hne
              clear hxy
              generalize u.getD k 0 = x at *
              generalize u.getD (k + 1) 0 = y at *
              go_upto_region 14 with fail
              go_quiet (fail)
              go_wp2_with fail
              have hownZ : Kit.Owns (wr.drewN nq) W2.heap.size 5 v l := hown
              have hbZ : Below W2.heap.size W2 (wr.drewN nq) := below_draws' hbv nq
              have hxZ : (wr.drewN nq).cell? ⟨g, k, none⟩ = some (.int .u8 x.toNat) ∧ (wr.drewN nq).cell? ⟨g, k + 1, none⟩ = some (.int .u8 y.toNat) := ⟨HX.out, HY.out⟩
              have hzZ : W2.heap.size ≤ (wr.drewN nq).heap.size := hbZ.size
              obtain ⟨Z, hZ⟩ : ∃ Z, Z = wr.drewN nq := ⟨_, rfl⟩
              rw [← hZ] at hownZ hbZ hxZ hzZ
              rw [← hZ]
              clear hZ hcx hcy
              have hgz : g < Z.heap.size := cell_block hxZ.1
              refine wp_region_noPanic ?_
              refine wp_region_held_drew (S := fun W => W.cell? ⟨g, k, none⟩ = some (.int .u8 x.toNat) ∧ W.cell? ⟨g, k + 1, none⟩ = some (.int .u8 y.toNat)) (by kernel_rfl) hxZ (fun hS => ?_)
              refine vtake 0 57 (v) rfl rfl (by kernel_rfl) (by kernel_rfl) (by kernel_rfl) (fun _ _ _ _ h => h) (by rfl) (fun W hW => by clear hS hW; go_simp) hS ?_
              simp only [List.setIfInBounds_toArray, List.set_cons_succ, List.set_cons_zero]
              refine vtake 1 58 (.slice (some ⟨g, k, none⟩) m c) rfl rfl (by kernel_rfl) (by kernel_rfl) (by kernel_rfl) (fun _ _ _ _ h => h) (by rfl) (fun W hW => by clear hS hW; go_simp) hS ?_
              simp only [List.setIfInBounds_toArray, List.set_cons_succ, List.set_cons_zero]
              refine vtake 2 59 (.pointer (some ⟨g, k, none⟩)) rfl rfl (by kernel_rfl) (by kernel_rfl) (by kernel_rfl) (fun _ _ _ _ h => h) (by rfl) (fun W hW => by clear hS hW; go_simp) hS ?_
              simp only [List.setIfInBounds_toArray, List.set_cons_succ, List.set_cons_zero]
              refine vtake 3 60 (.int .u8 (x.toNat : Nat)) rfl rfl (by kernel_rfl) (by kernel_rfl) (by kernel_rfl) (fun _ _ _ _ h => h) (by rfl) (fun W hW => by have u9 := hW.1; clear hS hW; go_simp) hS ?_
              simp only [List.setIfInBounds_toArray, List.set_cons_succ, List.set_cons_zero]
              refine vtake 4 61 (.slice (some ⟨g, k, none⟩) m c) rfl rfl (by kernel_rfl) (by kernel_rfl) (by kernel_rfl) (fun _ _ _ _ h => h) (by rfl) (fun W hW => by clear hS hW; go_simp) hS ?_
              simp only [List.setIfInBounds_toArray, List.set_cons_succ, List.set_cons_zero]
              refine vtake 5 62 (.pointer (some ⟨g, k + 1, none⟩)) rfl rfl (by kernel_rfl) (by kernel_rfl) (by kernel_rfl) (fun _ _ _ _ h => h) (by rfl) (fun W hW => by clear hS hW; go_simp) hS ?_
              simp only [List.setIfInBounds_toArray, List.set_cons_succ, List.set_cons_zero]
              refine vtake 6 63 (.int .u8 (y.toNat : Nat)) rfl rfl (by kernel_rfl) (by kernel_rfl) (by kernel_rfl) (fun _ _ _ _ h => h) (by rfl) (fun W hW => by have u9 := hW.2; clear hS hW; go_simp) hS ?_
              simp only [List.setIfInBounds_toArray, List.set_cons_succ, List.set_cons_zero]
              refine wpAnyH_ready (rs := [7]) (by kernel_rfl) (by simp) ?_
              refine AllReadyH.cons (o := _) rfl (fun K hK => ?_) AllReadyH.nil
              rw [if_pos (by rfl)]
              go_simp
              refine hK.out _ _ (⟨cell_grown (World.grownBy_alloc _ _ none) hS.1 (by simp), cell_grown (World.grownBy_alloc _ _ none) hS.2 (by simp)⟩) (fun hS1 => ?_)
              clear hK hS K
              have hS := hS1
              clear hS1
              have hownY := World.ownsRow.alloc (World.ownsRow.drew hownZ) (.cells #[.int .u8 (x.toNat : Int), .int .u8 (y.toNat : Int)] 5)
              refine wpAnyH_ready (rs := [8]) (by kernel_rfl) (by simp) ?_
              refine AllReadyH.cons (o := _) rfl (fun K hK => ?_) AllReadyH.nil
              rw [if_pos (by rfl)]
              refine wp_append_own _ _ _ 43 rfl W2.heap.size 5 i0 (.int .u8 0) 1 1 Try.underlying43 hi0 hz0 hz1 hz2 rfl (by decide) _ _ _ rfl hownY ⟨Z.heap.size, 0, none⟩ 2 2 [.int .u8 (x.toNat : Int), .int .u8 (y.toNat : Int)] rfl rfl (cells_new Z.drew #[.int .u8 (x.toNat : Int), .int .u8 (y.toNat : Int)] 5) (fun u hu => by simp at hu; rcases hu with rfl | rfl <;> rfl) (by have := HLL.out; unfold maxLen; omega) (by have := HLL.out; omega) (by simp; omega) ?_
              intro v5 w5 hown5 hgrow5 _
              have hb5 := (hbZ.drew.alloc (by simp; omega) (.cells #[.int .u8 (x.toNat : Int), .int .u8 (y.toNat : Int)] 5)).grown hgrow5 (by simp; omega) (fun k hk => (World.ownsRow.lt hownZ k hk).1)
              refine hK.out _ _ ⟨cell_grown hgrow5 hS.1 (fun e => by have := (World.ownsRow.lt hownZ _ e.symm).1; have h8 := HG2.out; simp at this; omega), cell_grown hgrow5 hS.2 (fun e => by have := (World.ownsRow.lt hownZ _ e.symm).1; have h8 := HG2.out; simp at this; omega)⟩ (fun hS1 => ?_)
              clear hK hS K
              have hS := hS1
              clear hS1
              simp only [Act.put, List.setIfInBounds_toArray]
              refine vtake 9 8 (v5) rfl rfl (by kernel_rfl) (by kernel_rfl) (by kernel_rfl) (fun _ _ _ _ h => h) (by rfl) (fun W hW => by clear hS hW; go_simp) hS ?_
              simp only [List.setIfInBounds_toArray, List.set_cons_succ, List.set_cons_zero]
              refine wpAnyH_done (by kernel_rfl) ?_ _
              refine NoPanic.normal ?_
              have hsl := run_slice_from g k m c 2 hm6
              go_wp2_with fail
              go_roundw
              case rel =>
                refine ⟨k + 2, _, _, _, l ++ [x, y], by have := HM.out; omega, by rw [HM.out, show t.size - (k + 2) = t.size - k - 2 by omega], by have := HM.out; omega, ?_, rfl, ?_, ?_, ?_, hb5⟩
                · intro h
                  first | rfl | rw [if_neg (by have := HM.out; omega)]
                · unfold Kit.Owns
                  rw [← cells_pair, List.length_append]
                  exact hown5
                · rw [Hid, List.append_assoc, ← HS.out]; exact HP.out
                · rw [Hid, List.length_append]; have := HLL.out; simp; omega
              case measure => simp only [tlen]; omega
        · obtain rfl : k = t.size := by omega
          have HPE : Hid (l = prs u) := by
            have := HP.out
            rw [List.drop_eq_nil_of_le (by rw [HUL.out]; omega)] at this
            rw [Hid]
            simpa [prs] using this
          have hlen := Kit.run_len_own (P := Try.prog) wr 43 3 5 Try.underlying43 hown
          have hst := Kit.run_string_of_own (P := Try.prog) wr 43 9 5 Try.underlying43 Try.underlying5 Try.underlying9 hown
          have hbw := hb4.trans (hbv.mono hzw)
          obtain ⟨c0, c1, f0, f1, hsz⟩ := Kit.two_cells hbw
          by_cases hmuch : 65536 < l.length
          · have hm2 : (65536 : Int) < (l.length : Int) := by omega
            have HMU : Hid (65536 < l.length) := hmuch
            clear hown HP hmuch
            go_wp2
            have q := Kit.read_two (.int .i64 4) (.int .i64 0) c0 c1
            refine bodyPost_ret (v := .tuple #[.string ⟨#[]⟩, .agg #[.int .i64 4, .int .i64 0]]) (by simp [results, Try.results21, go_sem, q.1, q.2]) rfl ⟨by rw [HR.out, HRE.out, ← HPE.out, if_pos HMU.out, if_pos HMU.out], ?_⟩
            exact Kit.below_two hbw _ _
          · have hm2 : ¬ (65536 : Int) < (l.length : Int) := by omega
            have HMU : Hid (¬ 65536 < l.length) := hmuch
            clear hown HP hmuch
            go_wp2
            have q := Kit.read_two (.int .i64 0) (.int .i64 0) c0 c1
            refine bodyPost_ret (v := .tuple #[.string ⟨l.toArray⟩, .agg #[.int .i64 0, .int .i64 0]]) (by simp [results, Try.results21, go_sem, q.1, q.2]) rfl ⟨by rw [HR.out, HRE.out, ← HPE.out, if_neg HMU.out, if_neg HMU.out], ?_⟩
            exact Kit.below_two hbw _ _
theorem rpr_any (t : ByteArray) (w : World) : Calls Try.prog 21 #[.string t] w fun e w' => e = .returned (.tuple #[.string ⟨(prS t.data.toList).toArray⟩, .agg #[.int .i64 (prE t.data.toList), .int .i64 (prAt t.data.toList)]]) ∧ Below w.heap.size w w' := by
  unfold prS prE prAt
  rcases ck_cases t.data.toList with ⟨e1, e2, e3, _⟩ | e1
  · have h0 : ¬ ckE t.data.toList ≠ 0 := fun h => h e1
    rw [if_neg h0, if_neg h0, if_neg h0]
    exact rpr_ok t (by rw [Pl.size_len]; exact e3) (fun W => by have := rcheck_all t W; rw [e1, e2] at this; exact this) _ _ rfl rfl w
  · have h0 : ckE t.data.toList ≠ 0 := by simpa using e1
    rw [if_pos h0, if_pos h0, if_pos h0]
    exact rpr_bad t _ _ e1 (fun W => rcheck_all t W) w
end Go.Proofs.Ytmabamlhhmjbaad
