/-
  RotorPlugs, for any Write that writes what the document's writes.
-/
import Derived.Test.YtpdjfjmfnmocmafOPlug
namespace Go.Proofs.Ytpdjfjmfnmocmaf
open Go.RowKit PK Vg

theorem v_zero_mac : (Try.prog.info? 27).map (·.zero) = some (some (.agg (mac (.slice none 0 0) (.slice none 0 0) (.slice none 0 0) (fun _ => 0) (fun _ => 0)))) := by kernel_rfl
theorem mac_one {a b c : Value} {rf pl : Nat → Int} (ha : a.oneCell' = true) (hb : b.oneCell' = true) (hc : c.oneCell' = true) : (mac a b c rf pl).all (·.oneCell') = true := by
  unfold mac
  rw [Array.all_append, Array.all_append, ints_one, ints_one]
  simp [ha, hb, hc]
/-- A guarded load out of the midst of a block. -/
theorem wpList_load_arr_w {P : Program} {ops : Array Oper} {rest : List Oper} {op : Oper} {a : Act} {w : World} {Q : Exit → Act → World → Prop} (hw : Region.wanted op (yielded ops a.tmps) = true) (ty : TypeId) (x : Operand) (ho : op.op = .load ty x)
    (b o : Nat) (hx : a.eval x = .pointer (some ⟨b, o, none⟩)) (cs : Array Value) (d : TypeDesc) (hc : w.rangeAt b o cs.toList)
    (hu : P.underlying ty = some d) (hd : d.isRow = true) (hi : (P.info? ty).map (·.size) = some cs.size)
    (h : wpList P ops Q rest (a.put op.dst (.agg cs)) w) : wpList P ops Q (op :: rest) a w := by
  refine wpList_step fun K hK => ?_
  rw [if_pos hw]
  refine wp_load_mid ty x ho b o hx cs.toList d hc hu hd (by rw [Array.length_toList]; exact hi) ?_
  rw [Array.toArray_toList]
  exact hK _ _ h
/-- The machine, another one, and a fault. -/
structure PlS (w W : World) (a b c : Value) (rf pl pl2 : Nat → Int) (qf q : Nat) : Prop where
  mg : MgAt w W a b c rf pl
  n : RowAt W q 27 (mac a b c rf pl2)
  f : ∃ x y, RowAt W qf 31 #[x, y]
  ne : w.heap.size < q ∧ w.heap.size < qf ∧ q ≠ qf
section
variable {w W W' : World} {a b c : Value} {rf pl pl2 : Nat → Int} {qf q : Nat}
theorem PlS.step (h : PlS w W a b c rf pl pl2 qf q) (hb : Below W.heap.size W W') : PlS w W' a b c rf pl pl2 qf q := by
  obtain ⟨x, y, hf⟩ := h.f
  exact ⟨h.mg.step hb, h.n.below hb h.n.lt, ⟨x, y, hf.below hb hf.lt⟩, h.ne⟩
theorem PlS.drew (h : PlS w W a b c rf pl pl2 qf q) : PlS w W.drew a b c rf pl pl2 qf q := ⟨h.mg.drew, h.n, h.f, h.ne⟩
theorem PlS.row (h : PlS w W a b c rf pl pl2 qf q) (x y : Value) : PlS w (W.setRow qf #[x, y]) a b c rf pl pl2 qf q := by
  obtain ⟨x', y', hf⟩ := h.f
  have := h.ne
  exact ⟨h.mg.setRow _ (by omega) _, h.n.rowOther _ _ (by omega), ⟨x, y, hf.row _⟩, h.ne⟩
end
set_option maxRecDepth 100000 in
set_option maxHeartbeats 2000000 in
theorem rplugs_bad (a b c : Value) (rf pl : Nat → Int) (t S : ByteArray) (E A : Int) (hE : (E != 0) = true) (w : World) (HA : Hid (∀ W, Calls Try.prog 6 #[] W fun e w' => e = .returned (.bool true) ∧ Below W.heap.size W w'))
    (H1 : Hid (∀ W, Below w.heap.size w W → Calls Try.prog 7 #[.agg (mac a b c rf pl), .string t] W fun e w' => e = .returned (.tuple #[.string S, .agg #[.int .i64 E, .int .i64 A]]) ∧ Below W.heap.size W w')) : Calls Try.prog 4 #[.agg (mac a b c rf pl), .string t] w fun e w' => e = .returned (.bool true) ∧ Below w.heap.size w w' := by
  have h0 := MgAt.new w a b c rf pl
  go_enter Try.func4, Try.ntmps4
  go_wp2_with fail
  refine (HA.out _).mono ?_
  rintro e W1 ⟨rfl, hb⟩
  have h1 := h0.step hb
  clear hb h0 HA
  go_wp2_with (first | refine wpList_load_row rfl 27 _ rfl w.heap.size rfl 27 (mac a b c rf pl) (0, 0) _ h1.row Try.underlying27 rfl (by rw [mac_size]; exact v_info_mac) ?_)
  refine (H1.out _ h1.below).mono ?_
  rintro e W2 ⟨rfl, hb⟩
  have h2 := h1.step hb
  have hbe := (FmAt.new h2 (.int .i64 E) (.int .i64 A)).mg.below
  clear hb h1 H1
  go_wp2
  go_ret
  exact ⟨rfl, hbe⟩
set_option maxRecDepth 100000 in
set_option maxHeartbeats 2000000 in
theorem rplugs_run (a b c : Value) (ha : a.oneCell' = true) (hb0 : b.oneCell' = true) (hc0 : c.oneCell' = true) (rf pl : Nat → Int) (t S U T : ByteArray) (w : World) (HA : Hid (∀ W, Calls Try.prog 6 #[] W fun e w' => e = .returned (.bool true) ∧ Below W.heap.size W w'))
    (H1 : Hid (∀ W, Below w.heap.size w W → Calls Try.prog 7 #[.agg (mac a b c rf pl), .string t] W fun e w' => e = .returned (.tuple #[.string S, .agg #[.int .i64 0, .int .i64 0]]) ∧ Below W.heap.size W w'))
    (P1 : Hid (∀ W, Calls Try.prog 9 #[.agg (ints 26 pl), .string t] W fun e w' => e = .returned (.string U) ∧ Below W.heap.size W w'))
    (H2 : Hid (∀ W, Below w.heap.size w W → Calls Try.prog 7 #[.agg (mac a b c rf (Pm.up fun i => i)), .string U] W fun e w' => e = .returned (.tuple #[.string T, .agg #[.int .i64 0, .int .i64 0]]) ∧ Below W.heap.size W w'))
    (P2 : Hid (∀ W, Calls Try.prog 9 #[.agg (ints 26 pl), .string T] W fun e w' => e = .returned (.string S) ∧ Below W.heap.size W w')) : Calls Try.prog 4 #[.agg (mac a b c rf pl), .string t] w fun e w' => e = .returned (.bool true) ∧ Below w.heap.size w w' := by
  have h0 := MgAt.new w a b c rf pl
  have HS := (show Hid (∀ W, Calls Try.prog 8 #[] W fun e w' => e = .returned (.agg (ints 26 (Pm.up fun i => i))) ∧ Below W.heap.size W w') from same_any)
  have HONE : Hid ((mac a b c rf pl).all (·.oneCell') = true) := mac_one ha hb0 hc0
  have hz55 := o_zero v_zero_mac
  clear ha hb0 hc0
  go_enter Try.func4, Try.ntmps4
  go_wp2_with fail
  refine (HA.out _).mono ?_
  rintro e W1 ⟨rfl, hb⟩
  have h1 := h0.step hb
  clear hb h0 HA
  go_wp2_with (first | refine wpList_load_row rfl 27 _ rfl w.heap.size rfl 27 (mac a b c rf pl) (0, 0) _ h1.row Try.underlying27 rfl (by rw [mac_size]; exact v_info_mac) ?_)
  refine (H1.out _ h1.below).mono ?_
  rintro e W2 ⟨rfl, hb⟩
  have h2 := FmAt.new (h1.step hb) (.int .i64 0) (.int .i64 0)
  clear hb h1 H1
  go_upto_region 6 with fail
  obtain ⟨V, hV⟩ : ∃ V, V = W2.alloc (.cells #[.int .i64 0, .int .i64 0] 31) := ⟨_, rfl⟩
  rw [← hV] at h2 ⊢
  obtain ⟨qf, hq⟩ : ∃ qf, qf = W2.heap.size := ⟨_, rfl⟩
  rw [← hq] at h2 ⊢
  clear hV hq
  go_upto_region 7 with (first | refine wpList_load_row rfl 27 _ rfl w.heap.size rfl 27 (mac a b c rf pl) (0, 0) _ h2.mg.row Try.underlying27 rfl (by rw [mac_size]; exact v_info_mac) ?_ | refine wpList_store_row rfl 27 _ _ rfl V.heap.size (mac a b c rf pl) rfl rfl 27 _ (RowAt.new V _ _) (by rw [mac_size]; exact v_info_mac) (by simp only [mac_size]) HONE.out ?_)
  have h3 : PlS w ((V.alloc (.cells (mac (.slice none 0 0) (.slice none 0 0) (.slice none 0 0) (fun _ => 0) (fun _ => 0)) 27)).setRow V.heap.size (mac a b c rf pl)) a b c rf pl pl qf V.heap.size := by
    have l1 := h2.mg.lt
    have l2 := h2.f.lt
    exact ⟨(h2.mg.alloc _).setRow _ l1 _, (RowAt.new V 27 _).row _, ⟨_, _, (h2.f.alloc _).rowOther _ _ (by omega)⟩, l1, h2.ne, by omega⟩
  generalize (V.alloc (.cells (mac (.slice none 0 0) (.slice none 0 0) (.slice none 0 0) (fun _ => 0) (fun _ => 0)) 27)).setRow V.heap.size (mac a b c rf pl) = V3 at *
  obtain ⟨q, hq⟩ : ∃ q, q = V.heap.size := ⟨_, rfl⟩
  rw [← hq] at h3 ⊢
  clear hq h2 hz55
  go_wp2_with fail
  refine (HS.out _).mono ?_
  rintro e W4 ⟨rfl, hb⟩
  have h4 := h3.step hb
  clear hb h3 HS
  have hth := there_row h4.n (o := 29) (n := 26) (by rw [mac_size]; decide)
  go_upto_region 8 with (first | refine wpList_store_mid rfl 25 _ _ rfl q 29 (ints 26 (Pm.up fun i => i)) rfl rfl (by rw [ints_size]; exact hth) (by rw [ints_size]; exact info_perm) (ints_one _ _) ?_)
  have h5 : PlS w (W4.setCells q 29 (ints 26 (Pm.up fun i => i)).toList) a b c rf pl (Pm.up fun i => i) qf q := by
    obtain ⟨x, y, hf⟩ := h4.f
    have hne := h4.ne
    refine ⟨⟨row_setCells_other (by omega) h4.mg.row, below_setCells (by omega) h4.mg.below⟩, ?_, ⟨x, y, row_setCells_other (by omega) hf⟩, h4.ne⟩
    have := row_setCells (l := (ints 26 (Pm.up fun i => i)).toList) (o := 29) h4.n
    rw [mac_plugs] at this
    exact this
  generalize W4.setCells q 29 (ints 26 (Pm.up fun i => i)).toList = V5 at *
  clear h4 hth
  refine wp_region_noPanic ?_
  refine wp_region_held_drew (S := fun W => PlS w W a b c rf pl (Pm.up fun i => i) qf q) (by kernel_rfl) h5.drew (fun hS => ?_)
  refine vtake 0 24 (.agg (mac a b c rf (Pm.up fun i => i))) rfl rfl (by kernel_rfl) (by kernel_rfl) (by kernel_rfl) (fun _ _ _ _ h => h) (by rfl) (fun W hW => by have u := run_loadVar_row (P := Try.prog) W q 27 27 (mac a b c rf (Pm.up fun i => i)) (0, 0) _ hW.n Try.underlying27 rfl (by rw [mac_size]; exact v_info_mac); clear hS hW; simp [execOp, Act.eval, Instr.loadAt, Instr.sureAddr, u]) hS ?_
  simp only [List.setIfInBounds_toArray, List.set_cons_succ, List.set_cons_zero]
  refine vtake 1 25 (.pointer (some ⟨w.heap.size, 29, none⟩)) rfl rfl (by kernel_rfl) (by kernel_rfl) (by kernel_rfl) (fun _ _ _ _ h => h) (by rfl) (fun W hW => by clear hS hW; go_simp) hS ?_
  simp only [List.setIfInBounds_toArray, List.set_cons_succ, List.set_cons_zero]
  refine vtake 2 26 (.agg (ints 26 pl)) rfl rfl (by kernel_rfl) (by kernel_rfl) (by kernel_rfl) (fun _ _ _ _ h => h) (by rfl) (fun W hW => by have u := run_loadAt_mid (P := Try.prog) W w.heap.size 29 25 (ints 26 pl).toList _ (mid_pl hW.mg.row) Try.underlying25 rfl (by rw [Array.length_toList, ints_size]; exact info_perm); rw [Array.toArray_toList] at u; clear hS hW; simp [execOp, Act.eval, u]) hS ?_
  simp only [List.setIfInBounds_toArray, List.set_cons_succ, List.set_cons_zero]
  refine vtake 3 27 (.string t) rfl rfl (by kernel_rfl) (by kernel_rfl) (by kernel_rfl) (fun _ _ _ _ h => h) (by rfl) (fun W hW => by clear hS hW; go_simp) hS ?_
  simp only [List.setIfInBounds_toArray, List.set_cons_succ, List.set_cons_zero]
  refine wpAnyH_ready (rs := [4]) (by kernel_rfl) (by simp) ?_
  refine AllReadyH.cons (o := _) rfl (fun K hK => ?_) AllReadyH.nil
  rw [if_pos (by rfl)]
  go_simp
  refine Calls.mono (P1.out _) ?_
  rintro e Y ⟨rfl, hb8⟩
  refine hK.out _ _ (hS.step hb8) (fun hS1 => ?_)
  clear hK hS K
  have hS := hS1
  clear hS1
  refine wpAnyH_ready (rs := [5]) (by kernel_rfl) (by simp) ?_
  refine AllReadyH.cons (o := _) rfl (fun K hK => ?_) AllReadyH.nil
  rw [if_pos (by rfl)]
  go_simp
  refine Calls.mono (H2.out _ hS.mg.below) ?_
  rintro e Y ⟨rfl, hb8⟩
  refine hK.out _ _ (hS.step hb8) (fun hS1 => ?_)
  clear hK hS K
  have hS := hS1
  clear hS1
  refine vtake 6 23 (.tuple #[.string T, .agg #[.int .i64 0, .int .i64 0]]) rfl rfl (by kernel_rfl) (by kernel_rfl) (by kernel_rfl) (fun _ _ _ _ h => h) (by rfl) (fun W hW => by clear hS hW; go_simp) hS ?_
  simp only [List.setIfInBounds_toArray, List.set_cons_succ, List.set_cons_zero]
  refine vtake 7 30 (.string T) rfl rfl (by kernel_rfl) (by kernel_rfl) (by kernel_rfl) (fun _ _ _ _ h => h) (by rfl) (fun W hW => by clear hS hW; go_simp) hS ?_
  simp only [List.setIfInBounds_toArray, List.set_cons_succ, List.set_cons_zero]
  refine vtake 8 31 (.agg #[.int .i64 0, .int .i64 0]) rfl rfl (by kernel_rfl) (by kernel_rfl) (by kernel_rfl) (fun _ _ _ _ h => h) (by rfl) (fun W hW => by clear hS hW; go_simp) hS ?_
  simp only [List.setIfInBounds_toArray, List.set_cons_succ, List.set_cons_zero]
  refine vtake 9 8 (.string T) rfl rfl (by kernel_rfl) (by kernel_rfl) (by kernel_rfl) (fun _ _ _ _ h => h) (by rfl) (fun W hW => by clear hS hW; go_simp) hS ?_
  simp only [List.setIfInBounds_toArray, List.set_cons_succ, List.set_cons_zero]
  obtain ⟨x0, y0, hf⟩ := hS.f
  refine wpAnyH_ready (rs := [10]) (by kernel_rfl) (by simp) ?_
  refine AllReadyH.cons (o := _) rfl (fun K hK => ?_) AllReadyH.nil
  rw [if_pos (by rfl)]
  refine wp_store_row 31 _ _ rfl qf #[.int .i64 0, .int .i64 0] rfl rfl 31 _ hf v_info_fault rfl (two_one _ _) ?_
  refine hK.out _ _ (hS.row _ _) (fun hS1 => ?_)
  have hf2 := hf.row #[.int .i64 0, .int .i64 0]
  clear hK hS K hf
  have hS := hS1
  clear hS1
  refine wpAnyH_done (by kernel_rfl) ?_ _
  refine NoPanic.normal ?_
  obtain ⟨V6, hV6⟩ : ∃ V6, V6 = Y.setRow qf #[.int .i64 0, .int .i64 0] := ⟨_, rfl⟩
  rw [← hV6] at hS hf2 ⊢
  clear hV6
  have c0 := hf2.cell (i := 0) rfl
  have hmid := mid_pl hS.mg.row
  go_wp2_with (first | refine wpList_load_arr_w (by rfl) 25 _ rfl w.heap.size 29 rfl (ints 26 pl) _ hmid Try.underlying25 rfl (by rw [ints_size]; exact info_perm) ?_)
  refine (P2.out _).mono ?_
  rintro e W7 ⟨rfl, hb⟩
  have hbe := (hS.step hb).mg.below
  have hSS : (S.toList == S.toList) = true := by simp
  clear hb hS hf2 c0 hmid
  go_wp2
  go_ret
  exact ⟨rfl, hbe⟩
theorem gE_of {g : Gm} (h1 : 1 ≤ g.n ∧ g.n ≤ 4) (h2 : whE g g.n = 0) (h3 : g.rl = g.n ∧ ins g.rl g.ri = true) (h4 : g.sl = g.n ∧ ins g.sl g.st = true) (h5 : Pm.wrong g.rf = 0 ∧ undo true g.rf = true) (h6 : Pm.wrong g.pl = 0) (h7 : undo false g.pl = true) : gE g = 0 := by
  unfold gE
  rw [if_neg (by omega), if_neg (fun e => e h2), if_neg (fun e => e h3.1), if_neg (by rw [h3.2]; decide), if_neg (fun e => e h4.1), if_neg (by rw [h4.2]; decide), if_neg (fun e => e h5.1), if_neg (by rw [h5.2]; decide), if_neg (fun e => e h6), if_neg (by rw [h7]; decide)]
/-- The machine without plugs. -/
def bare (g : Gm) : Gm := { g with pl := Pm.up fun i => i }
theorem whE_bare (g : Gm) : ∀ n, whE (bare g) n = whE g n
  | 0 => rfl
  | n + 1 => by
    show (if whE (bare g) n ≠ 0 then whE (bare g) n else if Pm.wrong (g.wi n) ≠ 0 then Pm.wrong (g.wi n) else if ins (g.nl n) (g.no n) = true then 0 else 3) = (if whE g n ≠ 0 then whE g n else if Pm.wrong (g.wi n) ≠ 0 then Pm.wrong (g.wi n) else if ins (g.nl n) (g.no n) = true then 0 else 3)
    rw [whE_bare g n]
theorem gE_bare {g : Gm} (h : gE g = 0) : gE (bare g) = 0 := by
  obtain ⟨h1, h2, h3, h4, h5, _, _⟩ := gE_zero h
  refine gE_of h1 (by rw [whE_bare]; exact h2) h3 h4 h5 (Pm.wrong_up _ Pm.IsPerm.id) ((undo_iff _ _).2 fun i hi => ⟨rfl, fun e => by cases e⟩)
theorem ma_bare (g : Gm) : maOf (bare g) = Om.unplugged (maOf g) := rfl
theorem one_nums {W : World} {v : Value} {n : Nat} {f : Nat → Int} (h : NumsAt W v n f) : v.oneCell' = true := by
  obtain ⟨a, c, e, _⟩ := h
  rw [e]
  rfl
theorem one_wheels {W : World} {v : Value} {n : Nat} {wi : Nat → Nat → Int} {nl : Nat → Nat} {no : Nat → Nat → Int} (h : WheelsAt W v n wi nl no) : v.oneCell' = true := by
  obtain ⟨a, c, R, e, _⟩ := h
  rw [e]
  rfl
theorem rotorplugs_of (TW : ∀ (vm : Value) (g : Gm) (t : ByteArray) (w : World), MacAt w vm g → Calls Try.prog 7 #[vm, .string t] w fun e w' => e = .returned (.tuple #[.string ⟨(rwS g t.data.toList).toArray⟩, .agg #[.int .i64 (rwE g t.data.toList), .int .i64 (rwAt g t.data.toList)]]) ∧ Below w.heap.size w w')
    (HA : ∀ W, Calls Try.prog 6 #[] W fun e w' => e = .returned (.bool true) ∧ Below W.heap.size W w') (vm : Value) (g : Gm) (t : ByteArray) (w : World) (hm : MacAt w vm g) : Calls Try.prog 4 #[vm, .string t] w fun e w' => e = .returned (.bool true) ∧ Below w.heap.size w w' := by
  by_cases h0 : rwE g t.data.toList = 0
  · obtain ⟨hg, hc⟩ := rwE_zero h0
    rcases ck_cases t.data.toList with ⟨_, k1, k2, k3⟩ | k1
    · obtain ⟨hM, _⟩ := ok_maOf hg
      have hl := ls_of k3
      have a0 : ∀ (g : Gm) l, gE g = 0 → ckAt l = 0 → rwAt g l = 0 := fun g l hg h => by unfold rwAt; rw [if_neg (fun h => h hg)]; exact h
      have e0 : ∀ (g : Gm) l, gE g = 0 → ckE l = 0 → rwE g l = 0 := fun g l hg h => by unfold rwE; rw [if_neg (fun h => h hg)]; exact h
      have H1 := fun W (hb : Below w.heap.size w W) => TW vm g t W (hm.below hb)
      rw [h0, a0 g _ hg k1] at H1
      have hbg := gE_bare hg
      have hlU : Ls (Om.plug (maOf g).pl t.data.toList) := Om.plug_ls hM.pl hl
      have hUn : (Om.plug (maOf g).pl t.data.toList).length ≤ 65536 := by unfold Om.plug; rw [List.length_map]; exact k2
      have hcU := ck_of_ls hlU hUn
      have hT : rwS (bare g) (Om.plug (maOf g).pl t.data.toList) = Om.wr (Om.unplugged (maOf g)) (maOf g).st (Om.plug (maOf g).pl t.data.toList) := by
        rw [rwS_ok (e0 _ _ hbg hcU.1), ma_bare]
        rfl
      have hlT : Ls (rwS (bare g) (Om.plug (maOf g).pl t.data.toList)) := by rw [hT]; exact Om.wr_ls (Om.ok_unplugged hM) _ hlU
      have hnT : (rwS (bare g) (Om.plug (maOf g).pl t.data.toList)).length ≤ 65536 := by rw [hT, Om.wr_length]; exact hUn
      have hpl : ints 26 g.pl = ints 26 (Pm.up (maOf g).pl) := ints_ext (perm_toNat (gE_zero hg).2.2.2.2.2.1).2
      have hPS : Om.plug (maOf g).pl (rwS (bare g) (Om.plug (maOf g).pl t.data.toList)) = rwS g t.data.toList := by rw [hT, rwS_ok h0]; exact Om.wr_plugs hM _ hl
      obtain ⟨a, b, c, rfl, m1, m2, m3⟩ := hm
      refine rplugs_run a b c (one_wheels m1) (one_nums m2) (one_nums m3) g.rf g.pl t ⟨(rwS g t.data.toList).toArray⟩ ⟨(Om.plug (maOf g).pl t.data.toList).toArray⟩ ⟨(rwS (bare g) (Om.plug (maOf g).pl t.data.toList)).toArray⟩ w HA H1 (fun W => ?_) (fun W hb => ?_) (fun W => ?_)
      · rw [hpl]
        exact plugged_any _ hM.pl.lt t hl (by rw [Pl.size_len]; exact k2) W
      · have := TW (.agg (mac a b c g.rf (Pm.up fun i => i))) (bare g) ⟨(Om.plug (maOf g).pl t.data.toList).toArray⟩ W ⟨a, b, c, rfl, m1.below hb, m2.below hb, m3.below hb⟩
        rw [show (⟨(Om.plug (maOf g).pl t.data.toList).toArray⟩ : ByteArray).data.toList = Om.plug (maOf g).pl t.data.toList from rfl, e0 _ _ hbg hcU.1, a0 _ _ hbg hcU.2] at this
        exact this
      · rw [hpl]
        have := plugged_any (maOf g).pl hM.pl.lt ⟨(rwS (bare g) (Om.plug (maOf g).pl t.data.toList)).toArray⟩ hlT (by rw [Pl.size_len]; exact hnT) W
        rw [show (⟨(rwS (bare g) (Om.plug (maOf g).pl t.data.toList)).toArray⟩ : ByteArray).data.toList = rwS (bare g) (Om.plug (maOf g).pl t.data.toList) from rfl, hPS] at this
        exact this
    · rw [hc] at k1; cases k1
  · have H1 := fun W (hb : Below w.heap.size w W) => TW vm g t W (hm.below hb)
    obtain ⟨a, b, c, rfl, _⟩ := hm
    exact rplugs_bad a b c g.rf g.pl t _ _ _ (by simpa using h0) w HA H1
end Go.Proofs.Ytpdjfjmfnmocmaf
