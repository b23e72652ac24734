/-
  Several texts, joined: OPl, OSame, OBack, RoTu, RoSm.
-/
import Derived.Test.YtbbpbcmpemmgjaaORWr
import Derived.Test.YtbbpbcmpemmgjaaJn19
import Derived.Deep.QuietTactic
import Derived.BigQuiet
import Derived.RegionTactic
/-
  Slices of permutations; the document's Turned and All (chapter 8).
-/
namespace Go.Proofs.Ytbbpbcmpemmgjaa
open Go.RowKit PK

/-- Permutations, one behind the other, cell by cell. -/
def flat (P : Nat → Nat → Nat) : Nat → Int := fun i => (P (i / 26) (i % 26) : Nat)
/-- The result's variable and the array that is filled. -/
structure TuAt (w W : World) (f : Nat → Int) : Prop where
  r : RowAt W w.heap.size 25 (ints 26 fun _ => 0)
  o : RowAt W (w.heap.size + 1) 25 (ints 26 f)
  below : Below w.heap.size w W
theorem TuAt.new (w : World) : TuAt w ((w.alloc (.cells (ints 26 fun _ => 0) 25)).alloc (.cells (ints 26 fun _ => 0) 25)) fun _ => 0 := by
  have h3 := RowAt.new (w.alloc (.cells (ints 26 fun _ => 0) 25)) 25 (ints 26 fun _ => 0)
  simp only [World.size_alloc] at h3
  exact ⟨(RowAt.new w _ _).alloc _, h3, ((Below.refl _ w).alloc (Nat.le_refl _) _).alloc (by simp only [World.size_alloc]; omega) _⟩
theorem TuAt.set {w W : World} {f : Nat → Int} (h : TuAt w W f) (i : Nat) (v : Int) : TuAt w (W.setCell ⟨w.heap.size + 1, i, none⟩ (.int .i64 v)) (upd f i v) := by
  refine ⟨h.r.setOther _ _ (by simp), ?_, h.below.setCell (p := ⟨w.heap.size + 1, i, none⟩) (by simp) _⟩
  have := h.o.set i (.int .i64 v)
  rw [ints_set] at this
  exact this
theorem o_results1 {P : Program} {fn : Func} {p : Tmp} {ty : TypeId} (h : fn.results = #[.cell p ty]) (tmps : Array Value) (w : World) (g : Nat) (t : TypeId) (cs : Array Value) (fr : Nat × Nat) (d : TypeDesc)
    (hp : tmps.getD p undef = .pointer (some ⟨g, 0, none⟩)) (hg : w.heap[g]? = some (.cells cs t fr))
    (hu : P.underlying ty = some d) (hd : (match d with | .struct _ | .array _ _ => true | _ => false) = true) (hi : (P.info? ty).map (·.size) = some cs.size) :
    (results fn tmps).run P w = .ok (.agg cs) w := by
  have hp' : tmps[p]?.getD undef = .pointer (some ⟨g, 0, none⟩) := by simpa using hp
  simp [results, h, hp', asAddr, run_loadVar_row w g t ty cs fr d hg hu hd hi]
end Go.Proofs.Ytbbpbcmpemmgjaa

/-
  Contract of perm.Same.
-/
namespace Go.Proofs.Ytbbpbcmpemmgjaa
open Go.RowKit PK

def fill (a : Nat → Nat) (v : Nat → Int) : Nat → Nat → Int
  | 0 => fun _ => 0
  | k + 1 => upd (fill a v k) (a k) (v k)
theorem taking_any (m : Nat) (cap : Array Value) (a : Nat → Nat) (v : Nat → Int) (ha : ∀ i, i < 26 → a i < 26) (w : World) (hent : ∀ (args : Array Value) (W : World), (callFunc m args).run Try.prog W = .ok (.enter m args) W)
    (hp : ∀ i, i < 26 → ∀ W : World, Below w.heap.size w W → Calls Try.prog m (#[.int .i64 (i : Nat)] ++ cap) W fun e w' => e = .returned (.tuple #[.int .i64 (a i : Nat), .int .i64 (v i)]) ∧ Below W.heap.size W w') :
    Calls Try.prog 55 #[.func (.func m) #[] cap] w fun e w' => e = .returned (.agg (ints 26 (fill a v 26))) ∧ Below w.heap.size w w' := by
  have HP : Hid (∀ i, i < 26 → ∀ W : World, Below w.heap.size w W → Calls Try.prog m (#[.int .i64 (i : Nat)] ++ cap) W fun e w' => e = .returned (.tuple #[.int .i64 (a i : Nat), .int .i64 (v i)]) ∧ Below W.heap.size W w') := hp
  clear hp
  go_enter Try.func55, Try.ntmps55
  go_wp2
  rw [zero26]
  go_loopw [7] (fun i W => ∃ k : Nat, k ≤ 26 ∧ i = .int .i64 k ∧ RowAt W w.heap.size 25 (ints 26 fun _ => 0) ∧ RowAt W (w.heap.size + 1) 25 (ints 26 (fill a v k)) ∧ Below w.heap.size w W) (fun i _ => (26 - intOf i).toNat)
  case atStart =>
    refine ⟨0, by omega, rfl, (RowAt.new w _ _).alloc _, ?_, ((Below.refl _ _).alloc (Nat.le_refl _) _).alloc (by simp) _⟩
    have := RowAt.new (w.alloc (Obj.cells (ints 26 fun _ => 0) 25)) 25 (ints 26 fun x => 0)
    rw [World.size_alloc] at this
    exact this
  case round =>
    obtain ⟨k, hk, rfl, hrow0, hrow, hb⟩ := hrel
    by_cases hlt : k < 26
    · have ha' := ha k hlt
      have hsz := hb.size
      have h1 := hrow.lt
      have HW := HP.out k hlt wr hb
      have HV : Hid (Calls Try.prog m (#[.int .i64 (k : Nat)] ++ cap) wr fun e w' => e = .returned (.tuple #[.int .i64 (a k : Nat), .int .i64 (v k)]) ∧ Below wr.heap.size wr w') := HW
      clear HW
      obtain ⟨n, hn⟩ : ∃ n : Nat, n = a k := ⟨_, rfl⟩
      rw [← hn] at HV ha'
      have HNN : Hid (n = a k) := hn
      clear hn
      go_wp2_with fail
      refine HV.out.mono ?_
      rintro e w1 ⟨rfl, hb1⟩
      have hrow1 := hrow.below hb1 h1
      have hc := hrow1.cell (ints_get (fill a v k) ha')
      have hf := hrow1.frozen n
      go_wp2
      go_roundw
      case rel =>
        refine ⟨k + 1, by omega, by go_num, ?_, ?_, ?_⟩
        · exact (hrow0.below hb1 hrow0.lt).setOther _ _ (by simp)
        · have := hrow1.set n (.int .i64 (v k))
          rw [ints_set] at this
          show RowAt _ _ _ (ints 26 (upd (fill a v k) (a k) (v k)))
          rw [← HNN.out]
          exact this
        · exact (hb.trans (hb1.mono hsz)).setCell (by simp) _
      case measure => simp [intOf]; omega
    · have HK : Hid (k = 26) := by rw [Hid]; omega
      have h1 := hrow.lt
      go_wp2_with (first
        | refine wpList_load_row rfl 25 _ rfl (w.heap.size + 1) rfl 25 (ints 26 (fill a v k)) (0, 0) _ hrow Try.underlying25 rfl (by rw [ints_size]; exact info_perm) ?_
        | refine wpList_store_row rfl 25 _ _ rfl w.heap.size (ints 26 (fill a v k)) rfl rfl 25 _ hrow0 (by rw [ints_size]; exact info_perm) (by simp only [ints_size]) (ints_one _ _) ?_)
      refine bodyPost_ret (v := .agg (ints 26 (fill a v k))) (results_cell_row rfl _ _ w.heap.size 25 _ (0, 0) _ rfl (hrow0.row _) Try.underlying25 rfl (by rw [ints_size]; exact info_perm)) rfl ⟨by rw [HK.out], Below.setRow hb _ (Nat.le_refl _) _⟩
theorem fill_at (a : Nat → Nat) (v : Nat → Int) (hi : ∀ i j, i < 26 → j < 26 → a i = a j → i = j) : ∀ k, k ≤ 26 → ∀ i, i < k → fill a v k (a i) = v i
  | 0, _, i, h => by omega
  | k + 1, hk, i, h => by
    show upd (fill a v k) (a k) (v k) (a i) = v i
    by_cases e : i = k
    · subst e; simp
    · rw [upd_other _ _ (fun e2 => e (hi i k (by omega) (by omega) e2))]
      exact fill_at a v hi k (by omega) i (by omega)
theorem fill_id (v : Nat → Int) : ints 26 (fill (fun i => i) v 26) = ints 26 v := ints_ext fun j hj => fill_at (fun i => i) v (fun _ _ _ _ e => e) 26 (Nat.le_refl _) j hj
theorem same1_any (i : Int) (w : World) : Calls Try.prog 56 #[.int .i64 i] w fun e w' => e = .returned (.tuple #[.int .i64 i, .int .i64 i]) ∧ w = w' := by
  go_enter Try.func56, Try.ntmps56
  go_wp2
  go_ret2
  exact ⟨rfl, rfl⟩
theorem same_any (w : World) : Calls Try.prog 27 #[] w fun e w' => e = .returned (.agg (ints 26 (Pm.up fun i => i))) ∧ Below w.heap.size w w' := by
  go_enter Try.func27, Try.ntmps27
  go_wp2_with fail
  rw [zero26]
  refine (taking_any 56 #[] (fun i => i) (Pm.up fun i => i) (fun _ h => h) _ (by intro args W; go_simp) (fun i hi W _ => (same1_any i W).mono ?_)).mono ?_
  · rintro e w' ⟨rfl, rfl⟩
    exact ⟨rfl, Below.refl _ _⟩
  · rintro e w1 ⟨rfl, hb1⟩
    rw [fill_id]
    have hrow := (RowAt.new w 25 (ints 26 fun _ => 0)).below hb1 (by simp)
    go_wp2_with (refine wpList_store_row rfl 25 _ _ rfl w.heap.size (ints 26 (Pm.up fun i => i)) rfl rfl 25 _ hrow (by rw [ints_size]; exact info_perm) (by simp only [ints_size]) (ints_one _ _) ?_)
    exact bodyPost_ret (v := .agg (ints 26 (Pm.up fun i => i))) (results_cell_row rfl _ _ w.heap.size 25 _ (0, 0) _ rfl (hrow.row _) Try.underlying25 rfl (by rw [ints_size]; exact info_perm)) rfl ⟨rfl, Below.setRow (((Below.refl _ _).alloc (Nat.le_refl _) _).trans (hb1.mono (by simp))) _ (Nat.le_refl _) _⟩
end Go.Proofs.Ytbbpbcmpemmgjaa

/-
  Contract of perm.Back.
-/
namespace Go.Proofs.Ytbbpbcmpemmgjaa
open Go.RowKit PK

theorem firstWrong_any (fs : Nat → Nat → Int) (n : Nat) (hn : n ≤ 2) (b : Nat) (w : World) (hbw : b < w.heap.size) (hr : ∀ k, k < n → w.rangeAt b (k * 26) (ints 26 (fs k)).toList) :
    Calls Try.prog 59 #[.slice (some ⟨b, 0, none⟩) n n] w fun e w' => e = .returned (.int .i64 (Pm.firstBad fs n)) ∧ Below w.heap.size w w' := by
  have HR : Hid (∀ k, k < n → w.rangeAt b (k * 26) (ints 26 (fs k)).toList) := hr
  clear hr
  go_enter Try.func59, Try.ntmps59
  go_wp2
  go_loopw [8] (fun i W => ∃ k : Nat, k ≤ n ∧ i = .int .i64 k ∧ Hid (Pm.firstBad fs k = 0) ∧ Below w.heap.size w W) (fun i _ => (n - intOf i).toNat)
  case atStart => exact ⟨0, by omega, rfl, rfl, Below.refl _ _⟩
  case round =>
    obtain ⟨k, hk, rfl, HN, hb⟩ := hrel
    have hsz := hb.size
    by_cases hlt : k < n
    · have HC : Hid (wr.rangeAt b (k * 26) (ints 26 (fs k)).toList) := Below.rangeAt hb (HR.out k hlt) hbw
      have hX : Pm.wrong (fs k) = 0 ∨ (Pm.wrong (fs k) != 0) = true := by by_cases e : Pm.wrong (fs k) = 0 <;> simp [e]
      obtain ⟨x, hx⟩ : ∃ x, x = Pm.wrong (fs k) := ⟨_, rfl⟩
      rw [← hx] at hX
      have HX : Hid (x = Pm.wrong (fs k)) := hx
      clear hx
      have hcall : ∀ W : World, Calls Try.prog 84 #[.agg (ints 26 (fs k))] W fun e w' => e = .returned (.int .i64 x) ∧ Below W.heap.size W w' := fun W => by rw [HX.out]; exact wrong_any (fs k) W
      have HL : Hid (∀ W : World, Calls Try.prog 84 #[.agg (ints 26 (fs k))] W fun e w' => e = .returned (.int .i64 x) ∧ Below W.heap.size W w') := hcall
      clear hcall
      rcases hX with rfl | hX
      · go_wp2_with (first
          | refine wpList_load_mid rfl 25 _ rfl b (k * 26) rfl (ints 26 (fs k)).toList _ HC.out Try.underlying25 rfl (by rw [Array.length_toList, ints_size]; exact info_perm) ?_
          | (refine wpList_store_row rfl 25 _ _ rfl wr.heap.size (ints 26 (fs k)) rfl rfl 25 _ (RowAt.new wr _ _) (by rw [ints_size]; exact info_perm) (by rw [ints_size]; rfl) (ints_one _ _) ?_; rw [World.setRow_alloc_new])
          | refine wpList_load_row rfl 25 _ rfl wr.heap.size rfl 25 (ints 26 (fs k)) (0, 0) _ (RowAt.new wr _ _) Try.underlying25 rfl (by rw [ints_size]; exact info_perm) ?_
          | (go_at_call 84; refine (HL.out _).mono ?_; rintro e w1 ⟨rfl, hb1⟩))
        go_roundw
        case rel => exact ⟨k + 1, by omega, by go_num, by rw [Hid, Pm.firstBad_succ fs k HN.out]; exact HX.out.symm, (hb.alloc hsz _).trans (hb1.mono (by simp; omega))⟩
        case measure => simp [intOf]; omega
      · go_wp2_with (first
          | refine wpList_load_mid rfl 25 _ rfl b (k * 26) rfl (ints 26 (fs k)).toList _ HC.out Try.underlying25 rfl (by rw [Array.length_toList, ints_size]; exact info_perm) ?_
          | (refine wpList_store_row rfl 25 _ _ rfl wr.heap.size (ints 26 (fs k)) rfl rfl 25 _ (RowAt.new wr _ _) (by rw [ints_size]; exact info_perm) (by rw [ints_size]; rfl) (ints_one _ _) ?_; rw [World.setRow_alloc_new])
          | refine wpList_load_row rfl 25 _ rfl wr.heap.size rfl 25 (ints 26 (fs k)) (0, 0) _ (RowAt.new wr _ _) Try.underlying25 rfl (by rw [ints_size]; exact info_perm) ?_
          | (go_at_call 84; refine (HL.out _).mono ?_; rintro e w1 ⟨rfl, hb1⟩))
        go_ret
        exact ⟨ret_int (HX.out.trans (Pm.firstBad_stop fs k n HN.out (by rw [← HX.out]; simpa using hX) hlt).symm), (hb.alloc hsz _).trans (hb1.mono (by simp; omega))⟩
    · have HK : Hid (k = n) := by rw [Hid]; omega
      go_wp2
      go_ret
      exact ⟨ret_int (by rw [← HK.out]; exact HN.out.symm), hb⟩
theorem zero_perm : (Try.prog.info? 25).map (fun i => (i.zero, i.size)) = some (some (.agg (ints 26 fun _ => 0)), 26) := by kernel_rfl
theorem fill_perm (p : Nat → Nat) (hp : Pm.IsPerm p) (v : Nat → Int) : ints 26 (fill p v 26) = ints 26 fun j => v (Pm.inv p j) := ints_ext fun j hj => by
  have h := hp.inv_spec j hj
  have := fill_at p v hp.inj 26 (Nat.le_refl _) (Pm.inv p j) h.1
  rw [h.2] at this
  exact this
theorem fill_back (p : Nat → Nat) (hp : Pm.IsPerm p) : ints 26 (fill p (Pm.up fun i => i) 26) = ints 26 (Pm.up (Pm.inv p)) := fill_perm p hp _
theorem one_ok (p : Nat → Nat) (hp : Pm.IsPerm p) : Pm.firstBad (fun _ => Pm.up p) 1 = 0 := (Pm.firstBad_succ (fun _ => Pm.up p) 0 rfl).trans (Pm.wrong_up p hp)
theorem back1_any (p : Nat → Nat) (i : Nat) (hi : i < 26) (bp : Nat) (w : World) (hrp : RowAt w bp 25 (ints 26 (Pm.up p))) :
    Calls Try.prog 98 #[.int .i64 (i : Int), .pointer (some ⟨bp, 0, none⟩)] w fun e w' => e = .returned (.tuple #[.int .i64 (p i : Nat), .int .i64 (i : Int)]) ∧ Below w.heap.size w w' := by
  have hc1 := hrp.cell (ints_get (Pm.up p) hi)
  simp only [Pm.up] at hc1
  clear hrp
  go_enter Try.func98, Try.ntmps98
  go_wp2
  go_ret2
  exact ⟨rfl, rfl, rfl, rfl, Nat.le_refl _, fun _ _ => rfl⟩
theorem back_ok (p : Nat → Nat) (hp : Pm.IsPerm p) (w : World) :
    Calls Try.prog 93 #[.agg (ints 26 (Pm.up p))] w fun e w' => e = .returned (.tuple #[.agg (ints 26 (Pm.up (Pm.inv p))), .int .i64 0]) ∧ Below w.heap.size w w' := by
  have H0 : Hid (Pm.firstBad (fun _ => Pm.up p) 1 = 0) := one_ok p hp
  have hmf : ∀ (fn : Fn) (first cap : Array Value) (w : World), (Instr.makeFunc fn first cap).run Try.prog w = .ok (.func fn first cap) w := fun _ _ _ _ => rfl
  go_enter Try.func93, Try.ntmps93
  go_wp2_with (first
    | refine wpList_load_row rfl 25 _ rfl w.heap.size rfl 25 (ints 26 (Pm.up p)) (0, 0) _ ((RowAt.new w _ _).alloc _) Try.underlying25 rfl (by rw [ints_size]; exact info_perm) ?_
    | refine wpList_build1 rfl 118 25 _ rfl 26 (Pm.up p) rfl (by decide) Try.underlying118 zero_perm (by decide) ?_)
  rw [zero26]
  refine (firstWrong_any (fun _ => Pm.up p) 1 (by decide) _ _ (by simp) (range_one (RowAt.newAt (by simp)))).mono ?_
  rintro e W1 ⟨rfl, hb0⟩
  obtain ⟨r1, r3, hb1, hs1⟩ := after1 hb0
  clear hb0
  rw [H0.out]
  go_wp2_with fail
  refine (taking_any 98 #[.pointer (some ⟨w.heap.size, 0, none⟩)] p (Pm.up fun i => i) hp.lt _ (by intro args W; go_simp) (fun i hi W hW => back1_any p i hi _ W (r1.below hW (by omega)))).mono ?_
  rintro e W2 ⟨rfl, hb2⟩
  rw [fill_back p hp]
  have hs2 := hb2.size
  have hrow := r3.below hb2 (by omega)
  go_wp2_with (refine wpList_store_row rfl 25 _ _ rfl (w.heap.size + 1) (ints 26 (Pm.up (Pm.inv p))) rfl rfl 25 _ hrow (by rw [ints_size]; exact info_perm) (by simp only [ints_size]) (ints_one _ _) ?_)
  exact bodyPost_ret (v := .tuple #[.agg (ints 26 (Pm.up (Pm.inv p))), .int .i64 0]) (results_cell_tmp2 rfl _ _ (w.heap.size + 1) 25 _ (0, 0) _ _ rfl rfl (hrow.row _) Try.underlying25 rfl (by rw [ints_size]; exact info_perm)) rfl ⟨rfl, Below.setRow (hb1.trans (hb2.mono (by omega))) _ (by omega) _⟩
end Go.Proofs.Ytbbpbcmpemmgjaa

/-
  Contract of rotor.turning.
-/
namespace Go.Proofs.Ytbbpbcmpemmgjaa
open Go.RowKit PK Vg

def nof : Nat → Bool := fun _ => false
def noz : Nat → Nat := fun _ => 0
theorem v_info_wl : (Try.prog.info? 127).map (·.size) = some 80 := by kernel_rfl
theorem v_zero_wl : (Try.prog.info? 127).map (·.zero) = some (some (.agg (wlA noz noz nof 0 0))) := by kernel_rfl
theorem built_wl (p q : Nat → Nat) (r s : Nat) : Try.prog.built 127 [(0, .agg (ints 26 (Pm.up p))), (1, .agg (ints 26 (Pm.up q))), (3, .int .i64 (r : Nat)), (4, .int .i64 (s : Nat))] = some (wlA p q nof r s) := by kernel_rfl
section
variable {P : Program}
theorem wpList_buildA {ops : Array Oper} {rest : List Oper} {op : Oper} {a : Act} {w : World} {Q : Exit → Act → World → Prop} (hgd : op.guard = none) (t : TypeId) (xs : List (Nat × Operand)) (ho : op.op = .build t xs.toArray) (vs : List (Nat × Value)) (hv : xs.map (fun x => (x.1, a.eval x.2)) = vs)
    (cells : Array Value) (hb : P.built t vs = some cells) (h : wpList P ops Q rest (a.put op.dst (.agg cells)) w) : wpList P ops Q (op :: rest) a w :=
  wpList_plain hgd fun _ hK => by
    unfold Oper.wp execOp
    have hm : xs.toArray.map (fun (i, x) => (i, a.eval x)) = vs.toArray := by rw [← hv]; simp
    simp only [ho, Sem.run_bind, hm, run_build w t vs.toArray cells hb, Result.andThen_ok]
    exact hK _ _ h
end
theorem take_no {l : List Nat} {k : Nat} (h : k < l.length) : upd (fun c => (l.take k).contains c) (l.getD k 0) true = fun c => (l.take (k + 1)).contains c := by
  funext c
  rw [List.take_succ_eq_append_getElem h]
  have e : l.getD k 0 = l[k] := by simp [List.getD, h]
  rw [e]
  unfold upd
  by_cases h1 : c = l[k]
  · rw [if_pos h1, eq_comm, List.contains_iff_mem, List.mem_append, List.mem_singleton]
    exact .inr h1
  · rw [if_neg h1, Bool.eq_iff_iff, List.contains_iff_mem, List.contains_iff_mem, List.mem_append, List.mem_singleton]
    exact ⟨.inl, fun h => h.resolve_right h1⟩
theorem wlA_at {p b : Nat → Nat} {no : Nat → Bool} {ri at' k : Nat} (hk : k < 26) : (wlA p b no ri at')[52 + k]? = some (.bool (no k)) := by
  unfold wlA
  rw [tab_get _ (by omega)]
  unfold wcl
  rw [if_neg (by omega), if_neg (by omega), if_pos (by omega), show 52 + k - 52 = k by omega]
structure TnAt (w W : World) (u : Nat → Int) (v : Value) (q : Nat) (A : Array Value) : Prop where
  par : RowAt W w.heap.size 62 (whl u v)
  res : RowAt W (w.heap.size + 1) 127 (wlA noz noz nof 0 0)
  out : RowAt W q 127 A
  lt : w.heap.size + 1 < q
  below : Below w.heap.size w W
set_option maxRecDepth 100000 in
set_option maxHeartbeats 4000000 in
theorem turning_any (p : Nat → Nat) (hp : Pm.IsPerm p) (v : Value) (l : List Nat) (hl : ∀ k, k ∈ l → k < 26) (ri st : Nat) (w : World) (hv : NumsAt w v l.length fun k => (l.getD k 0 : Nat)) : Calls Try.prog 74 #[.agg (whl (Pm.up p) v), .int .i64 (ri : Nat), .int .i64 (st : Nat)] w fun e w' => e = .returned (.agg (wlA p (Pm.inv p) (fun c => l.contains c) ri st)) ∧ Below w.heap.size w w' := by
  have hr := RowAt.new w 62 (whl (Pm.up p) v)
  have hmid := mid_wi (hr.alloc (.cells (wlA noz noz nof 0 0) 127))
  have hz80 := o_zero v_zero_wl
  have hz26 := o_zero v_zero_perm
  have HV := (show Hid (NumsAt w v l.length fun k => (l.getD k 0 : Nat)) from hv)
  have HL := (show Hid (∀ k, k < l.length → l.getD k 0 < 26) from fun k hk => hl _ (by rw [List.getD_eq_getElem?_getD, List.getElem?_eq_getElem hk]; exact List.getElem_mem _))
  clear hl hv
  have h1 : RowAt ((w.alloc (.cells (whl (Pm.up p) v) 62)).alloc (.cells (wlA noz noz nof 0 0) 127)) w.heap.size 62 (whl (Pm.up p) v) := hr.alloc _
  have h2 : RowAt ((w.alloc (.cells (whl (Pm.up p) v) 62)).alloc (.cells (wlA noz noz nof 0 0) 127)) (w.heap.size + 1) 127 (wlA noz noz nof 0 0) := by
    have := RowAt.new (w.alloc (.cells (whl (Pm.up p) v) 62)) 127 (wlA noz noz nof 0 0)
    rw [World.size_alloc] at this
    exact this
  have hb0 : Below w.heap.size w ((w.alloc (.cells (whl (Pm.up p) v) 62)).alloc (.cells (wlA noz noz nof 0 0) 127)) := ((Below.refl _ w).alloc (Nat.le_refl _) _).alloc (by simp) _
  go_enter Try.func74, Try.ntmps74
  go_upto_region 1 with fail
  clear hr
  generalize (w.alloc (.cells (whl (Pm.up p) v) 62)).alloc (.cells (wlA noz noz nof 0 0) 127) = W0 at *
  go_wp2_with (first | refine wpList_load_arr rfl 25 _ rfl w.heap.size 0 rfl (ints 26 (Pm.up p)) _ hmid Try.underlying25 rfl (by rw [ints_size]; exact info_perm) ?_)
  refine (back_ok p hp _).mono ?_
  rintro e V ⟨rfl, hb⟩
  have k1 := h1.below hb h1.lt
  have k2 := h2.below hb h2.lt
  have kb := hb0.trans (hb.mono hb0.size)
  have kl := k2.lt
  clear hb h1 h2 hb0 hmid
  go_upto_region 2 with (first | refine wpList_store_row rfl 25 _ _ rfl V.heap.size (ints 26 (Pm.up (Pm.inv p))) rfl rfl 25 _ (RowAt.new V _ _) (by rw [ints_size]; exact info_perm) (by simp only [ints_size]) (ints_one _ _) ?_)
  have j1 := (k1.alloc (.cells (ints 26 fun _ => 0) 25)).rowOther V.heap.size (ints 26 (Pm.up (Pm.inv p))) (by omega)
  have j2 := (k2.alloc (.cells (ints 26 fun _ => 0) 25)).rowOther V.heap.size (ints 26 (Pm.up (Pm.inv p))) (by omega)
  have j3 := (RowAt.new V 25 (ints 26 fun _ => 0)).row (ints 26 (Pm.up (Pm.inv p)))
  have jb := Below.setRow (kb.alloc kb.size (.cells (ints 26 fun _ => 0) 25)) V.heap.size kb.size (ints 26 (Pm.up (Pm.inv p)))
  generalize (V.alloc (.cells (ints 26 fun _ => 0) 25)).setRow V.heap.size (ints 26 (Pm.up (Pm.inv p))) = U at *
  obtain ⟨q7, hq7⟩ : ∃ q, q = V.heap.size := ⟨_, rfl⟩
  rw [← hq7] at j3 kl ⊢
  clear hq7 k1 k2 kb hz26
  have hmid := mid_wi j1
  have jl := j3.lt
  go_upto_region 3 with (first | refine wpList_buildA rfl 127 [(0, .tmp 19), (1, .tmp 20), (3, .tmp 21), (4, .tmp 22)] rfl [(0, .agg (ints 26 (Pm.up p))), (1, .agg (ints 26 (Pm.up (Pm.inv p)))), (3, .int .i64 (ri : Nat)), (4, .int .i64 (st : Nat))] rfl _ (built_wl p (Pm.inv p) ri st) ?_ | refine wpList_load_arr rfl 25 _ rfl w.heap.size 0 rfl (ints 26 (Pm.up p)) _ hmid Try.underlying25 rfl (by rw [ints_size]; exact info_perm) ?_ | refine wpList_load_row rfl 25 _ rfl q7 rfl 25 (ints 26 (Pm.up (Pm.inv p))) (0, 0) _ j3 Try.underlying25 rfl (by rw [ints_size]; exact info_perm) ?_ | refine wpList_store_row rfl 127 _ _ rfl U.heap.size (wlA p (Pm.inv p) nof ri st) rfl rfl 127 _ (RowAt.new U _ _) (by rw [wlA_size]; exact v_info_wl) (by simp only [wlA_size]) (wlA_one _ _ _ _ _) ?_)
  have hg : TnAt w ((U.alloc (.cells (wlA noz noz nof 0 0) 127)).setRow U.heap.size (wlA p (Pm.inv p) nof ri st)) (Pm.up p) v U.heap.size (wlA p (Pm.inv p) nof ri st) :=
    ⟨(j1.alloc _).rowOther _ _ (by omega), (j2.alloc _).rowOther _ _ (by omega), (RowAt.new U _ _).row _, by omega, Below.setRow (jb.alloc jb.size _) _ jb.size _⟩
  generalize (U.alloc (.cells (wlA noz noz nof 0 0) 127)).setRow U.heap.size (wlA p (Pm.inv p) nof ri st) = X at *
  obtain ⟨q, hq⟩ : ∃ q, q = U.heap.size := ⟨_, rfl⟩
  rw [← hq] at hg ⊢
  clear hq j1 j2 j3 jb hmid hz80 kl jl
  have hvl := hg.par.cell (whl_last (Pm.up p) v)
  obtain ⟨av, cv, rfl, hmv, hcv⟩ := HV.out
  have HC := (show Hid (∀ c, c < l.length → ∃ b o, av = some ⟨b, o, none⟩ ∧ w.cell? ⟨b, o + c, none⟩ = some (.int .i64 (l.getD c 0 : Nat))) from hcv)
  unfold maxLen at hmv
  clear HV hcv
  go_wp2_with fail
  clear hvl
  go_loopw [27] (fun i W => ∃ k : Nat, k ≤ l.length ∧ i = .int .i64 (k : Nat) ∧ TnAt w W (Pm.up p) (.slice av l.length cv) q (wlA p (Pm.inv p) (fun c => (l.take k).contains c) ri st)) (fun i _ => ((l.length : Int) - intOf i).toNat)
  case atStart => exact ⟨0, by omega, rfl, hg⟩
  case round =>
    clear hg
    obtain ⟨k, hk, rfl, hg⟩ := hrel
    by_cases hlt : k < l.length
    · have HLT : Hid (k < l.length) := hlt
      obtain ⟨b, o, rfl, hc0⟩ := HC.out k hlt
      have hc1 := (hg.below.cell (p := ⟨b, o + k, none⟩) (cell_block hc0)).trans hc0
      have hx := HL.out k hlt
      have HT := (show Hid _ from take_no hlt)
      generalize l.getD k 0 = x at *
      have hck := hg.out.cell (wlA_at (p := p) (b := Pm.inv p) (no := fun c => (l.take k).contains c) (ri := ri) (at' := st) hx)
      have hfk := hg.out.frozen (52 + x)
      have HNX : Hid (TnAt w (wr.setCell ⟨q, 52 + x, none⟩ (.bool true)) (Pm.up p) (.slice (some ⟨b, o, none⟩) l.length cv) q (wlA p (Pm.inv p) (fun c => (l.take (k + 1)).contains c) ri st)) := by
        have hlq := hg.lt
        refine ⟨hg.par.setOther _ _ (by show w.heap.size ≠ q; omega), hg.res.setOther _ _ (by show w.heap.size + 1 ≠ q; omega), ?_, hg.lt, hg.below.setCell (p := ⟨q, 52 + x, none⟩) (by show w.heap.size ≤ q; omega) _⟩
        have := hg.out.set (52 + x) (.bool true)
        rw [wlA_no _ _ _ _ _ hx, HT.out] at this
        exact this
      clear hg hc0 HC
      go_wp2
      go_roundw
      case rel => exact ⟨k + 1, HLT.out, by go_num, HNX.out⟩
      case measure => have := HLT.out; simp [intOf]; omega
    · obtain rfl : k = l.length := by omega
      have hnl : ¬ ((l.length : Nat) : Int) < ((l.length : Nat) : Int) := by omega
      have ho := hg.out
      rw [List.take_length] at ho
      have hres := hg.res
      have hbe := hg.below
      obtain ⟨AA, hAA⟩ : ∃ AA, AA = wlA p (Pm.inv p) (fun c => l.contains c) ri st := ⟨_, rfl⟩
      have hsz : AA.size = 80 := by rw [hAA, wlA_size]
      have hone : AA.all (·.oneCell') = true := by rw [hAA]; exact wlA_one _ _ _ _ _
      rw [← hAA] at ho
      have HAA := (show Hid _ from hAA)
      clear hg HC hAA
      go_wp2_with (first | refine wpList_load_row rfl 127 _ rfl q rfl 127 AA (0, 0) _ ho Try.underlying127 rfl (by rw [hsz]; exact v_info_wl) ?_ | refine wpList_store_row rfl 127 _ _ rfl (w.heap.size + 1) AA rfl rfl 127 _ hres (by rw [hsz]; exact v_info_wl) (by simp only [wlA_size, hsz]) hone ?_)
      exact bodyPost_ret (v := .agg AA) (o_results1 Try.results74 _ _ _ _ _ _ _ rfl (hres.row _) Try.underlying127 rfl (by rw [hsz]; exact v_info_wl)) rfl ⟨by rw [HAA.out]; simp only [List.contains_eq_mem], Below.setRow hbe _ (Nat.le_succ _) _⟩
end Go.Proofs.Ytbbpbcmpemmgjaa

/-
  Contracts of rotor's small functions.
-/
namespace Go.Proofs.Ytbbpbcmpemmgjaa
open Go.RowKit PK Vg

def isN (n : Int) : Bool := decide (0 ≤ n ∧ n ≤ 25)
set_option maxHeartbeats 400000 in
theorem isLetter8_any (c : Int) (w : World) : Calls Try.prog 97 #[.int .i64 c] w fun e w' => e = .returned (.bool (isN c)) ∧ w = w' := by
  by_cases h1 : 0 ≤ c
  · by_cases h2 : c < 26
    · have e : isN c = true := by simp [isN]; omega
      go_enter Try.func97, Try.ntmps97
      go_wp2
      go_ret
      exact ⟨by rw [e]; rfl, rfl⟩
    · have e : isN c = false := by simp [isN]; omega
      go_enter Try.func97, Try.ntmps97
      go_wp2
      go_ret
      exact ⟨rfl, rfl⟩
  · have e : isN c = false := by simp [isN]; omega
    go_enter Try.func97, Try.ntmps97
    go_wp2
    go_ret
    exact ⟨rfl, rfl⟩
set_option maxRecDepth 100000 in
set_option maxHeartbeats 1000000 in
theorem areLetters_any (v : Value) (n : Nat) (f : Nat → Int) (w : World) (hv : NumsAt w v n f) : Calls Try.prog 87 #[v] w fun e w' => e = .returned (.bool (ins n f)) ∧ w = w' := by
  obtain ⟨a, cap, rfl, hm, hc⟩ := hv
  have HC := (show Hid _ from hc)
  unfold maxLen at hm
  clear hc
  have HU := (show Hid (∀ k, k < n → (f k < 0 ∨ 25 < f k) → ins n f = false) from fun k hk h => ins_upto hk h)
  have HA := (show Hid ((∀ i, i < n → 0 ≤ f i ∧ f i ≤ 25) → ins n f = true) from (ins_iff n f).2)
  generalize ins n f = B at *
  go_enter Try.func87, Try.ntmps87
  go_wp2_with fail
  go_loopw [7] (fun i W => ∃ k : Nat, k ≤ n ∧ i = .int .i64 (k : Nat) ∧ Hid (∀ i, i < k → 0 ≤ f i ∧ f i ≤ 25) ∧ w = W) (fun i _ => ((n : Int) - intOf i).toNat)
  case atStart => exact ⟨0, by omega, rfl, fun i hi => by omega, rfl⟩
  case round =>
    obtain ⟨k, hk, rfl, HS, rfl⟩ := hrel
    by_cases hlt : k < n
    · obtain ⟨b, o, rfl, hc0⟩ := HC.out k hlt
      have HLT : Hid (k < n) := hlt
      by_cases hx : isN (f k) = true
      · have hx3 : 0 ≤ f k ∧ f k ≤ 25 := by simpa [isN] using hx
        have HN : Hid (∀ i, i < k + 1 → 0 ≤ f i ∧ f i ≤ 25) := fun i hi => by
          by_cases e : i = k
          · rw [e]; exact hx3
          · exact HS.out i (by omega)
        have HL := (show Hid (∀ W, Calls Try.prog 97 #[.int .i64 (f k)] W fun e w' => e = .returned (.bool true) ∧ W = w') from fun W => by have := isLetter8_any (f k) W; rw [hx] at this; exact this)
        clear hx hx3
        go_wp2_with fail
        refine (HL.out _).mono ?_
        rintro e V ⟨rfl, rfl⟩
        go_wp2_with fail
        go_roundw
        case rel => exact ⟨k + 1, HLT.out, by go_num, HN.out, by first | rfl | trivial⟩
        case measure => have := HLT.out; simp [intOf] <;> omega
      · have hx2 : isN (f k) = false := by simpa using hx
        have hx3 : f k < 0 ∨ 25 < f k := by
          have : ¬ (0 ≤ f k ∧ f k ≤ 25) := by simpa [isN] using hx
          omega
        have HB : Hid (B = false) := HU.out k hlt hx3
        have HL := (show Hid (∀ W, Calls Try.prog 97 #[.int .i64 (f k)] W fun e w' => e = .returned (.bool false) ∧ W = w') from fun W => by have := isLetter8_any (f k) W; rw [hx2] at this; exact this)
        clear hx hx2 hx3
        go_wp2_with fail
        refine (HL.out _).mono ?_
        rintro e V ⟨rfl, rfl⟩
        go_wp2
        go_ret
        exact ⟨by rw [HB.out]; rfl, rfl⟩
    · obtain rfl : k = n := by omega
      have hlt2 : ¬ (k : Int) < (k : Int) := by omega
      have HB : Hid (B = true) := HA.out HS.out
      go_wp2
      go_ret
      exact ⟨by rw [HB.out]; rfl, rfl⟩
set_option maxHeartbeats 400000 in
theorem number_any (c : UInt8) (h : 65 ≤ c.toNat ∧ c.toNat ≤ 90) (w : World) : Calls Try.prog 45 #[.int .u8 (c.toNat : Nat)] w fun e w' => e = .returned (.int .i64 (num c : Nat)) ∧ w = w' := by
  have e : (num c : Int) = (c.toNat : Int) - 65 := by unfold num; omega
  go_enter Try.func45, Try.ntmps45
  go_wp2
  go_ret
  exact ⟨by rw [e]; go_num, rfl⟩
set_option maxHeartbeats 400000 in
theorem letter_any (n : Nat) (h : n < 26) (w : World) : Calls Try.prog 43 #[.int .i64 (n : Nat)] w fun e w' => e = .returned (.int .u8 ((ltr n).toNat : Nat)) ∧ w = w' := by
  have e := ltr_toNat h
  go_enter Try.func43, Try.ntmps43
  go_wp2
  go_ret
  exact ⟨by rw [e]; go_num, rfl⟩
set_option maxHeartbeats 400000 in
theorem thr_any (b o : Nat) (p : Nat → Nat) (y c : Nat) (hy : y < 26) (hc : c < 26) (hp : ∀ c, c < 26 → p c < 26) (w : World) (hcell : ∀ c, c < 26 → w.cell? ⟨b, o + c, none⟩ = some (.int .i64 (p c : Nat))) : Calls Try.prog 76 #[.pointer (some ⟨b, o, none⟩), .int .i64 (y : Nat), .int .i64 (c : Nat)] w fun e w' => e = .returned (.int .i64 (Om.wheel p y c : Nat)) ∧ w = w' := by
  have hm : (c + y) % 26 < 26 := Nat.mod_lt _ (by decide)
  have h1 := hcell _ hm
  have h2 := hp _ hm
  have HE : Hid (Om.wheel p y c = (p ((c + y) % 26) + 26 - y) % 26) := rfl
  generalize Om.wheel p y c = E at *
  generalize p ((c + y) % 26) = P1 at *
  obtain ⟨q, hq⟩ : ∃ q, q = (c + y) % 26 := ⟨_, rfl⟩
  rw [← hq] at h1 hm
  have e1 : ((c : Int) + (y : Int)).tmod 26 = (q : Int) := by rw [Int.tmod_eq_emod_of_nonneg (by omega)]; omega
  have e2 : ((P1 : Int) - (y : Int) + 26).tmod 26 = (E : Int) := by rw [HE.out, Int.tmod_eq_emod_of_nonneg (by omega)]; omega
  clear HE hq hcell hp
  go_enter Try.func76, Try.ntmps76
  go_wp2
  go_ret
  exact ⟨rfl, rfl⟩
set_option maxHeartbeats 400000 in
theorem by_any (b q : Nat) (M : Om.Ma) (at' : Nat → Nat) (hq : q < M.n) (w : World) (h : RotAt w b M at') : Calls Try.prog 77 #[.pointer (some ⟨b, q * 80, none⟩)] w fun e w' => e = .returned (.int .i64 (Om.by' M at' q : Nat)) ∧ Below w.heap.size w w' := by
  have hw := h.window hq
  have hr := h.ring hq
  have h1 := h.ins q hq
  have h2 := h.ok.ri q hq
  have HE : Hid (Om.by' M at' q = (at' q + 26 - M.ri q) % 26) := rfl
  generalize Om.by' M at' q = E at *
  generalize at' q = A at *
  generalize M.ri q = R at *
  have e2 : ((A : Int) - (R : Int) + 26).tmod 26 = (E : Int) := by rw [HE.out, Int.tmod_eq_emod_of_nonneg (by omega)]; omega
  clear HE h
  go_enter Try.func77, Try.ntmps77
  go_wp2_with fail
  go_quiet (fail)
  go_wp2
  go_ret
  exact ⟨rfl, ⟨rfl, rfl, rfl, Nat.le_refl _, fun _ _ => rfl⟩⟩
end Go.Proofs.Ytbbpbcmpemmgjaa
