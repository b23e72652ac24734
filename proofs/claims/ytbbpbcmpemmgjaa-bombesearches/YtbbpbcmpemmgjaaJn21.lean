/-
  Several texts, joined: RoTu, RoSm, RoWg.
-/
import Derived.Test.YtbbpbcmpemmgjaaJn18
import Derived.Test.YtbbpbcmpemmgjaaORWr
import Derived.Test.YtbbpbcmpemmgjaaJn20
import Derived.RegionTactic
import Derived.Test.YtbbpbcmpemmgjaaJn19
/-
  Contract of rotor.turning.
-/
namespace Go.Proofs.Ytbbpbcmpemmgjaa
open Go.RowKit PK Vg

def nof : Nat → Bool := fun _ => false
def noz : Nat → Nat := fun _ => 0
theorem v_info_wl : (Try.prog.info? 127).map (·.size) = some 80 := by kernel_rfl
theorem v_zero_wl : (Try.prog.info? 127).map (·.zero) = some (some (.agg (wlA noz noz nof 0 0))) := by kernel_rfl
theorem built_wl (p q : Nat → Nat) (r s : Nat) : Try.prog.built 127 [(0, .agg (ints 26 (Pm.up p))), (1, .agg (ints 26 (Pm.up q))), (3, .int .i64 (r : Nat)), (4, .int .i64 (s : Nat))] = some (wlA p q nof r s) := by kernel_rfl
section
variable {P : Program}
theorem wpList_buildA {ops : Array Oper} {rest : List Oper} {op : Oper} {a : Act} {w : World} {Q : Exit → Act → World → Prop} (hgd : op.guard = none) (t : TypeId) (xs : List (Nat × Operand)) (ho : op.op = .build t xs.toArray) (vs : List (Nat × Value)) (hv : xs.map (fun x => (x.1, a.eval x.2)) = vs)
    (cells : Array Value) (hb : P.built t vs = some cells) (h : wpList P ops Q rest (a.put op.dst (.agg cells)) w) : wpList P ops Q (op :: rest) a w :=
  wpList_plain hgd fun _ hK => by
    unfold Oper.wp execOp
    have hm : xs.toArray.map (fun (i, x) => (i, a.eval x)) = vs.toArray := by rw [← hv]; simp
    simp only [ho, Sem.run_bind, hm, run_build w t vs.toArray cells hb, Result.andThen_ok]
    exact hK _ _ h
end
theorem take_no {l : List Nat} {k : Nat} (h : k < l.length) : upd (fun c => (l.take k).contains c) (l.getD k 0) true = fun c => (l.take (k + 1)).contains c := by
  funext c
  rw [List.take_succ_eq_append_getElem h]
  have e : l.getD k 0 = l[k] := by simp [List.getD, h]
  rw [e]
  unfold upd
  by_cases h1 : c = l[k]
  · rw [if_pos h1, eq_comm, List.contains_iff_mem, List.mem_append, List.mem_singleton]
    exact .inr h1
  · rw [if_neg h1, Bool.eq_iff_iff, List.contains_iff_mem, List.contains_iff_mem, List.mem_append, List.mem_singleton]
    exact ⟨.inl, fun h => h.resolve_right h1⟩
theorem wlA_at {p b : Nat → Nat} {no : Nat → Bool} {ri at' k : Nat} (hk : k < 26) : (wlA p b no ri at')[52 + k]? = some (.bool (no k)) := by
  unfold wlA
  rw [tab_get _ (by omega)]
  unfold wcl
  rw [if_neg (by omega), if_neg (by omega), if_pos (by omega), show 52 + k - 52 = k by omega]
structure TnAt (w W : World) (u : Nat → Int) (v : Value) (q : Nat) (A : Array Value) : Prop where
  par : RowAt W w.heap.size 62 (whl u v)
  res : RowAt W (w.heap.size + 1) 127 (wlA noz noz nof 0 0)
  out : RowAt W q 127 A
  lt : w.heap.size + 1 < q
  below : Below w.heap.size w W
set_option maxRecDepth 100000 in
set_option maxHeartbeats 4000000 in
theorem turning_any (p : Nat → Nat) (hp : Pm.IsPerm p) (v : Value) (l : List Nat) (hl : ∀ k, k ∈ l → k < 26) (ri st : Nat) (w : World) (hv : NumsAt w v l.length fun k => (l.getD k 0 : Nat)) : Calls Try.prog 74 #[.agg (whl (Pm.up p) v), .int .i64 (ri : Nat), .int .i64 (st : Nat)] w fun e w' => e = .returned (.agg (wlA p (Pm.inv p) (fun c => l.contains c) ri st)) ∧ Below w.heap.size w w' := by
  have hr := RowAt.new w 62 (whl (Pm.up p) v)
  have hmid := mid_wi (hr.alloc (.cells (wlA noz noz nof 0 0) 127))
  have hz80 := o_zero v_zero_wl
  have hz26 := o_zero v_zero_perm
  have HV := (show Hid (NumsAt w v l.length fun k => (l.getD k 0 : Nat)) from hv)
  have HL := (show Hid (∀ k, k < l.length → l.getD k 0 < 26) from fun k hk => hl _ (by rw [List.getD_eq_getElem?_getD, List.getElem?_eq_getElem hk]; exact List.getElem_mem _))
  clear hl hv
  have h1 : RowAt ((w.alloc (.cells (whl (Pm.up p) v) 62)).alloc (.cells (wlA noz noz nof 0 0) 127)) w.heap.size 62 (whl (Pm.up p) v) := hr.alloc _
  have h2 : RowAt ((w.alloc (.cells (whl (Pm.up p) v) 62)).alloc (.cells (wlA noz noz nof 0 0) 127)) (w.heap.size + 1) 127 (wlA noz noz nof 0 0) := by
    have := RowAt.new (w.alloc (.cells (whl (Pm.up p) v) 62)) 127 (wlA noz noz nof 0 0)
    rw [World.size_alloc] at this
    exact this
  have hb0 : Below w.heap.size w ((w.alloc (.cells (whl (Pm.up p) v) 62)).alloc (.cells (wlA noz noz nof 0 0) 127)) := ((Below.refl _ w).alloc (Nat.le_refl _) _).alloc (by simp) _
  go_enter Try.func74, Try.ntmps74
  go_upto_region 1 with fail
  clear hr
  generalize (w.alloc (.cells (whl (Pm.up p) v) 62)).alloc (.cells (wlA noz noz nof 0 0) 127) = W0 at *
  go_wp2_with (first | refine wpList_load_arr rfl 25 _ rfl w.heap.size 0 rfl (ints 26 (Pm.up p)) _ hmid Try.underlying25 rfl (by rw [ints_size]; exact info_perm) ?_)
  refine (back_ok p hp _).mono ?_
  rintro e V ⟨rfl, hb⟩
  have k1 := h1.below hb h1.lt
  have k2 := h2.below hb h2.lt
  have kb := hb0.trans (hb.mono hb0.size)
  have kl := k2.lt
  clear hb h1 h2 hb0 hmid
  go_upto_region 2 with (first | refine wpList_store_row rfl 25 _ _ rfl V.heap.size (ints 26 (Pm.up (Pm.inv p))) rfl rfl 25 _ (RowAt.new V _ _) (by rw [ints_size]; exact info_perm) (by simp only [ints_size]) (ints_one _ _) ?_)
  have j1 := (k1.alloc (.cells (ints 26 fun _ => 0) 25)).rowOther V.heap.size (ints 26 (Pm.up (Pm.inv p))) (by omega)
  have j2 := (k2.alloc (.cells (ints 26 fun _ => 0) 25)).rowOther V.heap.size (ints 26 (Pm.up (Pm.inv p))) (by omega)
  have j3 := (RowAt.new V 25 (ints 26 fun _ => 0)).row (ints 26 (Pm.up (Pm.inv p)))
  have jb := Below.setRow (kb.alloc kb.size (.cells (ints 26 fun _ => 0) 25)) V.heap.size kb.size (ints 26 (Pm.up (Pm.inv p)))
  generalize (V.alloc (.cells (ints 26 fun _ => 0) 25)).setRow V.heap.size (ints 26 (Pm.up (Pm.inv p))) = U at *
  obtain ⟨q7, hq7⟩ : ∃ q, q = V.heap.size := ⟨_, rfl⟩
  rw [← hq7] at j3 kl ⊢
  clear hq7 k1 k2 kb hz26
  have hmid := mid_wi j1
  have jl := j3.lt
  go_upto_region 3 with (first | refine wpList_buildA rfl 127 [(0, .tmp 19), (1, .tmp 20), (3, .tmp 21), (4, .tmp 22)] rfl [(0, .agg (ints 26 (Pm.up p))), (1, .agg (ints 26 (Pm.up (Pm.inv p)))), (3, .int .i64 (ri : Nat)), (4, .int .i64 (st : Nat))] rfl _ (built_wl p (Pm.inv p) ri st) ?_ | refine wpList_load_arr rfl 25 _ rfl w.heap.size 0 rfl (ints 26 (Pm.up p)) _ hmid Try.underlying25 rfl (by rw [ints_size]; exact info_perm) ?_ | refine wpList_load_row rfl 25 _ rfl q7 rfl 25 (ints 26 (Pm.up (Pm.inv p))) (0, 0) _ j3 Try.underlying25 rfl (by rw [ints_size]; exact info_perm) ?_ | refine wpList_store_row rfl 127 _ _ rfl U.heap.size (wlA p (Pm.inv p) nof ri st) rfl rfl 127 _ (RowAt.new U _ _) (by rw [wlA_size]; exact v_info_wl) (by simp only [wlA_size]) (wlA_one _ _ _ _ _) ?_)
  have hg : TnAt w ((U.alloc (.cells (wlA noz noz nof 0 0) 127)).setRow U.heap.size (wlA p (Pm.inv p) nof ri st)) (Pm.up p) v U.heap.size (wlA p (Pm.inv p) nof ri st) :=
    ⟨(j1.alloc _).rowOther _ _ (by omega), (j2.alloc _).rowOther _ _ (by omega), (RowAt.new U _ _).row _, by omega, Below.setRow (jb.alloc jb.size _) _ jb.size _⟩
  generalize (U.alloc (.cells (wlA noz noz nof 0 0) 127)).setRow U.heap.size (wlA p (Pm.inv p) nof ri st) = X at *
  obtain ⟨q, hq⟩ : ∃ q, q = U.heap.size := ⟨_, rfl⟩
  rw [← hq] at hg ⊢
  clear hq j1 j2 j3 jb hmid hz80 kl jl
  have hvl := hg.par.cell (whl_last (Pm.up p) v)
  obtain ⟨av, cv, rfl, hmv, hcv⟩ := HV.out
  have HC := (show Hid (∀ c, c < l.length → ∃ b o, av = some ⟨b, o, none⟩ ∧ w.cell? ⟨b, o + c, none⟩ = some (.int .i64 (l.getD c 0 : Nat))) from hcv)
  unfold maxLen at hmv
  clear HV hcv
  go_wp2_with fail
  clear hvl
  go_loopw [27] (fun i W => ∃ k : Nat, k ≤ l.length ∧ i = .int .i64 (k : Nat) ∧ TnAt w W (Pm.up p) (.slice av l.length cv) q (wlA p (Pm.inv p) (fun c => (l.take k).contains c) ri st)) (fun i _ => ((l.length : Int) - intOf i).toNat)
  case atStart => exact ⟨0, by omega, rfl, hg⟩
  case round =>
    clear hg
    obtain ⟨k, hk, rfl, hg⟩ := hrel
    by_cases hlt : k < l.length
    · have HLT : Hid (k < l.length) := hlt
      obtain ⟨b, o, rfl, hc0⟩ := HC.out k hlt
      have hc1 := (hg.below.cell (p := ⟨b, o + k, none⟩) (cell_block hc0)).trans hc0
      have hx := HL.out k hlt
      have HT := (show Hid _ from take_no hlt)
      generalize l.getD k 0 = x at *
      have hck := hg.out.cell (wlA_at (p := p) (b := Pm.inv p) (no := fun c => (l.take k).contains c) (ri := ri) (at' := st) hx)
      have hfk := hg.out.frozen (52 + x)
      have HNX : Hid (TnAt w (wr.setCell ⟨q, 52 + x, none⟩ (.bool true)) (Pm.up p) (.slice (some ⟨b, o, none⟩) l.length cv) q (wlA p (Pm.inv p) (fun c => (l.take (k + 1)).contains c) ri st)) := by
        have hlq := hg.lt
        refine ⟨hg.par.setOther _ _ (by show w.heap.size ≠ q; omega), hg.res.setOther _ _ (by show w.heap.size + 1 ≠ q; omega), ?_, hg.lt, hg.below.setCell (p := ⟨q, 52 + x, none⟩) (by show w.heap.size ≤ q; omega) _⟩
        have := hg.out.set (52 + x) (.bool true)
        rw [wlA_no _ _ _ _ _ hx, HT.out] at this
        exact this
      clear hg hc0 HC
      go_wp2
      go_roundw
      case rel => exact ⟨k + 1, HLT.out, by go_num, HNX.out⟩
      case measure => have := HLT.out; simp [intOf]; omega
    · obtain rfl : k = l.length := by omega
      have hnl : ¬ ((l.length : Nat) : Int) < ((l.length : Nat) : Int) := by omega
      have ho := hg.out
      rw [List.take_length] at ho
      have hres := hg.res
      have hbe := hg.below
      obtain ⟨AA, hAA⟩ : ∃ AA, AA = wlA p (Pm.inv p) (fun c => l.contains c) ri st := ⟨_, rfl⟩
      have hsz : AA.size = 80 := by rw [hAA, wlA_size]
      have hone : AA.all (·.oneCell') = true := by rw [hAA]; exact wlA_one _ _ _ _ _
      rw [← hAA] at ho
      have HAA := (show Hid _ from hAA)
      clear hg HC hAA
      go_wp2_with (first | refine wpList_load_row rfl 127 _ rfl q rfl 127 AA (0, 0) _ ho Try.underlying127 rfl (by rw [hsz]; exact v_info_wl) ?_ | refine wpList_store_row rfl 127 _ _ rfl (w.heap.size + 1) AA rfl rfl 127 _ hres (by rw [hsz]; exact v_info_wl) (by simp only [wlA_size, hsz]) hone ?_)
      exact bodyPost_ret (v := .agg AA) (o_results1 Try.results74 _ _ _ _ _ _ _ rfl (hres.row _) Try.underlying127 rfl (by rw [hsz]; exact v_info_wl)) rfl ⟨by rw [HAA.out]; simp only [List.contains_eq_mem], Below.setRow hbe _ (Nat.le_succ _) _⟩
end Go.Proofs.Ytbbpbcmpemmgjaa

/-
  Contracts of rotor's small functions.
-/
namespace Go.Proofs.Ytbbpbcmpemmgjaa
open Go.RowKit PK Vg

def isN (n : Int) : Bool := decide (0 ≤ n ∧ n ≤ 25)
set_option maxHeartbeats 400000 in
theorem isLetter8_any (c : Int) (w : World) : Calls Try.prog 97 #[.int .i64 c] w fun e w' => e = .returned (.bool (isN c)) ∧ w = w' := by
  by_cases h1 : 0 ≤ c
  · by_cases h2 : c < 26
    · have e : isN c = true := by simp [isN]; omega
      go_enter Try.func97, Try.ntmps97
      go_wp2
      go_ret
      exact ⟨by rw [e]; rfl, rfl⟩
    · have e : isN c = false := by simp [isN]; omega
      go_enter Try.func97, Try.ntmps97
      go_wp2
      go_ret
      exact ⟨rfl, rfl⟩
  · have e : isN c = false := by simp [isN]; omega
    go_enter Try.func97, Try.ntmps97
    go_wp2
    go_ret
    exact ⟨rfl, rfl⟩
set_option maxRecDepth 100000 in
set_option maxHeartbeats 1000000 in
theorem areLetters_any (v : Value) (n : Nat) (f : Nat → Int) (w : World) (hv : NumsAt w v n f) : Calls Try.prog 87 #[v] w fun e w' => e = .returned (.bool (ins n f)) ∧ w = w' := by
  obtain ⟨a, cap, rfl, hm, hc⟩ := hv
  have HC := (show Hid _ from hc)
  unfold maxLen at hm
  clear hc
  have HU := (show Hid (∀ k, k < n → (f k < 0 ∨ 25 < f k) → ins n f = false) from fun k hk h => ins_upto hk h)
  have HA := (show Hid ((∀ i, i < n → 0 ≤ f i ∧ f i ≤ 25) → ins n f = true) from (ins_iff n f).2)
  generalize ins n f = B at *
  go_enter Try.func87, Try.ntmps87
  go_wp2_with fail
  go_loopw [7] (fun i W => ∃ k : Nat, k ≤ n ∧ i = .int .i64 (k : Nat) ∧ Hid (∀ i, i < k → 0 ≤ f i ∧ f i ≤ 25) ∧ w = W) (fun i _ => ((n : Int) - intOf i).toNat)
  case atStart => exact ⟨0, by omega, rfl, fun i hi => by omega, rfl⟩
  case round =>
    obtain ⟨k, hk, rfl, HS, rfl⟩ := hrel
    by_cases hlt : k < n
    · obtain ⟨b, o, rfl, hc0⟩ := HC.out k hlt
      have HLT : Hid (k < n) := hlt
      by_cases hx : isN (f k) = true
      · have hx3 : 0 ≤ f k ∧ f k ≤ 25 := by simpa [isN] using hx
        have HN : Hid (∀ i, i < k + 1 → 0 ≤ f i ∧ f i ≤ 25) := fun i hi => by
          by_cases e : i = k
          · rw [e]; exact hx3
          · exact HS.out i (by omega)
        have HL := (show Hid (∀ W, Calls Try.prog 97 #[.int .i64 (f k)] W fun e w' => e = .returned (.bool true) ∧ W = w') from fun W => by have := isLetter8_any (f k) W; rw [hx] at this; exact this)
        clear hx hx3
        go_wp2_with fail
        refine (HL.out _).mono ?_
        rintro e V ⟨rfl, rfl⟩
        go_wp2_with fail
        go_roundw
        case rel => exact ⟨k + 1, HLT.out, by go_num, HN.out, by first | rfl | trivial⟩
        case measure => have := HLT.out; simp [intOf] <;> omega
      · have hx2 : isN (f k) = false := by simpa using hx
        have hx3 : f k < 0 ∨ 25 < f k := by
          have : ¬ (0 ≤ f k ∧ f k ≤ 25) := by simpa [isN] using hx
          omega
        have HB : Hid (B = false) := HU.out k hlt hx3
        have HL := (show Hid (∀ W, Calls Try.prog 97 #[.int .i64 (f k)] W fun e w' => e = .returned (.bool false) ∧ W = w') from fun W => by have := isLetter8_any (f k) W; rw [hx2] at this; exact this)
        clear hx hx2 hx3
        go_wp2_with fail
        refine (HL.out _).mono ?_
        rintro e V ⟨rfl, rfl⟩
        go_wp2
        go_ret
        exact ⟨by rw [HB.out]; rfl, rfl⟩
    · obtain rfl : k = n := by omega
      have hlt2 : ¬ (k : Int) < (k : Int) := by omega
      have HB : Hid (B = true) := HA.out HS.out
      go_wp2
      go_ret
      exact ⟨by rw [HB.out]; rfl, rfl⟩
set_option maxHeartbeats 400000 in
theorem thr_any (b o : Nat) (p : Nat → Nat) (y c : Nat) (hy : y < 26) (hc : c < 26) (hp : ∀ c, c < 26 → p c < 26) (w : World) (hcell : ∀ c, c < 26 → w.cell? ⟨b, o + c, none⟩ = some (.int .i64 (p c : Nat))) : Calls Try.prog 76 #[.pointer (some ⟨b, o, none⟩), .int .i64 (y : Nat), .int .i64 (c : Nat)] w fun e w' => e = .returned (.int .i64 (Om.wheel p y c : Nat)) ∧ w = w' := by
  have hm : (c + y) % 26 < 26 := Nat.mod_lt _ (by decide)
  have h1 := hcell _ hm
  have h2 := hp _ hm
  have HE : Hid (Om.wheel p y c = (p ((c + y) % 26) + 26 - y) % 26) := rfl
  generalize Om.wheel p y c = E at *
  generalize p ((c + y) % 26) = P1 at *
  obtain ⟨q, hq⟩ : ∃ q, q = (c + y) % 26 := ⟨_, rfl⟩
  rw [← hq] at h1 hm
  have e1 : ((c : Int) + (y : Int)).tmod 26 = (q : Int) := by rw [Int.tmod_eq_emod_of_nonneg (by omega)]; omega
  have e2 : ((P1 : Int) - (y : Int) + 26).tmod 26 = (E : Int) := by rw [HE.out, Int.tmod_eq_emod_of_nonneg (by omega)]; omega
  clear HE hq hcell hp
  go_enter Try.func76, Try.ntmps76
  go_wp2
  go_ret
  exact ⟨rfl, rfl⟩
set_option maxHeartbeats 400000 in
theorem by_any (b q : Nat) (M : Om.Ma) (at' : Nat → Nat) (hq : q < M.n) (w : World) (h : RotAt w b M at') : Calls Try.prog 77 #[.pointer (some ⟨b, q * 80, none⟩)] w fun e w' => e = .returned (.int .i64 (Om.by' M at' q : Nat)) ∧ Below w.heap.size w w' := by
  have hw := h.window hq
  have hr := h.ring hq
  have h1 := h.ins q hq
  have h2 := h.ok.ri q hq
  have HE : Hid (Om.by' M at' q = (at' q + 26 - M.ri q) % 26) := rfl
  generalize Om.by' M at' q = E at *
  generalize at' q = A at *
  generalize M.ri q = R at *
  have e2 : ((A : Int) - (R : Int) + 26).tmod 26 = (E : Int) := by rw [HE.out, Int.tmod_eq_emod_of_nonneg (by omega)]; omega
  clear HE h
  go_enter Try.func77, Try.ntmps77
  go_wp2_with fail
  go_quiet (fail)
  go_wp2
  go_ret
  exact ⟨rfl, ⟨rfl, rfl, rfl, Nat.le_refl _, fun _ _ => rfl⟩⟩
end Go.Proofs.Ytbbpbcmpemmgjaa

/-
  Contracts of rotor.wheelWrong, pairsWrong and Wrong.
-/
namespace Go.Proofs.Ytbbpbcmpemmgjaa
open Go.RowKit PK Vg

def wwE (u : Nat → Int) (n : Nat) (f : Nat → Int) : Int := if Pm.wrong u ≠ 0 then Pm.wrong u else if ins n f = true then 0 else 3
set_option maxRecDepth 100000 in
set_option maxHeartbeats 1000000 in
theorem ww_any (u : Nat → Int) (v : Value) (n : Nat) (f : Nat → Int) (w : World) (hv : NumsAt w v n f) : Calls Try.prog 86 #[.agg (whl u v)] w fun e w' => e = .returned (.int .i64 (wwE u n f)) ∧ Below w.heap.size w w' := by
  obtain ⟨E, hE⟩ : ∃ E, E = wwE u n f := ⟨_, rfl⟩
  rw [← hE]
  have hr := RowAt.new w 62 (whl u v)
  have hbe : Below w.heap.size w (w.alloc (.cells (whl u v) 62)) := (Below.refl _ w).alloc (Nat.le_refl _) _
  have HV := (show Hid (NumsAt w v n f) from hv)
  have hmid := mid_wi hr
  clear hv
  go_enter Try.func86, Try.ntmps86
  go_wp2_with (first | refine wpList_load_arr rfl 25 _ rfl w.heap.size 0 rfl (ints 26 u) _ hmid Try.underlying25 rfl (by rw [ints_size]; exact info_perm) ?_)
  refine (wrong_any u _).mono ?_
  rintro e V ⟨rfl, hb⟩
  have hr2 := hr.below hb hr.lt
  have hl := hr2.cell (whl_last u v)
  have hbe2 := hbe.trans (hb.mono hbe.size)
  clear hb hr hbe hmid hr2
  by_cases hz : Pm.wrong u = 0
  · have HE : Hid (E = if ins n f = true then 0 else 3) := by rw [Hid, hE]; unfold wwE; rw [if_neg (fun h => h hz)]
    rw [hz]
    have HIN := (show Hid _ from areLetters_any v n f V (HV.out.below (hbe2)))
    generalize ins n f = B at *
    clear hz HV hE
    go_wp2_with fail
    refine Calls.mono HIN.out ?_
    rintro e V3 ⟨rfl, rfl⟩
    cases B with
    | true =>
      go_wp2
      go_ret
      exact ⟨by rw [HE.out]; rfl, hbe2⟩
    | false =>
      go_wp2
      go_ret
      exact ⟨by rw [HE.out]; rfl, hbe2⟩
  · have hz2 : (Pm.wrong u != 0) = true := by simpa using hz
    have HE : Hid (E = Pm.wrong u) := by rw [Hid, hE]; unfold wwE; rw [if_pos hz]
    clear hz HV hE
    go_wp2
    go_ret
    exact ⟨by rw [HE.out]; rfl, hbe2⟩
set_option maxRecDepth 100000 in
set_option maxHeartbeats 2000000 in
theorem pw_any (f : Nat → Int) (al : Bool) (w : World) : Calls Try.prog 88 #[.agg (ints 26 f), .bool al] w fun e w' => e = .returned (.int .i64 (tl (!al) f 0)) ∧ Below w.heap.size w w' := by
  obtain ⟨E, hE⟩ : ∃ E, E = tl (!al) f 0 := ⟨_, rfl⟩
  rw [← hE]
  have HE : Hid (E = tl (!al) f 0) := hE
  clear hE
  have hr := RowAt.new w 25 (ints 26 f)
  have hbe : Below w.heap.size w (w.alloc (.cells (ints 26 f) 25)) := (Below.refl _ w).alloc (Nat.le_refl _) _
  go_enter Try.func88, Try.ntmps88
  go_wp2_with (first | refine wpList_load_row rfl 25 _ rfl w.heap.size rfl 25 (ints 26 f) (0, 0) _ hr Try.underlying25 rfl (by rw [ints_size]; exact info_perm) ?_)
  refine (wrong_any f _).mono ?_
  rintro e V2 ⟨rfl, hb⟩
  have hr5 := hr.below hb hr.lt
  have hbe2 := hbe.trans (hb.mono hbe.size)
  clear hb hr hbe
  by_cases hwz : Pm.wrong f = 0
  · obtain ⟨pp, hpp, epp⟩ := (Pm.wrong_zero f).1 hwz
    have HEP : Hid (∀ i, i < 26 → f i = (pp i : Int)) := epp
    have HV2 : Hid (E = if undo (!al) f = false then 1 else 0) := by rw [Hid, HE.out]; unfold tl; rw [if_neg (fun h => h hwz)]
    have HUB := (show Hid (∀ i, i < 26 → (pp (pp i) ≠ i ∨ ((!al) = true ∧ pp i = i)) → undo (!al) f = false) from fun i hi h => undo_bad hpp epp hi h)
    have HUT := (show Hid ((∀ i, i < 26 → pp (pp i) = i ∧ ((!al) = true → pp i ≠ i)) → undo (!al) f = true) from (undo_perm hpp epp).2)
    have HLT := (show Hid (∀ i, i < 26 → pp i < 26) from hpp.lt)
    rw [hwz]
    clear hwz epp hpp HE
    go_wp2_with (first | refine wpList_load_row rfl 25 _ rfl w.heap.size rfl 25 (ints 26 f) (0, 0) _ hr5 Try.underlying25 rfl (by rw [ints_size]; exact info_perm) ?_)
    go_loopw [14] (fun i W => ∃ m : Nat, m ≤ 26 ∧ i = .int .i64 (m : Nat) ∧ Hid (∀ j, j < m → pp (pp j) = j ∧ ((!al) = true → pp j ≠ j)) ∧ V2 = W) (fun i _ => ((26 : Int) - intOf i).toNat)
    case atStart => exact ⟨0, by omega, rfl, fun j hj => by omega, rfl⟩
    case round =>
      obtain ⟨m, hm26, rfl, HS, rfl⟩ := hrel
      by_cases hlt : m < 26
      · have h1 := HLT.out m hlt
        have HL : Hid (m < 26) := hlt
        have hgx := run_index_ints 25 3 26 Try.underlying25 Try.underlying3 info_int f m hlt
        have c2 := hr5.cell (ints_get f h1)
        rw [HEP.out m hlt] at hgx
        rw [HEP.out _ h1] at c2
        have HB1 := (show Hid _ from HUB.out m hlt)
        have HNX := (show Hid (pp (pp m) = m → ((!al) = true → pp m ≠ m) → ∀ j, j < m + 1 → pp (pp j) = j ∧ ((!al) = true → pp j ≠ j)) from fun h1 h2 j hj => by
          by_cases e : j = m
          · rw [e]; exact ⟨h1, h2⟩
          · exact HS.out j (by omega))
        generalize pp (pp m) = P2 at *
        generalize pp m = P1 at *
        clear HS
        by_cases hp2 : P2 = m
        · have hp3 : ((P2 : Int) != (m : Int)) = false := by simp [hp2]
          by_cases hp1 : P1 = m
          · have hp4 : ((P1 : Int) == (m : Int)) = true := by simp [hp1]
            cases al with
            | false =>
              have HX : Hid (E = 1) := by rw [Hid, HV2.out, if_pos (HB1.out (.inr ⟨rfl, hp1⟩))]
              clear hp1 hp2
              go_wp2
              go_ret
              exact ⟨by rw [HX.out]; rfl, hbe2⟩
            | true =>
              have HN2 := (show Hid _ from HNX.out hp2 (fun h => by cases h))
              clear hp1 hp2
              go_wp2_with fail
              go_roundw
              case rel => exact ⟨m + 1, HL.out, by go_num, HN2.out, by first | rfl | trivial⟩
              case measure => have := HL.out; simp [intOf] <;> omega
          · have hp4 : ((P1 : Int) == (m : Int)) = false := beq_false_of_ne (by omega)
            have HN2 := (show Hid _ from HNX.out hp2 (fun _ => hp1))
            clear hp1 hp2
            go_wp2_with fail
            go_roundw
            case rel => exact ⟨m + 1, HL.out, by go_num, HN2.out, by first | rfl | trivial⟩
            case measure => have := HL.out; simp [intOf] <;> omega
        · have hp3 : ((P2 : Int) != (m : Int)) = true := by simp; omega
          have HX : Hid (E = 1) := by rw [Hid, HV2.out, if_pos (HB1.out (.inl hp2))]
          clear hp2
          go_wp2
          go_ret
          exact ⟨by rw [HX.out]; rfl, hbe2⟩
      · obtain rfl : m = 26 := by omega
        have HX : Hid (E = 0) := by rw [Hid, HV2.out, if_neg (by rw [HUT.out HS.out]; decide)]
        go_wp2
        go_ret
        exact ⟨by rw [HX.out]; rfl, hbe2⟩
  · have hwz2 : (Pm.wrong f != 0) = true := by simpa using hwz
    have HX : Hid (E = Pm.wrong f) := by rw [Hid, HE.out]; unfold tl; rw [if_pos hwz]
    clear hwz
    go_wp2
    go_ret
    exact ⟨by rw [HX.out]; rfl, hbe2⟩
theorem v_info_nums : (Try.prog.info? 23).map (·.size) = some 1 := by kernel_rfl
theorem run_index_two (x y : Value) (w : World) : (Instr.index 145 (.agg #[x, y]) (.int .i64 0)).run Try.prog w = .ok x w ∧ (Instr.index 145 (.agg #[x, y]) (.int .i64 1)).run Try.prog w = .ok y w := by
  cases hq : Try.prog.info? 23 with
  | none => have := v_info_nums; simp [hq] at this
  | some i =>
    have h1 : i.size = 1 := by have := v_info_nums; simpa [hq] using this
    constructor <;> simp [Instr.index, asIntOf, Sem.run_bind, run_underlying Try.underlying145, part, isAgg, run_underlying Try.underlying23, sizeOf, typeInfo, hq, h1]
theorem tl_zero (st : Bool) (f : Nat → Int) (r : Int) : tl st f r = if tl st f 0 ≠ 0 then tl st f 0 else r := by
  unfold tl
  by_cases h1 : Pm.wrong f ≠ 0
  · rw [if_pos h1, if_pos h1, if_pos h1]
  · rw [if_neg h1, if_neg h1]
    by_cases h2 : undo st f = false
    · rw [if_pos h2, if_pos h2, if_pos (by decide)]
    · rw [if_neg h2, if_neg h2, if_neg (by decide)]
theorem whE_ww {g : Gm} {k : Nat} (h0 : whE g k = 0) : whE g (k + 1) = wwE (g.wi k) (g.nl k) (g.no k) := by
  show (if whE g k ≠ 0 then whE g k else _) = _
  rw [if_neg (fun e => e h0)]
  rfl
set_option maxRecDepth 100000 in
set_option maxHeartbeats 2000000 in
theorem gw_any (v : Value) (g : Gm) (w : World) (hv : MacAt w v g) : Calls Try.prog 62 #[v] w fun e w' => e = .returned (.int .i64 (gE g)) ∧ Below w.heap.size w w' := by
  obtain ⟨a, b, c, rfl, hw, hri, hst⟩ := hv
  have h0 := MgAt.new w a b c g.rf g.pl
  obtain ⟨E, hE⟩ : ∃ E, E = gE g := ⟨_, rfl⟩
  rw [← hE]
  have HE : Hid (E = gE g) := hE
  clear hE
  obtain ⟨ad, cap, R, rfl, hm, hr, hn⟩ := hw
  have hc0 := h0.c0
  have HWH := (show Hid (∀ r, r < g.n → ∃ b o, ad = some ⟨b, o, none⟩ ∧ w.rangeAt b (o + r * 27) (whl (g.wi r) (R r)).toList) from hr)
  have HNO := (show Hid (∀ r, r < g.n → NumsAt w (R r) (g.nl r) (g.no r)) from hn)
  obtain ⟨ar, cr, rfl, hmr, hcr⟩ := hri
  obtain ⟨az, cz, rfl, hms, hcs⟩ := hst
  have HRI := (show Hid (NumsAt w (.slice ar g.rl cr) g.rl g.ri) from ⟨ar, cr, rfl, hmr, hcr⟩)
  have HST := (show Hid (NumsAt w (.slice az g.sl cz) g.sl g.st) from ⟨az, cz, rfl, hms, hcs⟩)
  clear hr hn hcr hcs
  unfold maxLen at hm hmr hms
  go_enter Try.func62, Try.ntmps62
  by_cases hmany : g.n < 1 ∨ 4 < g.n
  · have HX : Hid (E = 5) := by rw [Hid, HE.out, gE_1 hmany]
    have hbe := h0.below
    by_cases hz : g.n < 1
    · have hz2 : (g.n : Int) < 1 := by omega
      go_wp2
      go_ret
      exact ⟨by rw [HX.out]; rfl, hbe⟩
    · have hz2 : ¬ (g.n : Int) < 1 := by omega
      have hz3 : 4 < (g.n : Int) := by omega
      go_wp2
      go_ret
      exact ⟨by rw [HX.out]; rfl, hbe⟩
  · have hz2 : ¬ (g.n : Int) < 1 := by omega
    have hz3 : ¬ 4 < (g.n : Int) := by omega
    have hn4 : g.n ≤ 4 := by omega
    have HMN : Hid (¬ (g.n < 1 ∨ 4 < g.n)) := hmany
    clear hmany
    go_wp2_with fail
    go_loopw [22] (fun i W => ∃ k : Nat, k ≤ g.n ∧ i = .int .i64 (k : Nat) ∧ Hid (whE g k = 0) ∧ MgAt w W (.slice ad g.n cap) (.slice ar g.rl cr) (.slice az g.sl cz) g.rf g.pl) (fun i _ => ((g.n : Int) - intOf i).toNat)
    case atStart => exact ⟨0, by omega, rfl, rfl, h0⟩
    case round =>
      clear h0 hc0
      obtain ⟨k, hk, rfl, HK, hg⟩ := hrel
      by_cases hlt : k < g.n
      · obtain ⟨bw, ow, rfl, hrg⟩ := HWH.out k hlt
        have hrg2 := rangeAt_below hrg hg.below
        have hnk := (HNO.out k hlt).below hg.below
        have HLT : Hid (k < g.n) := hlt
        have hz27 := o_zero v_zero_whl
        have HONE : Hid ((R k).oneCell' = true) := by obtain ⟨a', c', e', _⟩ := hnk; rw [Hid, e']; rfl
        go_upto_region 6 with (first | refine wpList_load_arr rfl 62 _ rfl bw (ow + k * 27) rfl (whl (g.wi k) (R k)) _ hrg2 Try.underlying62 rfl (by rw [whl_size]; exact v_info_whl) ?_ | refine wpList_store_row rfl 62 _ _ rfl wr.heap.size (whl (g.wi k) (R k)) rfl rfl 62 _ (RowAt.new wr _ _) (by rw [whl_size]; exact v_info_whl) (by simp only [whl_size]) (whl_one HONE.out) ?_)
        have hg2 := (hg.alloc (.cells (whl (fun _ => 0) (.slice none 0 0)) 62)).setRow wr.heap.size hg.lt (whl (g.wi k) (R k))
        have hr4 := (RowAt.new wr 62 (whl (fun _ => 0) (.slice none 0 0))).row (whl (g.wi k) (R k))
        generalize (wr.alloc (.cells (whl (fun _ => 0) (.slice none 0 0)) 62)).setRow wr.heap.size (whl (g.wi k) (R k)) = V at *
        obtain ⟨q, hq⟩ : ∃ q, q = wr.heap.size := ⟨_, rfl⟩
        rw [← hq] at hr4 ⊢
        clear hq hrg hrg2 hnk hz27 HONE hg
        have HWW := (show Hid _ from ww_any (g.wi k) (R k) (g.nl k) (g.no k) V ((HNO.out k hlt).below hg2.below))
        have HNX := (show Hid _ from whE_ww HK.out)
        generalize wwE (g.wi k) (g.nl k) (g.no k) = X at *
        go_wp2_with (first | refine wpList_load_row rfl 62 _ rfl q rfl 62 (whl (g.wi k) (R k)) (0, 0) _ hr4 Try.underlying62 rfl (by rw [whl_size]; exact v_info_whl) ?_)
        refine Calls.mono HWW.out ?_
        rintro e V2 ⟨rfl, hb⟩
        have hg3 := hg2.step hb
        clear hb hg2 hr4 HWW
        by_cases hwz : X = 0
        · subst hwz
          have HX : Hid (whE g (k + 1) = 0) := HNX.out
          clear HNX
          go_wp2_with fail
          go_roundw
          case rel => exact ⟨k + 1, HLT.out, by go_num, HX.out, hg3⟩
          case measure => have := HLT.out; simp [intOf] <;> omega
        · have hwz2 : (X != 0) = true := by simpa using hwz
          have HX : Hid (E = X) := by
            have e1 : whE g (k + 1) = X := HNX.out
            have e2 := whE_keep g (k + 1) (by rw [e1]; exact hwz) g.n HLT.out
            rw [Hid, HE.out, gE_2 HMN.out (by rw [e2, e1]; exact hwz), e2, e1]
          have hbe := hg3.below
          clear hwz
          go_wp2
          go_ret
          exact ⟨by rw [HX.out]; rfl, hbe⟩
      · obtain rfl : k = g.n := by omega
        have HX3 : Hid (E = gE3 g) := by rw [Hid, HE.out, gE_3 HMN.out HK.out]
        have hn4 : g.n ≤ 4 := by omega
        have hc1 := hg.c1
        have hc2 := hg.c2
        clear HE HK HWH HNO
        go_wp2_with fail
        go_loopw [37] (fun i W => ∃ k : Nat, k ≤ 2 ∧ i = .int .i64 (k : Nat) ∧ Hid (E = gE5 g k) ∧ MgAt w W (.slice ad g.n cap) (.slice ar g.rl cr) (.slice az g.sl cz) g.rf g.pl) (fun i _ => ((2 : Int) - intOf i).toNat)
        case atStart => exact ⟨0, by omega, rfl, HX3.out, hg⟩
        case round =>
          clear hg hc1 hc2
          obtain ⟨k, hk, rfl, HQ, hg⟩ := hrel
          have hk3 : k = 0 ∨ k = 1 ∨ k = 2 := by omega
          have hc0 := hg.c0
          rcases hk3 with rfl | rfl | rfl
          · have HV := (show Hid (E = nl g.n g.rl g.ri (gE5 g 1)) from HQ.out)
            have HLN := (show Hid (NumsAt wr (.slice ar g.rl cr) g.rl g.ri) from HRI.out.below hg.below)
            have hbe := hg.below
            have HG := (show Hid _ from hg)
            have hgx := fun W => (run_index_two (.slice ar g.rl cr) (.slice az g.sl cz) W).1
            clear hg
            by_cases hln : g.rl = g.n
            · have HV2 : Hid (E = if ins g.rl g.ri = false then 3 else gE5 g 1) := by rw [Hid, HV.out]; unfold nl; rw [if_neg (fun h => h hln)]
              have hln2 : ((g.rl : Int) != (g.n : Int)) = false := by rw [hln]; simp
              clear hln
              have HINS := (show Hid _ from areLetters_any _ _ _ _ HLN.out)
              generalize ins g.rl g.ri = B at *
              go_wp2_with fail
              refine Calls.mono HINS.out ?_
              rintro e V3 ⟨rfl, rfl⟩
              cases B with
              | false =>
                have HX : Hid (E = 3) := by rw [Hid, HV2.out, if_pos rfl]
                go_wp2
                go_ret
                exact ⟨by rw [HX.out]; rfl, hbe⟩
              | true =>
                have HX : Hid (E = gE5 g 1) := by rw [Hid, HV2.out, if_neg (by decide)]
                go_wp2_with fail
                go_roundw
                case rel => exact ⟨1, by omega, by go_num, HX.out, HG.out⟩
                case measure => simp [intOf]
            · have HX : Hid (E = 8) := by rw [Hid, HV.out]; unfold nl; rw [if_pos hln]
              have hln2 : ((g.rl : Int) != (g.n : Int)) = true := by simp; omega
              clear hln
              go_wp2
              go_ret
              exact ⟨by rw [HX.out]; rfl, hbe⟩
          · have HV := (show Hid (E = nl g.n g.sl g.st (gE5 g 2)) from HQ.out)
            have HLN := (show Hid (NumsAt wr (.slice az g.sl cz) g.sl g.st) from HST.out.below hg.below)
            have hbe := hg.below
            have HG := (show Hid _ from hg)
            have hgx := fun W => (run_index_two (.slice ar g.rl cr) (.slice az g.sl cz) W).2
            clear hg
            by_cases hln : g.sl = g.n
            · have HV2 : Hid (E = if ins g.sl g.st = false then 3 else gE5 g 2) := by rw [Hid, HV.out]; unfold nl; rw [if_neg (fun h => h hln)]
              have hln2 : ((g.sl : Int) != (g.n : Int)) = false := by rw [hln]; simp
              clear hln
              have HINS := (show Hid _ from areLetters_any _ _ _ _ HLN.out)
              generalize ins g.sl g.st = B at *
              go_wp2_with fail
              refine Calls.mono HINS.out ?_
              rintro e V3 ⟨rfl, rfl⟩
              cases B with
              | false =>
                have HX : Hid (E = 3) := by rw [Hid, HV2.out, if_pos rfl]
                go_wp2
                go_ret
                exact ⟨by rw [HX.out]; rfl, hbe⟩
              | true =>
                have HX : Hid (E = gE5 g 2) := by rw [Hid, HV2.out, if_neg (by decide)]
                go_wp2_with fail
                go_roundw
                case rel => exact ⟨2, by omega, by go_num, HX.out, HG.out⟩
                case measure => simp [intOf]
            · have HX : Hid (E = 8) := by rw [Hid, HV.out]; unfold nl; rw [if_pos hln]
              have hln2 : ((g.sl : Int) != (g.n : Int)) = true := by simp; omega
              clear hln
              go_wp2
              go_ret
              exact ⟨by rw [HX.out]; rfl, hbe⟩
          · have HV : Hid (E = tl true g.rf (tl false g.pl 0)) := HQ.out
            have HV2 : Hid (E = if tl true g.rf 0 ≠ 0 then tl true g.rf 0 else tl false g.pl 0) := by rw [Hid, HV.out, tl_zero]
            have hmid := mid_rf hg.row
            have HP1 := (show Hid (∀ W, Calls Try.prog 88 #[.agg (ints 26 g.rf), .bool false] W fun e w' => e = .returned (.int .i64 (tl true g.rf 0)) ∧ Below W.heap.size W w') from fun W => pw_any g.rf false W)
            have HP2 := (show Hid (∀ W, Calls Try.prog 88 #[.agg (ints 26 g.pl), .bool true] W fun e w' => e = .returned (.int .i64 (tl false g.pl 0)) ∧ Below W.heap.size W w') from fun W => pw_any g.pl true W)
            generalize tl true g.rf 0 = X at *
            generalize tl false g.pl 0 = Y at *
            clear HQ HV hc0
            go_wp2_with (first | refine wpList_load_arr rfl 25 _ rfl w.heap.size 3 rfl (ints 26 g.rf) _ hmid Try.underlying25 rfl (by rw [ints_size]; exact info_perm) ?_)
            refine (HP1.out _).mono ?_
            rintro e V2 ⟨rfl, hb⟩
            have hg3 := hg.step hb
            have hmid2 := mid_pl hg3.row
            clear hb hg hmid HP1
            by_cases hx : X = 0
            · subst hx
              have HX : Hid (E = Y) := by rw [Hid, HV2.out, if_neg (by decide)]
              go_wp2_with (first | refine wpList_load_arr rfl 25 _ rfl w.heap.size 29 rfl (ints 26 g.pl) _ hmid2 Try.underlying25 rfl (by rw [ints_size]; exact info_perm) ?_)
              refine (HP2.out _).mono ?_
              rintro e V4 ⟨rfl, hb⟩
              have hg4 := hg3.step hb
              have hbe := hg4.below
              clear hb hg3 hg4 hmid2
              go_wp2
              go_ret
              exact ⟨by rw [HX.out]; rfl, hbe⟩
            · have hx2 : (X != 0) = true := by simpa using hx
              have HX : Hid (E = X) := by rw [Hid, HV2.out, if_pos hx]
              have hbe := hg3.below
              clear hx hg3 hmid2
              go_wp2
              go_ret
              exact ⟨by rw [HX.out]; rfl, hbe⟩
end Go.Proofs.Ytbbpbcmpemmgjaa
