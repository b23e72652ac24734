/-
  Contract of the document's Write.
-/
import Derived.Test.YtlgijlfojkpeaacXLook
import Derived.Test.YtlgijlfojkpeaacVAll
namespace Go.Proofs.Ytlgijlfojkpeaac
open Go.RowKit PK Vg

theorem wpList_cat {P : Program} {ops : Array Oper} {rest : List Oper} {op : Oper} {a : Act} {w : World} {Q : Exit → Act → World → Prop} (hgd : op.guard = none) (t t' : TypeId) (x y : Operand) (ho : op.op = .binOp .add t x y t')
    (S T : ByteArray) (hx : a.eval x = .string S) (hy : a.eval y = .string T) (hsz : S.size + T.size ≤ 9223372036854775807) (h : wpList P ops Q rest (a.put op.dst (.string (S ++ T))) w) : wpList P ops Q (op :: rest) a w :=
  wpList_plain hgd fun _ hK => by
    unfold Oper.wp execOp
    have h1 : ¬ (S.size + T.size > 9223372036854775807) := by omega
    have h2 : (eqGuard .add t x y (.string S) (.string T)).run P w = .ok () w := by simp [eqGuard]
    have h3 : (binOp .add t (.string S) (.string T)).run P w = .ok (.string (S ++ T)) w := by rw [binOp_string_add, run_string_add_if, if_neg h1]
    simp only [ho, hx, hy, Sem.run_bind, h2, h3, Result.andThen_ok]
    exact hK _ _ h
theorem cat_list (S T : ByteArray) : (S ++ T).data.toList = S.data.toList ++ T.data.toList := by simp [ByteArray.data_append]
theorem cat_size (S T : ByteArray) : (S ++ T).size = S.size + T.size := by
  have h1 := Pl.size_len (S ++ T)
  have h2 := Pl.size_len S
  have h3 := Pl.size_len T
  rw [h1, cat_list, List.length_append]; omega
/-- The key, over and over. -/
def rpt (key : List UInt8) : Nat → List UInt8
  | 0 => []
  | m + 1 => rpt key m ++ key
theorem rpt_length (key : List UInt8) : ∀ m, (rpt key m).length = m * key.length
  | 0 => by simp [rpt]
  | m + 1 => by
    show (rpt key m ++ key).length = _
    rw [List.length_append, rpt_length key m, Nat.add_mul, Nat.one_mul]
theorem rpt_at (key : List UInt8) (h0 : 0 < key.length) : ∀ m i, i < m * key.length → (rpt key m).getD i 0 = key.getD (i % key.length) 0
  | 0, i, h => by omega
  | m + 1, i, h => by
    show (rpt key m ++ key).getD i 0 = _
    have hl := rpt_length key m
    simp only [List.getD_eq_getElem?_getD]
    by_cases hi : i < m * key.length
    · rw [List.getElem?_append_left (by omega)]
      have := rpt_at key h0 m i hi
      simp only [List.getD_eq_getElem?_getD] at this
      exact this
    · rw [List.getElem?_append_right (by omega), hl]
      have h1 : i - m * key.length < key.length := by rw [Nat.add_mul, Nat.one_mul] at h; omega
      have h2 : i % key.length = i - m * key.length := by
        have : i = (i - m * key.length) + m * key.length := by omega
        rw [this, Nat.add_mul_mod_self_right, Nat.mod_eq_of_lt h1]
        omega
      rw [h2]
/-- A is what is added: long enough, and of the key's letters. -/
def AllOf (k : Nat) (key t A : List UInt8) : Prop := t.length ≤ A.length ∧ ∀ i, i < t.length → (65 ≤ (A.getD i 0).toNat ∧ (A.getD i 0).toNat ≤ 90) ∧ num (A.getD i 0) = kat k key t i
theorem all_rpt {k : Nat} {key t : List UInt8} {m : Nat} (h4 : k ≠ 4) (hk : Ls key) (h0 : 0 < key.length) (hm : t.length ≤ m * key.length) : AllOf k key t (rpt key m) := by
  refine ⟨by rw [rpt_length]; exact hm, fun i hi => ?_⟩
  rw [rpt_at key h0 m i (by omega)]
  refine ⟨hk.at (Nat.mod_lt _ h0), ?_⟩
  unfold kat
  rw [if_neg (fun e => h4 e.1)]
theorem all_auto {key t : List UInt8} (hk : Ls key) (ht : Ls t) : AllOf 4 key t (key ++ t) := by
  refine ⟨by simp, fun i hi => ?_⟩
  unfold kat
  by_cases h : key.length ≤ i
  · rw [if_pos ⟨rfl, h⟩]
    have e : (key ++ t).getD i 0 = t.getD (i - key.length) 0 := by simp only [List.getD_eq_getElem?_getD]; rw [List.getElem?_append_right h]
    rw [e]
    exact ⟨ht.at (by omega), rfl⟩
  · rw [if_neg (fun e => h e.2), Nat.mod_eq_of_lt (by omega)]
    have e : (key ++ t).getD i 0 = key.getD i 0 := by simp only [List.getD_eq_getElem?_getD]; rw [List.getElem?_append_left (by omega)]
    rw [e]
    exact ⟨hk.at (by omega), rfl⟩
theorem x_info_parts {P : Program} {e : TypeId} {z : Value} {s b : Nat} (h : (P.info? e).map (fun i => (i.zero, i.size, i.bytes)) = some (some z, s, b)) : ∃ i, P.info? e = some i ∧ i.zero = some z ∧ i.size = s ∧ i.bytes = b := by
  obtain ⟨i, hi, hzz⟩ := Option.map_eq_some_iff.1 h
  simp only [Prod.mk.injEq] at hzz
  exact ⟨i, hi, hzz.1, hzz.2.1, hzz.2.2⟩
def strLen : Value → Nat
  | .string s => s.size
  | _ => 0
theorem v_cells_byte (acc : List UInt8) (b : UInt8) : Lib.byteCells acc ++ [.int .u8 (b.toNat : Int)] = Lib.byteCells (acc ++ [b]) := by simp [Lib.byteCells]
set_option maxRecDepth 100000 in
set_option maxHeartbeats 4000000 in
theorem rwr_bad (k : Int) (key t : ByteArray) (hE : (lkE k key.data.toList t.data.toList != 0) = true) (w : World) : Calls Try.prog 26 #[.int .i64 k, .string key, .string t] w fun e w' => e = .returned (.tuple #[.string ⟨#[]⟩, .agg #[.int .i64 (lkE k key.data.toList t.data.toList), .int .i64 (lkAt k key.data.toList t.data.toList)]]) ∧ Below w.heap.size w w' := by
  have HT := (show Hid (∀ W, Calls Try.prog 53 #[.int .i64 k, .string key, .string t] W fun e w' => e = .returned (.agg #[.int .i64 (lkE k key.data.toList t.data.toList), .int .i64 (lkAt k key.data.toList t.data.toList)]) ∧ Below W.heap.size W w') from fun W => rlook_any k key t W)
  generalize lkE k key.data.toList t.data.toList = E at *
  generalize lkAt k key.data.toList t.data.toList = A at *
  go_enter Try.func26, Try.ntmps26
  go_wp2_with fail
  refine (HT.out _).mono ?_
  rintro e W1 ⟨rfl, hb⟩
  have hb1 : Below (w.heap.size + 1) (w.alloc (.cells #[.int .i64 0, .int .i64 0] 42)) W1 := by simpa using hb
  have hz := hb1.size
  simp at hz
  have hb2 := hb1.alloc (by omega) (.cells #[.int .i64 E, .int .i64 A] 42)
  clear hb
  obtain ⟨c0, c1, f0, f1, hsz⟩ := Kit.two_cells hb2
  clear HT hb1
  go_wp2_with fail
  go_region
  all_goals (try go_wp2)
  have q := Kit.read_two (.int .i64 E) (.int .i64 A) c0 c1
  refine bodyPost_ret (v := .tuple #[.string ⟨#[]⟩, .agg #[.int .i64 E, .int .i64 A]]) (by simp [results, Try.results26, go_sem, q.1, q.2]) rfl ⟨rfl, ?_⟩
  exact (Kit.below_two hb2 _ _).drew
set_option maxRecDepth 100000 in
set_option maxHeartbeats 4000000 in
theorem rwr_ok (k : Nat) (key t : ByteArray) (hE : lkE k key.data.toList t.data.toList = 0) (hA : lkAt k key.data.toList t.data.toList = 0) (hn : 1 ≤ key.size ∧ key.size ≤ 256) (hs : t.size ≤ 65536) (hkl : Ls key.data.toList) (htl : Ls t.data.toList) (w : World) :
    Calls Try.prog 26 #[.int .i64 (k : Nat), .string key, .string t] w fun e w' => e = .returned (.tuple #[.string ⟨(writeL k key.data.toList t.data.toList).toArray⟩, .agg #[.int .i64 0, .int .i64 0]]) ∧ Below w.heap.size w w' := by
  have HT := (show Hid (∀ W, Calls Try.prog 53 #[.int .i64 (k : Nat), .string key, .string t] W fun e w' => e = .returned (.agg #[.int .i64 0, .int .i64 0]) ∧ Below W.heap.size W w') from fun W => by have := rlook_any k key t W; rw [hE, hA] at this; exact this)
  have hks := Pl.size_len key
  have hts := Pl.size_len t
  have HKS : Hid (key.size = key.data.toList.length) := hks
  have HTS : Hid (t.size = t.data.toList.length) := hts
  obtain ⟨i0, hi0, hz0, hz1, hz2⟩ := x_info_parts v_info_byte
  clear hE hA hks hts
  go_enter Try.func26, Try.ntmps26
  go_wp2_with fail
  refine (HT.out _).mono ?_
  rintro e W1 ⟨rfl, hb⟩
  have hb1 : Below (w.heap.size + 1) (w.alloc (.cells #[.int .i64 0, .int .i64 0] 42)) W1 := by simpa using hb
  have hz := hb1.size
  simp at hz
  have hb2 := hb1.alloc (by omega) (.cells #[.int .i64 0, .int .i64 0] 42)
  clear hb HT hb1
  go_wp2_with fail
  obtain ⟨V, hV⟩ : ∃ V, V = W1.alloc (.cells #[.int .i64 0, .int .i64 0] 42) := ⟨_, rfl⟩
  have hVs : w.heap.size + 1 ≤ V.heap.size := by rw [hV]; simp; omega
  rw [← hV] at hb2 ⊢
  clear hV hz
  go_loopw [9] (fun x W => ∃ (m : Nat) (S : ByteArray), x = .string S ∧ Hid (S.data.toList = rpt key.data.toList m) ∧ S.size ≤ t.size + key.size ∧ V = W) (fun x _ => t.size + key.size - strLen x)
  case atStart => exact ⟨1, key, rfl, by rw [Hid]; simp [rpt], by omega, rfl⟩
  case round =>
    obtain ⟨m, A0, rfl, HR, hAs, rfl⟩ := hrel
    by_cases hlt : A0.size < t.size
    · have hltI : (A0.size : Int) < (t.size : Int) := by omega
      have HR2 : Hid ((A0 ++ key).data.toList = rpt key.data.toList (m + 1)) := by rw [Hid, cat_list, HR.out]; rfl
      have hsz2 := cat_size A0 key
      have HSZ : Hid ((A0 ++ key).size = A0.size + key.size) := hsz2
      clear hsz2
      go_wp2_with (first | refine wpList_cat rfl _ _ _ _ rfl _ _ rfl rfl (by omega) ?_)
      go_roundw
      case rel => exact ⟨m + 1, _, rfl, HR2.out, by rw [HSZ.out]; omega, trivial⟩
      case measure => simp only [strLen]; rw [HSZ.out]; omega
    · have hltI : ¬ (A0.size : Int) < (t.size : Int) := by omega
      by_cases k4 : k = 4
      · have k44 : ((k : Int) == 4) = true := by simp; omega
        have hcs := cat_size key t
        have HCS : Hid ((key ++ t).size = key.size + t.size) := hcs
        obtain ⟨A, hAe⟩ : ∃ A, A = key ++ t := ⟨_, rfl⟩
        have hall : AllOf k key.data.toList t.data.toList A.data.toList := by
          rw [hAe, cat_list, k4]
          exact all_auto hkl htl
        have HAE : Hid (A = key ++ t) := hAe
        clear HR hAs hcs hAe k4
        go_wp2_with (first | (refine wpList_cat rfl _ _ _ _ rfl _ _ rfl rfl (by omega) ?_; rw [← HAE.out]))
        have HALL := (show Hid (AllOf k key.data.toList t.data.toList A.data.toList) from hall)
        clear hall
        go_loopw [11, 10] (fun i v W => ∃ (m : Nat) (v' : Value), m ≤ t.size ∧ i = .int .i64 m ∧ v' = v ∧ Kit.Owns W V.heap.size 5 v' (wrL k key.data.toList t.data.toList m) ∧ Below V.heap.size V W) (fun i _ _ => ((t.size : Int) - intOf i).toNat)
        case atStart => exact ⟨0, _, by omega, rfl, rfl, Kit.Owns.nil _ _ _, Below.refl _ _⟩
        case round =>
          obtain ⟨m, v, hm, rfl, rfl, hown, hbv⟩ := hrel
          have hzb := hbv.size
          by_cases hlt : m < t.size
          · have hlt2 : (m : Int) < (t.size : Int) := by omega
            have hta := htl.at (getD_size hlt)
            have hAl : m < A.size := by have := HALL.out.1; have := Pl.size_len A; have := Pl.size_len t; omega
            have hAl2 : (m : Int) < (A.size : Int) := by omega
            have haa := HALL.out.2 m (getD_size hlt)
            have HST := (show Hid (wrL k key.data.toList t.data.toList (m + 1) = wrL k key.data.toList t.data.toList m ++ [ltr (there k (num (t.data.toList.getD m 0)) (kat k key.data.toList t.data.toList m))]) from wrL_succ _ _ _ _)
            have HC := (show Hid (∀ W, Calls Try.prog 54 #[.int .i64 (k : Nat), .int .u8 (t.data.toList.getD m 0).toNat, .int .u8 (A.data.toList.getD m 0).toNat] W fun e w' => e = .returned (.int .u8 (ltr (there k (num (t.data.toList.getD m 0)) (num (A.data.toList.getD m 0)))).toNat) ∧ W = w') from fun W => cell_any k _ _ hta haa.1 W)
            rw [← haa.2] at HST
            rw [getD_byte t m hlt] at HST HC
            rw [getD_byte A m hAl] at HST HC
            have hle2 : (wrL k key.data.toList t.data.toList m).length ≤ 65536 := by rw [wrL_length]; omega
            generalize ltr (there k (num t[m]) (num A[m])) = z at *
            generalize wrL k key.data.toList t.data.toList m = acc at *
            have HCB := (show Hid (Lib.byteCells acc ++ [.int .u8 (z.toNat : Int)] = Lib.byteCells (acc ++ [z])) from v_cells_byte acc z)
            clear hta haa
            go_wp2_with fail
            refine wp_region_noPanic ?_
            refine wp_region_held_drew (S := fun _ => True) (by kernel_rfl) trivial (fun hS => ?_)
            refine vtake 0 40 (v) rfl rfl (by kernel_rfl) (by kernel_rfl) (by kernel_rfl) (fun _ _ _ _ h => h) (by rfl) (fun W hW => by clear hS hW; go_simp) hS ?_
            simp only [List.setIfInBounds_toArray, List.set_cons_succ, List.set_cons_zero]
            refine vtake 1 41 (.int .i64 (k : Nat)) rfl rfl (by kernel_rfl) (by kernel_rfl) (by kernel_rfl) (fun _ _ _ _ h => h) (by rfl) (fun W hW => by clear hS hW; go_simp) hS ?_
            simp only [List.setIfInBounds_toArray, List.set_cons_succ, List.set_cons_zero]
            refine vtake 2 42 (.string t) rfl rfl (by kernel_rfl) (by kernel_rfl) (by kernel_rfl) (fun _ _ _ _ h => h) (by rfl) (fun W hW => by clear hS hW; go_simp) hS ?_
            simp only [List.setIfInBounds_toArray, List.set_cons_succ, List.set_cons_zero]
            refine vtake 3 43 (.int .i64 (m : Nat)) rfl rfl (by kernel_rfl) (by kernel_rfl) (by kernel_rfl) (fun _ _ _ _ h => h) (by rfl) (fun W hW => by clear hS hW; go_simp) hS ?_
            simp only [List.setIfInBounds_toArray, List.set_cons_succ, List.set_cons_zero]
            refine vtake 4 44 (.int .u8 (t[m].toNat : Nat)) rfl rfl (by kernel_rfl) (by kernel_rfl) (by kernel_rfl) (fun _ _ _ _ h => h) (by rfl) (fun W hW => by clear hS hW; go_simp) hS ?_
            simp only [List.setIfInBounds_toArray, List.set_cons_succ, List.set_cons_zero]
            refine vtake 5 45 (.string A) rfl rfl (by kernel_rfl) (by kernel_rfl) (by kernel_rfl) (fun _ _ _ _ h => h) (by rfl) (fun W hW => by clear hS hW; go_simp) hS ?_
            simp only [List.setIfInBounds_toArray, List.set_cons_succ, List.set_cons_zero]
            refine vtake 6 46 (.int .i64 (m : Nat)) rfl rfl (by kernel_rfl) (by kernel_rfl) (by kernel_rfl) (fun _ _ _ _ h => h) (by rfl) (fun W hW => by clear hS hW; go_simp) hS ?_
            simp only [List.setIfInBounds_toArray, List.set_cons_succ, List.set_cons_zero]
            refine vtake 7 47 (.int .u8 (A[m].toNat : Nat)) rfl rfl (by kernel_rfl) (by kernel_rfl) (by kernel_rfl) (fun _ _ _ _ h => h) (by rfl) (fun W hW => by clear hS hW; go_simp) hS ?_
            simp only [List.setIfInBounds_toArray, List.set_cons_succ, List.set_cons_zero]
            refine wpAnyH_ready (rs := [8]) (by kernel_rfl) (by simp) ?_
            refine AllReadyH.cons (o := _) rfl (fun K hK => ?_) AllReadyH.nil
            rw [if_pos (by rfl)]
            go_simp
            refine Calls.mono (HC.out _) ?_
            rintro e Y ⟨rfl, rfl⟩
            refine hK.out _ _ (trivial) (fun hS1 => ?_)
            clear hK hS K
            have hS := hS1
            clear hS1
            refine wpAnyH_ready (rs := [9]) (by kernel_rfl) (by simp) ?_
            refine AllReadyH.cons (o := _) rfl (fun K hK => ?_) AllReadyH.nil
            rw [if_pos (by rfl)]
            go_simp
            refine hK.out _ _ trivial (fun hS1 => ?_)
            clear hK hS K
            have hS := hS1
            clear hS1
            have hownY := World.ownsRow.alloc (World.ownsRow.drew hown) (.cells #[.int .u8 z.toNat] 5)
            refine wpAnyH_ready (rs := [10]) (by kernel_rfl) (by simp) ?_
            refine AllReadyH.cons (o := _) rfl (fun K hK => ?_) AllReadyH.nil
            rw [if_pos (by rfl)]
            refine wp_append_own _ _ _ 58 rfl V.heap.size 5 i0 (.int .u8 0) 1 1 Try.underlying58 hi0 hz0 hz1 hz2 rfl (by decide) _ _ _ rfl hownY ⟨wr.heap.size, 0, none⟩ 1 1 [.int .u8 (z.toNat : Int)] rfl rfl (cell_one_new _ _ _) (fun u hu => by simp at hu; subst hu; rfl) (by unfold maxLen; omega) (by omega) (by simp; omega) ?_
            intro v5 w5 hown5 hgrow5 _
            refine hK.out _ _ trivial (fun hS1 => ?_)
            clear hK hS K
            have hS := hS1
            clear hS1
            simp only [Act.put, List.setIfInBounds_toArray]
            refine vtake 11 10 (v5) rfl rfl (by kernel_rfl) (by kernel_rfl) (by kernel_rfl) (fun _ _ _ _ h => h) (by rfl) (fun W hW => by clear hS hW; go_simp) hS ?_
            simp only [List.setIfInBounds_toArray, List.set_cons_succ, List.set_cons_zero]
            refine wpAnyH_done (by kernel_rfl) ?_ _
            refine NoPanic.normal ?_
            have hbY := (hbv.drew.alloc (by simp; omega) (.cells #[.int .u8 z.toNat] 5)).grown hgrow5 (by simp; omega) (fun k hk => (World.ownsRow.lt hown k hk).1)
            go_wp2_with fail
            go_roundw
            case rel =>
              refine ⟨m + 1, _, by omega, by go_num, rfl, ?_, hbY⟩
              rw [HST.out]
              unfold Kit.Owns
              rw [← HCB.out, List.length_append]
              exact hown5
            case measure => simp [intOf] <;> omega
          · obtain rfl : m = t.size := by omega
            have HW : Hid (wrL k key.data.toList t.data.toList t.size = writeL k key.data.toList t.data.toList) := by rw [Hid, Pl.size_len]; rfl
            have hst := Kit.run_string_of_own (P := Try.prog) wr 58 9 5 Try.underlying58 Try.underlying5 Try.underlying9 hown
            rw [HW.out] at hst
            obtain ⟨T, hT⟩ : ∃ T, T = (⟨(writeL k key.data.toList t.data.toList).toArray⟩ : ByteArray) := ⟨_, rfl⟩
            rw [← hT] at hst
            have HT : Hid (T = (⟨(writeL k key.data.toList t.data.toList).toArray⟩ : ByteArray)) := hT
            have hbw := hb2.trans (hbv.mono hVs)
            obtain ⟨c0, c1, f0, f1, hsz⟩ := Kit.two_cells hbw
            clear hT hown HW
            go_wp2
            have q := Kit.read_two (.int .i64 0) (.int .i64 0) c0 c1
            refine bodyPost_ret (v := .tuple #[.string T, .agg #[.int .i64 0, .int .i64 0]]) (by simp [results, Try.results26, go_sem, q.1, q.2]) rfl ⟨by rw [HT.out], ?_⟩
            exact Kit.below_two hbw _ _
      · have k44 : ((k : Int) == 4) = false := beq_false_of_ne (by omega)
        obtain ⟨A, rfl⟩ : ∃ A, A = A0 := ⟨_, rfl⟩
        have hall : AllOf k key.data.toList t.data.toList A.data.toList := by
          rw [HR.out]
          refine all_rpt k4 hkl (by rw [← HKS.out]; omega) ?_
          rw [← rpt_length, ← HR.out, ← HTS.out, ← Pl.size_len]; omega
        clear HR hAs
        have HALL := (show Hid (AllOf k key.data.toList t.data.toList A.data.toList) from hall)
        clear hall
        go_wp2_with fail
        go_loopw [11, 10] (fun i v W => ∃ (m : Nat) (v' : Value), m ≤ t.size ∧ i = .int .i64 m ∧ v' = v ∧ Kit.Owns W V.heap.size 5 v' (wrL k key.data.toList t.data.toList m) ∧ Below V.heap.size V W) (fun i _ _ => ((t.size : Int) - intOf i).toNat)
        case atStart => exact ⟨0, _, by omega, rfl, rfl, Kit.Owns.nil _ _ _, Below.refl _ _⟩
        case round =>
          obtain ⟨m, v, hm, rfl, rfl, hown, hbv⟩ := hrel
          have hzb := hbv.size
          by_cases hlt : m < t.size
          · have hlt2 : (m : Int) < (t.size : Int) := by omega
            have hta := htl.at (getD_size hlt)
            have hAl : m < A.size := by have := HALL.out.1; have := Pl.size_len A; have := Pl.size_len t; omega
            have hAl2 : (m : Int) < (A.size : Int) := by omega
            have haa := HALL.out.2 m (getD_size hlt)
            have HST := (show Hid (wrL k key.data.toList t.data.toList (m + 1) = wrL k key.data.toList t.data.toList m ++ [ltr (there k (num (t.data.toList.getD m 0)) (kat k key.data.toList t.data.toList m))]) from wrL_succ _ _ _ _)
            have HC := (show Hid (∀ W, Calls Try.prog 54 #[.int .i64 (k : Nat), .int .u8 (t.data.toList.getD m 0).toNat, .int .u8 (A.data.toList.getD m 0).toNat] W fun e w' => e = .returned (.int .u8 (ltr (there k (num (t.data.toList.getD m 0)) (num (A.data.toList.getD m 0)))).toNat) ∧ W = w') from fun W => cell_any k _ _ hta haa.1 W)
            rw [← haa.2] at HST
            rw [getD_byte t m hlt] at HST HC
            rw [getD_byte A m hAl] at HST HC
            have hle2 : (wrL k key.data.toList t.data.toList m).length ≤ 65536 := by rw [wrL_length]; omega
            generalize ltr (there k (num t[m]) (num A[m])) = z at *
            generalize wrL k key.data.toList t.data.toList m = acc at *
            have HCB := (show Hid (Lib.byteCells acc ++ [.int .u8 (z.toNat : Int)] = Lib.byteCells (acc ++ [z])) from v_cells_byte acc z)
            clear hta haa
            go_wp2_with fail
            refine wp_region_noPanic ?_
            refine wp_region_held_drew (S := fun _ => True) (by kernel_rfl) trivial (fun hS => ?_)
            refine vtake 0 40 (v) rfl rfl (by kernel_rfl) (by kernel_rfl) (by kernel_rfl) (fun _ _ _ _ h => h) (by rfl) (fun W hW => by clear hS hW; go_simp) hS ?_
            simp only [List.setIfInBounds_toArray, List.set_cons_succ, List.set_cons_zero]
            refine vtake 1 41 (.int .i64 (k : Nat)) rfl rfl (by kernel_rfl) (by kernel_rfl) (by kernel_rfl) (fun _ _ _ _ h => h) (by rfl) (fun W hW => by clear hS hW; go_simp) hS ?_
            simp only [List.setIfInBounds_toArray, List.set_cons_succ, List.set_cons_zero]
            refine vtake 2 42 (.string t) rfl rfl (by kernel_rfl) (by kernel_rfl) (by kernel_rfl) (fun _ _ _ _ h => h) (by rfl) (fun W hW => by clear hS hW; go_simp) hS ?_
            simp only [List.setIfInBounds_toArray, List.set_cons_succ, List.set_cons_zero]
            refine vtake 3 43 (.int .i64 (m : Nat)) rfl rfl (by kernel_rfl) (by kernel_rfl) (by kernel_rfl) (fun _ _ _ _ h => h) (by rfl) (fun W hW => by clear hS hW; go_simp) hS ?_
            simp only [List.setIfInBounds_toArray, List.set_cons_succ, List.set_cons_zero]
            refine vtake 4 44 (.int .u8 (t[m].toNat : Nat)) rfl rfl (by kernel_rfl) (by kernel_rfl) (by kernel_rfl) (fun _ _ _ _ h => h) (by rfl) (fun W hW => by clear hS hW; go_simp) hS ?_
            simp only [List.setIfInBounds_toArray, List.set_cons_succ, List.set_cons_zero]
            refine vtake 5 45 (.string A) rfl rfl (by kernel_rfl) (by kernel_rfl) (by kernel_rfl) (fun _ _ _ _ h => h) (by rfl) (fun W hW => by clear hS hW; go_simp) hS ?_
            simp only [List.setIfInBounds_toArray, List.set_cons_succ, List.set_cons_zero]
            refine vtake 6 46 (.int .i64 (m : Nat)) rfl rfl (by kernel_rfl) (by kernel_rfl) (by kernel_rfl) (fun _ _ _ _ h => h) (by rfl) (fun W hW => by clear hS hW; go_simp) hS ?_
            simp only [List.setIfInBounds_toArray, List.set_cons_succ, List.set_cons_zero]
            refine vtake 7 47 (.int .u8 (A[m].toNat : Nat)) rfl rfl (by kernel_rfl) (by kernel_rfl) (by kernel_rfl) (fun _ _ _ _ h => h) (by rfl) (fun W hW => by clear hS hW; go_simp) hS ?_
            simp only [List.setIfInBounds_toArray, List.set_cons_succ, List.set_cons_zero]
            refine wpAnyH_ready (rs := [8]) (by kernel_rfl) (by simp) ?_
            refine AllReadyH.cons (o := _) rfl (fun K hK => ?_) AllReadyH.nil
            rw [if_pos (by rfl)]
            go_simp
            refine Calls.mono (HC.out _) ?_
            rintro e Y ⟨rfl, rfl⟩
            refine hK.out _ _ (trivial) (fun hS1 => ?_)
            clear hK hS K
            have hS := hS1
            clear hS1
            refine wpAnyH_ready (rs := [9]) (by kernel_rfl) (by simp) ?_
            refine AllReadyH.cons (o := _) rfl (fun K hK => ?_) AllReadyH.nil
            rw [if_pos (by rfl)]
            go_simp
            refine hK.out _ _ trivial (fun hS1 => ?_)
            clear hK hS K
            have hS := hS1
            clear hS1
            have hownY := World.ownsRow.alloc (World.ownsRow.drew hown) (.cells #[.int .u8 z.toNat] 5)
            refine wpAnyH_ready (rs := [10]) (by kernel_rfl) (by simp) ?_
            refine AllReadyH.cons (o := _) rfl (fun K hK => ?_) AllReadyH.nil
            rw [if_pos (by rfl)]
            refine wp_append_own _ _ _ 58 rfl V.heap.size 5 i0 (.int .u8 0) 1 1 Try.underlying58 hi0 hz0 hz1 hz2 rfl (by decide) _ _ _ rfl hownY ⟨wr.heap.size, 0, none⟩ 1 1 [.int .u8 (z.toNat : Int)] rfl rfl (cell_one_new _ _ _) (fun u hu => by simp at hu; subst hu; rfl) (by unfold maxLen; omega) (by omega) (by simp; omega) ?_
            intro v5 w5 hown5 hgrow5 _
            refine hK.out _ _ trivial (fun hS1 => ?_)
            clear hK hS K
            have hS := hS1
            clear hS1
            simp only [Act.put, List.setIfInBounds_toArray]
            refine vtake 11 10 (v5) rfl rfl (by kernel_rfl) (by kernel_rfl) (by kernel_rfl) (fun _ _ _ _ h => h) (by rfl) (fun W hW => by clear hS hW; go_simp) hS ?_
            simp only [List.setIfInBounds_toArray, List.set_cons_succ, List.set_cons_zero]
            refine wpAnyH_done (by kernel_rfl) ?_ _
            refine NoPanic.normal ?_
            have hbY := (hbv.drew.alloc (by simp; omega) (.cells #[.int .u8 z.toNat] 5)).grown hgrow5 (by simp; omega) (fun k hk => (World.ownsRow.lt hown k hk).1)
            go_wp2_with fail
            go_roundw
            case rel =>
              refine ⟨m + 1, _, by omega, by go_num, rfl, ?_, hbY⟩
              rw [HST.out]
              unfold Kit.Owns
              rw [← HCB.out, List.length_append]
              exact hown5
            case measure => simp [intOf] <;> omega
          · obtain rfl : m = t.size := by omega
            have HW : Hid (wrL k key.data.toList t.data.toList t.size = writeL k key.data.toList t.data.toList) := by rw [Hid, Pl.size_len]; rfl
            have hst := Kit.run_string_of_own (P := Try.prog) wr 58 9 5 Try.underlying58 Try.underlying5 Try.underlying9 hown
            rw [HW.out] at hst
            obtain ⟨T, hT⟩ : ∃ T, T = (⟨(writeL k key.data.toList t.data.toList).toArray⟩ : ByteArray) := ⟨_, rfl⟩
            rw [← hT] at hst
            have HT : Hid (T = (⟨(writeL k key.data.toList t.data.toList).toArray⟩ : ByteArray)) := hT
            have hbw := hb2.trans (hbv.mono hVs)
            obtain ⟨c0, c1, f0, f1, hsz⟩ := Kit.two_cells hbw
            clear hT hown HW
            go_wp2
            have q := Kit.read_two (.int .i64 0) (.int .i64 0) c0 c1
            refine bodyPost_ret (v := .tuple #[.string T, .agg #[.int .i64 0, .int .i64 0]]) (by simp [results, Try.results26, go_sem, q.1, q.2]) rfl ⟨by rw [HT.out], ?_⟩
            exact Kit.below_two hbw _ _
end Go.Proofs.Ytlgijlfojkpeaac
