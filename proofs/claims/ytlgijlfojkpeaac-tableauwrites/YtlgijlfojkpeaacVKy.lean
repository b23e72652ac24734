/-
  Contract of tableau.Key.
-/
import Derived.Test.YtlgijlfojkpeaacVKyB
namespace Go.Proofs.Ytlgijlfojkpeaac
open Go.RowKit PK Vg

theorem ck_of_ls {l : List UInt8} (h : Ls l) (hn : l.length ≤ 65536) : ckE l = 0 ∧ ckAt l = 0 := by
  unfold ckE ckAt
  rw [if_neg (by omega), if_neg (by omega)]
  refine chk_none l (List.findIdx?_eq_none_iff.2 fun c hc => ?_)
  have := h c hc
  simp [Pl.bad, Pl.isL]
  omega
theorem ext_toList (t : ByteArray) (n : Nat) : (t.extract 0 n).data.toList = t.data.toList.take n := by
  simp [ByteArray.data_extract]
theorem kyL_take (k : Nat) (t s : List UInt8) (n : Nat) : kyL k (t.take n) (s.take n) n = kyL k t s n := by
  unfold kyL
  apply List.map_congr_left
  intro i hi
  have hi' : i < n := by simpa using hi
  simp only [List.getD_eq_getElem?_getD]
  rw [List.getElem?_take_of_lt hi', List.getElem?_take_of_lt hi']
theorem ls_take {l : List UInt8} (h : Ls l) (n : Nat) : Ls (l.take n) := fun c hc => h c (List.mem_of_mem_take hc)
theorem ba_size (l : List UInt8) : (⟨l.toArray⟩ : ByteArray).size = l.length := by simp [ByteArray.size]
set_option maxRecDepth 100000 in
set_option maxHeartbeats 2000000 in
theorem key_fit (k : Nat) (h : 1 ≤ k ∧ k ≤ 3) (n : Nat) (hn : 1 ≤ n ∧ n ≤ 256) (t s : ByteArray) (w : World) (ht : ckE t.data.toList = 0 ∧ ckAt t.data.toList = 0) (hs : ckE s.data.toList = 0 ∧ ckAt s.data.toList = 0) (hf : ¬ t.size = s.size ∨ t.size < n) :
    Calls Try.prog 29 #[.int .i64 (k : Nat), .int .i64 (n : Nat), .string t, .string s] w fun e w' => e = .returned (.tuple #[.string ⟨#[]⟩, .agg #[.int .i64 8, .int .i64 0]]) ∧ Below w.heap.size w w' := by
  have hk2 : ((k : Int) == 4) = false := beq_false_of_ne (by omega)
  have hn2 : ¬ (n : Int) < 1 := by omega
  have hn3 : ¬ 256 < (n : Int) := by omega
  have h' : 1 ≤ k ∧ k ≤ 4 := by omega
  have HT := (show Hid (∀ W, Calls Try.prog 56 #[.int .i64 (k : Nat)] W fun e w' => e = .returned (.tuple #[.agg #[.func (.func (fn0 k)) #[] #[], .func (.func (fn1 k)) #[] #[], .func (.func (fn2 k)) #[] #[], .bool (decide (k = 4))], .bool true]) ∧ Below W.heap.size W w') from fun W => tableOf_ok k h' W)
  have HCt := (show Hid (∀ W, Calls Try.prog 35 #[.string t] W fun e w' => e = .returned (.agg #[.int .i64 0, .int .i64 0]) ∧ Below W.heap.size W w') from fun W => by have := check_all t W; rw [ht.1, ht.2] at this; exact this)
  have HCs := (show Hid (∀ W, Calls Try.prog 35 #[.string s] W fun e w' => e = .returned (.agg #[.int .i64 0, .int .i64 0]) ∧ Below W.heap.size W w') from fun W => by have := check_all s W; rw [hs.1, hs.2] at this; exact this)
  generalize fn0 k = F0 at *
  generalize fn1 k = F1 at *
  generalize fn2 k = F2 at *
  generalize decide (k = 4) = B at *
  clear h h' ht hs
  go_enter Try.func29, Try.ntmps29
  go_wp2_with fail
  refine (HT.out _).mono ?_
  rintro e W1 ⟨rfl, hb⟩
  have hb1 : Below (w.heap.size + 1) (w.alloc (.cells #[.int .i64 0, .int .i64 0] 42)) W1 := by simpa using hb
  have hz := hb1.size
  simp at hz
  have hb2 := hb1.alloc (by omega) (.cells #[.func (.func F0) #[] #[], .func (.func F1) #[] #[], .func (.func F2) #[] #[], .bool B] 61)
  have hb3 := hb2.alloc (by simp; omega) (.cells #[.string t, .string s] 9)
  have r10 := (RowAt.new W1 61 #[.func (.func F0) #[] #[], .func (.func F1) #[] #[], .func (.func F2) #[] #[], .bool B]).alloc (.cells #[.string t, .string s] 9)
  have r38 := RowAt.new (W1.alloc (.cells #[.func (.func F0) #[] #[], .func (.func F1) #[] #[], .func (.func F2) #[] #[], .bool B] 61)) 9 #[.string t, .string s]
  simp only [World.size_alloc] at r38
  clear hb HT hb1 hb2 hz
  have z0 := r38.cell (i := 0) rfl
  have z1 := r38.cell (i := 1) rfl
  go_wp2_with fail
  refine wp_loop_rounds 3 ?_
  rw [rounds_succ]
  go_wp2_with fail
  refine (HCt.out _).mono ?_
  rintro e X4 ⟨rfl, hc4⟩
  have hb4 := (hb3.trans (hc4.mono (by have := hb3.size; simp at this ⊢; omega))).alloc (by have := hb3.size; have := hc4.size; simp at *; omega) (.cells #[.int .i64 0, .int .i64 0] 42)
  have r104 := (r10.below hc4 r10.lt).alloc (.cells #[.int .i64 0, .int .i64 0] 42)
  have r384 := (r38.below hc4 r38.lt).alloc (.cells #[.int .i64 0, .int .i64 0] 42)
  clear hc4 hb3 r10 r38
  clear z0 z1
  have z0 := r384.cell (i := 0) rfl
  have z1 := r384.cell (i := 1) rfl
  go_wp2_with fail
  rw [rounds_succ]
  go_wp2_with fail
  refine (HCs.out _).mono ?_
  rintro e X5 ⟨rfl, hc5⟩
  have hb5 := (hb4.trans (hc5.mono (by have := hb4.size; simp at this ⊢; omega))).alloc (by have := hb4.size; have := hc5.size; simp at *; omega) (.cells #[.int .i64 0, .int .i64 0] 42)
  have r105 := (r104.below hc5 r104.lt).alloc (.cells #[.int .i64 0, .int .i64 0] 42)
  have r385 := (r384.below hc5 r384.lt).alloc (.cells #[.int .i64 0, .int .i64 0] 42)
  clear hc5 hb4 r104 r384
  clear z0 z1 r385
  go_wp2_with fail
  rw [rounds_succ]
  obtain ⟨c0, c1, f0, f1, hsz⟩ := Kit.two_cells hb5
  by_cases hf1 : t.size = s.size
  · have hf5 : s.size < n := by omega
    have hf6 : (s.size : Int) < (n : Int) := by omega
    clear hf
    go_wp2
    have q := Kit.read_two (.int .i64 8) (.int .i64 0) c0 c1
    refine bodyPost_ret (v := .tuple #[.string ⟨#[]⟩, .agg #[.int .i64 8, .int .i64 0]]) (by simp [results, Try.results29, go_sem, q.1, q.2]) rfl ⟨rfl, ?_⟩
    exact Kit.below_two hb5 _ _
  · have hf3 : ((t.size : Int) == (s.size : Int)) = false := beq_false_of_ne (by omega)
    clear hf
    go_wp2
    have q := Kit.read_two (.int .i64 8) (.int .i64 0) c0 c1
    refine bodyPost_ret (v := .tuple #[.string ⟨#[]⟩, .agg #[.int .i64 8, .int .i64 0]]) (by simp [results, Try.results29, go_sem, q.1, q.2]) rfl ⟨rfl, ?_⟩
    exact Kit.below_two hb5 _ _
set_option maxRecDepth 100000 in
set_option maxHeartbeats 2000000 in
theorem key_run (k : Nat) (h : 1 ≤ k ∧ k ≤ 3) (n : Nat) (hn : 1 ≤ n ∧ n ≤ 256) (t s : ByteArray) (w : World) (ht : ckE t.data.toList = 0 ∧ ckAt t.data.toList = 0) (hs : ckE s.data.toList = 0 ∧ ckAt s.data.toList = 0) (htl : Ls t.data.toList) (hsl : Ls s.data.toList) (h6 : t.size ≤ 65536) (hf1 : t.size = s.size) (hf2 : n ≤ t.size) :
    Calls Try.prog 29 #[.int .i64 (k : Nat), .int .i64 (n : Nat), .string t, .string s] w fun e w' => e = .returned (.tuple #[.string ⟨(if writeL k (kyL k t.data.toList s.data.toList n) t.data.toList = s.data.toList then kyL k t.data.toList s.data.toList n else []).toArray⟩, .agg #[.int .i64 (if writeL k (kyL k t.data.toList s.data.toList n) t.data.toList = s.data.toList then 0 else 6), .int .i64 0]]) ∧ Below w.heap.size w w' := by
  have hkk := kyL_ls k t.data.toList s.data.toList n
  have hkn := kyL_length k t.data.toList s.data.toList n
  have hck := ck_of_ls hkk (by omega)
  have HB := (show Hid (∀ W, Calls Try.prog 57 #[.agg #[.func (.func (fn0 k)) #[] #[], .func (.func (fn1 k)) #[] #[], .func (.func (fn2 k)) #[] #[], .bool (decide (k = 4))], .string (t.extract 0 n), .string (s.extract 0 n)] W fun e w' => e = .returned (.string ⟨(kyL k t.data.toList s.data.toList n).toArray⟩) ∧ Below W.heap.size W w') from fun W => by
    have hz1 : (t.extract 0 n).size = n := by rw [ByteArray.size_extract]; omega
    have hz2 : (s.extract 0 n).size = n := by rw [ByteArray.size_extract]; omega
    have := betw_any k (decide (k = 4)) (.func (.func (fn0 k)) #[] #[]) (.func (.func (fn1 k)) #[] #[]) (t.extract 0 n) (s.extract 0 n) (by omega) (by omega) (by rw [ext_toList]; exact ls_take htl n) (by rw [ext_toList]; exact ls_take hsl n) W
    rw [hz1, ext_toList, ext_toList, kyL_take] at this
    exact this)
  have HW := (show Hid (∀ W, Calls Try.prog 25 #[.int .i64 (k : Nat), .string ⟨(kyL k t.data.toList s.data.toList n).toArray⟩, .string t] W fun e w' => e = .returned (.tuple #[.string ⟨(writeL k (kyL k t.data.toList s.data.toList n) t.data.toList).toArray⟩, .agg #[.int .i64 0, .int .i64 0]]) ∧ Below W.heap.size W w') from fun W => vwr_ok k (by omega) _ t hck.1 hck.2 (by rw [ba_size]; omega) ht.1 ht.2 h6 hkk htl W)
  have HQ : Hid ((⟨(writeL k (kyL k t.data.toList s.data.toList n) t.data.toList).toArray⟩ : ByteArray) = s ↔ writeL k (kyL k t.data.toList s.data.toList n) t.data.toList = s.data.toList) := by
    rw [Hid]
    constructor
    · intro e; exact congrArg (fun x : ByteArray => x.data.toList) e
    · intro e; rw [e]
  have HKA : Hid (∀ b : Bool, (⟨(if b then kyL k t.data.toList s.data.toList n else []).toArray⟩ : ByteArray) = if b then ⟨(kyL k t.data.toList s.data.toList n).toArray⟩ else ⟨#[]⟩) := by rw [Hid]; intro b; cases b <;> rfl
  by_cases hwr : writeL k (kyL k t.data.toList s.data.toList n) t.data.toList = s.data.toList
  · rw [if_pos hwr, if_pos hwr]
    have hsw := HQ.out.2 hwr
    rw [hsw] at HW
    obtain ⟨KK, hKK⟩ : ∃ KK, KK = (⟨(kyL k t.data.toList s.data.toList n).toArray⟩ : ByteArray) := ⟨_, rfl⟩
    rw [← hKK] at HB HW ⊢
    clear hwr hsw HQ HKA hkk hkn hck hKK htl hsl
    have hk2 : ((k : Int) == 4) = false := beq_false_of_ne (by omega)
    have hn2 : ¬ (n : Int) < 1 := by omega
    have hn3 : ¬ 256 < (n : Int) := by omega
    have h' : 1 ≤ k ∧ k ≤ 4 := by omega
    have HT := (show Hid (∀ W, Calls Try.prog 56 #[.int .i64 (k : Nat)] W fun e w' => e = .returned (.tuple #[.agg #[.func (.func (fn0 k)) #[] #[], .func (.func (fn1 k)) #[] #[], .func (.func (fn2 k)) #[] #[], .bool (decide (k = 4))], .bool true]) ∧ Below W.heap.size W w') from fun W => tableOf_ok k h' W)
    have HCt := (show Hid (∀ W, Calls Try.prog 35 #[.string t] W fun e w' => e = .returned (.agg #[.int .i64 0, .int .i64 0]) ∧ Below W.heap.size W w') from fun W => by have := check_all t W; rw [ht.1, ht.2] at this; exact this)
    have HCs := (show Hid (∀ W, Calls Try.prog 35 #[.string s] W fun e w' => e = .returned (.agg #[.int .i64 0, .int .i64 0]) ∧ Below W.heap.size W w') from fun W => by have := check_all s W; rw [hs.1, hs.2] at this; exact this)
    generalize fn0 k = F0 at *
    generalize fn1 k = F1 at *
    generalize fn2 k = F2 at *
    generalize decide (k = 4) = B at *
    clear h h' ht hs
    go_enter Try.func29, Try.ntmps29
    go_wp2_with fail
    refine (HT.out _).mono ?_
    rintro e W1 ⟨rfl, hb⟩
    have hb1 : Below (w.heap.size + 1) (w.alloc (.cells #[.int .i64 0, .int .i64 0] 42)) W1 := by simpa using hb
    have hz := hb1.size
    simp at hz
    have hb2 := hb1.alloc (by omega) (.cells #[.func (.func F0) #[] #[], .func (.func F1) #[] #[], .func (.func F2) #[] #[], .bool B] 61)
    have hb3 := hb2.alloc (by simp; omega) (.cells #[.string t, .string s] 9)
    have r10 := (RowAt.new W1 61 #[.func (.func F0) #[] #[], .func (.func F1) #[] #[], .func (.func F2) #[] #[], .bool B]).alloc (.cells #[.string t, .string s] 9)
    have r38 := RowAt.new (W1.alloc (.cells #[.func (.func F0) #[] #[], .func (.func F1) #[] #[], .func (.func F2) #[] #[], .bool B] 61)) 9 #[.string t, .string s]
    simp only [World.size_alloc] at r38
    clear hb HT hb1 hb2 hz
    have z0 := r38.cell (i := 0) rfl
    have z1 := r38.cell (i := 1) rfl
    go_wp2_with fail
    refine wp_loop_rounds 3 ?_
    rw [rounds_succ]
    go_wp2_with fail
    refine (HCt.out _).mono ?_
    rintro e X4 ⟨rfl, hc4⟩
    have hb4 := (hb3.trans (hc4.mono (by have := hb3.size; simp at this ⊢; omega))).alloc (by have := hb3.size; have := hc4.size; simp at *; omega) (.cells #[.int .i64 0, .int .i64 0] 42)
    have r104 := (r10.below hc4 r10.lt).alloc (.cells #[.int .i64 0, .int .i64 0] 42)
    have r384 := (r38.below hc4 r38.lt).alloc (.cells #[.int .i64 0, .int .i64 0] 42)
    clear hc4 hb3 r10 r38
    clear z0 z1
    have z0 := r384.cell (i := 0) rfl
    have z1 := r384.cell (i := 1) rfl
    go_wp2_with fail
    rw [rounds_succ]
    go_wp2_with fail
    refine (HCs.out _).mono ?_
    rintro e X5 ⟨rfl, hc5⟩
    have hb5 := (hb4.trans (hc5.mono (by have := hb4.size; simp at this ⊢; omega))).alloc (by have := hb4.size; have := hc5.size; simp at *; omega) (.cells #[.int .i64 0, .int .i64 0] 42)
    have r105 := (r104.below hc5 r104.lt).alloc (.cells #[.int .i64 0, .int .i64 0] 42)
    have r385 := (r384.below hc5 r384.lt).alloc (.cells #[.int .i64 0, .int .i64 0] 42)
    clear hc5 hb4 r104 r384
    clear z0 z1 r385
    go_wp2_with fail
    rw [rounds_succ]
    have hf5 : ¬ (s.size : Int) < (n : Int) := by omega
    have hf7 : (n : Int) ≤ (s.size : Int) := by omega
    have hf8 : n ≤ s.size := by omega
    clear hf2
    go_wp2_with fail
    refine wp_region_noPanic ?_
    refine wp_region_held_drew (S := fun W => RowAt W W1.heap.size 61 #[.func (.func F0) #[] #[], .func (.func F1) #[] #[], .func (.func F2) #[] #[], .bool B] ∧ Below (w.heap.size + 1) (w.alloc (.cells #[.int .i64 0, .int .i64 0] 42)) W) (by kernel_rfl) ⟨r105, hb5.drew⟩ (fun hS => ?_)
    refine vtake 0 63 (.agg #[.func (.func F0) #[] #[], .func (.func F1) #[] #[], .func (.func F2) #[] #[], .bool B]) rfl rfl (by kernel_rfl) (by kernel_rfl) (by kernel_rfl) (fun _ _ _ _ h => h) (by rfl) (fun W hW => by have u0 := hW.1.cell (i := 0) rfl; have u1 := hW.1.cell (i := 1) rfl; have u2 := hW.1.cell (i := 2) rfl; have u3 := hW.1.cell (i := 3) rfl; clear hS hW; go_simp) hS ?_
    simp only [List.setIfInBounds_toArray, List.set_cons_succ, List.set_cons_zero]
    refine vtake 1 64 (.string t) rfl rfl (by kernel_rfl) (by kernel_rfl) (by kernel_rfl) (fun _ _ _ _ h => h) (by rfl) (fun W hW => by clear hS hW; go_simp) hS ?_
    simp only [List.setIfInBounds_toArray, List.set_cons_succ, List.set_cons_zero]
    refine vtake 2 65 (.int .i64 (n : Nat)) rfl rfl (by kernel_rfl) (by kernel_rfl) (by kernel_rfl) (fun _ _ _ _ h => h) (by rfl) (fun W hW => by clear hS hW; go_simp) hS ?_
    simp only [List.setIfInBounds_toArray, List.set_cons_succ, List.set_cons_zero]
    refine vtake 3 66 (.string (t.extract 0 n)) rfl rfl (by kernel_rfl) (by kernel_rfl) (by kernel_rfl) (fun _ _ _ _ h => h) (by rfl) (fun W hW => by clear hS hW; go_simp) hS ?_
    simp only [List.setIfInBounds_toArray, List.set_cons_succ, List.set_cons_zero]
    refine vtake 4 67 (.string s) rfl rfl (by kernel_rfl) (by kernel_rfl) (by kernel_rfl) (fun _ _ _ _ h => h) (by rfl) (fun W hW => by clear hS hW; go_simp) hS ?_
    simp only [List.setIfInBounds_toArray, List.set_cons_succ, List.set_cons_zero]
    refine vtake 5 68 (.int .i64 (n : Nat)) rfl rfl (by kernel_rfl) (by kernel_rfl) (by kernel_rfl) (fun _ _ _ _ h => h) (by rfl) (fun W hW => by clear hS hW; go_simp) hS ?_
    simp only [List.setIfInBounds_toArray, List.set_cons_succ, List.set_cons_zero]
    refine vtake 6 69 (.string (s.extract 0 n)) rfl rfl (by kernel_rfl) (by kernel_rfl) (by kernel_rfl) (fun _ _ _ _ h => h) (by rfl) (fun W hW => by clear hS hW; go_simp) hS ?_
    simp only [List.setIfInBounds_toArray, List.set_cons_succ, List.set_cons_zero]
    refine wpAnyH_ready (rs := [7]) (by kernel_rfl) (by simp) ?_
    refine AllReadyH.cons (o := _) rfl (fun K hK => ?_) AllReadyH.nil
    rw [if_pos (by rfl)]
    go_simp
    refine Calls.mono (HB.out _) ?_
    rintro e Y ⟨rfl, hbY⟩
    refine hK.out _ _ (⟨hS.1.below hbY hS.1.lt, hS.2.trans (hbY.mono (by have := hS.2.size; rw [World.size_alloc] at this; exact this))⟩) (fun hS1 => ?_)
    clear hK hS K
    have hS := hS1
    clear hS1
    refine vtake 8 15 (.string KK) rfl rfl (by kernel_rfl) (by kernel_rfl) (by kernel_rfl) (fun _ _ _ _ h => h) (by rfl) (fun W hW => by clear hS hW; go_simp) hS ?_
    simp only [List.setIfInBounds_toArray, List.set_cons_succ, List.set_cons_zero]
    refine wpAnyH_done (by kernel_rfl) ?_ _
    refine NoPanic.normal ?_
    have hb6 := hS.2
    clear hS hb5 r105 HB
    go_wp2_with fail
    refine (HW.out _).mono ?_
    rintro e Y2 ⟨rfl, hbY2⟩
    have hz6 := hb6.size
    simp only [World.size_alloc] at hz6
    have hz7 := hbY2.size
    have hb7 := (hb6.trans (hbY2.mono hz6)).alloc (by omega) (.cells #[.int .i64 0, .int .i64 0] 42)
    obtain ⟨c0, c1, f0, f1, hsz⟩ := Kit.two_cells hb7
    clear hb6 hbY2 HW
    go_wp2
    have q := Kit.read_two (.int .i64 0) (.int .i64 0) c0 c1
    refine bodyPost_ret (v := .tuple #[.string KK, .agg #[.int .i64 0, .int .i64 0]]) (by simp [results, Try.results29, go_sem, q.1, q.2]) rfl ⟨rfl, ?_⟩
    exact Kit.below_two hb7 _ _
  · rw [if_neg hwr, if_neg hwr]
    have hsw : ¬ (⟨(writeL k (kyL k t.data.toList s.data.toList n) t.data.toList).toArray⟩ : ByteArray) = s := fun e => hwr (HQ.out.1 e)
    obtain ⟨KK, hKK⟩ : ∃ KK, KK = (⟨(kyL k t.data.toList s.data.toList n).toArray⟩ : ByteArray) := ⟨_, rfl⟩
    rw [← hKK] at HB HW
    generalize (⟨(writeL k (kyL k t.data.toList s.data.toList n) t.data.toList).toArray⟩ : ByteArray) = M at *
    have hsw2 := ba_ne hsw
    clear hwr HQ HKA hkk hkn hck hKK htl hsl hsw
    have hk2 : ((k : Int) == 4) = false := beq_false_of_ne (by omega)
    have hn2 : ¬ (n : Int) < 1 := by omega
    have hn3 : ¬ 256 < (n : Int) := by omega
    have h' : 1 ≤ k ∧ k ≤ 4 := by omega
    have HT := (show Hid (∀ W, Calls Try.prog 56 #[.int .i64 (k : Nat)] W fun e w' => e = .returned (.tuple #[.agg #[.func (.func (fn0 k)) #[] #[], .func (.func (fn1 k)) #[] #[], .func (.func (fn2 k)) #[] #[], .bool (decide (k = 4))], .bool true]) ∧ Below W.heap.size W w') from fun W => tableOf_ok k h' W)
    have HCt := (show Hid (∀ W, Calls Try.prog 35 #[.string t] W fun e w' => e = .returned (.agg #[.int .i64 0, .int .i64 0]) ∧ Below W.heap.size W w') from fun W => by have := check_all t W; rw [ht.1, ht.2] at this; exact this)
    have HCs := (show Hid (∀ W, Calls Try.prog 35 #[.string s] W fun e w' => e = .returned (.agg #[.int .i64 0, .int .i64 0]) ∧ Below W.heap.size W w') from fun W => by have := check_all s W; rw [hs.1, hs.2] at this; exact this)
    generalize fn0 k = F0 at *
    generalize fn1 k = F1 at *
    generalize fn2 k = F2 at *
    generalize decide (k = 4) = B at *
    clear h h' ht hs
    go_enter Try.func29, Try.ntmps29
    go_wp2_with fail
    refine (HT.out _).mono ?_
    rintro e W1 ⟨rfl, hb⟩
    have hb1 : Below (w.heap.size + 1) (w.alloc (.cells #[.int .i64 0, .int .i64 0] 42)) W1 := by simpa using hb
    have hz := hb1.size
    simp at hz
    have hb2 := hb1.alloc (by omega) (.cells #[.func (.func F0) #[] #[], .func (.func F1) #[] #[], .func (.func F2) #[] #[], .bool B] 61)
    have hb3 := hb2.alloc (by simp; omega) (.cells #[.string t, .string s] 9)
    have r10 := (RowAt.new W1 61 #[.func (.func F0) #[] #[], .func (.func F1) #[] #[], .func (.func F2) #[] #[], .bool B]).alloc (.cells #[.string t, .string s] 9)
    have r38 := RowAt.new (W1.alloc (.cells #[.func (.func F0) #[] #[], .func (.func F1) #[] #[], .func (.func F2) #[] #[], .bool B] 61)) 9 #[.string t, .string s]
    simp only [World.size_alloc] at r38
    clear hb HT hb1 hb2 hz
    have z0 := r38.cell (i := 0) rfl
    have z1 := r38.cell (i := 1) rfl
    go_wp2_with fail
    refine wp_loop_rounds 3 ?_
    rw [rounds_succ]
    go_wp2_with fail
    refine (HCt.out _).mono ?_
    rintro e X4 ⟨rfl, hc4⟩
    have hb4 := (hb3.trans (hc4.mono (by have := hb3.size; simp at this ⊢; omega))).alloc (by have := hb3.size; have := hc4.size; simp at *; omega) (.cells #[.int .i64 0, .int .i64 0] 42)
    have r104 := (r10.below hc4 r10.lt).alloc (.cells #[.int .i64 0, .int .i64 0] 42)
    have r384 := (r38.below hc4 r38.lt).alloc (.cells #[.int .i64 0, .int .i64 0] 42)
    clear hc4 hb3 r10 r38
    clear z0 z1
    have z0 := r384.cell (i := 0) rfl
    have z1 := r384.cell (i := 1) rfl
    go_wp2_with fail
    rw [rounds_succ]
    go_wp2_with fail
    refine (HCs.out _).mono ?_
    rintro e X5 ⟨rfl, hc5⟩
    have hb5 := (hb4.trans (hc5.mono (by have := hb4.size; simp at this ⊢; omega))).alloc (by have := hb4.size; have := hc5.size; simp at *; omega) (.cells #[.int .i64 0, .int .i64 0] 42)
    have r105 := (r104.below hc5 r104.lt).alloc (.cells #[.int .i64 0, .int .i64 0] 42)
    have r385 := (r384.below hc5 r384.lt).alloc (.cells #[.int .i64 0, .int .i64 0] 42)
    clear hc5 hb4 r104 r384
    clear z0 z1 r385
    go_wp2_with fail
    rw [rounds_succ]
    have hf5 : ¬ (s.size : Int) < (n : Int) := by omega
    have hf7 : (n : Int) ≤ (s.size : Int) := by omega
    have hf8 : n ≤ s.size := by omega
    clear hf2
    go_wp2_with fail
    refine wp_region_noPanic ?_
    refine wp_region_held_drew (S := fun W => RowAt W W1.heap.size 61 #[.func (.func F0) #[] #[], .func (.func F1) #[] #[], .func (.func F2) #[] #[], .bool B] ∧ Below (w.heap.size + 1) (w.alloc (.cells #[.int .i64 0, .int .i64 0] 42)) W) (by kernel_rfl) ⟨r105, hb5.drew⟩ (fun hS => ?_)
    refine vtake 0 63 (.agg #[.func (.func F0) #[] #[], .func (.func F1) #[] #[], .func (.func F2) #[] #[], .bool B]) rfl rfl (by kernel_rfl) (by kernel_rfl) (by kernel_rfl) (fun _ _ _ _ h => h) (by rfl) (fun W hW => by have u0 := hW.1.cell (i := 0) rfl; have u1 := hW.1.cell (i := 1) rfl; have u2 := hW.1.cell (i := 2) rfl; have u3 := hW.1.cell (i := 3) rfl; clear hS hW; go_simp) hS ?_
    simp only [List.setIfInBounds_toArray, List.set_cons_succ, List.set_cons_zero]
    refine vtake 1 64 (.string t) rfl rfl (by kernel_rfl) (by kernel_rfl) (by kernel_rfl) (fun _ _ _ _ h => h) (by rfl) (fun W hW => by clear hS hW; go_simp) hS ?_
    simp only [List.setIfInBounds_toArray, List.set_cons_succ, List.set_cons_zero]
    refine vtake 2 65 (.int .i64 (n : Nat)) rfl rfl (by kernel_rfl) (by kernel_rfl) (by kernel_rfl) (fun _ _ _ _ h => h) (by rfl) (fun W hW => by clear hS hW; go_simp) hS ?_
    simp only [List.setIfInBounds_toArray, List.set_cons_succ, List.set_cons_zero]
    refine vtake 3 66 (.string (t.extract 0 n)) rfl rfl (by kernel_rfl) (by kernel_rfl) (by kernel_rfl) (fun _ _ _ _ h => h) (by rfl) (fun W hW => by clear hS hW; go_simp) hS ?_
    simp only [List.setIfInBounds_toArray, List.set_cons_succ, List.set_cons_zero]
    refine vtake 4 67 (.string s) rfl rfl (by kernel_rfl) (by kernel_rfl) (by kernel_rfl) (fun _ _ _ _ h => h) (by rfl) (fun W hW => by clear hS hW; go_simp) hS ?_
    simp only [List.setIfInBounds_toArray, List.set_cons_succ, List.set_cons_zero]
    refine vtake 5 68 (.int .i64 (n : Nat)) rfl rfl (by kernel_rfl) (by kernel_rfl) (by kernel_rfl) (fun _ _ _ _ h => h) (by rfl) (fun W hW => by clear hS hW; go_simp) hS ?_
    simp only [List.setIfInBounds_toArray, List.set_cons_succ, List.set_cons_zero]
    refine vtake 6 69 (.string (s.extract 0 n)) rfl rfl (by kernel_rfl) (by kernel_rfl) (by kernel_rfl) (fun _ _ _ _ h => h) (by rfl) (fun W hW => by clear hS hW; go_simp) hS ?_
    simp only [List.setIfInBounds_toArray, List.set_cons_succ, List.set_cons_zero]
    refine wpAnyH_ready (rs := [7]) (by kernel_rfl) (by simp) ?_
    refine AllReadyH.cons (o := _) rfl (fun K hK => ?_) AllReadyH.nil
    rw [if_pos (by rfl)]
    go_simp
    refine Calls.mono (HB.out _) ?_
    rintro e Y ⟨rfl, hbY⟩
    refine hK.out _ _ (⟨hS.1.below hbY hS.1.lt, hS.2.trans (hbY.mono (by have := hS.2.size; rw [World.size_alloc] at this; exact this))⟩) (fun hS1 => ?_)
    clear hK hS K
    have hS := hS1
    clear hS1
    refine vtake 8 15 (.string KK) rfl rfl (by kernel_rfl) (by kernel_rfl) (by kernel_rfl) (fun _ _ _ _ h => h) (by rfl) (fun W hW => by clear hS hW; go_simp) hS ?_
    simp only [List.setIfInBounds_toArray, List.set_cons_succ, List.set_cons_zero]
    refine wpAnyH_done (by kernel_rfl) ?_ _
    refine NoPanic.normal ?_
    have hb6 := hS.2
    clear hS hb5 r105 HB
    go_wp2_with fail
    refine (HW.out _).mono ?_
    rintro e Y2 ⟨rfl, hbY2⟩
    have hz6 := hb6.size
    simp only [World.size_alloc] at hz6
    have hz7 := hbY2.size
    have hb7 := (hb6.trans (hbY2.mono hz6)).alloc (by omega) (.cells #[.int .i64 0, .int .i64 0] 42)
    obtain ⟨c0, c1, f0, f1, hsz⟩ := Kit.two_cells hb7
    clear hb6 hbY2 HW
    go_wp2
    have q := Kit.read_two (.int .i64 6) (.int .i64 0) c0 c1
    refine bodyPost_ret (v := .tuple #[.string ⟨#[]⟩, .agg #[.int .i64 6, .int .i64 0]]) (by simp [results, Try.results29, go_sem, q.1, q.2]) rfl ⟨rfl, ?_⟩
    exact Kit.below_two hb7 _ _
end Go.Proofs.Ytlgijlfojkpeaac
