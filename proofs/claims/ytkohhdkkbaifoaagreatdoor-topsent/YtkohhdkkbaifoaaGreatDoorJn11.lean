/-
  Several texts, joined: VBad, VRd, VAlw.
-/
import Derived.Test.YtkohhdkkbaifoaaGreatDoorJn10
import Derived.Test.YtkohhdkkbaifoaaGreatDoorVWr
/-
  Contracts of tableau.Write and tableau.Read where something is wrong; what tableFor answers.
-/
namespace Go.Proofs.YtkohhdkkbaifoaaGreatDoor
open Go.RowKit PK Vg

theorem lk_cases (k : Int) (key t : List UInt8) : (lkE k key t = 0 ∧ lkAt k key t = 0 ∧ (1 ≤ k ∧ k ≤ 4) ∧ (1 ≤ key.length ∧ key.length ≤ 256) ∧ (ckE key = 0 ∧ ckAt key = 0 ∧ Ls key) ∧ (ckE t = 0 ∧ ckAt t = 0 ∧ Ls t ∧ t.length ≤ 65536)) ∨ (lkE k key t != 0) = true := by
  unfold lkE lkAt
  by_cases h1 : k < 1 ∨ 4 < k
  · rw [if_pos h1]; exact .inr rfl
  · rw [if_neg h1, if_neg h1]
    rcases ck_cases key with ⟨a1, a2, a3, a4⟩ | a1
    · have a0 : ¬ (ckE key ≠ 0) := fun h => h a1
      rw [if_neg a0, if_neg a0]
      by_cases h2 : key.length < 1 ∨ 256 < key.length
      · rw [if_pos h2]; exact .inr rfl
      · rw [if_neg h2, if_neg h2]
        rcases ck_cases t with ⟨b1, b2, b3, b4⟩ | b1
        · exact .inl ⟨b1, b2, by omega, by omega, ⟨a1, a2, ls_ofV a4⟩, ⟨b1, b2, ls_ofV b4, b3⟩⟩
        · exact .inr b1
    · have a2 : ckE key ≠ 0 := by simpa using a1
      rw [if_pos a2]; exact .inr a1
theorem tfor_bad (k : Int) (key t : ByteArray) (hE : (lkE k key.data.toList t.data.toList != 0) = true) (w : World) : Calls Tryz.prog 118 #[.int .i64 k, .string key, .string t] w fun e w' => e = .returned (.tuple #[.agg tbl0, .agg #[.int .i64 (lkE k key.data.toList t.data.toList), .int .i64 (lkAt k key.data.toList t.data.toList)]]) ∧ Below w.heap.size w w' := by
  have hks := Pl.size_len key
  unfold lkE lkAt at *
  by_cases h1 : k < 1 ∨ 4 < k
  · rw [if_pos h1, if_pos h1]; exact tfor_kind k h1 key t w
  · obtain ⟨n, rfl⟩ : ∃ n : Nat, k = n := ⟨k.toNat, by omega⟩
    have hn : 1 ≤ n ∧ n ≤ 4 := by omega
    rw [if_neg h1] at hE
    rw [if_neg h1, if_neg h1]
    rcases ck_cases key.data.toList with ⟨a1, a2, a3, a4⟩ | a1
    · have a0 : ¬ (ckE key.data.toList ≠ 0) := fun h => h a1
      rw [if_neg a0] at hE
      rw [if_neg a0, if_neg a0]
      by_cases h2 : key.data.toList.length < 1 ∨ 256 < key.data.toList.length
      · rw [if_pos h2, if_pos h2]; exact tfor_many n hn key t a1 a2 (by omega) w
      · rw [if_neg h2] at hE
        rw [if_neg h2, if_neg h2]
        exact tfor_text n hn key t a1 a2 (by omega) hE w
    · have a2 : ckE key.data.toList ≠ 0 := by simpa using a1
      rw [if_pos a2, if_pos a2]; exact tfor_key n hn key t a1 w
set_option maxRecDepth 100000 in
set_option maxHeartbeats 2000000 in
theorem vwr_bad (k : Int) (key t : ByteArray) (hE : (lkE k key.data.toList t.data.toList != 0) = true) (w : World) : Calls Tryz.prog 74 #[.int .i64 k, .string key, .string t] w fun e w' => e = .returned (.tuple #[.string ⟨#[]⟩, .agg #[.int .i64 (lkE k key.data.toList t.data.toList), .int .i64 (lkAt k key.data.toList t.data.toList)]]) ∧ Below w.heap.size w w' := by
  have HT := (show Hid (∀ W, Calls Tryz.prog 118 #[.int .i64 k, .string key, .string t] W fun e w' => e = .returned (.tuple #[.agg #[.nilFunc, .nilFunc, .nilFunc, .bool false], .agg #[.int .i64 (lkE k key.data.toList t.data.toList), .int .i64 (lkAt k key.data.toList t.data.toList)]]) ∧ Below W.heap.size W w') from fun W => tfor_bad k key t hE W)
  generalize lkE k key.data.toList t.data.toList = E at *
  generalize lkAt k key.data.toList t.data.toList = A at *
  go_enter Tryz.func74, Tryz.ntmps74
  go_wp2_with fail
  refine (HT.out _).mono ?_
  rintro e W1 ⟨rfl, hb⟩
  have hb1 : Below (w.heap.size + 1) (w.alloc (.cells #[.int .i64 0, .int .i64 0] 35)) W1 := by simpa using hb
  have hz := hb1.size
  simp at hz
  have hb2 := (hb1.alloc (by omega) (.cells #[.nilFunc, .nilFunc, .nilFunc, .bool false] 147)).alloc (by simp; omega) (.cells #[.int .i64 E, .int .i64 A] 35)
  clear hb
  obtain ⟨c0, c1, f0, f1, hsz⟩ := Kit.two_cells hb2
  clear HT hb1
  go_wp2_with fail
  go_region
  all_goals (try go_wp2)
  have q := Kit.read_two (.int .i64 E) (.int .i64 A) c0 c1
  refine bodyPost_ret (v := .tuple #[.string ⟨#[]⟩, .agg #[.int .i64 E, .int .i64 A]]) (by simp [results, Tryz.results74, go_sem, q.1, q.2]) rfl ⟨rfl, ?_⟩
  exact (Kit.below_two hb2 _ _).drew
set_option maxRecDepth 100000 in
set_option maxHeartbeats 2000000 in
theorem vrd_bad (k : Int) (key t : ByteArray) (hE : (lkE k key.data.toList t.data.toList != 0) = true) (w : World) : Calls Tryz.prog 91 #[.int .i64 k, .string key, .string t] w fun e w' => e = .returned (.tuple #[.string ⟨#[]⟩, .agg #[.int .i64 (lkE k key.data.toList t.data.toList), .int .i64 (lkAt k key.data.toList t.data.toList)]]) ∧ Below w.heap.size w w' := by
  have HT := (show Hid (∀ W, Calls Tryz.prog 118 #[.int .i64 k, .string key, .string t] W fun e w' => e = .returned (.tuple #[.agg #[.nilFunc, .nilFunc, .nilFunc, .bool false], .agg #[.int .i64 (lkE k key.data.toList t.data.toList), .int .i64 (lkAt k key.data.toList t.data.toList)]]) ∧ Below W.heap.size W w') from fun W => tfor_bad k key t hE W)
  generalize lkE k key.data.toList t.data.toList = E at *
  generalize lkAt k key.data.toList t.data.toList = A at *
  go_enter Tryz.func91, Tryz.ntmps91
  go_wp2_with fail
  refine (HT.out _).mono ?_
  rintro e W1 ⟨rfl, hb⟩
  have hb1 : Below (w.heap.size + 1) (w.alloc (.cells #[.int .i64 0, .int .i64 0] 35)) W1 := by simpa using hb
  have hz := hb1.size
  simp at hz
  have hb2 := (hb1.alloc (by omega) (.cells #[.nilFunc, .nilFunc, .nilFunc, .bool false] 147)).alloc (by simp; omega) (.cells #[.int .i64 E, .int .i64 A] 35)
  clear hb
  obtain ⟨c0, c1, f0, f1, hsz⟩ := Kit.two_cells hb2
  clear HT hb1
  go_wp2_with fail
  go_region
  all_goals (try go_wp2)
  have q := Kit.read_two (.int .i64 E) (.int .i64 A) c0 c1
  refine bodyPost_ret (v := .tuple #[.string ⟨#[]⟩, .agg #[.int .i64 E, .int .i64 A]]) (by simp [results, Tryz.results91, go_sem, q.1, q.2]) rfl ⟨rfl, ?_⟩
  exact (Kit.below_two hb2 _ _).drew
end Go.Proofs.YtkohhdkkbaifoaaGreatDoor

/-
  Contract of tableau.Read.
-/
namespace Go.Proofs.YtkohhdkkbaifoaaGreatDoor
open Go.RowKit PK Vg

theorem keyAt_rd (k : Nat) (B : Bool) (hB : B = decide (k = 4)) (x0 x1 x2 : Value) (key t : ByteArray) (h0 : 1 ≤ key.size) (hkl : Ls key.data.toList) (m : Nat) (hm : m < t.size) (h6 : m ≤ 65536) (g cp : Nat) (W : World) (hp : RowAt W g 5 (bytsV t.size (upToV (rdTo k key.data.toList t.data.toList m)))) :
    Calls Tryz.prog 121 #[.agg #[x0, x1, x2, .bool B], .string key, .slice (some ⟨g, 0, none⟩) t.size cp, .int .i64 (m : Nat)] W fun e w' => e = .returned (.int .i64 (kat k key.data.toList (rdTo k key.data.toList t.data.toList m) m : Nat)) ∧ Below W.heap.size W w' := by
  have hks := Pl.size_len key
  unfold kat
  by_cases h : k = 4 ∧ key.data.toList.length ≤ m
  · rw [if_pos h]
    have hB1 : B = true := by rw [hB]; simp [h.1]
    subst hB1
    have := keyAt_plain x0 x1 x2 key m (by omega) h6 g t.size cp (by omega) ((rdTo k key.data.toList t.data.toList m).getD (m - key.size) 0) ((rdTo_ls k key.data.toList t.data.toList m).at (by rw [rdTo_length]; omega)) W (hp.cell (byts_getV _ (by omega)))
    rw [← hks]; exact this
  · rw [if_neg h]
    have := keyAt_key x0 x1 x2 B (.slice (some ⟨g, 0, none⟩) t.size cp) key m (by omega) h6 (by
      by_cases h4 : k = 4
      · exact .inr (by have : ¬ key.data.toList.length ≤ m := fun e => h ⟨h4, e⟩; omega)
      · exact .inl (by rw [hB]; simp [h4])) hkl W
    rw [← hks]; exact this
theorem keepR {W W' w : World} {b g7 : Nat} {T V : TypeId} {c e : Array Value} (hS : RowAt W b T c ∧ Below w.heap.size w W ∧ RowAt W g7 V e) (hb : Below W.heap.size W W') :
    RowAt W' b T c ∧ Below w.heap.size w W' ∧ RowAt W' g7 V e :=
  ⟨hS.1.below hb hS.1.lt, hS.2.1.trans (hb.mono hS.2.1.size), hS.2.2.below hb hS.2.2.lt⟩
theorem setR {W w : World} {b g7 go m : Nat} {T V : TypeId} {c e : Array Value} (hS : RowAt W b T c ∧ Below w.heap.size w W ∧ RowAt W g7 V e) (v : Value) (h1 : b ≠ go) (h3 : g7 ≠ go) (h4 : w.heap.size ≤ go) :
    RowAt (W.setCell ⟨go, m, none⟩ v) b T c ∧ Below w.heap.size w (W.setCell ⟨go, m, none⟩ v) ∧ RowAt (W.setCell ⟨go, m, none⟩ v) g7 V e :=
  ⟨hS.1.setOther _ _ h1, hS.2.1.setCell (p := ⟨go, m, none⟩) h4 _, hS.2.2.setOther _ _ h3⟩
set_option maxRecDepth 100000 in
set_option maxHeartbeats 2000000 in
theorem vrd_ok (k : Nat) (h : 1 ≤ k ∧ k ≤ 4) (key t : ByteArray) (hk : ckE key.data.toList = 0) (hk2 : ckAt key.data.toList = 0) (hn : 1 ≤ key.size ∧ key.size ≤ 256) (ht : ckE t.data.toList = 0) (ht2 : ckAt t.data.toList = 0) (hs : t.size ≤ 65536) (hkl : Ls key.data.toList) (htl : Ls t.data.toList) (w : World) :
    Calls Tryz.prog 91 #[.int .i64 k, .string key, .string t] w fun e w' => e = .returned (.tuple #[.string ⟨(readL k key.data.toList t.data.toList).toArray⟩, .agg #[.int .i64 0, .int .i64 0]]) ∧ Below w.heap.size w w' := by
  have HT := (show Hid (∀ W, Calls Tryz.prog 118 #[.int .i64 k, .string key, .string t] W fun e w' => e = .returned (.tuple #[.agg #[.func (.func (fn0 k)) #[] #[], .func (.func (fn1 k)) #[] #[], .func (.func (fn2 k)) #[] #[], .bool (decide (k = 4))], .agg #[.int .i64 0, .int .i64 0]]) ∧ Below W.heap.size W w') from fun W => tfor_ok k h key t hk hk2 hn ht ht2 W)
  have HF := (show Hid (∀ a b, a < 26 → b < 26 → ∀ W, Calls Tryz.prog (fn1 k) #[.int .i64 (a : Nat), .int .i64 (b : Nat)] W fun e w' => e = .returned (.int .i64 (back k a b : Nat)) ∧ W = w') from fun a b ha hb W => fn1_any k a b ha hb W)
  have hent := ent1 k
  have hmk := run_make_row' (P := Tryz.prog) 87 5 (.int .u8 0) 1 Tryz.underlying87 v_info_byteV rfl .i64 .i64 t.size (by omega) (by omega)
  rw [v_made_tabV, byts_newV] at hmk
  generalize fn0 k = F0 at *
  generalize fn1 k = F1 at *
  generalize fn2 k = F2 at *
  generalize hB : decide (k = 4) = B at HT
  clear h hk hk2 ht ht2
  go_enter Tryz.func91, Tryz.ntmps91
  go_wp2_with fail
  refine (HT.out _).mono ?_
  rintro e W1 ⟨rfl, hb1⟩
  have hb0 : Below w.heap.size w W1 := ((Below.refl _ w).alloc (Nat.le_refl _) _).trans (hb1.mono (by simp))
  have hr7 : RowAt W1 w.heap.size 35 #[.int .i64 0, .int .i64 0] := (RowAt.new w _ _).below hb1 (by simp)
  have hz : w.heap.size < W1.heap.size := hr7.lt
  clear hb1 HT
  go_wp2_with fail
  have q0 := ((hr7.alloc (.cells #[.func (.func F0) #[] #[], .func (.func F1) #[] #[], .func (.func F2) #[] #[], .bool B] 147)).alloc (.cells #[.int .i64 0, .int .i64 0] 35)).alloc (.cells (bytsV t.size fun _ => 0) 5)
  have q1 := ((RowAt.new W1 147 #[.func (.func F0) #[] #[], .func (.func F1) #[] #[], .func (.func F2) #[] #[], .bool B]).alloc (.cells #[.int .i64 0, .int .i64 0] 35)).alloc (.cells (bytsV t.size fun _ => 0) 5)
  have q2 := RowAt.new ((W1.alloc (.cells #[.func (.func F0) #[] #[], .func (.func F1) #[] #[], .func (.func F2) #[] #[], .bool B] 147)).alloc (.cells #[.int .i64 0, .int .i64 0] 35)) 5 (bytsV t.size fun _ => 0)
  have q3 := ((hb0.alloc (by omega) (.cells #[.func (.func F0) #[] #[], .func (.func F1) #[] #[], .func (.func F2) #[] #[], .bool B] 147)).alloc (by simp; omega) (.cells #[.int .i64 0, .int .i64 0] 35)).alloc (by simp; omega) (.cells (bytsV t.size fun _ => 0) 5)
  simp only [World.size_alloc] at q2
  obtain ⟨go, hgo⟩ : ∃ go, go = W1.heap.size + 1 + 1 := ⟨_, rfl⟩
  rw [← hgo] at q2 ⊢
  have HGO : Hid (go = W1.heap.size + 1 + 1) := hgo
  have hgo2 : W1.heap.size + 1 < go := by omega
  clear hgo hr7 hb0 hmk
  go_loopw [28] (fun i W => ∃ m : Nat, m ≤ t.size ∧ i = .int .i64 m ∧ RowAt W W1.heap.size 147 #[.func (.func F0) #[] #[], .func (.func F1) #[] #[], .func (.func F2) #[] #[], .bool B] ∧ RowAt W go 5 (bytsV t.size (upToV (rdTo k key.data.toList t.data.toList m))) ∧ Below w.heap.size w W ∧ RowAt W w.heap.size 35 #[.int .i64 0, .int .i64 0]) (fun i _ => ((t.size : Int) - intOf i).toNat)
  case atStart => exact ⟨0, by omega, rfl, q1, by rw [show rdTo k key.data.toList t.data.toList 0 = [] from rfl, upTo_nilV]; exact q2, q3, q0⟩
  case round =>
    clear q0 q1 q2 q3
    obtain ⟨m, hm, rfl, hrt, hro, hb, hr7⟩ := hrel
    by_cases hlt : m < t.size
    · have hlt2 : (m : Int) < (t.size : Int) := by omega
      have hta := htl.at (getD_sizeV hlt)
      have hna := num_lt hta
      have hnb : kat k key.data.toList (rdTo k key.data.toList t.data.toList m) m < 26 := kat_lt hkl (rdTo_ls _ _ _ _) (by have := Pl.size_len key; omega) (fun _ => by rw [rdTo_length]; have := Pl.size_len key; omega)
      have HN := (show Hid (∀ W, Calls Tryz.prog 120 #[.int .u8 (t.data.toList.getD m 0).toNat] W fun e w' => e = .returned (.int .i64 (Vg.num (t.data.toList.getD m 0) : Nat)) ∧ W = w') from fun W => number_anyV _ hta W)
      have HL := (show Hid (∀ W, Calls Tryz.prog 119 #[.int .i64 (back k (Vg.num (t.data.toList.getD m 0)) (kat k key.data.toList (rdTo k key.data.toList t.data.toList m) m) : Nat)] W fun e w' => e = .returned (.int .u8 (ltr (back k (Vg.num (t.data.toList.getD m 0)) (kat k key.data.toList (rdTo k key.data.toList t.data.toList m) m))).toNat) ∧ W = w') from fun W => letter_anyV _ (back_lt _ _ _) W)
      have HST := (show Hid (rdTo k key.data.toList t.data.toList (m + 1) = rdTo k key.data.toList t.data.toList m ++ [ltr (back k (Vg.num (t.data.toList.getD m 0)) (kat k key.data.toList (rdTo k key.data.toList t.data.toList m) m))]) from rfl)
      have HK := (show Hid (∀ W, RowAt W go 5 (bytsV t.size (upToV (rdTo k key.data.toList t.data.toList m))) → Calls Tryz.prog 121 #[.agg #[.func (.func F0) #[] #[], .func (.func F1) #[] #[], .func (.func F2) #[] #[], .bool B], .string key, .slice (some ⟨go, 0, none⟩) t.size t.size, .int .i64 (m : Nat)] W fun e w' => e = .returned (.int .i64 (kat k key.data.toList (rdTo k key.data.toList t.data.toList m) m : Nat)) ∧ Below W.heap.size W w') from fun W hW => keyAt_rd k B hB.symm _ _ _ key t hn.1 hkl m hlt (by omega) go t.size W hW)
      rw [getD_byte t m hlt] at HN HL HST hna
      go_wp2_with fail
      refine wp_region_noPanic ?_
      refine wp_region_held_drew (S := fun W => RowAt W W1.heap.size 147 #[.func (.func F0) #[] #[], .func (.func F1) #[] #[], .func (.func F2) #[] #[], .bool B] ∧ Below w.heap.size w W ∧ RowAt W w.heap.size 35 #[.int .i64 0, .int .i64 0]) (by kernel_rfl) ⟨hrt, hb.drew, hr7⟩ (fun hS => ?_)
      refine vtakeV 0 31 (.slice (some ⟨go, 0, none⟩) t.size t.size) rfl rfl (by kernel_rfl) (by kernel_rfl) (by kernel_rfl) (fun _ _ _ _ h => h) (by rfl) (fun W hW => by clear hS hW; go_simp) hS ?_
      simp only [List.setIfInBounds_toArray, List.set_cons_succ, List.set_cons_zero]
      refine vtakeV 1 32 (.int .i64 (m : Nat)) rfl rfl (by kernel_rfl) (by kernel_rfl) (by kernel_rfl) (fun _ _ _ _ h => h) (by rfl) (fun W hW => by clear hS hW; go_simp) hS ?_
      simp only [List.setIfInBounds_toArray, List.set_cons_succ, List.set_cons_zero]
      refine vtakeV 2 33 (.pointer (some ⟨W1.heap.size, 1, none⟩)) rfl rfl (by kernel_rfl) (by kernel_rfl) (by kernel_rfl) (fun _ _ _ _ h => h) (by rfl) (fun W hW => by clear hS hW; go_simp) hS ?_
      simp only [List.setIfInBounds_toArray, List.set_cons_succ, List.set_cons_zero]
      refine vtakeV 3 34 (.func (.func F1) #[] #[]) rfl rfl (by kernel_rfl) (by kernel_rfl) (by kernel_rfl) (fun _ _ _ _ h => h) (by rfl) (fun W hW => by have u0 := hW.1.cell (i := 0) rfl; have u1 := hW.1.cell (i := 1) rfl; have u2 := hW.1.cell (i := 2) rfl; have u3 := hW.1.cell (i := 3) rfl; clear hS hW; go_simp) hS ?_
      simp only [List.setIfInBounds_toArray, List.set_cons_succ, List.set_cons_zero]
      refine vtakeV 4 35 (.string t) rfl rfl (by kernel_rfl) (by kernel_rfl) (by kernel_rfl) (fun _ _ _ _ h => h) (by rfl) (fun W hW => by clear hS hW; go_simp) hS ?_
      simp only [List.setIfInBounds_toArray, List.set_cons_succ, List.set_cons_zero]
      refine vtakeV 5 36 (.int .i64 (m : Nat)) rfl rfl (by kernel_rfl) (by kernel_rfl) (by kernel_rfl) (fun _ _ _ _ h => h) (by rfl) (fun W hW => by clear hS hW; go_simp) hS ?_
      simp only [List.setIfInBounds_toArray, List.set_cons_succ, List.set_cons_zero]
      refine vtakeV 6 37 (.int .u8 (t[m].toNat : Nat)) rfl rfl (by kernel_rfl) (by kernel_rfl) (by kernel_rfl) (fun _ _ _ _ h => h) (by rfl) (fun W hW => by clear hS hW; go_simp) hS ?_
      simp only [List.setIfInBounds_toArray, List.set_cons_succ, List.set_cons_zero]
      refine vtakeV 8 39 (.agg #[.func (.func F0) #[] #[], .func (.func F1) #[] #[], .func (.func F2) #[] #[], .bool B]) rfl rfl (by kernel_rfl) (by kernel_rfl) (by kernel_rfl) (fun _ _ _ _ h => h) (by rfl) (fun W hW => by have u0 := hW.1.cell (i := 0) rfl; have u1 := hW.1.cell (i := 1) rfl; have u2 := hW.1.cell (i := 2) rfl; have u3 := hW.1.cell (i := 3) rfl; clear hS hW; go_simp) hS ?_
      simp only [List.setIfInBounds_toArray, List.set_cons_succ, List.set_cons_zero]
      refine vtakeV 9 40 (.string key) rfl rfl (by kernel_rfl) (by kernel_rfl) (by kernel_rfl) (fun _ _ _ _ h => h) (by rfl) (fun W hW => by clear hS hW; go_simp) hS ?_
      simp only [List.setIfInBounds_toArray, List.set_cons_succ, List.set_cons_zero]
      refine vtakeV 10 41 (.slice (some ⟨go, 0, none⟩) t.size t.size) rfl rfl (by kernel_rfl) (by kernel_rfl) (by kernel_rfl) (fun _ _ _ _ h => h) (by rfl) (fun W hW => by clear hS hW; go_simp) hS ?_
      simp only [List.setIfInBounds_toArray, List.set_cons_succ, List.set_cons_zero]
      refine vtakeV 11 42 (.int .i64 (m : Nat)) rfl rfl (by kernel_rfl) (by kernel_rfl) (by kernel_rfl) (fun _ _ _ _ h => h) (by rfl) (fun W hW => by clear hS hW; go_simp) hS ?_
      simp only [List.setIfInBounds_toArray, List.set_cons_succ, List.set_cons_zero]
      refine wpAnyH_ready (rs := [7]) (by kernel_rfl) (by simp) ?_
      refine AllReadyH.cons (o := _) rfl (fun K hK => ?_) AllReadyH.nil
      rw [if_pos (by rfl)]
      go_simp
      refine Calls.mono (HN.out _) ?_
      rintro e Y ⟨rfl, rfl⟩
      refine hK.out _ _ (hS) (fun hS1 => ?_)
      clear hK hS K
      have hS := hS1
      clear hS1
      refine wpAnyH_ready (rs := [12]) (by kernel_rfl) (by simp) ?_
      refine AllReadyH.cons (o := _) rfl (fun K hK => ?_) AllReadyH.nil
      rw [if_pos (by rfl)]
      go_simp
      refine Calls.mono (HK.out _ hro.drew) ?_
      rintro e Y ⟨rfl, hbY⟩
      have hroY := hro.drew.below hbY hro.drew.lt
      refine hK.out _ _ (keepR hS hbY) (fun hS1 => ?_)
      clear hK hS K
      have hS := hS1
      clear hS1
      refine wpAnyH_ready (rs := [13]) (by kernel_rfl) (by simp) ?_
      refine AllReadyH.cons (o := _) rfl (fun K hK => ?_) AllReadyH.nil
      rw [if_pos (by rfl)]
      go_simp
      refine Calls.mono (HF.out _ _ hna hnb _) ?_
      rintro e Y ⟨rfl, rfl⟩
      refine hK.out _ _ (hS) (fun hS1 => ?_)
      clear hK hS K
      have hS := hS1
      clear hS1
      refine wpAnyH_ready (rs := [14]) (by kernel_rfl) (by simp) ?_
      refine AllReadyH.cons (o := _) rfl (fun K hK => ?_) AllReadyH.nil
      rw [if_pos (by rfl)]
      go_simp
      refine Calls.mono (HL.out _) ?_
      rintro e Y ⟨rfl, rfl⟩
      refine hK.out _ _ (hS) (fun hS1 => ?_)
      clear hK hS K
      have hS := hS1
      clear hS1
      refine vtakeV 15 46 (.pointer (some ⟨go, m, none⟩)) rfl rfl (by kernel_rfl) (by kernel_rfl) (by kernel_rfl) (fun _ _ _ _ h => h) (by rfl) (fun W hW => by clear hS hW; go_simp) hS ?_
      simp only [List.setIfInBounds_toArray, List.set_cons_succ, List.set_cons_zero]
      have hrow := row_nextV hroY (ltr (back k (Vg.num t[m]) (kat k key.data.toList (rdTo k key.data.toList t.data.toList m) m)))
      rw [rdTo_length, ← HST.out] at hrow
      have hcm := hroY.cell (byts_getV (upToV (rdTo k key.data.toList t.data.toList m)) hlt)
      have hfm := hroY.frozen m
      generalize ltr (back k (Vg.num t[m]) (kat k key.data.toList (rdTo k key.data.toList t.data.toList m) m)) = z at *
      refine wpAnyH_ready (rs := [16]) (by kernel_rfl) (by simp) ?_
      refine AllReadyH.cons (o := _) rfl (fun K hK => ?_) AllReadyH.nil
      rw [if_pos (by rfl)]
      go_simp
      refine hK.out _ _ (setR hS (.int .u8 z.toNat) (by omega) (by omega) (by omega)) (fun hS1 => ?_)
      clear hK hS K
      refine wpAnyH_done (by kernel_rfl) ?_ _
      refine NoPanic.normal ?_
      go_wp2_with fail
      go_roundw
      case rel => exact ⟨m + 1, by omega, by go_num, hS1.1, hrow, hS1.2.1, hS1.2.2⟩
      case measure => simp [intOf]; omega
    · obtain rfl : m = t.size := by omega
      have hl2 : (rdTo k key.data.toList t.data.toList t.size).length = t.size := rdTo_length _ _ _ _
      have hro2 : RowAt wr go 5 (Lib.byteCells (rdTo k key.data.toList t.data.toList t.size)).toArray := by
        rw [← byts_allV, hl2]; exact hro
      have HW : Hid (rdTo k key.data.toList t.data.toList t.size = readL k key.data.toList t.data.toList) := by rw [Hid, Pl.size_len]; rfl
      have hst := run_string_of_rowV (P := Tryz.prog) wr 87 9 5 Tryz.underlying87 Tryz.underlying5 Tryz.underlying9 (cap := t.size) hl2 hro2
      rw [HW.out] at hst
      have c0 := hr7.cell (i := 0) rfl
      have c1 := hr7.cell (i := 1) rfl
      have f0 := hr7.frozen 0
      have f1 := hr7.frozen 1
      obtain ⟨T, hT⟩ : ∃ T, T = (⟨(readL k key.data.toList t.data.toList).toArray⟩ : ByteArray) := ⟨_, rfl⟩
      rw [← hT] at hst
      have HT : Hid (T = (⟨(readL k key.data.toList t.data.toList).toArray⟩ : ByteArray)) := hT
      clear hT hro2 hro hrt HW hl2
      go_wp2
      have q := Kit.read_two (.int .i64 0) (.int .i64 0) c0 c1
      refine bodyPost_ret (v := .tuple #[.string T, .agg #[.int .i64 0, .int .i64 0]]) (by simp [results, Tryz.results91, go_sem, q.1, q.2]) rfl ⟨by rw [HT.out], ?_⟩
      exact (hb.setCell (p := ⟨w.heap.size, 0, none⟩) (Nat.le_refl _) _).setCell (p := ⟨w.heap.size, 1, none⟩) (Nat.le_refl _) _
end Go.Proofs.YtkohhdkkbaifoaaGreatDoor

/-
  What Write, Read and Key answer, whatever they are asked.
-/
namespace Go.Proofs.YtkohhdkkbaifoaaGreatDoor
open Go.RowKit PK Vg

/-- What Write and Read tell. -/
def wrS (k : Int) (key t : List UInt8) : List UInt8 := if lkE k key t = 0 then writeL k.toNat key t else []
def rdS (k : Int) (key t : List UInt8) : List UInt8 := if lkE k key t = 0 then readL k.toNat key t else []
theorem vwrite_any (k : Int) (key t : ByteArray) (w : World) : Calls Tryz.prog 74 #[.int .i64 k, .string key, .string t] w fun e w' => e = .returned (.tuple #[.string ⟨(wrS k key.data.toList t.data.toList).toArray⟩, .agg #[.int .i64 (lkE k key.data.toList t.data.toList), .int .i64 (lkAt k key.data.toList t.data.toList)]]) ∧ Below w.heap.size w w' := by
  have h1 := Pl.size_len key
  have h2 := Pl.size_len t
  unfold wrS
  rcases lk_cases k key.data.toList t.data.toList with ⟨e1, e2, hk, hn, ha, hb⟩ | e1
  · rw [if_pos e1, e1, e2]
    obtain ⟨n, rfl⟩ : ∃ n : Nat, k = n := ⟨k.toNat, by omega⟩
    rw [Int.toNat_natCast]
    exact vwr_ok n (by omega) key t ha.1 ha.2.1 (by omega) hb.1 hb.2.1 (by omega) ha.2.2 hb.2.2.1 w
  · rw [if_neg (by simpa using e1)]
    exact vwr_bad k key t e1 w
theorem vread_any (k : Int) (key t : ByteArray) (w : World) : Calls Tryz.prog 91 #[.int .i64 k, .string key, .string t] w fun e w' => e = .returned (.tuple #[.string ⟨(rdS k key.data.toList t.data.toList).toArray⟩, .agg #[.int .i64 (lkE k key.data.toList t.data.toList), .int .i64 (lkAt k key.data.toList t.data.toList)]]) ∧ Below w.heap.size w w' := by
  have h1 := Pl.size_len key
  have h2 := Pl.size_len t
  unfold rdS
  rcases lk_cases k key.data.toList t.data.toList with ⟨e1, e2, hk, hn, ha, hb⟩ | e1
  · rw [if_pos e1, e1, e2]
    obtain ⟨n, rfl⟩ : ∃ n : Nat, k = n := ⟨k.toNat, by omega⟩
    rw [Int.toNat_natCast]
    exact vrd_ok n (by omega) key t ha.1 ha.2.1 (by omega) hb.1 hb.2.1 (by omega) ha.2.2 hb.2.2.1 w
  · rw [if_neg (by simpa using e1)]
    exact vrd_bad k key t e1 w
end Go.Proofs.YtkohhdkkbaifoaaGreatDoor
