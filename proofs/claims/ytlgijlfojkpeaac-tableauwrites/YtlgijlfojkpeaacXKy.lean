/-
  Contract of the document's Key.
-/
import Derived.Test.YtlgijlfojkpeaacXKyB
namespace Go.Proofs.Ytlgijlfojkpeaac
open Go.RowKit PK Vg

theorem betw_first (k : Nat) {a c : Nat} (ha : a < 26) (hc : c < 26) (b : Nat) (hb : b < 26) : there k a b = c ↔ b = betw k a c := by
  constructor
  · intro e; rw [← e, betw_there k ha hb]
  · intro e; rw [e, there_betw k ha hc]
theorem ltr_inj {a b : Nat} (ha : a < 26) (hb : b < 26) (h : ltr a = ltr b) : a = b := by rw [← num_ltr ha, h, num_ltr hb]
theorem own_form {w : World} {B : Nat} {e : TypeId} {v : Value} {l : List UInt8} {n : Nat} (h : Kit.Owns w B e v l) (hn : l.length = n) (h0 : 0 < n) : ∃ g cap, v = .slice (some ⟨g, 0, none⟩) n cap ∧ ∀ j, j < n → w.cell? ⟨g, j, none⟩ = some (.int .u8 (l.getD j 0).toNat) := by
  have hx := h
  rcases h.2 with ⟨rfl, h1⟩ | ⟨g, cap, cur, rfl, _⟩
  · omega
  · refine ⟨g, cap, by rw [hn], fun j hj => ?_⟩
    have := World.ownsRow.cells (g := g) hx rfl j _ (byteCells_at l (by omega))
    rw [addr_add] at this
    exact this
set_option maxRecDepth 100000 in
set_option maxHeartbeats 4000000 in
theorem rky_run (k : Nat) (hk : 1 ≤ k ∧ k ≤ 3) (n : Nat) (hn : 1 ≤ n ∧ n ≤ 256) (t s : ByteArray) (w : World) (hl : lkE k [65] t.data.toList = 0 ∧ lkAt k [65] t.data.toList = 0) (hs : ckE s.data.toList = 0 ∧ ckAt s.data.toList = 0) (htl : Ls t.data.toList) (hsl : Ls s.data.toList) (h6 : t.size ≤ 65536) (hf1 : t.size = s.size) (hf2 : n ≤ t.size) :
    Calls Try.prog 30 #[.int .i64 (k : Nat), .int .i64 (n : Nat), .string t, .string s] w fun e w' => e = .returned (.tuple #[.string ⟨(if writeL k (kyL k t.data.toList s.data.toList n) t.data.toList = s.data.toList then kyL k t.data.toList s.data.toList n else []).toArray⟩, .agg #[.int .i64 (if writeL k (kyL k t.data.toList s.data.toList n) t.data.toList = s.data.toList then 0 else 6), .int .i64 0]]) ∧ Below w.heap.size w w' := by
  have hts := Pl.size_len t
  have hss := Pl.size_len s
  have HMI := (show Hid (writeL k (kyL k t.data.toList s.data.toList n) t.data.toList = s.data.toList ↔ ∀ i, n ≤ i → i < t.data.toList.length → (kyL k t.data.toList s.data.toList n).getD (i % n) 0 = ltr (betw k (num (t.data.toList.getD i 0)) (num (s.data.toList.getD i 0)))) from made_iff (by omega) htl hsl (by omega) (by omega))
  have HL := (show Hid (∀ W, Calls Try.prog 53 #[.int .i64 (k : Nat), .string ⟨#[65]⟩, .string t] W fun e w' => e = .returned (.agg #[.int .i64 0, .int .i64 0]) ∧ Below W.heap.size W w') from fun W => by have := rlook_any k ⟨#[65]⟩ t W; rw [show (⟨#[65]⟩ : ByteArray).data.toList = [65] from rfl, hl.1, hl.2] at this; exact this)
  have HC := (show Hid (∀ W, Calls Try.prog 40 #[.string s] W fun e w' => e = .returned (.agg #[.int .i64 0, .int .i64 0]) ∧ Below W.heap.size W w') from fun W => by have := rcheck_all s W; rw [hs.1, hs.2] at this; exact this)
  obtain ⟨i0, hi0, hz0, hz1, hz2⟩ := x_info_parts v_info_byte
  have HTS : Hid (t.size = t.data.toList.length) := hts
  have HF : Hid (t.size = s.size) := hf1
  have hk2 : ((k : Int) == 4) = false := beq_false_of_ne (by omega)
  have hn2 : ¬ (n : Int) < 1 := by omega
  have hn3 : ¬ 256 < (n : Int) := by omega
  have hf5 : ¬ (s.size : Int) < (n : Int) := by omega
  have hf8 : n ≤ s.size := by omega
  have hf9 : ¬ s.size < n := by omega
  clear hl hs hts hss
  go_enter Try.func30, Try.ntmps30
  go_wp2_with fail
  refine (HL.out _).mono ?_
  rintro e W1 ⟨rfl, hb⟩
  have hb1 : Below (w.heap.size + 1) (w.alloc (.cells #[.int .i64 0, .int .i64 0] 42)) W1 := by simpa using hb
  have hz := hb1.size
  simp at hz
  have hb2 := hb1.alloc (by omega) (.cells #[.int .i64 0, .int .i64 0] 42)
  clear hb hb1 HL
  go_wp2_with fail
  refine (HC.out _).mono ?_
  rintro e W2 ⟨rfl, hc⟩
  have hb3 := (hb2.trans (hc.mono (by have := hb2.size; simp at this ⊢; omega))).alloc (by have := hb2.size; have := hc.size; simp at *; omega) (.cells #[.int .i64 0, .int .i64 0] 42)
  clear hc hb2 HC
  go_wp2_with fail
  clear hf1 hf5 hf8
  obtain ⟨V, hV⟩ : ∃ V, V = W2.alloc (.cells #[.int .i64 0, .int .i64 0] 42) := ⟨_, rfl⟩
  rw [← hV] at hb3 ⊢
  have hVs : w.heap.size + 1 ≤ V.heap.size := by have := hb3.size; simp at this; omega
  clear hV hz
  go_loopw [13, 12] (fun i x W => ∃ (m : Nat) (v : Value), m ≤ t.size ∧ i = .int .i64 m ∧ v = x ∧ Kit.Owns W V.heap.size 5 v (kyL k t.data.toList s.data.toList (min m n)) ∧ Hid (∀ j, n ≤ j → j < m → (kyL k t.data.toList s.data.toList n).getD (j % n) 0 = ltr (betw k (num (t.data.toList.getD j 0)) (num (s.data.toList.getD j 0)))) ∧ Below V.heap.size V W) (fun i _ _ => ((t.size : Int) - intOf i).toNat)
  case atStart => exact ⟨0, _, by omega, rfl, rfl, by rw [Nat.zero_min]; exact Kit.Owns.nil _ _ _, fun j h1 h2 => by omega, Below.refl _ _⟩
  case round =>
    obtain ⟨m, v, hm, rfl, rfl, hown, HG, hbv⟩ := hrel
    have hzb := hbv.size
    by_cases hlt : m < t.size
    · have hlt2 : (m : Int) < (t.size : Int) := by omega
      have hls : m < s.size := by rw [← HF.out]; exact hlt
      have hls2 : (m : Int) < (s.size : Int) := by omega
      have hta := htl.at (getD_size hlt)
      have hsa := hsl.at (getD_size hls)
      have hna := num_lt hta
      have hnc := num_lt hsa
      have hbl := betw_lt k (num (t.data.toList.getD m 0)) (num (s.data.toList.getD m 0))
      have HKS := (show Hid (kyL k t.data.toList s.data.toList (m + 1) = kyL k t.data.toList s.data.toList m ++ [ltr (betw k (num (t.data.toList.getD m 0)) (num (s.data.toList.getD m 0)))]) from kyL_succ _ _ _ _)
      have HBM : Hid (betw k (num (t.data.toList.getD m 0)) (num (s.data.toList.getD m 0)) = betw k (num (t.data.toList.getD m 0)) (num (s.data.toList.getD m 0))) := rfl
      have HCC := (show Hid (∀ a : Nat, a < 26 → ∀ W, Calls Try.prog 54 #[.int .i64 (k : Nat), .int .u8 (t.data.toList.getD m 0).toNat, .int .u8 (65 + (a : Int))] W fun e w' => e = .returned (.int .u8 (65 + (there k (num (t.data.toList.getD m 0)) a : Nat))) ∧ W = w') from fun a ha W => by
        have := cell_any k (t.data.toList.getD m 0) (ltr a) hta (ltr_ok ha) W
        rw [num_ltr ha, ltr_toNat ha, ltr_toNat (there_lt _ _ _)] at this
        exact this)
      have HBF := (show Hid (∀ a, a < 26 → (there k (num (t.data.toList.getD m 0)) a = num (s.data.toList.getD m 0) ↔ a = betw k (num (t.data.toList.getD m 0)) (num (s.data.toList.getD m 0)))) from fun a ha => betw_first k hna hnc a ha)
      have HSN : Hid (((s.data.toList.getD m 0).toNat : Int) = 65 + (num (s.data.toList.getD m 0) : Nat)) := by rw [Hid]; unfold num; omega
      obtain ⟨b, hbe⟩ : ∃ b, b = betw k (num (t.data.toList.getD m 0)) (num (s.data.toList.getD m 0)) := ⟨_, rfl⟩
      have HBE : Hid (b = betw k (num (t.data.toList.getD m 0)) (num (s.data.toList.getD m 0))) := hbe
      rw [← hbe] at hbl HKS HBF
      rw [getD_byte t m hlt] at HCC HBF
      rw [getD_byte s m hls] at HSN HBF
      obtain ⟨acc, hacc⟩ : ∃ acc, acc = kyL k t.data.toList s.data.toList (min m n) := ⟨_, rfl⟩
      rw [← hacc] at hown
      have HAC : Hid (acc = kyL k t.data.toList s.data.toList (min m n)) := hacc
      have hal : acc.length ≤ 256 := by rw [hacc, kyL_length]; omega
      clear hbe hacc hta hsa hna hnc HBM
      obtain ⟨X, hX⟩ : ∃ X, X = wr := ⟨_, rfl⟩
      rw [← hX] at hown hbv hzb ⊢
      clear hX
      go_wp2_with fail
      go_loopw [14] (fun c W => ∃ a : Nat, a ≤ b ∧ c = .int .u8 ((65 + a : Nat) : Int) ∧ Kit.Owns W V.heap.size 5 v acc ∧ Below V.heap.size V W) (fun c _ => (200 - intOf c).toNat)
      case atStart => exact ⟨0, by omega, rfl, hown, hbv⟩
      case round =>
        clear hown hbv hzb
        obtain ⟨a, hab, rfl, hown, hbv⟩ := hrel
        have hzb := hbv.size
        have ha26 : a < 26 := by omega
        have HC := (show Hid (∀ W, Calls Try.prog 54 #[.int .i64 (k : Nat), .int .u8 t[m].toNat, .int .u8 (65 + (a : Int))] W fun e w' => e = .returned (.int .u8 (65 + (there k (num t[m]) a : Nat))) ∧ W = w') from HCC.out a ha26)
        have hth := HBF.out a ha26
        by_cases hr : a = b
        · have hte := hth.2 hr
          rw [hte] at HC
          have hsn := HSN.out
          have hneq : ((65 + (num s[m] : Nat) : Int) == (s[m].toNat : Int)) = true := by rw [hsn]; simp
          have hneq2 : (65 + (num s[m] : Nat) : Int) = (s[m].toNat : Int) := hsn.symm
          rw [hneq2] at HC
          clear hth hte hsn hneq hneq2
          obtain rfl : a = b := hr
          go_wp2_with fail
          refine wp_region_noPanic ?_
          refine wp_region_held_drew (S := fun _ => True) (by kernel_rfl) trivial (fun hS => ?_)
          refine vtake 0 56 (.int .i64 (k : Nat)) rfl rfl (by kernel_rfl) (by kernel_rfl) (by kernel_rfl) (fun _ _ _ _ h => h) (by rfl) (fun W hW => by clear hS hW; go_simp) hS ?_
          simp only [List.setIfInBounds_toArray, List.set_cons_succ, List.set_cons_zero]
          refine vtake 1 57 (.string t) rfl rfl (by kernel_rfl) (by kernel_rfl) (by kernel_rfl) (fun _ _ _ _ h => h) (by rfl) (fun W hW => by clear hS hW; go_simp) hS ?_
          simp only [List.setIfInBounds_toArray, List.set_cons_succ, List.set_cons_zero]
          refine vtake 2 58 (.int .i64 (m : Nat)) rfl rfl (by kernel_rfl) (by kernel_rfl) (by kernel_rfl) (fun _ _ _ _ h => h) (by rfl) (fun W hW => by clear hS hW; go_simp) hS ?_
          simp only [List.setIfInBounds_toArray, List.set_cons_succ, List.set_cons_zero]
          refine vtake 3 59 (.int .u8 (t[m].toNat : Nat)) rfl rfl (by kernel_rfl) (by kernel_rfl) (by kernel_rfl) (fun _ _ _ _ h => h) (by rfl) (fun W hW => by clear hS hW; go_simp) hS ?_
          simp only [List.setIfInBounds_toArray, List.set_cons_succ, List.set_cons_zero]
          refine vtake 4 60 (.int .u8 (65 + (a : Int))) rfl rfl (by kernel_rfl) (by kernel_rfl) (by kernel_rfl) (fun _ _ _ _ h => h) (by rfl) (fun W hW => by clear hS hW; go_simp) hS ?_
          simp only [List.setIfInBounds_toArray, List.set_cons_succ, List.set_cons_zero]
          refine vtake 6 62 (.string s) rfl rfl (by kernel_rfl) (by kernel_rfl) (by kernel_rfl) (fun _ _ _ _ h => h) (by rfl) (fun W hW => by clear hS hW; go_simp) hS ?_
          simp only [List.setIfInBounds_toArray, List.set_cons_succ, List.set_cons_zero]
          refine vtake 7 63 (.int .i64 (m : Nat)) rfl rfl (by kernel_rfl) (by kernel_rfl) (by kernel_rfl) (fun _ _ _ _ h => h) (by rfl) (fun W hW => by clear hS hW; go_simp) hS ?_
          simp only [List.setIfInBounds_toArray, List.set_cons_succ, List.set_cons_zero]
          refine vtake 8 64 (.int .u8 (s[m].toNat : Nat)) rfl rfl (by kernel_rfl) (by kernel_rfl) (by kernel_rfl) (fun _ _ _ _ h => h) (by rfl) (fun W hW => by clear hS hW; go_simp) hS ?_
          simp only [List.setIfInBounds_toArray, List.set_cons_succ, List.set_cons_zero]
          refine wpAnyH_ready (rs := [5]) (by kernel_rfl) (by simp) ?_
          refine AllReadyH.cons (o := _) rfl (fun K hK => ?_) AllReadyH.nil
          rw [if_pos (by rfl)]
          go_simp
          refine Calls.mono (HC.out _) ?_
          rintro e Y ⟨rfl, rfl⟩
          refine hK.out _ _ (trivial) (fun hS1 => ?_)
          clear hK hS K
          have hS := hS1
          clear hS1
          refine vtake 9 65 (.bool false) rfl rfl (by kernel_rfl) (by kernel_rfl) (by kernel_rfl) (fun _ _ _ _ h => h) (by rfl) (fun W hW => by clear hS hW; go_simp) hS ?_
          simp only [List.setIfInBounds_toArray, List.set_cons_succ, List.set_cons_zero]
          refine wpAnyH_done (by kernel_rfl) ?_ _
          refine NoPanic.normal ?_
          have hownY : Kit.Owns wr.drew V.heap.size 5 v acc := hown
          have hbY : Below V.heap.size V wr.drew := hbv.drew
          have hzY : V.heap.size ≤ wr.drew.heap.size := hzb
          clear hown hbv hzb hS
          obtain ⟨Y, hY⟩ : ∃ Y, Y = wr.drew := ⟨_, rfl⟩
          rw [← hY] at hownY hbY hzY ⊢
          clear hY HC
          by_cases hmn : m < n
          · have hmnI : (m : Int) < (n : Int) := by omega
            have HCB := (show Hid (Lib.byteCells acc ++ [.int .u8 (65 + (a : Int))] = Lib.byteCells (acc ++ [ltr a])) from by
              have := v_cells_byte acc (ltr a)
              rw [ltr_toNat ha26] at this
              exact this)
            have HAC2 : Hid (kyL k t.data.toList s.data.toList (min (m + 1) n) = acc ++ [ltr a]) := by
              rw [Hid, HAC.out, Nat.min_eq_left (by omega), Nat.min_eq_left (by omega)]
              exact HKS.out
            go_wp2_with (first
              | (at_builtin; refine wpList_append_own _ rfl _ _ 58 rfl V.heap.size 5 i0 (.int .u8 0) 1 1 Try.underlying58 hi0 hz0 hz1 hz2 rfl (by decide) _ _ _ rfl (World.ownsRow.alloc hownY _) ⟨Y.heap.size, 0, none⟩ 1 1 [.int .u8 (65 + (a : Int))] rfl rfl (cell_one_new _ _ _) (fun u hu => by simp at hu; subst hu; rfl) (by unfold maxLen; omega) (by omega) (by simp; omega) ?_; intro v5 w5 hown5 hgrow5 _))
            go_roundw
            case rel =>
              refine ⟨m + 1, _, by omega, by go_num, rfl, ?_, fun j h1 h2 => by omega, (hbY.alloc hzY (.cells #[.int .u8 (65 + (a : Int))] 5)).grown hgrow5 (by simp; omega) (fun k hk => (World.ownsRow.lt hownY k hk).1)⟩
              rw [HAC2.out]
              unfold Kit.Owns
              rw [← HCB.out, List.length_append]
              exact hown5
            case measure => simp [intOf] <;> omega
          · have hmnI : ¬ (m : Int) < (n : Int) := by omega
            have HAN : Hid (acc = kyL k t.data.toList s.data.toList n) := by rw [Hid, HAC.out, Nat.min_eq_right (by omega)]
            have hln : acc.length = n := by rw [HAN.out, kyL_length]
            obtain ⟨g, cap, rfl, hcells⟩ := own_form hownY hln (by omega)
            have hmod : m % n < n := Nat.mod_lt _ (by omega)
            have hcm := hcells (m % n) hmod
            have hrem : (m : Int).tmod (n : Int) = ((m % n : Nat) : Int) := by rw [Int.tmod_eq_emod_of_nonneg (by omega)]; omega
            have hmodI : ((m % n : Nat) : Int) < (n : Int) := by omega
            have h00 : ¬ ((n : Int) = 0) := by omega
            have h01 : ((n : Int) == 0) = false := beq_false_of_ne h00
            have HLA : Hid (((ltr a).toNat : Int) = 65 + (a : Int)) := by rw [Hid, ltr_toNat ha26]; omega
            by_cases hq : acc.getD (m % n) 0 = ltr a
            · rw [hq] at hcm
              rw [HLA.out] at hcm
              have HG2 := (show Hid (∀ j, n ≤ j → j < m + 1 → (kyL k t.data.toList s.data.toList n).getD (j % n) 0 = ltr (betw k (num (t.data.toList.getD j 0)) (num (s.data.toList.getD j 0)))) from fun j h1 h2 => by
                by_cases hj : j = m
                · subst hj; rw [← HAN.out, hq, HBE.out]
                · exact HG.out j h1 (by omega))
              have HOW := (show Hid (Kit.Owns Y V.heap.size 5 (.slice (some ⟨g, 0, none⟩) n cap) (kyL k t.data.toList s.data.toList (min (m + 1) n))) from by rw [Nat.min_eq_right (by omega), ← HAN.out]; exact hownY)
              clear hq hcells hownY hln
              generalize m % n = r at *
              go_wp2
              go_roundw
              case rel => exact ⟨m + 1, _, by omega, by go_num, rfl, HOW.out, HG2.out, hbY⟩
              case measure => simp [intOf] <;> omega
            · have hlet : ∃ x : Nat, ((acc.getD (m % n) 0).toNat : Int) = (x : Int) ∧ ¬ ((x : Int) = 65 + (a : Int)) := by
                refine ⟨_, rfl, fun e => hq ?_⟩
                apply UInt8.toNat_inj.1
                have := HLA.out
                omega
              obtain ⟨x, hx, hxa⟩ := hlet
              rw [hx] at hcm
              have hxa2 : ((x : Int) == 65 + (a : Int)) = false := beq_false_of_ne hxa
              have hno : ¬ writeL k (kyL k t.data.toList s.data.toList n) t.data.toList = s.data.toList := fun e => hq (by rw [HAN.out, HMI.out.1 e m (by omega) (by rw [← HTS.out]; exact hlt), HBE.out])
              have HNO : Hid (¬ writeL k (kyL k t.data.toList s.data.toList n) t.data.toList = s.data.toList) := hno
              have hbw := hb3.trans (hbY.mono hVs)
              obtain ⟨c0, c1, f0, f1, hsz⟩ := Kit.two_cells hbw
              clear hq hcells hownY hln hx hno
              generalize m % n = r at *
              go_wp2
              have q := Kit.read_two (.int .i64 6) (.int .i64 0) c0 c1
              refine bodyPost_ret (v := .tuple #[.string ⟨#[]⟩, .agg #[.int .i64 6, .int .i64 0]]) (by simp [results, Try.results30, go_sem, q.1, q.2]) rfl ⟨by simp only [], ?_⟩
              exact Kit.below_two hbw _ _
        · have hte : ¬ there k (num t[m]) a = num s[m] := fun e => hr (hth.1 e)
          have hsn := HSN.out
          have hthl := there_lt k (num t[m]) a
          have hneq : ((65 + (there k (num t[m]) a : Nat) : Int) == (s[m].toNat : Int)) = false := beq_false_of_ne (by omega)
          have hneq3 : ¬ ((65 + (there k (num t[m]) a : Nat) : Int) = (s[m].toNat : Int)) := by omega
          generalize there k (num t[m]) a = y at *
          clear hth hte hsn
          go_wp2_with fail
          refine wp_region_noPanic ?_
          refine wp_region_held_drew (S := fun _ => True) (by kernel_rfl) trivial (fun hS => ?_)
          refine vtake 0 56 (.int .i64 (k : Nat)) rfl rfl (by kernel_rfl) (by kernel_rfl) (by kernel_rfl) (fun _ _ _ _ h => h) (by rfl) (fun W hW => by clear hS hW; go_simp) hS ?_
          simp only [List.setIfInBounds_toArray, List.set_cons_succ, List.set_cons_zero]
          refine vtake 1 57 (.string t) rfl rfl (by kernel_rfl) (by kernel_rfl) (by kernel_rfl) (fun _ _ _ _ h => h) (by rfl) (fun W hW => by clear hS hW; go_simp) hS ?_
          simp only [List.setIfInBounds_toArray, List.set_cons_succ, List.set_cons_zero]
          refine vtake 2 58 (.int .i64 (m : Nat)) rfl rfl (by kernel_rfl) (by kernel_rfl) (by kernel_rfl) (fun _ _ _ _ h => h) (by rfl) (fun W hW => by clear hS hW; go_simp) hS ?_
          simp only [List.setIfInBounds_toArray, List.set_cons_succ, List.set_cons_zero]
          refine vtake 3 59 (.int .u8 (t[m].toNat : Nat)) rfl rfl (by kernel_rfl) (by kernel_rfl) (by kernel_rfl) (fun _ _ _ _ h => h) (by rfl) (fun W hW => by clear hS hW; go_simp) hS ?_
          simp only [List.setIfInBounds_toArray, List.set_cons_succ, List.set_cons_zero]
          refine vtake 4 60 (.int .u8 (65 + (a : Int))) rfl rfl (by kernel_rfl) (by kernel_rfl) (by kernel_rfl) (fun _ _ _ _ h => h) (by rfl) (fun W hW => by clear hS hW; go_simp) hS ?_
          simp only [List.setIfInBounds_toArray, List.set_cons_succ, List.set_cons_zero]
          refine vtake 6 62 (.string s) rfl rfl (by kernel_rfl) (by kernel_rfl) (by kernel_rfl) (fun _ _ _ _ h => h) (by rfl) (fun W hW => by clear hS hW; go_simp) hS ?_
          simp only [List.setIfInBounds_toArray, List.set_cons_succ, List.set_cons_zero]
          refine vtake 7 63 (.int .i64 (m : Nat)) rfl rfl (by kernel_rfl) (by kernel_rfl) (by kernel_rfl) (fun _ _ _ _ h => h) (by rfl) (fun W hW => by clear hS hW; go_simp) hS ?_
          simp only [List.setIfInBounds_toArray, List.set_cons_succ, List.set_cons_zero]
          refine vtake 8 64 (.int .u8 (s[m].toNat : Nat)) rfl rfl (by kernel_rfl) (by kernel_rfl) (by kernel_rfl) (fun _ _ _ _ h => h) (by rfl) (fun W hW => by clear hS hW; go_simp) hS ?_
          simp only [List.setIfInBounds_toArray, List.set_cons_succ, List.set_cons_zero]
          refine wpAnyH_ready (rs := [5]) (by kernel_rfl) (by simp) ?_
          refine AllReadyH.cons (o := _) rfl (fun K hK => ?_) AllReadyH.nil
          rw [if_pos (by rfl)]
          go_simp
          refine Calls.mono (HC.out _) ?_
          rintro e Y ⟨rfl, rfl⟩
          refine hK.out _ _ (trivial) (fun hS1 => ?_)
          clear hK hS K
          have hS := hS1
          clear hS1
          refine vtake 9 65 (.bool true) rfl rfl (by kernel_rfl) (by kernel_rfl) (by kernel_rfl) (fun _ _ _ _ h => h) (by rfl) (fun W hW => by clear hS hW; go_simp) hS ?_
          simp only [List.setIfInBounds_toArray, List.set_cons_succ, List.set_cons_zero]
          refine wpAnyH_done (by kernel_rfl) ?_ _
          refine NoPanic.normal ?_
          clear hS
          go_wp2
          go_roundw
          case rel => exact ⟨a + 1, by omega, by go_num, hown, hbv.drew⟩
          case measure => simp [intOf] <;> omega
    · obtain rfl : m = t.size := by omega
      have HYES : Hid (writeL k (kyL k t.data.toList s.data.toList n) t.data.toList = s.data.toList) := HMI.out.2 (fun i h1 h2 => HG.out i h1 (by rw [HTS.out]; exact h2))
      rw [Nat.min_eq_right (by omega)] at hown
      have hst := Kit.run_string_of_own (P := Try.prog) wr 58 9 5 Try.underlying58 Try.underlying5 Try.underlying9 hown
      obtain ⟨T, hT⟩ : ∃ T, T = (⟨(kyL k t.data.toList s.data.toList n).toArray⟩ : ByteArray) := ⟨_, rfl⟩
      rw [← hT] at hst
      have HT : Hid (T = (⟨(kyL k t.data.toList s.data.toList n).toArray⟩ : ByteArray)) := hT
      have hbw := hb3.trans (hbv.mono hVs)
      obtain ⟨c0, c1, f0, f1, hsz⟩ := Kit.two_cells hbw
      clear hT hown
      go_wp2
      have q := Kit.read_two (.int .i64 0) (.int .i64 0) c0 c1
      refine bodyPost_ret (v := .tuple #[.string T, .agg #[.int .i64 0, .int .i64 0]]) (by simp [results, Try.results30, go_sem, q.1, q.2]) rfl ⟨by simp only [HT.out], ?_⟩
      exact Kit.below_two hbw _ _
end Go.Proofs.Ytlgijlfojkpeaac
