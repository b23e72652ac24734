/-
  Contract of keyBetween.
-/
import Derived.Test.YtlgijlfojkpeaacVRd
namespace Go.Proofs.Ytlgijlfojkpeaac
open Go.RowKit PK Vg

set_option maxRecDepth 100000 in
set_option maxHeartbeats 2000000 in
theorem betw_any (k : Nat) (B : Bool) (x0 x1 : Value) (a b : ByteArray) (hab : b.size = a.size) (hs : a.size ≤ 65536) (hal : Ls a.data.toList) (hbl : Ls b.data.toList) (w : World) :
    Calls Try.prog 57 #[.agg #[x0, x1, .func (.func (fn2 k)) #[] #[], .bool B], .string a, .string b] w fun e w' => e = .returned (.string ⟨(kyL k a.data.toList b.data.toList a.size).toArray⟩) ∧ Below w.heap.size w w' := by
  have HF := (show Hid (∀ a b, a < 26 → b < 26 → ∀ W, Calls Try.prog (fn2 k) #[.int .i64 (a : Nat), .int .i64 (b : Nat)] W fun e w' => e = .returned (.int .i64 (betw k a b : Nat)) ∧ W = w') from fun a b ha hb W => fn2_any k a b ha hb W)
  have hent := ent2 k
  have hmk := run_make_row' (P := Try.prog) 58 5 (.int .u8 0) 1 Try.underlying58 v_info_byte rfl .i64 .i64 a.size (by omega) (by omega)
  rw [v_made_tab, byts_new] at hmk
  generalize fn2 k = F2 at *
  have HAB : Hid (b.size = a.size) := hab
  clear hab
  go_enter Try.func57, Try.ntmps57
  go_wp2_with fail
  have q1 := (RowAt.new w 61 #[x0, x1, .func (.func F2) #[] #[], .bool B]).alloc (.cells (byts a.size fun _ => 0) 5)
  have q2 := RowAt.new (w.alloc (.cells #[x0, x1, .func (.func F2) #[] #[], .bool B] 61)) 5 (byts a.size fun _ => 0)
  have q3 := ((Below.refl _ w).alloc (Nat.le_refl _) (.cells #[x0, x1, .func (.func F2) #[] #[], .bool B] 61)).alloc (by simp) (.cells (byts a.size fun _ => 0) 5)
  simp only [World.size_alloc] at q2
  obtain ⟨go, hgo⟩ : ∃ go, go = w.heap.size + 1 := ⟨_, rfl⟩
  rw [← hgo] at q2 ⊢
  have hgo2 : w.heap.size < go := by omega
  clear hgo hmk
  go_loopw [14] (fun i W => ∃ m : Nat, m ≤ a.size ∧ i = .int .i64 m ∧ RowAt W w.heap.size 61 #[x0, x1, .func (.func F2) #[] #[], .bool B] ∧ RowAt W go 5 (byts a.size (upTo (kyL k a.data.toList b.data.toList m))) ∧ Below w.heap.size w W) (fun i _ => ((a.size : Int) - intOf i).toNat)
  case atStart => exact ⟨0, by omega, rfl, q1, by rw [show kyL k a.data.toList b.data.toList 0 = [] from rfl, upTo_nil]; exact q2, q3⟩
  case round =>
    clear q1 q2 q3
    obtain ⟨m, hm, rfl, hrt, hro, hb⟩ := hrel
    by_cases hlt : m < a.size
    · have hlt2 : (m : Int) < (a.size : Int) := by omega
      have hltb : m < b.size := by rw [HAB.out]; exact hlt
      have hltb2 : (m : Int) < (b.size : Int) := by omega
      have hta := hal.at (getD_size hlt)
      have htb := hbl.at (getD_size hltb)
      have hna := num_lt hta
      have hnb := num_lt htb
      have HN := (show Hid (∀ W, Calls Try.prog 51 #[.int .u8 (a.data.toList.getD m 0).toNat] W fun e w' => e = .returned (.int .i64 (num (a.data.toList.getD m 0) : Nat)) ∧ W = w') from fun W => number_any _ hta W)
      have HM := (show Hid (∀ W, Calls Try.prog 51 #[.int .u8 (b.data.toList.getD m 0).toNat] W fun e w' => e = .returned (.int .i64 (num (b.data.toList.getD m 0) : Nat)) ∧ W = w') from fun W => number_any _ htb W)
      have HL := (show Hid (∀ W, Calls Try.prog 50 #[.int .i64 (betw k (num (a.data.toList.getD m 0)) (num (b.data.toList.getD m 0)) : Nat)] W fun e w' => e = .returned (.int .u8 (ltr (betw k (num (a.data.toList.getD m 0)) (num (b.data.toList.getD m 0)))).toNat) ∧ W = w') from fun W => letter_any _ (betw_lt _ _ _) W)
      have HST := (show Hid (kyL k a.data.toList b.data.toList (m + 1) = kyL k a.data.toList b.data.toList m ++ [ltr (betw k (num (a.data.toList.getD m 0)) (num (b.data.toList.getD m 0)))]) from kyL_succ _ _ _ _)
      rw [getD_byte a m hlt] at HN HL HST hna
      rw [getD_byte b m hltb] at HM HL HST hnb
      go_wp2_with fail
      refine wp_region_noPanic ?_
      refine wp_region_held_drew (S := fun W => RowAt W w.heap.size 61 #[x0, x1, .func (.func F2) #[] #[], .bool B] ∧ Below w.heap.size w W) (by kernel_rfl) ⟨hrt, hb.drew⟩ (fun hS => ?_)
      refine vtake 0 17 (.slice (some ⟨go, 0, none⟩) a.size a.size) rfl rfl (by kernel_rfl) (by kernel_rfl) (by kernel_rfl) (fun _ _ _ _ h => h) (by rfl) (fun W hW => by clear hS hW; go_simp) hS ?_
      simp only [List.setIfInBounds_toArray, List.set_cons_succ, List.set_cons_zero]
      refine vtake 1 18 (.int .i64 (m : Nat)) rfl rfl (by kernel_rfl) (by kernel_rfl) (by kernel_rfl) (fun _ _ _ _ h => h) (by rfl) (fun W hW => by clear hS hW; go_simp) hS ?_
      simp only [List.setIfInBounds_toArray, List.set_cons_succ, List.set_cons_zero]
      refine vtake 2 19 (.pointer (some ⟨w.heap.size, 2, none⟩)) rfl rfl (by kernel_rfl) (by kernel_rfl) (by kernel_rfl) (fun _ _ _ _ h => h) (by rfl) (fun W hW => by clear hS hW; go_simp) hS ?_
      simp only [List.setIfInBounds_toArray, List.set_cons_succ, List.set_cons_zero]
      refine vtake 3 20 (.func (.func F2) #[] #[]) rfl rfl (by kernel_rfl) (by kernel_rfl) (by kernel_rfl) (fun _ _ _ _ h => h) (by rfl) (fun W hW => by have u0 := hW.1.cell (i := 0) rfl; have u1 := hW.1.cell (i := 1) rfl; have u2 := hW.1.cell (i := 2) rfl; have u3 := hW.1.cell (i := 3) rfl; clear hS hW; go_simp) hS ?_
      simp only [List.setIfInBounds_toArray, List.set_cons_succ, List.set_cons_zero]
      refine vtake 4 21 (.string a) rfl rfl (by kernel_rfl) (by kernel_rfl) (by kernel_rfl) (fun _ _ _ _ h => h) (by rfl) (fun W hW => by clear hS hW; go_simp) hS ?_
      simp only [List.setIfInBounds_toArray, List.set_cons_succ, List.set_cons_zero]
      refine vtake 5 22 (.int .i64 (m : Nat)) rfl rfl (by kernel_rfl) (by kernel_rfl) (by kernel_rfl) (fun _ _ _ _ h => h) (by rfl) (fun W hW => by clear hS hW; go_simp) hS ?_
      simp only [List.setIfInBounds_toArray, List.set_cons_succ, List.set_cons_zero]
      refine vtake 6 23 (.int .u8 (a[m].toNat : Nat)) rfl rfl (by kernel_rfl) (by kernel_rfl) (by kernel_rfl) (fun _ _ _ _ h => h) (by rfl) (fun W hW => by clear hS hW; go_simp) hS ?_
      simp only [List.setIfInBounds_toArray, List.set_cons_succ, List.set_cons_zero]
      refine vtake 8 25 (.string b) rfl rfl (by kernel_rfl) (by kernel_rfl) (by kernel_rfl) (fun _ _ _ _ h => h) (by rfl) (fun W hW => by clear hS hW; go_simp) hS ?_
      simp only [List.setIfInBounds_toArray, List.set_cons_succ, List.set_cons_zero]
      refine vtake 9 26 (.int .i64 (m : Nat)) rfl rfl (by kernel_rfl) (by kernel_rfl) (by kernel_rfl) (fun _ _ _ _ h => h) (by rfl) (fun W hW => by clear hS hW; go_simp) hS ?_
      simp only [List.setIfInBounds_toArray, List.set_cons_succ, List.set_cons_zero]
      refine vtake 10 27 (.int .u8 (b[m].toNat : Nat)) rfl rfl (by kernel_rfl) (by kernel_rfl) (by kernel_rfl) (fun _ _ _ _ h => h) (by rfl) (fun W hW => by clear hS hW; go_simp) hS ?_
      simp only [List.setIfInBounds_toArray, List.set_cons_succ, List.set_cons_zero]
      refine wpAnyH_ready (rs := [7]) (by kernel_rfl) (by simp) ?_
      refine AllReadyH.cons (o := _) rfl (fun K hK => ?_) AllReadyH.nil
      rw [if_pos (by rfl)]
      go_simp
      refine Calls.mono (HN.out _) ?_
      rintro e Y ⟨rfl, rfl⟩
      refine hK.out _ _ (hS) (fun hS1 => ?_)
      clear hK hS K
      have hS := hS1
      clear hS1
      refine wpAnyH_ready (rs := [11]) (by kernel_rfl) (by simp) ?_
      refine AllReadyH.cons (o := _) rfl (fun K hK => ?_) AllReadyH.nil
      rw [if_pos (by rfl)]
      go_simp
      refine Calls.mono (HM.out _) ?_
      rintro e Y ⟨rfl, rfl⟩
      refine hK.out _ _ (hS) (fun hS1 => ?_)
      clear hK hS K
      have hS := hS1
      clear hS1
      refine wpAnyH_ready (rs := [12]) (by kernel_rfl) (by simp) ?_
      refine AllReadyH.cons (o := _) rfl (fun K hK => ?_) AllReadyH.nil
      rw [if_pos (by rfl)]
      go_simp
      refine Calls.mono (HF.out _ _ hna hnb _) ?_
      rintro e Y ⟨rfl, rfl⟩
      refine hK.out _ _ (hS) (fun hS1 => ?_)
      clear hK hS K
      have hS := hS1
      clear hS1
      refine wpAnyH_ready (rs := [13]) (by kernel_rfl) (by simp) ?_
      refine AllReadyH.cons (o := _) rfl (fun K hK => ?_) AllReadyH.nil
      rw [if_pos (by rfl)]
      go_simp
      refine Calls.mono (HL.out _) ?_
      rintro e Y ⟨rfl, rfl⟩
      refine hK.out _ _ (hS) (fun hS1 => ?_)
      clear hK hS K
      have hS := hS1
      clear hS1
      refine vtake 14 31 (.pointer (some ⟨go, m, none⟩)) rfl rfl (by kernel_rfl) (by kernel_rfl) (by kernel_rfl) (fun _ _ _ _ h => h) (by rfl) (fun W hW => by clear hS hW; go_simp) hS ?_
      simp only [List.setIfInBounds_toArray, List.set_cons_succ, List.set_cons_zero]
      have hrow := row_next hro.drew (ltr (betw k (num a[m]) (num b[m])))
      rw [kyL_length, ← HST.out] at hrow
      have hcm := hro.drew.cell (byts_get (upTo (kyL k a.data.toList b.data.toList m)) hlt)
      have hfm := hro.drew.frozen m
      generalize ltr (betw k (num a[m]) (num b[m])) = z at *
      refine wpAnyH_ready (rs := [15]) (by kernel_rfl) (by simp) ?_
      refine AllReadyH.cons (o := _) rfl (fun K hK => ?_) AllReadyH.nil
      rw [if_pos (by rfl)]
      go_simp
      refine hK.out _ _ ⟨hS.1.setOther _ _ (by show _ ≠ go; omega), hS.2.setCell (p := ⟨go, m, none⟩) (by show _ ≤ go; omega) _⟩ (fun hS1 => ?_)
      clear hK hS K
      refine wpAnyH_done (by kernel_rfl) ?_ _
      refine NoPanic.normal ?_
      go_wp2_with fail
      go_roundw
      case rel => exact ⟨m + 1, by omega, by go_num, hS1.1, hrow, hS1.2⟩
      case measure => simp [intOf]; omega
    · obtain rfl : m = a.size := by omega
      have hl2 : (kyL k a.data.toList b.data.toList a.size).length = a.size := kyL_length _ _ _ _
      have hro2 : RowAt wr go 5 (Lib.byteCells (kyL k a.data.toList b.data.toList a.size)).toArray := by
        rw [← byts_all, hl2]; exact hro
      have hst := run_string_of_row (P := Try.prog) wr 58 9 5 Try.underlying58 Try.underlying5 Try.underlying9 (cap := a.size) hl2 hro2
      obtain ⟨T, hT⟩ : ∃ T, T = (⟨(kyL k a.data.toList b.data.toList a.size).toArray⟩ : ByteArray) := ⟨_, rfl⟩
      rw [← hT] at hst
      have HT : Hid (T = (⟨(kyL k a.data.toList b.data.toList a.size).toArray⟩ : ByteArray)) := hT
      clear hT hro2 hro hrt hl2
      go_wp2
      go_ret
      exact ⟨by rw [← HT.out]; rfl, hb⟩
end Go.Proofs.Ytlgijlfojkpeaac
