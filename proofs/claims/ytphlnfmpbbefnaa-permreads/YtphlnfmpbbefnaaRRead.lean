/-
  The contract of the document's own Read: it answers as the program's.
-/
import Derived.Test.YtphlnfmpbbefnaaPLoc
import Derived.Test.YtphlnfmpbbefnaaPPrint
import Derived.Lib.ConvBytes
namespace Go.Proofs.Ytphlnfmpbbefnaa
open Go.RowKit PK

/-- The document's state, held against the program's. -/
structure Sim (s : Rd) (M : List UInt8) (F L : Int) (rp : Nat → Int) : Prop where
  m : ∀ i, i < 26 → (s.st i = true ↔ lb i ∈ M)
  nodup : M.Nodup
  lets : ∀ b ∈ M, ∃ i, i < 26 ∧ b = lb i
  f : s.op = true → F = if s.long = 0 then -1 else (s.first : Int)
  l : s.op = true → 0 < s.long → L = s.last
  lt : s.op = true → 0 < s.long → s.last < 26 ∧ s.first < 26 ∧ s.p s.last = s.first ∧ s.st s.last = true
  fix : ∀ x, s.st x = false → s.p x = x
  rp : ∀ x, x < 26 → rp x = if s.op = true ∧ 0 < s.long ∧ x = s.last then (s.last : Int) else (s.p x : Int)
theorem lb_inj (i j : Nat) (hi : i < 26) (hj : j < 26) (h : lb i = lb j) : i = j := by
  have := congrArg UInt8.toNat h
  rw [lb_toNat i hi, lb_toNat j hj] at this
  omega
theorem Sim.mlen {s : Rd} {M : List UInt8} {F L : Int} {rp : Nat → Int} (h : Sim s M F L rp) : M.length ≤ 26 := by
  have h1 : (M.map UInt8.toNat).Nodup := by
    rw [List.nodup_iff_pairwise_ne, List.pairwise_map]
    exact (List.nodup_iff_pairwise_ne.1 h.nodup).imp fun hne e => hne (UInt8.toNat_inj.1 e)
  have := Pm.nodup_le _ ((List.range 26).map fun i => 65 + i) h1 (fun x hx => by
    obtain ⟨b, hb, rfl⟩ := List.mem_map.1 hx
    obtain ⟨i, hi, rfl⟩ := h.lets b hb
    exact List.mem_map.2 ⟨i, by simpa using hi, (lb_toNat i hi).symm⟩)
  simpa using this
theorem sim0 : Sim rd0 [] (-1) (-1) (Pm.up fun i => i) :=
  ⟨fun i _ => by simp [rd0], by simp, (fun b hb => nomatch hb), (fun h => by simp [rd0] at h), (fun h => by simp [rd0] at h), (fun h => by simp [rd0] at h), fun _ _ => rfl, fun x _ => by simp [rd0, Pm.up]⟩
theorem Sim.opens {s : Rd} {M : List UInt8} {F L : Int} {rp : Nat → Int} (h : Sim s M F L rp) (ho : s.op = false) : Sim { s with op := true, long := 0 } M (-1) L rp :=
  ⟨h.m, h.nodup, h.lets, fun _ => rfl, fun _ c => absurd c (by simp), fun _ c => absurd c (by simp), h.fix, fun x hx => by rw [h.rp x hx]; simp [ho]⟩
theorem Sim.closes {s : Rd} {M : List UInt8} {F L : Int} {rp : Nat → Int} (h : Sim s M F L rp) (ho : s.op = true) (hl : 0 < s.long) : Sim { s with op := false } M F L (upd rp s.last F) := by
  have h1 := h.lt ho hl
  have hF : F = (s.first : Int) := by rw [h.f ho, if_neg (by omega)]
  refine ⟨h.m, h.nodup, h.lets, fun c => by simp at c, fun c => by simp at c, fun c => by simp at c, h.fix, fun x hx => ?_⟩
  simp only [Bool.false_eq_true, false_and, if_false]
  by_cases e : x = s.last
  · subst e; rw [upd_same, hF, h1.2.2.1]
  · rw [upd_other _ _ e, h.rp x hx, if_neg (fun c => e c.2.2)]
theorem Sim.letter {s : Rd} {M : List UInt8} {F L : Int} {rp : Nat → Int} (h : Sim s M F L rp) (ho : s.op = true) (i : Nat) (hi : i < 26) (hs : s.st i = false) :
    (s.long = 0 → Sim (s.letter i) (M ++ [lb i]) (i : Int) (i : Int) rp) ∧ (0 < s.long → Sim (s.letter i) (M ++ [lb i]) F (i : Int) (upd rp s.last (i : Int))) := by
  have hnot : lb i ∉ M := fun c => by rw [(h.m i hi).2 c] at hs; cases hs
  have hm : ∀ j, j < 26 → (upd s.st i true j = true ↔ lb j ∈ M ++ [lb i]) := fun j hj => by
    by_cases e : j = i
    · subst e; simp
    · rw [upd_other _ _ e, h.m j hj]
      have : lb j ≠ lb i := fun c => e (lb_inj j i hj hi c)
      simp [this]
  have hnd : (M ++ [lb i]).Nodup := by
    rw [List.nodup_append]
    exact ⟨h.nodup, by simp, fun a ha b hb e => by simp at hb; subst hb; subst e; exact hnot ha⟩
  have hlt : ∀ b ∈ M ++ [lb i], ∃ i, i < 26 ∧ b = lb i := fun b hb => by
    rcases List.mem_append.1 hb with hb | hb
    · exact h.lets b hb
    · simp at hb; exact ⟨i, hi, hb⟩
  constructor
  · intro hl
    have e1 : s.letter i = { s with st := upd s.st i true, first := i, p := upd s.p i i, last := i, long := 1 } := by simp [Rd.letter, hl]
    rw [e1]
    refine ⟨hm, hnd, hlt, fun _ => by simp, fun _ _ => rfl, fun _ _ => ⟨hi, hi, by simp, by simp⟩, fun x hx => ?_, fun x hx => ?_⟩
    · have hxi : x ≠ i := fun e => by subst e; simp at hx
      have hx' : s.st x = false := by simpa [upd_other _ _ hxi] using hx
      show upd s.p i i x = x
      rw [upd_other _ _ hxi]
      exact h.fix x hx'
    · rw [h.rp x hx, if_neg (fun c => by omega)]
      by_cases e : x = i
      · subst e; simp [ho, h.fix x hs]
      · simp [e, upd_other _ _ e]
  · intro hl
    have h1 := h.lt ho hl
    have hil : i ≠ s.last := fun e => by subst e; rw [h1.2.2.2] at hs; cases hs
    have e1 : s.letter i = { s with st := upd s.st i true, p := upd (upd s.p s.last i) i s.first, last := i, long := s.long + 1 } := by
      have : ¬ (s.long = 0) := by omega
      simp [Rd.letter, this]
    rw [e1]
    refine ⟨hm, hnd, hlt, fun _ => by rw [h.f ho, if_neg (by omega)]; simp, fun _ _ => rfl, fun _ _ => ⟨hi, h1.2.1, by simp, by simp⟩, fun x hx => ?_, fun x hx => ?_⟩
    · have hxi : x ≠ i := fun e => by subst e; simp at hx
      have hx' : s.st x = false := by simpa [upd_other _ _ hxi] using hx
      have hxl : x ≠ s.last := fun e => by subst e; rw [h1.2.2.2] at hx'; cases hx'
      show upd (upd s.p s.last i) i s.first x = x
      rw [upd_other _ _ hxi, upd_other _ _ hxl]
      exact h.fix x hx'
    · show upd rp s.last (i : Int) x = if s.op = true ∧ 0 < s.long + 1 ∧ x = i then (i : Int) else (upd (upd s.p s.last i) i s.first x : Nat)
      by_cases e : x = i
      · subst e
        rw [upd_other _ _ hil, h.rp x hx, if_neg (fun c => hil c.2.2), if_pos ⟨ho, by omega, rfl⟩, h.fix x hs]
      · rw [if_neg (fun c => e c.2.2), upd_other _ _ e]
        by_cases e2 : x = s.last
        · subst e2; simp
        · rw [upd_other _ _ e2, upd_other _ _ e2, h.rp x hx, if_neg (fun c => e2 c.2.2)]
theorem below_bytes {B : Nat} (w : World) (hB : B ≤ w.heap.size) (e : TypeId) (s : ByteArray) : Below B w (Lib.bytesWorld w e s) := by
  refine ⟨?_, ?_, ?_, by rw [Lib.bytesWorld_size]; omega, fun k hk => Lib.bytesWorld_at_old w e s k (by omega)⟩
  all_goals
    unfold Lib.bytesWorld World.freeze
    split <;> rfl
theorem bytes_cell (w : World) (e : TypeId) (s : ByteArray) (k : Nat) (hk : k < s.size) : (Lib.bytesWorld w e s).cell? ⟨w.heap.size, k, none⟩ = some (.int .u8 s[k].toNat) := by
  rw [Lib.bytesWorld_cell w e s k hk]
  have hk' : k < s.data.toList.length := hk
  simp only [List.getD, List.getElem?_eq_getElem hk']
  rfl
theorem cat_one (M : ByteArray) (b : UInt8) : (M ++ (⟨#[b]⟩ : ByteArray)).data.toList = M.data.toList ++ [b] := by simp
def idUp (k : Nat) : Nat → Int := fun i => if i < k then (i : Int) else 0
theorem idUp_step (k : Nat) : upd (idUp k) k (k : Int) = idUp (k + 1) := by
  funext i
  unfold idUp upd
  by_cases e : i = k
  · subst e; simp
  · by_cases h : i < k
    · simp [e, h]; omega
    · have : ¬ i < k + 1 := by omega
      simp [e, h, this]

set_option maxRecDepth 100000 in
set_option maxHeartbeats 4000000 in
theorem rread_any (t : ByteArray) (hs : t.size ≤ maxLen) (w : World) :
    Calls Try.prog 34 #[.string t] w fun e w' => e = .returned (.tuple #[.agg (ints 26 (readOut t.data.toList).1), .agg #[.int .i64 (readOut t.data.toList).2.1, .int .i64 ((readOut t.data.toList).2.2 : Nat)]]) ∧ Below w.heap.size w w' := by
  unfold maxLen at hs
  have HLN : Hid (t.data.toList.length = t.size) := rfl
  go_enter Try.func34, Try.ntmps34
  go_wp2
  rw [zero26]
  go_loopw [14] (fun i W => ∃ k : Nat, k ≤ 26 ∧ i = .int .i64 k ∧ RowAt W (w.heap.size + 1 + 1) 35 (ints 26 (idUp k)) ∧ RowAt W w.heap.size 35 (ints 26 fun _ => 0) ∧ RowAt W (w.heap.size + 1) 26 #[.int .i64 0, .int .i64 0] ∧ Below w.heap.size w W) (fun i _ => (26 - intOf i).toNat)
  case atStart =>
    exact ⟨0, by omega, rfl, RowAt.newAt (by simp), ((RowAt.new w _ _).alloc _).alloc _, (RowAt.newAt (by simp)).alloc _, (((Below.refl _ _).alloc (Nat.le_refl _) _).alloc (by simp) _).alloc (by simp; omega) _⟩
  case round =>
    obtain ⟨k, hk, rfl, hrp, hz, hfl, hb⟩ := hrel
    by_cases hlt : k < 26
    · have hc := hrp.cell (ints_get (idUp k) hlt)
      have hf := hrp.frozen k
      go_wp2
      go_roundw
      case rel =>
        refine ⟨k + 1, by omega, by go_num, ?_, hz.setOther _ _ (by simp; omega), hfl.setOther _ _ (by simp), hb.setCell (by simp; omega) _⟩
        rw [← idUp_step, ← ints_set]
        exact hrp.set k _
      case measure => simp [intOf]; omega
    · have e26 : ints 26 (idUp k) = ints 26 (Pm.up fun i => i) := ints_ext fun i hi => by simp only [idUp, Pm.up]; rw [if_pos (by omega)]
      rw [e26] at hrp
      clear e26
      go_wp2
      clear hk
      generalize hkk : (Value.int .i64 (k : Int)) = vk14
      clear hkk
      go_loopw [6, 7, 8, 9, 10] (fun met op fi la at_ W => ∃ (k : Nat) (M : ByteArray) (F L : Int) (rp : Nat → Int), k ≤ t.size ∧ at_ = .int .i64 k ∧ met = .string M ∧ op = .bool (rdN t.data.toList k).op ∧ fi = .int .i64 F ∧ la = .int .i64 L ∧ Hid (rdErr t.data.toList k = none) ∧ Hid (Sim (rdN t.data.toList k) M.data.toList F L rp) ∧ RowAt W (w.heap.size + 1 + 1) 35 (ints 26 rp) ∧ RowAt W w.heap.size 35 (ints 26 fun _ => 0) ∧ RowAt W (w.heap.size + 1) 26 #[.int .i64 0, .int .i64 0] ∧ Below w.heap.size w W) (fun _ _ _ _ i _ => (t.size - intOf i).toNat)
      case atStart => exact ⟨0, ⟨#[]⟩, -1, -1, Pm.up fun i => i, Nat.zero_le _, rfl, rfl, rfl, rfl, rfl, rfl, sim0, hrp, hz, hfl, hb⟩
      case round =>
        clear hrp hz hfl hb hlt
        obtain ⟨k, M, F, L, rp, hk, rfl, rfl, rfl, rfl, rfl, HN, HSM, hrp, hz, hfl, hb⟩ := hrel
        have hsz := hrp.lt
        by_cases hlt : k < t.size
        · have HB : Hid ((t.data.toList.getD k 0).toNat = t[k].toNat) := by rw [Hid, byteAt t k hlt]
          have HNX : Hid (rdN t.data.toList (k + 1) = (rdN t.data.toList k).next t[k].toNat) := by rw [Hid, ← HB.out]; rfl
          have HZE : Hid ((rdN t.data.toList k).err t[k].toNat = 0 → rdErr t.data.toList (k + 1) = none) := fun h => rdErr_succ _ k HN.out (by rw [HB.out]; exact h)
          have HER : Hid (∀ E, (rdN t.data.toList k).err t[k].toNat = E → E ≠ 0 → readOut t.data.toList = (fun _ => 0, E, k)) := fun E hE h0 => by
            have := rdErr_stop t.data.toList k HN.out (by rw [HB.out, hE]; exact h0) (by rw [HLN.out]; exact hlt)
            rw [HB.out, hE] at this
            rw [readOut, this]
          generalize rdN t.data.toList k = s at *
          have hcb : t[k].toNat < 256 := UInt8.toNat_lt t[k]
          cases ho : s.op
          · have HOP : Hid (s.op = false) := ho
            clear ho
            by_cases e40 : t[k].toNat = 40
            · have hE : s.err t[k].toNat = 0 := by unfold Rd.err; rw [if_pos ⟨HOP.out, e40⟩]
              have hX : s.next t[k].toNat = { s with op := true, long := 0 } := by unfold Rd.next; rw [if_pos ⟨HOP.out, e40⟩]
              rw [hX] at HNX
              have HZ1 := HZE.out hE
              have HZ2 : Hid (rdErr t.data.toList (k + 1) = none) := HZ1
              have t40 : ((t[k].toNat : Int) == 40) = true := by simp; omega
              clear hE hX HZ1 e40 HER HZE hcb
              go_wp2
              go_roundw
              case rel => exact ⟨k + 1, M, -1, L, rp, by omega, by go_num, rfl, by rw [HNX.out], rfl, rfl, HZ2, by rw [HNX.out]; exact HSM.out.opens HOP.out, hrp, hz, hfl, hb⟩
              case measure => simp [intOf]; omega
            · have hE : s.err t[k].toNat = 2 := by unfold Rd.err; rw [if_neg (fun c => e40 c.2), if_neg (by simp [HOP.out]), if_neg (by simp [HOP.out])]
              have HO1 := HER.out 2 hE (by decide)
              have HO : Hid (readOut t.data.toList = (fun _ => 0, 2, k)) := HO1
              have t40 : ((t[k].toNat : Int) == 40) = false := by simp; omega
              clear hE HO1 e40 HER HZE hcb
              go_wp2_with (first
                | refine wpList_build0 rfl 35 rfl _ built_perm ?_
                | refine wpList_store_row rfl 35 _ _ rfl w.heap.size (ints 26 fun _ => 0) rfl rfl 35 _ hz (by rw [ints_size]; exact info_perm) (by simp only [ints_size]) (ints_one _ _) ?_
                | refine wpList_store_row rfl 26 _ _ rfl (w.heap.size + 1) #[.int .i64 2, .int .i64 (k : Int)] rfl rfl 26 _ (hfl.rowOther _ _ (by omega)) info_fault rfl (two_one _ _) ?_)
              rw [HO.out]
              exact bodyPost_ret (v := .tuple #[.agg (ints 26 fun _ => 0), .agg #[.int .i64 2, .int .i64 (k : Int)]]) (results_cells2 rfl _ _ w.heap.size (w.heap.size + 1) 35 26 _ _ (0, 0) (0, 0) _ _ rfl rfl ((hz.row _).rowOther _ _ (by omega)) ((hfl.rowOther _ _ (by omega)).row _) Try.underlying35 rfl (by rw [ints_size]; exact info_perm) Try.underlying26 rfl info_fault) rfl ⟨rfl, Below.setRow (Below.setRow hb _ (Nat.le_refl _) _) _ (by omega) _⟩
          · have HOP : Hid (s.op = true) := ho
            clear ho
            have hF := HSM.out.f HOP.out
            by_cases hl : s.long = 0
            · rw [if_pos hl] at hF
              subst hF
              by_cases hlet : 65 ≤ t[k].toNat ∧ t[k].toNat ≤ 90
              · skip
                have HOF : Hid (s.st (t[k].toNat - 65) = true → readOut t.data.toList = (fun _ => 0, 8, k)) := fun hst => HER.out 8 (by unfold Rd.err; rw [if_neg (by simp [HOP.out]), if_neg (by omega), if_pos ⟨HOP.out, hlet⟩, Rd.errL, if_pos hst]) (by decide)
                have HOK : Hid (s.st (t[k].toNat - 65) = false → rdErr t.data.toList (k + 1) = none ∧ rdN t.data.toList (k + 1) = s.letter (t[k].toNat - 65)) := fun hst =>
                  ⟨HZE.out (by unfold Rd.err; rw [if_neg (by simp [HOP.out]), if_neg (by omega), if_pos ⟨HOP.out, hlet⟩, Rd.errL, if_neg (by simp [hst])]), HNX.out.trans (by unfold Rd.next; rw [if_neg (by simp [HOP.out]), if_neg (by omega), if_pos ⟨HOP.out, hlet⟩, Rd.nextL, if_neg (by simp [hst])])⟩
                have t41 : ((t[k].toNat : Int) == 41) = false := by simp; omega
                have c1 : (65 : Int) ≤ (t[k].toNat : Int) := by omega
                have c2 : (t[k].toNat : Int) ≤ 90 := by omega
                have HLT : Hid (65 ≤ t[k].toNat ∧ t[k].toNat ≤ 90) := hlet
                clear hlet HER HZE HNX
                have hcv := fun w => Lib.run_convert_string_bytes (P := Try.prog) w 9 51 5 M Try.underlying9 Try.underlying51 Try.underlying5
                go_wp2
                have hbel : Below wr.heap.size wr (Lib.bytesWorld wr 5 M) := below_bytes wr (Nat.le_refl _) 5 M
                have HC : Hid (∀ j (hj : j < M.size), (Lib.bytesWorld wr 5 M).cell? ⟨wr.heap.size, j, none⟩ = some (.int .u8 M[j].toNat)) := fun j hj => bytes_cell wr 5 M j hj
                clear hcv
                generalize Lib.bytesWorld wr 5 M = W0 at hbel HC
                have hcap : M.size ≤ grownCap wr M.size 0 5 := grownCap_ge _ _ _ _
                generalize grownCap wr M.size 0 5 = cap at hcap
                have hrp0 := hrp.below hbel hrp.lt
                have hz0 := hz.below hbel hz.lt
                have hfl0 := hfl.below hbel hfl.lt
                have hb0 := hb.trans (hbel.mono (by omega))
                have hsz0 := hbel.size
                have hml : M.size ≤ 26 := HSM.out.mlen
                clear hrp hz hfl hb hbel
                go_loop [64] (fun i => ∃ m : Nat, m ≤ M.size ∧ i = .int .i64 m ∧ Hid (∀ j (_ : j < m) (hj : j < M.size), M[j] ≠ t[k])) (fun i => M.size - (intOf i).toNat)
                case atStart => exact ⟨0, Nat.zero_le _, rfl, fun j hj => by omega⟩
                case round =>
                  obtain ⟨m, hm, rfl, HA⟩ := hrel
                  by_cases hlm : m < M.size
                  · have hcell := HC.out m hlm
                    cases he : ((M[m].toNat : Int) == (t[k].toNat : Int))
                    · have hne : M[m] ≠ t[k] := fun e => by rw [e] at he; simp at he
                      have HNE : Hid (M[m] ≠ t[k]) := hne
                      clear hne
                      go_wp2
                      exact ⟨⟨m + 1, by omega, by go_num, fun j hj hjM => by
                        by_cases e : j = m
                        · subst e; exact HNE.out
                        · exact HA.out j (by omega) hjM⟩, by simp [intOf]; omega⟩
                    · have hmem : s.st (t[k].toNat - 65) = true := by
                        have h8 : M[m] = t[k] := UInt8.toNat_inj.1 (by have := eq_of_beq he; omega)
                        have h9 : lb (t[k].toNat - 65) = t[k] := UInt8.toNat_inj.1 (by rw [lb_toNat _ (by have := HLT.out; omega)]; have := HLT.out; omega)
                        refine (HSM.out.m _ (by have := HLT.out; omega)).2 ?_
                        rw [h9, ← h8]
                        exact List.getElem_mem (l := M.data.toList) hlm
                      have HO1 := HOF.out hmem
                      have HO : Hid (readOut t.data.toList = (fun _ => 0, 8, k)) := HO1
                      clear HO1 hmem HOF HOK
                      go_wp2_with (first
                        | refine wpList_build0 rfl 35 rfl _ built_perm ?_
                        | refine wpList_store_row rfl 35 _ _ rfl w.heap.size (ints 26 fun _ => 0) rfl rfl 35 _ hz0 (by rw [ints_size]; exact info_perm) (by simp only [ints_size]) (ints_one _ _) ?_
                        | refine wpList_store_row rfl 26 _ _ rfl (w.heap.size + 1) #[.int .i64 8, .int .i64 (k : Int)] rfl rfl 26 _ (hfl0.rowOther _ _ (by omega)) info_fault rfl (two_one _ _) ?_)
                      rw [HO.out]
                      exact bodyPost_ret (v := .tuple #[.agg (ints 26 fun _ => 0), .agg #[.int .i64 8, .int .i64 (k : Int)]]) (results_cells2 rfl _ _ w.heap.size (w.heap.size + 1) 35 26 _ _ (0, 0) (0, 0) _ _ rfl rfl ((hz0.row _).rowOther _ _ (by omega)) ((hfl0.rowOther _ _ (by omega)).row _) Try.underlying35 rfl (by rw [ints_size]; exact info_perm) Try.underlying26 rfl info_fault) rfl ⟨rfl, Below.setRow (Below.setRow hb0 _ (Nat.le_refl _) _) _ (by omega) _⟩
                  · have hst : s.st (t[k].toNat - 65) = false := by
                      have h9 : lb (t[k].toNat - 65) = t[k] := UInt8.toNat_inj.1 (by rw [lb_toNat _ (by have := HLT.out; omega)]; have := HLT.out; omega)
                      cases h10 : s.st (t[k].toNat - 65) with
                      | false => rfl
                      | true =>
                        have h11 := (HSM.out.m _ (by have := HLT.out; omega)).1 h10
                        rw [h9] at h11
                        obtain ⟨j, hj, e⟩ := List.getElem_of_mem h11
                        exact absurd e (HA.out j (by have : j < M.size := hj; omega) hj)
                    obtain ⟨hz1, hn1⟩ := HOK.out hst
                    obtain ⟨x, hx⟩ : ∃ x, x = t[k].toNat - 65 := ⟨_, rfl⟩
                    have hx26 : x < 26 := by have := HLT.out; omega
                    have HX : Hid ((t[k].toNat : Int) - 65 = (x : Int)) := by have := HLT.out; rw [Hid]; omega
                    have HLB : Hid ([t[k]] = [lb x]) := by
                      rw [Hid, hx]
                      exact congrArg (fun b => [b]) (UInt8.toNat_inj.1 (by rw [lb_toNat _ (by have := HLT.out; omega)]; have := HLT.out; omega)).symm
                    rw [← hx] at hst hn1
                    have HST : Hid (s.st x = false) := hst
                    have HNX : Hid (rdN t.data.toList (k + 1) = s.letter x) := hn1
                    have HZ2 : Hid (rdErr t.data.toList (k + 1) = none) := hz1
                    clear hst hn1 hz1 hx HOF HOK HA HC
                    have hrpA := hrp0.alloc (.cells #[.int .u8 (t[k].toNat : Int)] 5)
                    have hzA := hz0.alloc (.cells #[.int .u8 (t[k].toNat : Int)] 5)
                    have hflA := hfl0.alloc (.cells #[.int .u8 (t[k].toNat : Int)] 5)
                    have hbA := hb0.alloc (by omega) (.cells #[.int .u8 (t[k].toNat : Int)] 5)
                    have hownb : BKit.Owns (W0.alloc (.cells #[.int .u8 (t[k].toNat : Int)] 5)) W0.heap.size 5 (.slice (some ⟨W0.heap.size, 0, none⟩) 1 1) [t[k]] :=
                      ⟨rfl, .inr ⟨W0.heap.size, 1, #[.int .u8 (t[k].toNat : Int)], rfl, Nat.le_refl _, RowAt.new _ _ _, Nat.le_refl _, by decide, rfl, rfl⟩⟩
                    have hcs := BKit.run_string_of_own (P := Try.prog) (W0.alloc (.cells #[.int .u8 (t[k].toNat : Int)] 5)) 51 9 5 Try.underlying51 Try.underlying5 Try.underlying9 hownb
                    clear hrp0 hz0 hfl0 hb0 hownb
                    go_wp2
                    refine ⟨⟨k + 1, M ++ ⟨#[t[k]]⟩, ((x : Nat) : Int), ((x : Nat) : Int), rp, by omega, by go_num, rfl, by rw [HNX.out]; exact congrArg Value.bool HOP.out.symm, by rw [HX.out], by rw [HX.out], HZ2, ?_, hrpA, hzA, hflA, hbA⟩, by simp [intOf]; omega⟩
                    rw [Hid, HNX.out, cat_one, HLB.out]
                    exact (HSM.out.letter HOP.out x hx26 HST.out).1 hl
              · skip
                have hE : s.err t[k].toNat = 2 := by unfold Rd.err; rw [if_neg (by simp [HOP.out]), if_neg (by omega), if_neg (fun c => hlet c.2)]
                have HO1 := HER.out 2 hE (by decide)
                have HO : Hid (readOut t.data.toList = (fun _ => 0, 2, k)) := HO1
                clear hE HO1 HER HZE
                by_cases e41 : t[k].toNat = 41
                · have t41 : ((t[k].toNat : Int) == 41) = true := by simp; omega
                  have c0 : ((t[k].toNat : Int) < 65) := by omega
                  clear hlet e41
                  go_wp2_with (first
                    | refine wpList_build0 rfl 35 rfl _ built_perm ?_
                    | refine wpList_store_row rfl 35 _ _ rfl w.heap.size (ints 26 fun _ => 0) rfl rfl 35 _ hz (by rw [ints_size]; exact info_perm) (by simp only [ints_size]) (ints_one _ _) ?_
                    | refine wpList_store_row rfl 26 _ _ rfl (w.heap.size + 1) #[.int .i64 2, .int .i64 (k : Int)] rfl rfl 26 _ (hfl.rowOther _ _ (by omega)) info_fault rfl (two_one _ _) ?_)
                  rw [HO.out]
                  exact bodyPost_ret (v := .tuple #[.agg (ints 26 fun _ => 0), .agg #[.int .i64 2, .int .i64 (k : Int)]]) (results_cells2 rfl _ _ w.heap.size (w.heap.size + 1) 35 26 _ _ (0, 0) (0, 0) _ _ rfl rfl ((hz.row _).rowOther _ _ (by omega)) ((hfl.rowOther _ _ (by omega)).row _) Try.underlying35 rfl (by rw [ints_size]; exact info_perm) Try.underlying26 rfl info_fault) rfl ⟨rfl, Below.setRow (Below.setRow hb _ (Nat.le_refl _) _) _ (by omega) _⟩
                · have t41 : ((t[k].toNat : Int) == 41) = false := by simp; omega
                  have hq : (t[k].toNat : Int) < 65 ∨ (¬ ((t[k].toNat : Int) < 65) ∧ (90 : Int) < (t[k].toNat : Int)) := by omega
                  clear hlet e41
                  rcases hq with c0 | ⟨c0, c1⟩
                  · skip
                    go_wp2_with (first
                      | refine wpList_build0 rfl 35 rfl _ built_perm ?_
                      | refine wpList_store_row rfl 35 _ _ rfl w.heap.size (ints 26 fun _ => 0) rfl rfl 35 _ hz (by rw [ints_size]; exact info_perm) (by simp only [ints_size]) (ints_one _ _) ?_
                      | refine wpList_store_row rfl 26 _ _ rfl (w.heap.size + 1) #[.int .i64 2, .int .i64 (k : Int)] rfl rfl 26 _ (hfl.rowOther _ _ (by omega)) info_fault rfl (two_one _ _) ?_)
                    rw [HO.out]
                    exact bodyPost_ret (v := .tuple #[.agg (ints 26 fun _ => 0), .agg #[.int .i64 2, .int .i64 (k : Int)]]) (results_cells2 rfl _ _ w.heap.size (w.heap.size + 1) 35 26 _ _ (0, 0) (0, 0) _ _ rfl rfl ((hz.row _).rowOther _ _ (by omega)) ((hfl.rowOther _ _ (by omega)).row _) Try.underlying35 rfl (by rw [ints_size]; exact info_perm) Try.underlying26 rfl info_fault) rfl ⟨rfl, Below.setRow (Below.setRow hb _ (Nat.le_refl _) _) _ (by omega) _⟩
                  · skip
                    go_wp2_with (first
                      | refine wpList_build0 rfl 35 rfl _ built_perm ?_
                      | refine wpList_store_row rfl 35 _ _ rfl w.heap.size (ints 26 fun _ => 0) rfl rfl 35 _ hz (by rw [ints_size]; exact info_perm) (by simp only [ints_size]) (ints_one _ _) ?_
                      | refine wpList_store_row rfl 26 _ _ rfl (w.heap.size + 1) #[.int .i64 2, .int .i64 (k : Int)] rfl rfl 26 _ (hfl.rowOther _ _ (by omega)) info_fault rfl (two_one _ _) ?_)
                    rw [HO.out]
                    exact bodyPost_ret (v := .tuple #[.agg (ints 26 fun _ => 0), .agg #[.int .i64 2, .int .i64 (k : Int)]]) (results_cells2 rfl _ _ w.heap.size (w.heap.size + 1) 35 26 _ _ (0, 0) (0, 0) _ _ rfl rfl ((hz.row _).rowOther _ _ (by omega)) ((hfl.rowOther _ _ (by omega)).row _) Try.underlying35 rfl (by rw [ints_size]; exact info_perm) Try.underlying26 rfl info_fault) rfl ⟨rfl, Below.setRow (Below.setRow hb _ (Nat.le_refl _) _) _ (by omega) _⟩
            · rw [if_neg hl] at hF
              subst hF
              have hL := HSM.out.l HOP.out (by omega)
              subst hL
              have hlast := (HSM.out.lt HOP.out (by omega)).1
              by_cases e41 : t[k].toNat = 41
              · have hE : s.err t[k].toNat = 0 := by unfold Rd.err; rw [if_neg (by simp [HOP.out]), if_pos ⟨HOP.out, by omega, e41⟩]
                have hX : s.next t[k].toNat = { s with op := false } := by unfold Rd.next; rw [if_neg (by simp [HOP.out]), if_pos ⟨HOP.out, by omega, e41⟩]
                rw [hX] at HNX
                have HZ1 := HZE.out hE
                have HZ2 : Hid (rdErr t.data.toList (k + 1) = none) := HZ1
                have t41 : ((t[k].toNat : Int) == 41) = true := by simp; omega
                have hcl := hrp.cell (ints_get rp hlast)
                have hfr := hrp.frozen s.last
                clear hE hX HZ1 e41 HER HZE
                go_wp2
                go_roundw
                case rel =>
                  refine ⟨k + 1, M, (s.first : Int), (s.last : Int), upd rp s.last (s.first : Int), by omega, by go_num, rfl, by rw [HNX.out], rfl, rfl, HZ2, ?_, ?_, hz.setOther _ _ (by simp; omega), hfl.setOther _ _ (by simp), hb.setCell (by simp; omega) _⟩
                  · rw [Hid, HNX.out]
                    exact HSM.out.closes HOP.out (by omega)
                  · rw [← ints_set]
                    exact hrp.set s.last _
                case measure => simp [intOf]; omega
              · by_cases hlet : 65 ≤ t[k].toNat ∧ t[k].toNat ≤ 90
                · skip
                  have HOF : Hid (s.st (t[k].toNat - 65) = true → readOut t.data.toList = (fun _ => 0, 8, k)) := fun hst => HER.out 8 (by unfold Rd.err; rw [if_neg (by simp [HOP.out]), if_neg (by omega), if_pos ⟨HOP.out, hlet⟩, Rd.errL, if_pos hst]) (by decide)
                  have HOK : Hid (s.st (t[k].toNat - 65) = false → rdErr t.data.toList (k + 1) = none ∧ rdN t.data.toList (k + 1) = s.letter (t[k].toNat - 65)) := fun hst =>
                    ⟨HZE.out (by unfold Rd.err; rw [if_neg (by simp [HOP.out]), if_neg (by omega), if_pos ⟨HOP.out, hlet⟩, Rd.errL, if_neg (by simp [hst])]), HNX.out.trans (by unfold Rd.next; rw [if_neg (by simp [HOP.out]), if_neg (by omega), if_pos ⟨HOP.out, hlet⟩, Rd.nextL, if_neg (by simp [hst])])⟩
                  have t41 : ((t[k].toNat : Int) == 41) = false := by simp; omega
                  have c1 : (65 : Int) ≤ (t[k].toNat : Int) := by omega
                  have c2 : (t[k].toNat : Int) ≤ 90 := by omega
                  have HLT : Hid (65 ≤ t[k].toNat ∧ t[k].toNat ≤ 90) := hlet
                  clear hlet HER HZE HNX
                  have hcv := fun w => Lib.run_convert_string_bytes (P := Try.prog) w 9 51 5 M Try.underlying9 Try.underlying51 Try.underlying5
                  go_wp2
                  have hbel : Below wr.heap.size wr (Lib.bytesWorld wr 5 M) := below_bytes wr (Nat.le_refl _) 5 M
                  have HC : Hid (∀ j (hj : j < M.size), (Lib.bytesWorld wr 5 M).cell? ⟨wr.heap.size, j, none⟩ = some (.int .u8 M[j].toNat)) := fun j hj => bytes_cell wr 5 M j hj
                  clear hcv
                  generalize Lib.bytesWorld wr 5 M = W0 at hbel HC
                  have hcap : M.size ≤ grownCap wr M.size 0 5 := grownCap_ge _ _ _ _
                  generalize grownCap wr M.size 0 5 = cap at hcap
                  have hrp0 := hrp.below hbel hrp.lt
                  have hz0 := hz.below hbel hz.lt
                  have hfl0 := hfl.below hbel hfl.lt
                  have hb0 := hb.trans (hbel.mono (by omega))
                  have hsz0 := hbel.size
                  have hml : M.size ≤ 26 := HSM.out.mlen
                  clear hrp hz hfl hb hbel
                  go_loop [64] (fun i => ∃ m : Nat, m ≤ M.size ∧ i = .int .i64 m ∧ Hid (∀ j (_ : j < m) (hj : j < M.size), M[j] ≠ t[k])) (fun i => M.size - (intOf i).toNat)
                  case atStart => exact ⟨0, Nat.zero_le _, rfl, fun j hj => by omega⟩
                  case round =>
                    obtain ⟨m, hm, rfl, HA⟩ := hrel
                    by_cases hlm : m < M.size
                    · have hcell := HC.out m hlm
                      cases he : ((M[m].toNat : Int) == (t[k].toNat : Int))
                      · have hne : M[m] ≠ t[k] := fun e => by rw [e] at he; simp at he
                        have HNE : Hid (M[m] ≠ t[k]) := hne
                        clear hne
                        go_wp2
                        exact ⟨⟨m + 1, by omega, by go_num, fun j hj hjM => by
                          by_cases e : j = m
                          · subst e; exact HNE.out
                          · exact HA.out j (by omega) hjM⟩, by simp [intOf]; omega⟩
                      · have hmem : s.st (t[k].toNat - 65) = true := by
                          have h8 : M[m] = t[k] := UInt8.toNat_inj.1 (by have := eq_of_beq he; omega)
                          have h9 : lb (t[k].toNat - 65) = t[k] := UInt8.toNat_inj.1 (by rw [lb_toNat _ (by have := HLT.out; omega)]; have := HLT.out; omega)
                          refine (HSM.out.m _ (by have := HLT.out; omega)).2 ?_
                          rw [h9, ← h8]
                          exact List.getElem_mem (l := M.data.toList) hlm
                        have HO1 := HOF.out hmem
                        have HO : Hid (readOut t.data.toList = (fun _ => 0, 8, k)) := HO1
                        clear HO1 hmem HOF HOK
                        go_wp2_with (first
                          | refine wpList_build0 rfl 35 rfl _ built_perm ?_
                          | refine wpList_store_row rfl 35 _ _ rfl w.heap.size (ints 26 fun _ => 0) rfl rfl 35 _ hz0 (by rw [ints_size]; exact info_perm) (by simp only [ints_size]) (ints_one _ _) ?_
                          | refine wpList_store_row rfl 26 _ _ rfl (w.heap.size + 1) #[.int .i64 8, .int .i64 (k : Int)] rfl rfl 26 _ (hfl0.rowOther _ _ (by omega)) info_fault rfl (two_one _ _) ?_)
                        rw [HO.out]
                        exact bodyPost_ret (v := .tuple #[.agg (ints 26 fun _ => 0), .agg #[.int .i64 8, .int .i64 (k : Int)]]) (results_cells2 rfl _ _ w.heap.size (w.heap.size + 1) 35 26 _ _ (0, 0) (0, 0) _ _ rfl rfl ((hz0.row _).rowOther _ _ (by omega)) ((hfl0.rowOther _ _ (by omega)).row _) Try.underlying35 rfl (by rw [ints_size]; exact info_perm) Try.underlying26 rfl info_fault) rfl ⟨rfl, Below.setRow (Below.setRow hb0 _ (Nat.le_refl _) _) _ (by omega) _⟩
                    · have hst : s.st (t[k].toNat - 65) = false := by
                        have h9 : lb (t[k].toNat - 65) = t[k] := UInt8.toNat_inj.1 (by rw [lb_toNat _ (by have := HLT.out; omega)]; have := HLT.out; omega)
                        cases h10 : s.st (t[k].toNat - 65) with
                        | false => rfl
                        | true =>
                          have h11 := (HSM.out.m _ (by have := HLT.out; omega)).1 h10
                          rw [h9] at h11
                          obtain ⟨j, hj, e⟩ := List.getElem_of_mem h11
                          exact absurd e (HA.out j (by have : j < M.size := hj; omega) hj)
                      obtain ⟨hz1, hn1⟩ := HOK.out hst
                      obtain ⟨x, hx⟩ : ∃ x, x = t[k].toNat - 65 := ⟨_, rfl⟩
                      have hx26 : x < 26 := by have := HLT.out; omega
                      have HX : Hid ((t[k].toNat : Int) - 65 = (x : Int)) := by have := HLT.out; rw [Hid]; omega
                      have HLB : Hid ([t[k]] = [lb x]) := by
                        rw [Hid, hx]
                        exact congrArg (fun b => [b]) (UInt8.toNat_inj.1 (by rw [lb_toNat _ (by have := HLT.out; omega)]; have := HLT.out; omega)).symm
                      rw [← hx] at hst hn1
                      have HST : Hid (s.st x = false) := hst
                      have HNX : Hid (rdN t.data.toList (k + 1) = s.letter x) := hn1
                      have HZ2 : Hid (rdErr t.data.toList (k + 1) = none) := hz1
                      clear hst hn1 hz1 hx HOF HOK HA HC
                      have hrpA := hrp0.alloc (.cells #[.int .u8 (t[k].toNat : Int)] 5)
                      have hzA := hz0.alloc (.cells #[.int .u8 (t[k].toNat : Int)] 5)
                      have hflA := hfl0.alloc (.cells #[.int .u8 (t[k].toNat : Int)] 5)
                      have hbA := hb0.alloc (by omega) (.cells #[.int .u8 (t[k].toNat : Int)] 5)
                      have hownb : BKit.Owns (W0.alloc (.cells #[.int .u8 (t[k].toNat : Int)] 5)) W0.heap.size 5 (.slice (some ⟨W0.heap.size, 0, none⟩) 1 1) [t[k]] :=
                        ⟨rfl, .inr ⟨W0.heap.size, 1, #[.int .u8 (t[k].toNat : Int)], rfl, Nat.le_refl _, RowAt.new _ _ _, Nat.le_refl _, by decide, rfl, rfl⟩⟩
                      have hcs := BKit.run_string_of_own (P := Try.prog) (W0.alloc (.cells #[.int .u8 (t[k].toNat : Int)] 5)) 51 9 5 Try.underlying51 Try.underlying5 Try.underlying9 hownb
                      clear hrp0 hz0 hfl0 hb0 hownb
                      have hcl := hrpA.cell (ints_get rp hlast)
                      have hfr := hrpA.frozen s.last
                      go_wp2
                      refine ⟨⟨k + 1, M ++ ⟨#[t[k]]⟩, (s.first : Int), ((x : Nat) : Int), upd rp s.last ((x : Nat) : Int), by omega, by go_num, rfl, by rw [HNX.out]; exact congrArg Value.bool HOP.out.symm, rfl, by rw [HX.out], HZ2, ?_, ?_, hzA.setOther _ _ (by simp; omega), hflA.setOther _ _ (by simp), hbA.setCell (by simp; omega) _⟩, by simp [intOf]; omega⟩
                      · rw [Hid, HNX.out, cat_one, HLB.out]
                        exact (HSM.out.letter HOP.out x hx26 HST.out).2 (by omega)
                      · rw [← ints_set, ← HX.out]
                        exact hrpA.set s.last _
                · skip
                  have hE : s.err t[k].toNat = 2 := by unfold Rd.err; rw [if_neg (by simp [HOP.out]), if_neg (fun c => e41 c.2.2), if_neg (fun c => hlet c.2)]
                  have HO1 := HER.out 2 hE (by decide)
                  have HO : Hid (readOut t.data.toList = (fun _ => 0, 2, k)) := HO1
                  clear hE HO1 HER HZE
                  have t41 : ((t[k].toNat : Int) == 41) = false := by simp; omega
                  have hq : (t[k].toNat : Int) < 65 ∨ (¬ ((t[k].toNat : Int) < 65) ∧ (90 : Int) < (t[k].toNat : Int)) := by omega
                  clear hlet e41
                  rcases hq with c0 | ⟨c0, c1⟩
                  · skip
                    go_wp2_with (first
                      | refine wpList_build0 rfl 35 rfl _ built_perm ?_
                      | refine wpList_store_row rfl 35 _ _ rfl w.heap.size (ints 26 fun _ => 0) rfl rfl 35 _ hz (by rw [ints_size]; exact info_perm) (by simp only [ints_size]) (ints_one _ _) ?_
                      | refine wpList_store_row rfl 26 _ _ rfl (w.heap.size + 1) #[.int .i64 2, .int .i64 (k : Int)] rfl rfl 26 _ (hfl.rowOther _ _ (by omega)) info_fault rfl (two_one _ _) ?_)
                    rw [HO.out]
                    exact bodyPost_ret (v := .tuple #[.agg (ints 26 fun _ => 0), .agg #[.int .i64 2, .int .i64 (k : Int)]]) (results_cells2 rfl _ _ w.heap.size (w.heap.size + 1) 35 26 _ _ (0, 0) (0, 0) _ _ rfl rfl ((hz.row _).rowOther _ _ (by omega)) ((hfl.rowOther _ _ (by omega)).row _) Try.underlying35 rfl (by rw [ints_size]; exact info_perm) Try.underlying26 rfl info_fault) rfl ⟨rfl, Below.setRow (Below.setRow hb _ (Nat.le_refl _) _) _ (by omega) _⟩
                  · skip
                    go_wp2_with (first
                      | refine wpList_build0 rfl 35 rfl _ built_perm ?_
                      | refine wpList_store_row rfl 35 _ _ rfl w.heap.size (ints 26 fun _ => 0) rfl rfl 35 _ hz (by rw [ints_size]; exact info_perm) (by simp only [ints_size]) (ints_one _ _) ?_
                      | refine wpList_store_row rfl 26 _ _ rfl (w.heap.size + 1) #[.int .i64 2, .int .i64 (k : Int)] rfl rfl 26 _ (hfl.rowOther _ _ (by omega)) info_fault rfl (two_one _ _) ?_)
                    rw [HO.out]
                    exact bodyPost_ret (v := .tuple #[.agg (ints 26 fun _ => 0), .agg #[.int .i64 2, .int .i64 (k : Int)]]) (results_cells2 rfl _ _ w.heap.size (w.heap.size + 1) 35 26 _ _ (0, 0) (0, 0) _ _ rfl rfl ((hz.row _).rowOther _ _ (by omega)) ((hfl.rowOther _ _ (by omega)).row _) Try.underlying35 rfl (by rw [ints_size]; exact info_perm) Try.underlying26 rfl info_fault) rfl ⟨rfl, Below.setRow (Below.setRow hb _ (Nat.le_refl _) _) _ (by omega) _⟩
        · have HK : Hid (k = t.size) := by rw [Hid]; omega
          cases ho : (rdN t.data.toList k).op
          · have HO : Hid (readOut t.data.toList = (Pm.up (rdN t.data.toList k).p, 0, 0)) := by
              have e1 : t.data.toList.length = k := HLN.out.trans HK.out.symm
              rw [Hid, readOut, e1, HN.out]
              simp [ho]
            have erp : ints 26 rp = ints 26 (Pm.up (rdN t.data.toList k).p) := ints_ext fun x hx => by
              rw [HSM.out.rp x hx]
              simp [ho, Pm.up]
            rw [erp] at hrp
            clear ho erp
            go_wp2_with (first
              | refine load_perm rfl _ rfl _ rfl _ hrp ?_
              | refine wpList_store_row rfl 35 _ _ rfl w.heap.size (ints 26 (Pm.up (rdN t.data.toList k).p)) rfl rfl 35 _ hz (by rw [ints_size]; exact info_perm) (by simp only [ints_size]) (ints_one _ _) ?_
              | refine wpList_store_row rfl 26 _ _ rfl (w.heap.size + 1) #[.int .i64 0, .int .i64 0] rfl rfl 26 _ (hfl.rowOther _ _ (by omega)) info_fault rfl (two_one _ _) ?_)
            rw [HO.out]
            exact bodyPost_ret (v := .tuple #[.agg (ints 26 (Pm.up (rdN t.data.toList k).p)), .agg #[.int .i64 0, .int .i64 0]]) (results_cells2 rfl _ _ w.heap.size (w.heap.size + 1) 35 26 _ _ (0, 0) (0, 0) _ _ rfl rfl ((hz.row _).rowOther _ _ (by omega)) ((hfl.rowOther _ _ (by omega)).row _) Try.underlying35 rfl (by rw [ints_size]; exact info_perm) Try.underlying26 rfl info_fault) rfl ⟨rfl, Below.setRow (Below.setRow hb _ (Nat.le_refl _) _) _ (by omega) _⟩
          · have HO : Hid (readOut t.data.toList = (fun _ => 0, 2, t.size)) := by
              have e1 : t.data.toList.length = k := HLN.out.trans HK.out.symm
              rw [Hid, readOut, e1, HN.out]
              simp [ho]
              exact HK.out
            clear ho
            go_wp2_with (first
              | refine wpList_build0 rfl 35 rfl _ built_perm ?_
              | refine wpList_store_row rfl 35 _ _ rfl w.heap.size (ints 26 fun _ => 0) rfl rfl 35 _ hz (by rw [ints_size]; exact info_perm) (by simp only [ints_size]) (ints_one _ _) ?_
              | refine wpList_store_row rfl 26 _ _ rfl (w.heap.size + 1) #[.int .i64 2, .int .i64 (t.size : Int)] rfl rfl 26 _ (hfl.rowOther _ _ (by omega)) info_fault rfl (two_one _ _) ?_)
            rw [HO.out]
            exact bodyPost_ret (v := .tuple #[.agg (ints 26 fun _ => 0), .agg #[.int .i64 2, .int .i64 (t.size : Int)]]) (results_cells2 rfl _ _ w.heap.size (w.heap.size + 1) 35 26 _ _ (0, 0) (0, 0) _ _ rfl rfl ((hz.row _).rowOther _ _ (by omega)) ((hfl.rowOther _ _ (by omega)).row _) Try.underlying35 rfl (by rw [ints_size]; exact info_perm) Try.underlying26 rfl info_fault) rfl ⟨rfl, Below.setRow (Below.setRow hb _ (Nat.le_refl _) _) _ (by omega) _⟩
end Go.Proofs.Ytphlnfmpbbefnaa
