/-
  Contract of the document's From.
-/
import Derived.Test.YtmabamlhhmjbaadZRWr
namespace Go.Proofs.Ytmabamlhhmjbaad
open Go.RowKit PK Vg Zq

theorem enc_iff {L : List UInt8} (hL : Sq L) {a b c d : UInt8} (ha : a ∈ L) (hb : b ∈ L) (hab : a ≠ b) (hc : c ∈ L) (hd : d ∈ L) (hcd : c ≠ d) : enc L a b = (c, d) ↔ a = (dec L c d).1 ∧ b = (dec L c d).2 := by
  constructor
  · intro e
    have h := (enc_ok hL ha hb hab).2.2.2.2.2.1
    rw [e] at h
    rw [h]
    exact ⟨rfl, rfl⟩
  · rintro ⟨e1, e2⟩
    rw [e1, e2]
    exact (dec_ok hL hc hd hcd).2.2.2
theorem two_str {a b c d : UInt8} : (⟨#[a, b]⟩ : ByteArray) = ⟨#[c, d]⟩ ↔ a = c ∧ b = d := by simp
set_option maxRecDepth 100000 in
set_option maxHeartbeats 4000000 in
theorem rfrom_any (sv : Value) (L : List UInt8) (hL : Sq L) (c d : UInt8) (hc : c ∈ L) (hd : d ∈ L) (hcd : c ≠ d) (T : ByteArray) (hT : T = ⟨#[c, d]⟩) (w : World) (h : BtsAt w sv L) : Calls Try.prog 45 #[sv, .string T] w fun e w' => e = .returned (.string ⟨#[(dec L c d).1, (dec L c d).2]⟩) ∧ Below w.heap.size w w' := by
  have hdk := dec_ok hL hc hd hcd
  have HEN : Hid (∀ a b, a ∈ L → b ∈ L → a ≠ b → ((⟨#[(enc L a b).1, (enc L a b).2]⟩ : ByteArray) = T ↔ a = (dec L c d).1 ∧ b = (dec L c d).2)) := fun a b ha hb hab => by
    rw [hT, two_str, ← enc_iff hL ha hb hab hc hd hcd, Prod.ext_iff]
  have hia := hL.at_lt hdk.1
  have hib := hL.at_lt hdk.2.1
  have hga := at_get hdk.1
  have hgb := at_get hdk.2.1
  have hab := hdk.2.2.1
  have hnd := hL.nodup
  obtain ⟨bk, o, cap, rfl, hcl⟩ := h.form (by rw [hL.len]; omega)
  have HBT : Hid (BtsAt w (.slice (some ⟨bk, o, none⟩) L.length cap) L) := h
  rw [hL.len] at HBT hcl ⊢
  have HC : Hid (∀ j, j < 25 → w.cell? ⟨bk, o + j, none⟩ = some (.int .u8 (L.getD j 0).toNat)) := hcl
  have HMEM : Hid (∀ j, j < 25 → L.getD j 0 ∈ L ∧ at' L (L.getD j 0) = j) := fun j hj => hL.get hj
  have HL : Hid (Sq L) := hL
  generalize (dec L c d).1 = a0 at *
  generalize (dec L c d).2 = b0 at *
  have HGA : Hid (L.getD (at' L a0) 0 = a0) := hga
  have HGB : Hid (L.getD (at' L b0) 0 = b0) := hgb
  have HUA : Hid (∀ j, j < 25 → L.getD j 0 = a0 → j = at' L a0) := fun j hj e => by rw [← e]; exact ((HMEM.out j hj).2).symm
  have HUB : Hid (∀ j, j < 25 → L.getD j 0 = b0 → j = at' L b0) := fun j hj e => by rw [← e]; exact ((HMEM.out j hj).2).symm
  have HAB : Hid (a0 ≠ b0) := hab
  clear hdk hT hga hgb hcl h hL hc hd hcd hab hnd
  generalize at' L a0 = ia at *
  generalize at' L b0 = ib at *
  go_enter Try.func45, Try.ntmps45
  go_wp2_with fail
  go_loopw [11] (fun i W => ∃ k : Nat, k ≤ ia ∧ i = .int .i64 (k : Nat) ∧ Below w.heap.size w W) (fun i _ => ((25 : Int) - intOf i).toNat)
  case atStart => exact ⟨0, by omega, rfl, Below.refl _ _⟩
  case round =>
    obtain ⟨k, hk, rfl, hbv⟩ := hrel
    have hk25 : k < 25 := by omega
    have hk2 : (k : Int) < 25 := by omega
    have hck := (hbv.cell (p := ⟨bk, o + k, none⟩) (cell_block (HC.out k hk25))).trans (HC.out k hk25)
    have HMA := (HMEM.out k hk25).1
    have HMA2 : Hid (L.getD k 0 ∈ L) := HMA
    clear HMA
    have HKA : Hid (k = ia → L.getD k 0 = a0) := fun e => by rw [e]; exact HGA.out
    have HKU : Hid (L.getD k 0 = a0 → k = ia) := fun e => HUA.out k hk25 e
    generalize L.getD k 0 = a at *
    go_wp2_with fail
    go_loopw [17] (fun j W => ∃ m : Nat, m ≤ 25 ∧ j = .int .i64 (m : Nat) ∧ Hid (k = ia → m ≤ ib) ∧ Below w.heap.size w W) (fun j _ => ((25 : Int) - intOf j).toNat)
    case atStart => exact ⟨0, by omega, rfl, fun _ => by omega, hbv⟩
    case round =>
      clear hck hbv
      obtain ⟨m, hm, rfl, HI, hbv⟩ := hrel
      by_cases hlt : m < 25
      · have hlt2 : (m : Int) < 25 := by omega
        have hck := (hbv.cell (p := ⟨bk, o + m, none⟩) (cell_block (HC.out m hlt))).trans (HC.out m hlt)
        have HMB2 : Hid (L.getD m 0 ∈ L) := (HMEM.out m hlt).1
        have HMB : Hid (m = ib → L.getD m 0 = b0) := fun e => by rw [e]; exact HGB.out
        have HMU : Hid (L.getD m 0 = b0 → m = ib) := fun e => HUB.out m hlt e
        generalize L.getD m 0 = b at *
        by_cases hab : a = b
        · have HN : Hid (k = ia → m + 1 ≤ ib) := fun e => by
            have h1 := HI.out e
            have h2 : m ≠ ib := fun e2 => HAB.out (by rw [← HKA.out e, ← HMB.out e2]; exact hab)
            omega
          subst hab
          go_wp2_with fail
          go_roundw
          case rel => exact ⟨m + 1, by omega, by go_num, HN.out, hbv⟩
          case measure => simp [intOf]; omega
        · have hne : ((a.toNat : Int) != (b.toNat : Int)) = true := by rw [bne_iff_ne]; intro e; exact hab (UInt8.toNat_inj.1 (by omega))
          have HPR := (show Hid (Calls Try.prog 43 #[.slice (some ⟨bk, o, none⟩) 25 cap, .int .u8 a.toNat, .int .u8 b.toNat] wr fun e w' => e = .returned (.string ⟨#[(enc L a b).1, (enc L a b).2]⟩) ∧ Below wr.heap.size wr w') from rpair_any _ L HL.out a b HMA2.out HMB2.out wr (HBT.out.below hbv))
          have HIF := (show Hid _ from HEN.out a b HMA2.out HMB2.out hab)
          generalize (⟨#[(enc L a b).1, (enc L a b).2]⟩ : ByteArray) = S at *
          clear hab
          go_wp2_with fail
          refine HPR.out.mono ?_
          rintro e W1 ⟨rfl, hb1⟩
          have hb2 := hbv.trans (hb1.mono hbv.size)
          by_cases hST : S = T
          · have hs2 := ba_eq hST
            obtain ⟨e1, e2⟩ := HIF.out.1 hST
            have HR : Hid (a = a0 ∧ b = b0) := ⟨e1, e2⟩
            have hst := run_string_of_row (P := Try.prog) (W1.alloc (.cells #[.int .u8 (a.toNat : Int), .int .u8 (b.toNat : Int)] 5)) 43 9 5 Try.underlying43 Try.underlying5 Try.underlying9 (g := W1.heap.size) (n := 2) (cap := 2) (l := [a, b]) rfl (RowAt.new W1 5 _)
            have hb3 := hb2.alloc hb2.size (.cells #[.int .u8 (a.toNat : Int), .int .u8 (b.toNat : Int)] 5)
            clear hST e1 e2 hb1 hb2
            go_wp2
            go_ret
            exact ⟨by rw [← HR.out.1, ← HR.out.2]; rfl, hb3⟩
          · have hs2 := ba_ne hST
            have HN : Hid (k = ia → m + 1 ≤ ib) := fun e => by
              have h1 := HI.out e
              have h2 : m ≠ ib := fun e2 => hST (HIF.out.2 ⟨HKA.out e, HMB.out e2⟩)
              omega
            clear hST hb1
            go_wp2_with fail
            go_roundw
            case rel => exact ⟨m + 1, by omega, by go_num, HN.out, hb2⟩
            case measure => simp [intOf]; omega
      · have HN : Hid (k + 1 ≤ ia) := by
          have h1 : k ≠ ia := fun e => by have := HI.out e; omega
          rw [Hid]
          omega
        go_wp2_with fail
        go_roundw
        case rel => exact ⟨k + 1, HN.out, by go_num, hbv⟩
        case measure => simp [intOf]; omega
end Go.Proofs.Ytmabamlhhmjbaad
