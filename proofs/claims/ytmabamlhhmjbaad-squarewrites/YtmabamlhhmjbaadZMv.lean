/-
  Contract of square.sheet.moved.
-/
import Derived.Test.YtmabamlhhmjbaadZSh
namespace Go.Proofs.Ytmabamlhhmjbaad
open Go.RowKit PK Vg Zq

theorem own_below {w w' : World} {B : Nat} {e : TypeId} {v : Value} {l : List UInt8} (h : Kit.Owns w B e v l) (hb : Below w.heap.size w w') : Kit.Owns w' B e v l :=
  World.ownsRow.kept h (row := none) ⟨hb.os, hb.tape, hb.output, hb.size, fun k hk _ => hb.block k hk⟩ (by cases hv : v.ownBlock <;> simp)
/-- A place's two cells. -/
def plC (n : Nat) : Array Value := #[.int .i64 ((n / 5 : Nat) : Int), .int .i64 ((n % 5 : Nat) : Int)]
/-- What a round has: the bytes it owns, two places. -/
structure MvAt (w W : World) (L : List UInt8) (o : Value) (l : List UInt8) (N M p q : Nat) : Prop where
  own : Kit.Owns W (w.heap.size + 1) 5 o l
  a : RowAt W N 63 (plC p)
  b : RowAt W M 63 (plC q)
  below : Below (w.heap.size + 1) (w.alloc (.cells (shV L) 66)) W
  ne : N ≠ M
  leN : w.heap.size + 1 ≤ N
  leM : w.heap.size + 1 ≤ M
  blk : ∀ k, o.ownBlock = some k → k ≠ N ∧ k ≠ M
theorem mv_start {w W : World} {L : List UInt8} {o : Value} {l : List UInt8} (ho : Kit.Owns W (w.heap.size + 1) 5 o l) (hb : Below (w.heap.size + 1) (w.alloc (.cells (shV L) 66)) W) (W' : World) (hW : Below W.heap.size W W') {N M p q : Nat} (hne : N ≠ M) (h1 : W.heap.size ≤ N) (h2 : W.heap.size ≤ M) (ha : RowAt W' N 63 (plC p)) (hq : RowAt W' M 63 (plC q)) : MvAt w W' L o l N M p q := by
  have hs : w.heap.size + 1 ≤ W.heap.size := by have := hb.size; simpa using this
  exact ⟨own_below ho hW, ha, hq, hb.trans (hW.mono hs), hne, by omega, by omega, fun k hk => by have := (ho.lt k hk).2; omega⟩
theorem MvAt.step {w W W' : World} {L : List UInt8} {o : Value} {l : List UInt8} {N M p q : Nat} (h : MvAt w W L o l N M p q) (hb : Below W.heap.size W W') : MvAt w W' L o l N M p q :=
  ⟨own_below h.own hb, h.a.below hb h.a.lt, h.b.below hb h.b.lt, h.below.trans (hb.mono (by have := h.leN; have := h.a.lt; omega)), h.ne, h.leN, h.leM, h.blk⟩
theorem own_set {w : World} {B : Nat} {e : TypeId} {v : Value} {l : List UInt8} (h : Kit.Owns w B e v l) (a : Addr) (x : Value) (hne : ∀ k, v.ownBlock = some k → k ≠ a.block) : Kit.Owns (w.setCell a x) B e v l := by
  refine World.ownsRow.kept h (row := some a.block) ⟨rfl, rfl, rfl, by simp [World.setCell], fun k hk hk2 => heap_setCell_other w a k x (fun e => hk2 (by rw [e]))⟩ ?_
  cases hv : v.ownBlock with
  | none => exact .inl rfl
  | some k => exact .inr (fun e => hne k hv (Option.some.inj e))
theorem MvAt.set {w W : World} {L : List UInt8} {o : Value} {l : List UInt8} {N M p q : Nat} (h : MvAt w W L o l N M p q) (p' q' : Nat) :
    MvAt w ((((W.setCell ⟨N, 0, none⟩ (.int .i64 ((p' / 5 : Nat) : Int))).setCell ⟨N, 1, none⟩ (.int .i64 ((p' % 5 : Nat) : Int))).setCell ⟨M, 0, none⟩ (.int .i64 ((q' / 5 : Nat) : Int))).setCell ⟨M, 1, none⟩ (.int .i64 ((q' % 5 : Nat) : Int))) L o l N M p' q' := by
  have hb := h.blk
  have hN := h.leN
  have hM := h.leM
  have hne := h.ne
  refine ⟨own_set (own_set (own_set (own_set h.own _ _ ?_) _ _ ?_) _ _ ?_) _ _ ?_, ?_, ?_, ?_, hne, hN, hM, hb⟩
  · intro k hk; exact (hb k hk).1
  · intro k hk; exact (hb k hk).1
  · intro k hk; exact (hb k hk).2
  · intro k hk; exact (hb k hk).2
  · exact (((h.a.set 0 _).set 1 _).setOther _ _ hne).setOther _ _ hne
  · exact (((h.b.setOther _ _ (Ne.symm hne)).setOther _ _ (Ne.symm hne)).set 0 _).set 1 _
  · exact (((h.below.setCell (p := ⟨N, 0, none⟩) hN _).setCell (p := ⟨N, 1, none⟩) hN _).setCell (p := ⟨M, 0, none⟩) hM _).setCell (p := ⟨M, 1, none⟩) hM _
theorem getD_mem {t : ByteArray} {i : Nat} (h : i < t.size) : t.data.toList.getD i 0 ∈ t.data.toList := by rw [getD_some (getD_size h)]; exact List.getElem_mem _
theorem idx_byte {t : ByteArray} {i : Nat} (h : i < t.size) : t[i] = t.data.toList.getD i 0 := (getD_byte t i h).symm
theorem twos_at (f : UInt8 → UInt8 → UInt8 × UInt8) {t : List UInt8} {k : Nat} (hk : k % 2 = 0) (h : k + 1 < t.length) : twos f (t.take (k + 2)) = twos f (t.take k) ++ [(f (t.getD k 0) (t.getD (k + 1) 0)).1, (f (t.getD k 0) (t.getD (k + 1) 0)).2] := by
  obtain ⟨m, rfl⟩ : ∃ m, k = 2 * m := ⟨k / 2, by omega⟩
  exact twos_two f h
theorem sh_row (L : List UInt8) {k : Nat} (h : k < 26) : (shV L)[25 + k * 2]? = some (.int .i64 (pl L k / 5 : Nat)) := by rw [Nat.mul_comm]; exact shV_row L h
theorem sh_col (L : List UInt8) {k : Nat} (h : k < 26) : (shV L)[25 + k * 2 + 1]? = some (.int .i64 (pl L k % 5 : Nat)) := by rw [Nat.mul_comm]; exact shV_col L h
theorem new_at (U : World) (T : TypeId) (c : Array Value) (ob : Obj) : RowAt ((U.alloc ob).alloc (.cells c T)) (U.heap.size + 1) T c := by
  have := RowAt.new (U.alloc ob) T c
  rw [World.size_alloc] at this
  exact this
theorem movP_lt (st : Nat) {i j : Nat} (hi : i < 25) (hj : j < 25) : (movP st i j).1 < 25 ∧ (movP st i j).2 < 25 := by
  unfold movP
  split
  · exact ⟨by show 5 * (i / 5) + (i % 5 + st) % 5 < 25; omega, by show 5 * (j / 5) + (j % 5 + st) % 5 < 25; omega⟩
  · split
    · exact ⟨by show 5 * ((i / 5 + st) % 5) + i % 5 < 25; omega, by show 5 * ((j / 5 + st) % 5) + j % 5 < 25; omega⟩
    · exact ⟨by show 5 * (i / 5) + j % 5 < 25; omega, by show 5 * (j / 5) + i % 5 < 25; omega⟩
theorem at_cell (L : List UInt8) {n : Nat} (h : n < 25) : (shV L)[n / 5 * 5 + n % 5]? = some (.int .u8 (L.getD n 0).toNat) := by rw [show n / 5 * 5 + n % 5 = n by omega]; exact shV_at L h
theorem cell_row_new (w : World) (cs : Array Value) (T : TypeId) : ∀ j u, cs.toList[j]? = some u → (w.alloc (.cells cs T)).cell? ((⟨w.heap.size, 0, none⟩ : Addr).add j) = some u := fun j u h => by rw [addr_add]; exact (RowAt.new w T cs).cell (by simpa using h)
theorem cells_two (l : List UInt8) (a b : UInt8) : Lib.byteCells l ++ [.int .u8 (a.toNat : Int), .int .u8 (b.toNat : Int)] = Lib.byteCells (l ++ [a, b]) := by simp [Lib.byteCells]
theorem row_grownBy {w w' : World} {b : Nat} {T : TypeId} {c : Array Value} {row : Option Nat} (h : RowAt w b T c) (hg : w.grownBy w' row) (hne : some b ≠ row) : RowAt w' b T c := (hg.block b h.lt hne).trans h
theorem v_info_place1 : (Try.prog.info? 63).map (·.size) = some 2 := by kernel_rfl
set_option maxRecDepth 100000 in
set_option maxHeartbeats 4000000 in
theorem moved_any (L : List UInt8) (hL : Sq L) (st : Nat) (hst : st ≤ 4) (t : ByteArray) (hs : t.size ≤ 65536) (he : t.size % 2 = 0) (hm : ∀ c ∈ t.data.toList, c ∈ L) (w : World) : Calls Try.prog 42 #[.agg (shV L), .string t, .int .i64 (st : Nat)] w fun e w' => e = .returned (.string ⟨(twos (mov st L) t.data.toList).toArray⟩) ∧ Below w.heap.size w w' := by
  obtain ⟨i0, hi0, hz0, hz1, hz2⟩ := x_info_parts v_info_byte
  have HE : Hid (t.size % 2 = 0) := he
  clear he
  go_enter Try.func42, Try.ntmps42
  go_wp2_with (first | (at_make; refine wpList_make_own _ rfl _ _ 43 rfl (w.heap.size + 1) 5 i0 (.int .u8 0) 1 Try.underlying43 hi0 hz0 hz1 _ _ _ t.size rfl rfl rfl (by rw [hz2]; omega) (by unfold maxLen; omega) (by simp) ?_; intro w1 hown1 hgrow1))
  have hb1 : Below (w.heap.size + 1) (w.alloc (.cells (shV L) 66)) w1 := (Below.refl _ _).grown hgrow1 (by simp) (fun k hk => by cases hk)
  go_loopw [7, 8] (fun o i W => ∃ (k : Nat) (v : Value), k ≤ t.size ∧ Hid (k % 2 = 0) ∧ i = .int .i64 (k : Nat) ∧ v = o ∧ Kit.Owns W (w.heap.size + 1) 5 v (twos (mov st L) (t.data.toList.take k)) ∧ Below (w.heap.size + 1) (w.alloc (.cells (shV L) 66)) W) (fun _ i _ => ((t.size : Int) - intOf i).toNat)
  case atStart => exact ⟨0, _, by omega, rfl, rfl, rfl, by rw [show twos (mov st L) (t.data.toList.take 0) = [] by simp [twos]]; exact (by simp only [World.size_alloc] at hown1; exact hown1), hb1⟩
  case round =>
    clear hown1 hgrow1 hb1
    obtain ⟨k, v, hk2, HK2, rfl, rfl, hown, hbv⟩ := hrel
    by_cases hlt : k < t.size
    · have hlt1 : k + 1 < t.size := by have := HE.out; have := HK2.out; omega
      have hlt2 : (k : Int) < (t.size : Int) := by omega
      have hlt3 : (k : Int) + 1 < (t.size : Int) := by omega
      have HTW := (show Hid _ from twos_at (mov st L) (t := t.data.toList) HK2.out (getD_size hlt1))
      have hxm : t.data.toList.getD (k) 0 ∈ L := hm _ (getD_mem hlt)
      have hym : t.data.toList.getD (k + 1) 0 ∈ L := hm _ (getD_mem hlt1)
      have hxl := ((mem_alpha _).1 ((hL.mem _).1 hxm)).1
      have hyl := ((mem_alpha _).1 ((hL.mem _).1 hym)).1
      have HNx := (show Hid (∀ W, Calls Try.prog 50 #[.int .u8 (t.data.toList.getD (k) 0).toNat] W fun e w' => e = .returned (.int .i64 (num (t.data.toList.getD (k) 0) : Nat)) ∧ W = w') from number_any _ hxl)
      have HNy := (show Hid (∀ W, Calls Try.prog 50 #[.int .u8 (t.data.toList.getD (k + 1) 0).toNat] W fun e w' => e = .returned (.int .i64 (num (t.data.toList.getD (k + 1) 0) : Nat)) ∧ W = w') from number_any _ hyl)
      have hnx := num_lt hxl
      have hny := num_lt hyl
      have HPx : Hid (pl L (num (t.data.toList.getD (k) 0)) = at' L (t.data.toList.getD (k) 0)) := pl_at hL hxm
      have HPy : Hid (pl L (num (t.data.toList.getD (k + 1) 0)) = at' L (t.data.toList.getD (k + 1) 0)) := pl_at hL hym
      clear hxm hym hxl hyl
      have hix := idx_byte hlt
      have hiy := idx_byte hlt1
      generalize t.data.toList.getD (k) 0 = x at *
      generalize t.data.toList.getD (k + 1) 0 = y at *
      have HR : Hid (RowAt wr w.heap.size 66 (shV L)) := (RowAt.new w _ _).below hbv (by omega)
      go_upto_region 5 with fail
      go_cut [9, 10] (fun p q W => ∃ N M, p = .pointer (some ⟨N, 0, none⟩) ∧ q = .pointer (some ⟨M, 0, none⟩) ∧ MvAt w W L v (twos (mov st L) (t.data.toList.take k)) N M (pl L (num x)) (pl L (num y)))
      case first =>
        have hrw := (Below.refl wr.heap.size wr).drew
        refine wp_region_noPanic ?_
        refine wp_region_held_drew (S := fun W => Below wr.heap.size wr W) (by kernel_rfl) hrw (fun hS => ?_)
        clear hrw
        obtain ⟨U, hU⟩ : ∃ U, U = wr.drew := ⟨_, rfl⟩
        have HUs : Hid (U.heap.size = wr.heap.size) := by rw [hU]; rfl
        rw [← hU] at hS ⊢
        clear hU
        refine vtake 0 20 (.string t) rfl rfl (by kernel_rfl) (by kernel_rfl) (by kernel_rfl) (fun _ _ _ _ h => h) (by rfl) (fun W hW => by clear hS hW; go_simp) hS ?_
        simp only [List.setIfInBounds_toArray, List.set_cons_succ, List.set_cons_zero]
        refine vtake 1 21 (.int .i64 ((k : Nat) : Int)) rfl rfl (by kernel_rfl) (by kernel_rfl) (by kernel_rfl) (fun _ _ _ _ h => h) (by rfl) (fun W hW => by clear hS hW; go_simp) hS ?_
        simp only [List.setIfInBounds_toArray, List.set_cons_succ, List.set_cons_zero]
        refine vtake 2 22 (.int .u8 (x.toNat : Nat)) rfl rfl (by kernel_rfl) (by kernel_rfl) (by kernel_rfl) (fun _ _ _ _ h => h) (by rfl) (fun W hW => by clear hS hW; go_simp) hS ?_
        simp only [List.setIfInBounds_toArray, List.set_cons_succ, List.set_cons_zero]
        refine vtake 4 24 (.pointer (some ⟨w.heap.size, 25, none⟩)) rfl rfl (by kernel_rfl) (by kernel_rfl) (by kernel_rfl) (fun _ _ _ _ h => h) (by rfl) (fun W hW => by clear hS hW; go_simp) hS ?_
        simp only [List.setIfInBounds_toArray, List.set_cons_succ, List.set_cons_zero]
        refine vtake 7 27 (.string t) rfl rfl (by kernel_rfl) (by kernel_rfl) (by kernel_rfl) (fun _ _ _ _ h => h) (by rfl) (fun W hW => by clear hS hW; go_simp) hS ?_
        simp only [List.setIfInBounds_toArray, List.set_cons_succ, List.set_cons_zero]
        refine vtake 8 28 (.int .i64 ((k : Nat) : Int)) rfl rfl (by kernel_rfl) (by kernel_rfl) (by kernel_rfl) (fun _ _ _ _ h => h) (by rfl) (fun W hW => by clear hS hW; go_simp) hS ?_
        simp only [List.setIfInBounds_toArray, List.set_cons_succ, List.set_cons_zero]
        refine vtake 9 29 (.int .i64 ((k + 1 : Nat) : Int)) rfl rfl (by kernel_rfl) (by kernel_rfl) (by kernel_rfl) (fun _ _ _ _ h => h) (by rfl) (fun W hW => by clear hS hW; go_simp; exact IntWalk.i64_in _ (by omega)) hS ?_
        simp only [List.setIfInBounds_toArray, List.set_cons_succ, List.set_cons_zero]
        refine vtake 10 30 (.int .u8 (y.toNat : Nat)) rfl rfl (by kernel_rfl) (by kernel_rfl) (by kernel_rfl) (fun _ _ _ _ h => h) (by rfl) (fun W hW => by clear hS hW; go_simp; intro; omega) hS ?_
        simp only [List.setIfInBounds_toArray, List.set_cons_succ, List.set_cons_zero]
        refine vtake 12 32 (.pointer (some ⟨w.heap.size, 25, none⟩)) rfl rfl (by kernel_rfl) (by kernel_rfl) (by kernel_rfl) (fun _ _ _ _ h => h) (by rfl) (fun W hW => by clear hS hW; go_simp) hS ?_
        simp only [List.setIfInBounds_toArray, List.set_cons_succ, List.set_cons_zero]
        refine wpAnyH_ready (rs := [3, 15, 16]) (by kernel_rfl) (by simp) ?_
        refine AllReadyH.cons (o := _) rfl (fun K hK => ?_) ?_
        · rw [if_pos (by rfl)]
          go_simp
          refine Calls.mono (HNx.out _) ?_
          rintro e Y ⟨rfl, rfl⟩
          refine hK.out _ _ (hS) (fun hS1 => ?_)
          clear hK hS K
          have hS := hS1
          clear hS1
          refine vtake 5 25 (.pointer (some ⟨w.heap.size, 25 + num x * 2, none⟩)) rfl rfl (by kernel_rfl) (by kernel_rfl) (by kernel_rfl) (fun _ _ _ _ h => h) (by rfl) (fun W hW => by clear hS hW; go_simp; intro; omega) hS ?_
          simp only [List.setIfInBounds_toArray, List.set_cons_succ, List.set_cons_zero]
          refine vtake 6 26 (.agg #[.int .i64 (((pl L (num x)) / 5 : Nat) : Int), .int .i64 (((pl L (num x)) % 5 : Nat) : Int)]) rfl rfl (by kernel_rfl) (by kernel_rfl) (by kernel_rfl) (fun _ _ _ _ h => h) (by rfl) (fun W hW => by have r := HR.out.below hW HR.out.lt; have u := r.cell (sh_row L hnx); have v := r.cell (sh_col L hnx); clear hS hW; go_simp) hS ?_
          simp only [List.setIfInBounds_toArray, List.set_cons_succ, List.set_cons_zero]
          refine wpAnyH_ready (rs := [11, 15, 16]) (by kernel_rfl) (by simp) ?_
          refine AllReadyH.cons (o := _) rfl (fun K hK => ?_) ?_
          · rw [if_pos (by rfl)]
            go_simp
            refine Calls.mono (HNy.out _) ?_
            rintro e Y ⟨rfl, rfl⟩
            refine hK.out _ _ (hS) (fun hS1 => ?_)
            clear hK hS K
            have hS := hS1
            clear hS1
            refine vtake 13 33 (.pointer (some ⟨w.heap.size, 25 + num y * 2, none⟩)) rfl rfl (by kernel_rfl) (by kernel_rfl) (by kernel_rfl) (fun _ _ _ _ h => h) (by rfl) (fun W hW => by clear hS hW; go_simp; intro; omega) hS ?_
            simp only [List.setIfInBounds_toArray, List.set_cons_succ, List.set_cons_zero]
            refine vtake 14 34 (.agg #[.int .i64 (((pl L (num y)) / 5 : Nat) : Int), .int .i64 (((pl L (num y)) % 5 : Nat) : Int)]) rfl rfl (by kernel_rfl) (by kernel_rfl) (by kernel_rfl) (fun _ _ _ _ h => h) (by rfl) (fun W hW => by have r := HR.out.below hW HR.out.lt; have u := r.cell (sh_row L hny); have v := r.cell (sh_col L hny); clear hS hW; go_simp) hS ?_
            simp only [List.setIfInBounds_toArray, List.set_cons_succ, List.set_cons_zero]
            refine wpAnyH_ready (rs := [15, 16]) (by kernel_rfl) (by simp) ?_
            refine AllReadyH.cons (o := _) rfl (fun K hK => ?_) ?_
            · rw [if_pos (by rfl)]
              go_simp
              refine hK.out _ _ (hS.alloc (by have := HUs.out; first | omega | (simp only [World.size_alloc]; omega)) _) (fun hS1 => ?_)
              clear hK hS K
              have hS := hS1
              clear hS1
              refine wpAnyH_ready (rs := [16]) (by kernel_rfl) (by simp) ?_
              refine AllReadyH.cons (o := _) rfl (fun K hK => ?_) ?_
              · rw [if_pos (by rfl)]
                go_simp
                refine hK.out _ _ (hS.alloc (by have := HUs.out; first | omega | (simp only [World.size_alloc]; omega)) _) (fun hS1 => ?_)
                clear hK hS K
                have hS := hS1
                clear hS1
                refine wpAnyH_ready (rs := [17]) (by kernel_rfl) (by simp) ?_
                refine AllReadyH.cons (o := _) rfl (fun K hK => ?_) AllReadyH.nil
                rw [if_pos (by rfl)]
                refine wp_store_row 63 _ _ rfl U.heap.size (plC (pl L (num x))) rfl rfl 63 _ ((RowAt.new U 63 #[.int .i64 0, .int .i64 0]).alloc (.cells #[.int .i64 0, .int .i64 0] 63)) v_info_place rfl (two_one _ _) ?_
                refine hK.out _ _ (Below.setRow hS _ (by have := HUs.out; omega) _) (fun hS1 => ?_)
                clear hK hS K
                have hS := hS1
                clear hS1
                refine wpAnyH_ready (rs := [18]) (by kernel_rfl) (by simp) ?_
                refine AllReadyH.cons (o := _) rfl (fun K hK => ?_) AllReadyH.nil
                rw [if_pos (by rfl)]
                refine wp_store_row 63 _ _ rfl (U.heap.size + 1) (plC (pl L (num y))) rfl rfl 63 _ ((new_at U 63 #[.int .i64 0, .int .i64 0] (.cells #[.int .i64 0, .int .i64 0] 63)).rowOther U.heap.size _ (by omega)) v_info_place rfl (two_one _ _) ?_
                refine hK.out _ _ (Below.setRow hS _ (by have := HUs.out; omega) _) (fun hS1 => ?_)
                clear hK hS K
                refine wpAnyH_done (by kernel_rfl) ?_ _
                refine NoPanic.normal ?_
                go_wp2_with fail
                go_meet
                exact ⟨_, _, rfl, rfl, mv_start hown hbv _ hS1 (by omega) (by have := HUs.out; omega) (by have := HUs.out; omega) ((((RowAt.new U 63 #[.int .i64 0, .int .i64 0]).alloc (.cells #[.int .i64 0, .int .i64 0] 63)).row _).rowOther (U.heap.size + 1) _ (by omega)) (((new_at U 63 #[.int .i64 0, .int .i64 0] (.cells #[.int .i64 0, .int .i64 0] 63)).rowOther U.heap.size _ (by omega)).row _)⟩
              exact AllReadyH.nil
            refine AllReadyH.cons (o := _) rfl (fun K hK => ?_) ?_
            · rw [if_pos (by rfl)]
              go_simp
              refine hK.out _ _ (hS.alloc (by have := HUs.out; first | omega | (simp only [World.size_alloc]; omega)) _) (fun hS1 => ?_)
              clear hK hS K
              have hS := hS1
              clear hS1
              refine wpAnyH_ready (rs := [15]) (by kernel_rfl) (by simp) ?_
              refine AllReadyH.cons (o := _) rfl (fun K hK => ?_) ?_
              · rw [if_pos (by rfl)]
                go_simp
                refine hK.out _ _ (hS.alloc (by have := HUs.out; first | omega | (simp only [World.size_alloc]; omega)) _) (fun hS1 => ?_)
                clear hK hS K
                have hS := hS1
                clear hS1
                refine wpAnyH_ready (rs := [17]) (by kernel_rfl) (by simp) ?_
                refine AllReadyH.cons (o := _) rfl (fun K hK => ?_) AllReadyH.nil
                rw [if_pos (by rfl)]
                refine wp_store_row 63 _ _ rfl (U.heap.size + 1) (plC (pl L (num x))) rfl rfl 63 _ (new_at U 63 #[.int .i64 0, .int .i64 0] (.cells #[.int .i64 0, .int .i64 0] 63)) v_info_place rfl (two_one _ _) ?_
                refine hK.out _ _ (Below.setRow hS _ (by have := HUs.out; omega) _) (fun hS1 => ?_)
                clear hK hS K
                have hS := hS1
                clear hS1
                refine wpAnyH_ready (rs := [18]) (by kernel_rfl) (by simp) ?_
                refine AllReadyH.cons (o := _) rfl (fun K hK => ?_) AllReadyH.nil
                rw [if_pos (by rfl)]
                refine wp_store_row 63 _ _ rfl U.heap.size (plC (pl L (num y))) rfl rfl 63 _ (((RowAt.new U 63 #[.int .i64 0, .int .i64 0]).alloc (.cells #[.int .i64 0, .int .i64 0] 63)).rowOther (U.heap.size + 1) _ (by omega)) v_info_place rfl (two_one _ _) ?_
                refine hK.out _ _ (Below.setRow hS _ (by have := HUs.out; omega) _) (fun hS1 => ?_)
                clear hK hS K
                refine wpAnyH_done (by kernel_rfl) ?_ _
                refine NoPanic.normal ?_
                go_wp2_with fail
                go_meet
                exact ⟨_, _, rfl, rfl, mv_start hown hbv _ hS1 (by omega) (by have := HUs.out; omega) (by have := HUs.out; omega) (((new_at U 63 #[.int .i64 0, .int .i64 0] (.cells #[.int .i64 0, .int .i64 0] 63)).row _).rowOther U.heap.size _ (by omega)) ((((RowAt.new U 63 #[.int .i64 0, .int .i64 0]).alloc (.cells #[.int .i64 0, .int .i64 0] 63)).rowOther (U.heap.size + 1) _ (by omega)).row _)⟩
              exact AllReadyH.nil
            exact AllReadyH.nil
          refine AllReadyH.cons (o := _) rfl (fun K hK => ?_) ?_
          · rw [if_pos (by rfl)]
            go_simp
            refine hK.out _ _ (hS.alloc (by have := HUs.out; first | omega | (simp only [World.size_alloc]; omega)) _) (fun hS1 => ?_)
            clear hK hS K
            have hS := hS1
            clear hS1
            refine wpAnyH_ready (rs := [11, 16]) (by kernel_rfl) (by simp) ?_
            refine AllReadyH.cons (o := _) rfl (fun K hK => ?_) ?_
            · rw [if_pos (by rfl)]
              go_simp
              refine Calls.mono (HNy.out _) ?_
              rintro e Y ⟨rfl, rfl⟩
              refine hK.out _ _ (hS) (fun hS1 => ?_)
              clear hK hS K
              have hS := hS1
              clear hS1
              refine vtake 13 33 (.pointer (some ⟨w.heap.size, 25 + num y * 2, none⟩)) rfl rfl (by kernel_rfl) (by kernel_rfl) (by kernel_rfl) (fun _ _ _ _ h => h) (by rfl) (fun W hW => by clear hS hW; go_simp; intro; omega) hS ?_
              simp only [List.setIfInBounds_toArray, List.set_cons_succ, List.set_cons_zero]
              refine vtake 14 34 (.agg #[.int .i64 (((pl L (num y)) / 5 : Nat) : Int), .int .i64 (((pl L (num y)) % 5 : Nat) : Int)]) rfl rfl (by kernel_rfl) (by kernel_rfl) (by kernel_rfl) (fun _ _ _ _ h => h) (by rfl) (fun W hW => by have r := HR.out.below hW HR.out.lt; have u := r.cell (sh_row L hny); have v := r.cell (sh_col L hny); clear hS hW; go_simp) hS ?_
              simp only [List.setIfInBounds_toArray, List.set_cons_succ, List.set_cons_zero]
              refine wpAnyH_ready (rs := [16]) (by kernel_rfl) (by simp) ?_
              refine AllReadyH.cons (o := _) rfl (fun K hK => ?_) ?_
              · rw [if_pos (by rfl)]
                go_simp
                refine hK.out _ _ (hS.alloc (by have := HUs.out; first | omega | (simp only [World.size_alloc]; omega)) _) (fun hS1 => ?_)
                clear hK hS K
                have hS := hS1
                clear hS1
                refine wpAnyH_ready (rs := [17]) (by kernel_rfl) (by simp) ?_
                refine AllReadyH.cons (o := _) rfl (fun K hK => ?_) AllReadyH.nil
                rw [if_pos (by rfl)]
                refine wp_store_row 63 _ _ rfl U.heap.size (plC (pl L (num x))) rfl rfl 63 _ ((RowAt.new U 63 #[.int .i64 0, .int .i64 0]).alloc (.cells #[.int .i64 0, .int .i64 0] 63)) v_info_place rfl (two_one _ _) ?_
                refine hK.out _ _ (Below.setRow hS _ (by have := HUs.out; omega) _) (fun hS1 => ?_)
                clear hK hS K
                have hS := hS1
                clear hS1
                refine wpAnyH_ready (rs := [18]) (by kernel_rfl) (by simp) ?_
                refine AllReadyH.cons (o := _) rfl (fun K hK => ?_) AllReadyH.nil
                rw [if_pos (by rfl)]
                refine wp_store_row 63 _ _ rfl (U.heap.size + 1) (plC (pl L (num y))) rfl rfl 63 _ ((new_at U 63 #[.int .i64 0, .int .i64 0] (.cells #[.int .i64 0, .int .i64 0] 63)).rowOther U.heap.size _ (by omega)) v_info_place rfl (two_one _ _) ?_
                refine hK.out _ _ (Below.setRow hS _ (by have := HUs.out; omega) _) (fun hS1 => ?_)
                clear hK hS K
                refine wpAnyH_done (by kernel_rfl) ?_ _
                refine NoPanic.normal ?_
                go_wp2_with fail
                go_meet
                exact ⟨_, _, rfl, rfl, mv_start hown hbv _ hS1 (by omega) (by have := HUs.out; omega) (by have := HUs.out; omega) ((((RowAt.new U 63 #[.int .i64 0, .int .i64 0]).alloc (.cells #[.int .i64 0, .int .i64 0] 63)).row _).rowOther (U.heap.size + 1) _ (by omega)) (((new_at U 63 #[.int .i64 0, .int .i64 0] (.cells #[.int .i64 0, .int .i64 0] 63)).rowOther U.heap.size _ (by omega)).row _)⟩
              exact AllReadyH.nil
            refine AllReadyH.cons (o := _) rfl (fun K hK => ?_) ?_
            · rw [if_pos (by rfl)]
              go_simp
              refine hK.out _ _ (hS.alloc (by have := HUs.out; first | omega | (simp only [World.size_alloc]; omega)) _) (fun hS1 => ?_)
              clear hK hS K
              have hS := hS1
              clear hS1
              refine wpAnyH_ready (rs := [11]) (by kernel_rfl) (by simp) ?_
              refine AllReadyH.cons (o := _) rfl (fun K hK => ?_) ?_
              · rw [if_pos (by rfl)]
                go_simp
                refine Calls.mono (HNy.out _) ?_
                rintro e Y ⟨rfl, rfl⟩
                refine hK.out _ _ (hS) (fun hS1 => ?_)
                clear hK hS K
                have hS := hS1
                clear hS1
                refine vtake 13 33 (.pointer (some ⟨w.heap.size, 25 + num y * 2, none⟩)) rfl rfl (by kernel_rfl) (by kernel_rfl) (by kernel_rfl) (fun _ _ _ _ h => h) (by rfl) (fun W hW => by clear hS hW; go_simp; intro; omega) hS ?_
                simp only [List.setIfInBounds_toArray, List.set_cons_succ, List.set_cons_zero]
                refine vtake 14 34 (.agg #[.int .i64 (((pl L (num y)) / 5 : Nat) : Int), .int .i64 (((pl L (num y)) % 5 : Nat) : Int)]) rfl rfl (by kernel_rfl) (by kernel_rfl) (by kernel_rfl) (fun _ _ _ _ h => h) (by rfl) (fun W hW => by have r := HR.out.below hW HR.out.lt; have u := r.cell (sh_row L hny); have v := r.cell (sh_col L hny); clear hS hW; go_simp) hS ?_
                simp only [List.setIfInBounds_toArray, List.set_cons_succ, List.set_cons_zero]
                refine wpAnyH_ready (rs := [17]) (by kernel_rfl) (by simp) ?_
                refine AllReadyH.cons (o := _) rfl (fun K hK => ?_) AllReadyH.nil
                rw [if_pos (by rfl)]
                refine wp_store_row 63 _ _ rfl U.heap.size (plC (pl L (num x))) rfl rfl 63 _ ((RowAt.new U 63 #[.int .i64 0, .int .i64 0]).alloc (.cells #[.int .i64 0, .int .i64 0] 63)) v_info_place rfl (two_one _ _) ?_
                refine hK.out _ _ (Below.setRow hS _ (by have := HUs.out; omega) _) (fun hS1 => ?_)
                clear hK hS K
                have hS := hS1
                clear hS1
                refine wpAnyH_ready (rs := [18]) (by kernel_rfl) (by simp) ?_
                refine AllReadyH.cons (o := _) rfl (fun K hK => ?_) AllReadyH.nil
                rw [if_pos (by rfl)]
                refine wp_store_row 63 _ _ rfl (U.heap.size + 1) (plC (pl L (num y))) rfl rfl 63 _ ((new_at U 63 #[.int .i64 0, .int .i64 0] (.cells #[.int .i64 0, .int .i64 0] 63)).rowOther U.heap.size _ (by omega)) v_info_place rfl (two_one _ _) ?_
                refine hK.out _ _ (Below.setRow hS _ (by have := HUs.out; omega) _) (fun hS1 => ?_)
                clear hK hS K
                refine wpAnyH_done (by kernel_rfl) ?_ _
                refine NoPanic.normal ?_
                go_wp2_with fail
                go_meet
                exact ⟨_, _, rfl, rfl, mv_start hown hbv _ hS1 (by omega) (by have := HUs.out; omega) (by have := HUs.out; omega) ((((RowAt.new U 63 #[.int .i64 0, .int .i64 0]).alloc (.cells #[.int .i64 0, .int .i64 0] 63)).row _).rowOther (U.heap.size + 1) _ (by omega)) (((new_at U 63 #[.int .i64 0, .int .i64 0] (.cells #[.int .i64 0, .int .i64 0] 63)).rowOther U.heap.size _ (by omega)).row _)⟩
              exact AllReadyH.nil
            exact AllReadyH.nil
          refine AllReadyH.cons (o := _) rfl (fun K hK => ?_) ?_
          · rw [if_pos (by rfl)]
            go_simp
            refine hK.out _ _ (hS.alloc (by have := HUs.out; first | omega | (simp only [World.size_alloc]; omega)) _) (fun hS1 => ?_)
            clear hK hS K
            have hS := hS1
            clear hS1
            refine wpAnyH_ready (rs := [11, 15]) (by kernel_rfl) (by simp) ?_
            refine AllReadyH.cons (o := _) rfl (fun K hK => ?_) ?_
            · rw [if_pos (by rfl)]
              go_simp
              refine Calls.mono (HNy.out _) ?_
              rintro e Y ⟨rfl, rfl⟩
              refine hK.out _ _ (hS) (fun hS1 => ?_)
              clear hK hS K
              have hS := hS1
              clear hS1
              refine vtake 13 33 (.pointer (some ⟨w.heap.size, 25 + num y * 2, none⟩)) rfl rfl (by kernel_rfl) (by kernel_rfl) (by kernel_rfl) (fun _ _ _ _ h => h) (by rfl) (fun W hW => by clear hS hW; go_simp; intro; omega) hS ?_
              simp only [List.setIfInBounds_toArray, List.set_cons_succ, List.set_cons_zero]
              refine vtake 14 34 (.agg #[.int .i64 (((pl L (num y)) / 5 : Nat) : Int), .int .i64 (((pl L (num y)) % 5 : Nat) : Int)]) rfl rfl (by kernel_rfl) (by kernel_rfl) (by kernel_rfl) (fun _ _ _ _ h => h) (by rfl) (fun W hW => by have r := HR.out.below hW HR.out.lt; have u := r.cell (sh_row L hny); have v := r.cell (sh_col L hny); clear hS hW; go_simp) hS ?_
              simp only [List.setIfInBounds_toArray, List.set_cons_succ, List.set_cons_zero]
              refine wpAnyH_ready (rs := [15]) (by kernel_rfl) (by simp) ?_
              refine AllReadyH.cons (o := _) rfl (fun K hK => ?_) ?_
              · rw [if_pos (by rfl)]
                go_simp
                refine hK.out _ _ (hS.alloc (by have := HUs.out; first | omega | (simp only [World.size_alloc]; omega)) _) (fun hS1 => ?_)
                clear hK hS K
                have hS := hS1
                clear hS1
                refine wpAnyH_ready (rs := [17]) (by kernel_rfl) (by simp) ?_
                refine AllReadyH.cons (o := _) rfl (fun K hK => ?_) AllReadyH.nil
                rw [if_pos (by rfl)]
                refine wp_store_row 63 _ _ rfl (U.heap.size + 1) (plC (pl L (num x))) rfl rfl 63 _ (new_at U 63 #[.int .i64 0, .int .i64 0] (.cells #[.int .i64 0, .int .i64 0] 63)) v_info_place rfl (two_one _ _) ?_
                refine hK.out _ _ (Below.setRow hS _ (by have := HUs.out; omega) _) (fun hS1 => ?_)
                clear hK hS K
                have hS := hS1
                clear hS1
                refine wpAnyH_ready (rs := [18]) (by kernel_rfl) (by simp) ?_
                refine AllReadyH.cons (o := _) rfl (fun K hK => ?_) AllReadyH.nil
                rw [if_pos (by rfl)]
                refine wp_store_row 63 _ _ rfl U.heap.size (plC (pl L (num y))) rfl rfl 63 _ (((RowAt.new U 63 #[.int .i64 0, .int .i64 0]).alloc (.cells #[.int .i64 0, .int .i64 0] 63)).rowOther (U.heap.size + 1) _ (by omega)) v_info_place rfl (two_one _ _) ?_
                refine hK.out _ _ (Below.setRow hS _ (by have := HUs.out; omega) _) (fun hS1 => ?_)
                clear hK hS K
                refine wpAnyH_done (by kernel_rfl) ?_ _
                refine NoPanic.normal ?_
                go_wp2_with fail
                go_meet
                exact ⟨_, _, rfl, rfl, mv_start hown hbv _ hS1 (by omega) (by have := HUs.out; omega) (by have := HUs.out; omega) (((new_at U 63 #[.int .i64 0, .int .i64 0] (.cells #[.int .i64 0, .int .i64 0] 63)).row _).rowOther U.heap.size _ (by omega)) ((((RowAt.new U 63 #[.int .i64 0, .int .i64 0]).alloc (.cells #[.int .i64 0, .int .i64 0] 63)).rowOther (U.heap.size + 1) _ (by omega)).row _)⟩
              exact AllReadyH.nil
            refine AllReadyH.cons (o := _) rfl (fun K hK => ?_) ?_
            · rw [if_pos (by rfl)]
              go_simp
              refine hK.out _ _ (hS.alloc (by have := HUs.out; first | omega | (simp only [World.size_alloc]; omega)) _) (fun hS1 => ?_)
              clear hK hS K
              have hS := hS1
              clear hS1
              refine wpAnyH_ready (rs := [11]) (by kernel_rfl) (by simp) ?_
              refine AllReadyH.cons (o := _) rfl (fun K hK => ?_) ?_
              · rw [if_pos (by rfl)]
                go_simp
                refine Calls.mono (HNy.out _) ?_
                rintro e Y ⟨rfl, rfl⟩
                refine hK.out _ _ (hS) (fun hS1 => ?_)
                clear hK hS K
                have hS := hS1
                clear hS1
                refine vtake 13 33 (.pointer (some ⟨w.heap.size, 25 + num y * 2, none⟩)) rfl rfl (by kernel_rfl) (by kernel_rfl) (by kernel_rfl) (fun _ _ _ _ h => h) (by rfl) (fun W hW => by clear hS hW; go_simp; intro; omega) hS ?_
                simp only [List.setIfInBounds_toArray, List.set_cons_succ, List.set_cons_zero]
                refine vtake 14 34 (.agg #[.int .i64 (((pl L (num y)) / 5 : Nat) : Int), .int .i64 (((pl L (num y)) % 5 : Nat) : Int)]) rfl rfl (by kernel_rfl) (by kernel_rfl) (by kernel_rfl) (fun _ _ _ _ h => h) (by rfl) (fun W hW => by have r := HR.out.below hW HR.out.lt; have u := r.cell (sh_row L hny); have v := r.cell (sh_col L hny); clear hS hW; go_simp) hS ?_
                simp only [List.setIfInBounds_toArray, List.set_cons_succ, List.set_cons_zero]
                refine wpAnyH_ready (rs := [17]) (by kernel_rfl) (by simp) ?_
                refine AllReadyH.cons (o := _) rfl (fun K hK => ?_) AllReadyH.nil
                rw [if_pos (by rfl)]
                refine wp_store_row 63 _ _ rfl (U.heap.size + 1) (plC (pl L (num x))) rfl rfl 63 _ (new_at U 63 #[.int .i64 0, .int .i64 0] (.cells #[.int .i64 0, .int .i64 0] 63)) v_info_place rfl (two_one _ _) ?_
                refine hK.out _ _ (Below.setRow hS _ (by have := HUs.out; omega) _) (fun hS1 => ?_)
                clear hK hS K
                have hS := hS1
                clear hS1
                refine wpAnyH_ready (rs := [18]) (by kernel_rfl) (by simp) ?_
                refine AllReadyH.cons (o := _) rfl (fun K hK => ?_) AllReadyH.nil
                rw [if_pos (by rfl)]
                refine wp_store_row 63 _ _ rfl U.heap.size (plC (pl L (num y))) rfl rfl 63 _ (((RowAt.new U 63 #[.int .i64 0, .int .i64 0]).alloc (.cells #[.int .i64 0, .int .i64 0] 63)).rowOther (U.heap.size + 1) _ (by omega)) v_info_place rfl (two_one _ _) ?_
                refine hK.out _ _ (Below.setRow hS _ (by have := HUs.out; omega) _) (fun hS1 => ?_)
                clear hK hS K
                refine wpAnyH_done (by kernel_rfl) ?_ _
                refine NoPanic.normal ?_
                go_wp2_with fail
                go_meet
                exact ⟨_, _, rfl, rfl, mv_start hown hbv _ hS1 (by omega) (by have := HUs.out; omega) (by have := HUs.out; omega) (((new_at U 63 #[.int .i64 0, .int .i64 0] (.cells #[.int .i64 0, .int .i64 0] 63)).row _).rowOther U.heap.size _ (by omega)) ((((RowAt.new U 63 #[.int .i64 0, .int .i64 0]).alloc (.cells #[.int .i64 0, .int .i64 0] 63)).rowOther (U.heap.size + 1) _ (by omega)).row _)⟩
              exact AllReadyH.nil
            exact AllReadyH.nil
          exact AllReadyH.nil
        refine AllReadyH.cons (o := _) rfl (fun K hK => ?_) ?_
        · rw [if_pos (by rfl)]
          go_simp
          refine hK.out _ _ (hS.alloc (by have := HUs.out; first | omega | (simp only [World.size_alloc]; omega)) _) (fun hS1 => ?_)
          clear hK hS K
          have hS := hS1
          clear hS1
          refine wpAnyH_ready (rs := [3, 16]) (by kernel_rfl) (by simp) ?_
          refine AllReadyH.cons (o := _) rfl (fun K hK => ?_) ?_
          · rw [if_pos (by rfl)]
            go_simp
            refine Calls.mono (HNx.out _) ?_
            rintro e Y ⟨rfl, rfl⟩
            refine hK.out _ _ (hS) (fun hS1 => ?_)
            clear hK hS K
            have hS := hS1
            clear hS1
            refine vtake 5 25 (.pointer (some ⟨w.heap.size, 25 + num x * 2, none⟩)) rfl rfl (by kernel_rfl) (by kernel_rfl) (by kernel_rfl) (fun _ _ _ _ h => h) (by rfl) (fun W hW => by clear hS hW; go_simp; intro; omega) hS ?_
            simp only [List.setIfInBounds_toArray, List.set_cons_succ, List.set_cons_zero]
            refine vtake 6 26 (.agg #[.int .i64 (((pl L (num x)) / 5 : Nat) : Int), .int .i64 (((pl L (num x)) % 5 : Nat) : Int)]) rfl rfl (by kernel_rfl) (by kernel_rfl) (by kernel_rfl) (fun _ _ _ _ h => h) (by rfl) (fun W hW => by have r := HR.out.below hW HR.out.lt; have u := r.cell (sh_row L hnx); have v := r.cell (sh_col L hnx); clear hS hW; go_simp) hS ?_
            simp only [List.setIfInBounds_toArray, List.set_cons_succ, List.set_cons_zero]
            refine wpAnyH_ready (rs := [11, 16]) (by kernel_rfl) (by simp) ?_
            refine AllReadyH.cons (o := _) rfl (fun K hK => ?_) ?_
            · rw [if_pos (by rfl)]
              go_simp
              refine Calls.mono (HNy.out _) ?_
              rintro e Y ⟨rfl, rfl⟩
              refine hK.out _ _ (hS) (fun hS1 => ?_)
              clear hK hS K
              have hS := hS1
              clear hS1
              refine vtake 13 33 (.pointer (some ⟨w.heap.size, 25 + num y * 2, none⟩)) rfl rfl (by kernel_rfl) (by kernel_rfl) (by kernel_rfl) (fun _ _ _ _ h => h) (by rfl) (fun W hW => by clear hS hW; go_simp; intro; omega) hS ?_
              simp only [List.setIfInBounds_toArray, List.set_cons_succ, List.set_cons_zero]
              refine vtake 14 34 (.agg #[.int .i64 (((pl L (num y)) / 5 : Nat) : Int), .int .i64 (((pl L (num y)) % 5 : Nat) : Int)]) rfl rfl (by kernel_rfl) (by kernel_rfl) (by kernel_rfl) (fun _ _ _ _ h => h) (by rfl) (fun W hW => by have r := HR.out.below hW HR.out.lt; have u := r.cell (sh_row L hny); have v := r.cell (sh_col L hny); clear hS hW; go_simp) hS ?_
              simp only [List.setIfInBounds_toArray, List.set_cons_succ, List.set_cons_zero]
              refine wpAnyH_ready (rs := [16]) (by kernel_rfl) (by simp) ?_
              refine AllReadyH.cons (o := _) rfl (fun K hK => ?_) ?_
              · rw [if_pos (by rfl)]
                go_simp
                refine hK.out _ _ (hS.alloc (by have := HUs.out; first | omega | (simp only [World.size_alloc]; omega)) _) (fun hS1 => ?_)
                clear hK hS K
                have hS := hS1
                clear hS1
                refine wpAnyH_ready (rs := [17]) (by kernel_rfl) (by simp) ?_
                refine AllReadyH.cons (o := _) rfl (fun K hK => ?_) AllReadyH.nil
                rw [if_pos (by rfl)]
                refine wp_store_row 63 _ _ rfl U.heap.size (plC (pl L (num x))) rfl rfl 63 _ ((RowAt.new U 63 #[.int .i64 0, .int .i64 0]).alloc (.cells #[.int .i64 0, .int .i64 0] 63)) v_info_place rfl (two_one _ _) ?_
                refine hK.out _ _ (Below.setRow hS _ (by have := HUs.out; omega) _) (fun hS1 => ?_)
                clear hK hS K
                have hS := hS1
                clear hS1
                refine wpAnyH_ready (rs := [18]) (by kernel_rfl) (by simp) ?_
                refine AllReadyH.cons (o := _) rfl (fun K hK => ?_) AllReadyH.nil
                rw [if_pos (by rfl)]
                refine wp_store_row 63 _ _ rfl (U.heap.size + 1) (plC (pl L (num y))) rfl rfl 63 _ ((new_at U 63 #[.int .i64 0, .int .i64 0] (.cells #[.int .i64 0, .int .i64 0] 63)).rowOther U.heap.size _ (by omega)) v_info_place rfl (two_one _ _) ?_
                refine hK.out _ _ (Below.setRow hS _ (by have := HUs.out; omega) _) (fun hS1 => ?_)
                clear hK hS K
                refine wpAnyH_done (by kernel_rfl) ?_ _
                refine NoPanic.normal ?_
                go_wp2_with fail
                go_meet
                exact ⟨_, _, rfl, rfl, mv_start hown hbv _ hS1 (by omega) (by have := HUs.out; omega) (by have := HUs.out; omega) ((((RowAt.new U 63 #[.int .i64 0, .int .i64 0]).alloc (.cells #[.int .i64 0, .int .i64 0] 63)).row _).rowOther (U.heap.size + 1) _ (by omega)) (((new_at U 63 #[.int .i64 0, .int .i64 0] (.cells #[.int .i64 0, .int .i64 0] 63)).rowOther U.heap.size _ (by omega)).row _)⟩
              exact AllReadyH.nil
            refine AllReadyH.cons (o := _) rfl (fun K hK => ?_) ?_
            · rw [if_pos (by rfl)]
              go_simp
              refine hK.out _ _ (hS.alloc (by have := HUs.out; first | omega | (simp only [World.size_alloc]; omega)) _) (fun hS1 => ?_)
              clear hK hS K
              have hS := hS1
              clear hS1
              refine wpAnyH_ready (rs := [11]) (by kernel_rfl) (by simp) ?_
              refine AllReadyH.cons (o := _) rfl (fun K hK => ?_) ?_
              · rw [if_pos (by rfl)]
                go_simp
                refine Calls.mono (HNy.out _) ?_
                rintro e Y ⟨rfl, rfl⟩
                refine hK.out _ _ (hS) (fun hS1 => ?_)
                clear hK hS K
                have hS := hS1
                clear hS1
                refine vtake 13 33 (.pointer (some ⟨w.heap.size, 25 + num y * 2, none⟩)) rfl rfl (by kernel_rfl) (by kernel_rfl) (by kernel_rfl) (fun _ _ _ _ h => h) (by rfl) (fun W hW => by clear hS hW; go_simp; intro; omega) hS ?_
                simp only [List.setIfInBounds_toArray, List.set_cons_succ, List.set_cons_zero]
                refine vtake 14 34 (.agg #[.int .i64 (((pl L (num y)) / 5 : Nat) : Int), .int .i64 (((pl L (num y)) % 5 : Nat) : Int)]) rfl rfl (by kernel_rfl) (by kernel_rfl) (by kernel_rfl) (fun _ _ _ _ h => h) (by rfl) (fun W hW => by have r := HR.out.below hW HR.out.lt; have u := r.cell (sh_row L hny); have v := r.cell (sh_col L hny); clear hS hW; go_simp) hS ?_
                simp only [List.setIfInBounds_toArray, List.set_cons_succ, List.set_cons_zero]
                refine wpAnyH_ready (rs := [17]) (by kernel_rfl) (by simp) ?_
                refine AllReadyH.cons (o := _) rfl (fun K hK => ?_) AllReadyH.nil
                rw [if_pos (by rfl)]
                refine wp_store_row 63 _ _ rfl U.heap.size (plC (pl L (num x))) rfl rfl 63 _ ((RowAt.new U 63 #[.int .i64 0, .int .i64 0]).alloc (.cells #[.int .i64 0, .int .i64 0] 63)) v_info_place rfl (two_one _ _) ?_
                refine hK.out _ _ (Below.setRow hS _ (by have := HUs.out; omega) _) (fun hS1 => ?_)
                clear hK hS K
                have hS := hS1
                clear hS1
                refine wpAnyH_ready (rs := [18]) (by kernel_rfl) (by simp) ?_
                refine AllReadyH.cons (o := _) rfl (fun K hK => ?_) AllReadyH.nil
                rw [if_pos (by rfl)]
                refine wp_store_row 63 _ _ rfl (U.heap.size + 1) (plC (pl L (num y))) rfl rfl 63 _ ((new_at U 63 #[.int .i64 0, .int .i64 0] (.cells #[.int .i64 0, .int .i64 0] 63)).rowOther U.heap.size _ (by omega)) v_info_place rfl (two_one _ _) ?_
                refine hK.out _ _ (Below.setRow hS _ (by have := HUs.out; omega) _) (fun hS1 => ?_)
                clear hK hS K
                refine wpAnyH_done (by kernel_rfl) ?_ _
                refine NoPanic.normal ?_
                go_wp2_with fail
                go_meet
                exact ⟨_, _, rfl, rfl, mv_start hown hbv _ hS1 (by omega) (by have := HUs.out; omega) (by have := HUs.out; omega) ((((RowAt.new U 63 #[.int .i64 0, .int .i64 0]).alloc (.cells #[.int .i64 0, .int .i64 0] 63)).row _).rowOther (U.heap.size + 1) _ (by omega)) (((new_at U 63 #[.int .i64 0, .int .i64 0] (.cells #[.int .i64 0, .int .i64 0] 63)).rowOther U.heap.size _ (by omega)).row _)⟩
              exact AllReadyH.nil
            exact AllReadyH.nil
          refine AllReadyH.cons (o := _) rfl (fun K hK => ?_) ?_
          · rw [if_pos (by rfl)]
            go_simp
            refine hK.out _ _ (hS.alloc (by have := HUs.out; first | omega | (simp only [World.size_alloc]; omega)) _) (fun hS1 => ?_)
            clear hK hS K
            have hS := hS1
            clear hS1
            refine wpAnyH_ready (rs := [3]) (by kernel_rfl) (by simp) ?_
            refine AllReadyH.cons (o := _) rfl (fun K hK => ?_) ?_
            · rw [if_pos (by rfl)]
              go_simp
              refine Calls.mono (HNx.out _) ?_
              rintro e Y ⟨rfl, rfl⟩
              refine hK.out _ _ (hS) (fun hS1 => ?_)
              clear hK hS K
              have hS := hS1
              clear hS1
              refine vtake 5 25 (.pointer (some ⟨w.heap.size, 25 + num x * 2, none⟩)) rfl rfl (by kernel_rfl) (by kernel_rfl) (by kernel_rfl) (fun _ _ _ _ h => h) (by rfl) (fun W hW => by clear hS hW; go_simp; intro; omega) hS ?_
              simp only [List.setIfInBounds_toArray, List.set_cons_succ, List.set_cons_zero]
              refine vtake 6 26 (.agg #[.int .i64 (((pl L (num x)) / 5 : Nat) : Int), .int .i64 (((pl L (num x)) % 5 : Nat) : Int)]) rfl rfl (by kernel_rfl) (by kernel_rfl) (by kernel_rfl) (fun _ _ _ _ h => h) (by rfl) (fun W hW => by have r := HR.out.below hW HR.out.lt; have u := r.cell (sh_row L hnx); have v := r.cell (sh_col L hnx); clear hS hW; go_simp) hS ?_
              simp only [List.setIfInBounds_toArray, List.set_cons_succ, List.set_cons_zero]
              refine wpAnyH_ready (rs := [11]) (by kernel_rfl) (by simp) ?_
              refine AllReadyH.cons (o := _) rfl (fun K hK => ?_) ?_
              · rw [if_pos (by rfl)]
                go_simp
                refine Calls.mono (HNy.out _) ?_
                rintro e Y ⟨rfl, rfl⟩
                refine hK.out _ _ (hS) (fun hS1 => ?_)
                clear hK hS K
                have hS := hS1
                clear hS1
                refine vtake 13 33 (.pointer (some ⟨w.heap.size, 25 + num y * 2, none⟩)) rfl rfl (by kernel_rfl) (by kernel_rfl) (by kernel_rfl) (fun _ _ _ _ h => h) (by rfl) (fun W hW => by clear hS hW; go_simp; intro; omega) hS ?_
                simp only [List.setIfInBounds_toArray, List.set_cons_succ, List.set_cons_zero]
                refine vtake 14 34 (.agg #[.int .i64 (((pl L (num y)) / 5 : Nat) : Int), .int .i64 (((pl L (num y)) % 5 : Nat) : Int)]) rfl rfl (by kernel_rfl) (by kernel_rfl) (by kernel_rfl) (fun _ _ _ _ h => h) (by rfl) (fun W hW => by have r := HR.out.below hW HR.out.lt; have u := r.cell (sh_row L hny); have v := r.cell (sh_col L hny); clear hS hW; go_simp) hS ?_
                simp only [List.setIfInBounds_toArray, List.set_cons_succ, List.set_cons_zero]
                refine wpAnyH_ready (rs := [17]) (by kernel_rfl) (by simp) ?_
                refine AllReadyH.cons (o := _) rfl (fun K hK => ?_) AllReadyH.nil
                rw [if_pos (by rfl)]
                refine wp_store_row 63 _ _ rfl U.heap.size (plC (pl L (num x))) rfl rfl 63 _ ((RowAt.new U 63 #[.int .i64 0, .int .i64 0]).alloc (.cells #[.int .i64 0, .int .i64 0] 63)) v_info_place rfl (two_one _ _) ?_
                refine hK.out _ _ (Below.setRow hS _ (by have := HUs.out; omega) _) (fun hS1 => ?_)
                clear hK hS K
                have hS := hS1
                clear hS1
                refine wpAnyH_ready (rs := [18]) (by kernel_rfl) (by simp) ?_
                refine AllReadyH.cons (o := _) rfl (fun K hK => ?_) AllReadyH.nil
                rw [if_pos (by rfl)]
                refine wp_store_row 63 _ _ rfl (U.heap.size + 1) (plC (pl L (num y))) rfl rfl 63 _ ((new_at U 63 #[.int .i64 0, .int .i64 0] (.cells #[.int .i64 0, .int .i64 0] 63)).rowOther U.heap.size _ (by omega)) v_info_place rfl (two_one _ _) ?_
                refine hK.out _ _ (Below.setRow hS _ (by have := HUs.out; omega) _) (fun hS1 => ?_)
                clear hK hS K
                refine wpAnyH_done (by kernel_rfl) ?_ _
                refine NoPanic.normal ?_
                go_wp2_with fail
                go_meet
                exact ⟨_, _, rfl, rfl, mv_start hown hbv _ hS1 (by omega) (by have := HUs.out; omega) (by have := HUs.out; omega) ((((RowAt.new U 63 #[.int .i64 0, .int .i64 0]).alloc (.cells #[.int .i64 0, .int .i64 0] 63)).row _).rowOther (U.heap.size + 1) _ (by omega)) (((new_at U 63 #[.int .i64 0, .int .i64 0] (.cells #[.int .i64 0, .int .i64 0] 63)).rowOther U.heap.size _ (by omega)).row _)⟩
              exact AllReadyH.nil
            exact AllReadyH.nil
          exact AllReadyH.nil
        refine AllReadyH.cons (o := _) rfl (fun K hK => ?_) ?_
        · rw [if_pos (by rfl)]
          go_simp
          refine hK.out _ _ (hS.alloc (by have := HUs.out; first | omega | (simp only [World.size_alloc]; omega)) _) (fun hS1 => ?_)
          clear hK hS K
          have hS := hS1
          clear hS1
          refine wpAnyH_ready (rs := [3, 15]) (by kernel_rfl) (by simp) ?_
          refine AllReadyH.cons (o := _) rfl (fun K hK => ?_) ?_
          · rw [if_pos (by rfl)]
            go_simp
            refine Calls.mono (HNx.out _) ?_
            rintro e Y ⟨rfl, rfl⟩
            refine hK.out _ _ (hS) (fun hS1 => ?_)
            clear hK hS K
            have hS := hS1
            clear hS1
            refine vtake 5 25 (.pointer (some ⟨w.heap.size, 25 + num x * 2, none⟩)) rfl rfl (by kernel_rfl) (by kernel_rfl) (by kernel_rfl) (fun _ _ _ _ h => h) (by rfl) (fun W hW => by clear hS hW; go_simp; intro; omega) hS ?_
            simp only [List.setIfInBounds_toArray, List.set_cons_succ, List.set_cons_zero]
            refine vtake 6 26 (.agg #[.int .i64 (((pl L (num x)) / 5 : Nat) : Int), .int .i64 (((pl L (num x)) % 5 : Nat) : Int)]) rfl rfl (by kernel_rfl) (by kernel_rfl) (by kernel_rfl) (fun _ _ _ _ h => h) (by rfl) (fun W hW => by have r := HR.out.below hW HR.out.lt; have u := r.cell (sh_row L hnx); have v := r.cell (sh_col L hnx); clear hS hW; go_simp) hS ?_
            simp only [List.setIfInBounds_toArray, List.set_cons_succ, List.set_cons_zero]
            refine wpAnyH_ready (rs := [11, 15]) (by kernel_rfl) (by simp) ?_
            refine AllReadyH.cons (o := _) rfl (fun K hK => ?_) ?_
            · rw [if_pos (by rfl)]
              go_simp
              refine Calls.mono (HNy.out _) ?_
              rintro e Y ⟨rfl, rfl⟩
              refine hK.out _ _ (hS) (fun hS1 => ?_)
              clear hK hS K
              have hS := hS1
              clear hS1
              refine vtake 13 33 (.pointer (some ⟨w.heap.size, 25 + num y * 2, none⟩)) rfl rfl (by kernel_rfl) (by kernel_rfl) (by kernel_rfl) (fun _ _ _ _ h => h) (by rfl) (fun W hW => by clear hS hW; go_simp; intro; omega) hS ?_
              simp only [List.setIfInBounds_toArray, List.set_cons_succ, List.set_cons_zero]
              refine vtake 14 34 (.agg #[.int .i64 (((pl L (num y)) / 5 : Nat) : Int), .int .i64 (((pl L (num y)) % 5 : Nat) : Int)]) rfl rfl (by kernel_rfl) (by kernel_rfl) (by kernel_rfl) (fun _ _ _ _ h => h) (by rfl) (fun W hW => by have r := HR.out.below hW HR.out.lt; have u := r.cell (sh_row L hny); have v := r.cell (sh_col L hny); clear hS hW; go_simp) hS ?_
              simp only [List.setIfInBounds_toArray, List.set_cons_succ, List.set_cons_zero]
              refine wpAnyH_ready (rs := [15]) (by kernel_rfl) (by simp) ?_
              refine AllReadyH.cons (o := _) rfl (fun K hK => ?_) ?_
              · rw [if_pos (by rfl)]
                go_simp
                refine hK.out _ _ (hS.alloc (by have := HUs.out; first | omega | (simp only [World.size_alloc]; omega)) _) (fun hS1 => ?_)
                clear hK hS K
                have hS := hS1
                clear hS1
                refine wpAnyH_ready (rs := [17]) (by kernel_rfl) (by simp) ?_
                refine AllReadyH.cons (o := _) rfl (fun K hK => ?_) AllReadyH.nil
                rw [if_pos (by rfl)]
                refine wp_store_row 63 _ _ rfl (U.heap.size + 1) (plC (pl L (num x))) rfl rfl 63 _ (new_at U 63 #[.int .i64 0, .int .i64 0] (.cells #[.int .i64 0, .int .i64 0] 63)) v_info_place rfl (two_one _ _) ?_
                refine hK.out _ _ (Below.setRow hS _ (by have := HUs.out; omega) _) (fun hS1 => ?_)
                clear hK hS K
                have hS := hS1
                clear hS1
                refine wpAnyH_ready (rs := [18]) (by kernel_rfl) (by simp) ?_
                refine AllReadyH.cons (o := _) rfl (fun K hK => ?_) AllReadyH.nil
                rw [if_pos (by rfl)]
                refine wp_store_row 63 _ _ rfl U.heap.size (plC (pl L (num y))) rfl rfl 63 _ (((RowAt.new U 63 #[.int .i64 0, .int .i64 0]).alloc (.cells #[.int .i64 0, .int .i64 0] 63)).rowOther (U.heap.size + 1) _ (by omega)) v_info_place rfl (two_one _ _) ?_
                refine hK.out _ _ (Below.setRow hS _ (by have := HUs.out; omega) _) (fun hS1 => ?_)
                clear hK hS K
                refine wpAnyH_done (by kernel_rfl) ?_ _
                refine NoPanic.normal ?_
                go_wp2_with fail
                go_meet
                exact ⟨_, _, rfl, rfl, mv_start hown hbv _ hS1 (by omega) (by have := HUs.out; omega) (by have := HUs.out; omega) (((new_at U 63 #[.int .i64 0, .int .i64 0] (.cells #[.int .i64 0, .int .i64 0] 63)).row _).rowOther U.heap.size _ (by omega)) ((((RowAt.new U 63 #[.int .i64 0, .int .i64 0]).alloc (.cells #[.int .i64 0, .int .i64 0] 63)).rowOther (U.heap.size + 1) _ (by omega)).row _)⟩
              exact AllReadyH.nil
            refine AllReadyH.cons (o := _) rfl (fun K hK => ?_) ?_
            · rw [if_pos (by rfl)]
              go_simp
              refine hK.out _ _ (hS.alloc (by have := HUs.out; first | omega | (simp only [World.size_alloc]; omega)) _) (fun hS1 => ?_)
              clear hK hS K
              have hS := hS1
              clear hS1
              refine wpAnyH_ready (rs := [11]) (by kernel_rfl) (by simp) ?_
              refine AllReadyH.cons (o := _) rfl (fun K hK => ?_) ?_
              · rw [if_pos (by rfl)]
                go_simp
                refine Calls.mono (HNy.out _) ?_
                rintro e Y ⟨rfl, rfl⟩
                refine hK.out _ _ (hS) (fun hS1 => ?_)
                clear hK hS K
                have hS := hS1
                clear hS1
                refine vtake 13 33 (.pointer (some ⟨w.heap.size, 25 + num y * 2, none⟩)) rfl rfl (by kernel_rfl) (by kernel_rfl) (by kernel_rfl) (fun _ _ _ _ h => h) (by rfl) (fun W hW => by clear hS hW; go_simp; intro; omega) hS ?_
                simp only [List.setIfInBounds_toArray, List.set_cons_succ, List.set_cons_zero]
                refine vtake 14 34 (.agg #[.int .i64 (((pl L (num y)) / 5 : Nat) : Int), .int .i64 (((pl L (num y)) % 5 : Nat) : Int)]) rfl rfl (by kernel_rfl) (by kernel_rfl) (by kernel_rfl) (fun _ _ _ _ h => h) (by rfl) (fun W hW => by have r := HR.out.below hW HR.out.lt; have u := r.cell (sh_row L hny); have v := r.cell (sh_col L hny); clear hS hW; go_simp) hS ?_
                simp only [List.setIfInBounds_toArray, List.set_cons_succ, List.set_cons_zero]
                refine wpAnyH_ready (rs := [17]) (by kernel_rfl) (by simp) ?_
                refine AllReadyH.cons (o := _) rfl (fun K hK => ?_) AllReadyH.nil
                rw [if_pos (by rfl)]
                refine wp_store_row 63 _ _ rfl (U.heap.size + 1) (plC (pl L (num x))) rfl rfl 63 _ (new_at U 63 #[.int .i64 0, .int .i64 0] (.cells #[.int .i64 0, .int .i64 0] 63)) v_info_place rfl (two_one _ _) ?_
                refine hK.out _ _ (Below.setRow hS _ (by have := HUs.out; omega) _) (fun hS1 => ?_)
                clear hK hS K
                have hS := hS1
                clear hS1
                refine wpAnyH_ready (rs := [18]) (by kernel_rfl) (by simp) ?_
                refine AllReadyH.cons (o := _) rfl (fun K hK => ?_) AllReadyH.nil
                rw [if_pos (by rfl)]
                refine wp_store_row 63 _ _ rfl U.heap.size (plC (pl L (num y))) rfl rfl 63 _ (((RowAt.new U 63 #[.int .i64 0, .int .i64 0]).alloc (.cells #[.int .i64 0, .int .i64 0] 63)).rowOther (U.heap.size + 1) _ (by omega)) v_info_place rfl (two_one _ _) ?_
                refine hK.out _ _ (Below.setRow hS _ (by have := HUs.out; omega) _) (fun hS1 => ?_)
                clear hK hS K
                refine wpAnyH_done (by kernel_rfl) ?_ _
                refine NoPanic.normal ?_
                go_wp2_with fail
                go_meet
                exact ⟨_, _, rfl, rfl, mv_start hown hbv _ hS1 (by omega) (by have := HUs.out; omega) (by have := HUs.out; omega) (((new_at U 63 #[.int .i64 0, .int .i64 0] (.cells #[.int .i64 0, .int .i64 0] 63)).row _).rowOther U.heap.size _ (by omega)) ((((RowAt.new U 63 #[.int .i64 0, .int .i64 0]).alloc (.cells #[.int .i64 0, .int .i64 0] 63)).rowOther (U.heap.size + 1) _ (by omega)).row _)⟩
              exact AllReadyH.nil
            exact AllReadyH.nil
          refine AllReadyH.cons (o := _) rfl (fun K hK => ?_) ?_
          · rw [if_pos (by rfl)]
            go_simp
            refine hK.out _ _ (hS.alloc (by have := HUs.out; first | omega | (simp only [World.size_alloc]; omega)) _) (fun hS1 => ?_)
            clear hK hS K
            have hS := hS1
            clear hS1
            refine wpAnyH_ready (rs := [3]) (by kernel_rfl) (by simp) ?_
            refine AllReadyH.cons (o := _) rfl (fun K hK => ?_) ?_
            · rw [if_pos (by rfl)]
              go_simp
              refine Calls.mono (HNx.out _) ?_
              rintro e Y ⟨rfl, rfl⟩
              refine hK.out _ _ (hS) (fun hS1 => ?_)
              clear hK hS K
              have hS := hS1
              clear hS1
              refine vtake 5 25 (.pointer (some ⟨w.heap.size, 25 + num x * 2, none⟩)) rfl rfl (by kernel_rfl) (by kernel_rfl) (by kernel_rfl) (fun _ _ _ _ h => h) (by rfl) (fun W hW => by clear hS hW; go_simp; intro; omega) hS ?_
              simp only [List.setIfInBounds_toArray, List.set_cons_succ, List.set_cons_zero]
              refine vtake 6 26 (.agg #[.int .i64 (((pl L (num x)) / 5 : Nat) : Int), .int .i64 (((pl L (num x)) % 5 : Nat) : Int)]) rfl rfl (by kernel_rfl) (by kernel_rfl) (by kernel_rfl) (fun _ _ _ _ h => h) (by rfl) (fun W hW => by have r := HR.out.below hW HR.out.lt; have u := r.cell (sh_row L hnx); have v := r.cell (sh_col L hnx); clear hS hW; go_simp) hS ?_
              simp only [List.setIfInBounds_toArray, List.set_cons_succ, List.set_cons_zero]
              refine wpAnyH_ready (rs := [11]) (by kernel_rfl) (by simp) ?_
              refine AllReadyH.cons (o := _) rfl (fun K hK => ?_) ?_
              · rw [if_pos (by rfl)]
                go_simp
                refine Calls.mono (HNy.out _) ?_
                rintro e Y ⟨rfl, rfl⟩
                refine hK.out _ _ (hS) (fun hS1 => ?_)
                clear hK hS K
                have hS := hS1
                clear hS1
                refine vtake 13 33 (.pointer (some ⟨w.heap.size, 25 + num y * 2, none⟩)) rfl rfl (by kernel_rfl) (by kernel_rfl) (by kernel_rfl) (fun _ _ _ _ h => h) (by rfl) (fun W hW => by clear hS hW; go_simp; intro; omega) hS ?_
                simp only [List.setIfInBounds_toArray, List.set_cons_succ, List.set_cons_zero]
                refine vtake 14 34 (.agg #[.int .i64 (((pl L (num y)) / 5 : Nat) : Int), .int .i64 (((pl L (num y)) % 5 : Nat) : Int)]) rfl rfl (by kernel_rfl) (by kernel_rfl) (by kernel_rfl) (fun _ _ _ _ h => h) (by rfl) (fun W hW => by have r := HR.out.below hW HR.out.lt; have u := r.cell (sh_row L hny); have v := r.cell (sh_col L hny); clear hS hW; go_simp) hS ?_
                simp only [List.setIfInBounds_toArray, List.set_cons_succ, List.set_cons_zero]
                refine wpAnyH_ready (rs := [17]) (by kernel_rfl) (by simp) ?_
                refine AllReadyH.cons (o := _) rfl (fun K hK => ?_) AllReadyH.nil
                rw [if_pos (by rfl)]
                refine wp_store_row 63 _ _ rfl (U.heap.size + 1) (plC (pl L (num x))) rfl rfl 63 _ (new_at U 63 #[.int .i64 0, .int .i64 0] (.cells #[.int .i64 0, .int .i64 0] 63)) v_info_place rfl (two_one _ _) ?_
                refine hK.out _ _ (Below.setRow hS _ (by have := HUs.out; omega) _) (fun hS1 => ?_)
                clear hK hS K
                have hS := hS1
                clear hS1
                refine wpAnyH_ready (rs := [18]) (by kernel_rfl) (by simp) ?_
                refine AllReadyH.cons (o := _) rfl (fun K hK => ?_) AllReadyH.nil
                rw [if_pos (by rfl)]
                refine wp_store_row 63 _ _ rfl U.heap.size (plC (pl L (num y))) rfl rfl 63 _ (((RowAt.new U 63 #[.int .i64 0, .int .i64 0]).alloc (.cells #[.int .i64 0, .int .i64 0] 63)).rowOther (U.heap.size + 1) _ (by omega)) v_info_place rfl (two_one _ _) ?_
                refine hK.out _ _ (Below.setRow hS _ (by have := HUs.out; omega) _) (fun hS1 => ?_)
                clear hK hS K
                refine wpAnyH_done (by kernel_rfl) ?_ _
                refine NoPanic.normal ?_
                go_wp2_with fail
                go_meet
                exact ⟨_, _, rfl, rfl, mv_start hown hbv _ hS1 (by omega) (by have := HUs.out; omega) (by have := HUs.out; omega) (((new_at U 63 #[.int .i64 0, .int .i64 0] (.cells #[.int .i64 0, .int .i64 0] 63)).row _).rowOther U.heap.size _ (by omega)) ((((RowAt.new U 63 #[.int .i64 0, .int .i64 0]).alloc (.cells #[.int .i64 0, .int .i64 0] 63)).rowOther (U.heap.size + 1) _ (by omega)).row _)⟩
              exact AllReadyH.nil
            exact AllReadyH.nil
          exact AllReadyH.nil
        exact AllReadyH.nil
      case rest =>
        obtain ⟨N, M, rfl, rfl, hmv⟩ := hcut
        clear hown hbv HR HNx HNy hix hiy
        have hplx := pl_lt hL (num x)
        have hply := pl_lt hL (num y)
        have HBE := (show Hid (∀ W, Calls Try.prog 52 #[.agg #[.int .i64 ((pl L (num x) / 5 : Nat) : Int), .int .i64 ((pl L (num x) % 5 : Nat) : Int)], .agg #[.int .i64 ((pl L (num y) / 5 : Nat) : Int), .int .i64 ((pl L (num y) % 5 : Nat) : Int)], .int .i64 (st : Nat)] W fun e w' => e = .returned (.tuple #[.agg #[.int .i64 (((movP st (pl L (num x)) (pl L (num y))).1 / 5 : Nat) : Int), .int .i64 (((movP st (pl L (num x)) (pl L (num y))).1 % 5 : Nat) : Int)], .agg #[.int .i64 (((movP st (pl L (num x)) (pl L (num y))).2 / 5 : Nat) : Int), .int .i64 (((movP st (pl L (num x)) (pl L (num y))).2 % 5 : Nat) : Int)]]) ∧ Below W.heap.size W w') from fun W => behind_any st _ _ hst hplx hply W)
        have hc0 := hmv.a.cell (i := 0) rfl
        have hc1 := hmv.a.cell (i := 1) rfl
        have hc2 := hmv.b.cell (i := 0) rfl
        have hc3 := hmv.b.cell (i := 1) rfl
        have hp1 := (movP_lt st hplx hply).1
        have hp2 := (movP_lt st hplx hply).2
        have HM1 : Hid ((mov st L x y).1 = L.getD (movP st (pl L (num x)) (pl L (num y))).1 0) := by rw [Hid, HPx.out, HPy.out]; rfl
        have HM2 : Hid ((mov st L x y).2 = L.getD (movP st (pl L (num x)) (pl L (num y))).2 0) := by rw [Hid, HPx.out, HPy.out]; rfl
        generalize (movP st (pl L (num x)) (pl L (num y))).1 = p1 at *
        generalize (movP st (pl L (num x)) (pl L (num y))).2 = p2 at *
        go_upto_region 6 with fail
        go_wp2_with fail
        refine (HBE.out _).mono ?_
        rintro e W2 ⟨rfl, hb2⟩
        have hmv2 := hmv.step hb2
        have hd0 := hmv2.a.cell (i := 0) rfl
        have hd1 := hmv2.a.cell (i := 1) rfl
        have hd2 := hmv2.b.cell (i := 0) rfl
        have hd3 := hmv2.b.cell (i := 1) rfl
        have hf0 := hmv2.a.frozen 0
        have hf1 := hmv2.a.frozen 1
        have hf2 := hmv2.b.frozen 0
        have hf3 := hmv2.b.frozen 1
        have hne1 : N ≠ M := hmv2.ne
        have hne2 : M ≠ N := Ne.symm hne1
        have hmv3 := hmv2.set p1 p2
        clear hmv hmv2 hb2 hc0 hc1 hc2 hc3 HBE
        go_upto_region 7 with fail
        have hmv4 : MvAt w ((((W2.setCell ⟨N, 0, none⟩ (.int .i64 ((p1 : Int) / 5))).setCell ⟨N, 1, none⟩ (.int .i64 ((p1 : Int) % 5))).setCell ⟨M, 0, none⟩ (.int .i64 ((p2 : Int) / 5))).setCell ⟨M, 1, none⟩ (.int .i64 ((p2 : Int) % 5))) L v (twos (mov st L) (t.data.toList.take k)) N M p1 p2 := hmv3
        obtain ⟨V, hV⟩ : ∃ V, V = ((((W2.setCell ⟨N, 0, none⟩ (.int .i64 ((p1 : Int) / 5))).setCell ⟨N, 1, none⟩ (.int .i64 ((p1 : Int) % 5))).setCell ⟨M, 0, none⟩ (.int .i64 ((p2 : Int) / 5))).setCell ⟨M, 1, none⟩ (.int .i64 ((p2 : Int) % 5))) := ⟨_, rfl⟩
        rw [← hV] at hmv4 ⊢
        clear hV hmv3 hd0 hd1 hd2 hd3 hf0 hf1 hf2 hf3 HPx HPy
        have HR : Hid (RowAt V w.heap.size 66 (shV L)) := (RowAt.new w _ _).below hmv4.below (by omega)
        have HMV : Hid (MvAt w V L v (twos (mov st L) (t.data.toList.take k)) N M p1 p2) := hmv4
        clear hmv4
        have hq1 : p1 / 5 < 5 := by omega
        have hq2 : p1 % 5 < 5 := by omega
        have hq3 : p2 / 5 < 5 := by omega
        have hq4 : p2 % 5 < 5 := by omega
        refine wp_region_noPanic ?_
        refine wp_region_held_drew (S := fun W => RowAt W N 63 (plC p1) ∧ RowAt W M 63 (plC p2) ∧ RowAt W w.heap.size 66 (shV L)) (by kernel_rfl) ⟨HMV.out.a, HMV.out.b, HR.out⟩ (fun hS => ?_)
        refine vtake 0 42 (v) rfl rfl (by kernel_rfl) (by kernel_rfl) (by kernel_rfl) (fun _ _ _ _ h => h) (by rfl) (fun W hW => by clear hS hW; go_simp) hS ?_
        simp only [List.setIfInBounds_toArray, List.set_cons_succ, List.set_cons_zero]
        refine vtake 1 43 (.pointer (some ⟨N, 0, none⟩)) rfl rfl (by kernel_rfl) (by kernel_rfl) (by kernel_rfl) (fun _ _ _ _ h => h) (by rfl) (fun W hW => by clear hS hW; go_simp) hS ?_
        simp only [List.setIfInBounds_toArray, List.set_cons_succ, List.set_cons_zero]
        refine vtake 2 44 (.int .i64 ((p1 / 5 : Nat) : Int)) rfl rfl (by kernel_rfl) (by kernel_rfl) (by kernel_rfl) (fun _ _ _ _ h => h) (by rfl) (fun W hW => by have u := hW.1.cell (i := 0) rfl; clear hS hW; go_simp; rfl) hS ?_
        simp only [List.setIfInBounds_toArray, List.set_cons_succ, List.set_cons_zero]
        refine vtake 3 45 (.pointer (some ⟨N, 1, none⟩)) rfl rfl (by kernel_rfl) (by kernel_rfl) (by kernel_rfl) (fun _ _ _ _ h => h) (by rfl) (fun W hW => by clear hS hW; go_simp) hS ?_
        simp only [List.setIfInBounds_toArray, List.set_cons_succ, List.set_cons_zero]
        refine vtake 4 46 (.int .i64 ((p1 % 5 : Nat) : Int)) rfl rfl (by kernel_rfl) (by kernel_rfl) (by kernel_rfl) (fun _ _ _ _ h => h) (by rfl) (fun W hW => by have u := hW.1.cell (i := 1) rfl; clear hS hW; go_simp; rfl) hS ?_
        simp only [List.setIfInBounds_toArray, List.set_cons_succ, List.set_cons_zero]
        refine vtake 5 47 (.pointer (some ⟨w.heap.size, 0, none⟩)) rfl rfl (by kernel_rfl) (by kernel_rfl) (by kernel_rfl) (fun _ _ _ _ h => h) (by rfl) (fun W hW => by clear hS hW; go_simp) hS ?_
        simp only [List.setIfInBounds_toArray, List.set_cons_succ, List.set_cons_zero]
        refine vtake 6 48 (.pointer (some ⟨w.heap.size, p1 / 5 * 5, none⟩)) rfl rfl (by kernel_rfl) (by kernel_rfl) (by kernel_rfl) (fun _ _ _ _ h => h) (by rfl) (fun W hW => by clear hS hW; go_simp; rw [if_pos (by omega)]; rfl) hS ?_
        simp only [List.setIfInBounds_toArray, List.set_cons_succ, List.set_cons_zero]
        refine vtake 7 49 (.pointer (some ⟨w.heap.size, p1 / 5 * 5 + p1 % 5, none⟩)) rfl rfl (by kernel_rfl) (by kernel_rfl) (by kernel_rfl) (fun _ _ _ _ h => h) (by rfl) (fun W hW => by clear hS hW; go_simp; rw [if_pos (by omega)]; rfl) hS ?_
        simp only [List.setIfInBounds_toArray, List.set_cons_succ, List.set_cons_zero]
        refine vtake 8 50 (.int .u8 ((L.getD p1 0).toNat : Nat)) rfl rfl (by kernel_rfl) (by kernel_rfl) (by kernel_rfl) (fun _ _ _ _ h => h) (by rfl) (fun W hW => by have u := hW.2.2.cell (at_cell L (n := p1) (by omega)); clear hS hW; go_simp) hS ?_
        simp only [List.setIfInBounds_toArray, List.set_cons_succ, List.set_cons_zero]
        refine vtake 9 51 (.pointer (some ⟨M, 0, none⟩)) rfl rfl (by kernel_rfl) (by kernel_rfl) (by kernel_rfl) (fun _ _ _ _ h => h) (by rfl) (fun W hW => by clear hS hW; go_simp) hS ?_
        simp only [List.setIfInBounds_toArray, List.set_cons_succ, List.set_cons_zero]
        refine vtake 10 52 (.int .i64 ((p2 / 5 : Nat) : Int)) rfl rfl (by kernel_rfl) (by kernel_rfl) (by kernel_rfl) (fun _ _ _ _ h => h) (by rfl) (fun W hW => by have u := hW.2.1.cell (i := 0) rfl; clear hS hW; go_simp; rfl) hS ?_
        simp only [List.setIfInBounds_toArray, List.set_cons_succ, List.set_cons_zero]
        refine vtake 11 53 (.pointer (some ⟨M, 1, none⟩)) rfl rfl (by kernel_rfl) (by kernel_rfl) (by kernel_rfl) (fun _ _ _ _ h => h) (by rfl) (fun W hW => by clear hS hW; go_simp) hS ?_
        simp only [List.setIfInBounds_toArray, List.set_cons_succ, List.set_cons_zero]
        refine vtake 12 54 (.int .i64 ((p2 % 5 : Nat) : Int)) rfl rfl (by kernel_rfl) (by kernel_rfl) (by kernel_rfl) (fun _ _ _ _ h => h) (by rfl) (fun W hW => by have u := hW.2.1.cell (i := 1) rfl; clear hS hW; go_simp; rfl) hS ?_
        simp only [List.setIfInBounds_toArray, List.set_cons_succ, List.set_cons_zero]
        refine vtake 13 55 (.pointer (some ⟨w.heap.size, 0, none⟩)) rfl rfl (by kernel_rfl) (by kernel_rfl) (by kernel_rfl) (fun _ _ _ _ h => h) (by rfl) (fun W hW => by clear hS hW; go_simp) hS ?_
        simp only [List.setIfInBounds_toArray, List.set_cons_succ, List.set_cons_zero]
        refine vtake 14 56 (.pointer (some ⟨w.heap.size, p2 / 5 * 5, none⟩)) rfl rfl (by kernel_rfl) (by kernel_rfl) (by kernel_rfl) (fun _ _ _ _ h => h) (by rfl) (fun W hW => by clear hS hW; go_simp; rw [if_pos (by omega)]; rfl) hS ?_
        simp only [List.setIfInBounds_toArray, List.set_cons_succ, List.set_cons_zero]
        refine vtake 15 57 (.pointer (some ⟨w.heap.size, p2 / 5 * 5 + p2 % 5, none⟩)) rfl rfl (by kernel_rfl) (by kernel_rfl) (by kernel_rfl) (fun _ _ _ _ h => h) (by rfl) (fun W hW => by clear hS hW; go_simp; rw [if_pos (by omega)]; rfl) hS ?_
        simp only [List.setIfInBounds_toArray, List.set_cons_succ, List.set_cons_zero]
        refine vtake 16 58 (.int .u8 ((L.getD p2 0).toNat : Nat)) rfl rfl (by kernel_rfl) (by kernel_rfl) (by kernel_rfl) (fun _ _ _ _ h => h) (by rfl) (fun W hW => by have u := hW.2.2.cell (at_cell L (n := p2) (by omega)); clear hS hW; go_simp) hS ?_
        simp only [List.setIfInBounds_toArray, List.set_cons_succ, List.set_cons_zero]
        have hown := HMV.out.own
        have hbv := HMV.out.below
        have hblk := HMV.out.blk
        have hsz : w.heap.size + 1 ≤ V.heap.size := by have := hbv.size; simpa using this
        have HTL : Hid ((twos (mov st L) (t.data.toList.take k)).length = k) := by rw [Hid, twos_len _ _ (by rw [List.length_take]; have := Pl.size_len t; have := HK2.out; omega), List.length_take]; have := Pl.size_len t; omega
        rw [HM1.out, HM2.out] at HTW
        clear HM1 HM2 HR HMV
        generalize L.getD p1 0 = a1 at *
        generalize L.getD p2 0 = a2 at *
        refine wpAnyH_ready (rs := [17]) (by kernel_rfl) (by simp) ?_
        refine AllReadyH.cons (o := _) rfl (fun K hK => ?_) AllReadyH.nil
        rw [if_pos (by rfl)]
        go_simp
        refine hK.out _ _ (⟨hS.1.alloc _, hS.2.1.alloc _, hS.2.2.alloc _⟩) (fun hS1 => ?_)
        clear hK hS K
        have hS := hS1
        clear hS1
        have hownY := World.ownsRow.alloc (World.ownsRow.drew hown) (.cells #[.int .u8 a1.toNat, .int .u8 a2.toNat] 5)
        refine wpAnyH_ready (rs := [18]) (by kernel_rfl) (by simp) ?_
        refine AllReadyH.cons (o := _) rfl (fun K hK => ?_) AllReadyH.nil
        rw [if_pos (by rfl)]
        refine wp_append_own _ _ _ 43 rfl (w.heap.size + 1) 5 i0 (.int .u8 0) 1 1 Try.underlying43 hi0 hz0 hz1 hz2 rfl (by decide) _ _ _ rfl hownY ⟨V.heap.size, 0, none⟩ 2 2 [.int .u8 (a1.toNat : Int), .int .u8 (a2.toNat : Int)] rfl rfl (cell_row_new V.drew #[.int .u8 (a1.toNat : Int), .int .u8 (a2.toNat : Int)] 5) (fun u hu => by simp at hu; rcases hu with rfl | rfl <;> rfl) (by have := HTL.out; unfold maxLen; omega) (by have := HTL.out; omega) (by simp; omega) ?_
        intro v5 w5 hown5 hgrow5 _
        have hbY := (hbv.drew.alloc (by simp; omega) (.cells #[.int .u8 a1.toNat, .int .u8 a2.toNat] 5)).grown hgrow5 (by simp; omega) (fun k hk => (World.ownsRow.lt hown k hk).1)
        refine hK.out _ _ ⟨row_grownBy hS.1 hgrow5 (fun e => (hblk _ e.symm).1 rfl), row_grownBy hS.2.1 hgrow5 (fun e => (hblk _ e.symm).2 rfl), row_grownBy hS.2.2 hgrow5 (fun e => by have := (World.ownsRow.lt hown _ e.symm).1; omega)⟩ (fun hS1 => ?_)
        clear hK hS K
        have hS := hS1
        clear hS1
        simp only [Act.put, List.setIfInBounds_toArray]
        refine vtake 19 7 (v5) rfl rfl (by kernel_rfl) (by kernel_rfl) (by kernel_rfl) (fun _ _ _ _ h => h) (by rfl) (fun W hW => by clear hS hW; go_simp) hS ?_
        simp only [List.setIfInBounds_toArray, List.set_cons_succ, List.set_cons_zero]
        refine wpAnyH_done (by kernel_rfl) ?_ _
        refine NoPanic.normal ?_
        go_wp2_with fail
        go_roundw
        case rel =>
          refine ⟨k + 2, _, by omega, by rw [Hid]; have := HK2.out; omega, by go_num, rfl, ?_, hbY⟩
          rw [HTW.out]
          unfold Kit.Owns
          rw [← cells_two, List.length_append]
          exact hown5
        case measure => simp [intOf]; omega
    · obtain rfl : k = t.size := by omega
      have HW : Hid (twos (mov st L) (t.data.toList.take t.size) = twos (mov st L) t.data.toList) := by rw [Hid, Pl.size_len, List.take_length]
      have hst := Kit.run_string_of_own (P := Try.prog) wr 43 9 5 Try.underlying43 Try.underlying5 Try.underlying9 hown
      rw [HW.out] at hst
      clear HW hown
      go_wp2
      go_ret
      exact ⟨rfl, ((Below.refl _ w).alloc (Nat.le_refl _) _).trans (hbv.mono (by omega))⟩
end Go.Proofs.Ytmabamlhhmjbaad
