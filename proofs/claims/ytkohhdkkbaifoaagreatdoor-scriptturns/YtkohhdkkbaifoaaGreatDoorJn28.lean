/-
  Several texts, joined: PCycF, PType, BKit.
-/
import Derived.Test.YtkohhdkkbaifoaaGreatDoorJn21
import Derived.Test.YtkohhdkkbaifoaaGreatDoorJn27
import Derived.WalkSpells
import Derived.WalkSmall
import Derived.Lib.OthersKept
import Derived.Lib.SmallJoins
import Derived.WalkKit
import Derived.Laws.BytesString
import Derived.Lib.AppendStr
import Derived.Lib.UnsafeStr
/-
  Contracts of perm.cycleFrom and perm.cycles.
-/
namespace Go.Proofs.YtkohhdkkbaifoaaGreatDoor
open Go.RowKit PK
set_option maxRecDepth 100000

/-- Numbers, as the cells of a slice. -/
def nums (l : List Nat) : List Value := l.map fun (i : Nat) => Value.int .i64 (i : Int)
theorem nums_append (l m : List Nat) : nums (l ++ m) = nums l ++ nums m := by simp [nums]
/-- The slice v owns the numbers l, in blocks from B on. -/
def OwnsN (w : World) (B : Nat) (v : Value) (l : List Nat) : Prop := w.ownsRow B 3 1 v l.length (nums l)

theorem info_int3 : (Tryz.prog.info? 3).map (fun i => (i.zero, i.size, i.bytes)) = some (some (.int .i64 0), 1, 8) := by kernel_rfl
def sliceLen : Value → Nat
  | .slice _ n _ => n
  | _ => 0
theorem sliceLen_own {w : World} {B : Nat} {e : TypeId} {v : Value} {n : Nat} {xs : List Value} (h : w.ownsRow B e 1 v n xs) : sliceLen v = n := by
  rcases h.2 with ⟨rfl, h0⟩ | ⟨g, cap, cur, rfl, _⟩
  · rw [h0]; rfl
  · rfl
theorem own_le {w : World} {B B' : Nat} {e : TypeId} {v : Value} {n : Nat} {xs : List Value} (h : w.ownsRow B e 1 v n xs) (hb : B' ≤ B) : w.ownsRow B' e 1 v n xs :=
  ⟨h.1, h.2.imp id fun ⟨g, cap, cur, a, b, c⟩ => ⟨g, cap, cur, a, Nat.le_trans hb b, c⟩⟩
theorem own_formP {w : World} {B : Nat} {e : TypeId} {v : Value} {n : Nat} {xs : List Value} (h : w.ownsRow B e 1 v n xs) (hn : 0 < n) : ∃ g cap, v = .slice (some ⟨g, 0, none⟩) n cap := by
  rcases h.2 with ⟨_, h0⟩ | ⟨g, cap, _, e1, _⟩
  · omega
  · exact ⟨g, cap, e1⟩
theorem own_below {w w' : World} {B : Nat} {e : TypeId} {v : Value} {n : Nat} {xs : List Value} (h : w.ownsRow B e 1 v n xs) (hb : Below w.heap.size w w') : w'.ownsRow B e 1 v n xs :=
  ⟨h.1, h.2.imp id fun ⟨g, cap, cur, a, b, c, d⟩ => ⟨g, cap, cur, a, b, (hb.block g (Array.getElem?_eq_some_iff.1 c).1).trans c, d⟩⟩
theorem own_apart {w : World} {B B' : Nat} {e e' : TypeId} {v v' : Value} {n n' : Nat} {xs xs' : List Value} (h : w.ownsRow B e 1 v n xs) (h' : w.ownsRow B' e' 1 v' n' xs') (he : e ≠ e') : v.ownBlock = none ∨ v.ownBlock ≠ v'.ownBlock := by
  rcases h.2 with ⟨rfl, _⟩ | ⟨g, cap, cur, rfl, _, hc, _⟩
  · exact .inl rfl
  · rcases h'.2 with ⟨rfl, _⟩ | ⟨g', cap', cur', rfl, _, hc', _⟩
    · exact .inr (by simp [Value.ownBlock])
    · refine .inr fun e1 => ?_
      simp [Value.ownBlock] at e1
      rw [e1, hc'] at hc
      simp at hc
      exact he hc.2.symm
/-- The slice v owns slices that own the lists ls. -/
def OwnsAll (w : World) (B : Nat) (v : Value) (ls : List (List Nat)) : Prop :=
  ∃ vs : List Value, w.ownsRow B 25 1 v ls.length vs ∧ ∀ (k : Nat) (u : Value) (l : List Nat), vs[k]? = some u → ls[k]? = some l → OwnsN w B u l
theorem OwnsAll.nil (w : World) (B : Nat) : OwnsAll w B (.slice none 0 0) [] := ⟨[], World.ownsRow_nil w B _ 1, fun k u l h _ => by simp at h⟩
theorem OwnsAll.below {w w' : World} {B : Nat} {v : Value} {ls : List (List Nat)} (h : OwnsAll w B v ls) (hb : Below w.heap.size w w') : OwnsAll w' B v ls := by
  obtain ⟨vs, h1, h2⟩ := h
  exact ⟨vs, own_below h1 hb, fun k u l a b => own_below (h2 k u l a b) hb⟩
theorem OwnsAll.alloc {w : World} {B : Nat} {v : Value} {ls : List (List Nat)} (h : OwnsAll w B v ls) (o : Obj) : OwnsAll (w.alloc o) B v ls := by
  obtain ⟨vs, h1, h2⟩ := h
  exact ⟨vs, h1.alloc o, fun k u l a b => World.ownsRow.alloc (h2 k u l a b) o⟩
theorem OwnsAll.set {w : World} {B : Nat} {v : Value} {ls : List (List Nat)} (h : OwnsAll w B v ls) {a : Addr} (ha : a.block < B) (x : Value) : OwnsAll (w.setCell a x) B v ls := by
  obtain ⟨vs, h1, h2⟩ := h
  exact ⟨vs, ownsRow_setCell_below h1 ha x, fun k u l a b => ownsRow_setCell_below (h2 k u l a b) ha x⟩
theorem OwnsAll.le {w : World} {B B' : Nat} {v : Value} {ls : List (List Nat)} (h : OwnsAll w B v ls) (hb : B' ≤ B) : OwnsAll w B' v ls := by
  obtain ⟨vs, h1, h2⟩ := h
  exact ⟨vs, own_le h1 hb, fun k u l a b => own_le (h2 k u l a b) hb⟩
/-- One more is appended. -/
theorem OwnsAll.app {w w' : World} {B : Nat} {v v' u : Value} {ls : List (List Nat)} {l : List Nat} {vs : List Value} (h1 : w.ownsRow B 25 1 v ls.length vs) (h2 : ∀ (k : Nat) (u : Value) (l : List Nat), vs[k]? = some u → ls[k]? = some l → OwnsN w B u l)
    (hu : OwnsN w B u l) (h' : w'.ownsRow B 25 1 v' (ls.length + 1) (vs ++ [u])) (hg : w.grownBy w' v.ownBlock) : OwnsAll w' B v' (ls ++ [l]) := by
  have hlen : vs.length = ls.length := by have := h1.1; omega
  refine ⟨vs ++ [u], by simpa using h', fun k a b ha hb => ?_⟩
  have keep : ∀ a b, OwnsN w B a b → OwnsN w' B a b := fun a b h => World.ownsRow.kept h hg (own_apart h h1 (by decide))
  by_cases hk : k < ls.length
  · rw [List.getElem?_append_left (by omega)] at ha
    rw [List.getElem?_append_left hk] at hb
    exact keep _ _ (h2 k a b ha hb)
  · have hk' : k = ls.length := by
      have := (List.getElem?_eq_some_iff.1 hb).1
      simp at this
      omega
    subst hk'
    rw [← hlen] at ha
    simp at ha hb
    subst ha hb
    exact keep _ _ hu
/-- A block below what is owned is as it was behind an append. -/
theorem row_grown {W W' : World} {b : Nat} {T : TypeId} {c : Array Value} {row : Option Nat} (h : RowAt W b T c) (hg : W.grownBy W' row) (hr : ∀ k, row = some k → b + 1 ≤ k) : RowAt W' b T c :=
  h.below ((Below.refl (b + 1) W).grown hg h.lt hr) (Nat.lt_succ_self _)

set_option maxHeartbeats 2000000 in
theorem cycleFrom_any (p : Nat → Nat) (hp : Pm.IsPerm p) (i : Nat) (hi : i < 26) (w : World) :
    Calls Tryz.prog 225 #[.agg (ints 26 (Pm.up p)), .int .i64 (i : Nat)] w fun e w' => ∃ v, e = .returned v ∧ OwnsN w' w.heap.size v (Pm.cyc p i) ∧ Below w.heap.size w w' := by
  obtain ⟨i0, hi0, hz0, hz1, hz2⟩ := info_parts info_int3
  have hlen := Pm.len_is hp i hi
  go_enter Tryz.func225, Tryz.ntmps225
  have hpi := hp.lt i hi
  have hc0 : (ints 26 (Pm.up p))[i]? = some (.int .i64 (p i : Nat)) := ints_get (Pm.up p) hi
  go_wp2
  go_loopw [5, 6] (fun v a W => ∃ m : Nat, 1 ≤ m ∧ m ≤ Pm.len p i ∧ a = .int .i64 (Pm.iter p m i : Nat) ∧ OwnsN W (w.heap.size + 1) v ((List.range m).map fun k => Pm.iter p k i) ∧ RowAt W w.heap.size 27 (ints 26 (Pm.up p)) ∧ Below w.heap.size w W) (fun v _ _ => 27 - sliceLen v)
  case atStart =>
    refine ⟨1, Nat.le_refl _, hlen.pos, rfl, ⟨by simp [nums], .inr ⟨w.heap.size + 1, 1, #[.int .i64 (i : Nat)], rfl, by omega, ?_, Nat.le_refl _, by decide, rfl, rfl⟩⟩, (RowAt.new w _ _).alloc _, ((Below.refl _ _).alloc (Nat.le_refl _) _).alloc (by simp) _⟩
    exact RowAt.newAt (by simp)
  case round =>
    obtain ⟨m, hm1, hm2, rfl, hown, hrow, hb⟩ := hrel
    have hsz := hrow.lt
    have hx := Pm.iter_lt hp i hi m
    have hle := hlen.le
    by_cases hlt : m < Pm.len p i
    · have hne : ((Pm.iter p m i : Nat) : Int) ≠ ((i : Nat) : Int) := by have := hlen.min m (by omega) hlt; omega
      have HS : Hid (Pm.iter p (m + 1) i = p (Pm.iter p m i)) := rfl
      obtain ⟨x, hxx⟩ : ∃ x, x = Pm.iter p m i := ⟨_, rfl⟩
      have HX : Hid (x = Pm.iter p m i) := hxx
      rw [← hxx] at hne hx HS ⊢
      clear hxx
      have hbne : (((x : Nat) : Int) != ((i : Nat) : Int)) = true := by simpa using hne
      clear hne
      have hcx : (ints 26 (Pm.up p))[x]? = some (.int .i64 (p x : Nat)) := ints_get (Pm.up p) hx
      have hlm : ((List.range m).map fun k => Pm.iter p k i).length = m := by simp
      go_wp2_with (first
        | (at_builtin; refine wpList_append_own _ rfl _ _ 25 rfl (w.heap.size + 1) 3 i0 (.int .i64 0) 1 8 Tryz.underlying25 hi0 hz0 hz1 hz2 rfl (by decide) _ _ _ rfl (World.ownsRow.alloc hown _) ⟨wr.heap.size, 0, none⟩ 1 1 [.int .i64 (x : Nat)] rfl rfl (cell_one_new _ _ _) (fun u hu => by simp at hu; subst hu; rfl) (by rw [hlm]; unfold maxLen; omega) (by rw [hlm]; omega) (by simp; omega) ?_; intro v' w1 hown' hgrow _; have hrow1 : RowAt w1 w.heap.size 27 (ints 26 (Pm.up p)) := row_grown (hrow.alloc _) hgrow (fun k hk => (World.ownsRow.lt hown k hk).1); have hc1 := hrow1.cell hcx))
      go_roundw
      case rel =>
        refine ⟨m + 1, by omega, by omega, by rw [HS.out], ?_, hrow1, ?_⟩
        · have e1 : ((List.range (m + 1)).map fun k => Pm.iter p k i) = ((List.range m).map fun k => Pm.iter p k i) ++ [x] := by rw [List.range_succ, List.map_append]; simp [HX.out]
          rw [e1, OwnsN, nums_append, List.length_append]
          exact hown'
        · exact (hb.alloc (by omega) _).grown hgrow (by simp; omega) (fun k hk => by have := (World.ownsRow.lt hown k hk).1; omega)
      case measure =>
        have h1 := sliceLen_own hown
        have h2 := sliceLen_own hown'
        simp at h1 h2 ⊢
        omega
    · have HM : Hid (m = Pm.len p i) := by rw [Hid]; omega
      have hret : Pm.iter p m i = i := by rw [HM.out]; exact hlen.ret
      have hbe : (((Pm.iter p m i : Nat) : Int) != ((i : Nat) : Int)) = false := by rw [hret]; simp
      clear hret
      go_wp2
      go_ret
      refine ⟨_, rfl, ?_, hb⟩
      have := own_le hown (B' := w.heap.size) (by omega)
      rw [HM.out] at this
      exact this

theorem info_ints3 : (Tryz.prog.info? 25).map (fun i => (i.zero, i.size, i.bytes)) = some (some (.slice none 0 0), 1, 24) := by kernel_rfl
theorem mark_step (f : Nat → Bool) (c : List Nat) (j x : Nat) (h : c[j]? = some x) : bools 26 (upd (fun y => f y || (c.take j).contains y) x true) = bools 26 (fun y => f y || (c.take (j + 1)).contains y) := bools_ext fun y _ => by
  have hj := (List.getElem?_eq_some_iff.1 h).1
  have hx := (List.getElem?_eq_some_iff.1 h).2
  have e1 : c.take (j + 1) = c.take j ++ [x] := by rw [List.take_succ_eq_append_getElem hj, hx]
  rw [e1]
  by_cases e : y = x
  · subst e; simp
  · rw [upd_other _ _ e]
    simp [e]

set_option maxHeartbeats 4000000 in
theorem cycles_any (p : Nat → Nat) (hp : Pm.IsPerm p) (w : World) :
    Calls Tryz.prog 195 #[.agg (ints 26 (Pm.up p))] w fun e w' => ∃ v, e = .returned v ∧ OwnsAll w' w.heap.size v (Pm.cycs p 26) ∧ Below w.heap.size w w' := by
  obtain ⟨i0, hi0, hz0, hz1, hz2⟩ := info_parts info_ints3
  go_enter Tryz.func195, Tryz.ntmps195
  go_wp2
  rw [none26]
  go_loopw [3, 9] (fun v i W => ∃ k : Nat, k ≤ 26 ∧ i = .int .i64 k ∧ OwnsAll W (w.heap.size + 2) v (Pm.cycs p k) ∧ RowAt W w.heap.size 27 (ints 26 (Pm.up p)) ∧ RowAt W (w.heap.size + 1) 181 (bools 26 (Pm.met p k)) ∧ Below w.heap.size w W) (fun _ i _ => (26 - intOf i).toNat)
  case atStart => exact ⟨0, by omega, rfl, OwnsAll.nil _ _, (RowAt.new w _ _).alloc _, RowAt.newAt (by simp), ((Below.refl _ _).alloc (Nat.le_refl _) _).alloc (by simp) _⟩
  case round =>
    obtain ⟨k, hk, rfl, hall, hrp, hrs, hb⟩ := hrel
    have hsz := hrs.lt
    by_cases hlt : k < 26
    · have hc := hrs.cell (bools_get (Pm.met p k) hlt)
      cases hm : Pm.met p k k
      · rw [hm] at hc
        have HM : Hid (Pm.met p k k = false) := hm
        clear hm
        go_wp2_with (refine wpList_load_row rfl 27 _ rfl w.heap.size rfl 27 (ints 26 (Pm.up p)) (0, 0) _ hrp Tryz.underlying27 rfl (by rw [ints_size]; exact info_perm) ?_)
        refine (cycleFrom_any p hp k hlt _).mono ?_
        rintro e w1 ⟨u, rfl, hu0, hb1⟩
        have hu := own_le (B' := w.heap.size + 2) hu0 (by omega)
        have hlen := Pm.len_is hp k hlt
        have hcl := Pm.cyc_length p k
        obtain ⟨g, cap, hform⟩ := own_formP hu (by have := hlen.pos; omega)
        have hall1 := hall.below hb1
        have hrp1 := hrp.below hb1 hrp.lt
        have hrs1 := hrs.below hb1 hsz
        have hb' := hb.trans (hb1.mono (by omega))
        have hsz1 := hb1.size
        subst hform
        clear hu0 hall hrp hrs hc hb hb1
        have HCL : Hid ((Pm.cyc p k).length = Pm.len p k) := hcl
        clear hcl
        obtain ⟨n, hn⟩ : ∃ n, n = (Pm.cyc p k).length := ⟨_, rfl⟩
        have HN : Hid (n = (Pm.cyc p k).length) := hn
        have hn26 : n ≤ 26 := by rw [HN.out, HCL.out]; exact hlen.le
        rw [← hn] at hu ⊢
        clear hn
        go_wp2
        go_loopw [20] (fun j W => ∃ m : Nat, m ≤ n ∧ j = .int .i64 m ∧ OwnsAll W (w.heap.size + 2) u3 (Pm.cycs p k) ∧ OwnsN W (w.heap.size + 2) (.slice (some ⟨g, 0, none⟩) n cap) (Pm.cyc p k) ∧ RowAt W w.heap.size 27 (ints 26 (Pm.up p)) ∧ RowAt W (w.heap.size + 1) 181 (bools 26 fun y => Pm.met p k y || ((Pm.cyc p k).take m).contains y) ∧ Below w.heap.size w W ∧ w.heap.size + 2 ≤ W.heap.size) (fun j _ => (n - intOf j).toNat)
        case atStart =>
          refine ⟨0, by omega, rfl, hall1, by rw [OwnsN, ← HN.out]; exact hu, hrp1, ?_, hb', by omega⟩
          rw [bools_ext (g := Pm.met p k) fun y _ => by simp]
          exact hrs1
        case round =>
          clear hall1 hu hrp1 hrs1 hb'
          obtain ⟨m, hm, rfl, hall, hu, hrp, hrs, hb, hsz2⟩ := hrel
          by_cases hmn : m < n
          · obtain ⟨x, hx⟩ : ∃ x, (Pm.cyc p k)[m]? = some x := ⟨(Pm.cyc p k)[m]'(by rw [← HN.out]; exact hmn), List.getElem?_eq_getElem _⟩
            have hx26 : x < 26 := Pm.cyc_lt hp k hlt x (List.mem_of_getElem? hx)
            have hcx : wr.cell? ⟨g, m, none⟩ = some (.int .i64 (x : Nat)) := by
              have h1 := hu
              rw [OwnsN, ← HN.out] at h1
              rw [World.ownsRow.cellAt h1 m (by omega)]
              simp [nums, hx]
            have HX : Hid ((Pm.cyc p k)[m]? = some x) := hx
            clear hx
            have hcs := hrs.cell (bools_get (fun y => Pm.met p k y || ((Pm.cyc p k).take m).contains y) hx26)
            have hfs := hrs.frozen x
            go_wp2
            go_roundw
            case rel =>
              refine ⟨m + 1, by omega, by go_num, hall.set (by simp) _, ownsRow_setCell_below hu (by simp) _, hrp.setOther _ _ (by simp), ?_, hb.setCell (by simp) _, by simpa using hsz2⟩
              rw [← mark_step (Pm.met p k) (Pm.cyc p k) m x HX.out, ← bools_set]
              exact hrs.set x _
            case measure => simp [intOf]; omega
          · have HMN : Hid (m = n) := by rw [Hid]; omega
            obtain ⟨vs, hv1, hv2⟩ := hall
            have hcl2 := Pm.cycs_len p k
            go_wp2_with (first
              | (at_builtin; refine wpList_append_own _ rfl _ _ 23 rfl (w.heap.size + 2) 25 i0 (.slice none 0 0) 1 24 Tryz.underlying23 hi0 hz0 hz1 hz2 rfl (by decide) _ _ _ rfl (World.ownsRow.alloc hv1 _) ⟨wr.heap.size, 0, none⟩ 1 1 [.slice (some ⟨g, 0, none⟩) n cap] rfl rfl (cell_one_new _ _ _) (fun u hu => by simp at hu; subst hu; rfl) (by unfold maxLen; omega) (by omega) (by simp; omega) ?_; intro v' w2 hown' hgrow _))
            go_roundw
            case rel =>
              refine ⟨k + 1, by omega, by go_num, ?_, row_grown (hrp.alloc _) hgrow (fun j hj => by have := (World.ownsRow.lt hv1 j hj).1; omega), ?_, (hb.alloc (by omega) _).grown hgrow (by simp; omega) (fun j hj => by have := (World.ownsRow.lt hv1 j hj).1; omega)⟩
              · unfold Pm.cycs
                rw [if_neg (by rw [HM.out]; simp)]
                exact OwnsAll.app (World.ownsRow.alloc hv1 _) (fun a b c d e => World.ownsRow.alloc (hv2 a b c d e) _) (World.ownsRow.alloc hu _) hown' hgrow
              · have e1 : (Pm.cyc p k).take m = Pm.cyc p k := List.take_of_length_le (by rw [HMN.out, HN.out]; exact Nat.le_refl _)
                rw [e1] at hrs
                rw [bools_ext (g := fun y => Pm.met p k y || (Pm.cyc p k).contains y) fun y _ => Pm.met_succ p k y]
                exact row_grown (hrs.alloc _) hgrow (fun j hj => by have := (World.ownsRow.lt hv1 j hj).1; omega)
            case measure => simp [intOf]; omega
      · rw [hm] at hc
        have HM : Hid (Pm.met p k k = true) := hm
        clear hm
        go_wp2
        go_roundw
        case rel => exact ⟨k + 1, by omega, by go_num, by unfold Pm.cycs; rw [if_pos HM.out]; exact hall, hrp, by rw [bools_ext fun x _ => Pm.met_again hp k hlt HM.out x]; exact hrs, hb⟩
        case measure => simp [intOf]; omega
    · have HK : Hid (k = 26) := by rw [Hid]; omega
      go_wp2
      go_ret
      refine ⟨_, rfl, ?_, hb⟩
      have := hall.le (B' := w.heap.size) (by omega)
      rw [HK.out] at this
      exact this
end Go.Proofs.YtkohhdkkbaifoaaGreatDoor

/-
  Contracts of perm.lengthsOf and perm.Type.
-/
namespace Go.Proofs.YtkohhdkkbaifoaaGreatDoor
open Go.RowKit PK

theorem cycs_pos {p : Nat → Nat} (hp : Pm.IsPerm p) : 0 < (Pm.cycs p 26).length := by
  apply Nat.pos_of_ne_zero
  intro h
  have := Pm.flat_length hp
  rw [List.eq_nil_of_length_eq_zero h] at this
  simp at this
theorem cycs_each {p : Nat → Nat} (hp : Pm.IsPerm p) : ∀ l ∈ Pm.cycs p 26, 0 < l.length ∧ l.length ≤ 26 := fun l hl => by
  obtain ⟨i, hi, rfl, _⟩ := Pm.mem_cycs p 26 l hl
  rw [Pm.cyc_length]
  have := Pm.len_is hp i hi
  exact ⟨this.pos, this.le⟩

end Go.Proofs.YtkohhdkkbaifoaaGreatDoor

/-
  Laws of no program: bytes that a call owns, and what 'string(b)' makes of them.
-/
namespace Go.Proofs.YtkohhdkkbaifoaaGreatDoor.BKit
open Go.RowKit

/-- The slice v owns the bytes l, in blocks from B on (e: the byte type's number). -/
def Owns (w : World) (B : Nat) (e : TypeId) (v : Value) (l : List UInt8) : Prop := w.ownsRow B e 1 v l.length (Lib.byteCells l)

theorem foldl_push : ∀ (l : List UInt8) (s : ByteArray), (l.map fun b => (b.toNat : Int)).foldl (fun r n => r.push (UInt8.ofNat n.toNat)) s = ⟨s.data ++ l.toArray⟩
  | [], s => by cases s; simp
  | c :: t, s => by
    simp only [List.map_cons, List.foldl_cons]
    rw [foldl_push t]
    cases s
    simp [ByteArray.push]

theorem run_string_of_own {P : Program} (w : World) (src dst e : TypeId) (hs : P.underlying src = some (.slice e)) (he : P.underlying e = some (.int .u8)) (hd : P.underlying dst = some .string)
    {B : Nat} {v : Value} {l : List UInt8} (h : Owns w B e v l) : (convert src dst v).run P w = .ok (.string ⟨l.toArray⟩) w := by
  rcases h.2 with ⟨rfl, h0⟩ | ⟨g, cap, cur, rfl, _⟩
  · have : l = [] := List.eq_nil_of_length_eq_zero h0
    subst this
    rw [run_convert_bytes_string w src dst e _ _ _ hs he hd]
    simp [Conv.bytesToString, Sem.run_pure]
    rfl
  · rw [run_convert_bytes_string w src dst e _ _ _ hs he hd]
    have hl := run_loadCells_list (P := P) (w := w) ⟨g, 0, none⟩ (Lib.byteCells l) (h.cells rfl)
    rw [Lib.byteCells_length] at hl
    have e1 : Lib.byteCells l = (l.map fun b => (b.toNat : Int)).map (Value.int .u8) := by simp [Lib.byteCells]
    rw [e1] at hl
    rw [run_bytesToString w _ _ _ _ hl, foldl_push]
    simp

theorem Owns.nil (w : World) (B : Nat) (e : TypeId) : Owns w B e (.slice none 0 0) [] := World.ownsRow_nil w B e 1
theorem Owns.lt {w : World} {B : Nat} {e : TypeId} {v : Value} {l : List UInt8} (h : Owns w B e v l) : ∀ k, v.ownBlock = some k → B ≤ k ∧ k < w.heap.size := World.ownsRow.lt h
theorem Owns.kind {w : World} {B : Nat} {e : TypeId} {v : Value} {l : List UInt8} (h : Owns w B e v l) : ∀ g, v.ownBlock = some g → ∃ c fz, w.heap[g]? = some (.cells c e fz) := Lib.ownsRowF_kind (World.ownsRowF_of h)
/-- Behind a law on append: what is owned, and that below B and among the other blocks nothing has turned. -/
theorem Owns.grown {w W w' : World} {B : Nat} {e : TypeId} {v v' : Value} {l m : List UInt8} {n : Nat} {xs : List Value} (h : Owns W B e v l) (hBw : B ≤ W.heap.size) (hb : Below B w W) (hk : Lib.OthersKept e none w W)
    (h' : w'.ownsRow B e 1 v' n xs) (hn : n = (l ++ m).length) (hx : xs = Lib.byteCells (l ++ m)) (hg : W.grownBy w' v.ownBlock) :
    Owns w' B e v' (l ++ m) ∧ Below B w w' ∧ Lib.OthersKept e none w w' := by
  subst hn hx
  exact ⟨h', hb.grown hg hBw (fun k hk => (h.lt k hk).1), hk.grown hg h.kind⟩
/-- A result's two cells, laid first: they read as they did in every later world that keeps what lies below the next block. -/
theorem two_cells {w W : World} {a b : Value} {T : TypeId} (h : Below (w.heap.size + 1) (w.alloc (.cells #[a, b] T)) W) :
    W.cell? ⟨w.heap.size, 0, none⟩ = some a ∧ W.cell? ⟨w.heap.size, 1, none⟩ = some b ∧ W.frozen? ⟨w.heap.size, 0, none⟩ = false ∧ W.frozen? ⟨w.heap.size, 1, none⟩ = false ∧ w.heap.size < W.heap.size := by
  have hs := h.size
  simp at hs
  refine ⟨?_, ?_, ?_, ?_, by omega⟩
  · rw [h.cell (p := ⟨w.heap.size, 0, none⟩) (by simp)]; simp
  · rw [h.cell (p := ⟨w.heap.size, 1, none⟩) (by simp)]; simp
  · rw [h.frozen (p := ⟨w.heap.size, 0, none⟩) (by simp)]; simp
  · rw [h.frozen (p := ⟨w.heap.size, 1, none⟩) (by simp)]; simp
theorem read_two {W : World} {N : Nat} {a' b' : Value} (a b : Value) (h0 : W.cell? ⟨N, 0, none⟩ = some a') (h1 : W.cell? ⟨N, 1, none⟩ = some b') :
    ((W.setCell ⟨N, 0, none⟩ a).setCell ⟨N, 1, none⟩ b).cell? ⟨N, 0, none⟩ = some a ∧ ((W.setCell ⟨N, 0, none⟩ a).setCell ⟨N, 1, none⟩ b).cell? ⟨N, 1, none⟩ = some b := by
  have e0 := World.cell?_setCell_same W ⟨N, 0, none⟩ a h0
  have e1 : (W.setCell ⟨N, 0, none⟩ a).cell? ⟨N, 1, none⟩ = some b' := (World.cell?_setCell_other W _ _ _ (by simp)).trans h1
  exact ⟨(World.cell?_setCell_other _ _ _ _ (by simp)).trans e0, World.cell?_setCell_same _ _ _ e1⟩
theorem below_two {w W : World} {a b : Value} {T : TypeId} (h : Below (w.heap.size + 1) (w.alloc (.cells #[a, b] T)) W) (x y : Value) :
    Below w.heap.size w ((W.setCell ⟨w.heap.size, 0, none⟩ x).setCell ⟨w.heap.size, 1, none⟩ y) :=
  ((((Below.refl _ w).alloc (Nat.le_refl _) _).trans (h.mono (by omega))).setCell (by simp) _).setCell (by simp) _
end Go.Proofs.YtkohhdkkbaifoaaGreatDoor.BKit
