/-
  Several texts, joined: NMath, NRef, NRPa, NRIx, NRPe, TMath.
-/
import Derived.Test.YtkohhdkkbaifoaaGreatDoorJn3
import Derived.Test.YtkohhdkkbaifoaaGreatDoorJn31
import Derived.RegionTactic
import Derived.BigRegion
/-
  Letters counted: the mathematics.
-/
namespace Go.Proofs.YtkohhdkkbaifoaaGreatDoor.Tl
open Vg Fl

/-- How often the letter c stands in a text. -/
def cnt (l : List UInt8) (c : Nat) : Nat := l.countP fun b => Vg.num b == c
theorem cnt_le (l : List UInt8) (c : Nat) : cnt l c ≤ l.length := List.countP_le_length
theorem cnt_append (a b : List UInt8) (c : Nat) : cnt (a ++ b) c = cnt a c + cnt b c := List.countP_append
theorem cnt_one (x : UInt8) (c : Nat) : cnt [x] c = if Vg.num x = c then 1 else 0 := by
  unfold cnt
  by_cases h : Vg.num x = c <;> simp [h]
/-- The letters of one column. -/
def col (l : List UInt8) (n c : Nat) : List UInt8 := ((List.range l.length).filter fun i => i % n == c).map fun i => l.getD i 0
/-- .. among the first m. -/
def colTo (l : List UInt8) (n c m : Nat) : List UInt8 := ((List.range m).filter fun i => i % n == c).map fun i => l.getD i 0
theorem colTo_succ (l : List UInt8) (n c m : Nat) : colTo l n c (m + 1) = if m % n = c then colTo l n c m ++ [l.getD m 0] else colTo l n c m := by
  unfold colTo
  rw [List.range_succ, List.filter_append]
  by_cases h : m % n = c
  · rw [if_pos h]; simp [h]
  · rw [if_neg h]; simp [h]
theorem colTo_le (l : List UInt8) (n c m : Nat) : (colTo l n c m).length ≤ m := by
  unfold colTo
  rw [List.length_map]
  exact Nat.le_trans (List.length_filter_le _ _) (by simp)
theorem col_ls {l : List UInt8} (h : Ls l) (n c : Nat) : Ls (col l n c) := by
  intro x hx
  obtain ⟨i, hi, rfl⟩ := List.mem_map.1 hx
  have := (List.mem_filter.1 hi).1
  exact h.at (by simpa using this)
def sumTo (f : Nat → Nat) : Nat → Nat
  | 0 => 0
  | k + 1 => sumTo f k + f k
theorem sumTo_congr {f g : Nat → Nat} : ∀ {n : Nat}, (∀ k, k < n → f k = g k) → sumTo f n = sumTo g n
  | 0, _ => rfl
  | n + 1, h => by
    show sumTo f n + f n = sumTo g n + g n
    rw [sumTo_congr fun k hk => h k (by omega), h n (by omega)]
theorem sumTo_list (f : Nat → Nat) : ∀ n, sumTo f n = ((List.range n).map f).sum
  | 0 => rfl
  | n + 1 => by
    rw [List.range_succ, List.map_append, List.sum_append]
    show sumTo f n + f n = _
    rw [sumTo_list f n]
    simp
theorem sumTo_perm (f σ : Nat → Nat) {n : Nat} (h : ((List.range n).map σ).Perm (List.range n)) : sumTo (fun k => f (σ k)) n = sumTo f n := by
  rw [sumTo_list, sumTo_list]
  have := (h.map f).sum_nat
  rw [List.map_map] at this
  exact this
/-- Pairs of unlike places with the same letter, and all such pairs, of all columns. -/
def alikeC (l : List UInt8) (n c : Nat) : Nat := sumTo (fun k => cnt (col l n c) k * (cnt (col l n c) k - 1)) 26
def alike (l : List UInt8) (n : Nat) : Nat := sumTo (alikeC l n) n
def allP (l : List UInt8) (n : Nat) : Nat := sumTo (fun c => (col l n c).length * ((col l n c).length - 1)) n
theorem back_perm : ∀ b : Fin 26, ((List.range 26).map fun k => back 1 k b).Perm (List.range 26) ∧ ((List.range 26).map fun k => back 2 k b).Perm (List.range 26) ∧ ((List.range 26).map fun k => back 3 k b).Perm (List.range 26) := by decide +kernel
theorem perm_back {kind b : Nat} (h : 1 ≤ kind ∧ kind ≤ 3) (hb : b < 26) : ((List.range 26).map fun k => back kind k b).Perm (List.range 26) := by
  have := back_perm ⟨b, hb⟩
  rcases (by omega : kind = 1 ∨ kind = 2 ∨ kind = 3) with rfl | rfl | rfl
  · exact this.1
  · exact this.2.1
  · exact this.2.2
/-- Letters moved by one key letter: counts change their places alone. -/
theorem cnt_there {kind b k : Nat} (hb : b < 26) (hk : k < 26) : ∀ {l : List UInt8}, Ls l → cnt (l.map fun a => ltr (there kind (Vg.num a) b)) k = cnt l (back kind k b)
  | [], _ => rfl
  | a :: l, h => by
    have ih := cnt_there (kind := kind) hb hk (fun c hc => h c (List.mem_cons_of_mem _ hc) : Ls l)
    have ha := num_lt (h a (by simp))
    have e : Vg.num (ltr (there kind (Vg.num a) b)) = k ↔ Vg.num a = back kind k b := by
      rw [num_ltr (there_lt _ _ _)]
      constructor
      · intro e; rw [← e, back_there kind ha hb]
      · intro e; rw [e, there_back kind hk hb]
    have h1 := cnt_append [ltr (there kind (Vg.num a) b)] (l.map fun a => ltr (there kind (Vg.num a) b)) k
    have h2 := cnt_append [a] l (back kind k b)
    rw [cnt_one] at h1 h2
    show cnt ([ltr (there kind (Vg.num a) b)] ++ l.map fun a => ltr (there kind (Vg.num a) b)) k = cnt ([a] ++ l) (back kind k b)
    rw [h1, h2, ih]
    by_cases hc : Vg.num a = back kind k b
    · rw [if_pos hc, if_pos (e.2 hc)]
    · rw [if_neg hc, if_neg (fun h => hc (e.1 h))]
theorem col_write {kind : Nat} (h4 : kind ≠ 4) {k t : List UInt8} {c : Nat} : col (writeL kind k t) k.length c = (col t k.length c).map fun a => ltr (there kind (Vg.num a) (Vg.num (k.getD c 0))) := by
  unfold col
  rw [writeL_length, List.map_map]
  apply List.map_congr_left
  intro i hi
  obtain ⟨h1, h2⟩ := List.mem_filter.1 hi
  have hi2 : i < t.length := by simpa using h1
  have hm : i % k.length = c := by simpa using h2
  rw [writeL_at kind k t hi2]
  have : kat kind k t i = Vg.num (k.getD c 0) := by unfold kat; rw [if_neg (fun e => h4 e.1), hm]
  rw [this]
  rfl
/-- FRIEDMAN: how often two letters are alike is said by no key. -/
theorem alike_write {kind : Nat} (h : 1 ≤ kind ∧ kind ≤ 3) {k t : List UInt8} (hk : Ls k) (ht : Ls t) : alike (writeL kind k t) k.length = alike t k.length := by
  unfold alike
  refine sumTo_congr fun c hc => ?_
  unfold alikeC
  rw [col_write (by omega)]
  have hb := num_lt (hk.at hc)
  rw [sumTo_congr (g := fun q => cnt (col t k.length c) (back kind q (Vg.num (k.getD c 0))) * (cnt (col t k.length c) (back kind q (Vg.num (k.getD c 0))) - 1)) (fun q hq => by rw [cnt_there hb hq (col_ls ht _ _)])]
  exact sumTo_perm (fun q => cnt (col t k.length c) q * (cnt (col t k.length c) q - 1)) (fun q => back kind q (Vg.num (k.getD c 0))) (perm_back h hb)
theorem allP_write {kind : Nat} {k t : List UInt8} (n : Nat) : allP (writeL kind k t) n = allP t n := by
  unfold allP
  refine sumTo_congr fun c _ => ?_
  have : (col (writeL kind k t) n c).length = (col t n c).length := by unfold col; rw [List.length_map, List.length_map, writeL_length]
  rw [this]
/-- What is to be expected, what it is less, its square, over what is to be expected: bit by bit. -/
def wantB (len w : Nat) : Nat := (D.mul (floatOfInt .f64 (len : Int)) w).getD 0
def difB (n len w : Nat) : Nat := (D.sub (floatOfInt .f64 (n : Int)) (wantB len w)).getD 0
def sqB (n len w : Nat) : Nat := (D.mul (difB n len w) (difB n len w)).getD 0
def quoB (n len w : Nat) : Nat := (D.div (sqB n len w) (wantB len w)).getD 0
/-- How far a text is, moved back by s letters: the first m letters' part. C: how often each letter stands in it. -/
def farTo (C : Nat → Nat) (len : Nat) (w : Nat → Nat) (s : Nat) : Nat → Nat
  | 0 => 0
  | m + 1 => (D.add (farTo C len w s m) (quoB (C ((m + s) % 26)) len (w m))).getD 0
def far (C : Nat → Nat) (len : Nat) (w : Nat → Nat) (s : Nat) : Nat := farTo C len w s 26
/-- In lowest terms: what the rests leave is the greatest common divisor. -/
theorem gcd_step (a b : Nat) : Nat.gcd (b % a) a = Nat.gcd a b := (Nat.gcd_rec a b).symm
/-- How many there are. -/
theorem sumTo_add (f g : Nat → Nat) : ∀ n, sumTo (fun k => f k + g k) n = sumTo f n + sumTo g n
  | 0 => rfl
  | n + 1 => by
    show sumTo (fun k => f k + g k) n + (f n + g n) = sumTo f n + f n + (sumTo g n + g n)
    rw [sumTo_add f g n]; omega
theorem sumTo_le {f g : Nat → Nat} : ∀ {n : Nat}, (∀ k, k < n → f k ≤ g k) → sumTo f n ≤ sumTo g n
  | 0, _ => Nat.le_refl _
  | n + 1, h => Nat.add_le_add (sumTo_le fun k hk => h k (by omega)) (h n (by omega))
theorem sumTo_mul (f : Nat → Nat) (a : Nat) : ∀ n, sumTo (fun k => f k * a) n = sumTo f n * a
  | 0 => by simp [sumTo]
  | n + 1 => by
    show sumTo (fun k => f k * a) n + f n * a = (sumTo f n + f n) * a
    rw [sumTo_mul f a n, Nat.add_mul]
theorem sumTo_ind (x : Nat) : ∀ n, sumTo (fun k => if x = k then 1 else 0) n = if x < n then 1 else 0
  | 0 => by simp [sumTo]
  | n + 1 => by
    show sumTo (fun k => if x = k then 1 else 0) n + (if x = n then 1 else 0) = _
    rw [sumTo_ind x n]
    by_cases h1 : x < n
    · rw [if_pos h1, if_neg (by omega), if_pos (by omega)]
    · by_cases h2 : x = n
      · rw [if_neg h1, if_pos h2, if_pos (by omega)]
      · rw [if_neg h1, if_neg h2, if_neg (by omega)]
theorem sumTo_zero : ∀ n, sumTo (fun _ => 0) n = 0
  | 0 => rfl
  | n + 1 => by show sumTo (fun _ => 0) n + 0 = 0; rw [sumTo_zero n]
theorem cnt_sum : ∀ {l : List UInt8}, Ls l → sumTo (cnt l) 26 = l.length
  | [], _ => sumTo_zero 26
  | a :: l, h => by
    have ih := cnt_sum (fun c hc => h c (List.mem_cons_of_mem _ hc) : Ls l)
    have ha := num_lt (h a (by simp))
    have e : ∀ c, cnt (a :: l) c = (if Vg.num a = c then 1 else 0) + cnt l c := fun c => by
      rw [← cnt_one a c]; exact cnt_append [a] l c
    rw [sumTo_congr fun c _ => e c, sumTo_add, sumTo_ind, if_pos ha, ih, List.length_cons]
    omega
theorem col_sum {n : Nat} (hn : 0 < n) (l : List UInt8) : ∀ m, sumTo (fun c => (colTo l n c m).length) n = m
  | 0 => by
    rw [sumTo_congr (g := fun _ => 0) fun c _ => by simp [colTo]]
    exact sumTo_zero n
  | m + 1 => by
    have e : ∀ c, (colTo l n c (m + 1)).length = (colTo l n c m).length + if m % n = c then 1 else 0 := fun c => by
      rw [colTo_succ]
      by_cases h : m % n = c
      · rw [if_pos h, if_pos h, List.length_append]; rfl
      · rw [if_neg h, if_neg h]; rfl
    rw [sumTo_congr fun c _ => e c, sumTo_add, sumTo_ind, if_pos (Nat.mod_lt _ hn), col_sum hn l m]
theorem col_length {n : Nat} (hn : 0 < n) (l : List UInt8) {c : Nat} (hc : c < n) : ∀ m, (colTo l n c m).length = (m + (n - 1 - c)) / n
  | 0 => by
    rw [show (colTo l n c 0).length = 0 by simp [colTo], Nat.zero_add, Nat.div_eq_of_lt (by omega)]
  | m + 1 => by
    rw [colTo_succ, show m + 1 + (n - 1 - c) = (m + (n - 1 - c)) + 1 by omega, Nat.succ_div]
    have h : n ∣ (m + (n - 1 - c)) + 1 ↔ m % n = c := by
      have e : (m + (n - 1 - c)) + 1 = m + (n - c) := by omega
      rw [e]
      constructor
      · intro hd
        obtain ⟨q, hq⟩ := hd
        have : m = n * q - (n - c) := by omega
        have hq0 : 0 < q := by
          rcases Nat.eq_zero_or_pos q with h0 | h0
          · rw [h0, Nat.mul_zero] at hq; omega
          · exact h0
        obtain ⟨p, rfl⟩ : ∃ p, q = p + 1 := ⟨q - 1, by omega⟩
        rw [Nat.mul_add, Nat.mul_one] at this
        rw [show m = c + n * p by omega, Nat.add_mul_mod_self_left, Nat.mod_eq_of_lt hc]
      · intro hm
        have := Nat.div_add_mod m n
        rw [hm] at this
        refine ⟨m / n + 1, ?_⟩
        rw [Nat.mul_add, Nat.mul_one]
        omega
    by_cases hm : m % n = c
    · rw [if_pos hm, if_pos (h.2 hm), List.length_append, col_length hn l hc m]; rfl
    · rw [if_neg hm, if_neg (fun e => hm (h.1 e)), col_length hn l hc m]; rfl
theorem alikeC_le {l : List UInt8} (hl : Ls l) (n c : Nat) : alikeC l n c ≤ (col l n c).length * ((col l n c).length - 1) := by
  unfold alikeC
  have h := cnt_sum (col_ls hl n c)
  refine Nat.le_trans (sumTo_le (g := fun k => cnt (col l n c) k * ((col l n c).length - 1)) fun k _ => ?_) ?_
  · exact Nat.mul_le_mul_left _ (by have := cnt_le (col l n c) k; omega)
  · rw [sumTo_mul, h]
    exact Nat.le_refl _
theorem alike_le {l : List UInt8} (hl : Ls l) (n : Nat) : alike l n ≤ allP l n := sumTo_le fun c _ => alikeC_le hl n c
theorem allP_le (l : List UInt8) {n B : Nat} (hn : 0 < n) (h : ∀ c, c < n → (col l n c).length ≤ B + 1) : allP l n ≤ l.length * B := by
  unfold allP
  refine Nat.le_trans (sumTo_le (g := fun c => (col l n c).length * B) fun c hc => Nat.mul_le_mul_left _ (by have := h c hc; omega)) ?_
  rw [sumTo_mul, show sumTo (fun c => (col l n c).length) n = l.length from col_sum hn l l.length]
  exact Nat.le_refl _
theorem allP_one (l : List UInt8) (h : l.length ≤ 65536) : allP l 1 ≤ 4294901760 := by
  refine Nat.le_trans (allP_le l (B := 65535) (by decide) fun c _ => ?_) ?_
  · have := colTo_le l 1 c l.length; exact Nat.le_trans this (by omega)
  · exact Nat.le_trans (Nat.mul_le_mul_right _ h) (by decide)
theorem allP_more (l : List UInt8) (h : l.length ≤ 65536) {n : Nat} (hn : 2 ≤ n) : allP l n ≤ 2147418112 := by
  refine Nat.le_trans (allP_le l (B := 32767) (by omega) fun c hc => ?_) ?_
  · have := col_length (n := n) (by omega) l hc l.length
    show (colTo l n c l.length).length ≤ _
    rw [this]
    have h1 : (l.length + (n - 1 - c)) / n ≤ (l.length + (n - 1)) / n := Nat.div_le_div_right (by omega)
    have h2 : (l.length + (n - 1)) / n ≤ 32768 := by
      rw [Nat.div_le_iff_le_mul (by omega)]
      have : 65536 ≤ 32768 * n := by omega
      omega
    omega
  · exact Nat.le_trans (Nat.mul_le_mul_right _ h) (by decide)
end Go.Proofs.YtkohhdkkbaifoaaGreatDoor.Tl

/-
  Contracts of the document's In, Column and Pairs (chapter 7).
-/
namespace Go.Proofs.YtkohhdkkbaifoaaGreatDoor
open Go.RowKit PK Vg Tl

theorem sumTo_boundN {f : Nat → Nat} {B : Nat} : ∀ {n : Nat}, (∀ k, k < n → f k ≤ B) → Tl.sumTo f n ≤ n * B
  | 0, _ => by simp [Tl.sumTo]
  | n + 1, h => by
    show Tl.sumTo f n + f n ≤ (n + 1) * B
    have h1 := sumTo_boundN (n := n) fun k hk => h k (by omega)
    have h2 := h n (by omega)
    rw [Nat.add_mul, Nat.one_mul]
    omega
theorem sub_one_int (n : Nat) : (n : Int) * ((n : Int) - 1) = ((n * (n - 1) : Nat) : Int) := by
  cases n with
  | zero => rfl
  | succ n =>
    rw [show n + 1 - 1 = n by omega, Int.natCast_mul]
    congr 1
    omega
end Go.Proofs.YtkohhdkkbaifoaaGreatDoor

/-
  Contract of the document's Pairs (chapter 7).
-/
namespace Go.Proofs.YtkohhdkkbaifoaaGreatDoor
open Go.RowKit PK Vg Tl

theorem mul_bound {n B : Nat} (h : n ≤ B) : n * (n - 1) ≤ B * B := Nat.mul_le_mul h (by omega)
theorem wrap_mul {n : Nat} (h : n ≤ 65536) : IntKind.i64.wrap ((n : Int) * ((n : Int) - 1)) = ((n * (n - 1) : Nat) : Int) := by
  rw [sub_one_int]
  have := mul_bound h
  exact IntWalk.i64_in _ (by omega)
end Go.Proofs.YtkohhdkkbaifoaaGreatDoor

/-
  Contract of the document's Index (chapter 7).
-/
namespace Go.Proofs.YtkohhdkkbaifoaaGreatDoor
open Go.RowKit PK Vg Tl

theorem v_info_ratio : (Tryz.prog.info? 53).map (·.size) = some 2 := by kernel_rfl
/-- A result's two variables of two cells each, laid first. -/
structure TwoAt (w W : World) (T : TypeId) : Prop where
  r : RowAt W w.heap.size T #[.int .i64 0, .int .i64 0]
  f : RowAt W (w.heap.size + 1) 35 #[.int .i64 0, .int .i64 0]
  below : Below w.heap.size w W
theorem TwoAt.new (w : World) (T : TypeId) : TwoAt w ((w.alloc (.cells #[.int .i64 0, .int .i64 0] T)).alloc (.cells #[.int .i64 0, .int .i64 0] 35)) T := by
  have := RowAt.new (w.alloc (.cells #[.int .i64 0, .int .i64 0] T)) 35 #[.int .i64 0, .int .i64 0]
  rw [World.size_alloc] at this
  exact ⟨(RowAt.new w _ _).alloc _, this, ((Below.refl _ w).alloc (Nat.le_refl _) _).alloc (by simp) _⟩
theorem TwoAt.step {w W W' : World} {T : TypeId} (h : TwoAt w W T) (hb : Below W.heap.size W W') : TwoAt w W' T := ⟨h.r.below hb h.r.lt, h.f.below hb h.f.lt, h.below.trans (hb.mono h.below.size)⟩
theorem TwoAt.alloc {w W : World} {T : TypeId} (h : TwoAt w W T) (o : Obj) : TwoAt w (W.alloc o) T := ⟨h.r.alloc o, h.f.alloc o, h.below.alloc h.below.size o⟩
theorem TwoAt.drew {w W : World} {T : TypeId} (h : TwoAt w W T) : TwoAt w W.drew T := ⟨h.r, h.f, h.below.drew⟩
theorem TwoAt.done {w W : World} {T : TypeId} (h : TwoAt w W T) (a b c d : Value) :
    RowAt ((((W.setCell ⟨w.heap.size, 0, none⟩ a).setCell ⟨w.heap.size, 1, none⟩ b).setCell ⟨w.heap.size + 1, 0, none⟩ c).setCell ⟨w.heap.size + 1, 1, none⟩ d) w.heap.size T #[a, b] ∧
    RowAt ((((W.setCell ⟨w.heap.size, 0, none⟩ a).setCell ⟨w.heap.size, 1, none⟩ b).setCell ⟨w.heap.size + 1, 0, none⟩ c).setCell ⟨w.heap.size + 1, 1, none⟩ d) (w.heap.size + 1) 35 #[c, d] ∧
    Below w.heap.size w ((((W.setCell ⟨w.heap.size, 0, none⟩ a).setCell ⟨w.heap.size, 1, none⟩ b).setCell ⟨w.heap.size + 1, 0, none⟩ c).setCell ⟨w.heap.size + 1, 1, none⟩ d) :=
  ⟨(((h.r.set 0 a).set 1 b).setOther _ _ (by simp)).setOther _ _ (by simp), (((h.f.setOther _ _ (by simp)).setOther _ _ (by simp)).set 0 c).set 1 d,
   (((h.below.setCell (p := ⟨w.heap.size, 0, none⟩) (Nat.le_refl _) _).setCell (p := ⟨w.heap.size, 1, none⟩) (Nat.le_refl _) _).setCell (p := ⟨w.heap.size + 1, 0, none⟩) (by simp) _).setCell (p := ⟨w.heap.size + 1, 1, none⟩) (by simp) _⟩
theorem TwoAt.cells {w W : World} {T : TypeId} (h : TwoAt w W T) : (W.cell? ⟨w.heap.size, 0, none⟩ = some (.int .i64 0) ∧ W.cell? ⟨w.heap.size, 1, none⟩ = some (.int .i64 0) ∧ W.frozen? ⟨w.heap.size, 0, none⟩ = false ∧ W.frozen? ⟨w.heap.size, 1, none⟩ = false) ∧ W.cell? ⟨w.heap.size + 1, 0, none⟩ = some (.int .i64 0) ∧ W.cell? ⟨w.heap.size + 1, 1, none⟩ = some (.int .i64 0) ∧ W.frozen? ⟨w.heap.size + 1, 0, none⟩ = false ∧ W.frozen? ⟨w.heap.size + 1, 1, none⟩ = false :=
  ⟨⟨h.r.cell rfl, h.r.cell rfl, h.r.frozen 0, h.r.frozen 1⟩, h.f.cell rfl, h.f.cell rfl, h.f.frozen 0, h.f.frozen 1⟩
theorem wrap_div {U y g : Nat} (hU : U ≤ 4294967296) (h : y = g) : wrap64 ((U : Int) / (y : Int)) = ((U / g : Nat) : Int) := by
  subst h
  rw [← IntWalk.i64_left, ← Int.natCast_ediv]
  have h1 := Nat.div_le_self U y
  generalize U / y = q at *
  exact IntWalk.i64_in _ (by omega)
/-- What Index says. -/
def ixE (t : List UInt8) (n : Int) : Int := if ckE t ≠ 0 then ckE t else if n < 1 ∨ 64 < n then 3 else if allP t n.toNat = 0 then 5 else 0
def ixAt (t : List UInt8) : Int := if ckE t ≠ 0 then ckAt t else 0
def ixU (t : List UInt8) (n : Int) : Nat := if ixE t n ≠ 0 then 0 else alike t n.toNat / Nat.gcd (alike t n.toNat) (allP t n.toNat)
def ixD (t : List UInt8) (n : Int) : Nat := if ixE t n ≠ 0 then 0 else allP t n.toNat / Nat.gcd (alike t n.toNat) (allP t n.toNat)
end Go.Proofs.YtkohhdkkbaifoaaGreatDoor

/-
  Contract of the document's Period (chapter 7).
-/
namespace Go.Proofs.YtkohhdkkbaifoaaGreatDoor
open Go.RowKit PK Vg Tl

end Go.Proofs.YtkohhdkkbaifoaaGreatDoor

/-
  Letters counted: pairs counted once each, and columns walked by their places.
-/
namespace Go.Proofs.YtkohhdkkbaifoaaGreatDoor
open Go.RowKit PK Vg Tl

/-- Each two of n, counted once. -/
def hp (n : Nat) : Nat := n * (n - 1) / 2
theorem hp_two (n : Nat) : 2 * hp n = n * (n - 1) := by
  unfold hp
  refine Nat.mul_div_cancel' ?_
  rcases Nat.mod_two_eq_zero_or_one n with h | h
  · exact Nat.dvd_trans (Nat.dvd_of_mod_eq_zero h) (Nat.dvd_mul_right _ _)
  · exact Nat.dvd_trans (Nat.dvd_of_mod_eq_zero (by omega)) (Nat.dvd_mul_left (n - 1) n)
theorem sumTo_two {f g : Nat → Nat} (h : ∀ k, 2 * f k = g k) : ∀ n, 2 * Tl.sumTo f n = Tl.sumTo g n
  | 0 => rfl
  | n + 1 => by
    show 2 * (Tl.sumTo f n + f n) = Tl.sumTo g n + g n
    rw [Nat.mul_add, sumTo_two h n, h n]
def halfC (l : List UInt8) (n c : Nat) : Nat := Tl.sumTo (fun k => hp (cnt (col l n c) k)) 26
def halfA (l : List UInt8) (n : Nat) : Nat := Tl.sumTo (halfC l n) n
def halfP (l : List UInt8) (n : Nat) : Nat := Tl.sumTo (fun c => hp (col l n c).length) n
theorem halfA_two (l : List UInt8) (n : Nat) : 2 * halfA l n = alike l n := sumTo_two (fun _ => sumTo_two (fun _ => hp_two _) 26) n
theorem halfP_two (l : List UInt8) (n : Nat) : 2 * halfP l n = allP l n := sumTo_two (fun _ => hp_two _) n
theorem half_div (a b : Nat) : (2 * a) / Nat.gcd (2 * a) (2 * b) = a / Nat.gcd a b := by
  rw [Nat.gcd_mul_left, Nat.mul_div_mul_left _ _ (by decide)]
theorem half_div2 (a b : Nat) : (2 * b) / Nat.gcd (2 * a) (2 * b) = b / Nat.gcd a b := by
  rw [Nat.gcd_mul_left, Nat.mul_div_mul_left _ _ (by decide)]
/-- Between two places of a column there is none of it. -/
theorem colTo_skip (l : List UInt8) {n c a : Nat} : ∀ d, (∀ k, a ≤ k → k < a + d → k % n ≠ c) → colTo l n c (a + d) = colTo l n c a
  | 0, _ => rfl
  | d + 1, h => by
    rw [← Nat.add_assoc, colTo_succ, if_neg (h (a + d) (by omega) (by omega)), colTo_skip l d fun k h1 h2 => h k h1 (by omega)]
theorem colTo_first (l : List UInt8) {n c : Nat} (hc : c < n) (m : Nat) (hm : m ≤ c) : colTo l n c m = [] := by
  have := colTo_skip l (n := n) (c := c) (a := 0) m fun k _ h2 => by rw [Nat.mod_eq_of_lt (by omega)]; omega
  rw [Nat.zero_add] at this
  rw [this]
  rfl
theorem between_mod {n c i k : Nat} (hi : i % n = c) (h1 : i < k) (h2 : k < i + n) : k % n ≠ c := by
  intro e
  have h3 : (k - i) % n = 0 := Nat.sub_mod_eq_zero_of_mod_eq (by rw [e, hi])
  rw [Nat.mod_eq_of_lt (by omega)] at h3
  omega
theorem colTo_next (l : List UInt8) {n c i s : Nat} (hn : 0 < n) (hi : i % n = c) (hs : i < s) : colTo l n c (min (i + n) s) = colTo l n c i ++ [l.getD i 0] := by
  obtain ⟨d, hd⟩ : ∃ d, min (i + n) s = (i + 1) + d := ⟨min (i + n) s - (i + 1), by omega⟩
  rw [hd, colTo_skip l d (fun k h1 h2 => between_mod hi (by omega) (by omega)), colTo_succ, if_pos hi]
theorem hp_le {n B : Nat} (h : n ≤ B) : hp n ≤ B * B := Nat.le_trans (Nat.div_le_self _ _) (mul_bound h)
theorem wrap_half {n : Nat} (h : n ≤ 65536) : IntKind.i64.wrap (((n * (n - 1) : Nat) : Int).tdiv 2) = ((hp n : Nat) : Int) := by
  have h2 := hp_le h
  have e : ((n * (n - 1) : Nat) : Int).tdiv 2 = ((hp n : Nat) : Int) := by
    rw [Int.tdiv_eq_ediv_of_nonneg (by omega)]
    unfold hp
    rw [Int.natCast_ediv]
    rfl
  rw [e]
  exact IntWalk.i64_in _ (by omega)
/-- Half as many pairs: their products pass no bound. -/
theorem halfP_le {t : List UInt8} (h : t.length ≤ 65536) {m : Nat} (hm : 1 ≤ m) : halfP t m ≤ 2147450880 := by
  have e := halfP_two t m
  have : allP t m ≤ 4294901760 := by
    by_cases h1 : m = 1
    · rw [h1]; exact allP_one _ h
    · exact Nat.le_trans (allP_more _ h (by omega)) (by decide)
  omega
theorem halfA_le {t : List UInt8} (hl : Ls t) (m : Nat) : halfA t m ≤ halfP t m := by
  have e1 := halfA_two t m
  have e2 := halfP_two t m
  have := alike_le hl m
  omega
end Go.Proofs.YtkohhdkkbaifoaaGreatDoor
