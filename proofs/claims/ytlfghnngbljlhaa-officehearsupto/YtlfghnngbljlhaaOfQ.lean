/-
  What an office's steps are made of, and what came of them, in memory (chapter 16).
-/
import Derived.Test.YtlfghnngbljlhaaOfO
import Derived.Maps.AppendAt
import Derived.Deep.DeepAppendWide
import Derived.Laws.AppendOwnNone
namespace Go.Proofs.Ytlfghnngbljlhaa
open Go.RowKit PK Pd

section
variable {P : Program}
theorem append_at (w : World) (base : Nat) (t ty e : TypeId) (i : TypeInfo) (z : Value) (size bytes : Nat) (ht : P.underlying t = some (.slice e)) (hi : P.info? e = some i) (hz : i.zero = some z)
    (hsize : i.size = size) (hby : i.bytes = bytes) (v : Value) (n : Nat) (xs : List Value) (hown : w.ownsRow base e size v n xs)
    (a : Addr) (m c : Nat) (news : List Value) (hl : news.length = m * size) (hnews : ∀ j u, news[j]? = some u → w.cell? (a.add j) = some u) (h1 : ∀ u ∈ news, u.oneCell' = true)
    (h0 : 0 < m) (h63 : n + m ≤ maxLen) (hbytes : ((n + m) + (n + m) / 4 + 192) * bytes ≤ 281474976710656) {v' : Value} {w' : World}
    (hr : (Builtin.append_ #[t, t] ty #[v, .slice (some a) m c]).run P w = .ok v' w') : v'.ownBlock = v.ownBlock ∨ v'.ownBlock = some w.heap.size := by
  subst hsize
  subst hby
  have hsmall : n + m ≤ 9223372036854775807 := by simp only [maxLen] at h63; omega
  rcases hown.2 with ⟨rfl, rfl⟩ | ⟨g, cap, cur, rfl, hbg, hg, hnc, hcm, hcs, htake⟩
  · rw [run_append_nil (P := P) w t ty e i z ht hi hz a m c news hl hnews h0 (by omega) (by have hb := hbytes; simp only [Nat.zero_add] at hb; exact Nat.le_trans (Nat.mul_le_mul_right _ (by omega)) hb)] at hr
    cases hr
    exact .inr rfl
  · by_cases hroom : n + m ≤ cap
    · have hfit : n * i.size + news.length ≤ cur.size := by rw [hl, hcs, ← Nat.add_mul]; exact Nat.mul_le_mul_right _ hroom
      rw [run_append_room (P := P) w t ty e i ht hi g n cap cur hg a m c news hl hnews h1 hroom hfit] at hr
      cases hr
      exact .inl rfl
    · have holds : ∀ j u, xs[j]? = some u → w.cell? ((⟨g, 0, none⟩ : Addr).add j) = some u := hown.cells (g := g) rfl
      rw [run_append_grow (P := P) w t ty e i z ht hi hz ⟨g, 0, none⟩ n cap xs hown.1 holds a m c news hl hnews (by omega) (by omega) (growslice_fits_wide (by omega) hbytes)] at hr
      cases hr
      exact .inr rfl
theorem wpList_append_wide_at {w : World} {ops : Array Oper} {rest : List Oper} {o : Oper} {a : Act} {Q : Exit → Act → World → Prop} (hgd : o.guard = none) (s x : Operand) (t : TypeId)
    (ho : o.op = .call { callee := .builtin .append, args := #[s, x], argTypes := #[t, t] })
    (base : Nat) (e : TypeId) (i : TypeInfo) (z : Value) (size bytes : Nat) (ht : P.underlying t = some (.slice e)) (hi : P.info? e = some i) (hz : i.zero = some z)
    (hsize : i.size = size) (hby : i.bytes = bytes) (hzs : z.cells.size = size) (hsz : 0 < size)
    (v : Value) (n : Nat) (xs : List Value) (hs : a.eval s = v) (hown : w.ownsRow base e size v n xs)
    (ad : Addr) (m c : Nat) (news : List Value) (hx : a.eval x = .slice (some ad) m c) (hl : news.length = m * size) (hnews : ∀ j u, news[j]? = some u → w.cell? (ad.add j) = some u) (h1 : ∀ u ∈ news, u.oneCell' = true)
    (h0 : 0 < m) (h63 : n + m ≤ maxLen) (hbytes : ((n + m) + (n + m) / 4 + 192) * bytes ≤ 281474976710656) (hbase : base ≤ w.heap.size)
    (h : ∀ v' w', w'.ownsRow base e size v' (n + m) (xs ++ news) → w.grownBy w' v.ownBlock → (v'.ownBlock = v.ownBlock ∨ v'.ownBlock = some w.heap.size) → wpList P ops Q rest (a.put o.dst v') w') :
    wpList P ops Q (o :: rest) a w := by
  refine wpList_plain hgd fun K hK => ?_
  obtain ⟨v', w', hr, h2, h3, h4⟩ := run_append_own_wide (P := P) w base t o.type e i z size bytes ht hi hz hsize hby hzs hsz v n xs hown ad m c news hl hnews h1 h63 hbytes hbase
  have h5 := append_at w base t o.type e i z size bytes ht hi hz hsize hby v n xs hown ad m c news hl hnews h1 h0 h63 hbytes hr
  unfold Oper.wp execOp
  simp only [ho, resolve, invoke, builtin, Sem.run_bind, Sem.run_pure, Result.andThen_ok, List.map_toArray, List.map_cons, List.map_nil, hs, hx, hr]
  exact hK _ _ (h v' w' h2 h3 h5)
end
namespace Oc
/-- What came of a step. -/
structure Sn where
  pl : Int
  tn : Nat
  tf : Nat → Int
  e1 : Int
  e2 : Int
  lf : Int
def sn (n : Int) (P : Nat) (p : Nat → Int) (s : St) (x : Sp) : Sn := ⟨sAt n P p (pre s x) x, sTn n P p (pre s x) x, sTf n P p (pre s x) x, 0, er n P p (pre s x) x, sLf P (nx n P p (pre s x) x)⟩
def snB (E : Int) : Sn := ⟨0, 0, fun _ => 0, E, 0, 0⟩
/-- What comes of all steps. -/
def seen (n : Int) (P : Nat) (p : Nat → Int) (D : Nat) (X : Nat → Sp) (s0 : St) (k : Nat) : Sn := if opE n P p D = 0 then sn n P p (at' n P p X s0 k) (X k) else snB (opE n P p D)
def s0 (d : Nat → Int) : St := ⟨d 0, d 1, -1, false⟩
/-- The disk in the end. -/
def last (n : Int) (P : Nat) (p : Nat → Int) (D : Nat) (d : Nat → Int) (X : Nat → Sp) (K : Nat) : Nat → Int := if opE n P p D = 0 then dk d (at' n P p X (s0 d) K) else d
end Oc
def stc (x : Oc.Sp) (v : Value) : Array Value := #[.int .i64 x.pw, .bool x.op, .bool x.sd, .bool x.tk, .int .i64 x.pl, v]
def sec (z : Oc.Sn) (v : Value) : Array Value := #[.int .i64 z.pl, v, .int .i64 z.e1, .int .i64 z.e2, .int .i64 z.lf]
/-- Steps as an argument. -/
def StpAt (W : World) (v : Value) (K : Nat) (X : Nat → Oc.Sp) : Prop :=
  ∃ (a : Option Addr) (cap : Nat) (R : Nat → Value), v = .slice a K cap ∧ K ≤ maxLen ∧ (∀ i, i < K → ∃ b o, a = some ⟨b, o, none⟩ ∧ W.rangeAt b (o + i * 6) (stc (X i) (R i)).toList) ∧ ∀ i, i < K → NumsAt W (R i) (X i).tn (X i).tf
/-- What came of them. -/
def SenAt (W : World) (v : Value) (K : Nat) (Z : Nat → Oc.Sn) : Prop :=
  ∃ (a : Option Addr) (cap : Nat) (R : Nat → Value), v = .slice a K cap ∧ K ≤ maxLen ∧ (∀ i, i < K → ∃ b o, a = some ⟨b, o, none⟩ ∧ W.rangeAt b (o + i * 5) (sec (Z i) (R i)).toList) ∧ ∀ i, i < K → NumsAt W (R i) (Z i).tn (Z i).tf
theorem rangeAt_belowO {w w' : World} {b o : Nat} {cs : List Value} (h : w.rangeAt b o cs) (hb : Below w.heap.size w w') : w'.rangeAt b o cs := fun j v hv => (hb.cell (p := ⟨b, o + j, none⟩) (cell_block (h j v hv))).trans (h j v hv)
theorem StpAt.below {w w' : World} {v : Value} {K : Nat} {X : Nat → Oc.Sp} (h : StpAt w v K X) (hb : Below w.heap.size w w') : StpAt w' v K X := by
  obtain ⟨a, cap, R, e, hm, h1, h2⟩ := h
  refine ⟨a, cap, R, e, hm, fun i hi => ?_, fun i hi => (h2 i hi).below hb⟩
  obtain ⟨b, o, e1, h3⟩ := h1 i hi
  exact ⟨b, o, e1, rangeAt_belowO h3 hb⟩
theorem SenAt.below {w w' : World} {v : Value} {K : Nat} {Z : Nat → Oc.Sn} (h : SenAt w v K Z) (hb : Below w.heap.size w w') : SenAt w' v K Z := by
  obtain ⟨a, cap, R, e, hm, h1, h2⟩ := h
  refine ⟨a, cap, R, e, hm, fun i hi => ?_, fun i hi => (h2 i hi).below hb⟩
  obtain ⟨b, o, e1, h3⟩ := h1 i hi
  exact ⟨b, o, e1, rangeAt_belowO h3 hb⟩
def sel (Z : Nat → Oc.Sn) (R : Nat → Value) : Nat → List Value
  | 0 => []
  | k + 1 => sel Z R k ++ (sec (Z k) (R k)).toList
theorem sel_length (Z : Nat → Oc.Sn) (R : Nat → Value) : ∀ k, (sel Z R k).length = k * 5
  | 0 => by simp [sel]
  | k + 1 => by
    show (sel Z R k ++ _).length = _
    rw [List.length_append, sel_length Z R k]
    simp [sec]
    omega
theorem sel_succ (Z : Nat → Oc.Sn) (R : Nat → Value) (k : Nat) : sel Z R (k + 1) = sel Z R k ++ (sec (Z k) (R k)).toList := rfl
theorem sec_size (z : Oc.Sn) (v : Value) : (sec z v).size = 5 := rfl
theorem sel_at (Z : Nat → Oc.Sn) (R : Nat → Value) (i j : Nat) (v : Value) (hv : (sec (Z i) (R i))[j]? = some v) (k : Nat) : i < k → (sel Z R k)[i * 5 + j]? = some v := by
  have hj : j < 5 := (Array.getElem?_eq_some_iff.1 hv).1
  induction k with
  | zero => intro h; omega
  | succ k ih =>
    intro hi
    have hl := sel_length Z R k
    rw [sel_succ]
    by_cases e : i = k
    · rw [List.getElem?_append_right (by omega), hl, show i * 5 + j - k * 5 = j by omega, Array.getElem?_toList, ← e]
      exact hv
    · rw [List.getElem?_append_left (by omega)]
      exact ih (by omega)
theorem sel_congr {Z : Nat → Oc.Sn} {R R2 : Nat → Value} : ∀ {k : Nat}, (∀ i, i < k → R i = R2 i) → sel Z R k = sel Z R2 k
  | 0, _ => rfl
  | k + 1, h => by
    show sel Z R k ++ _ = sel Z R2 k ++ _
    rw [sel_congr fun i hi => h i (by omega), h k (by omega)]
theorem own_sen {w : World} {B : Nat} {v : Value} {K : Nat} {Z : Nat → Oc.Sn} {R : Nat → Value} (h : w.ownsRow B 32 5 v K (sel Z R K)) (hn : ∀ i, i < K → NumsAt w (R i) (Z i).tn (Z i).tf) : SenAt w v K Z := by
  rcases h.2 with ⟨rfl, h0⟩ | ⟨g, cap, cur, rfl, hB, hg, hnc, hcm, hcs, htake⟩
  · subst h0
    exact ⟨none, 0, R, rfl, by decide, fun i hi => by omega, hn⟩
  · refine ⟨_, cap, R, rfl, by omega, fun i hi => ⟨g, 0, rfl, fun j v hv => ?_⟩, hn⟩
    rw [Array.getElem?_toList] at hv
    have hj : j < 5 := (Array.getElem?_eq_some_iff.1 hv).1
    have h1 := sel_at Z R i j v hv K hi
    rw [← htake, List.getElem?_take_of_lt (by omega)] at h1
    rw [Nat.zero_add]
    exact RowAt.cell (w := w) (b := g) (T := 32) hg (by simpa using h1)
/-- The blocks of a value. -/
def ob (v : Value) : List Nat := v.ownBlock.toList
theorem mem_ob {v : Value} {b : Nat} : b ∈ ob v ↔ v.ownBlock = some b := by unfold ob; cases v.ownBlock <;> simp [eq_comm]
theorem Fr.of_own {w w' : World} {v : Value} (h : w.grownBy w' v.ownBlock) : Fr (ob v) w w' := ⟨h.os, h.tape, h.output, h.size, fun i hi hn => h.block i hi (fun e => hn (mem_ob.2 e.symm))⟩
/-- What was seen so far, and apart from what. -/
structure OutS (W : World) (B : Nat) (l : List Nat) (v : Value) (Z : Nat → Oc.Sn) (k : Nat) (R : Nat → Value) : Prop where
  own : W.ownsRow B 32 5 v k (sel Z R k)
  rows : ∀ i, i < k → NumsAt W (R i) (Z i).tn (Z i).tf
  ne : ∀ b, v.ownBlock = some b → b ∉ l
  nr : ∀ i, i < k → 0 < (Z i).tn → ∀ b, (R i).ownBlock = some b → b ∉ l ∧ v.ownBlock ≠ some b
section
variable {W W' : World} {B k : Nat} {l l' : List Nat} {v : Value} {Z : Nat → Oc.Sn} {R : Nat → Value}
theorem OutS.nil (W : World) (B : Nat) (l : List Nat) (Z : Nat → Oc.Sn) (R : Nat → Value) : OutS W B l (.slice none 0 0) Z 0 R := ⟨World.ownsRow_nil _ _ _ _, fun i hi => by omega, fun b e => (by cases e), fun i hi => by omega⟩
theorem nums_lt {W : World} {v : Value} {n : Nat} {f : Nat → Int} (h : NumsAt W v n f) (hn : 0 < n) {b : Nat} (hb : v.ownBlock = some b) : b < W.heap.size := by
  obtain ⟨a, cap, rfl, _, h3⟩ := h
  obtain ⟨b2, o, rfl, hc⟩ := h3 0 hn
  cases hb
  exact cell_block hc
/-- Only what it is apart from changes. -/
theorem OutS.fr (h : OutS W B l v Z k R) (hf : Fr l' W W') (hl : ∀ x, x ∈ l' → x ∈ l ∨ W.heap.size ≤ x) : OutS W' B l v Z k R := by
  have h1 : ∀ b, v.ownBlock = some b → b ∉ l' := fun b e hx => by
    rcases hl b hx with h2 | h2
    · exact h.ne b e h2
    · have := (World.ownsRow.lt h.own b e).2
      omega
  refine ⟨hf.own h.own h1, fun i hi => hf.nums (h.rows i hi) (fun h0 b e hx => ?_), h.ne, h.nr⟩
  rcases hl b hx with h2 | h2
  · exact (h.nr i hi h0 b e).1 h2
  · have := nums_lt (h.rows i hi) h0 e
    omega
theorem OutS.below (h : OutS W B l v Z k R) (hb : Below W.heap.size W W') : OutS W' B l v Z k R := h.fr (Fr.of_below [] hb) (fun _ hx => by simp at hx)
/-- Apart from others besides, that are new. -/
theorem OutS.relist (h : OutS W B l v Z k R) (hl : ∀ x, x ∈ l' → x ∈ l ∨ W.heap.size ≤ x) : OutS W B l' v Z k R := by
  refine ⟨h.own, h.rows, fun b e hx => ?_, fun i hi h0 b e => ⟨fun hx => ?_, (h.nr i hi h0 b e).2⟩⟩
  · rcases hl b hx with h2 | h2
    · exact h.ne b e h2
    · have := (World.ownsRow.lt h.own b e).2
      omega
  · rcases hl b hx with h2 | h2
    · exact (h.nr i hi h0 b e).1 h2
    · have := nums_lt (h.rows i hi) h0 e
      omega
/-- One more. -/
theorem OutS.push (h : OutS W B l v Z k R) (hlt : ∀ x, x ∈ l → x < W.heap.size) {r : Value} (hr : NumsAt W r (Z k).tn (Z k).tf) (hrl : 0 < (Z k).tn → ∀ b, r.ownBlock = some b → b ∉ l ∧ v.ownBlock ≠ some b) {o : Obj} {v5 : Value} {w5 : World}
    (hown : w5.ownsRow B 32 5 v5 (k + 1) (sel Z R k ++ (sec (Z k) r).toList)) (hg : (W.alloc o).grownBy w5 v.ownBlock) (hat : v5.ownBlock = v.ownBlock ∨ v5.ownBlock = some (W.alloc o).heap.size) : OutS w5 B l v5 Z (k + 1) (fun i => if i = k then r else R i) := by
  have hs : W.heap.size < (W.alloc o).heap.size := by simp
  have hba : Below W.heap.size W (W.alloc o) := (Below.refl _ _).alloc (Nat.le_refl _) o
  refine ⟨?_, fun i hi => ?_, fun b e hx => ?_, fun i hi h0 b e => ?_⟩
  · rw [sel_succ, if_pos rfl, sel_congr (R := fun i => if i = k then r else R i) (R2 := R) (fun i hi => if_neg (by omega))]
    exact hown
  · show NumsAt w5 (if i = k then r else R i) _ _
    by_cases e : i = k
    · rw [if_pos e, e]
      exact (Fr.of_own hg).nums (hr.below hba) (fun h0 b hb hx => (hrl h0 b hb).2 (mem_ob.1 hx))
    · rw [if_neg e]
      exact (Fr.of_own hg).nums ((h.rows i (by omega)).below hba) (fun h0 b hb hx => (h.nr i (by omega) h0 b hb).2 (mem_ob.1 hx))
  · rcases hat with h5 | h5
    · exact h.ne b (h5.symm.trans e) hx
    · rw [h5] at e
      cases e
      have := hlt _ hx
      omega
  · have e' : (if i = k then r else R i).ownBlock = some b := e
    have hboth : (b ∉ l ∧ v.ownBlock ≠ some b) ∧ b < W.heap.size := by
      by_cases ei : i = k
      · rw [if_pos ei] at e'
        rw [ei] at h0
        exact ⟨hrl h0 b e', nums_lt hr h0 e'⟩
      · rw [if_neg ei] at e'
        exact ⟨h.nr i (by omega) h0 b e', nums_lt (h.rows i (by omega)) h0 e'⟩
    refine ⟨hboth.1.1, fun e5 => ?_⟩
    rcases hat with h5 | h5
    · exact hboth.1.2 (h5.symm.trans e5)
    · rw [h5] at e5
      cases e5
      omega
end
theorem own_words {W : World} {B D : Nat} {v : Value} {d : Nat → Int} (h : W.ownsRow B 2 1 v D (ints D d).toList) (hv : v ≠ .slice none 0 0) : ∃ g cap cur, v = .slice (some ⟨g, 0, none⟩) D cap ∧ B ≤ g ∧ RowAt W g 2 cur ∧ (∀ i, i < D → cur[i]? = some (.int .i64 (d i))) ∧ D ≤ maxLen := by
  rcases h.2 with ⟨rfl, h0⟩ | ⟨g, cap, cur, rfl, hB, hg, hnc, hcm, hcs, htake⟩
  · exact absurd rfl hv
  · refine ⟨g, cap, cur, rfl, hB, hg, fun i hi => ?_, by omega⟩
    have h1 : (ints D d).toList[i]? = some (.int .i64 (d i)) := by
      have ex : (ints D d).toList[i]? = (ints D d)[i]? := Array.getElem?_toList
      rw [ex, ints_get d hi]
    rw [← htake, List.getElem?_take_of_lt (by omega)] at h1
    simpa using h1
theorem DkAt.nums {W : World} {q g D : Nat} {d : Nat → Int} {lf : Int} (h : DkAt W q g D d lf) : ∃ cap, W.cell? ⟨q, 0, none⟩ = some (.slice (some ⟨g, 0, none⟩) D cap) ∧ W.cell? ⟨q, 2, none⟩ = some (.bool false) ∧ NumsAt W (.slice (some ⟨g, 0, none⟩) D cap) D d := by
  obtain ⟨⟨cap, cur, a, b, c, m⟩, e⟩ := h
  exact ⟨cap, a.cell rfl, a.cell rfl, _, _, rfl, m, fun i hi => ⟨g, 0, rfl, by rw [Nat.zero_add]; exact b.cell (c i hi)⟩⟩
theorem s_info_stp : (Try.prog.info? 38).map (·.size) = some 6 := by kernel_rfl
theorem s_info_sen : (Try.prog.info? 32).map (·.size) = some 5 := by kernel_rfl
theorem s_zs_sen : (Try.prog.info? 32).map (fun i => (i.zero, i.size)) = some (some (.agg (sec ⟨0, 0, fun _ => 0, 0, 0, 0⟩ (.slice none 0 0))), 5) := by kernel_rfl
theorem s_all_sen : (Try.prog.info? 32).map (fun i => (i.zero, i.size, i.bytes)) = some (some (.agg (sec ⟨0, 0, fun _ => 0, 0, 0, 0⟩ (.slice none 0 0))), 5, 56) := by kernel_rfl
theorem sen_ones (a b c e : Int) (ar : Option Addr) (n cr : Nat) : ∀ u ∈ (#[.int .i64 a, .slice ar n cr, .int .i64 b, .int .i64 c, .int .i64 e] : Array Value).toList, u.oneCell' = true := by
  intro u hu
  simp at hu
  rcases hu with rfl | rfl | rfl | rfl | rfl <;> rfl
theorem sen_bytes {K k : Nat} (h : k < K) (hK : (K + K / 4 + 192) * 56 ≤ 281474976710656) : ((k + 1) + (k + 1) / 4 + 192) * 56 ≤ 281474976710656 := by
  have h1 : (k + 1) / 4 ≤ K / 4 := Nat.div_le_div_right h
  exact Nat.le_trans (Nat.mul_le_mul_right _ (by omega)) hK
theorem sen_len {K k : Nat} (h : k < K) (hK : K ≤ maxLen) : k + 1 ≤ maxLen := Nat.le_trans h hK
theorem sen_new (V : World) (c : Array Value) : ∀ j u, c.toList[j]? = some u → (V.alloc (.cells c 32)).cell? ((⟨V.heap.size, 0, none⟩ : Addr).add j) = some u := fun j u hu => by
  rw [Addr.add_mid, Nat.zero_add]
  exact (RowAt.new V _ _).cell (by rw [← Array.getElem?_toList]; exact hu)
end Go.Proofs.Ytlfghnngbljlhaa
