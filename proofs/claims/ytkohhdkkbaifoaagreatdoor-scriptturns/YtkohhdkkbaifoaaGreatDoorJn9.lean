/-
  Several texts, joined: VBad, VRd, VAlw, SMath, QMath, YKit, YWrong, YFit, RMath.
-/
import Derived.Test.YtkohhdkkbaifoaaGreatDoorJn8
import Derived.Test.YtkohhdkkbaifoaaGreatDoorVWr
import Derived.Test.YtkohhdkkbaifoaaGreatDoorJn2
import Derived.Test.YtkohhdkkbaifoaaGreatDoorChecked
import Derived.Deep.OwnRows
import Derived.Test.YtkohhdkkbaifoaaGreatDoorJn1
/-
  Contracts of tableau.Write and tableau.Read where something is wrong; what tableFor answers.
-/
namespace Go.Proofs.YtkohhdkkbaifoaaGreatDoor
open Go.RowKit PK Vg

theorem lk_cases (k : Int) (key t : List UInt8) : (lkE k key t = 0 ∧ lkAt k key t = 0 ∧ (1 ≤ k ∧ k ≤ 4) ∧ (1 ≤ key.length ∧ key.length ≤ 256) ∧ (ckE key = 0 ∧ ckAt key = 0 ∧ Ls key) ∧ (ckE t = 0 ∧ ckAt t = 0 ∧ Ls t ∧ t.length ≤ 65536)) ∨ (lkE k key t != 0) = true := by
  unfold lkE lkAt
  by_cases h1 : k < 1 ∨ 4 < k
  · rw [if_pos h1]; exact .inr rfl
  · rw [if_neg h1, if_neg h1]
    rcases ck_cases key with ⟨a1, a2, a3, a4⟩ | a1
    · have a0 : ¬ (ckE key ≠ 0) := fun h => h a1
      rw [if_neg a0, if_neg a0]
      by_cases h2 : key.length < 1 ∨ 256 < key.length
      · rw [if_pos h2]; exact .inr rfl
      · rw [if_neg h2, if_neg h2]
        rcases ck_cases t with ⟨b1, b2, b3, b4⟩ | b1
        · exact .inl ⟨b1, b2, by omega, by omega, ⟨a1, a2, ls_ofV a4⟩, ⟨b1, b2, ls_ofV b4, b3⟩⟩
        · exact .inr b1
    · have a2 : ckE key ≠ 0 := by simpa using a1
      rw [if_pos a2]; exact .inr a1
theorem tfor_bad (k : Int) (key t : ByteArray) (hE : (lkE k key.data.toList t.data.toList != 0) = true) (w : World) : Calls Tryz.prog 118 #[.int .i64 k, .string key, .string t] w fun e w' => e = .returned (.tuple #[.agg tbl0, .agg #[.int .i64 (lkE k key.data.toList t.data.toList), .int .i64 (lkAt k key.data.toList t.data.toList)]]) ∧ Below w.heap.size w w' := by
  have hks := Pl.size_len key
  unfold lkE lkAt at *
  by_cases h1 : k < 1 ∨ 4 < k
  · rw [if_pos h1, if_pos h1]; exact tfor_kind k h1 key t w
  · obtain ⟨n, rfl⟩ : ∃ n : Nat, k = n := ⟨k.toNat, by omega⟩
    have hn : 1 ≤ n ∧ n ≤ 4 := by omega
    rw [if_neg h1] at hE
    rw [if_neg h1, if_neg h1]
    rcases ck_cases key.data.toList with ⟨a1, a2, a3, a4⟩ | a1
    · have a0 : ¬ (ckE key.data.toList ≠ 0) := fun h => h a1
      rw [if_neg a0] at hE
      rw [if_neg a0, if_neg a0]
      by_cases h2 : key.data.toList.length < 1 ∨ 256 < key.data.toList.length
      · rw [if_pos h2, if_pos h2]; exact tfor_many n hn key t a1 a2 (by omega) w
      · rw [if_neg h2] at hE
        rw [if_neg h2, if_neg h2]
        exact tfor_text n hn key t a1 a2 (by omega) hE w
    · have a2 : ckE key.data.toList ≠ 0 := by simpa using a1
      rw [if_pos a2, if_pos a2]; exact tfor_key n hn key t a1 w
set_option maxRecDepth 100000 in
set_option maxHeartbeats 2000000 in
theorem vwr_bad (k : Int) (key t : ByteArray) (hE : (lkE k key.data.toList t.data.toList != 0) = true) (w : World) : Calls Tryz.prog 74 #[.int .i64 k, .string key, .string t] w fun e w' => e = .returned (.tuple #[.string ⟨#[]⟩, .agg #[.int .i64 (lkE k key.data.toList t.data.toList), .int .i64 (lkAt k key.data.toList t.data.toList)]]) ∧ Below w.heap.size w w' := by
  have HT := (show Hid (∀ W, Calls Tryz.prog 118 #[.int .i64 k, .string key, .string t] W fun e w' => e = .returned (.tuple #[.agg #[.nilFunc, .nilFunc, .nilFunc, .bool false], .agg #[.int .i64 (lkE k key.data.toList t.data.toList), .int .i64 (lkAt k key.data.toList t.data.toList)]]) ∧ Below W.heap.size W w') from fun W => tfor_bad k key t hE W)
  generalize lkE k key.data.toList t.data.toList = E at *
  generalize lkAt k key.data.toList t.data.toList = A at *
  go_enter Tryz.func74, Tryz.ntmps74
  go_wp2_with fail
  refine (HT.out _).mono ?_
  rintro e W1 ⟨rfl, hb⟩
  have hb1 : Below (w.heap.size + 1) (w.alloc (.cells #[.int .i64 0, .int .i64 0] 35)) W1 := by simpa using hb
  have hz := hb1.size
  simp at hz
  have hb2 := (hb1.alloc (by omega) (.cells #[.nilFunc, .nilFunc, .nilFunc, .bool false] 147)).alloc (by simp; omega) (.cells #[.int .i64 E, .int .i64 A] 35)
  clear hb
  obtain ⟨c0, c1, f0, f1, hsz⟩ := Kit.two_cells hb2
  clear HT hb1
  go_wp2_with fail
  go_region
  all_goals (try go_wp2)
  have q := Kit.read_two (.int .i64 E) (.int .i64 A) c0 c1
  refine bodyPost_ret (v := .tuple #[.string ⟨#[]⟩, .agg #[.int .i64 E, .int .i64 A]]) (by simp [results, Tryz.results74, go_sem, q.1, q.2]) rfl ⟨rfl, ?_⟩
  exact (Kit.below_two hb2 _ _).drew
end Go.Proofs.YtkohhdkkbaifoaaGreatDoor

/-
  Contract of tableau.Read.
-/
namespace Go.Proofs.YtkohhdkkbaifoaaGreatDoor
open Go.RowKit PK Vg

end Go.Proofs.YtkohhdkkbaifoaaGreatDoor

/-
  What Write, Read and Key answer, whatever they are asked.
-/
namespace Go.Proofs.YtkohhdkkbaifoaaGreatDoor
open Go.RowKit PK Vg

/-- What Write and Read tell. -/
def wrS (k : Int) (key t : List UInt8) : List UInt8 := if lkE k key t = 0 then writeL k.toNat key t else []
theorem vwrite_any (k : Int) (key t : ByteArray) (w : World) : Calls Tryz.prog 74 #[.int .i64 k, .string key, .string t] w fun e w' => e = .returned (.tuple #[.string ⟨(wrS k key.data.toList t.data.toList).toArray⟩, .agg #[.int .i64 (lkE k key.data.toList t.data.toList), .int .i64 (lkAt k key.data.toList t.data.toList)]]) ∧ Below w.heap.size w w' := by
  have h1 := Pl.size_len key
  have h2 := Pl.size_len t
  unfold wrS
  rcases lk_cases k key.data.toList t.data.toList with ⟨e1, e2, hk, hn, ha, hb⟩ | e1
  · rw [if_pos e1, e1, e2]
    obtain ⟨n, rfl⟩ : ∃ n : Nat, k = n := ⟨k.toNat, by omega⟩
    rw [Int.toNat_natCast]
    exact vwr_ok n (by omega) key t ha.1 ha.2.1 (by omega) hb.1 hb.2.1 (by omega) ha.2.2 hb.2.2.1 w
  · rw [if_neg (by simpa using e1)]
    exact vwr_bad k key t e1 w
end Go.Proofs.YtkohhdkkbaifoaaGreatDoor

/-
  Plain mathematics of no program: rows of numbers that are moved about, turned round a place, and sorted by keys, those of the same key by themselves.
-/
namespace Go.Proofs.YtkohhdkkbaifoaaGreatDoor.Sm

/-- x comes ahead of y: by its key, else by itself. -/
def LL (K : Int → Int) (x y : Int) : Prop := K x < K y ∨ (K x = K y ∧ x < y)
/-- Places a to b (without b) stand in order. -/
def Srt (K : Int → Int) (d : Nat → Int) (a b : Nat) : Prop := ∀ p q, a ≤ p → p < q → q < b → LL K (d p) (d q)
/-- Of the same key the lesser one stands ahead. -/
def Stab (K : Int → Int) (n : Nat) (d : Nat → Int) : Prop := ∀ p q, p < q → q < n → K (d p) = K (d q) → d p < d q
/-- d' is d with places a to b (without b) moved about. -/
def Mv (a b : Nat) (d d' : Nat → Int) : Prop :=
  ∃ p r : Nat → Nat, (∀ i, r (p i) = i) ∧ (∀ i, p (r i) = i) ∧ (∀ i, d' i = d (p i)) ∧ ∀ i, ¬ (a ≤ i ∧ i < b) → p i = i
theorem Mv.refl (a b : Nat) (d : Nat → Int) : Mv a b d d := ⟨id, id, fun _ => rfl, fun _ => rfl, fun _ => rfl, fun _ _ => rfl⟩
theorem Mv.trans {a b : Nat} {d d' d'' : Nat → Int} (h : Mv a b d d') (h' : Mv a b d' d'') : Mv a b d d'' := by
  obtain ⟨p, r, h1, h2, h3, h4⟩ := h
  obtain ⟨p', r', h1', h2', h3', h4'⟩ := h'
  refine ⟨fun i => p (p' i), fun i => r' (r i), fun i => ?_, fun i => ?_, fun i => ?_, fun i hi => ?_⟩
  · show r' (r (p (p' i))) = i
    rw [h1, h1']
  · show p (p' (r' (r i))) = i
    rw [h2', h2]
  · rw [h3', h3]
  · show p (p' i) = i
    rw [h4' i hi, h4 i hi]
theorem Mv.wide {a b a' b' : Nat} {d d' : Nat → Int} (h : Mv a b d d') (ha : a' ≤ a) (hb : b ≤ b') : Mv a' b' d d' := by
  obtain ⟨p, r, h1, h2, h3, h4⟩ := h
  exact ⟨p, r, h1, h2, h3, fun i hi => h4 i (by omega)⟩
theorem Mv.out {a b : Nat} {d d' : Nat → Int} (h : Mv a b d d') (i : Nat) (hi : ¬ (a ≤ i ∧ i < b)) : d' i = d i := by
  obtain ⟨p, r, h1, h2, h3, h4⟩ := h
  rw [h3, h4 i hi]
theorem Mv.mem {a b : Nat} {d d' : Nat → Int} (h : Mv a b d d') (i : Nat) (hi : a ≤ i ∧ i < b) : ∃ j, (a ≤ j ∧ j < b) ∧ d' i = d j := by
  obtain ⟨p, r, h1, h2, h3, h4⟩ := h
  refine ⟨p i, ?_, h3 i⟩
  apply Classical.byContradiction
  intro hn
  have e := h4 (p i) hn
  have e2 : p i = i := by
    have := congrArg r e
    rw [h1, h1] at this
    exact this
  rw [e2] at hn
  exact hn hi
/-- Places s to m and m to e change: what stood behind m stands ahead. -/
def rotP (s m e : Nat) (i : Nat) : Nat := if s ≤ i ∧ i < e then (if i < s + (e - m) then i + (m - s) else i - (e - m)) else i
def rotF (s m e : Nat) (d : Nat → Int) : Nat → Int := fun i => d (rotP s m e i)
theorem rotP_back (s m e : Nat) (h : s ≤ m) (h' : m ≤ e) (i : Nat) : rotP s (s + (e - m)) e (rotP s m e i) = i := by
  unfold rotP
  by_cases h1 : s ≤ i ∧ i < e
  · rw [if_pos h1]
    by_cases h2 : i < s + (e - m)
    · rw [if_pos h2, if_pos (by omega), if_neg (by omega)]; omega
    · rw [if_neg h2, if_pos (by omega), if_pos (by omega)]; omega
  · rw [if_neg h1, if_neg h1]
theorem rot_mv (s m e : Nat) (h : s ≤ m) (h' : m ≤ e) (d : Nat → Int) : Mv s e d (rotF s m e d) := by
  refine ⟨rotP s m e, rotP s (s + (e - m)) e, rotP_back s m e h h', fun i => ?_, fun _ => rfl, fun i hi => ?_⟩
  · have := rotP_back s (s + (e - m)) e (by omega) (by omega) i
    rw [show s + (e - (s + (e - m))) = m by omega] at this
    exact this
  · unfold rotP; rw [if_neg hi]
/-- Changed where each of the first piece has the greater key, what stands in its order of the same key stays so. -/
theorem rot_stab {K : Int → Int} {n s m e : Nat} (h : s ≤ m) (h' : m ≤ e) (he : e ≤ n) {d : Nat → Int} (hd : Stab K n d) (hx : ∀ x y, s ≤ x → x < m → m ≤ y → y < e → K (d y) < K (d x)) : Stab K n (rotF s m e d) := by
  intro p q hpq hq hk
  have hP : ∀ i, (s ≤ i ∧ i < s + (e - m) ∧ rotP s m e i = i + (m - s)) ∨ (s + (e - m) ≤ i ∧ i < e ∧ rotP s m e i = i - (e - m)) ∨ ((i < s ∨ e ≤ i) ∧ rotP s m e i = i) := fun i => by
    unfold rotP
    by_cases h1 : s ≤ i ∧ i < e
    · rw [if_pos h1]
      by_cases h2 : i < s + (e - m)
      · rw [if_pos h2]; exact .inl ⟨by omega, h2, rfl⟩
      · rw [if_neg h2]; exact .inr (.inl ⟨by omega, by omega, rfl⟩)
    · rw [if_neg h1]; exact .inr (.inr ⟨by omega, rfl⟩)
  unfold rotF at hk ⊢
  rcases hP p with ⟨a1, a2, a3⟩ | ⟨a1, a2, a3⟩ | ⟨a1, a3⟩ <;> rcases hP q with ⟨b1, b2, b3⟩ | ⟨b1, b2, b3⟩ | ⟨b1, b3⟩ <;> rw [a3, b3] at hk ⊢
  case inl.inr.inl =>
    have := hx (q - (e - m)) (p + (m - s)) (by omega) (by omega) (by omega) (by omega)
    omega
  all_goals exact hd _ _ (by omega) (by omega) hk
/-- Under Stab the key alone tells the order. -/
theorem ll_of {K : Int → Int} {n : Nat} {d : Nat → Int} (hd : Stab K n d) {p q : Nat} (hpq : p < q) (hq : q < n) (h : ¬ K (d q) < K (d p)) : LL K (d p) (d q) := by
  by_cases h1 : K (d p) < K (d q)
  · exact .inl h1
  · exact .inr ⟨by omega, hd p q hpq hq (by omega)⟩
theorem LL.trans {K : Int → Int} {x y z : Int} (h : LL K x y) (h' : LL K y z) : LL K x z := by
  unfold LL at *; omega
theorem LL.key {K : Int → Int} {x y : Int} (h : LL K x y) : K x ≤ K y := by
  unfold LL at h; omega
theorem Srt.key {K : Int → Int} {d : Nat → Int} {a b : Nat} (h : Srt K d a b) {p q : Nat} (hp : a ≤ p) (hpq : p ≤ q) (hq : q < b) : K (d p) ≤ K (d q) := by
  rcases Nat.lt_or_ge p q with c | c
  · exact (h p q hp c hq).key
  · have : p = q := by omega
    rw [this]; exact Int.le_refl _
theorem Srt.ll {K : Int → Int} {d : Nat → Int} {a b : Nat} (h : Srt K d a b) {p q : Nat} (hp : a ≤ p) (hpq : p ≤ q) (hq : q < b) {z : Int} (hz : LL K (d q) z) : LL K (d p) z := by
  rcases Nat.lt_or_ge p q with c | c
  · exact (h p q hp c hq).trans hz
  · have : p = q := by omega
    rw [this]; exact hz
theorem Srt.lr {K : Int → Int} {d : Nat → Int} {a b : Nat} (h : Srt K d a b) {p q : Nat} (hp : a ≤ p) (hpq : p ≤ q) (hq : q < b) {z : Int} (hz : LL K z (d p)) : LL K z (d q) := by
  rcases Nat.lt_or_ge p q with c | c
  · exact hz.trans (h p q hp c hq)
  · have : p = q := by omega
    rw [← this]; exact hz
/-- What a merge comes to: what is to be said of it. -/
structure Done (K : Int → Int) (n a b : Nat) (d d' : Nat → Int) : Prop where
  mv : Mv a b d d'
  stab : Stab K n d'
  srt : Srt K d' a b
/-- One turn of a merge: pieces a..s, s..m, m..e, e..b; the second and the third change, then both halves are merged. -/
theorem merge_turn {K : Int → Int} {n a s m e b mid : Nat} {d d1 d2 d3 : Nat → Int} (h1 : a ≤ s) (h2 : s ≤ m) (h3 : m ≤ e) (h4 : e ≤ b) (_ : b ≤ n) (hmid : mid = s + (e - m))
    (hs : Srt K d a m) (hs' : Srt K d m b) (hx : s < m → m < e → K (d (e - 1)) < K (d s)) (hy : a < s → e < b → LL K (d (s - 1)) (d e))
    (e1 : d1 = rotF s m e d) (m1 : Mv a mid d1 d2) (s1 : Srt K d2 a mid) (m2 : Mv mid b d2 d3) (s2 : Srt K d3 mid b) (st : Stab K n d3) : Done K n a b d d3 := by
  subst e1 hmid
  have hmv : Mv a b d (rotF s m e d) := (rot_mv s m e h2 h3 d).wide h1 h4
  refine ⟨(hmv.trans (m1.wide (by omega) (by omega))).trans (m2.wide (by omega) (by omega)), st, ?_⟩
  intro p q hp hpq hq
  -- both in the first half, both in the second, or one in each
  by_cases hqm : q < s + (e - m)
  · rw [m2.out p (by omega), m2.out q (by omega)]
    exact s1 p q hp hpq hqm
  · by_cases hpm : s + (e - m) ≤ p
    · exact s2 p q hpm hpq hq
    · -- p's value stood in a..s or m..e, q's in s..m or e..b
      rw [m2.out p (by omega)]
      obtain ⟨p', hp', ep⟩ := m1.mem p ⟨hp, by omega⟩
      obtain ⟨q', hq', eq⟩ := m2.mem q ⟨by omega, hq⟩
      rw [ep, eq, m1.out q' (by omega)]
      have vp : ∃ u, ((a ≤ u ∧ u < s) ∨ (m ≤ u ∧ u < e)) ∧ rotF s m e d p' = d u := by
        unfold rotF rotP
        by_cases c : s ≤ p' ∧ p' < e
        · rw [if_pos c, if_pos (by omega)]; exact ⟨_, .inr (by omega), rfl⟩
        · rw [if_neg c]; exact ⟨_, .inl (by omega), rfl⟩
      have vq : ∃ u, ((s ≤ u ∧ u < m) ∨ (e ≤ u ∧ u < b)) ∧ rotF s m e d q' = d u := by
        unfold rotF rotP
        by_cases c : s ≤ q' ∧ q' < e
        · rw [if_pos c, if_neg (by omega)]; exact ⟨_, .inl (by omega), rfl⟩
        · rw [if_neg c]; exact ⟨_, .inr (by omega), rfl⟩
      obtain ⟨u, hu, eu⟩ := vp
      obtain ⟨v, hv, ev⟩ := vq
      rw [eu, ev]
      rcases hu with hu | hu <;> rcases hv with hv | hv
      · exact hs u v (by omega) (by omega) (by omega)
      · exact hs.ll (by omega) (show u ≤ s - 1 by omega) (by omega) (hs'.lr (by omega) (show e ≤ v by omega) (by omega) (hy (by omega) (by omega)))
      · left
        have k1 := hs'.key (show m ≤ u by omega) (show u ≤ e - 1 by omega) (by omega)
        have k2 := hs.key (show a ≤ s by omega) (show s ≤ v by omega) (by omega)
        have := hx (by omega) (by omega)
        omega
      · exact hs' u v (by omega) (by omega) (by omega)
/-- What is changed by it, of the same key, stays. -/
theorem turn_stab {K : Int → Int} {n a s m e b : Nat} {d : Nat → Int} (h1 : a ≤ s) (h2 : s ≤ m) (h3 : m ≤ e) (h4 : e ≤ b) (h5 : b ≤ n) (hd : Stab K n d)
    (hs : Srt K d a m) (hs' : Srt K d m b) (hx : s < m → m < e → K (d (e - 1)) < K (d s)) : Stab K n (rotF s m e d) :=
  rot_stab h2 h3 (by omega) hd fun x y hx1 hx2 hy1 hy2 => by
    have k1 := hs'.key (show m ≤ y by omega) (show y ≤ e - 1 by omega) (by omega)
    have k2 := hs.key (show a ≤ s by omega) (show s ≤ x by omega) (by omega)
    have := hx (by omega) (by omega)
    omega
/-- The halves that a turn leaves are sorted each in two pieces. -/
theorem turn_left {K : Int → Int} {a s m e b : Nat} {d : Nat → Int} (h1 : a ≤ s) (h2 : s ≤ m) (h3 : m ≤ e) (h4 : e ≤ b) (hs : Srt K d a m) (hs' : Srt K d m b) :
    Srt K (rotF s m e d) a s ∧ Srt K (rotF s m e d) s (s + (e - m)) ∧ Srt K (rotF s m e d) (s + (e - m)) e ∧ Srt K (rotF s m e d) e b := by
  refine ⟨fun p q hp hpq hq => ?_, fun p q hp hpq hq => ?_, fun p q hp hpq hq => ?_, fun p q hp hpq hq => ?_⟩ <;> unfold rotF rotP
  · rw [if_neg (by omega), if_neg (by omega)]; exact hs _ _ (by omega) hpq (by omega)
  · rw [if_pos (by omega), if_pos (by omega), if_pos (by omega), if_pos (by omega)]; exact hs' _ _ (by omega) (by omega) (by omega)
  · rw [if_pos (by omega), if_neg (by omega), if_pos (by omega), if_neg (by omega)]; exact hs _ _ (by omega) (by omega) (by omega)
  · rw [if_neg (by omega), if_neg (by omega)]; exact hs' _ _ (by omega) hpq hq
/-- Nothing behind, or nothing ahead: no change. -/
theorem rot_none (s m e : Nat) (_ : s ≤ m) (h' : m ≤ e) (h0 : s = m ∨ m = e) (d : Nat → Int) : rotF s m e d = d := by
  funext i
  unfold rotF rotP
  by_cases h1 : s ≤ i ∧ i < e
  · rw [if_pos h1]
    rcases h0 with h0 | h0
    · rw [if_pos (by omega)]; congr 1; omega
    · rw [if_neg (by omega)]; congr 1; omega
  · rw [if_neg h1]
/-- A merge of nothing with something. -/
theorem srt_one {K : Int → Int} {d : Nat → Int} {a s b : Nat} (hs : Srt K d a s) (hs' : Srt K d s b) (h0 : ¬ (a < s ∧ s < b)) (h1 : a ≤ s) (h2 : s ≤ b) : Srt K d a b := by
  intro p q hp hpq hq
  by_cases c : a < s
  · have : s = b := by omega
    exact hs p q hp hpq (by omega)
  · exact hs' p q (by omega) hpq hq
/-- One ahead of a row: put behind those of a lesser key. -/
theorem one_ahead {K : Int → Int} {n a b i : Nat} {d : Nat → Int} (hb : b ≤ n) (hd : Stab K n d) (hs' : Srt K d (a + 1) b) (h1 : a + 1 ≤ i) (h2 : i ≤ b) (hx : a + 1 < i → K (d (i - 1)) < K (d a)) (hy : i < b → ¬ K (d i) < K (d a)) : Done K n a b d (rotF a (a + 1) i d) := by
  have hs : Srt K d a (a + 1) := fun p q hp hpq hq => by omega
  have st := turn_stab (Nat.le_refl a) (show a ≤ a + 1 by omega) h1 h2 hb hd hs hs' (fun _ => hx)
  obtain ⟨t1, t2, t3, t4⟩ := turn_left (Nat.le_refl a) (show a ≤ a + 1 by omega) h1 h2 hs hs'
  refine merge_turn (Nat.le_refl a) (show a ≤ a + 1 by omega) h1 h2 hb rfl hs hs' (fun _ => hx) (fun h => by omega) rfl (Mv.refl _ _ _) t2 (Mv.refl _ _ _) ?_ st
  intro p q hp hpq hq
  by_cases c : p < i
  · -- p is the one
    have hp' : p = i - 1 := by omega
    refine ll_of st hpq (by omega) ?_
    unfold rotF rotP
    rw [if_neg (by omega), if_pos (by omega), if_neg (by omega)]
    rw [show p - (i - (a + 1)) = a by omega]
    have k1 := hs'.key (show a + 1 ≤ i by omega) (show i ≤ q by omega) hq
    have := hy (by omega)
    omega
  · exact t4 p q (by omega) hpq hq
/-- One behind a row: put ahead of those of a greater key. -/
theorem one_behind {K : Int → Int} {n a m i : Nat} {d : Nat → Int} (hb : m + 1 ≤ n) (hd : Stab K n d) (hs : Srt K d a m) (h1 : a ≤ i) (h2 : i ≤ m) (hx : i < m → K (d m) < K (d i)) (hy : a < i → ¬ K (d m) < K (d (i - 1))) : Done K n a (m + 1) d (rotF i m (m + 1) d) := by
  have hs' : Srt K d m (m + 1) := fun p q hp hpq hq => by omega
  have st := turn_stab h1 h2 (show m ≤ m + 1 by omega) (Nat.le_refl (m + 1)) hb hd hs hs' (fun h _ => hx h)
  obtain ⟨t1, t2, t3, t4⟩ := turn_left h1 h2 (show m ≤ m + 1 by omega) (Nat.le_refl (m + 1)) hs hs'
  refine merge_turn h1 h2 (show m ≤ m + 1 by omega) (Nat.le_refl (m + 1)) hb rfl hs hs' (fun h _ => hx h) (fun _ h => by omega) rfl (Mv.refl _ _ _) ?_ (Mv.refl _ _ _) t3 st
  intro p q hp hpq hq
  by_cases c : q < i
  · exact t1 p q hp hpq c
  · have hq' : q = i := by omega
    refine ll_of st hpq (by omega) ?_
    unfold rotF rotP
    rw [if_pos (by omega), if_pos (by omega), if_neg (by omega)]
    rw [show q + (m - i) = m by omega]
    have k1 := hs.key (show a ≤ p by omega) (show p ≤ i - 1 by omega) (by omega)
    have := hy (by omega)
    omega
/-- Two sorted rows of the numbers below n are the same one. -/
structure Order (n : Nat) (d : Nat → Int) : Prop where
  lt : ∀ i, i < n → 0 ≤ d i ∧ d i < n
  inj : ∀ i j, i < n → j < n → d i = d j → i = j
  onto : ∀ x : Int, 0 ≤ x → x < n → ∃ i, i < n ∧ d i = x
theorem LL.irrefl {K : Int → Int} {x : Int} (h : LL K x x) : False := by unfold LL at h; omega
theorem LL.tri (K : Int → Int) (x y : Int) : LL K x y ∨ x = y ∨ LL K y x := by unfold LL; omega
theorem srt_unique {K : Int → Int} {n : Nat} {d d' : Nat → Int} (h : Order n d) (h' : Order n d') (hs : Srt K d 0 n) (hs' : Srt K d' 0 n) : ∀ i, i < n → d i = d' i := by
  intro i
  induction i using Nat.strongRecOn with
  | ind i ih =>
    intro hi
    rcases LL.tri K (d i) (d' i) with c | c | c
    · -- d i stands in d' at some k: below i it's taken, at i no, behind i too late
      obtain ⟨k, hk, ek⟩ := h'.onto (d i) (h.lt i hi).1 (h.lt i hi).2
      rcases Nat.lt_trichotomy k i with c1 | c1 | c1
      · have := ih k c1 hk
        rw [ek] at this
        exact absurd (h.inj k i hk hi this) (by omega)
      · subst c1; rw [ek]
      · have := (hs' i k (by omega) c1 hk)
        rw [ek] at this
        exact absurd (c.trans this) LL.irrefl
    · exact c
    · obtain ⟨k, hk, ek⟩ := h.onto (d' i) (h'.lt i hi).1 (h'.lt i hi).2
      rcases Nat.lt_trichotomy k i with c1 | c1 | c1
      · have := ih k c1 hk
        rw [ek] at this
        exact absurd (h'.inj i k hi hk this) (by omega)
      · subst c1; rw [ek]
      · have := (hs i k (by omega) c1 hk)
        rw [ek] at this
        exact absurd (c.trans this) LL.irrefl
theorem Mv.order {n : Nat} {d d' : Nat → Int} (h : Mv 0 n d d') (hd : Order n d) : Order n d' := by
  have hm : ∀ i, i < n → ∃ j, j < n ∧ d' i = d j := fun i hi => by
    obtain ⟨j, hj, e⟩ := h.mem i ⟨by omega, hi⟩
    exact ⟨j, hj.2, e⟩
  obtain ⟨p, r, h1, h2, h3, h4⟩ := h
  have hp : ∀ i, i < n → p i < n := fun i hi => by
    apply Classical.byContradiction
    intro hn
    have e := h4 (p i) (by omega)
    have e2 : p i = i := by
      have := congrArg r e
      rw [h1, h1] at this
      exact this
    omega
  refine ⟨fun i hi => ?_, fun i j hi hj e => ?_, fun x hx hxn => ?_⟩
  · rw [h3]; exact hd.lt _ (hp i hi)
  · rw [h3, h3] at e
    have := congrArg r (hd.inj _ _ (hp i hi) (hp j hj) e)
    rw [h1, h1] at this
    exact this
  · obtain ⟨i, hi, e⟩ := hd.onto x hx hxn
    refine ⟨r i, ?_, by rw [h3, h2]; exact e⟩
    apply Classical.byContradiction
    intro hn
    have := h4 (r i) (by omega)
    rw [h2] at this
    omega
theorem order_id (n : Nat) : Order n fun i => (i : Int) := ⟨fun i hi => by omega, fun i j _ _ e => by omega, fun x h0 h1 => ⟨x.toNat, by omega, by omega⟩⟩
theorem stab_id (K : Int → Int) (n : Nat) : Stab K n fun i => (i : Int) := fun p q h _ _ => by
  show (p : Int) < (q : Int)
  omega
end Go.Proofs.YtkohhdkkbaifoaaGreatDoor.Sm

/-
  Plain mathematics of no program: after how many times an order stands where it stood.
-/
namespace Go.Proofs.YtkohhdkkbaifoaaGreatDoor.Qm

def it (f : Nat → Nat) : Nat → Nat → Nat
  | 0, i => i
  | k + 1, i => f (it f k i)
/-- How many of the first n are not marked. -/
def left (g : Nat → Bool) : Nat → Nat
  | 0 => 0
  | n + 1 => left g n + (if g n then 0 else 1)
end Go.Proofs.YtkohhdkkbaifoaaGreatDoor.Qm

/-
  Plain mathematics of no program: what is wrong with an order.
-/
namespace Go.Proofs.YtkohhdkkbaifoaaGreatDoor
open Go.RowKit PK

/-- Is x among the first k numbers? -/
def metB (f : Nat → Int) (k x : Nat) : Bool := (List.range k).any fun j => f j == (x : Int)
theorem metB_iff (f : Nat → Int) (k x : Nat) : metB f k x = true ↔ ∃ j, j < k ∧ f j = x := by simp [metB]
theorem metB_succ (f : Nat → Int) (k x : Nat) : metB f (k + 1) x = (metB f k x || f k == (x : Int)) := by simp [metB, List.range_succ, List.any_append]
theorem metB_step (f : Nat → Int) (k : Nat) (h : 0 ≤ f k) : upd (metB f k) (f k).toNat true = metB f (k + 1) := by
  funext x
  rw [metB_succ]
  by_cases e : x = (f k).toNat
  · rw [e, upd_same]
    have : (f k == (((f k).toNat : Nat) : Int)) = true := by simp; omega
    rw [this, Bool.or_true]
  · rw [upd_other _ _ e]
    have : (f k == (x : Int)) = false := by simp; omega
    rw [this, Bool.or_false]
/-- What is wrong at place k of n. -/
def badO (n : Nat) (f : Nat → Int) (k : Nat) : Int := if f k < 0 ∨ (n : Int) ≤ f k then 3 else if metB f k (f k).toNat then 8 else 0
/-- What is wrong with an order. -/
def ordE (n : Nat) (f : Nat → Int) : Int := if 65536 < n then 5 else firstE (badO n f) n
structure GoodO (n : Nat) (f : Nat → Int) : Prop where
  le : n ≤ 65536
  lt : ∀ i, i < n → 0 ≤ f i ∧ f i < n
  inj : ∀ i j, i < n → j < n → f i = f j → i = j
theorem ordE_zero (n : Nat) (f : Nat → Int) : ordE n f = 0 ↔ GoodO n f := by
  unfold ordE
  by_cases h : 65536 < n
  · rw [if_pos h]
    exact ⟨fun h => (by cases h), fun hg => by have := hg.le; omega⟩
  · rw [if_neg h, firstE_zero]
    constructor
    · intro hb
      have h1 : ∀ i, i < n → (0 ≤ f i ∧ f i < n) ∧ metB f i (f i).toNat = false := fun i hi => by
        have := hb i hi
        unfold badO at this
        by_cases c : f i < 0 ∨ (n : Int) ≤ f i
        · rw [if_pos c] at this; cases this
        · rw [if_neg c] at this
          cases hm : metB f i (f i).toNat with
          | false => exact ⟨by omega, rfl⟩
          | true => rw [hm, if_pos rfl] at this; cases this
      have h2 : ∀ i j, i < j → j < n → f i ≠ f j := fun i j hij hj e => by
        have := (h1 j hj).2
        have h3 : metB f j (f j).toNat = true := (metB_iff _ _ _).2 ⟨i, hij, by have := (h1 j hj).1; omega⟩
        rw [h3] at this
        cases this
      refine ⟨by omega, fun i hi => (h1 i hi).1, fun i j hi hj e => ?_⟩
      rcases Nat.lt_trichotomy i j with c | c | c
      · exact absurd e (h2 i j c hj)
      · exact c
      · exact absurd e.symm (h2 j i c hi)
    · intro hg k hk
      unfold badO
      have hl := hg.lt k hk
      rw [if_neg (by omega)]
      cases hm : metB f k (f k).toNat with
      | false => rfl
      | true =>
        obtain ⟨j, hj, e⟩ := (metB_iff _ _ _).1 hm
        have := hg.inj j k (by omega) hk (by omega)
        omega
theorem ordE_cases (n : Nat) (f : Nat → Int) : (ordE n f = 0 ∧ GoodO n f) ∨ (ordE n f != 0) = true := by
  by_cases h : ordE n f = 0
  · exact .inl ⟨h, (ordE_zero n f).1 h⟩
  · exact .inr (by simpa using h)
theorem GoodO.of_order {n : Nat} {d : Nat → Int} (h : Sm.Order n d) (hn : n ≤ 65536) : GoodO n d := ⟨hn, h.lt, h.inj⟩
end Go.Proofs.YtkohhdkkbaifoaaGreatDoor

/-
  Contracts of rails.Wrong and of the document's.
-/
namespace Go.Proofs.YtkohhdkkbaifoaaGreatDoor
open Go.RowKit PK

theorem y_info_int : (Tryz.prog.info? 3).map (fun i => (i.zero, i.size, i.bytes)) = some (some (.int .i64 0), 1, 8) := by kernel_rfl
theorem y_info_bool : (Tryz.prog.info? 4).map (fun i => (i.zero, i.size, i.bytes)) = some (some (.bool false), 1, 1) := by kernel_rfl
theorem y_made_tab (z : Value) (n : Nat) : madeCells #[z] n = tab n fun _ => z := by
  unfold madeCells tab
  apply Array.ext
  · simp
  · intro i h1 h2
    simp [Nat.mod_one]
theorem bools_new (n : Nat) : (tab n fun _ => .bool false) = bools n fun _ => false := rfl
theorem ints_new (n : Nat) : (tab n fun _ => .int .i64 0) = ints n fun _ => 0 := rfl
set_option maxHeartbeats 1000000 in
theorem wrong_anyY (v : Value) (n : Nat) (f : Nat → Int) (w : World) (hv : NumsAt w v n f) :
    Calls Tryz.prog 167 #[v] w fun e w' => e = .returned (.int .i64 (ordE n f)) ∧ Below w.heap.size w w' := by
  by_cases h : 65536 < n
  · have HR : Hid (ordE n f = 5) := by rw [Hid]; unfold ordE; rw [if_pos h]
    obtain ⟨a, cap, rfl, _⟩ := hv.len
    have h2 : (65536 : Int) < (n : Int) := by omega
    clear hv
    go_enter Tryz.func167, Tryz.ntmps167
    go_wp2
    go_ret
    exact ⟨ret_int HR.out.symm, Below.refl _ _⟩
  · have HR : Hid (ordE n f = firstE (badO n f) n) := by rw [Hid]; unfold ordE; rw [if_neg h]
    have h2 : ¬ (65536 : Int) < (n : Int) := by omega
    have hmk := run_make_row' (P := Tryz.prog) 218 4 (.bool false) 1 Tryz.underlying218 y_info_bool rfl .i64 .i64 n (by omega) (by omega)
    rw [y_made_tab, bools_new] at hmk
    obtain ⟨a, cap, rfl, hm, hc⟩ := hv
    have HC := (show Hid _ from hc)
    clear hc
    go_enter Tryz.func167, Tryz.ntmps167
    go_wp2
    go_loopw [14] (fun i W => ∃ m : Nat, m ≤ n ∧ i = .int .i64 m ∧ Hid (firstE (badO n f) m = 0) ∧ RowAt W w.heap.size 4 (bools n (metB f m)) ∧ Below w.heap.size w W) (fun i _ => ((n : Int) - intOf i).toNat)
    case atStart => exact ⟨0, by omega, rfl, rfl, RowAt.new w _ _, (Below.refl _ _).alloc (Nat.le_refl _) _⟩
    case round =>
      obtain ⟨m, hm, rfl, HS, ro, hb⟩ := hrel
      by_cases hlt : m < n
      · obtain ⟨b, o, rfl, hc0⟩ := HC.out m hlt
        have HB : Hid (b < w.heap.size) := cell_block hc0
        have hc := (hb.cell (p := ⟨b, o + m, none⟩) HB.out).trans hc0
        clear hc0
        have HST := (show Hid _ from firstE_step _ m HS.out)
        by_cases hx : f m < 0 ∨ (n : Int) ≤ f m
        · have HV : Hid (ordE n f = 3) := by
            have h3 : firstE (badO n f) (m + 1) = 3 := by rw [HST.out]; unfold badO; rw [if_pos hx]
            rw [Hid, HR.out, firstE_keep _ (m + 1) (by rw [h3]; decide) n (by omega), h3]
          rcases hx with hx | hx
          · go_wp2
            go_ret
            exact ⟨ret_int HV.out.symm, hb⟩
          · have hx0 : ¬ f m < 0 := by omega
            go_wp2
            go_ret
            exact ⟨ret_int HV.out.symm, hb⟩
        · have h1 : ¬ f m < 0 := by omega
          have h3 : ¬ (n : Int) ≤ f m := by omega
          have HSP : Hid (upd (metB f m) (f m).toNat true = metB f (m + 1)) := metB_step f m (by omega)
          obtain ⟨x, hxe⟩ : ∃ x : Nat, f m = x := ⟨(f m).toNat, by omega⟩
          have hxt : (f m).toNat = x := by omega
          rw [hxt] at HSP
          have hbad : badO n f m = if metB f m x then 8 else 0 := by unfold badO; rw [if_neg hx, hxt]
          have hxn : x < n := by omega
          rw [hxe] at hc h1 h3
          have hcx := ro.cell (bools_get (metB f m) hxn)
          have hfx := ro.frozen x
          cases hmet : metB f m x with
          | true =>
            have HV : Hid (ordE n f = 8) := by
              have h3 : firstE (badO n f) (m + 1) = 8 := by rw [HST.out, hbad, hmet]; rfl
              rw [Hid, HR.out, firstE_keep _ (m + 1) (by rw [h3]; decide) n (by omega), h3]
            rw [hmet] at hcx
            clear hx hbad hxe hxt
            go_wp2
            go_ret
            exact ⟨ret_int HV.out.symm, hb⟩
          | false =>
            have HN : Hid (firstE (badO n f) (m + 1) = 0) := by rw [Hid, HST.out, hbad, hmet]; rfl
            rw [hmet] at hcx
            have ro2 : RowAt (wr.setCell ⟨w.heap.size, x, none⟩ (.bool true)) w.heap.size 4 (bools n (metB f (m + 1))) := by
              have := ro.set x (.bool true)
              rw [bools_set, HSP.out] at this
              exact this
            clear hx hbad hxe hxt
            go_wp2
            exact ⟨⟨m + 1, by omega, by go_num, HN, ro2, hb.setCell (by simp) _⟩, by simp [intOf]; omega⟩
      · have HE : Hid (ordE n f = 0) := by
          rw [Hid, HR.out]
          obtain rfl : m = n := by omega
          exact HS.out
        go_wp2
        go_ret
        exact ⟨ret_int HE.out.symm, hb⟩
end Go.Proofs.YtkohhdkkbaifoaaGreatDoor

/-
  Contracts of rails.misfit, put, back, Write and Read.
-/
namespace Go.Proofs.YtkohhdkkbaifoaaGreatDoor
open Go.RowKit PK

/-- What is wrong with an order and a text. -/
def fitE (n : Nat) (f : Nat → Int) (l : List UInt8) : Int := if ordE n f ≠ 0 then ordE n f else if ckE l ≠ 0 then ckE l else if n ≠ l.length then 8 else 0
theorem fitE_cases (n : Nat) (f : Nat → Int) (l : List UInt8) : (fitE n f l = 0 ∧ GoodO n f ∧ ckE l = 0 ∧ n = l.length ∧ l.length ≤ 65536 ∧ Pl.Lets l) ∨ (fitE n f l != 0) = true := by
  unfold fitE
  rcases ordE_cases n f with ⟨h1, h2⟩ | h1
  · rw [h1, if_neg (by simp)]
    rcases ck_cases l with ⟨h3, _, h4, h5⟩ | h3
    · rw [h3, if_neg (by simp)]
      by_cases h6 : n = l.length
      · rw [if_neg (by simpa using h6)]; exact .inl ⟨rfl, h2, rfl, h6, h4, h5⟩
      · rw [if_pos h6]; exact .inr rfl
    · rw [if_pos (by simpa using h3)]; exact .inr h3
  · rw [if_pos (by simpa using h1)]; exact .inr h1
set_option maxHeartbeats 1000000 in
theorem misfit_any (v : Value) (n : Nat) (f : Nat → Int) (s : ByteArray) (w : World) (hv : NumsAt w v n f) :
    Calls Tryz.prog 122 #[v, .string s] w fun e w' => e = .returned (.int .i64 (fitE n f s.data.toList)) ∧ Below w.heap.size w w' := by
  have HW : Hid (Calls Tryz.prog 167 #[v] w fun e w' => e = .returned (.int .i64 (ordE n f)) ∧ Below w.heap.size w w') := wrong_anyY v n f w hv
  have HCK := (show Hid (∀ W, Calls Tryz.prog 38 #[.string s] W fun e w' => e = .returned (.agg #[.int .i64 (ckE s.data.toList), .int .i64 (ckAt s.data.toList)]) ∧ Below W.heap.size W w') from fun W => check_all s W)
  have HF : Hid (fitE n f s.data.toList = if ordE n f ≠ 0 then ordE n f else if ckE s.data.toList ≠ 0 then ckE s.data.toList else if n ≠ s.size then 8 else 0) := by rw [Hid, Pl.size_len s]; rfl
  obtain ⟨a, cap, rfl, hm⟩ := hv.len
  generalize fitE n f s.data.toList = F at *
  generalize ordE n f = E1 at *
  generalize ckE s.data.toList = E2 at *
  generalize ckAt s.data.toList = A2 at *
  clear hv
  by_cases h1 : E1 = 0
  · subst h1
    by_cases h2 : E2 = 0
    · subst h2
      by_cases h3 : n = s.size
      · have HZ : Hid (F = 0) := by rw [Hid, HF.out]; simp [h3]
        subst h3
        go_enter Tryz.func122, Tryz.ntmps122
        go_wp2_with (first | (go_at_call 167; refine HW.out.mono ?_; rintro e W1 ⟨rfl, hb1⟩) | (go_at_call 38; refine (HCK.out _).mono ?_; rintro e W2 ⟨rfl, hb2⟩))
        go_ret
        exact ⟨ret_int HZ.out.symm, (hb1.trans (hb2.mono hb1.size)).alloc (by have := hb1.size; have := hb2.size; omega) _⟩
      · have HZ : Hid (F = 8) := by rw [Hid, HF.out]; simp [h3]
        have h4 : ((n : Int) == (s.size : Int)) = false := by simp; omega
        go_enter Tryz.func122, Tryz.ntmps122
        go_wp2_with (first | (go_at_call 167; refine HW.out.mono ?_; rintro e W1 ⟨rfl, hb1⟩) | (go_at_call 38; refine (HCK.out _).mono ?_; rintro e W2 ⟨rfl, hb2⟩))
        go_ret
        exact ⟨ret_int HZ.out.symm, (hb1.trans (hb2.mono hb1.size)).alloc (by have := hb1.size; have := hb2.size; omega) _⟩
    · have HZ : Hid (F = E2) := by rw [Hid, HF.out]; simp [h2]
      have h4 : (E2 == 0) = false := by simp; omega
      clear h2
      go_enter Tryz.func122, Tryz.ntmps122
      go_wp2_with (first | (go_at_call 167; refine HW.out.mono ?_; rintro e W1 ⟨rfl, hb1⟩) | (go_at_call 38; refine (HCK.out _).mono ?_; rintro e W2 ⟨rfl, hb2⟩))
      go_ret
      exact ⟨ret_int HZ.out.symm, (hb1.trans (hb2.mono hb1.size)).alloc (by have := hb1.size; have := hb2.size; omega) _⟩
  · have HZ : Hid (F = E1) := by rw [Hid, HF.out]; simp [h1]
    have h4 : (E1 == 0) = false := by simp; omega
    clear h1
    go_enter Tryz.func122, Tryz.ntmps122
    go_wp2_with (first | (go_at_call 167; refine HW.out.mono ?_; rintro e W1 ⟨rfl, hb1⟩))
    go_ret
    exact ⟨ret_int HZ.out.symm, hb1⟩
end Go.Proofs.YtkohhdkkbaifoaaGreatDoor

/-
  Plain mathematics of no program: lists that stand in order by keys; zigzags; columns.
-/
namespace Go.Proofs.YtkohhdkkbaifoaaGreatDoor.Sm

theorem nodup_len : ∀ (l m : List Nat), l.Nodup → (∀ x ∈ l, x ∈ m) → l.length ≤ m.length
  | [], m, _, _ => by simp
  | a :: t, m, h, hs => by
    have h1 := List.nodup_cons.1 h
    have ha : a ∈ m := hs a (by simp)
    have := nodup_len t (m.erase a) h1.2 (fun x hx => by
      have hne : x ≠ a := fun e => h1.1 (e ▸ hx)
      exact (List.mem_erase_of_ne hne).2 (hs x (by simp [hx])))
    rw [List.length_erase_of_mem ha] at this
    have hp : 0 < m.length := List.length_pos_of_mem ha
    simp only [List.length_cons]
    omega
theorem range_pw (n : Nat) : (List.range n).Pairwise (· < ·) := List.pairwise_lt_range
/-- On which rail letter i stands. -/
def railK (rails i : Nat) : Nat := if rails = 1 then 0 else min (i % (2 * (rails - 1))) (2 * (rails - 1) - i % (2 * (rails - 1)))
end Go.Proofs.YtkohhdkkbaifoaaGreatDoor.Sm
