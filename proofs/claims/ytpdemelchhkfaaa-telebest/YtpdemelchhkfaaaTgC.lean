/-
  tele.Best in company, to where its counts are made.
-/
import Derived.Test.YtpdemelchhkfaaaJn27
import Derived.Test.YtpdemelchhkfaaaTgB
namespace Go.Proofs.Ytpdemelchhkfaaa.Cs
open Go.Conc Go.RowKit PK Tl
theorem tc_cut : ∀ {k : Nat} {c : Code}, longOf k c = true → TC (restAt k c) (cutAt k c) c
  | 0, _, _ => .skip
  | k + 1, .seq a b, h => .seq a (tc_cut (k := k) (c := b) h)
  | _ + 1, .skip, h | _ + 1, .region _ _ _, h | _ + 1, .cond _ _ _, h | _ + 1, .block _ _, h | _ + 1, .loop _, h | _ + 1, .scope _, h | _ + 1, .label _, h | _ + 1, .exit _, h | _ + 1, .goto _, h | _ + 1, .ret, h | _ + 1, .rangeFunc _ _ _ _, h | _ + 1, .refuse _, h => by cases h
theorem b_long : longOf 5 bBody = true := by kernel_rfl
theorem b_ok : codeOk Try.prog (cutAt 5 bBody) = true := by kernel_rfl
set_option maxRecDepth 100000 in
set_option maxHeartbeats 4000000 in
theorem arr72 (T : Array Value) (h : T.size = 72) : ∃ g : Nat → Value, T = #[g 0, g 1, g 2, g 3, g 4, g 5, g 6, g 7, g 8, g 9, g 10, g 11, g 12, g 13, g 14, g 15, g 16, g 17, g 18, g 19, g 20, g 21, g 22, g 23, g 24, g 25, g 26, g 27, g 28, g 29, g 30, g 31, g 32, g 33, g 34, g 35, g 36, g 37, g 38, g 39, g 40, g 41, g 42, g 43, g 44, g 45, g 46, g 47, g 48, g 49, g 50, g 51, g 52, g 53, g 54, g 55, g 56, g 57, g 58, g 59, g 60, g 61, g 62, g 63, g 64, g 65, g 66, g 67, g 68, g 69, g 70, g 71] := ⟨fun i => T.getD i undef, by
  have e : (#[T.getD 0 undef, T.getD 1 undef, T.getD 2 undef, T.getD 3 undef, T.getD 4 undef, T.getD 5 undef, T.getD 6 undef, T.getD 7 undef, T.getD 8 undef, T.getD 9 undef, T.getD 10 undef, T.getD 11 undef, T.getD 12 undef, T.getD 13 undef, T.getD 14 undef, T.getD 15 undef, T.getD 16 undef, T.getD 17 undef, T.getD 18 undef, T.getD 19 undef, T.getD 20 undef, T.getD 21 undef, T.getD 22 undef, T.getD 23 undef, T.getD 24 undef, T.getD 25 undef, T.getD 26 undef, T.getD 27 undef, T.getD 28 undef, T.getD 29 undef, T.getD 30 undef, T.getD 31 undef, T.getD 32 undef, T.getD 33 undef, T.getD 34 undef, T.getD 35 undef, T.getD 36 undef, T.getD 37 undef, T.getD 38 undef, T.getD 39 undef, T.getD 40 undef, T.getD 41 undef, T.getD 42 undef, T.getD 43 undef, T.getD 44 undef, T.getD 45 undef, T.getD 46 undef, T.getD 47 undef, T.getD 48 undef, T.getD 49 undef, T.getD 50 undef, T.getD 51 undef, T.getD 52 undef, T.getD 53 undef, T.getD 54 undef, T.getD 55 undef, T.getD 56 undef, T.getD 57 undef, T.getD 58 undef, T.getD 59 undef, T.getD 60 undef, T.getD 61 undef, T.getD 62 undef, T.getD 63 undef, T.getD 64 undef, T.getD 65 undef, T.getD 66 undef, T.getD 67 undef, T.getD 68 undef, T.getD 69 undef, T.getD 70 undef, T.getD 71 undef]) = Array.ofFn (fun i : Fin 72 => T.getD i undef) := by kernel_rfl
  rw [e]
  refine Array.ext (by simpa using h) fun i h1 h2 => ?_
  simp [h1]⟩
section
variable {P : Program} {E : Env} {wl w : World}
/-- A block that the program knows the type of is its own. -/
theorem own_of (h : WR P E wl w) {b q s : Nat} {o : Bool} {x : Array Value} {T : TypeId} (hx : wl.heap[b]? = some (.cells x T (0, 0))) (hT : (P.info? T).isSome = true) (e : E b = some (q, s, o)) : o = true ∧ s = 0 ∧ ∃ y, w.heap[q]? = some (.cells y T (0, 0)) ∧ LR E x y := by
  cases o with
  | false =>
    obtain ⟨x', T', y, T2, fr, h1, h2, _⟩ := h.shared b q s e
    rw [hx] at h1
    injection h1 with h1
    injection h1 with _ e2
    rw [← e2] at h2
    rw [h2] at hT
    cases hT
  | true =>
    obtain ⟨h1, ol, o, h2, h3, h4⟩ := h.own b q s e
    rw [hx] at h2
    injection h2 with h2
    subst h2
    cases h4 with
    | cells T fr h => exact ⟨rfl, h1, _, h3, h⟩
theorem lr_ints {n : Nat} {f : Nat → Int} {y : Array Value} (h : LR E (ints n f) y) : y = ints n f := by
  refine Array.ext (by rw [← h.size]) fun i h1 h2 => ?_
  have hi : i < n := by rwa [ints_size] at h2
  have := h.at_ i _ y[i] (ints_get f hi) (Array.getElem?_eq_getElem h1)
  have e2 : (ints n f)[i] = .int .i64 (f i) := by
    have := ints_get f hi
    rw [Array.getElem?_eq_getElem h2] at this
    exact Option.some.inj this
  rw [e2]
  revert this
  generalize y[i] = z
  intro k
  cases k
  rfl
/-- A row of its own behind a slice, told in company. -/
theorem back_row (h : WR P E wl w) {g n cap : Nat} {x : Array Value} {T : TypeId} (hx : wl.heap[g]? = some (.cells x T (0, 0))) (hT : (P.info? T).isSome = true) {u : Value} (hu : VR E (.slice (some ⟨g, 0, none⟩) n cap) u) : ∃ a, u = .slice a n cap ∧ (0 < cap → ∃ q y, a = some ⟨q, 0, none⟩ ∧ E g = some (q, 0, true) ∧ w.heap[q]? = some (.cells y T (0, 0)) ∧ LR E x y) := by
  cases hu with
  | sliceNo a b => exact ⟨_, rfl, fun e => absurd e (Nat.lt_irrefl _)⟩
  | slice l c ha =>
    rename_i b
    obtain ⟨q, o2, sp⟩ := b
    obtain ⟨s, o, e1, e2, e3, _⟩ := ha
    dsimp only at e1 e2 e3
    obtain ⟨rfl, rfl, y, k1, k2⟩ := own_of h hx hT e1
    subst e2 e3
    exact ⟨_, rfl, fun _ => ⟨q, y, rfl, e1, k1, k2⟩⟩
theorem back_ptr (h : WR P E wl w) {g : Nat} {x : Array Value} {T : TypeId} (hx : wl.heap[g]? = some (.cells x T (0, 0))) (hT : (P.info? T).isSome = true) {u : Value} (hu : VR E (.pointer (some ⟨g, 0, none⟩)) u) : ∃ q y, u = .pointer (some ⟨q, 0, none⟩) ∧ E g = some (q, 0, true) ∧ w.heap[q]? = some (.cells y T (0, 0)) ∧ LR E x y := by
  cases hu with
  | ptr ha =>
    rename_i b
    obtain ⟨q, o2, sp⟩ := b
    obtain ⟨s, o, e1, e2, e3, _⟩ := ha
    dsimp only at e1 e2 e3
    obtain ⟨rfl, rfl, y, k1, k2⟩ := own_of h hx hT e1
    subst e2 e3
    exact ⟨q, y, rfl, e1, k1, k2⟩
end
/-- What is held where the counts are to be made. -/
structure At8 (W0 W w : World) (E : Env) (wl : World) (x y : Array Value) (h s la lb : Nat) (GF FA FB : Nat → Int) : Prop where
  lr : LR E x y
  wr : WR Try.prog E wl w
  big : Fns.G ≤ wl.heap.size
  bl : ∀ b q s o, E b = some (q, s, o) → (o = false ∧ q < W0.heap.size) ∨ (W.heap.size ≤ q ∧ q < w.heap.size ∧ o = true)
  kept : ∀ b, b < W.heap.size → w.heap[b]? = W.heap[b]?
  size : W.heap.size ≤ w.heap.size
  env : w.os = W.os ∧ w.output = W.output
  fr : ∃ v a1 k1 a2 k2, FrP v (.slice (some a1) la k1) (.slice (some a2) lb k2) h s la lb GF FA FB x wl
set_option maxRecDepth 100000 in
set_option maxHeartbeats 4000000 in
theorem At8.facts {W0 W w : World} {E : Env} {wl : World} {x y : Array Value} {h s la lb : Nat} {GF FA FB : Nat → Int} (k : At8 W0 W w E wl x y h s la lb GF FA FB) (ha : 1 ≤ la) (hb : 1 ≤ lb) (hG : ∀ j, 0 ≤ GF j) (hA : ∀ j, 0 ≤ FA j) (hB : ∀ j, 0 ≤ FB j) :
    ∃ (g : Nat → Value) (ya yb : Option Addr) (ca cb bb b8 bs : Nat) (ap aa ab : Option Addr), y = #[g 0, .slice ya la ca, g 2, .int .i64 (h : Nat), g 4, g 5, .pointer (some ⟨bb, 0, none⟩), g 7, .pointer (some ⟨b8, 0, none⟩), g 9, g 10, g 11, g 12, .pointer (some ⟨bs, 0, none⟩), g 14, g 15, g 16, g 17, g 18, g 19, g 20, g 21, g 22, g 23, g 24, g 25, g 26, g 27, g 28, g 29, g 30, g 31, g 32, g 33, g 34, g 35, g 36, g 37, g 38, g 39, g 40, g 41, g 42, g 43, g 44, g 45, g 46, g 47, g 48, g 49, g 50, g 51, g 52, g 53, g 54, g 55, g 56, g 57, g 58, g 59, g 60, g 61, g 62, g 63, g 64, g 65, g 66, g 67, g 68, g 69, g 70, g 71] ∧ w.heap[bb]? = some (.cells #[.slice yb lb cb] 24 (0, 0)) ∧ w.heap[bs]? = some (.cells #[.slice ap s s, .slice aa la la, .slice ab lb lb] 55 (0, 0)) ∧ PrC w ap s (fun r k => (GF (r * 2 + k)).toNat) ∧ NmC w aa la (fun k => (FA k).toNat) ∧ NmC w ab lb (fun k => (FB k).toNat) ∧ Rt w (.slice ap s s) ∧ Rt w (.slice aa la la) ∧ Rt w (.slice ab lb lb) ∧ W.heap.size ≤ bb ∧ W.heap.size ≤ bs ∧ (∀ ad, ap = some ad → 0 < s → W.heap.size ≤ ad.block) ∧ (∀ ad, aa = some ad → W.heap.size ≤ ad.block) ∧ (∀ ad, ab = some ad → W.heap.size ≤ ad.block) := by
  obtain ⟨v, a1, k1, a2, k2, f, bb, b8, q, gp, ga, gb, rfl, r1, r2, r3, r4, r5, r6⟩ := k.fr
  obtain ⟨g, hy⟩ := arr72 y (by rw [← k.lr.size]; rfl)
  have g1 := k.lr.at_ 1 _ (g 1) rfl (by rw [hy]; rfl)
  have g3 := k.lr.at_ 3 _ (g 3) rfl (by rw [hy]; rfl)
  have g6 := k.lr.at_ 6 _ (g 6) rfl (by rw [hy]; rfl)
  have g8 := k.lr.at_ 8 _ (g 8) rfl (by rw [hy]; rfl)
  have g13 := k.lr.at_ 13 _ (g 13) rfl (by rw [hy]; rfl)
  obtain ⟨ya, ca, e1⟩ : ∃ ya ca, g 1 = .slice ya la ca := by
    cases hg : g 1 <;> rw [hg] at g1 <;> cases g1 <;> exact ⟨_, _, rfl⟩
  have e3 : g 3 = .int .i64 (h : Nat) := by
    cases hg : g 3 <;> rw [hg] at g3 <;> cases g3 <;> rfl
  have own : ∀ {b q : Nat}, E b = some (q, 0, true) → W.heap.size ≤ q := fun {b q} e => by
    rcases k.bl b q 0 true e with ⟨h3, _⟩ | ⟨h3, _⟩
    · cases h3
    · exact h3
  obtain ⟨bb', y6, e6, o6, c6, l6⟩ := back_ptr k.wr r1 (by kernel_rfl) g6
  obtain ⟨b8', y8, e8, _, c8, l8⟩ := back_ptr k.wr r2 (by kernel_rfl) g8
  obtain ⟨bs', y13, e13, o13, c13, l13⟩ := back_ptr k.wr r3 (by kernel_rfl) g13
  rw [e1, e3, e6, e8, e13] at hy
  obtain ⟨z6, hz6, v6⟩ := l6.get (i := 0) rfl
  obtain ⟨yb, cb, e62⟩ : ∃ yb cb, z6 = .slice yb lb cb := by cases v6 <;> exact ⟨_, _, rfl⟩
  have hy6 : y6 = #[.slice yb lb cb] := by
    subst e62
    exact Array.ext (by rw [← l6.size]; rfl) fun i h1 h2 => by
      have : i = 0 := by simp at h2; omega
      subst this
      rw [Array.getElem?_eq_getElem h1] at hz6
      simpa using Option.some.inj hz6
  obtain ⟨zp, hzp, vp⟩ := l13.get (i := 0) rfl
  obtain ⟨za, hza, va⟩ := l13.get (i := 1) rfl
  obtain ⟨zb, hzb, vb⟩ := l13.get (i := 2) rfl
  obtain ⟨ap, rfl, kp⟩ := back_row k.wr r4 (by kernel_rfl) vp
  obtain ⟨aa, rfl, ka⟩ := back_row k.wr r5 (by kernel_rfl) va
  obtain ⟨ab, rfl, kb⟩ := back_row k.wr r6 (by kernel_rfl) vb
  have hy13 : y13 = #[.slice ap s s, .slice aa la la, .slice ab lb lb] := by
    refine Array.ext (by rw [← l13.size]; rfl) fun i h1 h2 => ?_
    have h3 : i = 0 ∨ i = 1 ∨ i = 2 := by simp at h2; omega
    rcases h3 with rfl | rfl | rfl
    · rw [Array.getElem?_eq_getElem h1] at hzp; exact Option.some.inj hzp
    · rw [Array.getElem?_eq_getElem h1] at hza; exact Option.some.inj hza
    · rw [Array.getElem?_eq_getElem h1] at hzb; exact Option.some.inj hzb
  rw [hy6] at c6
  rw [hy13] at c13
  have cellOf : ∀ {q n : Nat} {F : Nat → Int} {T : TypeId} {y : Array Value}, w.heap[q]? = some (.cells y T (0, 0)) → LR E (ints n F) y → (∀ j, 0 ≤ F j) → ∀ j, j < n → w.cell? ⟨q, j, none⟩ = some (.int .i64 ((F j).toNat : Nat)) := fun {q n F T y} hq hl hF j hj => by
    rw [cell_of_row _ _ _ _ _ _ hq, lr_ints hl, ints_get F hj, Int.toNat_of_nonneg (hF j)]
  refine ⟨g, ya, yb, ca, cb, bb', b8', bs', ap, aa, ab, hy, c6, c13, fun r hr => ?_, fun c hc => ?_, fun c hc => ?_, ?_, ?_, ?_, own o6, own o13, fun ad e hp => ?_, fun ad e => ?_, fun ad e => ?_⟩
  · obtain ⟨q, yy, rfl, _, hq, hl⟩ := kp (by omega)
    refine ⟨q, 0, rfl, fun j hj => ?_⟩
    rw [Nat.zero_add]
    exact cellOf hq hl hG (r * 2 + j) (by omega)
  · obtain ⟨q, yy, rfl, _, hq, hl⟩ := ka (by omega)
    refine ⟨q, 0, rfl, ?_⟩
    rw [Nat.zero_add]
    exact cellOf hq hl hA c hc
  · obtain ⟨q, yy, rfl, _, hq, hl⟩ := kb (by omega)
    refine ⟨q, 0, rfl, ?_⟩
    rw [Nat.zero_add]
    exact cellOf hq hl hB c hc
  · intro a l c e hp
    cases e
    obtain ⟨q, yy, e2, _, hq, _⟩ := kp hp
    cases e2
    exact ⟨rfl, yy, _, _, hq⟩
  · intro a l c e hp
    cases e
    obtain ⟨q, yy, e2, _, hq, _⟩ := ka hp
    cases e2
    exact ⟨rfl, yy, _, _, hq⟩
  · intro a l c e hp
    cases e
    obtain ⟨q, yy, e2, _, hq, _⟩ := kb hp
    cases e2
    exact ⟨rfl, yy, _, _, hq⟩
  · obtain ⟨q, yy, e2, eo, _⟩ := kp hp
    rw [e] at e2
    cases e2
    exact own eo
  · obtain ⟨q, yy, e2, eo, _⟩ := ka ha
    rw [e] at e2
    cases e2
    exact own eo
  · obtain ⟨q, yy, e2, eo, _⟩ := kb hb
    rw [e] at e2
    cases e2
    exact own eo
theorem rt_ag {W0 W : World} (hag : ∀ b, b < W0.heap.size → W.heap[b]? = W0.heap[b]?) {v : Value} (h : Rt W0 v) : Rt W v := fun a l c e hp => by
  obtain ⟨h1, y, T, fr, h2⟩ := h a l c e hp
  exact ⟨h1, y, T, fr, (hag _ (Array.getElem?_eq_some_iff.1 h2).1).trans h2⟩
set_option maxRecDepth 100000 in
set_option maxHeartbeats 4000000 in
/-- From the entry of Best to where its counts are to be made. -/
theorem best_to8 (v va vb : Value) (n la lb h : Nat) (f : Nat → Nat) (p q : Nat → Bool) (hn : n ≤ 65536) (hf : ∀ i, i < n → f i < 32) (ha : 1 ≤ la ∧ la ≤ 47) (hb : 1 ≤ lb ∧ lb ≤ 47) (hh : 1 ≤ h ∧ h ≤ 16) (W0 W : World) (hv : NumsAt W0 v n (fun i => (f i : Int))) (h1 : PinsAt W0 va la p) (h2 : PinsAt W0 vb lb q) (rv : Rt W0 v) (ra : Rt W0 va) (rb : Rt W0 vb) (hag : ∀ b, b < W0.heap.size → W.heap[b]? = W0.heap[b]?) {Sn : Nat → Prop} (hS : ∀ b, Sn b → W0.heap.size ≤ b ∧ b < W.heap.size) (c : List Frame) {gs : Array Goroutine} {t : Trace} {qq : Nat → Nat} (i0 : gs[0]? = some (G (mkF 7 #[v, va, vb, .int .i64 (h : Nat), undef, undef, undef, undef, undef, undef, undef, undef, undef, undef, undef, undef, undef, undef, undef, undef, undef, undef, undef, undef, undef, undef, undef, undef, undef, undef, undef, undef, undef, undef, undef, undef, undef, undef, undef, undef, undef, undef, undef, undef, undef, undef, undef, undef, undef, undef, undef, undef, undef, undef, undef, undef, undef, undef, undef, undef, undef, undef, undef, undef, undef, undef, undef, undef, undef, undef, undef, undef] [.code bBody] .run) c)) (hq : Qs Try.prog Sn gs t qq 0 W.heap.size) (sl : Option (Nat × Nat)) :
    ∃ N gs' w' sl' t' q' E x y wl, runNT Try.prog N (crowd gs W sl) t = (.next (crowd gs' w' sl'), t') ∧ gs'.size = gs.size ∧ gs'[0]? = some (G (mkF 7 y [.code (restAt 5 bBody)] .run) c) ∧ At8 W0 W w' E wl x y h (min (n - 1) (la * lb)) la lb (gaF (fun i => unN (f i ^^^ f (i + 1))) (la * lb) (n - 1)) (fun k => (chN p la k : Int)) (fun k => (chN q lb k : Int)) ∧ Qs Try.prog Sn gs' t' q' 0 w'.heap.size := by
  obtain ⟨av, cv, rfl, nv, kv⟩ := hv
  obtain ⟨aa, ca, rfl, na, ka⟩ := h1
  obtain ⟨ab, cb, rfl, nb, kb⟩ := h2
  have hn0 : ∀ b q s, (fun _ => none : Env) b ≠ some (q, s, true) := fun b q s e => by cases e
  obtain ⟨E1, wl1, av', c1, s1, b1, e1, r1, k1⟩ := cq_slice (P := Try.prog) (w := W0) (Cp.nil W0).cq hn0 no_type (f := fun i => .int .i64 (f i : Int)) (fun i E => .int _ _) kv rv
  obtain ⟨E2, wl2, aa', c2, s2, b2, e2, r2, k2⟩ := cq_slice c1 s1 no_type (f := fun i => .bool (p i)) (fun i E => .bool _) ka ra
  obtain ⟨E3, wl3, ab', c3, s3, b3, e3, r3, k3⟩ := cq_slice c2 s2 no_type (f := fun i => .bool (q i)) (fun i E => .bool _) kb rb
  have low : ∀ b q s o, E3 b = some (q, s, o) → o = false ∧ q < W0.heap.size := fun b q s o e => by
    refine ⟨?_, ?_⟩
    · cases o with
      | false => rfl
      | true => exact absurd e (s3 b q s)
    · rcases b3 b q s o e with e | e
      · rcases b2 b q s o e with e | e
        · rcases b1 b q s o e with e | e
          · cases e
          · exact e
        · exact e
      · exact e
  have hwr : WR Try.prog E3 wl3 W := wr_move c3.wr fun b x e => by
    obtain ⟨q, s, o⟩ := x
    exact hag q (low b q s o e).2
  have la0 : ∃ a1, aa' = some a1 := by obtain ⟨b, o, e, _⟩ := k2 0 (by omega); exact ⟨_, e⟩
  have lb0 : ∃ a1, ab' = some a1 := by obtain ⟨b, o, e, _⟩ := k3 0 (by omega); exact ⟨_, e⟩
  obtain ⟨a1, ea⟩ := la0
  obtain ⟨a2, eb⟩ := lb0
  have hin := InPre.start (c := c) (Post := fun x w' => FrP (.slice av' n cv) (.slice aa' la ca) (.slice ab' lb cb) h (min (n - 1) (la * lb)) la lb (gaF (fun i => unN (f i ^^^ f (i + 1))) (la * lb) (n - 1)) (fun k => (chN p la k : Int)) (fun k => (chN q lb k : Int)) x w') (P := Try.prog) (E := E3) (wl := wl3) (w := W) ⟨_, Try.func7⟩ (x := #[.slice av' n cv, .slice aa' la ca, .slice ab' lb cb, .int .i64 (h : Nat), undef, undef, undef, undef, undef, undef, undef, undef, undef, undef, undef, undef, undef, undef, undef, undef, undef, undef, undef, undef, undef, undef, undef, undef, undef, undef, undef, undef, undef, undef, undef, undef, undef, undef, undef, undef, undef, undef, undef, undef, undef, undef, undef, undef, undef, undef, undef, undef, undef, undef, undef, undef, undef, undef, undef, undef, undef, undef, undef, undef, undef, undef, undef, undef, undef, undef, undef, undef]) (y := #[.slice av n cv, .slice aa la ca, .slice ab lb cb, .int .i64 (h : Nat), undef, undef, undef, undef, undef, undef, undef, undef, undef, undef, undef, undef, undef, undef, undef, undef, undef, undef, undef, undef, undef, undef, undef, undef, undef, undef, undef, undef, undef, undef, undef, undef, undef, undef, undef, undef, undef, undef, undef, undef, undef, undef, undef, undef, undef, undef, undef, undef, undef, undef, undef, undef, undef, undef, undef, undef, undef, undef, undef, undef, undef, undef, undef, undef, undef, undef, undef, undef]) (lr_cons ((r1.mono e2.le).mono e3.le) (lr_cons (r2.mono e3.le) (lr_cons r3 (lr_cons (.int _ _) (lr_cons (.mkTuple (LR.nil _)) (lr_cons (.mkTuple (LR.nil _)) (lr_cons (.mkTuple (LR.nil _)) (lr_cons (.mkTuple (LR.nil _)) (lr_cons (.mkTuple (LR.nil _)) (lr_cons (.mkTuple (LR.nil _)) (lr_cons (.mkTuple (LR.nil _)) (lr_cons (.mkTuple (LR.nil _)) (lr_cons (.mkTuple (LR.nil _)) (lr_cons (.mkTuple (LR.nil _)) (lr_cons (.mkTuple (LR.nil _)) (lr_cons (.mkTuple (LR.nil _)) (lr_cons (.mkTuple (LR.nil _)) (lr_cons (.mkTuple (LR.nil _)) (lr_cons (.mkTuple (LR.nil _)) (lr_cons (.mkTuple (LR.nil _)) (lr_cons (.mkTuple (LR.nil _)) (lr_cons (.mkTuple (LR.nil _)) (lr_cons (.mkTuple (LR.nil _)) (lr_cons (.mkTuple (LR.nil _)) (lr_cons (.mkTuple (LR.nil _)) (lr_cons (.mkTuple (LR.nil _)) (lr_cons (.mkTuple (LR.nil _)) (lr_cons (.mkTuple (LR.nil _)) (lr_cons (.mkTuple (LR.nil _)) (lr_cons (.mkTuple (LR.nil _)) (lr_cons (.mkTuple (LR.nil _)) (lr_cons (.mkTuple (LR.nil _)) (lr_cons (.mkTuple (LR.nil _)) (lr_cons (.mkTuple (LR.nil _)) (lr_cons (.mkTuple (LR.nil _)) (lr_cons (.mkTuple (LR.nil _)) (lr_cons (.mkTuple (LR.nil _)) (lr_cons (.mkTuple (LR.nil _)) (lr_cons (.mkTuple (LR.nil _)) (lr_cons (.mkTuple (LR.nil _)) (lr_cons (.mkTuple (LR.nil _)) (lr_cons (.mkTuple (LR.nil _)) (lr_cons (.mkTuple (LR.nil _)) (lr_cons (.mkTuple (LR.nil _)) (lr_cons (.mkTuple (LR.nil _)) (lr_cons (.mkTuple (LR.nil _)) (lr_cons (.mkTuple (LR.nil _)) (lr_cons (.mkTuple (LR.nil _)) (lr_cons (.mkTuple (LR.nil _)) (lr_cons (.mkTuple (LR.nil _)) (lr_cons (.mkTuple (LR.nil _)) (lr_cons (.mkTuple (LR.nil _)) (lr_cons (.mkTuple (LR.nil _)) (lr_cons (.mkTuple (LR.nil _)) (lr_cons (.mkTuple (LR.nil _)) (lr_cons (.mkTuple (LR.nil _)) (lr_cons (.mkTuple (LR.nil _)) (lr_cons (.mkTuple (LR.nil _)) (lr_cons (.mkTuple (LR.nil _)) (lr_cons (.mkTuple (LR.nil _)) (lr_cons (.mkTuple (LR.nil _)) (lr_cons (.mkTuple (LR.nil _)) (lr_cons (.mkTuple (LR.nil _)) (lr_cons (.mkTuple (LR.nil _)) (lr_cons (.mkTuple (LR.nil _)) (lr_cons (.mkTuple (LR.nil _)) (lr_cons (.mkTuple (LR.nil _)) (lr_cons (.mkTuple (LR.nil _)) (lr_cons (.mkTuple (LR.nil _)) (lr_cons (.mkTuple (LR.nil _)) (lr_cons (.mkTuple (LR.nil _)) (lr_cons (.mkTuple (LR.nil _)) lr_nil)))))))))))))))))))))))))))))))))))))))))))))))))))))))))))))))))))))))) hwr c3.big b_ok (tc_cut b_long) (fun τ => reachT_code (best_front _ _ _ n la lb h f p q hn hf ha hb hh (wl3.tp τ) ⟨_, _, rfl, nv, fun c hc => by obtain ⟨b, o, e, k⟩ := k1 c hc; exact ⟨b, o, e, (e2.trans e3).cell k⟩⟩ ⟨_, _, rfl, na, fun c hc => by obtain ⟨b, o, e, k⟩ := k2 c hc; exact ⟨b, o, e, e3.cell k⟩⟩ ⟨_, _, rfl, nb, k3⟩))
  obtain ⟨N, gs', w', sl', t', q', E', x, y, wl2', r, z, i, po, lr, wr, big, fc, Q⟩ := beside_pre (sl := sl) (Nat.le_refl _) tf_fnsCode (fun b x e hs => by
    obtain ⟨q, s, o⟩ := x
    have := (low b q s o e).2
    have := (hS _ hs).1
    omega) (fun b hb => (hS b hb).2) i0 hin hq
  refine ⟨N, gs', w', sl', t', q', E', x, y, wl2', r, z, i, ⟨lr, wr, big, fun b q s o e => ?_, fun b hb => fc.keep b hb fun b' s e => ?_, fc.size, ⟨fc.os, fc.output⟩, ?_⟩, Q⟩
  · rcases fc.fresh b q s o e with e | e
    · exact .inl (low b q s o e)
    · exact .inr e
  · have := (low _ _ _ _ e).1
    cases this
  · subst ea eb
    exact ⟨_, a1, ca, a2, cb, po⟩
end Go.Proofs.Ytpdemelchhkfaaa.Cs
