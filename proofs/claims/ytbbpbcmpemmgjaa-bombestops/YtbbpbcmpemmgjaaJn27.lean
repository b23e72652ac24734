/-
  Several texts, joined: FgQ, BoM.
-/
import Derived.Test.YtbbpbcmpemmgjaaFgP
import Derived.Test.YtbbpbcmpemmgjaaJn16
/-
  The walk ahead of the pool: the channels, and on to the first 'go'.
-/
namespace Go.Proofs.Ytbbpbcmpemmgjaa.Hb
open Go.RowKit PK Vg Go.Conc Cs
theorem eR7_eq : eR7 = .region 7 eO7 true := by kernel_rfl
theorem terms7 (Fd : Nat) : Terms AtRel (DN Fd) := ⟨atRel_trans, dn_same⟩
theorem draw7 (Fd : Nat) : LetsDraw (DN Fd) := fun w => ⟨Nat.le_refl _, fun e he => by simp at he⟩
set_option maxRecDepth 100000 in
theorem every_b {H : Array Obj} {o : Os} {out : Array (Nat × ByteArray)} {n bM bL Fd : Nat} {p q r s v0 v2 v4 v6 v7 v8 v12 v13 v14 v15 v16 v17 v18 v19 v20 v21 v22 v23 v26 v27 v28 v29 v30 v31 v32 v33 v34 v35 v36 v37 v38 v39 v40 v41 v42 v43 v44 v45 v46 v47 v48 v49 v50 v51 v52 : Value} {w : World} (hF : Fd < H.size) (hz : Z7 H o out w) (cs : List Frame) : ∃ mu, Goes Try.prog true AtRel (DN Fd) (fun g w' => ∃ (C1 C2 bF bD : Nat) (v0 v2 v4 v6 v7 v8 v12 v13 v14 v15 v16 v17 v18 v19 v20 v21 v22 v23 v26 v27 v28 v29 v30 v31 v32 v33 v34 v35 v36 v37 v38 v39 v40 v41 v42 v43 v44 v45 v46 v47 v48 v49 v50 v51 v52 : Value), g = G (eB.at ⟨#[v0, .int .i64 (n : Nat), v2, .pointer (some ⟨bM, 0, none⟩), v4, .pointer (some ⟨bL, 0, none⟩), v6, v7, v8, .pointer (some ⟨Fd, 0, none⟩), .pointer (some ⟨bF, 0, none⟩), .pointer (some ⟨bD, 0, none⟩), v12, v13, v14, v15, v16, v17, v18, v19, v20, v21, v22, v23, .chan (some C1), .chan (some C2), v26, v27, v28, v29, v30, v31, v32, v33, v34, v35, v36, v37, v38, v39, v40, v41, v42, v43, v44, v45, v46, v47, v48, v49, v50, v51, v52], []⟩ [.code eT1]) cs ∧ Z7 H o out w' ∧ ZC H w' C1 ∧ ZC H w' C2 ∧ C1 ≠ C2 ∧ ZB H w' bF 95 (.chan (some C1)) ∧ ZB H w' bD 96 (.chan (some C2))) mu (G (eB.at ⟨#[v0, .int .i64 (n : Nat), v2, .pointer (some ⟨bM, 0, none⟩), v4, .pointer (some ⟨bL, 0, none⟩), v6, v7, v8, .pointer (some ⟨Fd, 0, none⟩), r, s, v12, v13, v14, v15, v16, v17, v18, v19, v20, v21, v22, v23, p, q, v26, v27, v28, v29, v30, v31, v32, v33, v34, v35, v36, v37, v38, v39, v40, v41, v42, v43, v44, v45, v46, v47, v48, v49, v50, v51, v52], []⟩ [.code eR7, .code eT1]) cs) w := by
  have h := wpC_region_held (P := Try.prog) (main := true) (fn := 32) (ops := eO7) (Q := Q7 H o out n bM bL Fd) (S := fun _ => True) (terms7 Fd) (draw7 Fd) (id := 7) (a := ⟨#[v0, .int .i64 (n : Nat), v2, .pointer (some ⟨bM, 0, none⟩), v4, .pointer (some ⟨bL, 0, none⟩), v6, v7, v8, .pointer (some ⟨Fd, 0, none⟩), r, s, v12, v13, v14, v15, v16, v17, v18, v19, v20, v21, v22, v23, p, q, v26, v27, v28, v29, v30, v31, v32, v33, v34, v35, v36, v37, v38, v39, v40, v41, v42, v43, v44, v45, v46, v47, v48, v49, v50, v51, v52], []⟩) (w := w) (by kernel_rfl) (fun w₁ h₁ => by
    obtain ⟨d, rfl⟩ := h₁
    exact st7_n hF ⟨hz.old, hz.size, hz.os, hz.output⟩)
  rw [eR7_eq]
  refine ⟨0 + _, wpC_goes h rfl (by decide) (fun e a' w' hQ => ?_)⟩
  obtain ⟨rfl, C1, C2, bF, bD, v0, v2, v4, v6, v7, v8, v12, v13, v14, v15, v16, v17, v18, v19, v20, v21, v22, v23, v26, v27, v28, v29, v30, v31, v32, v33, v34, v35, v36, v37, v38, v39, v40, v41, v42, v43, v44, v45, v46, v47, v48, v49, v50, v51, v52, rfl, z, k0, k1, kn, k2, k3⟩ := hQ
  exact Goes.stop fun w₂ h₂ => by
    obtain ⟨d, rfl⟩ := h₂
    exact ⟨C1, C2, bF, bD, _, _, _, _, _, _, _, _, _, _, _, _, _, _, _, _, _, _, _, _, _, _, _, _, _, _, _, _, _, _, _, _, _, _, _, _, _, _, _, _, _, _, _, _, _, rfl, z.at' d, k0, k1, kn, k2, k3⟩
set_option maxRecDepth 100000 in
set_option maxHeartbeats 4000000 in
theorem every_c {H : Array Obj} {o : Os} {out : Array (Nat × ByteArray)} {n bM bL Fd C1 C2 bF bD : Nat} {v0 v2 v4 v6 v7 v8 v12 v13 v14 v15 v16 v17 v18 v19 v20 v21 v22 v23 v26 v27 v28 v29 v30 v31 v32 v33 v34 v35 v36 v37 v38 v39 v40 v41 v42 v43 v44 v45 v46 v47 v48 v49 v50 v51 v52 : Value} {w : World} (hI : HI H o out w) (hn : 1 ≤ n) (cs : List Frame) : ∃ mu, Goes Try.prog true AtRel (DN Fd) (fun g w' => g.status = .running ∧ (∀ c : Cst, c.Fd = Fd → eGoP c bF bM bL bD n cs 0 g) ∧ HI H o out w') mu (G (eB.at ⟨#[v0, .int .i64 (n : Nat), v2, .pointer (some ⟨bM, 0, none⟩), v4, .pointer (some ⟨bL, 0, none⟩), v6, v7, v8, .pointer (some ⟨Fd, 0, none⟩), .pointer (some ⟨bF, 0, none⟩), .pointer (some ⟨bD, 0, none⟩), v12, v13, v14, v15, v16, v17, v18, v19, v20, v21, v22, v23, .chan (some C1), .chan (some C2), v26, v27, v28, v29, v30, v31, v32, v33, v34, v35, v36, v37, v38, v39, v40, v41, v42, v43, v44, v45, v46, v47, v48, v49, v50, v51, v52], []⟩ [.code eT1]) cs) w := by
  have hlt : decide (0 < n) = true := by simp; omega
  refine ⟨60, ?_⟩
  simp only [eT1, eBody, Try.f32, Option.getD_some]
  repeat (refine gstepN hI rfl (fun w₁ h₁ => ?_); walk_rw; refine ⟨dn_same _, ?_⟩; clear hI; have hI := h₁; clear h₁)
  refine gstepN hI rfl (fun w₁ h₁ => ?_)
  refine goes_oper_k rfl rfl (by decide) (fun K hK => ?_)
  go_simp
  refine hK _ _ ⟨⟨by simp, fun e he => ?_⟩, ?_⟩
  · have hm := mem_listed he
    simp [go_sem] at hm
  clear hK K hI
  have hI := h₁
  clear h₁
  refine gstepN hI rfl (fun w₁ h₁ => ?_)
  refine goes_oper_k rfl rfl (by decide) (fun K hK => ?_)
  go_simp
  refine hK _ _ ⟨⟨by simp, fun e he => ?_⟩, ?_⟩
  · have hm := mem_listed he
    simp [go_sem] at hm
  clear hK K hI
  have hI := h₁
  clear h₁
  repeat (refine gstepN hI rfl (fun w₁ h₁ => ?_); walk_rw; refine ⟨dn_same _, ?_⟩; clear hI; have hI := h₁; clear h₁)
  refine gstepN hI rfl (fun w₁ h₁ => ?_)
  refine goes_oper_k rfl rfl (by decide) (fun K hK => ?_)
  go_simp
  refine hK _ _ ⟨⟨by simp, fun e he => ?_⟩, ?_⟩
  · have hm := mem_listed he
    simp [go_sem] at hm
  clear hK K hI
  have hI := h₁
  clear h₁
  repeat (refine gstepN hI rfl (fun w₁ h₁ => ?_); walk_rw; refine ⟨dn_same _, ?_⟩; clear hI; have hI := h₁; clear h₁)
  refine gstepN hI rfl (fun w₁ h₁ => ?_)
  rw [stepG_cond (t := true) rfl]
  simp only [goes_go, ↓reduceIte]
  refine ⟨dn_same _, ?_⟩
  clear hI
  have hI := h₁
  clear h₁
  repeat (refine gstepN hI rfl (fun w₁ h₁ => ?_); walk_rw; refine ⟨dn_same _, ?_⟩; clear hI; have hI := h₁; clear h₁)
  refine gstepN hI rfl (fun w₁ h₁ => ?_)
  refine goes_oper_k rfl rfl (by decide) (fun K hK => ?_)
  go_simp
  refine hK _ _ ⟨⟨by simp, fun e he => ?_⟩, ?_⟩
  · have hm := mem_listed he
    simp [go_sem] at hm
  clear hK K hI
  have hI := h₁
  clear h₁
  exact Goes.stop fun w₂ h₂ => by
    obtain ⟨d, rfl⟩ := h₂
    refine ⟨rfl, fun c hc => ?_, hI⟩
    subst hc
    exact ⟨_, _, _, _, _, _, _, _, _, _, _, _, _, _, _, _, _, _, _, _, _, _, _, _, _, _, _, _, _, _, _, _, _, _, _, _, _, _, _, _, _, _, _, _, rfl⟩
end Go.Proofs.Ytbbpbcmpemmgjaa.Hb

/-
  Plain mathematics of the bombe: who must be whose partner, if two are; links of letters; the letter that stands most often.
-/
namespace Go.Proofs.Ytbbpbcmpemmgjaa.Bo
open Go.Proofs.Ytbbpbcmpemmgjaa PK

/-- A menu: k places, at each two letters and what the wheels make of letters there. -/
structure Mn where
  k : Nat
  x : Nat → Nat
  y : Nat → Nat
  s : Nat → Nat → Nat
structure Mn.Ok (m : Mn) : Prop where
  x : ∀ i, i < m.k → m.x i < 26
  y : ∀ i, i < m.k → m.y i < 26
  s : ∀ i, i < m.k → ∀ c, c < 26 → m.s i c < 26
/-- Whoever must be whose partner, if a and b are partners. -/
inductive Der (m : Mn) (a b : Nat) : Nat → Nat → Prop
  | base : Der m a b a b
  | sym {x y : Nat} : Der m a b x y → Der m a b y x
  | fwd {i y : Nat} : i < m.k → Der m a b (m.x i) y → Der m a b (m.y i) (m.s i y)
  | bwd {i y : Nat} : i < m.k → Der m a b (m.y i) y → Der m a b (m.x i) (m.s i y)
theorem Der.lt {m : Mn} (h : m.Ok) {a b : Nat} (ha : a < 26) (hb : b < 26) {x y : Nat} (hd : Der m a b x y) : x < 26 ∧ y < 26 := by
  induction hd with
  | base => exact ⟨ha, hb⟩
  | sym _ ih => exact ⟨ih.2, ih.1⟩
  | fwd hi _ ih => exact ⟨h.y _ hi, h.s _ hi _ ih.2⟩
  | bwd hi _ ih => exact ⟨h.x _ hi, h.s _ hi _ ih.2⟩
/-- All that a table says must be. -/
def Sub (m : Mn) (a b : Nat) (p : Nat → Int) : Prop := ∀ x, x < 26 → p x = -1 ∨ ∃ y : Nat, y < 26 ∧ p x = (y : Int) ∧ Der m a b x y
/-- All that must be is said. -/
structure Closed (m : Mn) (a b : Nat) (p : Nat → Int) : Prop where
  base : p a = (b : Nat)
  sym : ∀ x y : Nat, x < 26 → p x = (y : Int) → p y = (x : Nat)
  fwd : ∀ i y : Nat, i < m.k → p (m.x i) = (y : Int) → p (m.y i) = (m.s i y : Nat)
  bwd : ∀ i y : Nat, i < m.k → p (m.y i) = (y : Int) → p (m.x i) = (m.s i y : Nat)
theorem Closed.all {m : Mn} (h : m.Ok) {a b : Nat} (ha : a < 26) (hb : b < 26) {p : Nat → Int} (hc : Closed m a b p) {x y : Nat} (hd : Der m a b x y) : p x = (y : Int) := by
  induction hd with
  | base => exact hc.base
  | sym h1 ih => exact hc.sym _ _ (h1.lt h ha hb).1 ih
  | fwd hi _ ih => exact hc.fwd _ _ hi ih
  | bwd hi _ ih => exact hc.bwd _ _ hi ih
/-- Somebody must have two. -/
def Conf (m : Mn) (a b : Nat) : Prop := ∃ x y z : Nat, Der m a b x y ∧ Der m a b x z ∧ y ≠ z
/-- What is to be told of a pair. -/
def Res (m : Mn) (a b : Nat) (ok : Bool) (p : Nat → Int) : Prop := (ok = true ∧ Sub m a b p ∧ Closed m a b p) ∨ (ok = false ∧ Conf m a b ∧ p = fun _ => 0)
theorem Closed.not_conf {m : Mn} (h : m.Ok) {a b : Nat} (ha : a < 26) (hb : b < 26) {p : Nat → Int} (hc : Closed m a b p) : ¬ Conf m a b := by
  rintro ⟨x, y, z, h1, h2, h3⟩
  have e1 := hc.all h ha hb h1
  have e2 := hc.all h ha hb h2
  rw [e1] at e2
  exact h3 (by omega)
theorem Res.unique {m : Mn} (h : m.Ok) {a b : Nat} (ha : a < 26) (hb : b < 26) {o1 o2 : Bool} {p1 p2 : Nat → Int} (h1 : Res m a b o1 p1) (h2 : Res m a b o2 p2) : o1 = o2 ∧ ∀ x, x < 26 → p1 x = p2 x := by
  rcases h1 with ⟨e1, s1, c1⟩ | ⟨e1, f1, q1⟩ <;> rcases h2 with ⟨e2, s2, c2⟩ | ⟨e2, f2, q2⟩
  · refine ⟨by rw [e1, e2], fun x hx => ?_⟩
    rcases s1 x hx with n1 | ⟨y, hy, ey, dy⟩
    · rcases s2 x hx with n2 | ⟨z, hz, ez, dz⟩
      · rw [n1, n2]
      · have := c1.all h ha hb dz
        rw [n1] at this
        omega
    · rw [ey, c2.all h ha hb dy]
  · exact absurd f2 (c1.not_conf h ha hb)
  · exact absurd f1 (c2.not_conf h ha hb)
  · exact ⟨by rw [e1, e2], fun x _ => by rw [q1, q2]⟩
theorem res_exists {m : Mn} (h : m.Ok) {a b : Nat} (ha : a < 26) (hb : b < 26) : ∃ ok p, Res m a b ok p := by
  by_cases hc : Conf m a b
  · exact ⟨false, fun _ => 0, .inr ⟨rfl, hc, rfl⟩⟩
  · have huniq : ∀ x y z : Nat, Der m a b x y → Der m a b x z → y = z := fun x y z h1 h2 => by
      by_cases e : y = z
      · exact e
      · exact absurd ⟨x, y, z, h1, h2, e⟩ hc
    have hex : ∀ x : Nat, ∃ v : Int, (v = -1 ∧ ∀ y, ¬ Der m a b x y) ∨ ∃ y : Nat, v = (y : Int) ∧ Der m a b x y := fun x => by
      by_cases e : ∃ y, Der m a b x y
      · obtain ⟨y, hy⟩ := e
        exact ⟨(y : Int), .inr ⟨y, rfl, hy⟩⟩
      · exact ⟨-1, .inl ⟨rfl, fun y hy => e ⟨y, hy⟩⟩⟩
    obtain ⟨p, hp⟩ := Classical.skolem.1 hex
    have hs : ∀ x y : Nat, p x = (y : Int) → Der m a b x y := fun x y e => by
      rcases hp x with ⟨e1, _⟩ | ⟨z, e1, hz⟩
      · rw [e] at e1; omega
      · have : y = z := by omega
        rw [this]; exact hz
    have ht : ∀ x y : Nat, Der m a b x y → p x = (y : Int) := fun x y hd => by
      rcases hp x with ⟨_, e1⟩ | ⟨z, e1, hz⟩
      · exact absurd hd (e1 y)
      · rw [e1, huniq x y z hd hz]
    refine ⟨true, p, .inl ⟨rfl, fun x _ => ?_, ht _ _ .base, fun x y _ e => ht _ _ (hs _ _ e).sym, fun i y hi e => ht _ _ (Der.fwd hi (hs _ _ e)), fun i y hi e => ht _ _ (Der.bwd hi (hs _ _ e))⟩⟩
    rcases hp x with ⟨e1, _⟩ | ⟨z, e1, hz⟩
    · exact .inl e1
    · exact .inr ⟨z, (hz.lt h ha hb).2, e1, hz⟩
/-- The links of a letter: of the first i places. -/
def ml (m : Mn) (c : Nat) : Nat → List (Nat × Nat)
  | 0 => []
  | i + 1 => (ml m c i ++ if m.x i = c then [(i, m.y i)] else []) ++ if m.y i = c then [(i, m.x i)] else []
theorem ml_x (m : Mn) {i : Nat} : ∀ n, i < n → (i, m.y i) ∈ ml m (m.x i) n
  | 0, h => by omega
  | n + 1, h => by
    unfold ml
    by_cases e : i = n
    · subst e
      simp
    · exact List.mem_append.2 (.inl (List.mem_append.2 (.inl (ml_x m n (Nat.lt_of_le_of_ne (Nat.le_of_lt_succ h) e)))))
theorem ml_y (m : Mn) {i : Nat} : ∀ n, i < n → (i, m.x i) ∈ ml m (m.y i) n
  | 0, h => by omega
  | n + 1, h => by
    unfold ml
    by_cases e : i = n
    · subst e
      simp
    · exact List.mem_append.2 (.inl (List.mem_append.2 (.inl (ml_y m n (Nat.lt_of_le_of_ne (Nat.le_of_lt_succ h) e)))))
theorem ml_mem (m : Mn) (c : Nat) {q : Nat × Nat} : ∀ n, q ∈ ml m c n → q.1 < n ∧ ((m.x q.1 = c ∧ q.2 = m.y q.1) ∨ (m.y q.1 = c ∧ q.2 = m.x q.1))
  | 0, h => by simp [ml] at h
  | n + 1, h => by
    unfold ml at h
    rcases List.mem_append.1 h with h | h
    · rcases List.mem_append.1 h with h | h
      · have := ml_mem m c n h
        exact ⟨by omega, this.2⟩
      · by_cases e : m.x n = c
        · rw [if_pos e] at h
          simp at h
          subst h
          exact ⟨by simp, .inl ⟨e, rfl⟩⟩
        · rw [if_neg e] at h
          simp at h
    · by_cases e : m.y n = c
      · rw [if_pos e] at h
        simp at h
        subst h
        exact ⟨by simp, .inr ⟨e, rfl⟩⟩
      · rw [if_neg e] at h
        simp at h
theorem ml_len (m : Mn) (c : Nat) : ∀ n, (ml m c n).length ≤ 2 * n
  | 0 => by simp [ml]
  | n + 1 => by
    have := ml_len m c n
    unfold ml
    rw [List.length_append, List.length_append]
    by_cases e1 : m.x n = c <;> by_cases e2 : m.y n = c <;> simp [e1, e2] <;> omega
/-- Who has most: of the first k the first one. -/
def most (f : Nat → Nat) : Nat → Nat
  | 0 => 0
  | k + 1 => if f (most f k) < f k then k else most f k
theorem most_lt (f : Nat → Nat) : ∀ k, most f k < k ∨ most f k = 0
  | 0 => .inr rfl
  | k + 1 => by
    unfold most
    rcases most_lt f k with h | h <;> by_cases e : f (most f k) < f k
    · rw [if_pos e]; exact .inl (by omega)
    · rw [if_neg e]; exact .inl (by omega)
    · rw [if_pos e]; exact .inl (by omega)
    · rw [if_neg e]; exact .inr h
theorem most_26 (f : Nat → Nat) : most f 26 < 26 := by
  rcases most_lt f 26 with h | h
  · exact h
  · omega
/-- What is said so far, in the order in which it was said. -/
structure Said (m : Mn) (a b : Nat) (p : Nat → Int) (s : Nat → Nat) (n : Nat) : Prop where
  lt : ∀ j, j < n → s j < 26
  inj : ∀ i j, i < n → j < n → s i = s j → i = j
  set : ∀ j, j < n → p (s j) ≠ -1
  all : ∀ x, x < 26 → p x ≠ -1 → ∃ j, j < n ∧ s j = x
  sub : Sub m a b p
theorem Said.le {m : Mn} {a b : Nat} {p : Nat → Int} {s : Nat → Nat} {n : Nat} (h : Said m a b p s n) : n ≤ 26 := by
  have hn : ((List.range n).map s).Nodup := by
    rw [List.nodup_iff_pairwise_ne, List.pairwise_map]
    refine List.Pairwise.imp_of_mem ?_ (List.nodup_iff_pairwise_ne.1 (List.nodup_range (n := n)))
    intro i j hi hj hne e
    exact hne (h.inj i j (by simpa using hi) (by simpa using hj) e)
  have := Pm.nodup_le ((List.range n).map s) (List.range 26) hn (fun x hx => by
    obtain ⟨j, hj, rfl⟩ := List.mem_map.1 hx
    simpa using h.lt j (by simpa using hj))
  simpa using this
theorem Said.lt_of {m : Mn} {a b : Nat} {p : Nat → Int} {s : Nat → Nat} {n : Nat} (h : Said m a b p s n) {x : Nat} (hx : x < 26) (hp : p x = -1) : n < 26 := by
  have h1 := h.le
  by_cases e : n = 26
  · exfalso
    have hn : ((List.range n).map s ++ [x]).Nodup := by
      rw [List.nodup_append]
      refine ⟨?_, by simp, ?_⟩
      · rw [List.nodup_iff_pairwise_ne, List.pairwise_map]
        refine List.Pairwise.imp_of_mem ?_ (List.nodup_iff_pairwise_ne.1 (List.nodup_range (n := n)))
        intro i j hi hj hne e
        exact hne (h.inj i j (by simpa using hi) (by simpa using hj) e)
      · intro u hu v hv e2
        obtain ⟨j, hj, rfl⟩ := List.mem_map.1 hu
        have hv' : v = x := by simpa using hv
        subst hv'
        exact h.set j (by simpa using hj) (by rw [e2]; exact hp)
    have := Pm.nodup_le _ (List.range 26) hn (fun u hu => by
      rcases List.mem_append.1 hu with hu | hu
      · obtain ⟨j, hj, rfl⟩ := List.mem_map.1 hu
        simpa using h.lt j (by simpa using hj)
      · have : u = x := by simpa using hu
        subst this
        simpa using hx)
    simp at this
    omega
  · omega
theorem Said.put {m : Mn} {a b : Nat} {p : Nat → Int} {s : Nat → Nat} {n : Nat} (h : Said m a b p s n) {x y : Nat} (hx : x < 26) (hy : y < 26) (hp : p x = -1) (hd : Der m a b x y) : Said m a b (upd p x (y : Int)) (fun j => if j = n then x else s j) (n + 1) := by
  refine ⟨fun j hj => ?_, fun i j hi hj => ?_, fun j hj => ?_, fun u hu hp2 => ?_, fun u hu => ?_⟩
  · show (if j = n then x else s j) < 26
    by_cases e : j = n
    · rw [if_pos e]; exact hx
    · rw [if_neg e]; exact h.lt j (by omega)
  · show (if i = n then x else s i) = (if j = n then x else s j) → i = j
    by_cases e1 : i = n <;> by_cases e2 : j = n
    · intro _; omega
    · rw [if_pos e1, if_neg e2]
      intro e
      exact absurd (by rw [← e]; exact hp) (h.set j (by omega))
    · rw [if_neg e1, if_pos e2]
      intro e
      exact absurd (by rw [e]; exact hp) (h.set i (by omega))
    · rw [if_neg e1, if_neg e2]
      exact h.inj i j (by omega) (by omega)
  · show upd p x (y : Int) (if j = n then x else s j) ≠ -1
    unfold upd
    by_cases e : j = n
    · rw [if_pos e, if_pos rfl]; omega
    · rw [if_neg e]
      by_cases e2 : s j = x
      · rw [if_pos e2]; omega
      · rw [if_neg e2]; exact h.set j (by omega)
  · unfold upd at hp2
    by_cases e : u = x
    · exact ⟨n, by omega, by show (if n = n then x else s n) = u; rw [if_pos rfl, e]⟩
    · rw [if_neg e] at hp2
      obtain ⟨j, hj, e2⟩ := h.all u hu hp2
      exact ⟨j, by omega, by show (if j = n then x else s j) = u; rw [if_neg (by omega), e2]⟩
  · unfold upd
    by_cases e : u = x
    · rw [if_pos e]
      exact .inr ⟨y, hy, rfl, by rw [e]; exact hd⟩
    · rw [if_neg e]; exact h.sub u hu
/-- A letter of which all consequences are drawn. -/
def Done (m : Mn) (p : Nat → Int) (x : Nat) : Prop := ∃ y : Nat, p x = (y : Int) ∧ p y = (x : Nat) ∧ ∀ q, q ∈ ml m x m.k → p q.2 = (m.s q.1 y : Nat)
/-- A table that says more. -/
def Ext (p q : Nat → Int) : Prop := ∀ x (y : Nat), p x = (y : Int) → q x = (y : Int)
theorem Ext.refl (p : Nat → Int) : Ext p p := fun _ _ h => h
theorem Ext.trans {p q r : Nat → Int} (h : Ext p q) (h' : Ext q r) : Ext p r := fun x y e => h' x y (h x y e)
theorem Ext.put {p : Nat → Int} {x : Nat} (y : Int) (hp : p x = -1) : Ext p (upd p x y) := fun u v e => by
  unfold upd
  by_cases e2 : u = x
  · rw [e2, hp] at e; omega
  · rw [if_neg e2]; exact e
theorem Done.ext {m : Mn} {p q : Nat → Int} {x : Nat} (h : Done m p x) (he : Ext p q) : Done m q x := by
  obtain ⟨y, h1, h2, h3⟩ := h
  exact ⟨y, he _ _ h1, he _ _ h2, fun r hr => he _ _ (h3 r hr)⟩
theorem closed_of {m : Mn} (hm : m.Ok) {a b : Nat} {p : Nat → Int} {s : Nat → Nat} {n : Nat} (h : Said m a b p s n) (hb : p a = (b : Nat)) (hd : ∀ j, j < n → Done m p (s j)) : Closed m a b p := by
  have hall : ∀ x y : Nat, x < 26 → p x = (y : Int) → Done m p x := fun x y hx e => by
    obtain ⟨j, hj, e2⟩ := h.all x hx (by rw [e]; omega)
    rw [← e2]
    exact hd j hj
  refine ⟨hb, fun x y hx e => ?_, fun i y hi e => ?_, fun i y hi e => ?_⟩
  · obtain ⟨z, h1, h2, _⟩ := hall x y hx e
    have : y = z := by rw [e] at h1; omega
    rw [this]; exact h2
  · obtain ⟨z, h1, _, h3⟩ := hall _ y (hm.x i hi) e
    have : y = z := by rw [e] at h1; omega
    rw [this]; exact h3 (i, m.y i) (ml_x m m.k hi)
  · obtain ⟨z, h1, _, h3⟩ := hall _ y (hm.y i hi) e
    have : y = z := by rw [e] at h1; omega
    rw [this]; exact h3 (i, m.x i) (ml_y m m.k hi)
theorem der_link {m : Mn} {a b x y : Nat} {q : Nat × Nat} (hq : q ∈ ml m x m.k) (hd : Der m a b x y) : Der m a b q.2 (m.s q.1 y) := by
  obtain ⟨h1, ⟨h2, h3⟩ | ⟨h2, h3⟩⟩ := ml_mem m x m.k hq
  · rw [h3]; exact Der.fwd h1 (by rw [h2]; exact hd)
  · rw [h3]; exact Der.bwd h1 (by rw [h2]; exact hd)
/-- How many letters have a partner. -/
def cs (p : Nat → Int) : Nat := ((List.range 26).filter fun x => decide (0 ≤ p x)).length
theorem Sub.put {m : Mn} {a b : Nat} {p : Nat → Int} (h : Sub m a b p) {x y : Nat} (hy : y < 26) (hd : Der m a b x y) : Sub m a b (upd p x (y : Int)) := fun u hu => by
  unfold upd
  by_cases e : u = x
  · rw [if_pos e]
    exact .inr ⟨y, hy, rfl, by rw [e]; exact hd⟩
  · rw [if_neg e]; exact h u hu
end Go.Proofs.Ytbbpbcmpemmgjaa.Bo
