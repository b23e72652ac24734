/-
  Several texts, joined: TgE, TgF.
-/
import Derived.Test.YtpdemelchhkfaaaJn31
/-
  sync.WaitGroup's Add of n, walked by goroutine 0 beside goroutines that only leave.
-/
namespace Go.Proofs.Ytpdemelchhkfaaa.Cs
open Go.Conc Go.RowKit Go.Conc.Lib Go.ConcR.Gen Go.ConcN.Gen
open Go.ConcR (KK WgAt wgBlock stA smA rd wr mk DC0)
open Go.ConcN (st_flag st_waiters)
variable {L : WgLink} {P : Program} {Wg n : Nat}
def OnK (P : Program) (Kw : World → Prop) (Stp : Goroutine → Prop) (g : Goroutine) : Prop := g.status = .running ∧ ∀ w, Kw w → ∃ m, Goes P true (fun _ w => Kw w) DC0 (fun g _ => g.status = .running ∧ Stp g) m g w
theorem onk_of {Kw : World → Prop} {Stp : Goroutine → Prop} {g : Goroutine} (m : Nat) (hs : g.status = .running) (h : ∀ w, Kw w → Goes P true (fun _ w => Kw w) DC0 (fun g _ => g.status = .running ∧ Stp g) m g w) : OnK P Kw Stp g := ⟨hs, fun w hw => ⟨m, h w hw⟩⟩
def Wk (tW : TypeId) (Wg : Nat) (st : Int) (w : World) : Prop := WgAt tW Wg w st 0
theorem wk_rely {tW : TypeId} {st : Int} {w w₁ : World} (_ : Wk tW Wg st w) (r : Wk tW Wg st w₁) : Wk tW Wg st w₁ := r
section
variable (P : Program) (tW : TypeId) (Wg : Nat) (S : Int) (Jn : Goroutine → Prop)
def aEn (g : Goroutine) : Prop := isG g ∧ ∃ g', (∀ w, stepG P true g w = .go g' w #[mk .enable]) ∧ OnK P (Wk tW Wg S) Jn g'
def aRd (g : Goroutine) : Prop := isG g ∧ ∃ g', (∀ w, Wk tW Wg S w → stepG P true g w = .go g' w #[mk (.read (smA Wg))]) ∧ OnK P (Wk tW Wg S) (aEn P tW Wg S Jn) g'
def aAt (g : Goroutine) : Prop := isG g ∧ ∃ g', (∀ w, Wk tW Wg 0 w → stepG P true g w = .go g' (w.setCell (stA Wg) (.int .u64 S)) #[rd (stA Wg), wr (stA Wg)]) ∧ OnK P (Wk tW Wg S) (aRd P tW Wg S Jn) g'
def aDi (g : Goroutine) : Prop := isG g ∧ ∃ g', (∀ w, stepG P true g w = .go g' w #[mk .disable]) ∧ OnK P (Wk tW Wg 0) (aAt P tW Wg S Jn) g'
end
section
variable {b₀ : Frame} {a₀ : Act} {ops₀ : Array Oper} {i₀ : Nat} {rest₀ : List Nat} {k₀ : List Item} {cs : List Frame} {mT : Nat} {Jn : Goroutine → Prop}
set_option maxRecDepth 100000 in
set_option maxHeartbeats 8000000 in
theorem add_start {S : Int} (H : WgLib P L) (hn : 1 ≤ n ∧ n ≤ 16) (hS : S = (n : Int) * KK) (hT : ∀ w, Wk L.tWg Wg S w → Goes P true (fun _ w => Wk L.tWg Wg S w) DC0 (fun g _ => g.status = .running ∧ Jn g) mT (G (b₀.at (a₀.put ((ops₀[i₀]?).bind (·.dst)) (.tuple #[])) (.inRegion ops₀ rest₀ :: k₀)) cs) w) :
    ∀ w, Wk L.tWg Wg 0 w → Goes P true (fun _ w => Wk L.tWg Wg 0 w) DC0 (fun g _ => g.status = .running ∧ aDi P L.tWg Wg S Jn g) 20 (G ((base L.add).at ⟨#[.pointer (some ⟨Wg, 0, none⟩), .int .i64 (n : Nat), undef, undef, undef, undef, undef, undef, undef, undef, undef, undef, undef, undef, undef, undef, undef, undef, undef, undef, undef, undef, undef, undef, undef, undef, undef, undef, undef, undef, undef, undef, undef, undef, undef, undef, undef, undef, undef, undef, undef, undef, undef, undef, undef, undef, undef, undef, undef, undef, undef, undef, undef, undef, undef, undef, undef, undef, undef, undef, undef, undef, undef, undef, undef, undef, undef, undef, undef, undef, undef, undef, undef, undef, undef, undef, undef, undef, undef, undef, undef, undef, undef, undef, undef, undef, undef, undef, undef, undef, undef, undef, undef, undef, undef, undef, undef, undef, undef, undef, undef, undef, undef, undef, undef, undef, undef, undef, undef, undef, undef, undef, undef, undef, undef, undef, undef], []⟩ [.code (body_add L)]) (b₀.at a₀ (.inRegion ops₀ (i₀ :: rest₀) :: k₀) :: cs)) w := by
  intro w hK
  lib_facts
  have e0 : (n : Int) % 18446744073709551616 * 4294967296 % 18446744073709551616 = S := by rw [hS]; simp only [KK]; omega
  have a1 : S / 4294967296 = (n : Int) := by rw [hS]; simp only [KK]; omega
  have b1 : bits .and .u64 S 2147483648 = 0 := by rw [hS]; have := st_flag n 0 (by omega) (by omega); simpa [KK] using this
  have b2 : bits .and .u64 S 2147483647 = 0 := by rw [hS]; have := st_waiters n 0 (by omega) (by omega); simpa [KK] using this
  have eS : IntKind.u64.wrap (0 + S) = S := by rw [IntKind.wrap_u64, hS]; simp only [KK]; omega
  have c1 : IntKind.i32.wrap (n : Int) = (n : Int) := by rw [IntKind.wrap_i32]; omega
  have q4 : decide (0 < (n : Int)) = true := decide_eq_true (by omega)
  have q4' : decide (0 < n) = true := decide_eq_true (by omega)
  clear hS
  have q1 : decide ((n : Int) < 0) = false := decide_eq_false (by omega)
  simp only [body_add, addFn, Option.getD_some]
  repeat (first
    | u_c stepG_seq wk_rely hK
    | u_c stepG_region_end wk_rely hK
    | u_reg wk_rely hK
    | u_cond true wk_rely hK
    | u_cond false wk_rely hK
    | u_c stepG_skip wk_rely hK
    | u_c stepG_block wk_rely hK
    | u_c stepG_loop wk_rely hK
    | u_c stepG_inBlock wk_rely hK
    | u_c stepG_inLoop wk_rely hK
    | (rw [at_op]; u_skip wk_rely hK)
    | (rw [at_op]; u_op wk_rely hK))
  refine Goes.stop (fun w₁ h₁ => ?_)
  clear h₁ hK
  refine ⟨rfl, ⟨_, _, rfl⟩, _, fun w => stepG_mark0 .disable (by simp) rfl rfl (by k_ne) rfl H.f_disable (x_disable_n L) (x_disable_b L) (x_disable_x L) (x_disable_f L), onk_of 60 rfl fun w hK => ?_⟩
  walk_nrm
  u_c stepG_region_end wk_rely hK
  u_reg wk_rely hK
  u_defer wk_rely hK
  repeat (first
    | u_c stepG_seq wk_rely hK
    | u_c stepG_region_end wk_rely hK
    | u_reg wk_rely hK
    | u_cond true wk_rely hK
    | u_cond false wk_rely hK
    | u_c stepG_skip wk_rely hK
    | u_c stepG_block wk_rely hK
    | u_c stepG_loop wk_rely hK
    | u_c stepG_inBlock wk_rely hK
    | u_c stepG_inLoop wk_rely hK
    | (rw [at_op]; u_skip wk_rely hK)
    | (rw [at_op]; u_op wk_rely hK))
  u_bub wk_rely hK
  repeat (first
    | u_c stepG_seq wk_rely hK
    | u_c stepG_region_end wk_rely hK
    | u_reg wk_rely hK
    | u_cond true wk_rely hK
    | u_cond false wk_rely hK
    | u_c stepG_skip wk_rely hK
    | u_c stepG_block wk_rely hK
    | u_c stepG_loop wk_rely hK
    | u_c stepG_inBlock wk_rely hK
    | u_c stepG_inLoop wk_rely hK
    | (rw [at_op]; u_skip wk_rely hK)
    | (rw [at_op]; u_op wk_rely hK))
  u_call H.f_uAdd (nm_uAdd L) uAddFn wk_rely hK
  repeat (first
    | u_c stepG_seq wk_rely hK
    | u_c stepG_region_end wk_rely hK
    | u_reg wk_rely hK
    | u_cond true wk_rely hK
    | u_cond false wk_rely hK
    | u_c stepG_skip wk_rely hK
    | u_c stepG_block wk_rely hK
    | u_c stepG_loop wk_rely hK
    | u_c stepG_inBlock wk_rely hK
    | u_c stepG_inLoop wk_rely hK
    | (rw [at_op]; u_skip wk_rely hK)
    | (rw [at_op]; u_op wk_rely hK))
  refine Goes.stop (fun w₁ h₁ => ?_)
  clear h₁ hK
  refine ⟨rfl, ⟨_, _, rfl⟩, _, fun w hw => (stepG_add_atomic rfl rfl (by k_ne) rfl H.f_addU64 (x_addU64_n L) (x_addU64_b L) (x_addU64_x L) .u64 (x_addU64_f L) rfl rfl (WgAt.cellSt hw) (WgAt.thaw hw 0)).trans (by rw [eS]; rfl), onk_of 120 rfl fun w hK => ?_⟩
  clear eS e0
  walk_nrm
  repeat (first
    | u_c stepG_seq wk_rely hK
    | u_c stepG_region_end wk_rely hK
    | u_reg wk_rely hK
    | u_cond true wk_rely hK
    | u_cond false wk_rely hK
    | u_c stepG_skip wk_rely hK
    | u_c stepG_block wk_rely hK
    | u_c stepG_loop wk_rely hK
    | u_c stepG_inBlock wk_rely hK
    | u_c stepG_inLoop wk_rely hK
    | (rw [at_op]; u_skip wk_rely hK)
    | (rw [at_op]; u_op wk_rely hK))
  u_c stepG_ret' wk_rely hK
  u_leave1 H.f_uAdd wk_rely hK
  repeat (first
    | u_c stepG_seq wk_rely hK
    | u_c stepG_region_end wk_rely hK
    | u_reg wk_rely hK
    | u_cond true wk_rely hK
    | u_cond false wk_rely hK
    | u_c stepG_skip wk_rely hK
    | u_c stepG_block wk_rely hK
    | u_c stepG_loop wk_rely hK
    | u_c stepG_inBlock wk_rely hK
    | u_c stepG_inLoop wk_rely hK
    | (rw [at_op]; u_skip wk_rely hK)
    | (rw [at_op]; u_op wk_rely hK))
  u_conv H.underlying_tPU32 H.room_tU32 (show World.cell? _ ⟨Wg, 1, none⟩ = some _ from WgAt.cellSm hK) wk_rely hK
  refine Goes.stop (fun w₁ h₁ => ?_)
  clear h₁ hK
  refine ⟨rfl, ⟨_, _, rfl⟩, _, fun w hw => stepG_markAt .read (by simp) rfl rfl (by k_ne) rfl H.f_raceRead (x_raceRead_n L) (x_raceRead_b L) (x_raceRead_x L) (x_raceRead_f L) (ad := ⟨Wg, 1, none⟩) (by simp [Act.eval]), onk_of 80 rfl fun w hK => ?_⟩
  walk_nrm
  repeat (first
    | u_c stepG_seq wk_rely hK
    | u_c stepG_region_end wk_rely hK
    | u_reg wk_rely hK
    | u_cond true wk_rely hK
    | u_cond false wk_rely hK
    | u_c stepG_skip wk_rely hK
    | u_c stepG_block wk_rely hK
    | u_c stepG_loop wk_rely hK
    | u_c stepG_inBlock wk_rely hK
    | u_c stepG_inLoop wk_rely hK
    | (rw [at_op]; u_skip wk_rely hK)
    | (rw [at_op]; u_op wk_rely hK))
  u_c stepG_ret' wk_rely hK
  refine Goes.stop (fun w₁ h₁ => ?_)
  clear h₁ hK
  refine ⟨rfl, ⟨_, _, rfl⟩, _, fun w => stepG_unwind_entry (v := .tuple #[]) (evs := #[mk .enable]) rfl H.f_enable (x_enable_n L) (x_enable_b L) (x_enable_x L) (x_enable_f L) (by simp [Extern.Race.none_]) (by simp [mk]) (by simp [mk]), onk_of (mT + 1) rfl fun w hK => ?_⟩
  u_leave0 H.f_add wk_rely hK
  exact hT _ hK
end
end Go.Proofs.Ytpdemelchhkfaaa.Cs

/-
  tele.together in company: Add, and on to the first 'go'.
-/
namespace Go.Proofs.Ytpdemelchhkfaaa.Cs
open Go.Conc Go.RowKit Go.Conc.Lib Go.ConcR.Gen Go.ConcN.Gen
open Go.ConcR (KK WgAt wgBlock stA smA rd wr mk DC0)
section
variable {P : Program}
theorem goes_at {Kw I : World → Prop} {A : Goroutine → World → Prop} (hK : ∀ w k, Kw w → Kw (w.at k)) (hI : ∀ w k, I w → I (w.at k)) : ∀ {m : Nat} {g : Goroutine} {w : World}, Kw w → I w → Goes P true (fun _ w => Kw w) DC0 A m g w → Goes P true AtRel DC0 (fun g w => A g w ∧ I w) m g w
  | 0, _, _, hk, hi, h => fun w₁ h₁ => by
    obtain ⟨d, rfl⟩ := h₁
    exact ⟨h _ (hK _ d hk), hI _ d hi⟩
  | m + 1, g, w, hk, hi, h => by
    rcases h with h | ⟨hs, h⟩
    · exact .inl fun w₁ h₁ => by
        obtain ⟨d, rfl⟩ := h₁
        exact ⟨h _ (hK _ d hk), hI _ d hi⟩
    · refine .inr ⟨hs, fun w₁ h₁ => ?_⟩
      obtain ⟨d, rfl⟩ := h₁
      have := h _ (hK _ d hk)
      revert this
      cases stepG P true g (w.at d) <;> simp only [GStep.goes, imp_self]
      rintro ⟨⟨e1, e2⟩, h3⟩
      have e1' := e1
      subst e1
      exact ⟨⟨e1', e2⟩, goes_at hK hI (hK _ d hk) (hI _ d hi) h3⟩
end
section
variable {Sn : Nat → Prop} {Fd : Nat} {gs : Array Goroutine} {t : Trace} {q : Nat → Nat} {d : Nat} {g : Goroutine} {w : World} {H : Array Obj} {o : Os} {out : Array (Nat × ByteArray)}
abbrev PlF (Fd : Nat) (x : Touch) : Prop := ∀ ad, x.loc = .cell ad → ad.block ≠ Fd
/-- A walk that lists nothing, beside them. -/
theorem beside_onk {Kw : World → Prop} {Stp : Goroutine → Prop} (hK : ∀ w k, Kw w → Kw (w.at k)) (h0 : gs[0]? = some g) (hg : OnK Try.prog Kw Stp g) (hk : Kw w) (hI : HI H o out w) (hq : Qs Try.prog Sn gs t q d w.heap.size) (hp : ∀ j a, touchAt t j = some a → PlF Fd a) (sl : Option (Nat × Nat)) :
    ∃ N gs' w' sl' t' q' g', runNT Try.prog N (crowd gs w sl) t = (.next (crowd gs' w' sl'), t') ∧ gs'.size = gs.size ∧ gs'[0]? = some g' ∧ g'.status = .running ∧ Stp g' ∧ HI H o out w' ∧ Kw w' ∧ Qs Try.prog Sn gs' t' q' d w'.heap.size ∧ ∀ j a, touchAt t' j = some a → PlF Fd a := by
  obtain ⟨m, hm⟩ := hg.2 w hk
  have h1 := goes_at (I := fun w => HI H o out w ∧ Kw w) hK (fun w k h => ⟨h.1, hK w k h.2⟩) hk ⟨hI, hk⟩ hm
  obtain ⟨N, gs', w', sl', t', q', g', r, z, i, ⟨⟨s1, s2⟩, s3, s4⟩, Q, p⟩ := beside_walkF (Pl := PlF Fd) (Sn := Sn) (sl := sl) (fun w w' es h => by
    obtain ⟨e1, e2⟩ := h
    subst e1 e2
    exact ⟨⟨Nat.le_refl _, fun e he => by simp at he⟩, fun e he => by simp at he⟩) (fun g w h => h.1.1) h0 h1 hq hp
  exact ⟨N, gs', w', sl', t', q', g', r, z, i, s1, s2, s3, s4, Q, p⟩
/-- One step that leaves the world as it was, or sets one cell. -/
theorem beside_st {es : Array Event} {g' : Goroutine} {F : World → World} (h0 : gs[0]? = some g) (hr : g.status = .running) (hr' : g'.status = .running) (hI : HI H o out w) (hF : ∀ w k, (F (w.at k)).heap = (F w).heap ∧ (F (w.at k)).os = w.os ∧ (F (w.at k)).output = w.output) (hsz : ∀ w, (F w).heap.size = w.heap.size) (hs : ∀ k, stepG Try.prog true g (w.at k) = .go g' (F (w.at k)) es) (he : ∀ e ∈ es, EvS Sn w.heap.size e ∧ ∀ x, (MemAct.ofEvent e).touch? = some x → PlF Fd x) (hq : Qs Try.prog Sn gs t q d w.heap.size) (hp : ∀ j a, touchAt t j = some a → PlF Fd a) (sl : Option (Nat × Nat)) :
    ∃ N gs' w' sl' t' q', runNT Try.prog N (crowd gs w sl) t = (.next (crowd gs' w' sl'), t') ∧ gs'.size = gs.size ∧ gs'[0]? = some g' ∧ HI (F w).heap o out w' ∧ Qs Try.prog Sn gs' t' q' (deafBehind d es) w'.heap.size ∧ ∀ j a, touchAt t' j = some a → PlF Fd a := by
  obtain ⟨N, gs', w', sl', t', q', g2, k, es2, r, z, i, ⟨rfl, rfl, hw'⟩, _, Q, p⟩ := beside_oneF (Pl := PlF Fd) (Sn := Sn) (sl := sl) (R := fun _ g2 w' es2 => g2 = g' ∧ es2 = es ∧ HI (F w).heap o out w') h0 hr (fun k => ⟨g', F (w.at k), es, hs k, hr', by rw [hsz]; exact Nat.le_refl _, fun e hee => by
    rw [hsz]
    exact he e hee, rfl, rfl, (hF w k).1, (hF w k).2.1.trans hI.2.1, (hF w k).2.2.trans hI.2.2⟩) (fun w1 g' w' es k h => h) hq hp
  exact ⟨N, gs', w', sl', t', q', r, z, i, hw', Q, p⟩
theorem ev_mark {m : Mark} {s : Nat} (h1 : (MemAct.ofEvent (mk m)).touch? = none) (h2 : isRel (MemAct.ofEvent (mk m)) ≠ true) : EvS Sn s (mk m) ∧ ∀ x, (MemAct.ofEvent (mk m)).touch? = some x → PlF Fd x := ⟨⟨h2, fun x hx => by rw [h1] at hx; cases hx⟩, fun x hx => by rw [h1] at hx; cases hx⟩
end
set_option maxRecDepth 100000 in
set_option maxHeartbeats 8000000 in
/-- Behind Add, to the first 'go'. -/
theorem add_to_go (h R hs bs bb st : Nat) (S : Int) (hh : 1 ≤ h ∧ h ≤ 16) (cs : List Frame) : ∀ w, Wk wgL.tWg st S w → Goes Try.prog true (fun _ w => Wk wgL.tWg st S w) DC0 (fun g _ => g.status = .running ∧ ∀ c : Cst, c.n = h → c.C1 = hs + 4 → c.C2 = hs + 5 → gGo c (hs + 2) (hs + 3) cs 0 g) 40 (G ((base 20).at ((⟨#[.int .i64 (h : Nat), .int .i64 (R : Int), .func (.func 21) #[] #[.pointer (some ⟨bs, 0, none⟩), .pointer (some ⟨bb, 0, none⟩), .pointer (some ⟨hs + 1, 0, none⟩)], undef, .pointer (some ⟨hs + 2, 0, none⟩), .pointer (some ⟨hs + 3, 0, none⟩), .pointer (some ⟨hs + 4, 0, none⟩), .pointer (some ⟨hs + 5, 0, none⟩), .int .i64 (h : Nat), undef, undef, undef, undef, undef, undef, undef], []⟩ : Act).put ((gO3[1]?).bind (·.dst)) (.tuple #[])) (.inRegion gO3 [] :: [.code gBody])) cs) w := by
  intro w hK
  have q1 : decide ((0 : Int) < (h : Int)) = true := decide_eq_true (by omega)
  have q2 : decide (0 < h) = true := decide_eq_true (by omega)
  have e9 : (gO3[1]?).bind (·.dst) = some 9 := by kernel_rfl
  rw [e9]
  simp only [gBody, gO3, restAt, Try.f20, Option.getD_some, Act.put]
  walk_nrm
  repeat (first
    | u_c stepG_seq wk_rely hK
    | u_c stepG_region_end wk_rely hK
    | u_reg wk_rely hK
    | u_cond true wk_rely hK
    | u_cond false wk_rely hK
    | u_c stepG_skip wk_rely hK
    | u_c stepG_block wk_rely hK
    | u_c stepG_loop wk_rely hK
    | u_c stepG_inBlock wk_rely hK
    | u_c stepG_inLoop wk_rely hK
    | (rw [at_op]; u_skip wk_rely hK)
    | (rw [at_op]; u_op wk_rely hK))
  exact Goes.stop fun w₁ _ => ⟨rfl, fun c e1 e2 e3 => by
    unfold gGo
    rw [e1, e2, e3]
    exact ⟨_, _, _, _, _, _, _, _, _, rfl⟩⟩
set_option maxRecDepth 100000 in
/-- The call of Add. -/
theorem add_call (h R hs bs bb : Nat) (hh : 1 ≤ h ∧ h ≤ 16) (cs : List Frame) : OnK Try.prog (Wk wgL.tWg (hs + 5) 0) (aDi Try.prog wgL.tWg (hs + 5) ((h : Int) * KK) (fun g => ∀ c : Cst, c.n = h → c.C1 = hs + 4 → c.C2 = hs + 5 → gGo c (hs + 2) (hs + 3) cs 0 g)) (G ((base 20).at ⟨#[.int .i64 (h : Nat), .int .i64 (R : Int), .func (.func 21) #[] #[.pointer (some ⟨bs, 0, none⟩), .pointer (some ⟨bb, 0, none⟩), .pointer (some ⟨hs + 1, 0, none⟩)], undef, .pointer (some ⟨hs + 2, 0, none⟩), .pointer (some ⟨hs + 3, 0, none⟩), .pointer (some ⟨hs + 4, 0, none⟩), .pointer (some ⟨hs + 5, 0, none⟩), .int .i64 (h : Nat), undef, undef, undef, undef, undef, undef, undef], []⟩ [.inRegion gO3 [1], .code gBody]) cs) := by
  refine onk_of 21 rfl fun w hK => ?_
  refine Goes.step rfl (fun w₁ h₁ => ?_)
  refine goes_call (f := 45) (fn := addFn wgL) (c := body_add wgL) rfl rfl (by k_ne) rfl Try.func45 (by kernel_rfl) rfl ⟨⟨rfl, rfl⟩, ?_⟩
  have hw := add_start (P := Try.prog) (Wg := hs + 5) (n := h) (S := (h : Int) * KK) wgLib hh rfl (add_to_go h R hs bs bb (hs + 5) ((h : Int) * KK) hh cs) w₁ h₁
  refine Eq.mp ?_ hw
  kernel_rfl
set_option maxHeartbeats 1000000 in
/-- From the call of Add to the first 'go', beside goroutines that only leave. -/
theorem add_run (h R hs bs bb : Nat) (hh : 1 ≤ h ∧ h ≤ 16) (cs : List Frame) {Sn : Nat → Prop} {Fd : Nat} (hF : Fd ≠ hs + 5) {gs : Array Goroutine} {t : Trace} {q : Nat → Nat} {w : World} {H : Array Obj} {o : Os} {out : Array (Nat × ByteArray)} (h0 : gs[0]? = some (G ((base 20).at ⟨#[.int .i64 (h : Nat), .int .i64 (R : Int), .func (.func 21) #[] #[.pointer (some ⟨bs, 0, none⟩), .pointer (some ⟨bb, 0, none⟩), .pointer (some ⟨hs + 1, 0, none⟩)], undef, .pointer (some ⟨hs + 2, 0, none⟩), .pointer (some ⟨hs + 3, 0, none⟩), .pointer (some ⟨hs + 4, 0, none⟩), .pointer (some ⟨hs + 5, 0, none⟩), .int .i64 (h : Nat), undef, undef, undef, undef, undef, undef, undef], []⟩ [.inRegion gO3 [1], .code gBody]) cs)) (hI : HI H o out w) (hw : H[hs + 5]? = some (wgBlock wgL.tWg 0 0)) (hq : Qs Try.prog Sn gs t q 0 w.heap.size) (hp : ∀ j a, touchAt t j = some a → PlF Fd a) (sl : Option (Nat × Nat)) :
    ∃ N gs' w' sl' t' q' g', runNT Try.prog N (crowd gs w sl) t = (.next (crowd gs' w' sl'), t') ∧ gs'.size = gs.size ∧ gs'[0]? = some g' ∧ g'.status = .running ∧ (∀ c : Cst, c.n = h → c.C1 = hs + 4 → c.C2 = hs + 5 → gGo c (hs + 2) (hs + 3) cs 0 g') ∧ (∀ b, b ≠ hs + 5 → w'.heap[b]? = H[b]?) ∧ w'.heap.size = H.size ∧ w'.os = o ∧ w'.output = out ∧ WgAt wgL.tWg (hs + 5) w' ((h : Int) * KK) 0 ∧ Qs Try.prog Sn gs' t' q' 0 w'.heap.size ∧ ∀ j a, touchAt t' j = some a → PlF Fd a := by
  have kat : ∀ (st : Int) (w : World) (k : Nat), Wk wgL.tWg (hs + 5) st w → Wk wgL.tWg (hs + 5) st (w.at k) := fun _ _ _ h => h
  have idF : ∀ (w : World) (k : Nat), (w.at k).heap = w.heap ∧ (w.at k).os = w.os ∧ (w.at k).output = w.output := fun _ _ => ⟨rfl, rfl, rfl⟩
  have hW0 : Wk wgL.tWg (hs + 5) 0 w := by
    show w.heap[hs + 5]? = _
    rw [hI.1]
    exact hw
  have hlt : hs + 5 < H.size := (Array.getElem?_eq_some_iff.1 hw).1
  obtain ⟨N1, gs1, w1, sl1, t1, q1, g1, r1, z1, i1, s1, ⟨⟨fr1, cs1, e1⟩, g1', st1, on1⟩, I1, K1, Q1, p1⟩ := beside_onk (kat 0) h0 (add_call h R hs bs bb hh cs) hW0 hI hq hp sl
  obtain ⟨N2, gs2, w2, sl2, t2, q2, r2, z2, i2, I2, Q2, p2⟩ := beside_st (F := id) i1 s1 on1.1 I1 idF (fun _ => rfl) (fun k => st1 _) (fun e he => by
    rw [Array.mem_singleton] at he
    subst he
    exact ev_mark rfl (by decide)) Q1 p1 sl1
  have I2' : HI H o out w2 := by rw [show (id w1).heap = H from I1.1] at I2; exact I2
  have W2 : Wk wgL.tWg (hs + 5) 0 w2 := by show w2.heap[hs + 5]? = _; rw [I2'.1]; exact hw
  have Q2' : Qs Try.prog Sn gs2 t2 q2 1 w2.heap.size := Q2
  obtain ⟨N3, gs3, w3, sl3, t3, q3, g3, r3, z3, i3, s3, ⟨⟨fr3, cs3, e3⟩, g3', st3, on3⟩, I3, K3, Q3, p3⟩ := beside_onk (kat 0) i2 on1 W2 I2' Q2' p2 sl2
  obtain ⟨N4, gs4, w4, sl4, t4, q4, r4, z4, i4, I4, Q4, p4⟩ := beside_st (F := fun w => w.setCell (stA (hs + 5)) (.int .u64 ((h : Int) * KK))) i3 s3 on3.1 I3 (fun _ _ => ⟨rfl, rfl, rfl⟩) (fun w => by simp) (fun k => st3 _ K3) (fun e he => by
    simp at he
    have hl : (stA (hs + 5)).block < w3.heap.size := by rw [I3.1]; exact hlt
    rcases he with rfl | rfl
    · exact ⟨⟨fun e => (by cases e), fun x hx => by cases hx; exact ⟨hl, fun _ e => by cases e⟩⟩, fun x hx ad e => by cases hx; cases e; exact fun e => hF e.symm⟩
    · exact ⟨⟨fun e => (by cases e), fun x hx => by cases hx; exact ⟨hl, fun _ e => by cases e⟩⟩, fun x hx ad e => by cases hx; cases e; exact fun e => hF e.symm⟩) Q3 p3 sl3
  have W4 : Wk wgL.tWg (hs + 5) ((h : Int) * KK) w4 := by
    show w4.heap[hs + 5]? = _
    rw [I4.1]
    exact WgAt.setSt K3 _
  have Q4' : Qs Try.prog Sn gs4 t4 q4 1 w4.heap.size := Q4
  obtain ⟨N5, gs5, w5, sl5, t5, q5, g5, r5, z5, i5, s5, ⟨⟨fr5, cs5, e5⟩, g5', st5, on5⟩, I5, K5, Q5, p5⟩ := beside_onk (kat _) i4 on3 W4 I4 Q4' p4 sl4
  have hsz4 : w4.heap.size = H.size := by rw [I4.1]; simp [I3.1]
  obtain ⟨N6, gs6, w6, sl6, t6, q6, r6, z6, i6, I6, Q6, p6⟩ := beside_st (F := id) i5 s5 on5.1 I5 idF (fun _ => rfl) (fun k => st5 _ K5) (fun e he => by
    rw [Array.mem_singleton] at he
    subst he
    have hl : (smA (hs + 5)).block < w5.heap.size := by rw [I5.1, ← I4.1, hsz4]; exact hlt
    exact ⟨⟨fun e => (by cases e), fun x hx => by cases hx; exact ⟨hl, fun _ e => by cases e⟩⟩, fun x hx ad e => by cases hx; cases e; exact fun e => hF e.symm⟩) Q5 p5 sl5
  have Q6' : Qs Try.prog Sn gs6 t6 q6 1 w6.heap.size := Q6
  have W6 : Wk wgL.tWg (hs + 5) ((h : Int) * KK) w6 := by show w6.heap[hs + 5]? = _; rw [I6.1]; exact K5
  obtain ⟨N7, gs7, w7, sl7, t7, q7, g7, r7, z7, i7, s7, ⟨⟨fr7, cs7, e7⟩, g7', st7, on7⟩, I7, K7, Q7, p7⟩ := beside_onk (kat _) i6 on5 W6 I6 Q6' p6 sl6
  obtain ⟨N8, gs8, w8, sl8, t8, q8, r8, z8, i8, I8, Q8, p8⟩ := beside_st (F := id) i7 s7 on7.1 I7 idF (fun _ => rfl) (fun k => st7 _) (fun e he => by
    rw [Array.mem_singleton] at he
    subst he
    exact ev_mark rfl (by decide)) Q7 p7 sl7
  have Q8' : Qs Try.prog Sn gs8 t8 q8 0 w8.heap.size := Q8
  have W8 : Wk wgL.tWg (hs + 5) ((h : Int) * KK) w8 := by show w8.heap[hs + 5]? = _; rw [I8.1]; exact K7
  obtain ⟨N9, gs9, w9, sl9, t9, q9, g9, r9, z9, i9, s9, jn9, I9, K9, Q9, p9⟩ := beside_onk (kat _) i8 on7 W8 I8 Q8' p8 sl8
  have hh9 : w9.heap = w4.heap := by
    rw [I9.1]
    show w7.heap = w4.heap
    rw [I7.1]
    show w5.heap = w4.heap
    rw [I5.1, I4.1]
  refine ⟨N1 + (N2 + (N3 + (N4 + (N5 + (N6 + (N7 + (N8 + N9))))))), gs9, w9, sl9, t9, q9, g9, ?_, by rw [z9, z8, z7, z6, z5, z4, z3, z2, z1], i9, s9, jn9, fun b hb => ?_, by rw [hh9]; exact hsz4, I9.2.1, I9.2.2, K9, Q9, p9⟩
  · rw [runNT_add, r1]
    show runNT Try.prog (N2 + (N3 + (N4 + (N5 + (N6 + (N7 + (N8 + N9))))))) (crowd gs1 w1 sl1) t1 = _
    rw [runNT_add, r2]
    show runNT Try.prog (N3 + (N4 + (N5 + (N6 + (N7 + (N8 + N9)))))) (crowd gs2 w2 sl2) t2 = _
    rw [runNT_add, r3]
    show runNT Try.prog (N4 + (N5 + (N6 + (N7 + (N8 + N9))))) (crowd gs3 w3 sl3) t3 = _
    rw [runNT_add, r4]
    show runNT Try.prog (N5 + (N6 + (N7 + (N8 + N9)))) (crowd gs4 w4 sl4) t4 = _
    rw [runNT_add, r5]
    show runNT Try.prog (N6 + (N7 + (N8 + N9))) (crowd gs5 w5 sl5) t5 = _
    rw [runNT_add, r6]
    show runNT Try.prog (N7 + (N8 + N9)) (crowd gs6 w6 sl6) t6 = _
    rw [runNT_add, r7]
    show runNT Try.prog (N8 + N9) (crowd gs7 w7 sl7) t7 = _
    rw [runNT_add, r8]
    exact r9
  · rw [hh9, I4.1]
    rw [Below.heap_setCell _ _ _ _ (show b ≠ (stA (hs + 5)).block from hb), I3.1]
end Go.Proofs.Ytpdemelchhkfaaa.Cs
