/-
  Contract of the document's Stepped (chapter 8).
-/
import Derived.Test.YtpdjfjmfnmocmafOPl
namespace Go.Proofs.Ytpdjfjmfnmocmaf
open Go.RowKit PK

section
variable {P : Program} {ops : Array Oper} {Q : Exit → Act → World → Prop} {md : Region.Mode} {S : World → Prop}
/-- An operation that is not wanted is passed by first. -/
theorem vskip (i d : Nat) {oi : Oper} {fuel : Nat} {listed : Array Bool} {tm : Array Value} {df : List Deferred} {w : World} (hi : ops[i]? = some oi) (hd : oi.dst = some d)
    (hs : Region.noSelect ops = true) (hf : Region.free md ops listed i = true) (hr : (Region.ready md ops listed).contains i = true)
    (hQ : ∀ c a a' w, Q (.panic c) a' w → Q (.panic c) a w) (hw : Region.wanted oi (yielded ops tm) = false) (hS : S w)
    (h : wpAnyH P md ops Q S fuel (listed.setIfInBounds i true) ⟨tm.setIfInBounds d undef, df⟩ w) : wpAnyH P md ops Q S (fuel + 1) listed ⟨tm, df⟩ w := by
  refine wpAnyH_take (i := i) (oi := oi) (v := undef) hi hs hf hr (fun c a w => hQ c a _ w) (Or.inr ⟨hw, rfl⟩) hS ?_
  rw [hd]
  exact h
end
def oN (l : List Nat) : List Value := l.map fun x => .int .i64 (x : Nat)
/-- The slice v owns the numbers l, in blocks from B on. -/
def OwnsO (w : World) (B : Nat) (v : Value) (l : List Nat) : Prop := w.ownsRow B 3 1 v l.length (oN l)
theorem OwnsO.nil (w : World) (B : Nat) : OwnsO w B (.slice none 0 0) [] := World.ownsRow_nil w B _ 1
theorem own_step {w w' : World} {B : Nat} {T : TypeId} {s n : Nat} {v : Value} {l : List Value} (h : w.ownsRow B T s v n l) (hb : Below w.heap.size w w') : w'.ownsRow B T s v n l := by
  obtain ⟨h1, h2⟩ := h
  refine ⟨h1, ?_⟩
  rcases h2 with h2 | ⟨g, cap, cur, e, hB, hg, h3⟩
  · exact .inl h2
  · exact .inr ⟨g, cap, cur, e, hB, (hb.block g (Array.getElem?_eq_some_iff.1 hg).1).trans hg, h3⟩
theorem own_drew {w : World} {B : Nat} {T : TypeId} {s n : Nat} {v : Value} {l : List Value} (h : w.ownsRow B T s v n l) : w.drew.ownsRow B T s v n l := h
theorem OwnsO.nums {w : World} {B : Nat} {v : Value} {l : List Nat} (h : OwnsO w B v l) (hm : l.length ≤ 1000) : NumsAt w v l.length fun i => ((l.getD i 0 : Nat) : Int) := by
  obtain ⟨h1, h2⟩ := h
  rcases h2 with ⟨rfl, h0⟩ | ⟨g, cap, cur, rfl, hB, hg, hnc, hcm, hcs, htake⟩
  · rw [h0]; exact ⟨none, 0, rfl, by decide, fun c hc => by omega⟩
  · refine ⟨_, _, rfl, by unfold maxLen; omega, fun c hc => ⟨g, 0, rfl, ?_⟩⟩
    rw [Nat.zero_add]
    refine RowAt.cell (w := w) (b := g) (T := 3) hg ?_
    have h3 : (oN l)[c]? = some (.int .i64 ((l.getD c 0 : Nat) : Int)) := by
      unfold oN
      rw [List.getElem?_map, List.getD_eq_getElem?_getD, List.getElem?_eq_getElem hc]
      rfl
    rw [← htake, List.getElem?_take_of_lt (by omega)] at h3
    simpa using h3
theorem o_info_int : (Try.prog.info? 3).map (fun i => (i.zero, i.size, i.bytes)) = some (some (.int .i64 0), 1, 8) := by kernel_rfl
theorem hasN_contains (l : List Nat) (a : Nat) : hasN l.length (fun k => ((l.getD k 0 : Nat) : Int)) (a : Int) = l.contains a := by
  rw [Bool.eq_iff_iff]
  unfold hasN
  rw [List.any_eq_true, List.contains_iff_mem]
  constructor
  · rintro ⟨k, hk, e⟩
    have hk2 : k < l.length := by simpa using hk
    have e2 : (l.getD k 0 : Int) = (a : Int) := by simpa using e
    have e3 : l.getD k 0 = a := by omega
    rw [List.getD_eq_getElem?_getD, List.getElem?_eq_getElem hk2] at e3
    rw [← e3]
    exact List.getElem_mem hk2
  · intro h
    obtain ⟨k, hk, e⟩ := List.mem_iff_getElem.1 h
    refine ⟨k, by simpa using hk, ?_⟩
    show (((l.getD k 0 : Nat) : Int) == (a : Int)) = true
    rw [List.getD_eq_getElem?_getD, List.getElem?_eq_getElem hk, e]
    simp
/-- What is held while a wheel is looked at. -/
structure StS (w W : World) (a b c v : Value) (rf pl : Nat → Int) (l : List Nat) : Prop where
  mg : MgAt w W a b c rf pl
  own : OwnsO W (w.heap.size + 1) v l
theorem StS.step {w W W' : World} {a b c v : Value} {rf pl : Nat → Int} {l : List Nat} (h : StS w W a b c v rf pl l) (hb : Below W.heap.size W W') : StS w W' a b c v rf pl l := ⟨h.mg.step hb, own_step h.own hb⟩
theorem StS.drew {w W : World} {a b c v : Value} {rf pl : Nat → Int} {l : List Nat} (h : StS w W a b c v rf pl l) : StS w W.drew a b c v rf pl l := ⟨h.mg.drew, own_drew h.own⟩
theorem range_snoc (f : Nat → Nat) (k : Nat) : (List.range (k + 1)).map f = (List.range k).map f ++ [f k] := by rw [List.range_succ, List.map_append]; rfl
theorem oN_snoc (l : List Nat) (x : Nat) : oN (l ++ [x]) = oN l ++ [.int .i64 (x : Nat)] := by simp [oN]
end Go.Proofs.Ytpdjfjmfnmocmaf
