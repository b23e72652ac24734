import Derived.Deep.RegionHeld3
namespace Go.Proofs.YtpcnpkhgjanamaaGreatDoor
theorem zsA {α : Type} (l : List α) (i : Nat) (a : α) : l.toArray.setIfInBounds i a = (l.set i a).toArray := List.setIfInBounds_toArray ..
theorem zsB {α : Type} (x : α) (l : List α) (i : Nat) (a : α) : (x :: l).set (i + 1) a = x :: l.set i a := rfl
theorem zsC {α : Type} (x : α) (l : List α) (a : α) : (x :: l).set 0 a = a :: l := rfl
section
variable {P : Program} {ops : Array Oper} {Q : Exit → Act → World → Prop} {md : Region.Mode} {S : World → Prop}
theorem vtk (i d : Nat) (v : Value) {oi : Oper} {fuel : Nat} {listed : Array Bool} {tm : Array Value} {df : List Deferred} {w : World} (hi : ops[i]? = some oi)
    (hrun : ∀ W, S W → (execOp (Act.eval ⟨tm, df⟩) oi).run P W = .ok (.value v) W) (hS : S w) (h : wpAnyH P md ops Q S fuel (listed.setIfInBounds i true) ⟨tm.setIfInBounds d v, df⟩ w)
    (hd : oi.dst = some d := by rfl) (hs : Region.noSelect ops = true := by kernel_rfl) (hf : Region.free md ops listed i = true := by kernel_rfl) (hr : (Region.ready md ops listed).contains i = true := by kernel_rfl)
    (hQ : ∀ c a a' w, Q (.panic c) a' w → Q (.panic c) a w := by exact fun _ _ _ _ h => h) (hw : Region.wanted oi (yielded ops tm) = true := by rfl) : wpAnyH P md ops Q S (fuel + 1) listed ⟨tm, df⟩ w := by
  refine wpAnyH_take (i := i) (oi := oi) (v := v) hi hs hf hr (fun c a w => hQ c a _ w) (Or.inl ⟨hw, fun W hW => hrun W hW⟩) hS ?_
  rw [hd]
  exact h
theorem vtq (i d : Nat) (v : Value) {oi : Oper} {fuel : Nat} {listed : Array Bool} {tm : Array Value} {df : List Deferred} {w : World} (h : wpAnyH P md ops Q S fuel (listed.setIfInBounds i true) ⟨tm.setIfInBounds d v, df⟩ w) (hi : ops[i]? = some oi := by rfl) (hrun : ∀ W, S W → (execOp (Act.eval ⟨tm, df⟩) oi).run P W = .ok (.value v) W := by (intro W hW; clear hS hW; go_simp)) (hS : S w := by assumption)
    (hd : oi.dst = some d := by rfl) (hs : Region.noSelect ops = true := by kernel_rfl) (hf : Region.free md ops listed i = true := by kernel_rfl) (hr : (Region.ready md ops listed).contains i = true := by kernel_rfl) (hQ : ∀ c a a' w, Q (.panic c) a' w → Q (.panic c) a w := by exact fun _ _ _ _ h => h) (hw : Region.wanted oi (yielded ops tm) = true := by rfl) : wpAnyH P md ops Q S (fuel + 1) listed ⟨tm, df⟩ w := vtk i d v hi hrun hS h hd hs hf hr hQ hw
theorem vtp (i d : Nat) (v : Value) {oi : Oper} {fuel : Nat} {listed : Array Bool} {tm : Array Value} {df : List Deferred} {w : World} (hi : ops[i]? = some oi) (hrun : ∀ W, S W → (execOp (Act.eval ⟨tm, df⟩) oi).run P W = .ok (.value v) W) (hS : S w) (h : wpAnyH P md ops Q S fuel (listed.setIfInBounds i true) ⟨tm.setIfInBounds d v, df⟩ w)
    (hd : oi.dst = some d := by rfl) (hs : Region.noSelect ops = true := by kernel_rfl) (hf : Region.free md ops listed i = true := by kernel_rfl) (hr : (Region.ready md ops listed).contains i = true := by kernel_rfl) (hQ : ∀ c a w, Q (.panic c) (a.put (some d) v) w → Q (.panic c) a w := by exact fun _ _ _ h => h) (hw : Region.wanted oi (yielded ops tm) = true := by rfl) : wpAnyH P md ops Q S (fuel + 1) listed ⟨tm, df⟩ w := by
  refine wpAnyH_take (i := i) (oi := oi) (v := v) hi hs hf hr (by rw [hd]; exact hQ) (Or.inl ⟨hw, fun W hW => hrun W hW⟩) hS ?_
  rw [hd]
  exact h
theorem vpq (i d : Nat) (v : Value) {oi : Oper} {fuel : Nat} {listed : Array Bool} {tm : Array Value} {df : List Deferred} {w : World} (h : wpAnyH P md ops Q S fuel (listed.setIfInBounds i true) ⟨tm.setIfInBounds d v, df⟩ w) (hi : ops[i]? = some oi := by rfl) (hrun : ∀ W, S W → (execOp (Act.eval ⟨tm, df⟩) oi).run P W = .ok (.value v) W := by (intro W hW; clear hS hW; go_simp)) (hS : S w := by assumption)
    (hd : oi.dst = some d := by rfl) (hs : Region.noSelect ops = true := by kernel_rfl) (hf : Region.free md ops listed i = true := by kernel_rfl) (hr : (Region.ready md ops listed).contains i = true := by kernel_rfl) (hQ : ∀ c a w, Q (.panic c) (a.put (some d) v) w → Q (.panic c) a w := by exact fun _ _ _ h => h) (hw : Region.wanted oi (yielded ops tm) = true := by rfl) : wpAnyH P md ops Q S (fuel + 1) listed ⟨tm, df⟩ w := vtp i d v hi hrun hS h hd hs hf hr hQ hw
theorem vsq (i d : Nat) {oi : Oper} {fuel : Nat} {listed : Array Bool} {tm : Array Value} {df : List Deferred} {w : World} (h : wpAnyH P md ops Q S fuel (listed.setIfInBounds i true) ⟨tm.setIfInBounds d undef, df⟩ w) (hi : ops[i]? = some oi := by rfl) (hS : S w := by assumption)
    (hd : oi.dst = some d := by rfl) (hs : Region.noSelect ops = true := by kernel_rfl) (hf : Region.free md ops listed i = true := by kernel_rfl) (hr : (Region.ready md ops listed).contains i = true := by kernel_rfl) (hQ : ∀ c a a' w, Q (.panic c) a' w → Q (.panic c) a w := by exact fun _ _ _ _ h => h) (hw : Region.wanted oi (yielded ops tm) = false := by rfl) : wpAnyH P md ops Q S (fuel + 1) listed ⟨tm, df⟩ w := by
  refine wpAnyH_take (i := i) (oi := oi) (v := undef) hi hs hf hr (fun c a w => hQ c a _ w) (Or.inr ⟨hw, rfl⟩) hS ?_
  rw [hd]
  exact h
theorem rd1 (i : Nat) {o : Oper} {fuel : Nat} {listed : Array Bool} {a : Act} {w : World} (ho : ops[i]? = some o)
    (h : ∀ K' : Act → World → Prop, Shut (∀ a w, S w → (S w → wpAnyH P md ops Q S fuel (listed.setIfInBounds i true) a w) → K' a w) → Oper.wp P o a w K' Q)
    (hr : Region.ready md ops listed = [i] := by kernel_rfl) (hw : Region.wanted o (yielded ops a.tmps) = true := by rfl) : wpAnyH P md ops Q S (fuel + 1) listed a w := by
  refine wpAnyH_ready (rs := [i]) hr (by simp) (AllReadyH.cons (o := o) ho (fun K hK => ?_) AllReadyH.nil)
  rw [if_pos hw]
  exact h K hK
-- second half
theorem vuk (i d : Nat) (v : Value) {oi : Oper} {fuel : Nat} {listed : Array Bool} {tm tm' : Array Value} {df : List Deferred} {w : World} (hi : ops[i]? = some oi)
    (hrun : ∀ W, S W → (execOp (Act.eval ⟨tm, df⟩) oi).run P W = .ok (.value v) W) (hS : S w) (h : wpAnyH P md ops Q S fuel (listed.setIfInBounds i true) ⟨tm', df⟩ w)
    (hd : oi.dst = some d := by rfl) (hs : Region.noSelect ops = true := by kernel_rfl) (hf : Region.free md ops listed i = true := by kernel_rfl) (hr : (Region.ready md ops listed).contains i = true := by kernel_rfl)
    (hQ : ∀ c a a' w, Q (.panic c) a' w → Q (.panic c) a w := by exact fun _ _ _ _ h => h) (hw : Region.wanted oi (yielded ops tm) = true := by rfl) (ht : tm.setIfInBounds d v = tm' := by (simp only [zsA, zsB, zsC]; rfl)) : wpAnyH P md ops Q S (fuel + 1) listed ⟨tm, df⟩ w := by
  subst ht
  exact vtk i d v hi hrun hS h hd hs hf hr hQ hw
theorem vuq (i d : Nat) (v : Value) {oi : Oper} {fuel : Nat} {listed : Array Bool} {tm tm' : Array Value} {df : List Deferred} {w : World} (h : wpAnyH P md ops Q S fuel (listed.setIfInBounds i true) ⟨tm', df⟩ w) (hi : ops[i]? = some oi := by rfl) (hrun : ∀ W, S W → (execOp (Act.eval ⟨tm, df⟩) oi).run P W = .ok (.value v) W := by (intro W hW; clear hS hW; go_simp)) (hS : S w := by assumption)
    (hd : oi.dst = some d := by rfl) (hs : Region.noSelect ops = true := by kernel_rfl) (hf : Region.free md ops listed i = true := by kernel_rfl) (hr : (Region.ready md ops listed).contains i = true := by kernel_rfl) (hQ : ∀ c a a' w, Q (.panic c) a' w → Q (.panic c) a w := by exact fun _ _ _ _ h => h) (hw : Region.wanted oi (yielded ops tm) = true := by rfl) (ht : tm.setIfInBounds d v = tm' := by (simp only [zsA, zsB, zsC]; rfl)) : wpAnyH P md ops Q S (fuel + 1) listed ⟨tm, df⟩ w := by
  subst ht
  exact vtq i d v h hi hrun hS hd hs hf hr hQ hw
theorem vup (i d : Nat) (v : Value) {oi : Oper} {fuel : Nat} {listed : Array Bool} {tm tm' : Array Value} {df : List Deferred} {w : World} (hi : ops[i]? = some oi) (hrun : ∀ W, S W → (execOp (Act.eval ⟨tm, df⟩) oi).run P W = .ok (.value v) W) (hS : S w) (h : wpAnyH P md ops Q S fuel (listed.setIfInBounds i true) ⟨tm', df⟩ w)
    (hd : oi.dst = some d := by rfl) (hs : Region.noSelect ops = true := by kernel_rfl) (hf : Region.free md ops listed i = true := by kernel_rfl) (hr : (Region.ready md ops listed).contains i = true := by kernel_rfl) (hQ : ∀ c a w, Q (.panic c) (a.put (some d) v) w → Q (.panic c) a w := by exact fun _ _ _ h => h) (hw : Region.wanted oi (yielded ops tm) = true := by rfl) (ht : tm.setIfInBounds d v = tm' := by (simp only [zsA, zsB, zsC]; rfl)) : wpAnyH P md ops Q S (fuel + 1) listed ⟨tm, df⟩ w := by
  subst ht
  exact vtp i d v hi hrun hS h hd hs hf hr hQ hw
theorem vvq (i d : Nat) (v : Value) {oi : Oper} {fuel : Nat} {listed : Array Bool} {tm tm' : Array Value} {df : List Deferred} {w : World} (h : wpAnyH P md ops Q S fuel (listed.setIfInBounds i true) ⟨tm', df⟩ w) (hi : ops[i]? = some oi := by rfl) (hrun : ∀ W, S W → (execOp (Act.eval ⟨tm, df⟩) oi).run P W = .ok (.value v) W := by (intro W hW; clear hS hW; go_simp)) (hS : S w := by assumption)
    (hd : oi.dst = some d := by rfl) (hs : Region.noSelect ops = true := by kernel_rfl) (hf : Region.free md ops listed i = true := by kernel_rfl) (hr : (Region.ready md ops listed).contains i = true := by kernel_rfl) (hQ : ∀ c a w, Q (.panic c) (a.put (some d) v) w → Q (.panic c) a w := by exact fun _ _ _ h => h) (hw : Region.wanted oi (yielded ops tm) = true := by rfl) (ht : tm.setIfInBounds d v = tm' := by (simp only [zsA, zsB, zsC]; rfl)) : wpAnyH P md ops Q S (fuel + 1) listed ⟨tm, df⟩ w := by
  subst ht
  exact vpq i d v h hi hrun hS hd hs hf hr hQ hw
theorem vuS (i d : Nat) {oi : Oper} {fuel : Nat} {listed : Array Bool} {tm tm' : Array Value} {df : List Deferred} {w : World} (h : wpAnyH P md ops Q S fuel (listed.setIfInBounds i true) ⟨tm', df⟩ w) (hi : ops[i]? = some oi := by rfl) (hS : S w := by assumption)
    (hd : oi.dst = some d := by rfl) (hs : Region.noSelect ops = true := by kernel_rfl) (hf : Region.free md ops listed i = true := by kernel_rfl) (hr : (Region.ready md ops listed).contains i = true := by kernel_rfl) (hQ : ∀ c a a' w, Q (.panic c) a' w → Q (.panic c) a w := by exact fun _ _ _ _ h => h) (hw : Region.wanted oi (yielded ops tm) = false := by rfl) (ht : tm.setIfInBounds d undef = tm' := by (simp only [zsA, zsB, zsC]; rfl)) : wpAnyH P md ops Q S (fuel + 1) listed ⟨tm, df⟩ w := by
  subst ht
  exact vsq i d h hi hS hd hs hf hr hQ hw
end
theorem vom {p : Prop} (h : p := by omega) : p := h
theorem vde {p : Prop} (h : p := by decide) : p := h
theorem vkr {p : Prop} (h : p := by kernel_rfl) : p := h
theorem vrf {p : Prop} (h : p := by rfl) : p := h
theorem vsi {p : Prop} (h : p := by simp) : p := h
theorem vso {p : Prop} (h : p := by (simp; omega)) : p := h
theorem R3:type_of% @Nat.le_refl:=@Nat.le_refl
theorem V9:type_of% @if_neg:=@if_neg
theorem Wc:type_of% @if_pos:=@if_pos
theorem Wd:type_of% @Array.getElem?_eq_some_iff:=@Array.getElem?_eq_some_iff
theorem We:type_of% @Go.Calls.mono:=@Go.Calls.mono
theorem Wk:type_of% @Go.wpList_store_row:=@Go.wpList_store_row
theorem Wl:type_of% @Array.getElem?_eq_getElem:=@Array.getElem?_eq_getElem
theorem Wn:type_of% @Go.wpList_load_row:=@Go.wpList_load_row
theorem Wo:type_of% @Array.getElem?_toList:=@Array.getElem?_toList
theorem Wq:type_of% @Array.getElem?_push:=@Array.getElem?_push
theorem Ws:type_of% @Nat.le_trans:=@Nat.le_trans
theorem Wt:type_of% @Array.getElem?_setIfInBounds_ne:=@Array.getElem?_setIfInBounds_ne
theorem Wu:type_of% @List.getElem?_eq_getElem:=@List.getElem?_eq_getElem
theorem Wv:type_of% @Array.getElem?_eq_none:=@Array.getElem?_eq_none
theorem Ww:type_of% @Option.getD_some:=@Option.getD_some
theorem Wx:type_of% @Array.length_toList:=@Array.length_toList
theorem Wy:type_of% @Bool.and_eq_true:=@Bool.and_eq_true
theorem Wz:type_of% @Go.wp_region_held_drew:=@Go.wp_region_held_drew
theorem WB:type_of% @Array.getElem?_setIfInBounds_self_of_lt:=@Array.getElem?_setIfInBounds_self_of_lt
theorem WE:type_of% @Nat.lt_of_lt_of_le:=@Nat.lt_of_lt_of_le
theorem WI:type_of% @Go.World.size_alloc:=@Go.World.size_alloc
theorem WJ:type_of% @Array.all_eq_true_iff_forall_mem:=@Array.all_eq_true_iff_forall_mem
theorem WL:type_of% @Go.bodyPost_ret:=@Go.bodyPost_ret
theorem WM:type_of% @List.length_append:=@List.length_append
theorem WN:type_of% @Nat.zero_add:=@Nat.zero_add
theorem WQ:type_of% @List.getElem?_append_right:=@List.getElem?_append_right
theorem WS:type_of% @List.getElem?_append_left:=@List.getElem?_append_left
theorem WT:type_of% @Go.heap_setCell_other:=@Go.heap_setCell_other
theorem WU:type_of% @Go.NoPanic.normal:=@Go.NoPanic.normal
theorem WV:type_of% @Bool.false_eq_true:=@Bool.false_eq_true
theorem WW:type_of% @List.getElem?_eq_some_iff:=@List.getElem?_eq_some_iff
theorem Xb:type_of% @Go.wp_region_noPanic:=@Go.wp_region_noPanic
theorem Xc:type_of% @Array.ext_getElem?:=@Array.ext_getElem?
theorem Xf:type_of% @Go.cell_of_row:=@Go.cell_of_row
theorem Xj:type_of% @Nat.lt_succ_self:=@Nat.lt_succ_self
theorem Xl:type_of% @List.mem_cons:=@List.mem_cons
theorem Xo:type_of% @Go.Result.andThen_ok:=@Go.Result.andThen_ok
theorem Xq:type_of% @Go.wpAnyH_done:=@Go.wpAnyH_done
theorem Xt:type_of% @Option.map_eq_some_iff:=@Option.map_eq_some_iff
theorem Xu:type_of% @List.getD_eq_getElem?_getD:=@List.getD_eq_getElem?_getD
theorem Xv:type_of% @List.eq_nil_of_length_eq_zero:=@List.eq_nil_of_length_eq_zero
theorem Xy:type_of% @Nat.not_lt_zero:=@Nat.not_lt_zero
theorem XA:type_of% @Array.getElem?_setIfInBounds:=@Array.getElem?_setIfInBounds
theorem XB:type_of% @Classical.byContradiction:=@Classical.byContradiction
theorem XE:type_of% @Nat.zero_le:=@Nat.zero_le
theorem XF:type_of% @Go.World.size_setCell:=@Go.World.size_setCell
theorem XG:type_of% @Option.some.inj:=@Option.some.inj
theorem XI:type_of% @congrArg:=@congrArg
theorem XK:type_of% @Nat.eq_zero_or_pos:=@Nat.eq_zero_or_pos
theorem XQ:type_of% @Go.Sem.run_bind:=@Go.Sem.run_bind
theorem XR:type_of% @beq_false_of_ne:=@beq_false_of_ne
theorem XS:type_of% @Nat.add_assoc:=@Nat.add_assoc
theorem XT:type_of% @List.all_cons:=@List.all_cons
theorem X7:type_of% @List.mem_append:=@List.mem_append
theorem X8:type_of% @Nat.mod_lt:=@Nat.mod_lt
theorem X9:type_of% @if_false:=@if_false
theorem Yh:type_of% @List.mem_map:=@List.mem_map
theorem Yi:type_of% @List.nil_append:=@List.nil_append
theorem Yj:type_of% @List.mem_filter:=@List.mem_filter
theorem Yq:type_of% @Array.getElem?_append:=@Array.getElem?_append
theorem Yt:type_of% @List.nodup_range:=@List.nodup_range
theorem Yu:type_of% @List.filter_append:=@List.filter_append
theorem Yv:type_of% @List.all_eq_true:=@List.all_eq_true
theorem Yw:type_of% @Array.append_assoc:=@Array.append_assoc
theorem YA:type_of% @decide_eq_true:=@decide_eq_true
theorem YB:type_of% @List.mem_iff_getElem:=@List.mem_iff_getElem
theorem YF:type_of% @decide_eq_false:=@decide_eq_false
theorem YG:type_of% @Array.size_push:=@Array.size_push
theorem YH:type_of% @or_false:=@or_false
theorem YI:type_of% @if_true:=@if_true
theorem YP:type_of% @funext:=@funext
theorem YR:type_of% @Int.tmod_eq_emod_of_nonneg:=@Int.tmod_eq_emod_of_nonneg
theorem YU:type_of% @Array.mem_of_getElem?:=@Array.mem_of_getElem?
theorem Y5:type_of% @Nat.succ_mul:=@Nat.succ_mul
theorem Y6:type_of% @List.take_succ_eq_append_getElem:=@List.take_succ_eq_append_getElem
theorem Y9:type_of% @List.map_cons:=@List.map_cons
theorem Za:type_of% @List.getElem?_take_of_lt:=@List.getElem?_take_of_lt
theorem Zn:type_of% @List.append_toArray:=@List.append_toArray
theorem ZA:type_of% @Nat.lt_or_ge:=@Nat.lt_or_ge
theorem ZD:type_of% @List.take_of_length_le:=@List.take_of_length_le
theorem ZE:type_of% @Array.empty_append:=@Array.empty_append
theorem ZG:type_of% @Go.wpList_store_mid:=@Go.wpList_store_mid
theorem ZH:type_of% @Go.World.block_lt_of_cell?:=@Go.World.block_lt_of_cell?
theorem ZI:type_of% @List.range_succ:=@List.range_succ
theorem ZP:type_of% @List.length_filter_le:=@List.length_filter_le
theorem ZX:type_of% @Go.wpList_load_mid:=@Go.wpList_load_mid
end Go.Proofs.YtpcnpkhgjanamaaGreatDoor
