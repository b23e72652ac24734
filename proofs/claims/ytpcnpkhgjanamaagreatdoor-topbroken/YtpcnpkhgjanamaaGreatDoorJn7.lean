import Derived.Test.YtpcnpkhgjanamaaGreatDoorPz
import Derived.Test.YtpcnpkhgjanamaaGreatDoorJn6
namespace Go.Proofs.YtpcnpkhgjanamaaGreatDoor
open Go renaming World→V8,Goroutine→Wi,Program→Wr,Trace→Y7
open Go.Conc renaming getElem?_append_cases→Xw
namespace Cs
open Go.Conc
variable[aT]
section
variable{P:Wr}{c:fX}{Post:Nat→Value→V8→Prop}
variable{zs zs':Nat→ZW P}{top snt:Nat}{bU:Nat→Option Nat}{RS:Nat→Nat→Prop}{blk:Nat→Option Nat}{w w':V8}
theorem Mem.fin(h:Mem P c Post zs top snt bU RS blk w){k i:Nat}(e:bU k=some i):c.S0≤i∧i<top:=by
 by_cases hks:k<snt
 ·obtain⟨i',h1,h2,h3⟩:=h.OS k hks
  rw[e]at h3;cases h3;exact⟨h1,h2⟩
 ·rw[h.Pa k vom]at e;cases e
theorem Mem.tell(h:Mem P c Post zs top snt bU RS blk w){i k m:Nat}(hi:c.S0≤i)(hit:i<top){E:Env}{s:{ s:Gh // Acc (After P [aK P]) s }}(hz:zs i=.ca k E s)(hsh:∀b q s,E b=some (q,s,false)→c.Fix q){vl v:Value}{wl:V8}(h1:Post k vl wl)(h2:VR E vl v)(h3:WR P E wl w):
  Mem P c Post (cJ zs i (.po k v m)) top snt bU (cJ RS k fun q=>∃b s,E b=some (q,s,true)) blk w:=by
 have hk:=h.KM i k hi hit (by rw[hz];rfl);have a:∀b q s,E b=some (q,s,true)→c.N1≤q∧q<w.heap.size∧blk q=some i:=fun b q s e=>h.En i q hi hit (by rw[hz];exact⟨b,s,e⟩);refine⟨h.ok,h.Pa,h.OS,fun j k' g1 g2 g3=>?_,fun k' j g1 g2=>?_,fun j k' u m' g1 g2 g3=>?_,fun j q g1 g2 g3=>?_,fun k' q g1=>?_,fun j k' q g1 g2 g3=>?_,h.PJ⟩
 ·by_cases e:j=i
  ·subst e
   rw[ay]at g3;have g4:k=k':=g3;rw[←g4];exact hk
  ·rw[aG _ _ e]at g3;exact h.KM j k' g1 g2 g3
 ·by_cases ek:k'=k
  ·subst ek
   exfalso;rw[hk.2]at g1;injection g1 with g1;subst g1;exact g2 (by rw[ay];rfl)
  ·rw[aG _ _ ek]
   refine h.R6 k' j g1 fun e=>g2 ?_;by_cases ej:j=i
   ·subst ej
    rw[hz]at e;exact absurd (show k=k' from e).symm ek
   ·rw[aG _ _ ej];exact e
 ·by_cases e:j=i
  ·subst e
   rw[ay]at g3;cases g3;rw[ay]
   exact⟨E,vl,wl,h1,h2,h3,fun b q s o e=>by
    cases o
    ·exact .inl ⟨rfl,hsh b q s e⟩
    ·exact .inr ⟨b,s,e⟩⟩
  ·rw[aG _ _ e]at g3
   have ek:k'≠k:=fun ek=>by
    subst ek;have:=(h.KM j k' g1 g2 (by rw[g3];rfl)).2;rw[hk.2]at this;injection this with this;exact e this.symm
   rw[aG _ _ ek];exact h.Rp j k' u m' g1 g2 g3
 ·by_cases e:j=i
  ·subst e;rw[ay]at g3;exact g3.elim
  ·rw[aG _ _ e]at g3;exact h.En j q g1 g2 g3
 ·by_cases ek:k'=k
  ·subst ek
   rw[ay]at g1;obtain⟨b,s,e⟩:=g1;exact⟨(a b q s e).1,(a b q s e).2.1⟩
  ·rw[aG _ _ ek]at g1;exact h.LV k' q g1
 ·by_cases e:j=i
  ·subst e;rw[ay]at g3;exact g3.elim
  ·rw[aG _ _ e]at g3
   by_cases ek:k'=k
   ·subst ek
    rw[ay];rintro⟨b,s,g4⟩;have g5:=(a b q s g4).2.2;rw[(h.En j q g1 g2 g3).2.2]at g5;injection g5 with g5;exact e g5
   ·rw[aG _ _ ek];exact h.Qe j k' q g1 g2 g3
theorem Mem.store(h:Mem P c Post zs top snt bU RS blk w){i k m m':Nat}{v:Value}(hi:c.S0≤i)(hit:i<top)(hz:zs i=.po k v m)(hk:k<c.K)(hC:c.Fd<c.N1):Mem P c Post (cJ zs i (.st m')) top snt bU RS blk (w.setCell ⟨c.Fd,k,none⟩ v):=by
 have s:=h.KM i k hi hit (by rw[hz];rfl);obtain⟨cs,n,o⟩:=h.ok.fd;have l:=fu w ⟨c.Fd,k,none⟩ v n rfl;have g:∀q,q≠c.Fd→(w.setCell ⟨c.Fd,k,none⟩ v).heap[q]?=w.heap[q]?:=fun q hq=>by rw[l,V9 (fun e=>hq e.symm)]
 have a:(w.setCell ⟨c.Fd,k,none⟩ v).heap.size=w.heap.size:=by unfold World.setCell;simp
 have d:∀j u,tq P c Post j u (RS j) w→tq P c Post j u (RS j) (w.setCell ⟨c.Fd,k,none⟩ v):=fun j u hr=>hr.keep fun q hq=>by
  rcases hq with hq|hq
  ·exact g q hq.2.1
  ·exact g q (by have:=(h.LV j q hq).1;omega)
 have b:∀j,(w.setCell ⟨c.Fd,k,none⟩ v).cell? ⟨c.Fd,j,none⟩=(cs.setIfInBounds k v)[j]?:=fun j=>by
  unfold World.cell?;rw[l,Wc rfl]
  rfl
 have f:∀j,w.cell? ⟨c.Fd,j,none⟩=cs[j]?:=fun j=>by
  unfold World.cell?;rw[n]
  rfl
 refine⟨⟨fun q hq=>(g q hq.2.1).trans (h.ok.fix q hq),⟨cs.setIfInBounds k v,by rw[l,Wc rfl],by simpa using o⟩,by rw[a];exact h.ok.gF,h.ok.env⟩,h.Pa,h.OS,fun j k' g1 g2 g3=>?_,fun k' j g1 g2=>?_,fun j k' u m' g1 g2 g3=>?_,fun j q g1 g2 g3=>?_,fun k' q g1=>?_,fun j k' q g1 g2 g3=>?_,fun q j g1=>?_⟩
 ·by_cases e:j=i
  ·subst e;rw[ay]at g3;exact g3.elim
  ·rw[aG _ _ e]at g3;exact h.KM j k' g1 g2 g3
 ·by_cases ek:k'=k
  ·subst ek
   refine⟨v,?_,d _ _ (h.Rp i k' v m hi hit hz)⟩;rw[b,XA,Wc rfl,Wc vom]
  ·obtain⟨u,g3,g4⟩:=h.R6 k' j g1 fun e=>g2 (by
    by_cases ej:j=i
    ·subst ej
     rw[hz]at e;exact absurd (show k=k' from e).symm ek
    ·rw[aG _ _ ej];exact e)
   refine⟨u,?_,d _ _ g4⟩;rw[b,XA,V9 (fun e=>ek e.symm),←f];exact g3
 ·by_cases e:j=i
  ·subst e;rw[ay]at g3;cases g3
  ·rw[aG _ _ e]at g3
   exact d _ _ (h.Rp j k' u m' g1 g2 g3)
 ·by_cases e:j=i
  ·subst e;rw[ay]at g3;exact g3.elim
  ·rw[aG _ _ e]at g3;rw[a];exact h.En j q g1 g2 g3
 ·rw[a];exact h.LV k' q g1
 ·by_cases e:j=i
  ·subst e;rw[ay]at g3;exact g3.elim
  ·rw[aG _ _ e]at g3;exact h.Qe j k' q g1 g2 g3
 ·rw[a];exact h.PJ q j g1
theorem Mem.give(h:Mem P c Post zs top snt bU RS blk w){i m:Nat}(hi:c.S0≤i)(hit:i<top)(hn:∀k,¬holds (zs i) k):Mem P c Post (cJ zs i (.pr snt m)) top (snt+1) (cJ bU snt (some i)) RS blk w:=by
 refine⟨h.ok,fun k hk=>?_,fun k hk=>?_,fun j k g1 g2 g3=>?_,fun k j g1 g2=>?_,fun j k u m' g1 g2 g3=>?_,fun j q g1 g2 g3=>?_,h.LV,fun j k q g1 g2 g3=>?_,h.PJ⟩
 ·rw[aG _ _ (show k≠snt by omega)];exact h.Pa k vom
 ·by_cases e:k=snt
  ·subst e;exact⟨i,hi,hit,ay _ _ _⟩
  ·rw[aG _ _ e];exact h.OS k vom
 ·by_cases e:j=i
  ·subst e
   rw[ay]at g3;have:snt=k:=g3;subst this;exact⟨vom,ay _ _ _⟩
  ·rw[aG _ _ e]at g3
   obtain⟨g4,g5⟩:=h.KM j k g1 g2 g3;exact⟨vom,by rw[aG _ _ (show k≠snt by omega)];exact g5⟩
 ·by_cases e:k=snt
  ·subst e
   exfalso;rw[ay]at g1;injection g1 with g1;subst g1;exact g2 (by rw[ay];rfl)
  ·rw[aG _ _ e]at g1
   refine h.R6 k j g1 fun g3=>g2 ?_;by_cases ej:j=i
   ·subst ej;exact absurd g3 (hn k)
   ·rw[aG _ _ ej];exact g3
 ·by_cases e:j=i
  ·subst e;rw[ay]at g3;cases g3
  ·rw[aG _ _ e]at g3;exact h.Rp j k u m' g1 g2 g3
 ·by_cases e:j=i
  ·subst e;rw[ay]at g3;exact g3.elim
  ·rw[aG _ _ e]at g3;exact h.En j q g1 g2 g3
 ·by_cases e:j=i
  ·subst e;rw[ay]at g3;exact g3.elim
  ·rw[aG _ _ e]at g3;exact h.Qe j k q g1 g2 g3
theorem Mem.grow(h:Mem P c Post zs top snt bU RS blk w){m:Nat}:Mem P c Post (cJ zs top (.st m)) (top+1) snt bU RS blk w:=by
 have f:∀j,j<top+1→j≠top→j<top:=fun j h1 h2=>by omega
 refine⟨h.ok,h.Pa,fun k hk=>?_,fun j k g1 g2 g3=>?_,fun k j g1 g2=>?_,fun j k u m' g1 g2 g3=>?_,fun j q g1 g2 g3=>?_,h.LV,fun j k q g1 g2 g3=>?_,h.PJ⟩
 ·obtain⟨i,a,b,d⟩:=h.OS k hk
  exact⟨i,a,vom,d⟩
 ·by_cases e:j=top
  ·subst e;rw[ay]at g3;exact g3.elim
  ·rw[aG _ _ e]at g3;exact h.KM j k g1 (f j g2 e) g3
 ·have:=(h.fin g1).2
  rw[aG _ _ (show j≠top by omega)]at g2;exact h.R6 k j g1 g2
 ·by_cases e:j=top
  ·subst e;rw[ay]at g3;cases g3
  ·rw[aG _ _ e]at g3;exact h.Rp j k u m' g1 (f j g2 e) g3
 ·by_cases e:j=top
  ·subst e;rw[ay]at g3;exact g3.elim
  ·rw[aG _ _ e]at g3;exact h.En j q g1 (f j g2 e) g3
 ·by_cases e:j=top
  ·subst e;rw[ay]at g3;exact g3.elim
  ·rw[aG _ _ e]at g3;exact h.Qe j k q g1 (f j g2 e) g3
end
section
variable{P:Wr}{c:fX}
def ji:ZW P→Prop
 |.lv _=>True
 |_=>False
def eJ(c:fX)(bU blk:Nat→Option Nat):_root_.Go.Loc→Option Nat
 |.cell a=>if a.block=c.Fd then bU a.off else if a.block<c.N1 then none else blk a.block
 |.obj q=>if q<c.N1 then none else blk q
 |_=>none
def jf(size:Nat):_root_.Go.Loc→Prop
 |.cell a=>a.block<size
 |.obj q=>q<size
 |_=>True
structure Tr(c:fX)(zs:Nat→ZW P)(top:Nat)(bU blk:Nat→Option Nat)(size:Nat)(t:Y7):Prop where
 ti:TI t (eJ c bU blk) (fun i=>i=0∨(c.S0≤i∧i<top))
 low:∀j a,touchAt t j=some a→jf size a.loc
 Qv:∀j a ad,touchAt t j=some a→a.loc=.cell ad→ad.block=c.Fd→∃i,bU ad.off=some i
 kn:∀j x a,t[j]?=some x→x.act.touch? = some a→Knows t 0 j∨(c.S0≤x.g∧x.g<top∧¬ji (zs x.g))
variable{zs zs':Nat→ZW P}{top:Nat}{bU blk:Nat→Option Nat}{size size':Nat}{t u:Y7}
omit [aT] in
theorem lJ(h:size≤size'):∀{l:_root_.Go.Loc},jf size l→jf size' l
 |.cell _,x|.obj _,x=>WE x h
 |.output,_|.goroutines,_|.mark _,_=>trivial
omit [aT] in
theorem Tr.own{i:Nat}(h:Tr c zs top bU blk size t)(hi:i=0∨(c.S0≤i∧i<top))(hu:∀op∈u,Tc (eJ c bU blk) i op)(hw:Wordless u)(hs:size≤size')(hl:∀op∈u,∀b,op.act.touch? = some b→jf size' b.loc)(hfd:∀op∈u,∀b ad,op.act.touch? = some b→b.loc=.cell ad→ad.block=c.Fd→∃i,bU ad.off=some i)
  (hz:∀j,¬ji (zs j)→¬ji (zs' j)) (hzi:i≠0→¬ji (zs' i)):Tr c zs' top bU blk size' (t++u):=by
 refine⟨h.ti.step hi hu hw,fun j a ha=>?_,fun j a ad ha e1 e2=>?_,fun j x a hx ha=>?_⟩
 ·obtain⟨x,hx,d⟩:=touch_of ha
  rcases Xw hx with⟨_,f⟩|⟨_,g⟩
  ·exact lJ hs (h.low j a (by rw[touchAt_of f];exact d))
  ·exact hl x g a d
 ·obtain⟨x,hx,d⟩:=touch_of ha
  rcases Xw hx with⟨_,f⟩|⟨_,g⟩
  ·exact h.Qv j a ad (by rw[touchAt_of f];exact d) e1 e2
  ·exact hfd x g a ad d e1 e2
 ·rcases Xw hx with⟨_,f⟩|⟨_,g⟩
  ·rcases h.kn j x a f ha with h1|⟨h1,h2,h3⟩
   ·exact .inl (h1.app u)
   ·exact .inr ⟨h1,h2,hz _ h3⟩
  ·have k:=(hu x g).1
   rcases hi with rfl|⟨h1,h2⟩
   ·have:=knows_own hx
    rw[k]at this;exact .inl this
   ·by_cases e:i=0
    ·have:=knows_own hx
     rw[k,e]at this;exact .inl this
    ·rw[k];exact .inr ⟨h1,h2,hzi e⟩
omit [aT] in
theorem Tr.mute(h:Tr c zs top bU blk size t)(hn:∀op∈u,op.act.touch? = none)(hw:Wordless u)(hs:size≤size')(hz:∀j,¬ji (zs j)→¬ji (zs' j)):Tr c zs' top bU blk size' (t++u):=by
 refine⟨h.ti.mute hn hw,fun j a ha=>?_,fun j a ad ha e1 e2=>?_,fun j x a hx ha=>?_⟩
 ·obtain⟨x,hx,b⟩:=touch_of ha
  rcases Xw hx with⟨_,d⟩|⟨_,e⟩
  ·exact lJ hs (h.low j a (by rw[touchAt_of d];exact b))
  ·rw[hn x e]at b;cases b
 ·obtain⟨x,hx,b⟩:=touch_of ha
  rcases Xw hx with⟨_,d⟩|⟨_,e⟩
  ·exact h.Qv j a ad (by rw[touchAt_of d];exact b) e1 e2
  ·rw[hn x e]at b;cases b
 ·rcases Xw hx with⟨_,d⟩|⟨_,e⟩
  ·rcases h.kn j x a d ha with h1|⟨h1,h2,h3⟩
   ·exact .inl (h1.app u)
   ·exact .inr ⟨h1,h2,hz _ h3⟩
  ·rw[hn x e]at ha;cases ha
omit [aT] in
theorem Tr.Qo{blk':Nat→Option Nat}{i:Nat}(h:Tr c zs top bU blk size t)(hb:∀q,blk' q=blk q∨(size≤q∧blk' q=some i)):Tr c zs top bU blk' size t:=by
 have same:∀l,eJ c bU blk' l=eJ c bU blk l∨∀j a,touchAt t j=some a→a.loc≠l:=fun l=>by
  cases l with
  |cell ad=>
   by_cases e1:ad.block=c.Fd
   ·left;simp only[eJ,Wc e1]
   ·by_cases e2:ad.block<c.N1
    ·left;simp only[eJ,V9 e1,Wc e2]
    ·rcases hb ad.block with h1|⟨h1,_⟩
     ·left;simp only[eJ,V9 e1,V9 e2,h1]
     ·right
      intro j a ha hl;have:=h.low j a ha;rw[hl]at this;have:ad.block<size:=this;omega
  |obj q=>
   by_cases e2:q<c.N1
   ·left;simp only[eJ,Wc e2]
   ·rcases hb q with h1|⟨h1,_⟩
    ·left;simp only[eJ,V9 e2,h1]
    ·right
     intro j a ha hl;have:=h.low j a ha;rw[hl]at this;have:q<size:=this;omega
  |_=>exact .inl rfl
 refine⟨h.ti.iB (fun l g hl=>?_) (fun l hl=>?_),h.low,h.Qv,h.kn⟩
 ·rcases same l with h1|h1
  ·exact .inl (by rw[←h1];exact hl)
  ·exact .inr (.inl h1)
 ·rcases same l with h1|h1
  ·exact .inl (by rw[←h1];exact hl)
  ·exact .inr h1
omit [aT] in
theorem Tr.give{k i:Nat}(h:Tr c zs top bU blk size t)(hk:bU k=none):Tr c zs top (cJ bU k (some i)) blk size t:=by
 have same:∀l,eJ c (cJ bU k (some i)) blk l=eJ c bU blk l∨∀j a,touchAt t j=some a→a.loc≠l:=fun l=>by
  cases l with
  |cell ad=>
   by_cases e1:ad.block=c.Fd
   ·by_cases e2:ad.off=k
    ·right
     intro j a ha hl;obtain⟨i',h1⟩:=h.Qv j a ad ha hl e1;rw[e2,hk]at h1;cases h1
    ·left;simp only[eJ,Wc e1,aG _ _ e2]
   ·left;simp only[eJ,V9 e1]
  |_=>exact .inl rfl
 refine⟨h.ti.iB (fun l g hl=>?_) (fun l hl=>?_),h.low,fun j a ad h1 h2 h3=>?_,h.kn⟩
 ·rcases same l with h1|h1
  ·exact .inl (by rw[←h1];exact hl)
  ·exact .inr (.inl h1)
 ·rcases same l with h1|h1
  ·exact .inl (by rw[←h1];exact hl)
  ·exact .inr h1
 ·obtain⟨i',h4⟩:=h.Qv j a ad h1 h2 h3
  by_cases e2:ad.off=k
  ·exact⟨i,by rw[e2,ay]⟩
  ·exact⟨i',by rw[aG _ _ e2];exact h4⟩
omit [aT] in
theorem Tr.done{i s:Nat}{x1 x2 x3 x4:MemOp}(h:Tr c zs top bU blk size t)(e1:x1.g=i∧x1.act=.send c.C2 s)(e2:x2.act.touch? = none∧∀m,x2.act≠.mark m)(e3:x3.act.touch? = none∧∀m,x3.act≠.mark m)(e4:x4.g=0∧x4.act=.recvDone c.C2 s)(hz:∀j,j≠i→¬ji (zs j)→¬ji (zs' j)):Tr c zs' top bU blk size (t++#[x1,x2,x3,x4]):=by
 have hn:∀op∈(#[x1,x2,x3,x4]:Y7),op.act.touch? = none:=fun op hop=>by
  simp at hop;rcases hop with rfl|rfl|rfl|rfl
  ·rw[e1.2];rfl
  ·exact e2.1
  ·exact e3.1
  ·rw[e4.2];rfl
 have hw:Wordless (#[x1,x2,x3,x4]:Y7):=fun op hop m hm=>by
  simp at hop;rcases hop with rfl|rfl|rfl|rfl
  ·rw[e1.2]at hm;cases hm
  ·exact absurd hm (e2.2 m)
  ·exact absurd hm (e3.2 m)
  ·rw[e4.2]at hm;cases hm
 have h1:=h.mute (zs':=zs) hn hw (R3 _) (fun _ hj=>hj);refine⟨h1.ti,h1.low,h1.Qv,fun j x a hx ha=>?_⟩;rcases Xw hx with⟨hj,b⟩|⟨_,d⟩
 ·rcases h.kn j x a b ha with k1|⟨k1,k2,k3⟩
  ·exact .inl (k1.app _)
  ·by_cases e:x.g=i
   ·left
    have hp:(t++#[x1,x2,x3,x4])[t.size]?=some x1:=vsi
    have hq:(t++#[x1,x2,x3,x4])[t.size+3]?=some x4:=by
     rw[Yq,V9 vom];simp
    refine Knows.over (g:=i) (fun g=>⟨h.ti.words.later hw g 0 vsi,h.ti.words.later hw g 3 vsi⟩) (p:=t.size) (q:=t.size+3) ?_ hp e1.1 hq e4.1 (.handOver (c:=c.C2) (k:=s) (by simp[Trace.act?,e1.2]) (by simp[Trace.act?,e4.2]));have:(t++#[x1,x2,x3,x4]).extract 0 t.size=t:=vsi;rw[this,←e];exact knows_own b
   ·exact .inr ⟨k1,k2,hz _ e k3⟩
 ·rw[hn x d]at ha;cases ha
omit [aT] in
theorem Tr.fork{x y:MemOp}{m:Nat}(h:Tr c zs top bU blk size t)(hx:x.g=0∧x.act=.go top)(hy:y.g=top∧y.act=.start):Tr c (cJ zs top (.st m)) (top+1) bU blk size (t++#[x,y]):=by
 have hn:∀op∈(#[x,y]:Y7),op.act.touch? = none:=fun op hop=>by
  simp at hop;rcases hop with rfl|rfl
  ·rw[hx.2];rfl
  ·rw[hy.2];rfl
 have hw:Wordless (#[x,y]:Y7):=fun op hop m hm=>by
  simp at hop;rcases hop with rfl|rfl
  ·rw[hx.2]at hm;cases hm
  ·rw[hy.2]at hm;cases hm
 have h1:=h.mute (zs':=zs) hn hw (R3 _) (fun _ hj=>hj);refine⟨⟨h1.ti.clean,h1.ti.mine,fun l hl g hg j a ha hal haw=>?_,h1.ti.words⟩,h1.low,h1.Qv,fun j z a hz ha=>?_⟩
 ·by_cases e:g=top
  ·subst e
   obtain⟨z,hz,b⟩:=touch_of ha;rcases Xw hz with⟨hj,f⟩|⟨_,d⟩
   ·have k0:=h.ti.read l hl 0 (.inl rfl) j a (by rw[touchAt_of f];exact b) hal haw
    have hp:(t++#[x,y])[t.size]?=some x:=vsi
    have hq:(t++#[x,y])[t.size+1]?=some y:=by
     rw[Yq,V9 vom];simp
    refine Knows.over (g:=0) (fun g=>⟨h.ti.words.later hw g 0 vsi,h.ti.words.later hw g 1 vsi⟩) (p:=t.size) (q:=t.size+1) ?_ hp hx.1 hq hy.1 (.spawn (child:=g) (by simp[Trace.act?,hx.2]) (by simp[Trace.act?,hy.2]) (by simp[Trace.g?,hy.1]));have:(t++#[x,y]).extract 0 t.size=t:=vsi;rw[this];exact k0
   ·rw[hn z d]at b;cases b
  ·exact h1.ti.read l hl g (by rcases hg with h2|⟨h2,h3⟩;exact .inl h2;exact .inr ⟨h2,vom⟩) j a ha hal haw
 ·rcases h1.kn j z a hz ha with k1|⟨k1,k2,k3⟩
  ·exact .inl k1
  ·exact .inr ⟨k1,vom,by rw[aG _ _ (show z.g≠top by omega)];exact k3⟩
end
end Cs
namespace Cs
open Go.Conc
open Go.ConcN (sumTo sumTo_congr)
theorem mV{α:Type}(F:Nat→α→Nat)(f:Nat→α)(x:α){i:Nat}:∀{n:Nat},i<n→sumTo n (fun a=>F a (cJ f i x a))+F i (f i)=sumTo n (fun a=>F a (f a))+F i x
 |n+1,h=>by
  rcases ZA i n with hlt|hge
  ·have:=mV F f x hlt
   simp only[sumTo,aG f x (show n≠i by omega)];omega
  ·obtain rfl:i=n:=vom
   have:sumTo i (fun a=>F a (cJ f i x a))=sumTo i (fun a=>F a (f a)):=sumTo_congr fun a ha=>by rw[aG f x vom]
   simp only[sumTo,ay,this];omega
theorem kz{α:Type}{gs:Array α}{i:Nat}{f:α→α}{y:α}(h:∀j x,j≠i→gs[j]?=some x→f x=x):(gs.map f).setIfInBounds i y=gs.setIfInBounds i y:=by
 apply Xc;intro j;by_cases e:i=j
 ·subst e
  by_cases hl:i<gs.size
  ·rw[WB (by simpa using hl),WB hl]
  ·rw[Wv (by simpa using hl),Wv (by simpa using hl)]
 ·rw[Wt e,Wt e,Array.getElem?_map]
  cases hx:gs[j]? with
  |none=>rfl
  |some x=>rw[Option.map_some,h j x (fun e'=>e e'.symm) hx]
theorem cI{α:Type}{gs:Array α}{i:Nat}{g:α}(hi:gs[i]?=some g):i<gs.size:=(Wd.1 hi).1
theorem vq{z0:Z0}:(∃k,z0=.wQ k)→closed z0=false:=by rintro⟨k,rfl⟩;rfl
variable[aT]
section
variable{P:Wr}{c:fX}{Post:Nat→Value→V8→Prop}{S:yq P c Post}
def oP:ZW P→Nat
 |.lv _=>1
 |_=>0
def early:ZW P→Prop
 |.aw|.fi _|.fw|.lv _=>False
 |_=>True
def xg(c:fX)(i:Nat)(z:ZW P):Nat:=if i<c.S0 then 0 else oP z
structure cg(S:yq P c Post)(gs:Array Wi)(w:V8)(t:Y7)(z0:Z0)(zs:Nat→ZW P)(bU:Nat→Option Nat)(RS:Nat→Nat→Prop)(blk:Nat→Option Nat):Prop where
 sz:gs.size=c.S0+gz c z0
 a0:∃g,gs[0]?=some g∧Ga S z0 g w
 wk:∀i g,1≤i→gs[i]?=some g→BV S (zs i) g w
 old:∀i,1≤i→i<c.S0→∃q,zs i=.lv q
 c1:w.heap[c.C1]?=some (.chan 0 #[] (closed z0) (sent c z0) (sent c z0) false)
 c2:w.heap[c.C2]?=some (.chan 0 #[] false (rcvd z0) (rcvd z0) false)
 SK:closed z0=true→∀i,1≤i→i<gs.size→zs i≠.wt
 KJ:closed z0=false→∀i,c.S0≤i→i<gs.size→early (zs i)
 UB:(∃k,z0=.wQ k)→∀i,1≤i→i<gs.size→zs i≠.wt
 UK:(∃r,z0=.xF r)→∀i,1≤i→i<gs.size→zs i≠.fw
 cnt:sumTo gs.size (fun i=>xg c i (zs i))=rcvd z0
 shr:∀i k E s,c.S0≤i→i<gs.size→zs i=.ca k E s→∀b q s,E b=some (q,s,false)→c.Fix q
 mem:Mem P c Post zs gs.size (sent c z0) bU RS blk w
 tr:Tr c zs gs.size bU blk w.heap.size t
variable{gs:Array Wi}{w w':V8}{t:Y7}{z0:Z0}{zs:Nat→ZW P}{bU:Nat→Option Nat}{RS:Nat→Nat→Prop}{blk:Nat→Option Nat}{g g':Wi}{z:ZW P}
omit [aT] in
theorem fE{main:Bool}{Stp:Wi→Prop}{m:Nat}(h:Walk P c main Stp m g w)(ok:c.Ok w'):Walk P c main Stp m g w':=Goes.rely (fun _ _ _ _ h=>h) h ok
omit [aT] in
theorem dA{main:Bool}{Stp:Wi→Prop}{m:Nat}(h:Walk P c main Stp m g w)(ok:c.Ok w):g.status=.running:=Goes.running (fun _ _ h=>h.1) w ok h
theorem Ga.keep(h:Ga S z0 g w)(ok:c.Ok w'):Ga S z0 g w':=by
 cases z0 with
 |sp j m=>exact⟨h.1,fE h.2 ok⟩
 |sd j m=>exact⟨h.1,fE h.2 ok⟩
 |wQ j=>exact h
 |cl m=>exact fE (show Walk P c true S.Ov m g w from h) ok
 |rc r m=>exact⟨h.1,fE h.2 ok⟩
 |xF r=>exact h
theorem BV.keep(h:BV S z g w)(ok:c.Ok w')(hE:∀k E s,z=.ca k E s→∀b x,E b=some x→w'.heap[x.1]?=w.heap[x.1]?):BV S z g w':=by
 cases z with
 |st m=>exact fE (show Walk P c false S.Rec m g w from h) ok
 |wt=>exact h
 |aw=>exact h
 |pr k m=>exact⟨h.1,fE h.2 ok⟩
 |ca k E s=>
  obtain⟨h1,cal,rest,h2,h3⟩:=h;exact⟨h1,cal,rest,h2.other (hE k E s rfl),h3⟩
 |po k v m=>exact⟨h.1,h.2.1,fE h.2.2 ok⟩
 |fi m=>exact fE (show Walk P c false S.Jl m g w from h) ok
 |fw=>exact h
 |lv q=>exact h
theorem Ga.status(h:Ga S z0 g w)(ok:c.Ok w):g.status=.running∨(g.status=.blocked∧((∃k,z0=.wQ k)∨∃r,z0=.xF r)):=by
 cases z0 with
 |sp j m=>exact .inl (dA h.2 ok)
 |sd j m=>exact .inl (dA h.2 ok)
 |wQ j=>
  obtain⟨_,g',_,rfl⟩:=h;exact .inr ⟨rfl,.inl ⟨j,rfl⟩⟩
 |cl m=>exact .inl (dA (show Walk P c true S.Ov m g w from h) ok)
 |rc r m=>exact .inl (dA h.2 ok)
 |xF r=>
  obtain⟨_,g',_,rfl⟩:=h;exact .inr ⟨rfl,.inr ⟨r,rfl⟩⟩
theorem BV.status(h:BV S z g w)(ok:c.Ok w):g.status=.running∨(g.status=.blocked∧(z=.wt∨z=.fw))∨(g.status=.finished∧∃q,z=.lv q):=by
 cases z with
 |st m=>exact .inl (dA (show Walk P c false S.Rec m g w from h) ok)
 |wt=>
  obtain⟨g',_,rfl⟩:=h;exact .inr (.inl ⟨rfl,.inl rfl⟩)
 |aw=>
  obtain⟨g',_,rfl⟩:=h;exact .inl rfl
 |pr k m=>exact .inl (dA h.2 ok)
 |ca k E s=>
  obtain⟨_,cal,rest,h2,_⟩:=h;exact .inl h2.running
 |po k v m=>exact .inl (dA h.2.2 ok)
 |fi m=>exact .inl (dA (show Walk P c false S.Jl m g w from h) ok)
 |fw=>
  obtain⟨g',_,rfl⟩:=h;exact .inr (.inl ⟨rfl,.inr rfl⟩)
 |lv q=>
  have h':QuitsIn P q g:=h;rcases h'.status with h1|h1
  ·exact .inl h1
  ·exact .inr (.inr ⟨h1,q,rfl⟩)
theorem Ga.woken{a a':Wi}(h:Ga S z0 g w)(ok:c.Ok w)(h1:(∃k,z0=.wQ k)→∃s r,w'.heap[c.C1]?=some (.chan 0 #[] false s r false))(h2:∃s r,w'.heap[c.C2]?=some (.chan 0 #[] false s r false)):Conc.woken P a a' w' g=g:=by
 rcases h.status ok with hr|⟨_,⟨k,rfl⟩|⟨r,rfl⟩⟩
 ·exact woken_running hr
 ·obtain⟨_,g',_,rfl⟩:=h
  obtain⟨s,r,h3⟩:=h1 ⟨k,rfl⟩;exact woken_send_open _ _ h3
 ·obtain⟨_,g',_,rfl⟩:=h
  obtain⟨s,r,h3⟩:=h2;exact woken_recv_open _ _ h3
theorem BV.woken{a a':Wi}(h:BV S z g w)(ok:c.Ok w)(h1:z=.wt→∃s r,w'.heap[c.C1]?=some (.chan 0 #[] false s r false))(h2:∃s r,w'.heap[c.C2]?=some (.chan 0 #[] false s r false)):Conc.woken P a a' w' g=g:=by
 rcases h.status ok with hr|⟨_,rfl|rfl⟩|⟨_,q,rfl⟩
 ·exact woken_running hr
 ·obtain⟨g',_,rfl⟩:=h
  obtain⟨s,r,h3⟩:=h1 rfl;exact woken_recv_open _ _ h3
 ·obtain⟨g',_,rfl⟩:=h
  obtain⟨s,r,h3⟩:=h2;exact woken_send_open _ _ h3
 ·exact woken_quits (show QuitsIn P q g from h)
theorem Ga.off(h:Ga S z0 g w)(ok:c.Ok w)(r:Nat)(send:Bool):offersAt g r send=[]∨((∃k,z0=.wQ k)∧r=c.C1∧send=true)∨((∃k,z0=.xF k)∧r=c.C2∧send=false):=by
 rcases h.status ok with hr|⟨_,⟨k,rfl⟩|⟨k,rfl⟩⟩
 ·exact .inl (offersAt_of_not_blocked (by rw[hr];exact fun e=>by cases e) _ _)
 ·obtain⟨_,g',_,rfl⟩:=h
  cases send with
  |false=>exact .inl (offersAt_parked_send' _ _ _ _ _ _)
  |true=>
   by_cases e:r=c.C1
   ·exact .inr (.inl ⟨⟨k,rfl⟩,e,rfl⟩)
   ·exact .inl (by rw[offersAt_parked_send,V9 (fun e'=>e e'.symm)])
 ·obtain⟨_,g',_,rfl⟩:=h
  cases send with
  |true=>exact .inl (offersAt_parked_recv' _ _ _ _ _)
  |false=>
   by_cases e:r=c.C2
   ·exact .inr (.inr ⟨⟨k,rfl⟩,e,rfl⟩)
   ·exact .inl (by rw[offersAt_parked_recv,V9 (fun e'=>e e'.symm)])
theorem BV.off(h:BV S z g w)(ok:c.Ok w)(r:Nat)(send:Bool):offersAt g r send=[]∨(z=.wt∧r=c.C1∧send=false)∨(z=.fw∧r=c.C2∧send=true):=by
 rcases h.status ok with hr|⟨_,rfl|rfl⟩|⟨hr,_⟩
 ·exact .inl (offersAt_of_not_blocked (by rw[hr];exact fun e=>by cases e) _ _)
 ·obtain⟨g',_,rfl⟩:=h
  cases send with
  |true=>exact .inl (offersAt_parked_recv' _ _ _ _ _)
  |false=>
   by_cases e:r=c.C1
   ·exact .inr (.inl ⟨rfl,e,rfl⟩)
   ·exact .inl (by rw[offersAt_parked_recv,V9 (fun e'=>e e'.symm)])
 ·obtain⟨g',_,rfl⟩:=h
  cases send with
  |false=>exact .inl (offersAt_parked_send' _ _ _ _ _ _)
  |true=>
   by_cases e:r=c.C2
   ·exact .inr (.inr ⟨rfl,e,rfl⟩)
   ·exact .inl (by rw[offersAt_parked_send,V9 (fun e'=>e e'.symm)])
 ·exact .inl (offersAt_of_not_blocked (by rw[hr];exact fun e=>by cases e) _ _)
section
variable(h:cg S gs w t z0 zs bU RS blk)
include h
theorem cg.pos:0<gs.size:=by have:=h.sz;have:=S.s1;omega
theorem cg.keep(ok:c.Ok w'){i:Nat}(hu:∀j q,c.S0≤j→j<gs.size→j≠i→gV (zs j) q→w'.heap[q]?=w.heap[q]?):∀j g,1≤j→j≠i→gs[j]?=some g→BV S (zs j) g w':=fun j g h1 h2 h3=>by
 refine(h.wk j g h1 h3).keep ok fun k E s e b x hx=>?_
 have hj:c.S0≤j:=by
  rcases ZA j c.S0 with h4|h4
  ·obtain⟨q,h5⟩:=h.old j h1 h4
   rw[h5]at e;cases e
  ·exact h4
 obtain⟨q,s',o⟩:=x;cases o with
 |true=>exact hu j q hj (cI h3) h2 (by rw[e];exact⟨b,s',hx⟩)
 |false=>
  have hf:=h.shr j k E s hj (cI h3) e b q s' hx;exact(ok.fix q hf).trans (h.mem.ok.fix q hf).symm
theorem cg.quiet{i:Nat}{a a' y:Wi}(hc1:w'.heap[c.C1]?=w.heap[c.C1]?)(hc2:w'.heap[c.C2]?=w.heap[c.C2]?):(gs.map (woken P a a' w')).setIfInBounds i y=gs.setIfInBounds i y:=by
 refine kz fun j x _ hx=>?_;have k2:∃s r,w'.heap[c.C2]?=some (.chan 0 #[] false s r false):=⟨_,_,by rw[hc2];exact h.c2⟩
 rcases XK j with rfl|hj
 ·obtain⟨g,h1,h2⟩:=h.a0
  rw[hx]at h1;cases h1;exact h2.woken h.mem.ok (fun e=>⟨_,_,by rw[hc1,h.c1,vq e]⟩) k2
 ·refine(h.wk j x hj hx).woken h.mem.ok (fun e=>?_) k2
  cases hcl:closed z0 with
  |false=>exact⟨_,_,by rw[hc1,h.c1,hcl]⟩
  |true=>exact absurd e (h.SK hcl j hj (cI hx))
theorem cg.awake:∀g∈gs,awake g:=fun g hg=>by
 obtain⟨i,hi,rfl⟩:=Array.mem_iff_getElem.1 hg;rcases XK i with rfl|hp
 ·obtain⟨a,h1,h2⟩:=h.a0
  have:gs[0]=a:=by simpa[Array.getElem?_eq_getElem hi]using h1
  rw[this];rcases h2.status h.mem.ok with h3|⟨h3,_⟩
  ·exact awake_of (.inl h3)
  ·exact awake_of (.inr (.inl h3))
 ·rcases(h.wk i _ hp (Wl hi)).status h.mem.ok with h3|⟨h3,_⟩|⟨h3,_⟩
  ·exact awake_of (.inl h3)
  ·exact awake_of (.inr (.inl h3))
  ·exact awake_of (.inr (.inr h3))
theorem cg.UA(d:Nat):cg S gs (w.at d) t z0 zs bU RS blk:=by
 have ok:c.Ok (w.at d):=⟨h.mem.ok.fix,h.mem.ok.fd,h.mem.ok.gF,h.mem.ok.env⟩
 obtain⟨g,h1,h2⟩:=h.a0;refine⟨h.sz,⟨g,h1,h2.keep ok⟩,fun j g h1 h2=>(h.wk j g h1 h2).keep ok fun _ _ _ _ _ _ _=>rfl,h.old,h.c1,h.c2,h.SK,h.KJ,h.UB,h.UK,h.cnt,h.shr,?_,h.tr⟩;have hd:=S.d1;exact h.mem.iB (fun _ _ _=>rfl) ⟨rfl,rfl,rfl⟩ ⟨fun e=>hd.2.2.2.2.1 e.symm,fun e=>hd.2.2.2.2.2 e.symm,hd.1,hd.2.1⟩ (fun _ _ _ _=>Iff.rfl) (fun _ _ _ _ h=>h) (fun _ _ _ m _ _ h=>⟨m,h⟩)
end
end
end Cs
end Go.Proofs.YtpcnpkhgjanamaaGreatDoor
