import Derived.Conc.MuSpec
import Derived.Test.YtpdemelchhkfaaaCwA
import Derived.Test.YtpdemelchhkfaaaDwA
namespace Go.Proofs.Ytpdemelchhkfaaa
namespace Cs
open Go.Conc
open Go.ConcN (sumTo sumTo_congr)
open Go.ConcR (KK WgAt wgBlock stA smA rd wr mk)
open Go.ConcM (OsLater)
def Wd.enc (W:Wd):Int:=((W.l+2*W.w+4*W.s+8*W.q:Nat):Int)
structure OkT (c:Cst) (w:World):Prop where
 fix:∀q,c.Fix q→w.heap[q]? = c.H0 q
 fd:∃cs,w.heap[c.Fd]? = some (.cells cs c.TF (0,0))∧cs.size=c.K
 big:c.N1≤w.heap.size
 os:OsLater c.os0 w.os
 out:w.output=c.yX
def muC (c:Cst) (w:World) (W:Wd) (m:Nat):Prop:=w.cell? ⟨c.Fd,0,none⟩=some (.int .i32 W.enc)∧w.cell? ⟨c.Fd,1,none⟩=some (.int .u32 (m:Nat))
def bdC (c:Cst) (w:World) (b:Nat→Value):Prop:=∀i,2≤i→i<c.K→w.cell? ⟨c.Fd,i,none⟩=some (b i)
structure Ok3 (c:Cst) (tW:TypeId) (w:World):Prop where
 ok:OkT c w
 wg:∃st sm,WgAt tW c.C2 w st sm
 mu:∃W m,muC c w W m
def gZ (c:Cst):Addr:=⟨c.Fd,0,none⟩
def BxR (R:Nat→Array Value) (tX:TypeId) (k q:Nat) (w:World):Prop:=w.heap[q]? = some (.cells (R k) tX (0,0))
section
variable (P:Program) (c:Cst) (tW tX:TypeId) (R:Nat→Array Value)
def WalkA (main:Bool) (Stp:Goroutine→Prop) (m:Nat) (g:Goroutine) (w:World):Prop:=Goes P main (fun _ w=>Ok3 c tW w) (DQ c) (fun g _=>g.status=.running∧Stp g) m g w
def OnA (main:Bool) (Stp:Goroutine→Prop) (g:Goroutine):Prop:=g.status=.running∧∀w,Ok3 c tW w→∃m,WalkA P c tW main Stp m g w
def cu (Stp:Goroutine→Prop) (m:Nat) (g:Goroutine) (w:World):Prop:=Goes P false (fun _ w=>Ok3 c tW w) (fun w w' es=>DQ c w w' es∧es=#[]) (fun g _=>g.status=.running∧Stp g) m g w
def OnL (Stp:Goroutine→Prop) (g:Goroutine):Prop:=g.status=.running∧∀w,Ok3 c tW w→∃m,cu P c tW Stp m g w
structure DB (q:Nat) (w w':World) (es:Array Event):Prop where
 heap:∀b,b≠c.Fd→w'.heap[b]? = w.heap[b]?
 size:w'.heap.size=w.heap.size
 fd:∀cs,w.heap[c.Fd]? = some (.cells cs c.TF (0,0))→∃cs',w'.heap[c.Fd]? = some (.cells cs' c.TF (0,0))∧cs'.size=cs.size∧cs'[0]? = cs[0]?∧cs'[1]? = cs[1]?
 os:w'.os=w.os
 output:w'.output=w.output
 evs:∀e ∈ es,(∃a:Addr,e=⟨.cell a,false,false⟩∧(c.Fix a.block∨a.block=q))∨(∃o wr,2≤o∧e=⟨.cell ⟨c.Fd,o,none⟩,wr,false⟩)∨e=⟨.cell ⟨c.Fd,0,none⟩,false,true⟩
def RB (k q:Nat) (w0 w:World):Prop:=Ok3 c tW w∧BxR R tX k q w∧∀i,2≤i→w.cell? ⟨c.Fd,i,none⟩=w0.cell? ⟨c.Fd,i,none⟩
def fu (k q:Nat) (b:Nat→Value) (Stp:Goroutine→Prop) (m:Nat) (g:Goroutine) (w:World):Prop:=Goes P false (RB c tW tX R k q) (DB c q) (fun g w=>g.status=.running∧bdC c w b∧Stp g) m g w
structure bC (w w':World) (W':Wd) (m':Nat):Prop where
 heap:∀b,b≠c.Fd→w'.heap[b]? = w.heap[b]?
 size:w'.heap.size=w.heap.size
 fd:∀cs,w.heap[c.Fd]? = some (.cells cs c.TF (0,0))→∃cs',w'.heap[c.Fd]? = some (.cells cs' c.TF (0,0))∧cs'.size=cs.size∧∀i,2≤i→cs'[i]? = cs[i]?
 mu:muC c w' W' m'
 os:OsLater w.os w'.os
 output:w'.output=w.output
end
def mM:Mx→Nat
 | .no | .ld | .la | .cr | .ud=>0
 | _=>1
def xe (x:Mx) (W:Wd):Prop :=
 lcM x∧(vM x=1→W.s=1→W.l=0∧W.w=0∧1≤W.q)∧(vM x=1→W.s=0→W.w=1)∧(aM x=1→W.s=1∧W.l=0∧W.w=0∧1≤W.q)∧(dB x=1→W.l=1)∧(jM x=1→W.s=0∧W.w=1)
def nZ:Mx→Bool
 | .ud | .u0 | .uc _ | .u2 | .us | .ux | .ue=>true
 | _=>false
def gy:Mx→Prop
 | .no | .la | .cr=>False
 | _=>True
variable [Fns]
structure ff (P:Program) (c:Cst) (tW tX:TypeId) (J:Nat) (F:Nat→Value) (R:Nat→Array Value) (β:Type) (eB:β→Nat→Value) (up:β→Nat→β) where
 Cal:Nat→Goroutine→Prop
 Bxs:Nat→Goroutine→Prop
 Mu:Nat→Nat→Mx→Goroutine→Prop
 Ur:Nat→Nat→Goroutine→Prop
 Rel:Goroutine→Prop
 Dis:Goroutine→Prop
 Dec:Goroutine→Prop
 Lod:Goroutine→Prop
 Zer:Goroutine→Prop
 Sem:Goroutine→Prop
 GoA:Nat→Goroutine→Prop
 GoS:Nat→Nat→Goroutine→Prop
 GoP:Nat→Nat→Goroutine→Prop
 Hld:Nat→Nat→Goroutine→Prop
 H:Nat→Value
 tH:TypeId
 zH:Value
 WtD:Goroutine→Prop
 W1:Goroutine→Prop
 W2:Nat→Goroutine→Prop
 Sai:Goroutine→Prop
 W3:Goroutine→Prop
 W4:Goroutine→Prop
 Ke:Goroutine→Prop
 Acq:Goroutine→Prop
 JnP:Goroutine→Prop
 n1:1≤c.n∧c.n≤1000
 s1:1≤c.S0∧c.S0≤1000
 kk:2≤c.K
 d1:c.C2<c.N1∧c.Fd<c.N1∧c.C2≠c.Fd∧c.C1=c.Fd
 comm:∀b j k,j≠k→up (up b j) k=up (up b k) j
 cal:∀k g,Cal k g→k<J→∃cal rest,g=G (Frame.enter P c.fB (c.ar k) .normal) (cal :: rest)∧OnA P c tW false (Bxs k) (G (cal.finish (F k)) rest)
 bxs:∀k g,Bxs k g→k<J→isG g∧∃g':Nat→Goroutine,(∀w,Ok3 c tW w→stepG P false g w=.go (g' w.heap.size) (w.alloc (.cells (R k) tX (0,0))) #[])∧∀q,OnL P c tW (Mu k q .ld) (g' q)
 mst:∀k q x g,Mu k q x g→k<J→gy x→isG g∧∀w W m,Ok3 c tW w→muC c w W m→xe x W→W.ok→W.q≤12000→m≤1→(∀s,x=.s1 s→m=1)→∃x' W' m' g' w' es,Mv x W m x' W' m'∧stepG P false g w=.go g' w' es∧bC c w w' W' m'∧(∀e ∈ es,(∃o wr,o<2∧e=⟨.cell ⟨c.Fd,o,none⟩,wr,true⟩)∨e=mk .disable∨e=mk .enable)∧deafBehind (mM x) es=mM x' ∧
  (x'≠.no→OnL P c tW (Mu k q x') g')∧(x'=.no→OnA P c tW false (fun g=>if k+c.n<J then Cal (k+c.n) g else Rel g) g')
 slp:∀k q s g,Mu k q (.s1 s) g→g.offers=none∧∀w W,Ok3 c tW w→muC c w W 0→stepG P false g w=.go { g with status:=.blocked } w #[]
 wak:∀k q x g,Mu k q x g→x=.us∨x=.ux→mayWake P g=true
 acm:∀k q g,Mu k q .la g→k<J→isG g∧∃g',(∀w,Ok3 c tW w→stepG P false g w=.go g' w #[mk (.acquire (gZ c))])∧∀b w,Ok3 c tW w→BxR R tX k q w→bdC c w (eB b)→∃m,fu P c tW tX R k q (eB (up b k)) (Ur k q) m g' w
 rlm:∀k q g,Ur k q g→isG g∧∃g',(∀w,Ok3 c tW w→stepG P false g w=.go g' w #[mk (.releaseMerge (gZ c))])∧OnL P c tW (Mu k q .ud) g'
 rel:∀g,Rel g→isG g∧∃g',(∀w,Ok3 c tW w→stepG P false g w=.go g' w #[mk (.releaseMerge (stA c.C2))])∧OnL P c tW Dis g'
 dis:∀g,Dis g→isG g∧∃g',(∀w,Ok3 c tW w→stepG P false g w=.go g' w #[mk .disable])∧OnL P c tW Dec g'
 dec:∀g,Dec g→isG g∧∀v wt:Nat,wt≤1→v<2147483647→∃g',(∀w,WgAt tW c.C2 w (((v:Int)+1)*KK+wt) 0→stepG P false g w=.go g' (w.setCell (stA c.C2) (.int .u64 ((v:Int)*KK+wt))) #[rd (stA c.C2),wr (stA c.C2)]) ∧
  ((v=0∧wt=1)→OnL P c tW Lod g')∧(¬(v=0∧wt=1)→∃q,QuitsD P q 1 g')
 lod:∀g,Lod g→isG g∧∃g',(∀w,WgAt tW c.C2 w 1 0→stepG P false g w=.go g' w #[rd (stA c.C2)])∧OnL P c tW Zer g'
 zer:∀g,Zer g→isG g∧∃g',(∀w,WgAt tW c.C2 w 1 0→stepG P false g w=.go g' (w.setCell (stA c.C2) (.int .u64 0)) #[wr (stA c.C2)])∧OnL P c tW Sem g'
 sem:∀g,Sem g→isG g∧mayWake P g=true∧∃g',(∀w,WgAt tW c.C2 w 0 0→stepG P false g w=.go g' (w.setCell (smA c.C2) (.int .u32 1)) (semEvents (smA c.C2)))∧∃q,QuitsD P q 1 g'
 gal:∀j g,GoA j g→j<c.n→isG g∧∃g':Nat→Goroutine,(∀w,stepG P true g w=.go (g' w.heap.size) (w.alloc (.cells #[zH] tH (0,0))) #[])∧∀q,OnA P c tW true (GoS j q) (g' q)
 gst:∀j q g,GoS j q g→j<c.n→isG g∧∃g',(∀w v,w.heap[q]? = some (.cells #[v] tH (0,0))→stepG P true g w=.go g' (w.setCell ⟨q,0,none⟩ (H j)) #[⟨.cell ⟨q,0,none⟩,true,false⟩])∧OnA P c tW true (GoP j q) g'
 gop:∀j q g,GoP j q g→j<c.n→isG g∧∃g' ch,(∀w,stepG P true g w=.spawn g' ch w #[])∧OnL P c tW (Hld j q) ch∧OnA P c tW true (fun g=>if j+1<c.n then GoA (j+1) g else WtD g) g'
 hld:∀j q g,Hld j q g→j<c.n→isG g∧∃g',(∀w,w.heap[q]? = some (.cells #[H j] tH (0,0))→stepG P false g w=.go g' w #[⟨.cell ⟨q,0,none⟩,false,false⟩])∧OnA P c tW false (fun g=>if j<J then Cal j g else Rel g) g'
 wtd:∀g,WtD g→isG g∧∃g',(∀w,Ok3 c tW w→stepG P true g w=.go g' w #[mk .disable])∧OnA P c tW true W1 g'
 w1:∀g,W1 g→isG g∧∀v:Nat,v<2147483648→∃g',(∀w,WgAt tW c.C2 w ((v:Int)*KK) 0→stepG P true g w=.go g' w #[rd (stA c.C2)])∧OnA P c tW true (fun g=>if v=0 then Ke g else W2 v g) g'
 w2h:∀v g,W2 v g→0<v→v<2147483648→isG g∧∃g',(∀w,WgAt tW c.C2 w ((v:Int)*KK) 0→stepG P true g w=.go g' (w.setCell (stA c.C2) (.int .u64 ((v:Int)*KK+1))) #[rd (stA c.C2),wr (stA c.C2)])∧OnA P c tW true Sai g'
 w2m:∀vs g,W2 vs g→∀v:Nat,v<2147483648→v≠vs→∃g',(∀w,WgAt tW c.C2 w ((v:Int)*KK) 0→stepG P true g w=.go g' w #[rd (stA c.C2)])∧OnA P c tW true W1 g'
 sai:∀g,Sai g→isG g∧∃g',(∀w,Ok3 c tW w→stepG P true g w=.go g' w #[mk (.write (smA c.C2))])∧OnA P c tW true W3 g'
 w3:∀g,W3 g→isG g∧g.offers=none∧(∀w st,WgAt tW c.C2 w st 0→stepG P true g w=.go { g with status:=.blocked } w #[])∧∃g',(∀w,WgAt tW c.C2 w 0 1→stepG P true g w=.go g' (w.setCell (smA c.C2) (.int .u32 0)) (semEvents (smA c.C2)))∧OnA P c tW true W4 g'
 w4:∀g,W4 g→isG g∧∃g',(∀w,WgAt tW c.C2 w 0 0→stepG P true g w=.go g' w #[rd (stA c.C2)])∧OnA P c tW true Ke g'
 ke:∀g,Ke g→isG g∧∃g',(∀w,Ok3 c tW w→stepG P true g w=.go g' w #[mk .enable])∧OnA P c tW true Acq g'
 acq:∀g,Acq g→isG g∧∃g',(∀w,Ok3 c tW w→stepG P true g w=.go g' w #[mk (.acquire (stA c.C2))])∧OnA P c tW true JnP g'
 fok:Fns.ok c.fB=true
 job:∀k,k<J→∀w,OkT c w→∃(E:Env) (wl:World) (x:Array Value),(∀b q s o,E b=some (q,s,o)→o=false∧c.Fix q)∧LR E x (c.ar k)∧WR P E wl w∧Fns.G≤wl.heap.size∧∀τ,Calls P c.fB x (wl.tp τ) fun e _=>∃v,e=.returned v∧v=F k
 vr:∀k (E:Env) v',VR E (F k) v'→v'=F k
inductive Y0
 | al (j m:Nat)
 | st (j q m:Nat)
 | sp (j q m:Nat)
 | wd (m:Nat)
 | w1 (m:Nat)
 | w2 (v m:Nat)
 | sa (m:Nat)
 | w3 (m:Nat)
 | w3b
 | w4 (m:Nat)
 | ke (m:Nat)
 | ac (m:Nat)
 | jn (m:Nat)
inductive YW (P:Program)
 | hd (k q m:Nat)
 | pr (k m:Nat)
 | ca (k:Nat) (E:Env) (s:{ s:Gh // Acc (After P [ay P]) s })
 | bx (k m:Nat)
 | ml (k q:Nat) (x:Mx) (m:Nat)
 | mb (k q:Nat) (s:Bool)
 | cr (k q m:Nat)
 | re (m:Nat)
 | di (m:Nat)
 | de (m:Nat)
 | lo (m:Nat)
 | ze (m:Nat)
 | se (m:Nat)
 | lv (q:Nat)
section
variable {P:Program} {c:Cst} {tW tX:TypeId} {J:Nat} {F:Nat→Value} {R:Nat→Array Value} {β:Type} {eB:β→Nat→Value} {up:β→Nat→β} (S:ff P c tW tX J F R β eB up)
def bg (c:Cst):Y0→Nat
 | .al j _ | .st j _ _ | .sp j _ _=>j
 | _=>c.n
def reg:Y0→Nat
 | .sa _ | .w3 _ | .w3b=>1
 | _=>0
def jS:Y0→Prop
 | .w4 _ | .ke _ | .ac _ | .jn _=>True
 | _=>False
def deaf0:Y0→Nat
 | .al _ _ | .st _ _ _ | .sp _ _ _ | .wd _ | .ac _ | .jn _=>0
 | _=>1
def T0:Y0→Goroutine→World→Prop
 | .al j m,g,w=>j<c.n∧WalkA P c tW true (S.GoA j) m g w
 | .st j q m,g,w=>j<c.n∧WalkA P c tW true (S.GoS j q) m g w∧∃v,w.heap[q]? = some (.cells #[v] S.tH (0,0))
 | .sp j q m,g,w=>j<c.n∧WalkA P c tW true (S.GoP j q) m g w∧w.heap[q]? = some (.cells #[S.H j] S.tH (0,0))
 | .wd m,g,w=>WalkA P c tW true S.WtD m g w
 | .w1 m,g,w=>WalkA P c tW true S.W1 m g w
 | .w2 v m,g,w=>0<v∧v<2147483648∧WalkA P c tW true (S.W2 v) m g w
 | .sa m,g,w=>WalkA P c tW true S.Sai m g w
 | .w3 m,g,w=>WalkA P c tW true S.W3 m g w
 | .w3b,g,_=>∃g',S.W3 g'∧g={ g' with status:=.blocked }
 | .w4 m,g,w=>WalkA P c tW true S.W4 m g w
 | .ke m,g,w=>WalkA P c tW true S.Ke m g w
 | .ac m,g,w=>WalkA P c tW true S.Acq m g w
 | .jn _,_,_=>False
def aV:YW P→Mx
 | .ml _ _ x _=>x
 | .mb _ _ s=>.s1 s
 | .cr _ _ _=>.cr
 | _=>.no
def deafW:YW P→Nat→Prop
 | .de _,d | .lo _,d | .ze _,d | .se _,d=>d=1
 | .lv _,_=>True
 | .ml _ _ x _,d=>d=mM x
 | .mb _ _ _,d=>d=1
 | _,d=>d=0
def TW (b:β) (d:Nat):YW P→Goroutine→World→Prop
 | .hd k q m,g,w=>k<c.n∧cu P c tW (S.Hld k q) m g w∧w.heap[q]? = some (.cells #[S.H k] S.tH (0,0))
 | .pr k m,g,w=>k<J∧WalkA P c tW false (S.Cal k) m g w
 | .ca k E s,g,w=>k<J∧∃cal rest,bB P (fun v _=>v=F k) (cal :: rest) E s.1.1 s.1.2 g w∧OnA P c tW false (S.Bxs k) (G (cal.finish (F k)) rest)
 | .bx k m,g,w=>k<J∧WalkA P c tW false (S.Bxs k) m g w
 | .ml k q x m,g,w=>k<J∧(gy x∨x=.la)∧cu P c tW (S.Mu k q x) m g w
 | .mb k q s,g,_=>k<J∧∃g',S.Mu k q (.s1 s) g'∧g={ g' with status:=.blocked }
 | .cr k q m,g,w=>k<J∧fu P c tW tX R k q (eB (up b k)) (S.Ur k q) m g w
 | .re m,g,w=>WalkA P c tW false S.Rel m g w
 | .di m,g,w=>cu P c tW S.Dis m g w
 | .de m,g,w=>cu P c tW S.Dec m g w
 | .lo m,g,w=>cu P c tW S.Lod m g w
 | .ze m,g,w=>cu P c tW S.Zer m g w
 | .se m,g,w=>cu P c tW S.Sem m g w
 | .lv q,g,_=>QuitsD P q d g
def yi0:Y0→Mi P [ay P]
 | .al _ m | .st _ _ m | .sp _ _ m | .wd m | .w1 m | .w2 _ m | .sa m | .w3 m | .w4 m | .ke m | .ac m | .jn m=>.inl m
 | .w3b=>.inl 0
def yiW:YW P→Mi P [ay P]
 | .hd _ _ m | .pr _ m | .bx _ m | .ml _ _ _ m | .cr _ _ m | .re m | .di m | .de m | .lo m | .ze m | .se m | .lv m=>.inl m
 | .mb _ _ _=>.inl 0
 | .ca _ _ s=>.inr s
def q0 (c:Cst) (v:Nat):Y0→Nat
 | .al j _=>3*(c.n-j)+3*c.n+22
 | .st j _ _=>3*(c.n-j)+3*c.n+21
 | .sp j _ _=>3*(c.n-j)+3*c.n+20
 | .wd _=>3*c.n+15
 | .w1 _=>3*v+12
 | .w2 u _=>3*u+11
 | .sa _=>8
 | .w3 _ | .w3b=>7
 | .w4 _=>6
 | .ke _=>5
 | .ac _=>4
 | .jn _=>3
def qW (J:Nat):YW P→Nat
 | .lv _=>0
 | .se _=>1
 | .ze _=>2
 | .lo _=>3
 | .de _=>4
 | .di _=>5
 | .re _=>6
 | .hd k _ _=>10*(J-k)+11
 | .pr k _=>10*(J-k)+10
 | .ca k _ _=>10*(J-k)+9
 | .bx k _=>10*(J-k)+8
 | .ml k _ _ _ | .mb k _ _ | .cr k _ _=>10*(J-k)+7
def en:YW P→Nat→Nat→Prop
 | .ml k q _ _,j,b=>j=k∧b=q
 | .mb k q _,j,b=>j=k∧b=q
 | .cr k q _,j,b=>j=k∧b=q
 | _,_,_=>False
def bI:YW P→Nat→Prop
 | .ca _ E _,q=>∃b s,E b=some (q,s,true)
 | .ml _ b _ _,q=>q=b
 | .mb _ b _,q=>q=b
 | .cr _ b _,q=>q=b
 | .hd _ b _,q=>q=b
 | _,_=>False
def oJ:Y0→Nat→Prop
 | .st _ b _,q=>q=b
 | .sp _ b _,q=>q=b
 | _,_=>False
def cW (J:Nat):YW P→Nat
 | .hd k _ _ | .pr k _ | .ca k _ _ | .bx k _ | .mb k _ _ | .cr k _ _=>k
 | .ml k _ x _=>if nZ x=true then k+1 else k
 | _=>J
def bef:YW P→Nat
 | .hd _ _ _ | .pr _ _ | .ca _ _ _ | .bx _ _ | .ml _ _ _ _ | .mb _ _ _ | .cr _ _ _ | .re _ | .di _ | .de _=>1
 | _=>0
def told:YW P→Prop
 | .di _ | .de _ | .lo _ | .ze _ | .se _ | .lv _=>True
 | _=>False
def closing:YW P→Prop
 | .lo _ | .ze _ | .se _=>True
 | _=>False
end
end Cs
namespace Cs
open Go.Conc
open Go.ConcR (KK WgAt wgBlock stA smA rd wr mk)
section
variable (sh gd:_root_.Go.Loc→Prop) (mu:Addr)
structure TK (t:Trace) (own:_root_.Go.Loc→Option Nat) (act:Nat→Prop):Prop where
 clean:∀said,¬Race said t
 mine:∀l g,own l=some g→Perm t g l
 read:∀l,own l=none→¬sh l→¬gd l→∀g,act g→∀i a,touchAt t i=some a→a.loc=l→a.write=true→Knows t g i
 shn:∀(i:Nat) (x:MemOp) (a:Touch),t[i]? = some x→x.act.touch? = some a→sh a.loc→(a.kind≠.plain∧(a.kind=.said→x.g=0))∨∀g,act g→Knows t g i
 gdn:∀i a,touchAt t i=some a→gd a.loc→own a.loc=none→(∀g,act g→Knows t g i)∨∃p y,t[p]? = some y∧y.act=.mark (.releaseMerge mu)∧t.heard p∧Knows (t.extract 0 p) y.g i
def Az (own:_root_.Go.Loc→Option Nat) (g:Nat) (op:MemOp):Prop :=
 op.g=g∧∀b,op.act.touch? = some b→(sh b.loc∧b.kind≠.plain∧(b.kind=.said→g=0))∨(¬sh b.loc∧(own b.loc=some g∨(own b.loc=none∧¬gd b.loc∧b.write=false)))
end
theorem fP {t u:Trace} {p:Nat} (h:t.heard p):(t++u).heard p:=by
 obtain ⟨g,h1,h2⟩:=h
 have hp:p<t.size:=by
  cases hx:t[p]? with
  | none=>simp[Trace.g?,hx] at h1
  | some x=>exact lt_size_of_getElem? hx
 refine ⟨g,by simpa [Trace.g?,getElem?_append_old (u:=u) hp] using h1,?_⟩
 rw[deaf_old (Nat.le_of_lt hp)]
 exact h2
theorem fA {t u:Trace} {p:Nat} (hp:p≤t.size):(t++u).extract 0 p=t.extract 0 p:=by
 apply Array.ext_getElem?
 intro i
 rw[Array.getElem?_extract,Array.getElem?_extract]
 simp only[Nat.zero_add,Nat.sub_zero]
 by_cases hi:i<p
 ·rw[if_pos (by simp;omega),if_pos (by omega),getElem?_append_old (by omega)]
 ·rw[if_neg (by simp;omega),if_neg (by omega)]
section
variable {sh gd:_root_.Go.Loc→Prop} {mu:Addr} {t u:Trace} {own:_root_.Go.Loc→Option Nat} {act:Nat→Prop}
theorem uw {act:Nat→Prop} {i:Nat} (h:(∀g,act g→Knows t g i)∨∃p y,t[p]? = some y∧y.act=.mark (.releaseMerge mu)∧t.heard p∧Knows (t.extract 0 p) y.g i) (u:Trace):(∀g,act g→Knows (t++u) g i)∨∃p y,(t++u)[p]? = some y∧y.act=.mark (.releaseMerge mu)∧(t++u).heard p∧Knows ((t++u).extract 0 p) y.g i:=by
 rcases h with h | ⟨p,y,h1,h2,h3,h4⟩
 ·exact .inl fun g hg=>(h g hg).app u
 ·have hp:=lt_size_of_getElem? h1
  exact .inr ⟨p,y,by rw[getElem?_append_old hp];exact h1,h2,fP h3,by rw[fA (Nat.le_of_lt hp)];exact h4⟩
theorem TK.step {g:Nat} (hsg:∀l,gd l→¬sh l) (h:TK sh gd mu t own act) (hg:act g) (ho:∀l,sh l→own l=none) (hu:∀op ∈ u,Az sh gd own g op):TK sh gd mu (t++u) own act:=by
 refine ⟨fun said=>noRace_append (h.clean said) (fun op hop=>(hu op hop).1) fun i a ha op hop b hb hc=>?_,fun l g' hl=>?_,fun l hl hn hgd g' hg' i a ha hal haw=>?_,fun i x a hx ha hs=>?_,fun i a ha hga hoa=>?_⟩
 ·rcases (hu op hop).2 b hb with ⟨h1,h2,h3⟩ | ⟨h0,h1 | ⟨h1,h1',h2⟩⟩
  ·obtain ⟨x,hx,hxa⟩:=touch_of ha
   rcases h.shn i x a hx hxa (by rw[hc.1];exact h1) with ⟨k1,k2⟩ | k
   ·rcases hc.2.2.2 with h4 | h4 | ⟨_,h4,h5⟩
    ·exact absurd h4 k1
    ·exact absurd h4 h2
    ·have:=knows_own hx
     rw[k2 h4,←h3 h5] at this
     exact this
   ·exact k g hg
  ·exact h.mine b.loc g h1 i a ha hc.1
  ·rcases hc.2.2.1 with h3 | h3
   ·exact h.read b.loc h1 h0 h1' g hg i a ha hc.1 h3
   ·rw[h2] at h3;cases h3
 ·refine (h.mine l g' hl).app fun op hop b hb e=>?_
  rcases (hu op hop).2 b hb with ⟨h1,_⟩ | ⟨_,h1 | ⟨h1,_⟩⟩
  ·rw[e] at h1
   rw[ho l h1] at hl;cases hl
  ·rw[e,hl] at h1
   cases h1
   exact (hu op hop).1
  ·rw[e,hl] at h1;cases h1
 ·obtain ⟨x,hx,hxa⟩:=touch_of ha
  rcases getElem?_append_cases hx with ⟨hi,hx'⟩ | ⟨_,hxu⟩
  ·exact (h.read l hl hn hgd g' hg' i a (by rw[touchAt_of hx'];exact hxa) hal haw).app u
  ·rcases (hu x hxu).2 a hxa with ⟨h1,_⟩ | ⟨_,h1 | ⟨_,_,h2⟩⟩
   ·rw[hal] at h1;exact absurd h1 hn
   ·rw[hal,hl] at h1;cases h1
   ·rw[h2] at haw;cases haw
 ·rcases getElem?_append_cases hx with ⟨_,hx'⟩ | ⟨_,hxu⟩
  ·rcases h.shn i x a hx' ha hs with k | k
   ·exact .inl k
   ·exact .inr fun g hg=>(k g hg).app u
  ·rcases (hu x hxu).2 a ha with ⟨_,h2,h3⟩ | ⟨h1,_⟩
   ·exact .inl ⟨h2,fun e=>by rw[(hu x hxu).1];exact h3 e⟩
   ·exact absurd hs h1
 ·obtain ⟨x,hx,hxa⟩:=touch_of ha
  rcases getElem?_append_cases hx with ⟨_,hx'⟩ | ⟨_,hxu⟩
  ·exact uw (h.gdn i a (by rw[touchAt_of hx'];exact hxa) hga hoa) u
  ·rcases (hu x hxu).2 a hxa with ⟨h1,h2,_⟩ | ⟨_,h1 | ⟨_,h1,_⟩⟩
   ·exact absurd h1 (hsg _ hga)
   ·rw[hoa] at h1;cases h1
   ·exact absurd hga h1
theorem TK.mute (h:TK sh gd mu t own act) (hn:∀op ∈ u,op.act.touch? = none):TK sh gd mu (t++u) own act:=by
 refine ⟨fun said=>lO (h.clean said) hn,fun l g' hl=>(h.mine l g' hl).app fun op hop b hb _=>(by rw[hn op hop] at hb;cases hb),fun l hl hs hgd g' hg' i a ha hal haw=>?_,fun i x a hx ha hs=>?_,fun i a ha hga hoa=>?_⟩
 ·obtain ⟨x,hx,hxa⟩:=touch_of ha
  exact (h.read l hl hs hgd g' hg' i a (by rw[touchAt_of (aX hn hx hxa)];exact hxa) hal haw).app u
 ·rcases h.shn i x a (aX hn hx ha) ha hs with k | k
  ·exact .inl k
  ·exact .inr fun g hg=>(k g hg).app u
 ·obtain ⟨x,hx,hxa⟩:=touch_of ha
  exact uw (h.gdn i a (by rw[touchAt_of (aX hn hx hxa)];exact hxa) hga hoa) u
theorem TK.kq {own':_root_.Go.Loc→Option Nat} (h:TK sh gd mu t own act) (hm:∀l g,own' l=some g→own l=some g∨(∀i a,touchAt t i=some a→a.loc≠l)∨Perm t g l) (hr:∀l,own' l=none→own l=none∨∀i a,touchAt t i=some a→a.loc≠l):TK sh gd mu t own' act:=by
 refine ⟨h.clean,fun l g hl=>?_,fun l hl hs hgd g hg i a ha hal haw=>?_,h.shn,fun i a ha hga hoa=>?_⟩
 ·rcases hm l g hl with h1 | h1 | h1
  ·exact h.mine l g h1
  ·exact fun i a ha hal=>absurd hal (h1 i a ha)
  ·exact h1
 ·rcases hr l hl with h1 | h1
  ·exact h.read l h1 hs hgd g hg i a ha hal haw
  ·exact absurd hal (h1 i a ha)
 ·rcases hr a.loc hoa with h1 | h1
  ·exact h.gdn i a ha hga h1
  ·exact absurd rfl (h1 i a ha)
theorem Knows.AJ {g g' i p q:Nat} {x y:MemOp} (h:Knows (t.extract 0 p) g i) (hx:t[p]? = some x) (hg:x.g=g) (hy:t[q]? = some y) (hg':y.g=g') (hn:Notices t p q) (h1:t.heard p) (h2:t.heard q):Knows t g' i:=by
 have hp:p<t.size:=lt_size_of_getElem? hx
 obtain ⟨j,z,hz,hzg,hb⟩:=h
 have hjp:j<p:=by
  have:=lt_size_of_getElem? hz
  simp at this
  omega
 have e:t.extract 0 p++t.extract p t.size=t:=by simp;omega
 have hz':t[j]? = some z:=by
  have:=getElem?_append_old (u:=t.extract p t.size) (lt_size_of_getElem? hz)
  rw[e] at this
  rw[this]
  exact hz
 have hb':Before t i j:=by
  have:=hb.app (t.extract p t.size)
  rw[e] at this
  exact this
 refine ⟨q,y,hy,hg',.inr ?_⟩
 have k1:HappensBefore t j p:=hb_po hjp hz' hx (hzg.trans hg.symm)
 have k2:HappensBefore t p q:=Relation.TransGen.single (.inr ⟨hn,h1,h2⟩)
 exact (hb'.hb k1).trans k2
theorem TK.lock {own':_root_.Go.Loc→Option Nat} {g:Nat} {y:MemOp} (h:TK sh gd mu t own act) (hg:act g) (hy:y.g=g∧y.act=.mark (.acquire mu)) (hd:Deaf t g=0) (hnor:∀(j:Nat) (x:MemOp),t[j]? = some x→eL x.act≠true) (h0:∀l,gd l→own l=none) (h1:∀l,gd l→own' l=some g) (h2:∀l,¬gd l→own' l=own l):TK sh gd mu (t++#[y]) own' act:=by
 have hn:∀op ∈ (#[y]:Trace),op.act.touch? = none:=fun op hop=>by
  simp at hop
  rw[hop,hy.2];rfl
 have hm:=h.mute hn
 have hq:(t++#[y])[t.size]? = some y:=by simp
 have hh:(t++#[y]).heard t.size:=⟨g,by simp[Trace.g?,hy.1],by rw[deaf_old (Nat.le_refl _)];exact hd⟩
 refine ⟨hm.clean,fun l g' hl=>?_,fun l hl hs hgd=>?_,hm.shn,fun i a ha hga hoa=>?_⟩
 ·by_cases hgl:gd l
  ·rw[h1 l hgl] at hl
   cases hl
   intro i a ha hal
   obtain ⟨x,hx,hxa⟩:=touch_of ha
   have hx':=aX hn hx hxa
   rcases h.gdn i a (by rw[touchAt_of hx'];exact hxa) (by rw[hal];exact hgl) (by rw[hal];exact h0 l hgl) with k | ⟨p,z,k1,k2,k3,k4⟩
   ·exact (k g hg).app _
   ·have hpl:=lt_size_of_getElem? k1
    have k1':(t++#[y])[p]? = some z:=by rw[getElem?_append_old hpl];exact k1
    refine Knows.AJ (g:=z.g) (p:=p) (q:=t.size) (by rw[fA (Nat.le_of_lt hpl)];exact k4) k1' rfl hq hy.1 (.marked (a:=mu) hpl (.inr (by rw[act?_of k1',k2])) (by rw[act?_of hq,hy.2]) fun k ka kb e=>?_) (fP k3) hh
    cases hk:t[k]? with
    | none=>exact absurd (Array.getElem?_eq_none_iff.1 hk) (by omega)
    | some z' =>
     have hk':(t++#[y])[k]? = some z':=by rw[getElem?_append_old kb];exact hk
     rw[act?_of hk'] at e
     exact hnor k z' hk (by rw[Option.some.inj e];rfl)
  ·rw[h2 l hgl] at hl
   exact hm.mine l g' hl
 ·rw[h2 l hgd] at hl
  exact hm.read l hl hs hgd
 ·rw[h1 _ hga] at hoa
  cases hoa
theorem TK.unlock {own':_root_.Go.Loc→Option Nat} {g:Nat} {y:MemOp} (h:TK sh gd mu t own act) (hy:y.g=g∧y.act=.mark (.releaseMerge mu)) (hd:Deaf t g=0) (h1:∀l,gd l→own l=some g) (h2:∀l,¬gd l→own' l=own l) (h3:∀l,gd l→own' l=none):TK sh gd mu (t++#[y]) own' act:=by
 have hn:∀op ∈ (#[y]:Trace),op.act.touch? = none:=fun op hop=>by
  simp at hop
  rw[hop,hy.2];rfl
 have hm:=h.mute hn
 have hq:(t++#[y])[t.size]? = some y:=by simp
 have hh:(t++#[y]).heard t.size:=⟨g,by simp[Trace.g?,hy.1],by rw[deaf_old (Nat.le_refl _)];exact hd⟩
 refine ⟨hm.clean,fun l g' hl=>?_,fun l hl hs hgd=>?_,hm.shn,fun i a ha hga hoa=>.inr ⟨t.size,y,hq,hy.2,hh,?_⟩⟩
 ·by_cases hgl:gd l
  ·rw[h3 l hgl] at hl;cases hl
  ·rw[h2 l hgl] at hl
   exact hm.mine l g' hl
 ·rw[h2 l hgd] at hl
  exact hm.read l hl hs hgd
 ·obtain ⟨x,hx,hxa⟩:=touch_of ha
  have hx':=aX hn hx hxa
  rw[fA (Nat.le_refl _),show t.extract 0 t.size=t by simp,hy.1]
  exact h.mine a.loc g (h1 _ hga) i a (by rw[touchAt_of hx'];exact hxa) rfl
end
section
variable {P:Program} {c:Cst} {Sn:Nat→Prop}
def shL (Sn:Nat→Prop) (c:Cst):_root_.Go.Loc→Prop
 | .cell ad=>Sn ad.block∨(ad.block=c.Fd∧ad.off<2)
 | l=>snL Sn l
def gdL (c:Cst):_root_.Go.Loc→Prop
 | .cell ad=>ad.block=c.Fd∧2≤ad.off
 | _=>False
theorem yB {l:_root_.Go.Loc} (h:snL Sn l):shL Sn c l:=by
 cases l with
 | cell a=>exact .inl h
 | _=>exact h
def bV (c:Cst) (ow:Option Nat) (blk:Nat→Option Nat):_root_.Go.Loc→Option Nat
 | .cell ad=>if ad.block=c.Fd then (if 2≤ad.off then ow else none) else if ad.block<c.N1 then none else blk ad.block
 | .obj q=>if q<c.N1 then none else blk q
 | _=>none
theorem Bm {ow:Option Nat} {blk:Nat→Option Nat} (hSn:∀b,Sn b→b<c.N1∧b≠c.Fd):∀l,shL Sn c l→bV c ow blk l=none:=fun l hl=>by
 cases l with
 | cell a =>
  rcases hl with h | ⟨h1,h2⟩
  ·have:=hSn _ h
   simp only[bV,if_neg this.2,if_pos this.1]
  ·simp only[bV,if_pos h1,if_neg (Nat.not_le.2 h2)]
 | obj q=>have:=hSn _ hl;simp only[bV,if_pos this.1]
 | _=>rfl
theorem Ay (hSn:∀b,Sn b→b<c.N1∧b≠c.Fd) {l:_root_.Go.Loc} (h:gdL c l):¬shL Sn c l:=fun hs=>by
 cases l with
 | cell a =>
  rcases hs with h1 | ⟨_,h2⟩
  ·exact (hSn _ h1).2 h.1
  ·have:=h.2;omega
 | _=>exact h
def tD (c:Cst) (t:Trace) (i j:Nat):Prop:=∃p y,j<p∧t[p]? = some y∧y.g=i∧y.act=.mark (.releaseMerge (stA c.C2))∧t.heard p
structure Tr3 (c:Cst) (Sn:Nat→Prop) (zs:Nat→YW P) (top:Nat) (ow:Option Nat) (blk:Nat→Option Nat) (size:Nat) (t:Trace):Prop where
 ti:TK (shL Sn c) (gdL c) (gZ c) t (bV c ow blk) (fun i=>i=0∨(c.S0≤i∧i<top))
 low:∀j a,touchAt t j=some a→eW size a.loc
 kn:∀(j:Nat) (x:MemOp) (a:Touch),t[j]? = some x→x.act.touch? = some a→Cn Sn t j a→Knows t 0 j∨(c.S0≤x.g∧x.g<top∧(told (zs x.g)→tD c t x.g j))
 nor:∀(j:Nat) (x:MemOp),t[j]? = some x→eL x.act≠true
 sn:∀(i:Nat) (x:MemOp) (a:Touch),t[i]? = some x→x.act.touch? = some a→snL Sn a.loc→a.kind≠.plain∧(a.kind=.said→x.g=0)
variable {zs zs':Nat→YW P} {top:Nat} {ow ow':Option Nat} {blk:Nat→Option Nat} {size size':Nat} {t u:Trace}
theorem tD.app {i j:Nat} (h:tD c t i j) (u:Trace):tD c (t++u) i j:=by
 obtain ⟨p,y,h1,h2,h3,h4,h5⟩:=h
 exact ⟨p,y,h1,by rw[getElem?_append_old (lt_size_of_getElem? h2)];exact h2,h3,h4,fP h5⟩
theorem Tr3.own {i:Nat} (h:Tr3 c Sn zs top ow blk size t) (hSn:∀b,Sn b→b<c.N1∧b≠c.Fd) (hi:i=0∨(c.S0≤i∧i<top)) (hu:∀op ∈ u,Az (shL Sn c) (gdL c) (bV c ow blk) i op) (hs:size≤size') (hl:∀op ∈ u,∀b,op.act.touch? = some b→eW size' b.loc)
  (hr:∀op ∈ u,eL op.act≠true) (hz:∀j,told (zs' j)→told (zs j)) (hzi:(∀j x b,t.size≤j→(t++u)[j]? = some x→x.act.touch? = some b→¬Cn Sn (t++u) j b)∨i=0∨¬told (zs' i)):Tr3 c Sn zs' top ow blk size' (t++u):=by
 refine ⟨TK.step (fun _ h=>Ay hSn h) h.ti hi (Bm hSn) hu,fun j a ha=>?_,fun j x a hx ha hn=>?_,fun j x hx=>?_,fun j x a hx ha hs=>?_⟩
 ·obtain ⟨x,hx,hxa⟩:=touch_of ha
  rcases getElem?_append_cases hx with ⟨_,hx'⟩ | ⟨_,hxu⟩
  ·exact ir hs (h.low j a (by rw[touchAt_of hx'];exact hxa))
  ·exact hl x hxu a hxa
 ·rcases getElem?_append_cases hx with ⟨_,hx'⟩ | ⟨hge,hxu⟩
  ·rcases h.kn j x a hx' ha (hn.old (lt_size_of_getElem? hx')) with h1 | ⟨h1,h2,h3⟩
   ·exact .inl (h1.app u)
   ·exact .inr ⟨h1,h2,fun e=>(h3 (hz _ e)).app u⟩
  ·have hxg:=(hu x hxu).1
   rcases hzi with h4 | h4 | h4
   ·exact absurd hn (h4 j x a hge hx ha)
   ·have:=knows_own hx
    rw[hxg,h4] at this
    exact .inl this
   ·rcases hi with h5 | ⟨h5,h6⟩
    ·have:=knows_own hx
     rw[hxg,h5] at this
     exact .inl this
    ·rw[hxg];exact .inr ⟨h5,h6,fun e=>absurd e h4⟩
 ·rcases getElem?_append_cases hx with ⟨_,hx'⟩ | ⟨_,hxu⟩
  ·exact h.nor j x hx'
  ·exact hr x hxu
 ·rcases getElem?_append_cases hx with ⟨_,hx'⟩ | ⟨_,hxu⟩
  ·exact h.sn j x a hx' ha hs
  ·have hsl:shL Sn c a.loc:=yB hs
   rcases (hu x hxu).2 a ha with ⟨_,h2,h3⟩ | ⟨h1,_⟩
   ·exact ⟨h2,fun e=>by rw[(hu x hxu).1];exact h3 e⟩
   ·exact absurd hsl h1
theorem Tr3.mute (h:Tr3 c Sn zs top ow blk size t) (hn:∀op ∈ u,op.act.touch? = none) (hr:∀op ∈ u,eL op.act≠true) (hs:size≤size') (hz:∀j,told (zs' j)→told (zs j)):Tr3 c Sn zs' top ow blk size' (t++u):=by
 refine ⟨h.ti.mute hn,fun j a ha=>?_,fun j x a hx ha hs=>?_,fun j x hx=>?_,fun j x a hx ha hs=>?_⟩
 ·obtain ⟨x,hx,hxa⟩:=touch_of ha
  exact ir hs (h.low j a (by rw[touchAt_of (aX hn hx hxa)];exact hxa))
 ·rcases h.kn j x a (aX hn hx ha) ha (hs.old (lt_size_of_getElem? (aX hn hx ha))) with h1 | ⟨h1,h2,h3⟩
  ·exact .inl (h1.app u)
  ·exact .inr ⟨h1,h2,fun e=>(h3 (hz _ e)).app u⟩
 ·rcases getElem?_append_cases hx with ⟨_,hx'⟩ | ⟨_,hxu⟩
  ·exact h.nor j x hx'
  ·exact hr x hxu
 ·exact h.sn j x a (aX hn hx ha) ha hs
theorem Tr3.rel {i:Nat} {y:MemOp} (h:Tr3 c Sn zs top ow blk size t) (hy:y.g=i∧y.act=.mark (.releaseMerge (stA c.C2))) (hd:Deaf t i=0) (hz:∀j,j≠i→told (zs' j)→told (zs j)):Tr3 c Sn zs' top ow blk size (t++#[y]):=by
 have hn:∀op ∈ (#[y]:Trace),op.act.touch? = none:=fun op hop=>by
  simp at hop
  rw[hop,hy.2];rfl
 have hp:(t++#[y])[t.size]? = some y:=by simp
 have hh:(t++#[y]).heard t.size:=⟨i,by simp[Trace.g?,hy.1],by rw[deaf_old (Nat.le_refl _)];exact hd⟩
 refine ⟨h.ti.mute hn,fun j a ha=>?_,fun j x a hx ha hs=>?_,fun j x hx=>?_,fun j x a hx ha hs=>?_⟩
 ·obtain ⟨x,hx,hxa⟩:=touch_of ha
  exact h.low j a (by rw[touchAt_of (aX hn hx hxa)];exact hxa)
 ·have hx':=aX hn hx ha
  rcases h.kn j x a hx' ha (hs.old (lt_size_of_getElem? hx')) with h1 | ⟨h1,h2,h3⟩
  ·exact .inl (h1.app _)
  ·refine .inr ⟨h1,h2,fun e=>?_⟩
   by_cases ei:x.g=i
   ·exact ⟨t.size,y,lt_size_of_getElem? hx',hp,hy.1.trans ei.symm,hy.2,hh⟩
   ·exact (h3 (hz _ ei e)).app _
 ·rcases getElem?_append_cases hx with ⟨_,hx'⟩ | ⟨_,hxu⟩
  ·exact h.nor j x hx'
  ·simp at hxu
   rw[hxu,hy.2]
   exact fun e=>by cases e
 ·exact h.sn j x a (aX hn hx ha) ha hs
theorem Tr3.acq {y:MemOp} (h:Tr3 c Sn zs top ow blk size t) (hy:y.g=0∧y.act=.mark (.acquire (stA c.C2))) (hd:Deaf t 0=0) (ht:∀i,c.S0≤i→i<top→told (zs i)):Tr3 c Sn zs top ow blk size (t++#[y])∧∀(j:Nat) (x:MemOp) (a:Touch),(t++#[y])[j]? = some x→x.act.touch? = some a→Cn Sn (t++#[y]) j a→Knows (t++#[y]) 0 j:=by
 have hn:∀op ∈ (#[y]:Trace),op.act.touch? = none:=fun op hop=>by
  simp at hop
  rw[hop,hy.2];rfl
 refine ⟨h.mute hn (fun op hop=>by simp at hop;rw[hop,hy.2];exact fun e=>by cases e) (Nat.le_refl _) fun _ e=>e,fun j x a hx ha hs=>?_⟩
 have hx':=aX hn hx ha
 rcases h.kn j x a hx' ha (hs.old (lt_size_of_getElem? hx')) with h1 | ⟨h1,h2,h3⟩
 ·exact h1.app _
 ·obtain ⟨p,z,k1,k2,k3,k4,k5⟩:=h3 (ht _ h1 h2)
  have hq:(t++#[y])[t.size]? = some y:=by simp
  have hpl:=lt_size_of_getElem? k2
  have k2':(t++#[y])[p]? = some z:=by rw[getElem?_append_old hpl];exact k2
  refine Knows.AJ (g:=x.g) (p:=p) (q:=t.size) ?_ k2' k3 hq hy.1 (.marked (a:=stA c.C2) hpl (.inr (by rw[act?_of k2',k4])) (by rw[act?_of hq,hy.2]) fun k ka kb e=>?_) (fP k5) ⟨0,by simp[Trace.g?,hy.1],by rw[deaf_old (Nat.le_refl _)];exact hd⟩
  ·have e1:((t++#[y]).extract 0 p)[j]? = some x:=by
    rw[Array.getElem?_extract]
    simp only[Nat.zero_add]
    rw[if_pos (by simp;omega)]
    exact hx
   exact knows_own e1
  ·have hkl:k<t.size:=kb
   cases hk:t[k]? with
   | none=>exact absurd (Array.getElem?_eq_none_iff.1 hk) (by omega)
   | some z' =>
    have hk':(t++#[y])[k]? = some z':=by rw[getElem?_append_old hkl];exact hk
    rw[act?_of hk'] at e
    exact h.nor k z' hk (by rw[Option.some.inj e];rfl)
end
end Cs
end Go.Proofs.Ytpdemelchhkfaaa
