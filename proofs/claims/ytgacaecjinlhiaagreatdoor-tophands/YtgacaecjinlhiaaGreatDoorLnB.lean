import Derived.Test.YtgacaecjinlhiaaGreatDoorJn38
namespace Go.Proofs.YtgacaecjinlhiaaGreatDoor
namespace Nm
open Go Go.Conc
class NM {α:Type} (P:Program) (s:Sem α):Prop where
 nm:NMp P s fun _=>True
theorem Co {α β:Type} {P:Program} {s:Sem α} {f:α→Sem β} {Q:α→Prop} {R:β→Prop} (h:NMp P s Q) (hf:∀a,Q a→NMp P (f a) R):NMp P (s >>= f) R:=by
 show NMp P (s.bind f) R
 induction s with
 | pure a=>exact hf a h
 | load m a k ih=>exact fun v=>ih v (h v)
 | store m a v k ih=>exact ih h
 | new o k ih=>exact fun v=>ih v (h v)
 | shape r k ih=>exact fun v=>ih v (h v)
 | freeze a n k ih=>exact ih h
 | frozen a k ih=>exact fun v=>ih v (h v)
 | getObj r k ih=>exact fun v=>ih v (h v)
 | setObj r o k ih=>exact ih h
 | choose q k ih=>exact fun v=>ih v (h v)
 | sys c k ih=>exact fun v=>ih v (h v)
 | program k ih=>exact ih P h
 | mark m k ih=>exact ⟨h.1,ih h.2⟩
 | halt h=>trivial
section
variable {P:Program}
theorem bE {α β:Type} {s:Sem α} {f:α→Sem β} (h:NM P s) (hf:∀a,NM P (f a)):NM P (s >>= f):=⟨Co h.nm fun a _=>(hf a).nm⟩
instance {α β:Type} {s:Sem α} {f:α→Sem β} [h:NM P s] [hf:∀a,NM P (f a)]:NM P (s >>= f):=bE h hf
instance {α:Type} (a:α):NM P (pure a:Sem α):=⟨trivial⟩
instance {α:Type} (h:Halt):NM P (.halt h:Sem α):=⟨trivial⟩
instance {α β:Type} {s:Sem α} {f:α→β} [h:NM P s]:NM P (f <$> s):=bE h fun _=>⟨trivial⟩
instance {α:Type} {c:Prop} [Decidable c] {s t:Sem α} [h:NM P s] [k:NM P t]:NM P (if c then s else t):=by split <;> assumption
theorem dW {α:Type} {c:Prop} [Decidable c] {s t:Sem α} (h:NM P s) (k:NM P t):NM P (if c then s else t):=by split <;> assumption
theorem oV {α β:Type} {f:α→Sem β} (h:∀a,NM P (f a)):∀(l:List α),NM P (l.mapM f)
 | []=>⟨trivial⟩
 | a :: l=>by
  rw[List.mapM_cons]
  exact bE (h a) fun _=>bE (oV h l) fun _=>⟨trivial⟩
instance {α β:Type} {f:α→Sem β} [h:∀a,NM P (f a)] (l:List α):NM P (l.mapM f):=oV h l
instance {α β:Type} {f:α→Sem β} [h:∀a,NM P (f a)] (l:Array α):NM P (l.mapM f):=by
 rw[Array.mapM_eq_mapM_toList]
 exact bE (oV h _) fun _=>⟨trivial⟩
theorem sJ {α β:Type} {f:β→α→Sem β} (h:∀b a,NM P (f b a)):∀(l:List α) (b:β),NM P (l.foldlM f b)
 | [],_=>⟨trivial⟩
 | a :: l,b=>by
  rw[List.foldlM_cons]
  exact bE (h b a) fun _=>sJ h l _
instance {α β:Type} {f:β→α→Sem β} [h:∀b a,NM P (f b a)] (l:List α) (b:β):NM P (l.foldlM f b):=sJ h l b
theorem lD {α β:Type} {f:α→β→Sem (ForInStep β)} (h:∀a b,NM P (f a b)):∀(l:List α) (b:β),NM P (forIn l b f)
 | [],_=>by
  rw[List.forIn_nil]
  exact ⟨trivial⟩
 | a :: l,b=>by
  rw[List.forIn_cons]
  refine bE (h a b) fun r=>?_
  cases r with
  | done b=>exact ⟨trivial⟩
  | yield b=>exact lD h l b
theorem sA {α β:Type}:∀(l:List α) (b:β) {f:(a:α)→a ∈ l→β→Sem (ForInStep β)} (_:∀a h b,NM P (f a h b)),NM P (forIn' l b f)
 | [],_,_,_=>by
  rw[List.forIn'_nil]
  exact ⟨trivial⟩
 | a :: l,b,f,h=>by
  rw[List.forIn'_cons]
  refine bE (h a _ b) fun r=>?_
  cases r with
  | done b=>exact ⟨trivial⟩
  | yield b=>exact sA l b fun _ _ _=>h _ _ _
instance {α β:Type} {f:α→β→Sem (ForInStep β)} [h:∀a b,NM P (f a b)] (l:List α) (b:β):NM P (forIn l b f):=lD h l b
theorem c7 {α β:Type} {f:α→β→Sem (ForInStep β)} (h:∀a b,NM P (f a b)) (l:Array α) (b:β):NM P (forIn l b f):=by
 rw[←Array.forIn_toList]
 exact lD h _ _
theorem de {β:Type} {f:Nat→β→Sem (ForInStep β)} (h:∀a b,NM P (f a b)) (l:Std.Legacy.Range) (b:β):NM P (forIn l b f):=by
 rw[Std.Legacy.Range.forIn_eq_forIn_range']
 exact lD h _ _
theorem CX {β:Type} (l:Std.Legacy.Range) (b:β) {f:(a:Nat)→a ∈ l→β→Sem (ForInStep β)} (h:∀a m b,NM P (f a m b)):NM P (forIn' l b f):=by
 rw[Std.Legacy.Range.forIn'_eq_forIn'_range']
 exact sA _ _ fun _ _ _=>h _ _ _
theorem nmx {α:Type} {s:Sem α} (h:NM P s:=by repeat' (first | infer_instance | (refine bE ?_ fun _=>?_) | (refine dW ?_ ?_) | (refine c7 (fun _ _=>?_) _ _) | (refine de (fun _ _=>?_) _ _) | (refine CX _ _ fun _ _ _=>?_) | split | dsimp only)):NM P s:=h
instance (a:Addr) (m:Mode):NM P (Go.load a m):=⟨fun _=>trivial⟩
instance (a:Addr) (v:Value) (m:Mode):NM P (Go.store a v m):=⟨trivial⟩
instance (o:Obj):NM P (Go.newObj o):=⟨fun _=>trivial⟩
instance (r:Nat):NM P (Go.shape r):=⟨fun _=>trivial⟩
instance (a:Addr) (n:Nat):NM P (Go.freeze a n):=⟨trivial⟩
instance (a:Addr):NM P (Go.frozen a):=⟨fun _=>trivial⟩
instance (r:Nat):NM P (Go.getObj r):=⟨fun _=>trivial⟩
instance (r:Nat) (o:Obj):NM P (Go.setObj r o):=⟨trivial⟩
instance (q:Question):NM P (Go.choose q):=⟨fun _=>trivial⟩
instance (c:Sys):NM P (Go.sys c):=⟨fun _=>trivial⟩
instance (fd:Nat) (b:ByteArray):NM P (Go.writeFd fd b):=⟨fun r=>by
 dsimp only
 split <;> trivial⟩
instance :NM P (Go.program):=⟨trivial⟩
instance:NM P (Go.mark .noRoom):=⟨⟨.inl rfl,trivial⟩⟩
instance (n:Nat):NM P (Go.askRoom n):=by
 unfold Go.askRoom
 split
 ·exact ⟨⟨.inl rfl,trivial⟩⟩
 ·exact ⟨trivial⟩
instance {α:Type} (why:String):NM P (@Go.stuck α why):=by
 unfold Go.stuck
 exact nmx
instance {α:Type} (u:Unsupported):NM P (@Go.unsupported α u):=by
 unfold Go.unsupported
 exact nmx
instance {α:Type} (v:Value):NM P (@Go.goPanic α v):=by
 unfold Go.goPanic
 exact nmx
instance {α:Type} (msg:String):NM P (@Go.fatal α msg):=by
 unfold Go.fatal
 exact nmx
instance {α:Type} (msg:String):NM P (@Go.throw α msg):=by
 unfold Go.throw
 exact nmx
instance {α:Type}:NM P (@Go.blocked α):=⟨trivial⟩
instance {α:Type}:NM P (@Go.blockedOutside α):=⟨trivial⟩
instance (r:Nat):NM P (Go.viewAt r):=by
 unfold Go.viewAt
 exact nmx
instance (r:Nat):NM P (Go.numberAt r):=by
 unfold Go.numberAt
 exact nmx
instance (r:Nat):NM P (Go.cellsIn r):=by
 unfold Go.cellsIn
 exact nmx
instance (a:Addr) (lost:Bool):NM P (Go.asNumber a lost):=by
 unfold Go.asNumber
 exact nmx
instance (n:Addr):NM P (Go.behindNumber n):=by
 unfold Go.behindNumber
 exact nmx
instance (n:Addr):NM P (Go.backFromNumber n):=by
 unfold Go.backFromNumber
 exact nmx
instance (a:Addr):NM P (Go.noView a):=by
 unfold Go.noView
 exact nmx
instance (a:Addr):NM P (Go.markStringish a):=by
 unfold Go.markStringish
 exact nmx
instance (a:Addr):NM P (Go.stringish a):=by
 unfold Go.stringish
 exact nmx
instance (a b:Addr):NM P (Go.mayBeOne a b):=by
 unfold Go.mayBeOne
 exact nmx
instance (a b:Addr):NM P (Go.sameAddr a b):=by
 unfold Go.sameAddr
 exact nmx
instance (z0:Option Addr) (z1:Option Addr):NM P (Go.samePointer z0 z1):=by
 unfold Go.samePointer
 exact nmx
instance (t:TypeId):NM P (Go.typeInfo t):=by
 unfold Go.typeInfo
 exact nmx
instance (t:TypeId):NM P (Go.underlying t):=by
 unfold Go.underlying
 exact nmx
instance (name:String):NM P (Go.cutType name):=by
 unfold Go.cutType
 exact nmx
instance (name:String):NM P (Go.globalAddr name):=by
 unfold Go.globalAddr
 exact nmx
instance (t:TypeId):NM P (Go.typeStr t):=by
 unfold Go.typeStr
 exact nmx
instance (t:TypeId):NM P (Go.zeroValue t):=by
 unfold Go.zeroValue
 exact nmx
instance (t:TypeId):NM P (Go.sizeOf t):=by
 unfold Go.sizeOf
 exact nmx
instance (t:TypeId):NM P (Go.isAgg t):=by
 unfold Go.isAgg
 exact nmx
theorem C8 (a:Addr):∀(n i:Nat) (z:Array Value),NM P (loadCellsFrom a i n z)
 | 0,i,z=>by
  unfold loadCellsFrom
  infer_instance
 | n+1,i,z=>by
  unfold loadCellsFrom
  exact bE inferInstance fun _=>C8 a n _ _
instance (a:Addr) (i n:Nat) (z:Array Value):NM P (loadCellsFrom a i n z):=C8 a n i z
instance (a:Addr) (n:Nat):NM P (Go.loadCells a n):=by
 unfold Go.loadCells
 exact nmx
theorem Im (a:Addr):∀(l:List Value) (i:Nat),NM P (storeCells a l i)
 | [],i=>by
  unfold storeCells
  infer_instance
 | v :: l,i=>by
  unfold storeCells
  exact bE inferInstance fun _=>Im a l _
instance (a:Addr) (l:List Value) (i:Nat):NM P (storeCells a l i):=Im a l i
instance (t:TypeId) (a:Addr):NM P (Go.loadVar t a):=by
 unfold Go.loadVar
 exact nmx
instance (t:TypeId) (a:Addr) (v:Value):NM P (Go.storeVar t a v):=by
 unfold Go.storeVar
 exact nmx
instance (elem:TypeId) (cells:Array Value):NM P (Go.newRow elem cells):=by
 unfold Go.newRow
 exact nmx
instance (t:TypeId) (v:Value):NM P (Go.newVar t v):=by
 unfold Go.newVar
 exact nmx
instance (t:TypeId):NM P (Go.elemOf t):=by
 unfold Go.elemOf
 exact nmx
instance (t:TypeId) (cs:Array Value) (off:Nat):NM P (Go.part t cs off):=by
 unfold Go.part
 exact nmx
instance {α:Type} (msg:String):NM P (@Go.panicString α msg):=by
 unfold Go.panicString
 exact nmx
instance (name:String):NM P (Go.externState name):=by
 unfold Go.externState
 exact nmx
instance {α:Type} (e:RuntimeError):NM P (@Go.runtimePanic α e):=by
 unfold Go.runtimePanic
 exact nmx
instance {α:Type} (k:IntKind) (x y:Int) (code:BoundsCode):NM P (@Go.boundsPanic α k x y code):=by
 unfold Go.boundsPanic
 exact nmx
instance (z0:Value):NM P (Go.asIntOf z0):=by
 unfold Go.asIntOf
 exact nmx
instance (v:Value):NM P (Go.asInt v):=by
 unfold Go.asInt
 exact nmx
instance (z0:Value):NM P (Go.asBool z0):=by
 unfold Go.asBool
 exact nmx
instance (z0:Value):NM P (Go.asString z0):=by
 unfold Go.asString
 exact nmx
instance (z0:Value):NM P (Go.asAgg z0):=by
 unfold Go.asAgg
 exact nmx
instance (z0:Value):NM P (Go.asAddr z0):=by
 unfold Go.asAddr
 exact nmx
instance (a:Addr):NM P (Go.byteOf a):=by
 unfold Go.byteOf
 exact nmx
instance (base:Addr) (cells bytes:Nat):NM P (Go.partAt base cells bytes):=by
 unfold Go.partAt
 exact nmx
instance (a:Addr) (f:Field):NM P (Go.fieldPlace a f):=by
 unfold Go.fieldPlace
 exact nmx
instance (a:Addr) (u:TypeId) (n:Nat):NM P (Go.variablesAt a u n):=by
 unfold Go.variablesAt
 exact nmx
instance (k:IntKind) (a:Addr) (n:Nat):NM P (Go.intVariablesAt k a n):=by
 unfold Go.intVariablesAt
 exact nmx
instance (a:Addr) (n:Nat):NM P (Go.byteVariablesAt a n):=by
 unfold Go.byteVariablesAt
 exact nmx
theorem Ir:∀(n:Nat) (a:Addr) (z:ByteArray),NM P (loadBytes a z n)
 | 0,a,z=>by
  unfold loadBytes
  infer_instance
 | n+1,a,z=>by
  have ih:=Ir n
  unfold loadBytes
  exact nmx
instance (a:Addr) (z:ByteArray) (n:Nat):NM P (loadBytes a z n):=Ir n a z
instance (a:Addr) (b:ByteArray):NM P (Go.storeBytes a b):=by
 unfold Go.storeBytes
 exact nmx
instance (f:Value) (args:Array Value):NM P (Go.Deferred.ofValue f args):=by
 unfold Go.Deferred.ofValue
 exact nmx
instance (a b:Addr):NM P (Go.Op.twoPlaces a b):=by
 unfold Go.Op.twoPlaces
 exact nmx
instance (k:IntKind) (a b:Addr):NM P (Go.Op.addrSub k a b):=by
 unfold Go.Op.addrSub
 exact nmx
instance (op:BinOp) (a b:Addr):NM P (Go.Op.addrCmp op a b):=by
 unfold Go.Op.addrCmp
 exact nmx
instance (k:IntKind) (a:Addr) (n:Int):NM P (Go.Op.addrMod k a n):=by
 unfold Go.Op.addrMod
 exact nmx
instance (op:BinOp) (k:FloatKind) (x y:Nat):NM P (Go.Op.floatArith op k x y):=by
 unfold Go.Op.floatArith
 exact nmx
instance (op:BinOp) (k:FloatKind) (x y:Nat):NM P (Go.Op.floatCmp op k x y):=by
 unfold Go.Op.floatCmp
 exact nmx
instance (src:FloatKind) (bits:Nat) (dst:FloatKind):NM P (Go.Conv.floatToFloat src bits dst):=by
 unfold Go.Conv.floatToFloat
 exact nmx
instance (op:BinOp) (k:FloatKind) (x y:Nat):NM P (Go.Op.Complex.arith op k x y):=by
 unfold Go.Op.Complex.arith
 exact nmx
instance (op:BinOp) (k:FloatKind) (x y:Nat):NM P (Go.Op.Complex.cmp op k x y):=by
 unfold Go.Op.Complex.cmp
 exact nmx
instance (src:FloatKind) (x:Nat) (dst:FloatKind):NM P (Go.Op.Complex.conv src x dst):=by
 unfold Go.Op.Complex.conv
 exact nmx
instance (a b c d:Nat):NM P (Go.Op.Complex.product a b c d):=by
 unfold Go.Op.Complex.product
 exact nmx
instance (scale a b c d:Nat):NM P (Go.Op.Complex.corrected scale a b c d):=by
 unfold Go.Op.Complex.corrected
 exact nmx
instance (a b c d:Nat):NM P (Go.Op.Complex.quotient a b c d):=by
 unfold Go.Op.Complex.quotient
 exact nmx
instance (op:BinOp) (k:FloatKind) (xr xi yr yi:Nat):NM P (Go.Op.complexOp op k xr xi yr yi):=by
 unfold Go.Op.complexOp
 exact nmx
theorem Ig:∀(n:Nat) (t:TypeId) (x y:Value),NM P (Op.equalIn n t x y)
 | 0,t,x,y=>by
  unfold Op.equalIn
  exact nmx
 | n+1,t,x,y=>by
  have ih:∀t x y,NM P (Op.equalIn n t x y):=Ig n
  unfold Op.equalIn
  exact nmx
instance (n:Nat) (t:TypeId) (x y:Value):NM P (Op.equalIn n t x y):=Ig n t x y
instance (t:TypeId) (x y:Value):NM P (Go.Op.equal t x y):=by
 unfold Go.Op.equal
 exact nmx
theorem H8:∀(n:Nat) (t:TypeId) (x y:Value),NM P (Op.eqGuardIn n t x y)
 | 0,t,x,y=>by
  unfold Op.eqGuardIn
  exact nmx
 | n+1,t,x,y=>by
  have ih:∀t x y,NM P (Op.eqGuardIn n t x y):=H8 n
  unfold Op.eqGuardIn
  exact nmx
instance (n:Nat) (t:TypeId) (x y:Value):NM P (Op.eqGuardIn n t x y):=H8 n t x y
instance (op:BinOp) (k:IntKind) (x y:Int):NM P (Go.Op.intArith op k x y):=by
 unfold Go.Op.intArith
 exact nmx
instance (op:BinOp) (k:IntKind) (x y:Int):NM P (Go.Op.intBits op k x y):=by
 unfold Go.Op.intBits
 exact nmx
instance (op:BinOp) (x y:Int):NM P (Go.Op.intCmp op x y):=by
 unfold Go.Op.intCmp
 exact nmx
instance (op:BinOp) (k:IntKind) (x y:Int):NM P (Go.Op.intDiv op k x y):=by
 unfold Go.Op.intDiv
 exact nmx
instance (op:BinOp) (k:IntKind) (x:Int) (_yk:IntKind) (y:Int):NM P (Go.Op.shift op k x _yk y):=by
 unfold Go.Op.shift
 exact nmx
instance (op:BinOp) (x y:ByteArray):NM P (Go.Op.stringOp op x y):=by
 unfold Go.Op.stringOp
 exact nmx
instance (op:UnOp) (x:Value):NM P (Go.Op.unary op x):=by
 unfold Go.Op.unary
 exact nmx
instance (x:Value):NM P (Go.Conv.bytesToString x):=by
 unfold Go.Conv.bytesToString
 exact nmx
instance (src:FloatKind) (re im:Nat) (dst:FloatKind):NM P (Go.Conv.complexToComplex src re im dst):=by
 unfold Go.Conv.complexToComplex
 exact nmx
instance (src:FloatKind) (bits:Nat) (dst:IntKind):NM P (Go.Conv.floatToInt src bits dst):=by
 unfold Go.Conv.floatToInt
 exact nmx
instance (dst:FloatKind) (n:Int):NM P (Go.Conv.intToFloat dst n):=by
 unfold Go.Conv.intToFloat
 exact nmx
instance (dst:IntKind) (n:Int):NM P (Go.Conv.intToInt dst n):=by
 unfold Go.Conv.intToInt
 exact nmx
instance (n:Int):NM P (Go.Conv.intToString n):=by
 unfold Go.Conv.intToString
 exact nmx
instance (x:Value):NM P (Go.Conv.runesToString x):=by
 unfold Go.Conv.runesToString
 exact nmx
instance (elem:TypeId) (s:ByteArray):NM P (Go.Conv.stringToBytes elem s):=by
 unfold Go.Conv.stringToBytes
 exact nmx
instance (elem:TypeId) (s:ByteArray):NM P (Go.Conv.stringToRunes elem s):=by
 unfold Go.Conv.stringToRunes
 exact nmx
instance (a:Addr):NM P (Go.Conv.seenAt a):=by
 unfold Go.Conv.seenAt
 exact nmx
instance (src dst:TypeId) (x:Value):NM P (Go.Conv.unsafePointer src dst x):=by
 unfold Go.Conv.unsafePointer
 exact nmx
instance (x:Value) (y:Nat) (code:BoundsCode):NM P (Go.Instr.sliceBound x y code):=by
 unfold Go.Instr.sliceBound
 exact nmx
instance (isSlice:Bool) (len cap:Nat) (low high max:Option Value):NM P (Go.Instr.sliceBounds isSlice len cap low high max):=by
 unfold Go.Instr.sliceBounds
 exact nmx
instance (xType:TypeId) (x:Value) (low high max:Option Value):NM P (Go.Instr.slice xType x low high max):=by
 unfold Go.Instr.slice
 exact nmx
instance (z0:Value):NM P (Go.Instr.sureAddr z0):=by
 unfold Go.Instr.sureAddr
 exact nmx
instance (t:TypeId) (addr:Value):NM P (Go.Instr.loadAt t addr):=by
 unfold Go.Instr.loadAt
 exact nmx
instance (t:TypeId) (addr val:Value):NM P (Go.Instr.storeAt t addr val):=by
 unfold Go.Instr.storeAt
 exact nmx
instance (s:TypeId) (addr:Value) (field:Nat):NM P (Go.Instr.fieldAt s addr field):=by
 unfold Go.Instr.fieldAt
 exact nmx
instance (t:TypeId) (x index:Value):NM P (Go.Instr.indexAt t x index):=by
 unfold Go.Instr.indexAt
 exact nmx
instance (t:TypeId) (x:Value) (low high max:Option Value):NM P (Go.Instr.sliceAt t x low high max):=by
 unfold Go.Instr.sliceAt
 exact nmx
instance (arr:TypeId) (x:Value):NM P (Go.Instr.arrayAt arr x):=by
 unfold Go.Instr.arrayAt
 exact nmx
instance (elem:TypeId) (heap:Bool) (old:Value):NM P (Go.Instr.alloc elem heap old):=by
 unfold Go.Instr.alloc
 exact nmx
instance (elem:TypeId) (v:Value):NM P (Go.Instr.box elem v):=by
 unfold Go.Instr.box
 exact nmx
instance (iter:Value):NM P (Go.Instr.entry iter):=by
 unfold Go.Instr.entry
 exact nmx
instance (tuple:Value) (index:Nat):NM P (Go.Instr.extract tuple index):=by
 unfold Go.Instr.extract
 exact nmx
instance (xType:TypeId) (x:Value) (field:Nat):NM P (Go.Instr.field xType x field):=by
 unfold Go.Instr.field
 exact nmx
instance (xType:TypeId) (x index:Value):NM P (Go.Instr.index xType x index):=by
 unfold Go.Instr.index
 exact nmx
theorem Iw (b:Bool):∀(n:Nat) (t:TypeId) (x:Value),NM P (Instr.checkKey b n t x)
 | 0,t,x=>by
  unfold Instr.checkKey
  exact nmx
 | n+1,t,x=>by
  have ih:∀t x,NM P (Instr.checkKey b n t x):=Iw b n
  unfold Instr.checkKey
  exact nmx
instance (b:Bool) (n:Nat) (t:TypeId) (x:Value):NM P (Instr.checkKey b n t x):=Iw b n t x
theorem Iu (t:TypeId) (k:Value):∀(l:List MapEntry) (i:Nat),NM P (Instr.findAsking t k l i)
 | [],i=>by
  unfold Instr.findAsking
  infer_instance
 | e :: l,i=>by
  have ih:∀i,NM P (Instr.findAsking t k l i):=Iu t k l
  unfold Instr.findAsking
  exact nmx
instance (t:TypeId) (k:Value) (l:List MapEntry) (i:Nat):NM P (Instr.findAsking t k l i):=Iu t k l i
instance (t:TypeId) (k:Value) (es:List MapEntry):NM P (Instr.findKey t k es):=by
 unfold Instr.findKey
 exact nmx
instance (xType:TypeId) (x index:Value) (commaOk:Bool):NM P (Go.Instr.lookup xType x index commaOk):=by
 unfold Go.Instr.lookup
 exact nmx
instance (t:TypeId) (size:Value):NM P (Go.Instr.makeChan t size):=by
 unfold Go.Instr.makeChan
 exact nmx
instance (fn:Fn) (first captured:Array Value):NM P (Go.Instr.makeFunc fn first captured):=by
 unfold Go.Instr.makeFunc
 exact nmx
instance (xType:TypeId) (x:Value):NM P (Go.Instr.makeInterface xType x):=by
 unfold Go.Instr.makeInterface
 exact nmx
instance (t:TypeId) (reserve:Option Value):NM P (Go.Instr.makeMap t reserve):=by
 unfold Go.Instr.makeMap
 exact nmx
instance (t:TypeId) (len cap:Value):NM P (Go.Instr.makeSlice t len cap):=by
 unfold Go.Instr.makeSlice
 exact nmx
instance (old new:Value):NM P (Go.Instr.keyThatStays old new):=by
 unfold Go.Instr.keyThatStays
 exact nmx
instance (mapType:TypeId) (map key value:Value):NM P (Go.Instr.mapUpdate mapType map key value):=by
 unfold Go.Instr.mapUpdate
 exact nmx
instance (mapType:TypeId) (map key:Value):NM P (Go.Instr.mapEntry mapType map key):=by
 unfold Go.Instr.mapEntry
 exact nmx
instance (_mapType:TypeId) (map stamp value:Value):NM P (Go.Instr.entryStore _mapType map stamp value):=by
 unfold Go.Instr.entryStore
 exact nmx
theorem lT (Q:Sem Value→Prop) (xs:Array Value) (h0:Value→ByteArray→ByteArray→Sem Value) (h1:Array Value→Sem Value) (k0:∀x y z,Q (h0 x y z)) (k1:∀x,Q (h1 x)):Q (Builtin.ssaWrapNilChk_.match_7 (fun _=>Sem Value) xs h0 h1):=by
 rcases xs with ⟨_ | ⟨a,_ | ⟨b,_ | ⟨c,_ | ⟨d,l⟩⟩⟩⟩⟩
 ·exact k1 _
 ·exact k1 _
 ·exact k1 _
 ·cases b <;> cases c <;> first | exact k0 _ _ _ | exact k1 _
 ·exact k1 _
instance (ts:Array TypeId) (t:TypeId) (xs:Array Value):NM P (Builtin.ssaWrapNilChk_ ts t xs):=by
 unfold Builtin.ssaWrapNilChk_
 refine lT (NM P) _ _ _ (fun _ _ _=>?_) (fun _=>?_) <;> exact nmx
instance (t:TypeId) (z0:Place):NM P (Go.Place.get t z0):=by
 unfold Go.Place.get
 exact nmx
theorem Ib:∀(l:List FieldStep) (t:TypeId) (x:Place),NM P (follow l t x)
 | [],t,x=>by
  unfold follow
  exact nmx
 | e :: l,t,x=>by
  have ih:∀t x,NM P (follow l t x):=Ib l
  unfold follow
  exact nmx
instance (l:List FieldStep) (t:TypeId) (x:Place):NM P (follow l t x):=Ib l t x
instance (xt:TypeId) (x:Place) (pointerReceiver:Bool) (wrapper:Option String):NM P (Go.receiverAt xt x pointerReceiver wrapper):=by
 unfold Go.receiverAt
 exact nmx
instance (t:TypeId) (v:Value) (path:Array FieldStep) (pointerReceiver:Bool):NM P (Go.receiverVia t v path pointerReceiver):=by
 unfold Go.receiverVia
 exact nmx
theorem Ie:∀(n:Nat) (t:TypeId) (v:Value) (s:String),NM P (method n t v s)
 | 0,t,v,s=>by
  unfold method
  exact nmx
 | n+1,t,v,s=>by
  have ih:∀t v s,NM P (method n t v s):=Ie n
  unfold method
  exact nmx
instance (n:Nat) (t:TypeId) (v:Value) (s:String):NM P (method n t v s):=Ie n t v s
theorem Hz:∀(l:List FieldStep) (t:TypeId) (x:Option Value),NM P (followBlind l t x)
 | [],t,x=>by
  unfold followBlind
  exact nmx
 | e :: l,t,x=>by
  have ih:∀t x,NM P (followBlind l t x):=Hz l
  unfold followBlind
  exact nmx
instance (l:List FieldStep) (t:TypeId) (x:Option Value):NM P (followBlind l t x):=Hz l t x
theorem Iq:∀(n:Nat) (t:TypeId) (v:Value) (s:String),NM P (nilAhead n t v s)
 | 0,t,v,s=>by
  unfold nilAhead
  exact nmx
 | n+1,t,v,s=>by
  have ih:∀t v s,NM P (nilAhead n t v s):=Iq n
  unfold nilAhead
  exact nmx
instance (n:Nat) (t:TypeId) (v:Value) (s:String):NM P (nilAhead n t v s):=Iq n t v s
instance (iter:Value) (isString:Bool) (_type:TypeId):NM P (Go.Instr.next iter isString _type):=by
 unfold Go.Instr.next
 exact nmx
instance :NM P (Go.Instr.panicnil):=by
 unfold Go.Instr.panicnil
 exact nmx
instance (x:Value):NM P (Go.Instr.panic x):=by
 unfold Go.Instr.panic
 exact nmx
instance (t:TypeId) (v:Value):NM P (Go.Builtin.printOne t v):=by
 unfold Go.Builtin.printOne
 exact nmx
instance (ln:Bool) (consts:Array Bool) (argTypes:Array TypeId) (args:Array Value):NM P (Go.Builtin.pieces ln consts argTypes args):=by
 unfold Go.Builtin.pieces
 exact nmx
instance (xType:TypeId) (x:Value):NM P (Go.Instr.range xType x):=by
 unfold Go.Instr.range
 exact nmx
instance (l:Nat):NM P (Go.Instr.getLoop l):=by
 unfold Go.Instr.getLoop
 exact nmx
instance (fn:FuncId) (tmps:Array Value) (params:Array Tmp) (assign body:Code) (around:Option Nat):NM P (Go.Instr.enterLoop fn tmps params assign body around):=by
 unfold Go.Instr.enterLoop
 exact nmx
instance (l:Nat):NM P (Go.Instr.beginRound l):=by
 unfold Go.Instr.beginRound
 exact nmx
instance (l:Nat) (jump:Option Code):NM P (Go.Instr.endRound l jump):=by
 unfold Go.Instr.endRound
 exact nmx
instance (l:Nat):NM P (Go.Instr.endLoop l):=by
 unfold Go.Instr.endLoop
 exact nmx
instance (l:Nat) (d:Deferred):NM P (Go.Instr.deferInRound l d):=by
 unfold Go.Instr.deferInRound
 exact nmx
instance (block:Nat):NM P (Go.Instr.takeDeferred block):=by
 unfold Go.Instr.takeDeferred
 exact nmx
instance (g:Nat):NM P (Go.Instr.waits g):=by
 unfold Go.Instr.waits
 exact nmx
instance (g:Nat):NM P (Go.Instr.ready g):=by
 unfold Go.Instr.ready
 exact nmx
instance (x:Value) (xType asserted:TypeId) (commaOk:Bool):NM P (Go.Instr.typeAssert x xType asserted commaOk):=by
 unfold Go.Instr.typeAssert
 exact nmx
instance (a:Addr) (cells:Nat):NM P (Go.Builtin.holdsCells a cells):=by
 unfold Go.Builtin.holdsCells
 exact nmx
instance (size sLen n:Nat) (base:Option Addr) (x:Value):NM P (Go.Builtin.mayShare size sLen n base x):=by
 unfold Go.Builtin.mayShare
 exact nmx
instance (z0:Value):NM P (Go.Builtin.lenOf z0):=by
 unfold Go.Builtin.lenOf
 exact nmx
instance (size n:Nat) (z0:Value):NM P (Go.Builtin.firstCells size n z0):=by
 unfold Go.Builtin.firstCells
 exact nmx
instance (argTypes:Array TypeId) (_type:TypeId) (args:Array Value):NM P (Go.Builtin.append_ argTypes _type args):=by
 unfold Go.Builtin.append_
 exact nmx
instance (argTypes:Array TypeId) (_type:TypeId) (args:Array Value):NM P (Go.Builtin.cap_ argTypes _type args):=by
 unfold Go.Builtin.cap_
 exact nmx
instance (argTypes:Array TypeId) (_type:TypeId) (args:Array Value):NM P (Go.Builtin.clear_ argTypes _type args):=by
 unfold Go.Builtin.clear_
 exact nmx
theorem Am (Q:Sem Value→Prop) (xs:Array Value) (h0:Unit→Sem Value) (h1:Nat→Sem Value) (h2:Array Value→Sem Value) (k0:Q (h0 ())) (k1:∀x,Q (h1 x)) (k2:∀x,Q (h2 x)):Q (Builtin.close_.match_2 (fun _=>Sem Value) xs h0 h1 h2):=by
 rcases xs with ⟨_ | ⟨a,_ | ⟨b,l⟩⟩⟩
 ·exact k2 _
 ·cases a with
  | chan o=>cases o <;> first | exact k0 | exact k1 _ | exact k2 _
  | _=>exact k2 _
 ·exact k2 _
instance (ts:Array TypeId) (t:TypeId) (xs:Array Value):NM P (Builtin.close_ ts t xs):=by
 unfold Builtin.close_
 refine Am (NM P) _ _ _ _ ?_ (fun _=>?_) (fun _=>?_) <;> exact nmx
theorem vu (Q:Sem Value→Prop) (xs:Array Value) (h0:FloatKind→Nat→FloatKind→Nat→Sem Value) (h1:Array Value→Sem Value) (k0:∀x y z u,Q (h0 x y z u)) (k1:∀x,Q (h1 x)):Q (Builtin.complex_.match_1 (fun _=>Sem Value) xs h0 h1):=by
 rcases xs with ⟨_ | ⟨a,_ | ⟨b,_ | ⟨c,l⟩⟩⟩⟩
 ·exact k1 _
 ·exact k1 _
 ·cases a <;> cases b <;> first | exact k0 _ _ _ _ | exact k1 _
 ·exact k1 _
instance (ts:Array TypeId) (t:TypeId) (xs:Array Value):NM P (Builtin.complex_ ts t xs):=by
 unfold Builtin.complex_
 refine vu (NM P) _ _ _ (fun _ _ _ _=>?_) (fun _=>?_) <;> exact nmx
instance (argTypes:Array TypeId) (_type:TypeId) (args:Array Value):NM P (Go.Builtin.copy_ argTypes _type args):=by
 unfold Go.Builtin.copy_
 exact nmx
instance (argTypes:Array TypeId) (_type:TypeId) (args:Array Value):NM P (Go.Builtin.delete_ argTypes _type args):=by
 unfold Go.Builtin.delete_
 exact nmx
theorem C9 (Q:Sem Value→Prop) (xs:Array Value) (h0:FloatKind→Nat→Nat→Sem Value) (h1:Array Value→Sem Value) (k0:∀x y z,Q (h0 x y z)) (k1:∀x,Q (h1 x)):Q (Builtin.imag_.match_1 (fun _=>Sem Value) xs h0 h1):=by
 rcases xs with ⟨_ | ⟨a,_ | ⟨b,l⟩⟩⟩
 ·exact k1 _
 ·cases a <;> first | exact k0 _ _ _ | exact k1 _
 ·exact k1 _
instance (ts:Array TypeId) (t:TypeId) (xs:Array Value):NM P (Builtin.imag_ ts t xs):=by
 unfold Builtin.imag_
 refine C9 (NM P) _ _ _ (fun _ _ _=>?_) (fun _=>?_) <;> exact nmx
instance (argTypes:Array TypeId) (_type:TypeId) (args:Array Value):NM P (Go.Builtin.len_ argTypes _type args):=by
 unfold Go.Builtin.len_
 exact nmx
instance (z0:Value) (z1:Value):NM P (Go.Builtin.max2 z0 z1):=by
 unfold Go.Builtin.max2
 exact nmx
instance (_argTypes:Array TypeId) (_type:TypeId) (args:Array Value):NM P (Go.Builtin.max_ _argTypes _type args):=by
 unfold Go.Builtin.max_
 exact nmx
instance (z0:Value) (z1:Value):NM P (Go.Builtin.min2 z0 z1):=by
 unfold Go.Builtin.min2
 exact nmx
instance (_argTypes:Array TypeId) (_type:TypeId) (args:Array Value):NM P (Go.Builtin.min_ _argTypes _type args):=by
 unfold Go.Builtin.min_
 exact nmx
theorem CV (Q:Sem Value→Prop) (xs:Array Value) (h0:FloatKind→Nat→Nat→Sem Value) (h1:Array Value→Sem Value) (k0:∀x y z,Q (h0 x y z)) (k1:∀x,Q (h1 x)):Q (Builtin.real_.match_1 (fun _=>Sem Value) xs h0 h1):=by
 rcases xs with ⟨_ | ⟨a,_ | ⟨b,l⟩⟩⟩
 ·exact k1 _
 ·cases a <;> first | exact k0 _ _ _ | exact k1 _
 ·exact k1 _
instance (ts:Array TypeId) (t:TypeId) (xs:Array Value):NM P (Builtin.real_ ts t xs):=by
 unfold Builtin.real_
 refine CV (NM P) _ _ _ (fun _ _ _=>?_) (fun _=>?_) <;> exact nmx
theorem qX (Q:Sem Value→Prop) (xs:Array Value) (h0:Option Addr→Value→Sem Value) (h1:Array Value→Sem Value) (k0:∀x y,Q (h0 x y)) (k1:∀x,Q (h1 x)):Q (Builtin.unsafeAdd_.match_4 (fun _=>Sem Value) xs h0 h1):=by
 rcases xs with ⟨_ | ⟨a,_ | ⟨b,_ | ⟨c,l⟩⟩⟩⟩
 ·exact k1 _
 ·exact k1 _
 ·cases a <;> first | exact k0 _ _ | exact k1 _
 ·exact k1 _
instance (ts:Array TypeId) (t:TypeId) (xs:Array Value):NM P (Builtin.unsafeAdd_ ts t xs):=by
 unfold Builtin.unsafeAdd_
 refine qX (NM P) _ _ _ (fun _ _=>?_) (fun _=>?_) <;> exact nmx
theorem oy (Q:Sem Value→Prop) (xs:Array Value) (h0:Option Addr→Value→Sem Value) (h1:Array Value→Sem Value) (k0:∀x y,Q (h0 x y)) (k1:∀x,Q (h1 x)):Q (Builtin.unsafeSlice_.match_4 (fun _=>Sem Value) xs h0 h1):=by
 rcases xs with ⟨_ | ⟨a,_ | ⟨b,_ | ⟨c,l⟩⟩⟩⟩
 ·exact k1 _
 ·exact k1 _
 ·cases a <;> first | exact k0 _ _ | exact k1 _
 ·exact k1 _
instance (ts:Array TypeId) (t:TypeId) (xs:Array Value):NM P (Builtin.unsafeSlice_ ts t xs):=by
 unfold Builtin.unsafeSlice_
 refine oy (NM P) _ _ _ (fun _ _=>?_) (fun _=>?_) <;> exact nmx
theorem jV (Q:Sem Value→Prop) (xs:Array Value) (h0:Nat→Nat→Sem Value) (h1:Addr→Nat→Nat→Sem Value) (h2:Array Value→Sem Value) (k0:∀x y,Q (h0 x y)) (k1:∀x y z,Q (h1 x y z)) (k2:∀x,Q (h2 x)):Q (Builtin.unsafeSliceData_.match_1 (fun _=>Sem Value) xs h0 h1 h2):=by
 rcases xs with ⟨_ | ⟨a,_ | ⟨b,l⟩⟩⟩
 ·exact k2 _
 ·cases a with
  | slice o m n=>cases o <;> first | exact k0 _ _ | exact k1 _ _ _ | exact k2 _
  | _=>exact k2 _
 ·exact k2 _
instance (ts:Array TypeId) (t:TypeId) (xs:Array Value):NM P (Builtin.unsafeSliceData_ ts t xs):=by
 unfold Builtin.unsafeSliceData_
 refine jV (NM P) _ _ _ _ (fun _ _=>?_) (fun _ _ _=>?_) (fun _=>?_) <;> exact nmx
theorem nu (Q:Sem Value→Prop) (xs:Array Value) (h0:Option Addr→Value→Sem Value) (h1:Array Value→Sem Value) (k0:∀x y,Q (h0 x y)) (k1:∀x,Q (h1 x)):Q (Builtin.unsafeString_.match_3 (fun _=>Sem Value) xs h0 h1):=by
 rcases xs with ⟨_ | ⟨a,_ | ⟨b,_ | ⟨c,l⟩⟩⟩⟩
 ·exact k1 _
 ·exact k1 _
 ·cases a <;> first | exact k0 _ _ | exact k1 _
 ·exact k1 _
instance (ts:Array TypeId) (t:TypeId) (xs:Array Value):NM P (Builtin.unsafeString_ ts t xs):=by
 unfold Builtin.unsafeString_
 refine nu (NM P) _ _ _ (fun _ _=>?_) (fun _=>?_) <;> exact nmx
theorem ji (Q:Sem Value→Prop) (xs:Array Value) (h0:ByteArray→Sem Value) (h1:Array Value→Sem Value) (k0:∀x,Q (h0 x)) (k1:∀x,Q (h1 x)):Q (Builtin.unsafeStringData_.match_1 (fun _=>Sem Value) xs h0 h1):=by
 rcases xs with ⟨_ | ⟨a,_ | ⟨b,l⟩⟩⟩
 ·exact k1 _
 ·cases a <;> first | exact k0 _ | exact k1 _
 ·exact k1 _
instance (ts:Array TypeId) (t:TypeId) (xs:Array Value):NM P (Builtin.unsafeStringData_ ts t xs):=by
 unfold Builtin.unsafeStringData_
 refine ji (NM P) _ _ _ (fun _=>?_) (fun _=>?_) <;> exact nmx
instance (t:TypeId) (x y:Value):NM P (Go.movedNumber t x y):=by
 unfold Go.movedNumber
 exact nmx
instance (t:TypeId) (x y:Value):NM P (Go.movedPointer t x y):=by
 unfold Go.movedPointer
 exact nmx
instance (op:BinOp) (t:TypeId) (x y:Operand) (a b:Value):NM P (Go.eqGuard op t x y a b):=by
 unfold Go.eqGuard
 exact nmx
instance (op:BinOp) (xType:TypeId) (x y:Value):NM P (Go.binOp op xType x y):=by
 unfold Go.binOp
 exact nmx
instance (src dst:TypeId) (x:Value):NM P (Go.convert src dst x):=by
 unfold Go.convert
 exact nmx
instance (ρ:Operand→Value) (c:Call) (type:TypeId):NM P (Go.resolve ρ c type):=by
 unfold Go.resolve
 exact nmx
instance (t:TypeId) (ps:Array (Nat × Value)):NM P (Instr.build t ps):=by
 unfold Instr.build
 exact nmx
instance (t:TypeId) (n:Nat) (ps:Array (Nat × Value)):NM P (Instr.buildSlice t n ps):=by
 unfold Instr.buildSlice
 exact nmx
end
end Nm
end Go.Proofs.YtgacaecjinlhiaaGreatDoor
