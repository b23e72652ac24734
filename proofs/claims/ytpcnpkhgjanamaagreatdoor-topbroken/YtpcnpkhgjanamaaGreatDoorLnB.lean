import Derived.Test.YtpcnpkhgjanamaaGreatDoorJn19
namespace Go.Proofs.YtpcnpkhgjanamaaGreatDoor
open Go renaming Value→R2,TypeId→Wj,Program→Wr,FloatKind→XZ,IntKind→ZQ
open Go.Op renaming equalIn→XJ,eqGuardIn→Yz
open Go.Instr renaming buildSlice→X5,findAsking→Zr
namespace Nm
open Go Go.Conc
class NM{α:Type}(P:Wr)(s:Sem α):Prop where
 nm:zg P s fun _=>True
theorem JP{α β:Type}{P:Wr}{s:Sem α}{f:α→Sem β}{Q:α→Prop}{R:β→Prop}(h:zg P s Q)(hf:∀a,Q a→zg P (f a) R):zg P (s >>= f) R:=by
 show zg P (s.bind f) R
 induction s with
 |pure a=>exact hf a h
 |load m a k ih=>exact fun v=>ih v (h v)
 |store m a v k ih=>exact ih h
 |new o k ih=>exact fun v=>ih v (h v)
 |shape r k ih=>exact fun v=>ih v (h v)
 |freeze a n k ih=>exact ih h
 |frozen a k ih=>exact fun v=>ih v (h v)
 |getObj r k ih=>exact fun v=>ih v (h v)
 |setObj r o k ih=>exact ih h
 |choose q k ih=>exact fun v=>ih v (h v)
 |sys c k ih=>exact fun v=>ih v (h v)
 |program k ih=>exact ih P h
 |mark m k ih=>exact⟨h.1,ih h.2⟩
 |halt h=>trivial
section
variable{P:Wr}
theorem b5{α β:Type}{s:Sem α}{f:α→Sem β}(h:NM P s)(hf:∀a,NM P (f a)):NM P (s >>= f):=⟨JP h.nm fun a _=>(hf a).nm⟩
instance{α β:Type}{s:Sem α}{f:α→Sem β}[h:NM P s][hf:∀a,NM P (f a)]:NM P (s >>= f):=b5 h hf
instance{α:Type}(a:α):NM P (pure a:Sem α):=⟨trivial⟩
instance{α:Type}(h:Halt):NM P (.halt h:Sem α):=⟨trivial⟩
instance{α β:Type}{s:Sem α}{f:α→β}[h:NM P s]:NM P (f <$> s):=b5 h fun _=>⟨trivial⟩
instance{α:Type}{c:Prop}[Decidable c]{s t:Sem α}[h:NM P s][k:NM P t]:NM P (if c then s else t):=by split<;>assumption
theorem fD{α:Type}{c:Prop}[Decidable c]{s t:Sem α}(h:NM P s)(k:NM P t):NM P (if c then s else t):=by split<;>assumption
theorem tG{α β:Type}{f:α→Sem β}(h:∀a,NM P (f a)):∀(l:List α),NM P (l.mapM f)
 |[]=>⟨trivial⟩
 |a :: l=>by
  rw[List.mapM_cons];exact b5 (h a) fun _=>b5 (tG h l) fun _=>⟨trivial⟩
instance{α β:Type}{f:α→Sem β}[h:∀a,NM P (f a)](l:List α):NM P (l.mapM f):=tG h l
instance{α β:Type}{f:α→Sem β}[h:∀a,NM P (f a)](l:Array α):NM P (l.mapM f):=by
 rw[Array.mapM_eq_mapM_toList];exact b5 (tG h _) fun _=>⟨trivial⟩
theorem xN{α β:Type}{f:β→α→Sem β}(h:∀b a,NM P (f b a)):∀(l:List α) (b:β),NM P (l.foldlM f b)
 |[],_=>⟨trivial⟩
 |a :: l,b=>by
  rw[List.foldlM_cons];exact b5 (h b a) fun _=>xN h l _
instance{α β:Type}{f:β→α→Sem β}[h:∀b a,NM P (f b a)](l:List α)(b:β):NM P (l.foldlM f b):=xN h l b
theorem oR{α β:Type}{f:α→β→Sem (ForInStep β)}(h:∀a b,NM P (f a b)):∀(l:List α) (b:β),NM P (forIn l b f)
 |[],_=>by
  rw[List.forIn_nil];exact⟨trivial⟩
 |a :: l,b=>by
  rw[List.forIn_cons];refine b5 (h a b) fun r=>?_;cases r with
  |done b=>exact⟨trivial⟩
  |yield b=>exact oR h l b
theorem ye{α β:Type}:∀(l:List α) (b:β) {f:(a:α)→a∈l→β→Sem (ForInStep β)} (_:∀a h b,NM P (f a h b)),NM P (forIn' l b f)
 |[],_,_,_=>by
  rw[List.forIn'_nil];exact⟨trivial⟩
 |a :: l,b,f,h=>by
  rw[List.forIn'_cons];refine b5 (h a _ b) fun r=>?_;cases r with
  |done b=>exact⟨trivial⟩
  |yield b=>exact ye l b fun _ _ _=>h _ _ _
instance{α β:Type}{f:α→β→Sem (ForInStep β)}[h:∀a b,NM P (f a b)](l:List α)(b:β):NM P (forIn l b f):=oR h l b
theorem eo{α β:Type}{f:α→β→Sem (ForInStep β)}(h:∀a b,NM P (f a b))(l:Array α)(b:β):NM P (forIn l b f):=by
 rw[←Array.forIn_toList];exact oR h _ _
theorem dZ{β:Type}{f:Nat→β→Sem (ForInStep β)}(h:∀a b,NM P (f a b))(l:Std.Legacy.Range)(b:β):NM P (forIn l b f):=by
 rw[Std.Legacy.Range.forIn_eq_forIn_range'];exact oR h _ _
theorem Mr{β:Type}(l:Std.Legacy.Range)(b:β){f:(a:Nat)→a∈l→β→Sem (ForInStep β)}(h:∀a m b,NM P (f a m b)):NM P (forIn' l b f):=by
 rw[Std.Legacy.Range.forIn'_eq_forIn'_range'];exact ye _ _ fun _ _ _=>h _ _ _
theorem bI{α:Type}{s:Sem α}(h:NM P s:=by repeat' (first|infer_instance|(refine b5 ?_ fun _=>?_)|(refine fD ?_ ?_)|(refine eo (fun _ _=>?_) _ _)|(refine dZ (fun _ _=>?_) _ _)|(refine Mr _ _ fun _ _ _=>?_)|split|dsimp only)):NM P s:=h
instance(a:Addr)(m:Mode):NM P (Go.load a m):=⟨fun _=>trivial⟩
instance(a:Addr)(v:R2)(m:Mode):NM P (Go.store a v m):=⟨trivial⟩
instance(o:Obj):NM P (Go.newObj o):=⟨fun _=>trivial⟩
instance(r:Nat):NM P (Go.shape r):=⟨fun _=>trivial⟩
instance(a:Addr)(n:Nat):NM P (Go.freeze a n):=⟨trivial⟩
instance(a:Addr):NM P (Go.frozen a):=⟨fun _=>trivial⟩
instance(r:Nat):NM P (Go.getObj r):=⟨fun _=>trivial⟩
instance(r:Nat)(o:Obj):NM P (Go.setObj r o):=⟨trivial⟩
instance(q:Question):NM P (Go.choose q):=⟨fun _=>trivial⟩
instance(c:Sys):NM P (Go.sys c):=⟨fun _=>trivial⟩
instance(fd:Nat)(b:ByteArray):NM P (Go.writeFd fd b):=⟨fun r=>by
 dsimp only;split<;>trivial⟩
instance :NM P (Go.program):=⟨trivial⟩
instance:NM P (Go.mark .noRoom):=⟨⟨.inl rfl,trivial⟩⟩
instance(n:Nat):NM P (Go.askRoom n):=by
 unfold Go.askRoom;split
 ·exact⟨⟨.inl rfl,trivial⟩⟩
 ·exact⟨trivial⟩
instance{α:Type}(why:String):NM P (@Go.stuck α why):=by
 unfold Go.stuck;exact bI
instance{α:Type}(u:Unsupported):NM P (@Go.unsupported α u):=by
 unfold Go.unsupported;exact bI
instance{α:Type}(v:R2):NM P (@Go.goPanic α v):=by
 unfold Go.goPanic;exact bI
instance{α:Type}(msg:String):NM P (@Go.fatal α msg):=by
 unfold Go.fatal;exact bI
instance{α:Type}(msg:String):NM P (@Go.throw α msg):=by
 unfold Go.throw;exact bI
instance{α:Type}:NM P (@Go.blocked α):=⟨trivial⟩
instance{α:Type}:NM P (@Go.blockedOutside α):=⟨trivial⟩
instance(r:Nat):NM P (Go.viewAt r):=by
 unfold Go.viewAt;exact bI
instance(r:Nat):NM P (Go.numberAt r):=by
 unfold Go.numberAt;exact bI
instance(r:Nat):NM P (Go.cellsIn r):=by
 unfold Go.cellsIn;exact bI
instance(a:Addr)(lost:Bool):NM P (Go.asNumber a lost):=by
 unfold Go.asNumber;exact bI
instance(n:Addr):NM P (Go.behindNumber n):=by
 unfold Go.behindNumber;exact bI
instance(n:Addr):NM P (Go.backFromNumber n):=by
 unfold Go.backFromNumber;exact bI
instance(a:Addr):NM P (Go.noView a):=by
 unfold Go.noView;exact bI
instance(a:Addr):NM P (Go.markStringish a):=by
 unfold Go.markStringish;exact bI
instance(a:Addr):NM P (Go.stringish a):=by
 unfold Go.stringish;exact bI
instance(a b:Addr):NM P (Go.mayBeOne a b):=by
 unfold Go.mayBeOne;exact bI
instance(a b:Addr):NM P (Go.sameAddr a b):=by
 unfold Go.sameAddr;exact bI
instance(z0:Option Addr)(z1:Option Addr):NM P (Go.samePointer z0 z1):=by
 unfold Go.samePointer;exact bI
instance(t:Wj):NM P (Go.typeInfo t):=by
 unfold Go.typeInfo;exact bI
instance(t:Wj):NM P (Go.underlying t):=by
 unfold Go.underlying;exact bI
instance(name:String):NM P (Go.cutType name):=by
 unfold Go.cutType;exact bI
instance(name:String):NM P (Go.globalAddr name):=by
 unfold Go.globalAddr;exact bI
instance(t:Wj):NM P (Go.typeStr t):=by
 unfold Go.typeStr;exact bI
instance(t:Wj):NM P (Go.zeroValue t):=by
 unfold Go.zeroValue;exact bI
instance(t:Wj):NM P (Go.sizeOf t):=by
 unfold Go.sizeOf;exact bI
instance(t:Wj):NM P (Go.isAgg t):=by
 unfold Go.isAgg;exact bI
theorem J1(a:Addr):∀(n i:Nat) (z:Array R2),NM P (loadCellsFrom a i n z)
 |0,i,z=>by
  unfold loadCellsFrom
  infer_instance
 |n+1,i,z=>by
  unfold loadCellsFrom;exact b5 inferInstance fun _=>J1 a n _ _
instance(a:Addr)(i n:Nat)(z:Array R2):NM P (loadCellsFrom a i n z):=J1 a n i z
instance(a:Addr)(n:Nat):NM P (Go.loadCells a n):=by
 unfold Go.loadCells;exact bI
theorem PT(a:Addr):∀(l:List R2) (i:Nat),NM P (storeCells a l i)
 |[],i=>by
  unfold storeCells
  infer_instance
 |v :: l,i=>by
  unfold storeCells;exact b5 inferInstance fun _=>PT a l _
instance(a:Addr)(l:List R2)(i:Nat):NM P (storeCells a l i):=PT a l i
instance(t:Wj)(a:Addr):NM P (Go.loadVar t a):=by
 unfold Go.loadVar;exact bI
instance(t:Wj)(a:Addr)(v:R2):NM P (Go.storeVar t a v):=by
 unfold Go.storeVar;exact bI
instance(elem:Wj)(cells:Array R2):NM P (Go.newRow elem cells):=by
 unfold Go.newRow;exact bI
instance(t:Wj)(v:R2):NM P (Go.newVar t v):=by
 unfold Go.newVar;exact bI
instance(t:Wj):NM P (Go.elemOf t):=by
 unfold Go.elemOf;exact bI
instance(t:Wj)(cs:Array R2)(off:Nat):NM P (Go.part t cs off):=by
 unfold Go.part;exact bI
instance{α:Type}(msg:String):NM P (@Go.panicString α msg):=by
 unfold Go.panicString;exact bI
instance(name:String):NM P (Go.externState name):=by
 unfold Go.externState;exact bI
instance{α:Type}(e:RuntimeError):NM P (@Go.runtimePanic α e):=by
 unfold Go.runtimePanic;exact bI
instance{α:Type}(k:ZQ)(x y:Int)(code:BoundsCode):NM P (@Go.boundsPanic α k x y code):=by
 unfold Go.boundsPanic;exact bI
instance(z0:R2):NM P (Go.asIntOf z0):=by
 unfold Go.asIntOf;exact bI
instance(v:R2):NM P (Go.asInt v):=by
 unfold Go.asInt;exact bI
instance(z0:R2):NM P (Go.asBool z0):=by
 unfold Go.asBool;exact bI
instance(z0:R2):NM P (Go.asString z0):=by
 unfold Go.asString;exact bI
instance(z0:R2):NM P (Go.asAgg z0):=by
 unfold Go.asAgg;exact bI
instance(z0:R2):NM P (Go.asAddr z0):=by
 unfold Go.asAddr;exact bI
instance(a:Addr):NM P (Go.byteOf a):=by
 unfold Go.byteOf;exact bI
instance(base:Addr)(cells bytes:Nat):NM P (Go.partAt base cells bytes):=by
 unfold Go.partAt;exact bI
instance(a:Addr)(f:Field):NM P (Go.fieldPlace a f):=by
 unfold Go.fieldPlace;exact bI
instance(a:Addr)(u:Wj)(n:Nat):NM P (Go.variablesAt a u n):=by
 unfold Go.variablesAt;exact bI
instance(k:ZQ)(a:Addr)(n:Nat):NM P (Go.intVariablesAt k a n):=by
 unfold Go.intVariablesAt;exact bI
instance(a:Addr)(n:Nat):NM P (Go.byteVariablesAt a n):=by
 unfold Go.byteVariablesAt;exact bI
theorem Pu:∀(n:Nat) (a:Addr) (z:ByteArray),NM P (loadBytes a z n)
 |0,a,z=>by
  unfold loadBytes
  infer_instance
 |n+1,a,z=>by
  have ih:=Pu n;unfold loadBytes;exact bI
instance(a:Addr)(z:ByteArray)(n:Nat):NM P (loadBytes a z n):=Pu n a z
instance(a:Addr)(b:ByteArray):NM P (Go.storeBytes a b):=by
 unfold Go.storeBytes;exact bI
instance(f:R2)(args:Array R2):NM P (Go.Deferred.ofValue f args):=by
 unfold Go.Deferred.ofValue;exact bI
instance(a b:Addr):NM P (Go.Op.twoPlaces a b):=by
 unfold Go.Op.twoPlaces;exact bI
instance(k:ZQ)(a b:Addr):NM P (Go.Op.addrSub k a b):=by
 unfold Go.Op.addrSub;exact bI
instance(op:BinOp)(a b:Addr):NM P (Go.Op.addrCmp op a b):=by
 unfold Go.Op.addrCmp;exact bI
instance(k:ZQ)(a:Addr)(n:Int):NM P (Go.Op.addrMod k a n):=by
 unfold Go.Op.addrMod;exact bI
instance(op:BinOp)(k:XZ)(x y:Nat):NM P (Go.Op.floatArith op k x y):=by
 unfold Go.Op.floatArith;exact bI
instance(op:BinOp)(k:XZ)(x y:Nat):NM P (Go.Op.floatCmp op k x y):=by
 unfold Go.Op.floatCmp;exact bI
instance(src:XZ)(bits:Nat)(dst:XZ):NM P (Go.Conv.floatToFloat src bits dst):=by
 unfold Go.Conv.floatToFloat;exact bI
instance(op:BinOp)(k:XZ)(x y:Nat):NM P (Go.Op.Complex.arith op k x y):=by
 unfold Go.Op.Complex.arith;exact bI
instance(op:BinOp)(k:XZ)(x y:Nat):NM P (Go.Op.Complex.cmp op k x y):=by
 unfold Go.Op.Complex.cmp;exact bI
instance(src:XZ)(x:Nat)(dst:XZ):NM P (Go.Op.Complex.conv src x dst):=by
 unfold Go.Op.Complex.conv
 exact bI
instance(a b c d:Nat):NM P (Go.Op.Complex.product a b c d):=by
 unfold Go.Op.Complex.product;exact bI
instance(scale a b c d:Nat):NM P (Go.Op.Complex.corrected scale a b c d):=by
 unfold Go.Op.Complex.corrected;exact bI
instance(a b c d:Nat):NM P (Go.Op.Complex.quotient a b c d):=by
 unfold Go.Op.Complex.quotient;exact bI
instance(op:BinOp)(k:XZ)(xr xi yr yi:Nat):NM P (Go.Op.complexOp op k xr xi yr yi):=by
 unfold Go.Op.complexOp;exact bI
theorem PM:∀(n:Nat) (t:Wj) (x y:R2),NM P (XJ n t x y)
 |0,t,x,y=>by
  unfold XJ;exact bI
 |n+1,t,x,y=>by
  have ih:∀t x y,NM P (XJ n t x y):=PM n;unfold XJ;exact bI
instance(n:Nat)(t:Wj)(x y:R2):NM P (XJ n t x y):=PM n t x y
instance(t:Wj)(x y:R2):NM P (Go.Op.equal t x y):=by
 unfold Go.Op.equal;exact bI
theorem P9:∀(n:Nat) (t:Wj) (x y:R2),NM P (Yz n t x y)
 |0,t,x,y=>by
  unfold Yz;exact bI
 |n+1,t,x,y=>by
  have ih:∀t x y,NM P (Yz n t x y):=P9 n;unfold Yz;exact bI
instance(n:Nat)(t:Wj)(x y:R2):NM P (Yz n t x y):=P9 n t x y
instance(op:BinOp)(k:ZQ)(x y:Int):NM P (Go.Op.intArith op k x y):=by
 unfold Go.Op.intArith;exact bI
instance(op:BinOp)(k:ZQ)(x y:Int):NM P (Go.Op.intBits op k x y):=by
 unfold Go.Op.intBits;exact bI
instance(op:BinOp)(x y:Int):NM P (Go.Op.intCmp op x y):=by
 unfold Go.Op.intCmp;exact bI
instance(op:BinOp)(k:ZQ)(x y:Int):NM P (Go.Op.intDiv op k x y):=by
 unfold Go.Op.intDiv;exact bI
instance(op:BinOp)(k:ZQ)(x:Int)(_yk:ZQ)(y:Int):NM P (Go.Op.shift op k x _yk y):=by
 unfold Go.Op.shift;exact bI
instance(op:BinOp)(x y:ByteArray):NM P (Go.Op.stringOp op x y):=by
 unfold Go.Op.stringOp;exact bI
instance(op:UnOp)(x:R2):NM P (Go.Op.unary op x):=by
 unfold Go.Op.unary;exact bI
instance(x:R2):NM P (Go.Conv.bytesToString x):=by
 unfold Go.Conv.bytesToString;exact bI
instance(src:XZ)(re im:Nat)(dst:XZ):NM P (Go.Conv.complexToComplex src re im dst):=by
 unfold Go.Conv.complexToComplex;exact bI
instance(src:XZ)(bits:Nat)(dst:ZQ):NM P (Go.Conv.floatToInt src bits dst):=by
 unfold Go.Conv.floatToInt;exact bI
instance(dst:XZ)(n:Int):NM P (Go.Conv.intToFloat dst n):=by
 unfold Go.Conv.intToFloat;exact bI
instance(dst:ZQ)(n:Int):NM P (Go.Conv.intToInt dst n):=by
 unfold Go.Conv.intToInt;exact bI
instance(n:Int):NM P (Go.Conv.intToString n):=by
 unfold Go.Conv.intToString;exact bI
instance(x:R2):NM P (Go.Conv.runesToString x):=by
 unfold Go.Conv.runesToString;exact bI
instance(elem:Wj)(s:ByteArray):NM P (Go.Conv.stringToBytes elem s):=by
 unfold Go.Conv.stringToBytes;exact bI
instance(elem:Wj)(s:ByteArray):NM P (Go.Conv.stringToRunes elem s):=by
 unfold Go.Conv.stringToRunes;exact bI
instance(a:Addr):NM P (Go.Conv.seenAt a):=by
 unfold Go.Conv.seenAt;exact bI
instance(src dst:Wj)(x:R2):NM P (Go.Conv.unsafePointer src dst x):=by
 unfold Go.Conv.unsafePointer;exact bI
instance(x:R2)(y:Nat)(code:BoundsCode):NM P (Go.Instr.sliceBound x y code):=by
 unfold Go.Instr.sliceBound;exact bI
instance(isSlice:Bool)(len cap:Nat)(low high max:Option R2):NM P (Go.Instr.sliceBounds isSlice len cap low high max):=by
 unfold Go.Instr.sliceBounds;exact bI
instance(xType:Wj)(x:R2)(low high max:Option R2):NM P (Go.Instr.slice xType x low high max):=by
 unfold Go.Instr.slice;exact bI
instance(z0:R2):NM P (Go.Instr.sureAddr z0):=by
 unfold Go.Instr.sureAddr;exact bI
instance(t:Wj)(addr:R2):NM P (Go.Instr.loadAt t addr):=by
 unfold Go.Instr.loadAt;exact bI
instance(t:Wj)(addr val:R2):NM P (Go.Instr.storeAt t addr val):=by
 unfold Go.Instr.storeAt;exact bI
instance(s:Wj)(addr:R2)(field:Nat):NM P (Go.Instr.fieldAt s addr field):=by
 unfold Go.Instr.fieldAt;exact bI
instance(t:Wj)(x index:R2):NM P (Go.Instr.indexAt t x index):=by
 unfold Go.Instr.indexAt;exact bI
instance(t:Wj)(x:R2)(low high max:Option R2):NM P (Go.Instr.sliceAt t x low high max):=by
 unfold Go.Instr.sliceAt;exact bI
instance(arr:Wj)(x:R2):NM P (Go.Instr.arrayAt arr x):=by
 unfold Go.Instr.arrayAt;exact bI
instance(elem:Wj)(heap:Bool)(old:R2):NM P (Go.Instr.alloc elem heap old):=by
 unfold Go.Instr.alloc;exact bI
instance(elem:Wj)(v:R2):NM P (Go.Instr.box elem v):=by
 unfold Go.Instr.box;exact bI
instance(iter:R2):NM P (Go.Instr.entry iter):=by
 unfold Go.Instr.entry;exact bI
instance(tuple:R2)(index:Nat):NM P (Go.Instr.extract tuple index):=by
 unfold Go.Instr.extract;exact bI
instance(xType:Wj)(x:R2)(field:Nat):NM P (Go.Instr.field xType x field):=by
 unfold Go.Instr.field;exact bI
instance(xType:Wj)(x index:R2):NM P (Go.Instr.index xType x index):=by
 unfold Go.Instr.index;exact bI
theorem PV(b:Bool):∀(n:Nat) (t:Wj) (x:R2),NM P (Instr.checkKey b n t x)
 |0,t,x=>by
  unfold Instr.checkKey;exact bI
 |n+1,t,x=>by
  have ih:∀t x,NM P (Instr.checkKey b n t x):=PV b n;unfold Instr.checkKey;exact bI
instance(b:Bool)(n:Nat)(t:Wj)(x:R2):NM P (Instr.checkKey b n t x):=PV b n t x
theorem P8(t:Wj)(k:R2):∀(l:List MapEntry) (i:Nat),NM P (Zr t k l i)
 |[],i=>by
  unfold Zr
  infer_instance
 |e :: l,i=>by
  have ih:∀i,NM P (Zr t k l i):=P8 t k l;unfold Zr;exact bI
instance(t:Wj)(k:R2)(l:List MapEntry)(i:Nat):NM P (Zr t k l i):=P8 t k l i
instance(t:Wj)(k:R2)(es:List MapEntry):NM P (Instr.findKey t k es):=by
 unfold Instr.findKey;exact bI
instance(xType:Wj)(x index:R2)(commaOk:Bool):NM P (Go.Instr.lookup xType x index commaOk):=by
 unfold Go.Instr.lookup;exact bI
instance(t:Wj)(size:R2):NM P (Go.Instr.makeChan t size):=by
 unfold Go.Instr.makeChan;exact bI
instance(fn:Fn)(first captured:Array R2):NM P (Go.Instr.makeFunc fn first captured):=by
 unfold Go.Instr.makeFunc;exact bI
instance(xType:Wj)(x:R2):NM P (Go.Instr.makeInterface xType x):=by
 unfold Go.Instr.makeInterface;exact bI
instance(t:Wj)(reserve:Option R2):NM P (Go.Instr.makeMap t reserve):=by
 unfold Go.Instr.makeMap;exact bI
instance(t:Wj)(len cap:R2):NM P (Go.Instr.makeSlice t len cap):=by
 unfold Go.Instr.makeSlice;exact bI
instance(old new:R2):NM P (Go.Instr.keyThatStays old new):=by
 unfold Go.Instr.keyThatStays;exact bI
instance(mapType:Wj)(map key value:R2):NM P (Go.Instr.mapUpdate mapType map key value):=by
 unfold Go.Instr.mapUpdate;exact bI
instance(mapType:Wj)(map key:R2):NM P (Go.Instr.mapEntry mapType map key):=by
 unfold Go.Instr.mapEntry;exact bI
instance(_mapType:Wj)(map stamp value:R2):NM P (Go.Instr.entryStore _mapType map stamp value):=by
 unfold Go.Instr.entryStore;exact bI
theorem pZ(Q:Sem R2→Prop)(xs:Array R2)(h0:R2→ByteArray→ByteArray→Sem R2)(h1:Array R2→Sem R2)(k0:∀x y z,Q (h0 x y z))(k1:∀x,Q (h1 x)):Q (Builtin.ssaWrapNilChk_.match_7 (fun _=>Sem R2) xs h0 h1):=by
 rcases xs with⟨_|⟨a,_|⟨b,_|⟨c,_|⟨d,l⟩⟩⟩⟩⟩
 ·exact k1 _
 ·exact k1 _
 ·exact k1 _
 ·cases b<;>cases c<;>first|exact k0 _ _ _|exact k1 _
 ·exact k1 _
instance(ts:Array Wj)(t:Wj)(xs:Array R2):NM P (Builtin.ssaWrapNilChk_ ts t xs):=by
 unfold Builtin.ssaWrapNilChk_;refine pZ (NM P) _ _ _ (fun _ _ _=>?_) (fun _=>?_)<;>exact bI
instance(t:Wj)(z0:Place):NM P (Go.Place.get t z0):=by
 unfold Go.Place.get;exact bI
theorem PF:∀(l:List FieldStep) (t:Wj) (x:Place),NM P (follow l t x)
 |[],t,x=>by
  unfold follow;exact bI
 |e :: l,t,x=>by
  have ih:∀t x,NM P (follow l t x):=PF l;unfold follow;exact bI
instance(l:List FieldStep)(t:Wj)(x:Place):NM P (follow l t x):=PF l t x
instance(xt:Wj)(x:Place)(pointerReceiver:Bool)(wrapper:Option String):NM P (Go.receiverAt xt x pointerReceiver wrapper):=by
 unfold Go.receiverAt;exact bI
instance(t:Wj)(v:R2)(path:Array FieldStep)(pointerReceiver:Bool):NM P (Go.receiverVia t v path pointerReceiver):=by
 unfold Go.receiverVia;exact bI
theorem Qc:∀(n:Nat) (t:Wj) (v:R2) (s:String),NM P (method n t v s)
 |0,t,v,s=>by
  unfold method;exact bI
 |n+1,t,v,s=>by
  have ih:∀t v s,NM P (method n t v s):=Qc n;unfold method;exact bI
instance(n:Nat)(t:Wj)(v:R2)(s:String):NM P (method n t v s):=Qc n t v s
theorem PG:∀(l:List FieldStep) (t:Wj) (x:Option R2),NM P (followBlind l t x)
 |[],t,x=>by
  unfold followBlind;exact bI
 |e :: l,t,x=>by
  have ih:∀t x,NM P (followBlind l t x):=PG l;unfold followBlind;exact bI
instance(l:List FieldStep)(t:Wj)(x:Option R2):NM P (followBlind l t x):=PG l t x
theorem Pv:∀(n:Nat) (t:Wj) (v:R2) (s:String),NM P (nilAhead n t v s)
 |0,t,v,s=>by
  unfold nilAhead;exact bI
 |n+1,t,v,s=>by
  have ih:∀t v s,NM P (nilAhead n t v s):=Pv n;unfold nilAhead;exact bI
instance(n:Nat)(t:Wj)(v:R2)(s:String):NM P (nilAhead n t v s):=Pv n t v s
instance(iter:R2)(isString:Bool)(_type:Wj):NM P (Go.Instr.next iter isString _type):=by
 unfold Go.Instr.next
 exact bI
instance :NM P (Go.Instr.panicnil):=by
 unfold Go.Instr.panicnil;exact bI
instance(x:R2):NM P (Go.Instr.panic x):=by
 unfold Go.Instr.panic;exact bI
instance(t:Wj)(v:R2):NM P (Go.Builtin.printOne t v):=by
 unfold Go.Builtin.printOne;exact bI
instance(ln:Bool)(consts:Array Bool)(argTypes:Array Wj)(args:Array R2):NM P (Go.Builtin.pieces ln consts argTypes args):=by
 unfold Go.Builtin.pieces;exact bI
instance(xType:Wj)(x:R2):NM P (Go.Instr.range xType x):=by
 unfold Go.Instr.range;exact bI
instance(l:Nat):NM P (Go.Instr.getLoop l):=by
 unfold Go.Instr.getLoop;exact bI
instance(fn:FuncId)(tmps:Array R2)(params:Array Tmp)(assign body:Code)(around:Option Nat):NM P (Go.Instr.enterLoop fn tmps params assign body around):=by
 unfold Go.Instr.enterLoop;exact bI
instance(l:Nat):NM P (Go.Instr.beginRound l):=by
 unfold Go.Instr.beginRound;exact bI
instance(l:Nat)(jump:Option Code):NM P (Go.Instr.endRound l jump):=by
 unfold Go.Instr.endRound;exact bI
instance(l:Nat):NM P (Go.Instr.endLoop l):=by
 unfold Go.Instr.endLoop;exact bI
instance(l:Nat)(d:Deferred):NM P (Go.Instr.deferInRound l d):=by
 unfold Go.Instr.deferInRound;exact bI
instance(block:Nat):NM P (Go.Instr.takeDeferred block):=by
 unfold Go.Instr.takeDeferred;exact bI
instance(g:Nat):NM P (Go.Instr.waits g):=by
 unfold Go.Instr.waits;exact bI
instance(g:Nat):NM P (Go.Instr.ready g):=by
 unfold Go.Instr.ready;exact bI
instance(x:R2)(xType asserted:Wj)(commaOk:Bool):NM P (Go.Instr.typeAssert x xType asserted commaOk):=by
 unfold Go.Instr.typeAssert;exact bI
instance(a:Addr)(cells:Nat):NM P (Go.Builtin.holdsCells a cells):=by
 unfold Go.Builtin.holdsCells;exact bI
instance(size sLen n:Nat)(base:Option Addr)(x:R2):NM P (Go.Builtin.mayShare size sLen n base x):=by
 unfold Go.Builtin.mayShare;exact bI
instance(z0:R2):NM P (Go.Builtin.lenOf z0):=by
 unfold Go.Builtin.lenOf;exact bI
instance(size n:Nat)(z0:R2):NM P (Go.Builtin.firstCells size n z0):=by
 unfold Go.Builtin.firstCells;exact bI
instance(argTypes:Array Wj)(_type:Wj)(args:Array R2):NM P (Go.Builtin.append_ argTypes _type args):=by
 unfold Go.Builtin.append_;exact bI
instance(argTypes:Array Wj)(_type:Wj)(args:Array R2):NM P (Go.Builtin.cap_ argTypes _type args):=by
 unfold Go.Builtin.cap_;exact bI
instance(argTypes:Array Wj)(_type:Wj)(args:Array R2):NM P (Go.Builtin.clear_ argTypes _type args):=by
 unfold Go.Builtin.clear_;exact bI
theorem IG(Q:Sem R2→Prop)(xs:Array R2)(h0:Unit→Sem R2)(h1:Nat→Sem R2)(h2:Array R2→Sem R2)(k0:Q (h0 ()))(k1:∀x,Q (h1 x))(k2:∀x,Q (h2 x)):Q (Builtin.close_.match_2 (fun _=>Sem R2) xs h0 h1 h2):=by
 rcases xs with⟨_|⟨a,_|⟨b,l⟩⟩⟩
 ·exact k2 _
 ·cases a with
  |chan o=>cases o<;>first|exact k0|exact k1 _|exact k2 _
  |_=>exact k2 _
 ·exact k2 _
instance(ts:Array Wj)(t:Wj)(xs:Array R2):NM P (Builtin.close_ ts t xs):=by
 unfold Builtin.close_;refine IG (NM P) _ _ _ _ ?_ (fun _=>?_) (fun _=>?_)<;>exact bI
theorem AM(Q:Sem R2→Prop)(xs:Array R2)(h0:XZ→Nat→XZ→Nat→Sem R2)(h1:Array R2→Sem R2)(k0:∀x y z u,Q (h0 x y z u))(k1:∀x,Q (h1 x)):Q (Builtin.complex_.match_1 (fun _=>Sem R2) xs h0 h1):=by
 rcases xs with⟨_|⟨a,_|⟨b,_|⟨c,l⟩⟩⟩⟩
 ·exact k1 _
 ·exact k1 _
 ·cases a<;>cases b<;>first|exact k0 _ _ _ _|exact k1 _
 ·exact k1 _
instance(ts:Array Wj)(t:Wj)(xs:Array R2):NM P (Builtin.complex_ ts t xs):=by
 unfold Builtin.complex_;refine AM (NM P) _ _ _ (fun _ _ _ _=>?_) (fun _=>?_)<;>exact bI
instance(argTypes:Array Wj)(_type:Wj)(args:Array R2):NM P (Go.Builtin.copy_ argTypes _type args):=by
 unfold Go.Builtin.copy_;exact bI
instance(argTypes:Array Wj)(_type:Wj)(args:Array R2):NM P (Go.Builtin.delete_ argTypes _type args):=by
 unfold Go.Builtin.delete_;exact bI
theorem JO(Q:Sem R2→Prop)(xs:Array R2)(h0:XZ→Nat→Nat→Sem R2)(h1:Array R2→Sem R2)(k0:∀x y z,Q (h0 x y z))(k1:∀x,Q (h1 x)):Q (Builtin.imag_.match_1 (fun _=>Sem R2) xs h0 h1):=by
 rcases xs with⟨_|⟨a,_|⟨b,l⟩⟩⟩
 ·exact k1 _
 ·cases a<;>first|exact k0 _ _ _|exact k1 _
 ·exact k1 _
instance(ts:Array Wj)(t:Wj)(xs:Array R2):NM P (Builtin.imag_ ts t xs):=by
 unfold Builtin.imag_;refine JO (NM P) _ _ _ (fun _ _ _=>?_) (fun _=>?_)<;>exact bI
instance(argTypes:Array Wj)(_type:Wj)(args:Array R2):NM P (Go.Builtin.len_ argTypes _type args):=by
 unfold Go.Builtin.len_;exact bI
instance(z0:R2)(z1:R2):NM P (Go.Builtin.max2 z0 z1):=by
 unfold Go.Builtin.max2;exact bI
instance(_argTypes:Array Wj)(_type:Wj)(args:Array R2):NM P (Go.Builtin.max_ _argTypes _type args):=by
 unfold Go.Builtin.max_;exact bI
instance(z0:R2)(z1:R2):NM P (Go.Builtin.min2 z0 z1):=by
 unfold Go.Builtin.min2;exact bI
instance(_argTypes:Array Wj)(_type:Wj)(args:Array R2):NM P (Go.Builtin.min_ _argTypes _type args):=by
 unfold Go.Builtin.min_;exact bI
theorem L0(Q:Sem R2→Prop)(xs:Array R2)(h0:XZ→Nat→Nat→Sem R2)(h1:Array R2→Sem R2)(k0:∀x y z,Q (h0 x y z))(k1:∀x,Q (h1 x)):Q (Builtin.real_.match_1 (fun _=>Sem R2) xs h0 h1):=by
 rcases xs with⟨_|⟨a,_|⟨b,l⟩⟩⟩
 ·exact k1 _
 ·cases a<;>first|exact k0 _ _ _|exact k1 _
 ·exact k1 _
instance(ts:Array Wj)(t:Wj)(xs:Array R2):NM P (Builtin.real_ ts t xs):=by
 unfold Builtin.real_;refine L0 (NM P) _ _ _ (fun _ _ _=>?_) (fun _=>?_)<;>exact bI
theorem wJ(Q:Sem R2→Prop)(xs:Array R2)(h0:Option Addr→R2→Sem R2)(h1:Array R2→Sem R2)(k0:∀x y,Q (h0 x y))(k1:∀x,Q (h1 x)):Q (Builtin.unsafeAdd_.match_4 (fun _=>Sem R2) xs h0 h1):=by
 rcases xs with⟨_|⟨a,_|⟨b,_|⟨c,l⟩⟩⟩⟩
 ·exact k1 _
 ·exact k1 _
 ·cases a<;>first|exact k0 _ _|exact k1 _
 ·exact k1 _
instance(ts:Array Wj)(t:Wj)(xs:Array R2):NM P (Builtin.unsafeAdd_ ts t xs):=by
 unfold Builtin.unsafeAdd_;refine wJ (NM P) _ _ _ (fun _ _=>?_) (fun _=>?_)<;>exact bI
theorem tw(Q:Sem R2→Prop)(xs:Array R2)(h0:Option Addr→R2→Sem R2)(h1:Array R2→Sem R2)(k0:∀x y,Q (h0 x y))(k1:∀x,Q (h1 x)):Q (Builtin.unsafeSlice_.match_4 (fun _=>Sem R2) xs h0 h1):=by
 rcases xs with⟨_|⟨a,_|⟨b,_|⟨c,l⟩⟩⟩⟩
 ·exact k1 _
 ·exact k1 _
 ·cases a<;>first|exact k0 _ _|exact k1 _
 ·exact k1 _
instance(ts:Array Wj)(t:Wj)(xs:Array R2):NM P (Builtin.unsafeSlice_ ts t xs):=by
 unfold Builtin.unsafeSlice_;refine tw (NM P) _ _ _ (fun _ _=>?_) (fun _=>?_)<;>exact bI
theorem nJ(Q:Sem R2→Prop)(xs:Array R2)(h0:Nat→Nat→Sem R2)(h1:Addr→Nat→Nat→Sem R2)(h2:Array R2→Sem R2)(k0:∀x y,Q (h0 x y))(k1:∀x y z,Q (h1 x y z))(k2:∀x,Q (h2 x)):Q (Builtin.unsafeSliceData_.match_1 (fun _=>Sem R2) xs h0 h1 h2):=by
 rcases xs with⟨_|⟨a,_|⟨b,l⟩⟩⟩
 ·exact k2 _
 ·cases a with
  |slice o m n=>cases o<;>first|exact k0 _ _|exact k1 _ _ _|exact k2 _
  |_=>exact k2 _
 ·exact k2 _
instance(ts:Array Wj)(t:Wj)(xs:Array R2):NM P (Builtin.unsafeSliceData_ ts t xs):=by
 unfold Builtin.unsafeSliceData_;refine nJ (NM P) _ _ _ _ (fun _ _=>?_) (fun _ _ _=>?_) (fun _=>?_)<;>exact bI
theorem qJ(Q:Sem R2→Prop)(xs:Array R2)(h0:Option Addr→R2→Sem R2)(h1:Array R2→Sem R2)(k0:∀x y,Q (h0 x y))(k1:∀x,Q (h1 x)):Q (Builtin.unsafeString_.match_3 (fun _=>Sem R2) xs h0 h1):=by
 rcases xs with⟨_|⟨a,_|⟨b,_|⟨c,l⟩⟩⟩⟩
 ·exact k1 _
 ·exact k1 _
 ·cases a<;>first|exact k0 _ _|exact k1 _
 ·exact k1 _
instance(ts:Array Wj)(t:Wj)(xs:Array R2):NM P (Builtin.unsafeString_ ts t xs):=by
 unfold Builtin.unsafeString_;refine qJ (NM P) _ _ _ (fun _ _=>?_) (fun _=>?_)<;>exact bI
theorem lY(Q:Sem R2→Prop)(xs:Array R2)(h0:ByteArray→Sem R2)(h1:Array R2→Sem R2)(k0:∀x,Q (h0 x))(k1:∀x,Q (h1 x)):Q (Builtin.unsafeStringData_.match_1 (fun _=>Sem R2) xs h0 h1):=by
 rcases xs with⟨_|⟨a,_|⟨b,l⟩⟩⟩
 ·exact k1 _
 ·cases a<;>first|exact k0 _|exact k1 _
 ·exact k1 _
instance(ts:Array Wj)(t:Wj)(xs:Array R2):NM P (Builtin.unsafeStringData_ ts t xs):=by
 unfold Builtin.unsafeStringData_;refine lY (NM P) _ _ _ (fun _=>?_) (fun _=>?_)<;>exact bI
instance(t:Wj)(x y:R2):NM P (Go.movedNumber t x y):=by
 unfold Go.movedNumber;exact bI
instance(t:Wj)(x y:R2):NM P (Go.movedPointer t x y):=by
 unfold Go.movedPointer;exact bI
instance(op:BinOp)(t:Wj)(x y:Operand)(a b:R2):NM P (Go.eqGuard op t x y a b):=by
 unfold Go.eqGuard;exact bI
instance(op:BinOp)(xType:Wj)(x y:R2):NM P (Go.binOp op xType x y):=by
 unfold Go.binOp;exact bI
instance(src dst:Wj)(x:R2):NM P (Go.convert src dst x):=by
 unfold Go.convert;exact bI
instance(ρ:Operand→R2)(c:Call)(type:Wj):NM P (Go.resolve ρ c type):=by
 unfold Go.resolve;exact bI
instance(t:Wj)(ps:Array (Nat×R2)):NM P (Instr.build t ps):=by
 unfold Instr.build;exact bI
instance(t:Wj)(n:Nat)(ps:Array (Nat×R2)):NM P (X5 t n ps):=by
 unfold X5;exact bI
end
end Nm
end Go.Proofs.YtpcnpkhgjanamaaGreatDoor
