/- A machine of our own for Go's operations,on memory of our own: what is called with known arguments is reckoned by the kernel. -/
import Derived.Calls
import Derived.Defers
import Derived.OrdersHeld
namespace Go.Proofs.YtbioaoangfiijaaGreatDoor
noncomputable section
namespace Xe
def oB {α β:Type} (x:Option α) (f:α → Option β):Option β:=@Option.rec α (fun _ => Option β) none f x
def bB {γ:Type} (b:Bool) (t f:γ):γ:=@Bool.rec (fun _ => γ) f t b
def pB {α β γ:Type} (p:α × β) (f:α → β → γ):γ:=@Prod.rec α β (fun _ => γ) f p
def lB {α γ:Type} (l:List α) (n:γ) (c:α → List α → γ):γ:=@List.rec α (fun _ => γ) n (fun a l _ => c a l) l
def nB {γ:Type} (n:Nat) (z:γ) (s:Nat → γ):γ:=Nat.rec (motive:=fun _ => γ) z (fun m _ => s m) n
def iB {γ:Type} (i:Int) (p n:Nat → γ):γ:=@Int.rec (fun _ => γ) p n i
def aB {γ:Type} (a:Addr) (f:Nat → Nat → Option Nat → γ):γ:=Addr.rec (motive:=fun _ => γ) f a
def aL {α:Type} (a:Array α):List α:=Array.rec (motive:=fun _ => List α) (fun l => l) a
def sL (s:ByteArray):List UInt8:=@ByteArray.rec (fun _ => List UInt8) (fun a => aL a) s
def nth {α:Type} (l:List α):Nat → Option α:=@List.rec α (fun _ => Nat → Option α) (fun _ => none) (fun a _ ih n => nB n (some a) ih) l
def vBool {γ:Type} (x:Value) (d:γ) (f:Bool → γ):γ:=@Value.rec (fun _ => γ) (fun _ => Unit) (fun _ => Unit) (f) (fun _ _ => d) (fun _ _ => d) (fun _ _ _ => d) (fun _ => d) (fun _ => d) (fun _ _ _ => d) (fun _ => d) (fun _ => d) (fun _ _ _ _ _ => d) (d) (fun _ _ _ => d) (d) (fun _ _ => d) (fun _ _ => d) (fun _ _ => ()) () (fun _ _ _ _ => ()) x
def vInt {γ:Type} (x:Value) (d:γ) (f:IntKind → Int → γ):γ:=@Value.rec (fun _ => γ) (fun _ => Unit) (fun _ => Unit) (fun _ => d) (f) (fun _ _ => d) (fun _ _ _ => d) (fun _ => d) (fun _ => d) (fun _ _ _ => d) (fun _ => d) (fun _ => d) (fun _ _ _ _ _ => d) (d) (fun _ _ _ => d) (d) (fun _ _ => d) (fun _ _ => d) (fun _ _ => ()) () (fun _ _ _ _ => ()) x
def vStr {γ:Type} (x:Value) (d:γ) (f:ByteArray → γ):γ:=@Value.rec (fun _ => γ) (fun _ => Unit) (fun _ => Unit) (fun _ => d) (fun _ _ => d) (fun _ _ => d) (fun _ _ _ => d) (f) (fun _ => d) (fun _ _ _ => d) (fun _ => d) (fun _ => d) (fun _ _ _ _ _ => d) (d) (fun _ _ _ => d) (d) (fun _ _ => d) (fun _ _ => d) (fun _ _ => ()) () (fun _ _ _ _ => ()) x
def vPtr {γ:Type} (x:Value) (d:γ) (f:Option Addr → γ):γ:=@Value.rec (fun _ => γ) (fun _ => Unit) (fun _ => Unit) (fun _ => d) (fun _ _ => d) (fun _ _ => d) (fun _ _ _ => d) (fun _ => d) (f) (fun _ _ _ => d) (fun _ => d) (fun _ => d) (fun _ _ _ _ _ => d) (d) (fun _ _ _ => d) (d) (fun _ _ => d) (fun _ _ => d) (fun _ _ => ()) () (fun _ _ _ _ => ()) x
def vSl {γ:Type} (x:Value) (d:γ) (f:Option Addr → Nat → Nat → γ):γ:=@Value.rec (fun _ => γ) (fun _ => Unit) (fun _ => Unit) (fun _ => d) (fun _ _ => d) (fun _ _ => d) (fun _ _ _ => d) (fun _ => d) (fun _ => d) (f) (fun _ => d) (fun _ => d) (fun _ _ _ _ _ => d) (d) (fun _ _ _ => d) (d) (fun _ _ => d) (fun _ _ => d) (fun _ _ => ()) () (fun _ _ _ _ => ()) x
def vMap {γ:Type} (x:Value) (d:γ) (f:Option Nat → γ):γ:=@Value.rec (fun _ => γ) (fun _ => Unit) (fun _ => Unit) (fun _ => d) (fun _ _ => d) (fun _ _ => d) (fun _ _ _ => d) (fun _ => d) (fun _ => d) (fun _ _ _ => d) (f) (fun _ => d) (fun _ _ _ _ _ => d) (d) (fun _ _ _ => d) (d) (fun _ _ => d) (fun _ _ => d) (fun _ _ => ()) () (fun _ _ _ _ => ()) x
def vFn {γ:Type} (x:Value) (d:γ) (f:Fn → Array Value → Array Value → γ):γ:=@Value.rec (fun _ => γ) (fun _ => Unit) (fun _ => Unit) (fun _ => d) (fun _ _ => d) (fun _ _ => d) (fun _ _ _ => d) (fun _ => d) (fun _ => d) (fun _ _ _ => d) (fun _ => d) (fun _ => d) (fun a b c _ _ => f a b c) (d) (fun _ _ _ => d) (d) (fun _ _ => d) (fun _ _ => d) (fun _ _ => ()) () (fun _ _ _ _ => ()) x
def vAgg {γ:Type} (x:Value) (d:γ) (f:Array Value → γ):γ:=@Value.rec (fun _ => γ) (fun _ => Unit) (fun _ => Unit) (fun _ => d) (fun _ _ => d) (fun _ _ => d) (fun _ _ _ => d) (fun _ => d) (fun _ => d) (fun _ _ _ => d) (fun _ => d) (fun _ => d) (fun _ _ _ _ _ => d) (d) (fun _ _ _ => d) (d) (fun a _ => f a) (fun _ _ => d) (fun _ _ => ()) () (fun _ _ _ _ => ()) x
def vTup {γ:Type} (x:Value) (d:γ) (f:Array Value → γ):γ:=@Value.rec (fun _ => γ) (fun _ => Unit) (fun _ => Unit) (fun _ => d) (fun _ _ => d) (fun _ _ => d) (fun _ _ _ => d) (fun _ => d) (fun _ => d) (fun _ _ _ => d) (fun _ => d) (fun _ => d) (fun _ _ _ _ _ => d) (d) (fun _ _ _ => d) (d) (fun _ _ => d) (fun a _ => f a) (fun _ _ => ()) () (fun _ _ _ _ => ()) x
def guardB {α:Type} (b:Bool) (x:Option α):Option α:=bB b x none
def noTup (v:Value):Bool:=vTup v true fun _ => false
def cellsL (x:Value):List Value:=vAgg x [x] aL
abbrev En:=Nat → Option Value
abbrev Hp:=Nat → Option Obj
structure S where
 c:Nat
 h:Hp
 ds:List (FuncId × List Value)
def sB {γ:Type} (s:S) (f:Nat → Hp → List (FuncId × List Value) → γ):γ:=@S.rec (fun _ => γ) f s
abbrev Cl:=FuncId → List Value → S → Option (Value × S)
abbrev F:=Cl → En → S → Nat → Option (Value × S)
def dead:Obj:=.coro none
def reb {α:Type} (x:Option α):Option α:=@Option.rec α (fun _ => Option α) none (fun a => some a) x
def setH (h:Hp) (b:Nat) (o:Obj):Hp:=fun x => bB (Nat.beq x b) (some o) (reb (h x))
def setE (e:En) (d:Nat) (v:Value):En:=fun t => bB (Nat.beq t d) (some v) (reb (e t))
def fN {α:Type} (n:Nat) (k:Nat → Option α):Option α:=nB n (k 0) (fun m => k (Nat.succ m))
def mkI (q:IntKind) (i:Int):Option Value:=iB i (fun n => fN n fun n => some (.int q (.ofNat n))) (fun n => fN n fun n => some (.int q (.negSucc n)))
def mkB (b:Bool):Option Value:=bB b (some (.bool true)) (some (.bool false))
def mkP (a:Addr):Option Value:=aB a fun b o sp => fN o fun o => some (.pointer (some ⟨b,o,sp⟩))
def mkA (a:Addr) (n z:Nat):Option Value:=aB a fun b o sp => fN o fun o => fN n fun n => some (.slice (some ⟨b,o,sp⟩) n z)
def getE (x:Option Value):Value:=@Option.rec Value (fun _ => Value) undef (fun v => v) x
def und (P:Program) (t:TypeId):Option TypeDesc:=P.underlying t
def tsz (P:Program) (t:TypeId):Option Nat:=match P.info? t with | some i => some i.size | none => none
def zerV (P:Program) (t:TypeId):Option Value:=match P.info? t with | some i => i.zero | none => none
def aggT (P:Program) (t:TypeId):Bool:=match und P t with
 | some (.struct _) => true
 | some (.array _ _) => true
 | _ => false
def obRow {γ:Type} (o:Obj) (d:γ) (f:Array Value → TypeId → Nat × Nat → γ):γ:=@Obj.rec (fun _ => γ) f (fun _ _ => d) (fun _ _ => d) (fun _ _ => d) (fun _ _ => d) (fun _ _ _ _ _ _ => d) (fun _ _ => d) (fun _ _ _ _ => d) (fun _ => d) (fun _ => d) (fun _ => d) (fun _ _ => d) o
def obMap {γ:Type} (o:Obj) (d:γ) (f:Array MapEntry → Nat → γ):γ:=@Obj.rec (fun _ => γ) (fun _ _ _ => d) (fun _ _ => d) (fun _ _ => d) (fun _ _ => d) f (fun _ _ _ _ _ _ => d) (fun _ _ => d) (fun _ _ _ _ => d) (fun _ => d) (fun _ => d) (fun _ => d) (fun _ _ => d) o
def rowOf (o:Option Obj):Option (List Value):=oB o fun o => obRow o none fun c _ _ => some (aL c)
def mapOf (o:Option Obj):Option (List MapEntry × Nat):=oB o fun o => obMap o none fun es k => some (aL es,k)
def takeN {α:Type} (n:Nat):List α → Option (List α):=Nat.rec (motive:=fun _ => List α → Option (List α)) (fun _ => some []) (fun _ ih l => lB l none fun a l => oB (ih l) fun r => some (a :: r)) n
def dropN {α:Type} (n:Nat):List α → List α:=Nat.rec (motive:=fun _ => List α → List α) (fun l => l) (fun _ ih l => lB l [] fun _ l => ih l) n
def noSp {γ:Type} (sp:Option Nat) (x:Option γ):Option γ:=@Option.rec Nat (fun _ => Option γ) x (fun _ => none) sp
def readN (h:Hp) (a:Addr) (n:Nat):Option (List Value):=aB a fun b o sp => noSp sp (oB (rowOf (h b)) fun c => takeN n (dropN o c))
def over (c:List Value) (vs:List Value):Option (List Value):=@List.rec Value (fun _ => List Value → Option (List Value)) (fun c => some c) (fun v _ ih c => lB c none fun _ c => oB (ih c) fun r => some (v :: r)) vs c
def overAt (n:Nat) (c vs:List Value):Option (List Value):=Nat.rec (motive:=fun _ => List Value → Option (List Value)) (fun c => over c vs) (fun _ ih c => lB c none fun x c => oB (ih c) fun r => some (x :: r)) n c
def writeN (s:S) (a:Addr) (vs:List Value):Option S:=aB a fun b o sp => noSp sp (sB s fun k h ds => guardB (Nat.ble 3 b) <| oB (h b) fun ob => obRow ob none fun c e f => oB (overAt o (aL c) vs) fun c' => some ⟨k,setH h b (.cells c'.toArray e f),ds⟩)
def ev (e:En) (x:Operand):Value:=@Operand.rec (fun _ => Value) (fun t => getE (e t)) (fun v => v) (fun g => .pointer (some ⟨g,0,none⟩)) (fun f => .func (.func f) #[] #[]) x
def evs (e:En) (l:List Operand):List Value:=@List.rec Operand (fun _ => List Value) [] (fun x _ ih => ev e x :: ih) l
def addA (a:Addr) (n:Nat):Addr:=nB n a fun m => aB a fun b o _ => ⟨b,Nat.add o (Nat.succ m),none⟩
def bytesEq (l:List UInt8):List UInt8 → Bool:=@List.rec UInt8 (fun _ => List UInt8 → Bool) (fun m => lB m true fun _ _ => false) (fun a _ ih m => lB m false fun b m => bB (Nat.beq a.toNat b.toNat) (ih m) false) l
def kno:IntKind → Nat
 | .i8 => 0 | .i16 => 1 | .i32 => 2 | .i64 => 3 | .u8 => 4 | .u16 => 5 | .u32 => 6 | .u64 => 7
def eqI (a b:Int):Bool:=iB a (fun a => iB b (fun b => Nat.beq a b) (fun _ => false)) (fun a => iB b (fun _ => false) (fun b => Nat.beq a b))
def leI (a b:Int):Bool:=iB a (fun a => iB b (fun b => Nat.ble a b) (fun _ => false)) (fun a => iB b (fun _ => true) (fun b => Nat.ble b a))
def top:IntKind → Nat
 | .i8 => 128 | .i16 => 32768 | .i32 => 2147483648 | .i64 => 9223372036854775808 | .u8 => 256 | .u16 => 65536 | .u32 => 4294967296 | .u64 => 18446744073709551616
def wrapI (k:IntKind) (i:Int):Int:=iB i (fun n => bB (Nat.ble (top k) n) (k.wrap (.ofNat n)) (.ofNat n)) (fun n => k.wrap (.negSucc n))
def addI (a b:Int):Int:=iB a (fun x => iB b (fun y => .ofNat (Nat.add x y)) (fun _ => Int.add a b)) (fun _ => Int.add a b)
def not' (b:Bool):Bool:=bB b false true
def binI (op:BinOp) (k:IntKind) (a b:Int):Option Value:=match op with
 | .add => mkI k (wrapI k (addI a b))
 | .sub => mkI k (wrapI k (Int.sub a b))
 | .mul => mkI k (wrapI k (Int.mul a b))
 | .eql => mkB (eqI a b)
 | .neq => mkB (not' (eqI a b))
 | .lss => mkB (not' (leI b a))
 | .leq => mkB (leI a b)
 | .gtr => mkB (not' (leI a b))
 | .geq => mkB (leI b a)
 | _ => none
def binS (op:BinOp) (a b:ByteArray):Option Value:=match op with
 | .eql => mkB (bytesEq (sL a) (sL b))
 | .neq => mkB (not' (bytesEq (sL a) (sL b)))
 | _ => none
def bin (op:BinOp) (x y:Value):Option Value :=
 vInt x (vStr x none fun a => vStr y none fun b => binS op a b)
  fun k a => vInt y none fun k' b => bB (Nat.beq (kno k) (kno k')) (binI op k a b) none
def fillL (place:Nat → Option (Nat × Nat)) (l:List (Nat × Value)):List Value → Option (List Value) :=
 @List.rec (Nat × Value) (fun _ => List Value → Option (List Value)) (fun c => some c) (fun p _ ih c => pB p fun i v => oB (place i) fun q => pB q fun off z => guardB (noTup v) (guardB (Nat.beq z (cellsL v).length) (oB (overAt off c (cellsL v)) fun c => ih c))) l
def places (P:Program):List Field → List (Nat × Nat)
 | [] => []
 | f :: l => (f.offset,(tsz P f.type).getD 0) :: places P l
def repl (z:List Value) (n:Nat):List Value:=Nat.rec (motive:=fun _ => List Value) [] (fun _ ih => z ++ ih) n
def agg (l:Option (List Value)):Option Value:=oB l fun l => some (.agg l.toArray)
def partL (ag:Bool) (n:Nat) (cs:List Value) (off:Nat):Option Value:=bB ag (agg (takeN n (dropN off cs))) (nth cs off)
def boundL (x:Option Value) (d m:Nat):Option Nat:=@Option.rec Value (fun _ => Option Nat) (some d) (fun v => vInt v none fun _ i => iB i (fun n => bB (Nat.ble n m) (some n) none) (fun _ => none)) x
def lost:Value:=.slice (some ⟨0,0,some 0⟩) 0 0
def sliceS (s:ByteArray) (lo hi:Option Value):Option Value :=
 oB (boundL hi (sL s).length (sL s).length) fun h => oB (boundL lo 0 h) fun l => oB (takeN (Nat.sub h l) (dropN l (sL s))) fun r => some (.string ⟨r.toArray⟩)
def sliceR (z:Nat) (a:Addr) (n k:Nat) (lo hi:Option Value):Option Value :=
 oB (boundL hi n n) fun h => oB (boundL lo 0 h) fun l => guardB (Nat.beq k z) (noSp a.spot (bB (Nat.ble n l) (nB l (mkA a (Nat.sub h l) z) fun _ => some lost) (mkA (addA a (Nat.mul l z)) (Nat.sub h l) z)))
def sliceV (z:Option Nat) (x:Value) (lo hi:Option Value):Option Value:=match z with
 | none => vStr x none fun s => sliceS s lo hi
 | some z => vSl x none fun a n k => @Option.rec Addr (fun _ => Option Value) (nB n (oB (boundL hi 0 0) fun h => oB (boundL lo 0 h) fun _ => some (.slice none 0 0)) fun _ => none) (fun a => sliceR z a n k lo hi) a
def keyFit (ks:Bool) (k:Value):Bool:=bB ks (vStr k false fun _ => true) (vInt k false fun _ _ => true)
def keyS (P:Program) (t:TypeId):Option Bool:=match und P t with
 | some .string => some true
 | some (.int _) => some false
 | _ => none
def keyEq (k l:Value):Option Bool:=vStr k (vInt k none fun ka a => vInt l none fun kb b => bB (Nat.beq (kno ka) (kno kb)) (some (eqI a b)) none) fun a => vStr l none fun b => some (bytesEq (sL a) (sL b))
def findE (k:Value) (es:List MapEntry):Nat → Option (Option (Nat × Value)):=@List.rec MapEntry (fun _ => Nat → Option (Option (Nat × Value))) (fun _ => some none)
 (fun e _ ih i => oB (keyEq k e.key) fun b => bB b (some (some (i,e.val))) (ih (Nat.succ i))) es
def flat (x:Value):Bool:=@Value.rec (fun _ => Bool) (fun _ => Unit) (fun _ => Unit) (fun _ => true) (fun _ _ => true) (fun _ _ => false) (fun _ _ _ => false) (fun _ => true) (fun _ => true) (fun _ _ _ => true) (fun _ => true) (fun _ => false) (fun _ _ _ _ _ => false) true (fun _ _ _ => false) false (fun _ _ => false) (fun _ _ => false) (fun _ _ => ()) () (fun _ _ _ _ => ()) x
def flats (l:List Value):Bool:=@List.rec Value (fun _ => Bool) true (fun v _ ih => bB (flat v) ih false) l
def ret (v:Option Value) (s:S):Option (Value × S):=oB v fun v => some (v,s)
def fMove (x:Operand):F:=fun _ e s _ => some (ev e x,s)
def pickV (c a b:Value) (s:S):Option (Value × S):=vBool c none fun t => bB t (some (a,s)) (some (b,s))
def fPick (c a b:Operand):F:=fun _ e s _ => pickV (ev e c) (ev e a) (ev e b) s
def one (l:List Value) (s:S):Option (Value × S):=lB l none fun v _ => some (v,s)
def ptr (x:Value):Option Addr:=vPtr x none fun a => a
def fLoad1 (x:Operand):F:=fun _ e s _ => oB (ptr (ev e x)) fun a => oB (readN s.h a 1) fun l => one l s
def fLoadN (n:Nat) (x:Operand):F:=fun _ e s _ => oB (ptr (ev e x)) fun a => oB (readN s.h a n) fun l => some (.agg l.toArray,s)
def fNil (x:Operand):F:=fun _ e s _ => oB (ptr (ev e x)) fun a => some (.pointer (some a),s)
def fBin (op:BinOp) (x y:Operand):F:=fun _ e s _ => ret (bin op (ev e x) (ev e y)) s
def fNot (x:Operand):F:=fun _ e s _ => vBool (ev e x) none fun b => ret (mkB (not' b)) s
def fConv (k:IntKind) (x:Operand):F:=fun _ e s _ => vInt (ev e x) none fun _ n => ret (mkI k (wrapI k n)) s
def fFunc (fn:Fn) (first captured:List Operand):F:=fun _ e s _ => guardB (flats (evs e first)) (guardB (flats (evs e captured)) (some (.func fn (evs e first).toArray (evs e captured).toArray,s)))
def evO (e:En) (x:Option Operand):Option Value:=oB x fun x => some (ev e x)
def fSlice (z:Option Nat) (x:Operand) (lo hi:Option Operand):F:=fun _ e s _ => ret (sliceV z (ev e x) (evO e lo) (evO e hi)) s
def fAdd (off:Nat) (x:Operand):F:=fun _ e s _ => oB (ptr (ev e x)) fun a => ret (mkP (addA a off)) s
def fField (ag:Bool) (n off:Nat) (x:Operand):F:=fun _ e s _ => vAgg (ev e x) none fun cs => ret (partL ag n (aL cs) off) s
def idxA (z n:Nat) (a:Addr) (i:Value):Option Value:=vInt i none fun _ i => iB i (fun i => bB (Nat.ble n i) none (mkP (addA a (Nat.mul i z)))) (fun _ => none)
def fIdx (z:Nat) (x i:Operand):F:=fun _ e s _ => vSl (ev e x) none fun a n _ => oB a fun a => ret (idxA z n a (ev e i)) s
def fIdxP (z n:Nat) (x i:Operand):F:=fun _ e s _ => oB (ptr (ev e x)) fun a => ret (idxA z n a (ev e i)) s
def idxS (b:ByteArray) (i:Value):Option Value:=vInt i none fun _ i => iB i (fun i => oB (nth (sL b) i) fun c => mkI .u8 (.ofNat c.toNat)) (fun _ => none)
def fIdxS (x i:Operand):F:=fun _ e s _ => vStr (ev e x) none fun b => ret (idxS b (ev e i)) s
def idxG (ag:Bool) (z n:Nat) (cs:Array Value) (i:Value):Option Value:=vInt i none fun _ i => iB i (fun i => bB (Nat.ble n i) none (partL ag z (aL cs) (Nat.mul i z))) (fun _ => none)
def fIdxG (ag:Bool) (z n:Nat) (x i:Operand):F:=fun _ e s _ => vAgg (ev e x) none fun cs => ret (idxG ag z n cs (ev e i)) s
def mapAt (h:Hp) (m:Value):Option (List MapEntry × Nat):=vMap m none fun r => @Option.rec Nat (fun _ => Option (List MapEntry × Nat)) (some ([],0)) (fun r => mapOf (h r)) r
def okV (ok:Bool) (v:Value) (b:Bool):Value:=bB ok (.tuple #[v,.bool b]) v
def lookV (z:Value) (ok:Bool) (r:Option (Nat × Value)):Value:=@Option.rec (Nat × Value) (fun _ => Value) (okV ok z false) (fun p => pB p fun _ v => okV ok v true) r
def fLookup (ks:Bool) (z:Value) (ok:Bool) (x i:Operand):F:=fun _ e s _ => guardB (keyFit ks (ev e i)) <| oB (mapAt s.h (ev e x)) fun es => pB es fun es _ => oB (findE (ev e i) es 0) fun r => some (lookV z ok r,s)
def fExt (x:Operand) (i:Nat):F:=fun _ e s _ => vTup (ev e x) none fun vs => ret (nth (aL vs) i) s
def evP (e:En) (l:List (Nat × Operand)):List (Nat × Value):=@List.rec (Nat × Operand) (fun _ => List (Nat × Value)) [] (fun p _ ih => pB p (fun i x => (i,ev e x)) :: ih) l
def fBuild (pl:List (Nat × Nat)) (z:List Value) (parts:List (Nat × Operand)):F:=fun _ e s _ => oB (fillL (nth pl) (evP e parts) z) fun l => some (.agg l.toArray,s)
def fLenS (x:Operand):F:=fun _ e s _ => vStr (ev e x) none fun b => ret (mkI .i64 (.ofNat (sL b).length)) s
def fLenR (x:Operand):F:=fun _ e s _ => vSl (ev e x) none fun _ n _ => ret (mkI .i64 (.ofNat n)) s
def fLenM (x:Operand):F:=fun _ e s _ => oB (mapAt s.h (ev e x)) fun p => pB p fun es _ => ret (mkI .i64 (.ofNat es.length)) s
def newAt (s:S) (nm:Nat) (o:Obj) (f:Nat → Value):Option (Value × S):=fN nm fun nm => sB s fun c h ds => some (f nm,⟨c,setH h nm o,ds⟩)
def fAlloc (o:Obj):F:=fun _ _ s nm => newAt s nm o fun nm => .pointer (some ⟨nm,0,none⟩)
def fBox (t:TypeId) (x:Operand):F:=fun _ e s nm => guardB (noTup (ev e x)) <| newAt s nm (.cells (cellsL (ev e x)).toArray t) fun nm => .pointer (some ⟨nm,0,none⟩)
def fRow (el z n:Nat) (zs:List Value) (parts:List (Nat × Operand)):F:=fun _ e s nm =>
 oB (fillL (fun i => some (Nat.mul i z,z)) (evP e parts) zs) fun l => newAt s nm (.cells l.toArray el) fun nm => .slice (some ⟨nm,0,none⟩) n z
def fMap:F:=fun _ _ s nm => newAt s nm (.map #[] 0) fun nm => .map (some nm)
def natV (x:Value):Option Nat:=vInt x none fun _ i => iB i some fun _ => none
def fMake (el z by':Nat) (zs:List Value) (x c:Operand):F:=fun _ e s nm => oB (natV (ev e x)) fun n => oB (natV (ev e c)) fun k => guardB (Nat.beq n k) (guardB (Nat.ble n 1000000) (guardB (Nat.ble by' 1000000)
 (newAt s nm (.cells (repl zs n).toArray el) fun nm => .slice (some ⟨nm,0,none⟩) n z)))
def unit (s:Option S):Option (Value × S):=oB s fun s => some (undef,s)
def fStore (n:Nat) (a x:Operand):F:=fun _ e s _ => oB (ptr (ev e a)) fun a => guardB (noTup (ev e x)) (guardB (Nat.beq n (cellsL (ev e x)).length) (unit (writeN s a (cellsL (ev e x)))))
def updM (s:S) (r:Nat) (es:List MapEntry) (cl:Nat) (k v:Value) (f:Option (Nat × Value)):Option S:=@Option.rec (Nat × Value) (fun _ => Option S)
 (some ⟨s.c,setH s.h r (.map (es ++ [(⟨k,v,cl⟩:MapEntry)]).toArray (cl + 1)),s.ds⟩)
 (fun p => oB (nth es p.1) fun en => some ⟨s.c,setH s.h r (.map (es.set p.1 (⟨k,v,en.born⟩:MapEntry)).toArray cl),s.ds⟩) f
def mref (x:Value):Option Nat:=vMap x none fun r => r
def fUpd (ks:Bool) (m k x:Operand):F:=fun _ e s _ => guardB (noTup (ev e x)) <| guardB (keyFit ks (ev e k)) <| oB (mref (ev e m)) fun r => guardB (Nat.ble 3 r) <| oB (mapOf (s.h r)) fun p => pB p fun es cl => oB (findE (ev e k) es 0) fun f => unit (updM s r es cl (ev e k) (ev e x) f)
def appN (el z:Nat) (s:S) (a:Option Addr) (n k m:Nat) (b:Addr) (new:List Value):Option (Value × S):=@Option.rec Addr (fun _ => Option (Value × S))
 (nB n (sB s fun c h ds => fN c fun c => some (.slice (some ⟨c,0,none⟩) m z,⟨Nat.succ c,setH h c (.cells new.toArray el),ds⟩)) fun _ => none)
 (fun a => aB a fun ab ao sp => noSp sp (guardB (Nat.beq k z) (guardB (Nat.ble 3 ab) (nB ao (bB (Nat.beq ab b.block) none (oB (readN s.h a (Nat.mul n z)) fun old => sB s fun c h ds => fN c fun c => fN (Nat.add n m) fun nm => some (.slice (some ⟨c,0,none⟩) nm z,⟨Nat.succ c,setH (setH h ab dead) c (.cells (old ++ new).toArray el),ds⟩))) fun _ => none)))) a
def appV (el z:Nat) (s:S) (x y:Value):Option (Value × S):=vSl x none fun a n k => vSl y none fun b m _ => nB m (some (.slice a n k,s)) fun m => guardB (Nat.ble (Nat.add n (Nat.succ m)) 1000000) (oB b fun b => oB (readN s.h b (Nat.mul (Nat.succ m) z)) fun new => appN el z s a n k (Nat.succ m) b new)
def fApp (el z:Nat) (x y:Operand):F:=fun _ e s _ => appV el z s (ev e x) (ev e y)
def delM (s:S) (r:Nat) (es:List MapEntry) (cl:Nat) (f:Option (Nat × Value)):S:=@Option.rec (Nat × Value) (fun _ => S) s (fun p => ⟨s.c,setH s.h r (.map (es.eraseIdx p.1).toArray cl),s.ds⟩) f
def fDel (ks:Bool) (m k:Operand):F:=fun _ e s _ => guardB (keyFit ks (ev e k)) <| oB (mref (ev e m)) fun r => guardB (Nat.ble 3 r) <| oB (mapOf (s.h r)) fun p => pB p fun es cl => oB (findE (ev e k) es 0) fun f => some (.tuple #[],delM s r es cl f)
def callee (f:Value) (args:List Value):Option (FuncId × List Value):=vFn f none fun fn first cap => match fn with
 | .func g => some (g,aL first ++ (args ++ aL cap))
 | _ => none
def fCall (f:Operand) (args:List Operand):F:=fun call e s _ => oB (callee (ev e f) (evs e args)) fun p => pB p fun g as' => call g as' s
def fDefer (f:Operand) (args:List Operand):F:=fun _ e s _ => oB (callee (ev e f) (evs e args)) fun p => sB s fun c h ds => some (undef,⟨c,h,p :: ds⟩)
def ok0 (x:Value):Bool:=Value.rec (motive_1:=fun _ => Bool) (motive_2:=fun _ => Unit) (motive_3:=fun _ => Unit) (fun _ => true) (fun _ _ => true) (fun _ _ => false) (fun _ _ _ => false) (fun _ => true) (fun a => a.isNone) (fun a n c => a.isNone && (Nat.beq n 0 && Nat.beq c 0)) (fun r => r.isNone) (fun _ => false) (fun _ _ _ _ _ => false) true (fun _ _ _ => false) false (fun _ _ => false) (fun _ _ => false) (fun _ _ => ()) () (fun _ _ _ _ => ()) x
def okV' (x:Value):Bool:=ok0 x || vAgg x false fun cs => (aL cs).all ok0
def compB (P:Program) (c:Call) (b:Builtin):Option F:=match b with
 | .len => match c.args.toList,c.argTypes.toList with
  | [x],t :: _ => match und P t with
   | some .string => some (fLenS x)
   | some (.slice _) => some (fLenR x)
   | some (.map _ _) => some (fLenM x)
   | _ => none
  | _,_ => none
 | .append => match c.args.toList,c.argTypes.toList with
  | [x,y],[t,t'] => match und P t with
   | some (.slice el) => oB (P.info? el) fun i => oB i.zero fun zs => guardB (Nat.beq t t') (guardB (Nat.beq zs.cells.size i.size) (guardB (Nat.ble 1 i.size) (guardB (Nat.ble i.bytes 1000000) (some (fApp el i.size x y)))))
   | _ => none
  | _,_ => none
 | .delete => match c.args.toList,c.argTypes.toList with
  | [x,k],t :: _ => match und P t with
   | some (.map kt _) => oB (keyS P kt) fun ks => some (fDel ks x k)
   | _ => none
  | _,_ => none
 | _ => none
def compC (P:Program) (c:Call):Option F:=match c.callee with
 | .value f => some (fCall f c.args.toList)
 | .builtin b => compB P c b
 | _ => none
def compFA (P:Program) (t:TypeId) (x:Operand) (f:Nat):Option F:=match und P t with
 | some (.struct fs) => oB (nth fs.toList f) fun fd => match tsz P fd.type with
  | some (_ + 1) => some (fAdd fd.offset x)
  | _ => none
 | _ => none
def compF (P:Program) (t:TypeId) (x:Operand) (f:Nat):Option F:=match und P t with
 | some (.struct fs) => oB (nth fs.toList f) fun fd => oB (und P fd.type) fun _ => oB (tsz P fd.type) fun n => some (fField (aggT P fd.type) n fd.offset x)
 | _ => none
def compIA (P:Program) (t:TypeId) (x i:Operand):Option F:=match und P t with
 | some (.slice el) => oB (tsz P el) fun z => some (fIdx z x i)
 | some (.array n el) => oB (tsz P el) fun z => some (fIdxP z n x i)
 | _ => none
def compI (P:Program) (t:TypeId) (x i:Operand):Option F:=match und P t with
 | some .string => some (fIdxS x i)
 | some (.array n el) => oB (und P el) fun _ => oB (tsz P el) fun z => some (fIdxG (aggT P el) z n x i)
 | _ => none
def compL (P:Program) (t:TypeId) (x i:Operand) (ok:Bool):Option F:=match und P t with
 | some (.map k el) => oB (keyS P k) fun ks => oB (zerV P el) fun z => guardB (okV' z) (some (fLookup ks z ok x i))
 | _ => none
def compS (P:Program) (t:TypeId) (x:Operand) (lo hi:Option Operand):Option F:=match und P t with
 | some .string => some (fSlice none x lo hi)
 | some (.slice el) => oB (tsz P el) fun z => some (fSlice (some z) x lo hi)
 | _ => none
def compBu (P:Program) (t:TypeId) (parts:List (Nat × Operand)):Option F:=match und P t with
 | some (.struct fs) => oB (zerV P t) fun z => guardB (okV' z) (guardB (fs.toList.all fun f => (tsz P f.type).isSome) (some (fBuild (places P fs.toList) z.cells.toList parts)))
 | _ => none
def compR (P:Program) (t:TypeId) (n:Nat) (parts:List (Nat × Operand)):Option F:=match und P t with
 | some (.slice el) => oB (tsz P el) fun z => oB (zerV P el) fun zs => guardB (okV' zs) (guardB (Nat.beq zs.cells.size z) (guardB (Nat.ble (Nat.mul n z) 16777216) (guardB (Nat.ble 1 z) (some (fRow el z n (repl zs.cells.toList n) parts)))))
 | _ => none
def compM (P:Program) (t:TypeId) (x c:Operand):Option F:=match und P t with
 | some (.slice el) => oB (P.info? el) fun i => oB i.zero fun zs => guardB (okV' zs) (guardB (Nat.beq zs.cells.size i.size) (guardB (Nat.ble 1 i.size) (some (fMake el i.size i.bytes zs.cells.toList x c))))
 | _ => none
def comp (P:Program) (o:Op):Option F:=match o with
 | .move x => some (fMove x)
 | .assign x => some (fMove x)
 | .pick c a b => some (fPick c a b)
 | .load t x => oB (und P t) fun _ => match aggT P t with
  | true => oB (tsz P t) fun n => some (fLoadN n x)
  | false => some (fLoad1 x)
 | .nilCheck x => some (fNil x)
 | .binOp op _ x y _ => some (fBin op x y)
 | .unOp .not _ x => some (fNot x)
 | .convert src dst x => oB (und P src) fun _ => match und P dst with | some (.int k) => some (fConv k x) | _ => none
 | .makeFunc fn first captured => some (fFunc fn first.toList captured.toList)
 | .slice t x lo hi none => compS P t x lo hi
 | .fieldAddr t x f => compFA P t x f
 | .field t x f => compF P t x f
 | .indexAddr t x i => compIA P t x i
 | .index t x i => compI P t x i
 | .lookup t x i ok => compL P t x i ok
 | .extract t i => some (fExt t i)
 | .build t parts => compBu P t parts.toList
 | .call c => compC P c
 | .alloc t => oB (zerV P t) fun z => guardB (okV' z) (some (fAlloc (.cells z.cells t)))
 | .box t x => some (fBox t x)
 | .buildSlice t n parts => compR P t n parts.toList
 | .makeMap _ none => some fMap
 | .makeSlice t l c => compM P t l c
 | .store t a x => oB (tsz P t) fun n => some (fStore n a x)
 | .mapUpdate t m k x => match und P t with | some (.map kt _) => oB (keyS P kt) fun ks => some (fUpd ks m k x) | _ => none
 | .insert t m k x => match und P t with | some (.map kt _) => oB (keyS P kt) fun ks => some (fUpd ks m k x) | _ => none
 | .defer c => match c.callee with | .value f => some (fDefer f c.args.toList) | _ => none
 | _ => none
structure St where
 g:Option (Nat × Bool)
 d:Option Nat
 f:F
def tB {γ:Type} (t:St) (k:Option (Nat × Bool) → Option Nat → F → γ):γ:=@St.rec (fun _ => γ) k t
def guardOf (ops:List Oper) (o:Oper):Option (Option (Nat × Bool)):=match o.guard with
 | none => some none
 | some (j,b) => oB (nth ops j) fun g => oB g.dst fun d => some (some (d,b))
def okX:Operand → Bool
 | .const v => okV' v
 | .global g => Nat.ble (Nat.succ g) 3
 | _ => true
def okOp (o:Op):Bool:=(aL o.operands).all okX
def dstOk (nt:Nat) (d:Option Nat):Bool:=@Option.rec Nat (fun _ => Bool) true (fun d => Nat.ble (Nat.succ d) nt) d
def compL1 (P:Program) (nt:Nat) (ops:List Oper):List Oper → Option (List St)
 | [] => some []
 | o :: l => guardB (okOp o.op) <| guardB (dstOk nt o.dst) (oB (guardOf ops o) fun g => oB (comp P o.op) fun f => oB (compL1 P nt ops l) fun r => some (⟨g,o.dst,f⟩ :: r))
def put (e:En) (d:Option Tmp) (v:Value):En:=@Option.rec Tmp (fun _ => En) e (fun d => setE e d v) d
def isB (v:Value) (b:Bool):Bool:=vBool v false fun x => bB x b (not' b)
def want (g:Option (Nat × Bool)) (e:En):Bool:=@Option.rec (Nat × Bool) (fun _ => Bool) true (fun p => pB p fun d b => isB (getE (e d)) b) g
def bindS {β:Type} (x:Option (Value × S)) (f:Value → S → Option β):Option β:=oB x fun p => pB p f
def runL (call:Cl) (l:List St):Nat → En → S → Option (En × S):=@List.rec St (fun _ => Nat → En → S → Option (En × S)) (fun _ e s => some (e,s))
 (fun t _ ih nm e s => tB t fun g d f => bB (want g e) (bindS (f call e s nm) fun v s' => ih (Nat.succ nm) (put e d v) s') (ih (Nat.succ nm) (put e d undef) s)) l
structure R where
 k:Nat
 e:En
 s:S
def rB {γ:Type} (r:R) (f:Nat → En → S → γ):γ:=@R.rec (fun _ => γ) f r
def onL (r:Option (En × S)):Option R:=oB r fun p => pB p fun e s => some ⟨0,e,s⟩
def thenR (r:Option R) (f:En → S → Option R):Option R:=oB r fun r => rB r fun k e s => nB k (f e s) fun k => some ⟨Nat.succ k,e,s⟩
def blockR (id:Nat) (r:Option R):Option R:=oB r fun r => rB r fun k e s => bB (Nat.beq k (Nat.add id 2)) (some ⟨0,e,s⟩) (some ⟨k,e,s⟩)
def condR (v:Value) (x y:Option R):Option R:=vBool v none fun b => bB b x y
def cls:Op → Nat
 | .alloc _ | .box .. | .buildSlice .. | .makeMap .. | .makeSlice .. => 1
 | .store .. | .mapUpdate .. | .insert .. | .defer _ => 2
 | .call c => match c.callee with
  | .builtin .len => 0
  | _ => 2
 | _ => 0
def eqA:Option Addr → Option Addr → Bool
 | none,none => true
 | some a,some b => Nat.beq a.block b.block && (Nat.beq a.off b.off && (a.spot.isNone && b.spot.isNone))
 | _,_ => false
def eqN:Option Nat → Option Nat → Bool
 | none,none => true
 | some a,some b => Nat.beq a b
 | _,_ => false
def all2 (p:Value → Value → Bool):List Value → List Value → Bool
 | [],[] => true
 | a :: l,b :: m => bB (p a b) (all2 p l m) false
 | _,_ => false
def eq0:Value → Value → Bool
 | .bool a,.bool b => bB a b (not' b)
 | .int k a,.int l b => Nat.beq (kno k) (kno l) && eqI a b
 | .string a,.string b => bytesEq (sL a) (sL b)
 | .pointer a,.pointer b => eqA a b
 | .slice a n c,.slice b m d => eqA a b && (Nat.beq n m && Nat.beq c d)
 | .map a,.map b => eqN a b
 | .nilFunc,.nilFunc => true
 | _,_ => false
def eq1 (x y:Value):Bool:=eq0 x y || match x,y with
 | .func (.func f) a b,.func (.func g) c d => Nat.beq f g && (all2 eq0 (aL a) (aL c) && all2 eq0 (aL b) (aL d))
 | _,_ => false
def eq2 (x y:Value):Bool:=eq1 x y || match x,y with
 | .agg a,.agg b => all2 eq1 (aL a) (aL b)
 | _,_ => false
def eqV (x y:Value):Bool:=eq2 x y || match x,y with
 | .tuple a,.tuple b => all2 eq2 (aL a) (aL b)
 | _,_ => false
def tb (m k:Nat):Bool:=Nat.beq (Nat.land (Nat.shiftRight m k) 1) 1
def edgeM (acc:List Nat):List Edge → Nat
 | [] => 0
 | e :: l => bB (Region.binds .any e) (Nat.lor (Nat.lor (Nat.shiftLeft 1 e.on) ((nth acc e.on).getD 0)) (edgeM acc l)) (edgeM acc l)
def masksFrom (acc:List Nat):List Oper → List Nat
 | [] => acc
 | o :: l => masksFrom (acc ++ [edgeM acc (aL o.after)]) l
def mAt (ms:List Nat) (i:Nat):Nat:=(nth ms i).getD 0
def countB (p:Nat → Bool):List Nat → Nat
 | [] => 0
 | a :: l => bB (p a) (Nat.succ (countB p l)) (countB p l)
def effs:List Oper → Nat → List Nat
 | [],_ => []
 | o :: l,i => bB (Nat.beq (cls o.op) 2) (i :: effs l (Nat.succ i)) (effs l (Nat.succ i))
def writer (t:Nat):List Oper → Nat → Option Nat
 | [],_ => none
 | o :: l,i => bB (eqN o.dst (some t)) (some i) (writer t l (Nat.succ i))
structure Dp where
 i:Nat
 st:St
 m:Nat
 c:Nat
 lo:Nat
 hi:Nat
def dB {γ:Type} (d:Dp) (f:Nat → St → Nat → Nat → Nat → Nat → γ):γ:=@Dp.rec (fun _ => γ) f d
def dps (ms es:List Nat):List St → List Oper → Nat → List Dp
 | t :: l,o :: r,i => ⟨i,t,mAt ms i,cls o.op,countB (fun e => tb (mAt ms i) e) es,countB (fun e => not' (tb (mAt ms e) i)) es⟩ :: dps ms es l r (Nat.succ i)
 | _,_,_ => []
def dstSeen (ops:Array Oper) (ms:List Nat) (i j:Nat) (x y:Oper):Bool:=match y.dst with
 | none => true
 | some d => not' (eqN x.dst (some d)) && (not' ((x.looksAt ops).any fun t => Nat.beq t d) || (tb (mAt ms i) j || tb (mAt ms j) i))
def pairOk (ops:Array Oper) (ms:List Nat) (i j:Nat) (x y:Oper):Bool :=
 Nat.beq i j || (dstSeen ops ms i j x y && (not' (tb (mAt ms i) j) || Nat.beq (Nat.land (mAt ms j) (mAt ms i)) (mAt ms j)))
def oneOk (ms:List Nat) (p:Nat × Oper):Bool:=Nat.beq (mAt ms p.1) (edgeM ms (aL p.2.after)) && Nat.ble (Nat.succ (mAt ms p.1)) (Nat.shiftLeft 1 p.1)
def allPairs (p:Nat → Nat → Oper → Oper → Bool) (l:List (Nat × Oper)):Bool:=l.all fun a => l.all fun b => p a.1 b.1 a.2 b.2
def number {α:Type}:List α → Nat → List (Nat × α)
 | [],_ => []
 | a :: l,i => (i,a) :: number l (Nat.succ i)
def chainOk (ms:List Nat):List Nat → Bool
 | [] => true
 | e :: l => l.all (fun f => tb (mAt ms f) e) && chainOk ms l
def drawOk (ops:Array Oper):Bool:=(number (aL ops) 0).all (oneOk (masksFrom [] (aL ops))) && (allPairs (pairOk ops (masksFrom [] (aL ops))) (number (aL ops) 0) && chainOk (masksFrom [] (aL ops)) (effs (aL ops) 0))
def envD (wr:Nat → Option Nat) (m:Nat) (vs e0:En):En:=fun t => @Option.rec Nat (fun _ => Option Value) (reb (e0 t)) (fun j => bB (tb m j) (reb (vs j)) (reb (e0 t))) (wr t)
def evalD (call:Cl) (t:St) (e:En) (s:S) (nm:Nat):Option (Value × S):=tB t fun g _ f => bB (want g e) (f call e s nm) (some (undef,s))
def seen (n m:Nat) (vs:En):Bool:=(List.range n).all fun j => not' (tb m j) || (vs j).isSome
def addS (n:Nat) (wr:Nat → Option Nat) (call:Cl) (e0:En) (nm0 k:Nat) (s:S):List Dp → En → Option En
 | [],vs => some vs
 | d :: l,vs => dB d fun i t m c lo _ => bB (Nat.beq c 2) (addS n wr call e0 nm0 k s l vs) (bB (Nat.beq lo k)
   (guardB (seen n m vs) (guardB ((vs i).isNone) (bindS (evalD call t (envD wr m vs e0) s (Nat.add nm0 i)) fun v _ => addS n wr call e0 nm0 k s l (setE vs i v))))
   (addS n wr call e0 nm0 k s l vs))
def chkR (wr:Nat → Option Nat) (call:Cl) (e0 vs:En) (nm0:Nat) (s:S) (i:Nat) (t:St) (m:Nat):Bool:=@Option.rec (Value × S) (fun _ => Bool) false (fun p => pB p fun v _ => eqV v (getE (vs i))) (evalD call t (envD wr m vs e0) s (Nat.add nm0 i))
def chkS (wr:Nat → Option Nat) (call:Cl) (e0 vs:En) (nm0 k:Nat) (s:S):List Dp → Bool
 | [] => true
 | d :: l => dB d fun i t m c lo hi => bB (bB (Nat.beq c 0 && (Nat.ble (Nat.succ lo) k && Nat.ble k hi)) (chkR wr call e0 vs nm0 s i t m) (bB (Nat.beq c 1 && Nat.ble k hi) (s.h (Nat.add nm0 i)).isNone true)) (chkS wr call e0 vs nm0 k s l) false
def joinS (wr:Nat → Option Nat) (call:Cl) (e0 vs:En) (nm0 k:Nat):List Dp → S → Option S
 | [],s => some s
 | d :: l,s => dB d fun i t m c _ hi => bB (Nat.beq c 1 && Nat.beq hi k) (bindS (evalD call t (envD wr m vs e0) s (Nat.add nm0 i)) fun _ s' => joinS wr call e0 vs nm0 k l s') (joinS wr call e0 vs nm0 k l s)
def dpAt (ds:List Dp) (i:Nat):Option Dp:=nth ds i
def stages (n:Nat) (wr:Nat → Option Nat) (call:Cl) (e0:En) (nm0:Nat) (ds:List Dp):List Nat → Nat → En → S → Option (En × S)
 | [],k,vs,s => oB (addS n wr call e0 nm0 k s ds vs) fun vs => guardB (chkS wr call e0 vs nm0 k s ds) (oB (joinS wr call e0 vs nm0 k ds s) fun s => some (vs,s))
 | e :: es,k,vs,s => oB (addS n wr call e0 nm0 k s ds vs) fun vs => guardB (chkS wr call e0 vs nm0 k s ds) (oB (joinS wr call e0 vs nm0 k ds s) fun s => oB (dpAt ds e) fun d => dB d fun _ t m _ _ _ =>
   guardB (seen n m vs) (guardB ((vs e).isNone) (bindS (evalD call t (envD wr m vs e0) s (Nat.add nm0 e)) fun v s' => stages n wr call e0 nm0 ds es (Nat.succ k) (setE vs e v) s')))
def envF (wr:Nat → Option Nat) (vs e0:En):En:=fun t => @Option.rec Nat (fun _ => Option Value) (reb (e0 t)) (fun j => reb (vs j)) (wr t)
def regD (P:Program) (nt:Nat) (call:Cl) (ops:Array Oper) (e:En) (s:S):Option R :=
 guardB (drawOk ops) (sB s fun c h ds => fN c fun c => oB (compL1 P nt (aL ops) (aL ops)) fun l =>
  oB (stages (aL ops).length (fun t => writer t (aL ops) 0) call e c (dps (masksFrom [] (aL ops)) (effs (aL ops) 0) l (aL ops) 0) (effs (aL ops) 0) 0 (fun _ => none) ⟨Nat.add c (aL ops).length,h,ds⟩) fun p => pB p fun vs s =>
   guardB (seen (aL ops).length (Nat.sub (Nat.shiftLeft 1 (aL ops).length) 1) vs) (some ⟨0,envF (fun t => writer t (aL ops) 0) vs e,s⟩))
def regR (P:Program) (nt:Nat) (call:Cl) (ops:List Oper) (e:En) (s:S):Option R :=
 sB s fun c h ds => fN c fun c => oB (compL1 P nt ops ops) fun l => onL (runL call l c e ⟨Nat.add c ops.length,h,ds⟩)
def code1 (P:Program) (nt:Nat) (call:Cl) (ih:Code → En → S → Option R) (c:Code):En → S → Option R:=@Code.rec (fun _ => En → S → Option R)
 (fun e s => some ⟨0,e,s⟩)
 (fun _ ops draw e s => bB draw (regD P nt call ops e s) (regR P nt call (aL ops) e s))
 (fun x y _ _ e s => thenR (ih x e s) (ih y))
 (fun c x y _ _ e s => condR (ev e c) (ih x e s) (ih y e s))
 (fun id c _ e s => blockR id (ih c e s))
 (fun c _ e s => thenR (ih c e s) (ih (.loop c)))
 (fun _ _ _ _ _ _ _ _ => none)
 (fun id e s => some ⟨Nat.add id 2,e,s⟩)
 (fun c _ e s => ih c e s)
 (fun _ e s => some ⟨0,e,s⟩)
 (fun _ _ _ => none)
 (fun e s => some ⟨1,e,s⟩)
 (fun _ _ _ => none) c
def code (P:Program) (nt:Nat) (call:Cl) (n:Nat):Code → En → S → Option R:=Nat.rec (motive:=fun _ => Code → En → S → Option R) (fun _ _ _ => none) (fun _ ih => code1 P nt call ih) n
def defers (call:Cl) (l:List (FuncId × List Value)):S → Option S:=@List.rec (FuncId × List Value) (fun _ => S → Option S) (fun s => some s) (fun d _ ih s => pB d fun f args => bindS (call f args s) fun _ s => ih s) l
def resV (P:Program) (e:En) (s:S):ResultVar → Option Value
 | .tmp t => some (getE (e t))
 | .cell a t => oB (comp P (.load t (.tmp a))) fun f => oB (f (fun _ _ _ => none) e s 0) fun p => pB p fun v _ => some v
def res1 (P:Program) (e:En) (s:S):List ResultVar → Option (List Value)
 | [] => some []
 | r :: l => oB (resV P e s r) fun v => guardB (noTup v) (oB (res1 P e s l) fun vs => some (v :: vs))
def enter (l:List Value):Nat → En → En:=@List.rec Value (fun _ => Nat → En → En) (fun _ e => e) (fun v _ ih i e => ih (Nat.succ i) (setE e i v)) l
def out (l:List Value):Value:=match l with
 | [v] => v
 | l => .tuple l.toArray
def fin (P:Program) (fn:Func) (ds:List (FuncId × List Value)) (e:En) (s:S):Option (Value × S):=sB s fun c h _ => oB (res1 P e ⟨c,h,ds⟩ (aL fn.results)) fun l => some (out l,⟨c,h,ds⟩)
def leave (P:Program) (callD:Cl) (nod:Bool) (fn:Func) (ds:List (FuncId × List Value)) (r:Option R):Option (Value × S):=oB r fun r => rB r fun k e s =>
 guardB (Nat.ble k 1) (sB s fun _ _ d => bB nod (lB d (fin P fn ds e s) fun _ _ => none) (oB (defers callD d s) fun s => fin P fn ds e s))
def bodyOf (P:Program) (f:FuncId):Option (Func × Code):=oB P.funcs[f]? fun fn => oB fn.body fun c => some (fn,c)
def fuel:Nat:=100000
def goF (P:Program) (call callD:Cl) (nod:Bool) (args:List Value) (s:S) (p:Func × Code):Option (Value × S):=pB p fun fn c => sB s fun k h ds => guardB (Nat.ble args.length fn.ntmps) (leave P callD nod fn ds (code P fn.ntmps call fuel c (enter args 0 (fun _ => none)) ⟨k,h,[]⟩))
abbrev Sp:=Cl → FuncId → List Value → S → Option (Option (Value × S))
def func (P:Program) (special:Sp) (n:Nat):Bool → Cl:=Nat.rec (motive:=fun _ => Bool → Cl) (fun _ _ _ _ => none)
 (fun _ ih nod f args s => @Option.rec (Option (Value × S)) (fun _ => Option (Value × S)) (oB (bodyOf P f) fun p => goF P (ih false) (ih true) nod args s p) (fun r => r) (bB nod none (special (ih false) f args s))) n
def spClone (args:List Value) (s:S):Option (Value × S):=match args with | [.string b] => guardB (Nat.ble (sL b).length 1000000) (some (.string b,s)) | _ => none
def spCaught (call:Cl) (args:List Value) (s:S):Option (Value × S):=match args with
 | [.func (.func g) f cap] => lB (aL f) (bindS (call g (aL cap) s) fun v s => vTup v none fun a => lB (aL a) (some (.agg #[.int .i64 0,.int .i64 0],s)) fun _ _ => none) fun _ _ => none
 | _ => none
def idxB (c:Nat):List UInt8 → Nat → Int
 | [],_ => .negSucc 0
 | b :: l,i => match Nat.beq b.toNat c with | true => .ofNat i | false => idxB c l (Nat.succ i)
def spIndex (args:List Value) (s:S):Option (Value × S):=match args with
 | [.string b,.int .u8 (.ofNat c)] => guardB (Nat.ble c 255) (some (.int .i64 (idxB c (sL b) 0),s))
 | _ => none
def special (clone caught index:Nat) (call:Cl) (f:FuncId) (args:List Value) (s:S):Option (Option (Value × S)) :=
 bB (Nat.beq f clone) (some (spClone args s)) (bB (Nat.beq f caught) (some (spCaught call args s)) (bB (Nat.beq f index) (some (spIndex args s)) none))
end Xe
end
namespace Xe
structure Gh where
 b:Nat
 n:Nat
abbrev Ph:=Nat → Option Gh
def Sub (φ φ':Ph):Prop:=∀ x g,φ x = some g → φ' x = some g
theorem Sub.refl (φ:Ph):Sub φ φ:=fun _ _ h => h
theorem Sub.trans {φ φ' ψ:Ph} (h:Sub φ φ') (h':Sub φ' ψ):Sub φ ψ:=fun x g hx => h' x g (h x g hx)
def L {α β:Type} (R:α → β → Prop):List α → List β → Prop
 | [],[] => True
 | a :: l,b :: m => R a b ∧ L R l m
 | _,_ => False
theorem L.mono {α β:Type} {R R':α → β → Prop} (hR:∀ a b,R a b → R' a b):∀ {l:List α} {m:List β},L R l m → L R' l m
 | [],[],_ => trivial
 | _ :: _,_ :: _,h => ⟨hR _ _ h.1,L.mono hR h.2⟩
 | [],_ :: _,h => h.elim
 | _ :: _,[],h => h.elim
theorem L.length {α β:Type} {R:α → β → Prop}:∀ {l:List α} {m:List β},L R l m → l.length = m.length
 | [],[],_ => rfl
 | _ :: _,_ :: _,h => by simp [L.length h.2]
 | [],_ :: _,h => h.elim
 | _ :: _,[],h => h.elim
theorem L.app {α β:Type} {R:α → β → Prop}:∀ {l:List α} {m:List β} {l':List α} {m':List β},L R l m → L R l' m' → L R (l ++ l') (m ++ m')
 | [],[],_,_,_,h' => h'
 | _ :: _,_ :: _,_,_,h,h' => ⟨h.1,L.app h.2 h'⟩
 | [],_ :: _,_,_,h,_ => h.elim
 | _ :: _,[],_,_,h,_ => h.elim
theorem L.at {α β:Type} {R:α → β → Prop}:∀ {l:List α} {m:List β},L R l m → ∀ {i:Nat} {x:α},l[i]? = some x → ∃ y,m[i]? = some y ∧ R x y
 | [],[],_,i,x,h => by simp at h
 | _ :: _,_ :: _,h,0,x,hx => by simp at hx; subst hx; exact ⟨_,rfl,h.1⟩
 | _ :: _,_ :: _,h,i + 1,x,hx => by simp at hx; simpa using L.at h.2 hx
 | [],_ :: _,h,_,_,_ => h.elim
 | _ :: _,[],h,_,_,_ => h.elim
theorem L.set {α β:Type} {R:α → β → Prop}:∀ {l:List α} {m:List β},L R l m → ∀ (i:Nat) {x:α} {y:β},R x y → L R (l.set i x) (m.set i y)
 | [],[],_,_,_,_,_ => trivial
 | _ :: _,_ :: _,h,0,_,_,r => ⟨r,h.2⟩
 | _ :: _,_ :: _,h,i + 1,_,_,r => ⟨h.1,L.set h.2 i r⟩
 | [],_ :: _,h,_,_,_,_ => h.elim
 | _ :: _,[],h,_,_,_,_ => h.elim
theorem L.erase {α β:Type} {R:α → β → Prop}:∀ {l:List α} {m:List β},L R l m → ∀ (i:Nat),L R (l.eraseIdx i) (m.eraseIdx i)
 | [],[],_,_ => by simp [L]
 | _ :: _,_ :: _,h,0 => h.2
 | _ :: _,_ :: _,h,i + 1 => ⟨h.1,L.erase h.2 i⟩
 | [],_ :: _,h,_ => h.elim
 | _ :: _,[],h,_ => h.elim
theorem L.take {α β:Type} {R:α → β → Prop}:∀ {l:List α} {m:List β},L R l m → ∀ (i:Nat),L R (l.take i) (m.take i)
 | [],[],_,_ => by simp [L]
 | _ :: _,_ :: _,_,0 => trivial
 | _ :: _,_ :: _,h,i + 1 => ⟨h.1,L.take h.2 i⟩
 | [],_ :: _,h,_ => h.elim
 | _ :: _,[],h,_ => h.elim
theorem L.drop {α β:Type} {R:α → β → Prop}:∀ {l:List α} {m:List β},L R l m → ∀ (i:Nat),L R (l.drop i) (m.drop i)
 | [],[],_,_ => by simp [L]
 | _ :: _,_ :: _,h,0 => h
 | _ :: _,_ :: _,h,i + 1 => L.drop h.2 i
 | [],_ :: _,h,_ => h.elim
 | _ :: _,[],h,_ => h.elim
theorem L.refl {α:Type} {R:α → α → Prop}:∀ (l:List α),(∀ x ∈ l,R x x) → L R l l
 | [],_ => trivial
 | a :: l,h => ⟨h a (by simp),L.refl l fun x hx => h x (by simp [hx])⟩
def AR (φ:Ph) (a a':Addr):Prop:=a.spot = none ∧ ∃ g,φ a.block = some g ∧ a' = ⟨g.b,a.off,none⟩
def SR (φ:Ph) (a:Addr) (n z:Nat) (a':Option Addr) (c:Nat):Prop :=
 (a.spot ≠ none ∧ n = 0) ∨ (a.spot = none ∧ n ≤ c ∧ ∃ g,φ a.block = some g ∧ a' = some ⟨g.b,a.off,none⟩ ∧ a.off + c * z ≤ g.n)
def V0 (φ:Ph) (v v':Value):Prop:=match v with
 | .bool b => v' = .bool b
 | .int k n => v' = .int k n
 | .string s => v' = .string s
 | .pointer none => v' = .pointer none
 | .pointer (some a) => ∃ a',v' = .pointer (some a') ∧ AR φ a a'
 | .slice none n _ => n = 0 ∧ v' = .slice none 0 0
 | .slice (some a) n z => ∃ a' c,v' = .slice a' n c ∧ SR φ a n z a' c
 | .map none => v' = .map none
 | .map (some r) => ∃ g,φ r = some g ∧ v' = .map (some g.b)
 | .nilFunc => v' = .nilFunc
 | _ => False
def V1 (φ:Ph) (v v':Value):Prop:=V0 φ v v' ∨ ∃ fn f c f' c',v = .func fn f c ∧ v' = .func fn f' c' ∧ L (V0 φ) f.toList f'.toList ∧ L (V0 φ) c.toList c'.toList
def VA (φ:Ph) (v v':Value):Prop:=V1 φ v v' ∨ ∃ c c',v = .agg c ∧ v' = .agg c' ∧ L (V1 φ) c.toList c'.toList
def V (φ:Ph) (v v':Value):Prop:=VA φ v v' ∨ ∃ c c',v = .tuple c ∧ v' = .tuple c' ∧ L (VA φ) c.toList c'.toList
theorem AR.mono {φ φ':Ph} (h:Sub φ φ') {a a':Addr} (r:AR φ a a'):AR φ' a a':=⟨r.1,r.2.elim fun g hg => ⟨g,h _ _ hg.1,hg.2⟩⟩
theorem SR.mono {φ φ':Ph} (h:Sub φ φ') {a:Addr} {n z:Nat} {a':Option Addr} {c:Nat} (r:SR φ a n z a' c):SR φ' a n z a' c :=
 r.imp id fun ⟨h0,h1,g,hg,h2⟩ => ⟨h0,h1,g,h _ _ hg,h2⟩
theorem V0.mono {φ φ':Ph} (h:Sub φ φ') {v v':Value} (r:V0 φ v v'):V0 φ' v v':=by
 unfold V0 at *
 split at r
 case h_5 => obtain ⟨a',h1,h2⟩:=r; exact ⟨a',h1,h2.mono h⟩
 case h_7 => obtain ⟨a',c,h1,h2⟩:=r; exact ⟨a',c,h1,h2.mono h⟩
 case h_9 => obtain ⟨g,h1,h2⟩:=r; exact ⟨g,h _ _ h1,h2⟩
 case h_11 => exact r.elim
 all_goals exact r
theorem V1.mono {φ φ':Ph} (h:Sub φ φ') {v v':Value} (r:V1 φ v v'):V1 φ' v v' :=
 r.imp (V0.mono h) fun ⟨fn,f,c,f',c',h1,h2,h3,h4⟩ => ⟨fn,f,c,f',c',h1,h2,h3.mono fun _ _ => V0.mono h,h4.mono fun _ _ => V0.mono h⟩
theorem VA.mono {φ φ':Ph} (h:Sub φ φ') {v v':Value} (r:VA φ v v'):VA φ' v v' :=
 r.imp (V1.mono h) fun ⟨c,c',h1,h2,h3⟩ => ⟨c,c',h1,h2,h3.mono fun _ _ => V1.mono h⟩
theorem V.mono {φ φ':Ph} (h:Sub φ φ') {v v':Value} (r:V φ v v'):V φ' v v' :=
 r.imp (VA.mono h) fun ⟨c,c',h1,h2,h3⟩ => ⟨c,c',h1,h2,h3.mono fun _ _ => VA.mono h⟩
theorem V.of0 {φ:Ph} {v v':Value} (r:V0 φ v v'):V φ v v':=.inl (.inl (.inl r))
theorem V.undef (φ:Ph):V φ undef undef:=.inr ⟨#[],#[],rfl,rfl,trivial⟩
def ER (φ:Ph) (e e':MapEntry):Prop:=V0 φ e.key e'.key ∧ VA φ e.val e'.val ∧ e'.born = e.born
theorem ER.mono {φ φ':Ph} (h:Sub φ φ') {e e':MapEntry} (r:ER φ e e'):ER φ' e e':=⟨r.1.mono h,r.2.1.mono h,r.2.2⟩
def OR (φ:Ph) (w:World) (x:Nat) (o:Obj):Prop:=match o with
 | .cells c _ _ => ∃ g c' e fr,φ x = some g ∧ w.heap[g.b]? = some (.cells c' e fr) ∧ c'.size = g.n ∧ (3 ≤ x → fr = (0,0)) ∧ c.size ≤ c'.size ∧ L (V1 φ) c.toList (c'.toList.take c.size)
 | .map es k => ∃ g es',φ x = some g ∧ w.heap[g.b]? = some (.map es' k) ∧ L (ER φ) es.toList es'.toList
 | _ => True
def isO (o:Obj):Prop:=match o with
 | .cells .. => True
 | .map .. => True
 | _ => False
def live (h:Hp) (x:Nat):Prop:=∃ o,h x = some o ∧ isO o
theorem OR.ph {φ:Ph} {w:World} {x:Nat} {o:Obj} (h:OR φ w x o) (ho:isO o):∃ g,φ x = some g:=by
 cases o <;> simp only [isO] at ho
 ·obtain ⟨g,_,_,_,hg,_⟩:=h; exact ⟨g,hg⟩
 ·obtain ⟨g,_,hg,_⟩:=h; exact ⟨g,hg⟩
theorem OR.mono {φ φ':Ph} {w w':World} (h:Sub φ φ') {x:Nat} {o:Obj} (r:OR φ w x o) (hb:∀ g,φ x = some g → w'.heap[g.b]? = w.heap[g.b]?):OR φ' w' x o:=by
 cases o <;> try exact trivial
 ·obtain ⟨g,c',e,fr,h1,h2,h3,h4,h5,h6⟩:=r
  exact ⟨g,c',e,fr,h _ _ h1,(hb g h1).trans h2,h3,h4,h5,h6.mono fun _ _ => V1.mono h⟩
 ·obtain ⟨g,es',h1,h2,h3⟩:=r
  exact ⟨g,es',h _ _ h1,(hb g h1).trans h2,h3.mono fun _ _ => ER.mono h⟩
structure Rel (φ:Ph) (h:Hp) (w:World):Prop where
 obj:∀ x o,h x = some o → OR φ w x o
 inj:∀ x y g g',live h x → live h y → φ x = some g → φ y = some g' → g.b = g'.b → x = y
 bnd:∀ x g,φ x = some g → g.b < w.heap.size
 glo:∀ x,x < 3 → ∃ n,φ x = some ⟨x,n⟩
theorem Rel.draws {φ:Ph} {h:Hp} {w w':World} (r:Rel φ h w) (e:w'.heap = w.heap):Rel φ h w' where
 obj x o hx:=(r.obj x o hx).mono (Sub.refl φ) fun g _ => by rw [e]
 inj:=r.inj
 bnd x g hx:=by rw [e]; exact r.bnd x g hx
 glo:=r.glo
theorem Rel.less {φ:Ph} {h h':Hp} {w:World} (r:Rel φ h w) (hs:∀ x o,h' x = some o → isO o → h x = some o):Rel φ h' w where
 obj x o hx:=by
  by_cases ho:isO o
  ·exact r.obj x o (hs x o hx ho)
  ·cases o <;> simp only [isO,not_true_eq_false] at ho <;> exact trivial
 inj x y g g' hx hy:=r.inj x y g g' (hx.elim fun o ho => ⟨o,hs x o ho.1 ho.2,ho.2⟩) (hy.elim fun o ho => ⟨o,hs y o ho.1 ho.2,ho.2⟩)
 bnd:=r.bnd
 glo:=r.glo
def Oe (w w':World):Prop:=w'.os = w.os ∧ w'.tape = w.tape ∧ w'.output = w.output
theorem Oe.refl (w:World):Oe w w:=⟨rfl,rfl,rfl⟩
structure Ext (φ:Ph) (h:Hp) (w:World) (φ':Ph) (w':World):Prop where
 sub:Sub φ φ'
 size:w.heap.size ≤ w'.heap.size
 news:∀ x g,φ x = none → φ' x = some g → w.heap.size ≤ g.b ∨ ∃ y g',3 ≤ y ∧ live h y ∧ φ y = some g' ∧ g'.b = g.b
 kept:∀ b,b < w.heap.size → (∀ x g,3 ≤ x → live h x → φ x = some g → g.b ≠ b) → w'.heap[b]? = w.heap[b]?
 out:Oe w w'
theorem Ext.refl (φ:Ph) (h:Hp) (w:World):Ext φ h w φ w:=⟨Sub.refl φ,Nat.le_refl _,fun x g h0 h1 => (by rw [h0] at h1; cases h1),fun _ _ _ => rfl,Oe.refl w⟩
theorem Ext.trans {φ φ₁ φ₂:Ph} {h h₁:Hp} {w w₁ w₂:World} (a:Ext φ h w φ₁ w₁) (b:Ext φ₁ h₁ w₁ φ₂ w₂)
  (hl:∀ x,live h₁ x → live h x ∨ φ x = none) (hp:∀ x,live h x → ∃ g,φ x = some g) (hp₁:∀ x,live h₁ x → ∃ g,φ₁ x = some g):Ext φ h w φ₂ w₂:=by
 have key:∀ y g',3 ≤ y → live h₁ y → φ₁ y = some g' → w.heap.size ≤ g'.b ∨ ∃ z g,3 ≤ z ∧ live h z ∧ φ z = some g ∧ g.b = g'.b:=by
  intro y g' h3 hy hg
  rcases hl y hy with h0 | h0
  ·obtain ⟨g,hg0⟩:=hp y h0
   have e:=a.sub y g hg0
   rw [hg] at e; cases e
   exact .inr ⟨y,g',h3,h0,hg0,rfl⟩
  ·exact a.news y g' h0 hg
 refine ⟨a.sub.trans b.sub,Nat.le_trans a.size b.size,?_,?_,b.out.1.trans a.out.1,b.out.2.1.trans a.out.2.1,b.out.2.2.trans a.out.2.2⟩
 ·intro x g h0 h2
  cases h1:φ₁ x with
  | some g1 =>
   have e:=b.sub x g1 h1
   rw [h2] at e; cases e
   exact a.news x g h0 h1
  | none =>
   rcases b.news x g h1 h2 with hn | ⟨y,g',h3,hy,hg,he⟩
   ·exact .inl (Nat.le_trans a.size hn)
   ·rcases key y g' h3 hy hg with hk | ⟨z,gz,hz3,hz,hgz,hez⟩
    ·exact .inl (he ▸ hk)
    ·exact .inr ⟨z,gz,hz3,hz,hgz,hez.trans he⟩
 ·intro c hc hn
  have _:=hp₁
  rw [b.kept c (Nat.lt_of_lt_of_le hc a.size) ?_,a.kept c hc hn]
  intro y g' h3 hy hg he
  rcases key y g' h3 hy hg with hk | ⟨z,gz,hz3,hz,hgz,hez⟩
  ·omega
  ·exact hn z gz hz3 hz hgz (hez.trans he)
def Fr (φ:Ph) (c:Nat):Prop:=∀ x,c ≤ x → φ x = none
structure Stt (φ:Ph) (s:S) (w:World):Prop where
 rel:Rel φ s.h w
 fr:Fr φ s.c
theorem Rel.has {φ:Ph} {h:Hp} {w:World} (r:Rel φ h w) {x:Nat} (hx:live h x):∃ g,φ x = some g:=hx.elim fun o ho => (r.obj x o ho.1).ph ho.2
structure Post (φ:Ph) (s:S) (w:World) (φ':Ph) (s':S) (w':World):Prop where
 stt:Stt φ' s' w'
 ext:Ext φ s.h w φ' w'
 le:s.c ≤ s'.c
 new:∀ x,φ x = none → φ' x ≠ none → s.c ≤ x
 liv:∀ x,live s'.h x → live s.h x ∨ φ x = none
theorem Post.refl {φ:Ph} {s:S} {w:World} (h:Stt φ s w):Post φ s w φ s w:=⟨h,Ext.refl φ s.h w,Nat.le_refl _,fun _ h0 h1 => (h1 h0).elim,fun _ hx => .inl hx⟩
theorem Post.trans {φ φ₁ φ₂:Ph} {s s₁ s₂:S} {w w₁ w₂:World} (h0:Stt φ s w) (a:Post φ s w φ₁ s₁ w₁) (b:Post φ₁ s₁ w₁ φ₂ s₂ w₂):Post φ s w φ₂ s₂ w₂ where
 stt:=b.stt
 ext:=a.ext.trans b.ext a.liv (fun _ hx => h0.rel.has hx) (fun _ hx => a.stt.rel.has hx)
 le:=Nat.le_trans a.le b.le
 new x hx hn:=by
  by_cases h1:φ₁ x = none
  ·exact Nat.le_trans a.le (b.new x h1 hn)
  ·exact a.new x hx h1
 liv x hx:=by
  rcases b.liv x hx with h1 | h1
  ·exact a.liv x h1
  ·cases h2:φ x with
   | none => exact .inr rfl
   | some g => rw [a.ext.sub x g h2] at h1; cases h1
theorem Stt.draws {φ:Ph} {s:S} {w w':World} (h:Stt φ s w) (e:w'.heap = w.heap):Stt φ s w':=⟨h.rel.draws e,h.fr⟩
structure EnvR (φ:Ph) (nt:Nat) (e:En) (a:Act):Prop where
 size:a.tmps.size = nt
 val:∀ t,V φ (getE (e t)) (a.tmps.getD t undef)
theorem EnvR.mono {φ φ':Ph} (h:Sub φ φ') {nt:Nat} {e:En} {a:Act} (r:EnvR φ nt e a):EnvR φ' nt e a:=⟨r.size,fun t => (r.val t).mono h⟩
theorem setE_get (e:En) (d t:Nat) (v:Value):setE e d v t = if t = d then some v else e t:=by
 unfold setE bB
 by_cases h:t = d
 ·subst h; simp
 ·have:Nat.beq t d = false:=by cases hb:Nat.beq t d with | true => exact (h (Nat.eq_of_beq_eq_true hb)).elim | false => rfl
  rw [this]; simp only [h,if_false]
  cases e t <;> rfl
theorem setH_get (h:Hp) (b x:Nat) (o:Obj):setH h b o x = if x = b then some o else h x:=by
 unfold setH bB
 by_cases hx:x = b
 ·subst hx; simp
 ·have:Nat.beq x b = false:=by cases hb:Nat.beq x b with | true => exact (hx (Nat.eq_of_beq_eq_true hb)).elim | false => rfl
  rw [this]; simp only [hx,if_false]
  cases h x <;> rfl
theorem EnvR.put {φ:Ph} {nt:Nat} {e:En} {a:Act} (r:EnvR φ nt e a) {d:Option Nat} (hd:dstOk nt d = true) {v v':Value} (hv:V φ v v'):EnvR φ nt (put e d v) (a.put d v'):=by
 cases d with
 | none => exact r
 | some d =>
  have hlt:d < nt:=by simpa [dstOk,Nat.ble_eq,Nat.succ_le_iff] using hd
  refine ⟨by simp [Act.put,r.size],fun t => ?_⟩
  show V φ (getE (setE e d v t)) ((a.tmps.setIfInBounds d v').getD t undef)
  rw [setE_get]
  by_cases ht:t = d
  ·subst ht
   simp only [if_true]
   rw [Array.getD_eq_getD_getElem?,Array.getElem?_setIfInBounds_self_of_lt (by rw [r.size]; exact hlt)]
   exact hv
  ·rw [if_neg ht,Array.getD_eq_getD_getElem?,Array.getElem?_setIfInBounds_ne (fun h => ht h.symm),← Array.getD_eq_getD_getElem?]
   exact r.val t
end Xe
end Go.Proofs.YtbioaoangfiijaaGreatDoor
