/- Worlds to be read. -/
import Derived.Test.YtfcpglhpolpdcaaGreatDoorM34
import Derived.Calls
import Derived.Defers
import Derived.OrdersHeld
namespace Go.Proofs.YtfcpglhpolpdcaaGreatDoor.Vw
open Go.RowKit Vf Vm
theorem DY {w:World}{B e size n:Nat}{va:Option Addr}{vc:Nat}{xs:List Value}(h:w.ownsRow B e size (.slice va n vc) n xs){k:Nat}{u:Value}(hk:xs[k]?=some u):∃ g,va=some ⟨g,0,none⟩∧w.cell? ⟨g,k,none⟩=some u:=by
 rcases h.2 with⟨e1,h0⟩ | ⟨g,cap,cur,e1,_⟩
 ·have hl:=h.1
  rw[h0] at hl;have hx:xs=[]:=List.eq_nil_of_length_eq_zero (by simpa using hl);rw[hx] at hk;cases hk
 ·have e2:=e1
  simp at e2;refine⟨g,e2.1,?_⟩;have:=h.cells (g:=g) (by rw[e1];rfl) k _ hk;rw[oL] at this;simpa using this
def RI (w:World)(v:Value)(l:List Int):Prop:=∃ a c,v=.slice a l.length c∧l.length≤c∧∀ (i:Nat) x,l[i]?=some x→∃ b off,a=some ⟨b,off,none⟩∧w.cell? ⟨b,off+i,none⟩=some (.int .i64 x)
def RS (w:World)(v:Value)(ls:List (List Int)):Prop:=∃ a c,v=.slice a ls.length c∧∀ (i:Nat) l,ls[i]?=some l→∃ b off u,a=some ⟨b,off,none⟩∧w.cell? ⟨b,off+i,none⟩=some u∧RI w u l
theorem Rh {w:World}{B n:Nat}{e:TypeId}{v:Value}{ws:List Int}(h:w.ownsRow B e 1 v n (ints ws)):RI w v ws:=by
 have hl:ws.length=n:=by have:=h.1;simpa using this
 subst hl;rcases h.2 with⟨rfl,h0⟩ | ⟨g,cap,cur,rfl,_,_,hc,_⟩
 ·refine⟨none,0,by rw[h0],by omega,fun i x hx=>?_⟩
  have:=(List.getElem?_eq_some_iff.1 hx).1;omega
 ·refine⟨_,cap,rfl,hc,fun i x hx=>?_⟩
  obtain⟨g',e',hc'⟩:=qI h (k:=i) (u:=.int .i64 x) (by rw[List.getElem?_map,hx];rfl);cases e';exact⟨g,0,rfl,by rw[Nat.zero_add];exact hc'⟩
theorem RI.below {w w':World}{v:Value}{l:List Int}(h:RI w v l)(hb:Below w.heap.size w w'):RI w' v l:=by
 obtain⟨a,c,e,hc,hr⟩:=h;refine⟨a,c,e,hc,fun i x hx=>?_⟩;obtain⟨b,off,e2,hcell⟩:=hr i x hx;exact⟨b,off,e2,(aI (hb.block b (World.block_lt_of_cell? w _ hcell)) _).trans hcell⟩
theorem RS.below {w w':World}{v:Value}{ls:List (List Int)}(h:RS w v ls)(hb:Below w.heap.size w w'):RS w' v ls:=by
 obtain⟨a,c,e,hr⟩:=h;refine⟨a,c,e,fun i x hx=>?_⟩;obtain⟨b,off,u,e2,hcell,hi⟩:=hr i x hx;exact⟨b,off,u,e2,(aI (hb.block b (World.block_lt_of_cell? w _ hcell)) _).trans hcell,hi.below hb⟩
structure DZ (w:World) (m:Md) (ts:List Tk) (x:List Bq) (vE vB:Value):Prop where
 ends:∃ a c,vE=.slice a ts.length c∧∀ (i:Nat) t,ts[i]?=some t→∃ b off vo,a=some ⟨b,off,none⟩∧w.cell? ⟨b,off+i * 4,none⟩=some (.int .i64 (stat aA m t x).1)∧w.cell? ⟨b,off+i * 4+1,none⟩=some (.int .i64 (stat aA m t x).2)∧w.cell? ⟨b,off+i * 4+2,none⟩=some (.int .i64 t.trap)∧w.cell? ⟨b,off+i * 4+3,none⟩=some vo∧RI w vo t.out
 boxes:RS w vB (x.map (·.ws))
theorem DZ.below {w w':World}{m:Md}{ts:List Tk}{x:List Bq}{vE vB:Value}(h:DZ w m ts x vE vB)(hb:Below w.heap.size w w'):DZ w' m ts x vE vB:=by
 obtain⟨a,c,e,hr⟩:=h.ends;refine⟨⟨a,c,e,fun i t ht=>?_⟩,h.boxes.below hb⟩;obtain⟨b,off,vo,e2,h0,h1,h2,h3,h4⟩:=hr i t ht;have hk:=aI (hb.block b (World.block_lt_of_cell? w _ h0));exact⟨b,off,vo,e2,(hk _).trans h0,(hk _).trans h1,(hk _).trans h2,(hk _).trans h3,h4.below hb⟩
theorem D5 (m:Md)(W:Wd)(ov:Nat→Value):∀ n,(jg m W ov n).length=n * 4
 | 0=>rfl
 | n+1=>by rw[AB,List.length_append,D5 m W ov n];simp[enc];omega
theorem AV (m:Md)(W:Wd)(ov:Nat→Value):∀ (n i j:Nat),i<n→j<4→(jg m W ov n)[i * 4+j]?=(enc m W ov i)[j]?
 | n+1,i,j,hi,hj=>by
  rw[AB];by_cases e:i=n
  ·subst e
   rw[List.getElem?_append_right (by rw[D5];omega),D5];congr 1
   omega
  ·rw[List.getElem?_append_left (by rw[D5];omega)]
   exact AV m W ov n i j (by omega) hj
theorem lI.reads {m:Md}{W:Wd}{C:Nat}{w:World}{vE vB:Value}{nb:Nat}{ov bv:Nat→Value}(h:lI m W C w vE vB W.ts.length nb ov bv)(hx:W.x.length=nb):DZ w m W.ts W.x vE vB:=by
 obtain⟨ea,ec,rfl⟩:=dR h.ends;obtain⟨ba,bc,rfl⟩:=dR h.jK;refine⟨⟨ea,ec,rfl,fun i t ht=>?_⟩,⟨ba,bc,by simp[hx],fun i l hl=>?_⟩⟩
 ·have hi:=(List.getElem?_eq_some_iff.1 ht).1
  have Ri:W.tk (i:Int)=t:=by simp[Wd.tk,ht]
  have ho:=h.outs i hi;rw[Ri] at ho;obtain⟨g,rfl,c0⟩:=DY h.ends (AV m W ov W.ts.length i 0 hi (by omega));obtain⟨g1,e1,c1⟩:=DY h.ends (AV m W ov W.ts.length i 1 hi (by omega));cases e1;obtain⟨g1,e1,c2⟩:=DY h.ends (AV m W ov W.ts.length i 2 hi (by omega));cases e1;obtain⟨g1,e1,c3⟩:=DY h.ends (AV m W ov W.ts.length i 3 hi (by omega));cases e1;rw[Ri] at c0 c1 c2;simp only[Nat.add_zero] at c0 c1 c2 c3 ⊢;exact⟨g,0,ov i,rfl,by simpa using c0,by simpa using c1,by simpa using c2,by simpa using c3,Rh ho⟩
 ·rw[List.getElem?_map] at hl
  cases hq:W.x[i]? with
  | none=>rw[hq] at hl;cases hl
  | some q =>
   rw[hq] at hl;cases hl;have hi:=(List.getElem?_eq_some_iff.1 hq).1;obtain⟨g,e,hc⟩:=qI h.jK (k:=i) (u:=bv i) (by simp[lH,show i<nb by omega]);exact⟨g,0,bv i,e,by rw[Nat.zero_add];exact hc,Rh (h.words i q (by omega) hq)⟩
end Go.Proofs.YtfcpglhpolpdcaaGreatDoor.Vw
namespace Go.Proofs.YtfcpglhpolpdcaaGreatDoor
noncomputable section
namespace Xe
def oB {α β:Type}(x:Option α)(f:α→Option β):Option β:=@Option.rec α (fun _=>Option β) none f x
def bB {γ:Type}(b:Bool)(t f:γ):γ:=@Bool.rec (fun _=>γ) f t b
def pB {α β γ:Type}(p:α × β)(f:α→β→γ):γ:=@Prod.rec α β (fun _=>γ) f p
def lB {α γ:Type}(l:List α)(n:γ)(c:α→List α→γ):γ:=@List.rec α (fun _=>γ) n (fun a l _=>c a l) l
def nB {γ:Type}(n:Nat)(z:γ)(s:Nat→γ):γ:=Nat.rec (motive:=fun _=>γ) z (fun m _=>s m) n
def iB {γ:Type}(i:Int)(p n:Nat→γ):γ:=@Int.rec (fun _=>γ) p n i
def aB {γ:Type}(a:Addr)(f:Nat→Nat→Option Nat→γ):γ:=Addr.rec (motive:=fun _=>γ) f a
def aL {α:Type}(a:Array α):List α:=Array.rec (motive:=fun _=>List α) (fun l=>l) a
def sL (s:ByteArray):List UInt8:=@ByteArray.rec (fun _=>List UInt8) (fun a=>aL a) s
def nth {α:Type}(l:List α):Nat→Option α:=@List.rec α (fun _=>Nat→Option α) (fun _=>none) (fun a _ ih n=>nB n (some a) ih) l
def vG {γ:Type}(x:Value)(d:γ)(f:Bool→γ):γ:=@Value.rec (fun _=>γ) (fun _=>Unit) (fun _=>Unit) (f) (fun _ _=>d) (fun _ _=>d) (fun _ _ _=>d) (fun _=>d) (fun _=>d) (fun _ _ _=>d) (fun _=>d) (fun _=>d) (fun _ _ _ _ _=>d) (d) (fun _ _ _=>d) (d) (fun _ _=>d) (fun _ _=>d) (fun _ _=>()) () (fun _ _ _ _=>()) x
def jM {γ:Type}(x:Value)(d:γ)(f:IntKind→Int→γ):γ:=@Value.rec (fun _=>γ) (fun _=>Unit) (fun _=>Unit) (fun _=>d) (f) (fun _ _=>d) (fun _ _ _=>d) (fun _=>d) (fun _=>d) (fun _ _ _=>d) (fun _=>d) (fun _=>d) (fun _ _ _ _ _=>d) (d) (fun _ _ _=>d) (d) (fun _ _=>d) (fun _ _=>d) (fun _ _=>()) () (fun _ _ _ _=>()) x
def lJ {γ:Type}(x:Value)(d:γ)(f:ByteArray→γ):γ:=@Value.rec (fun _=>γ) (fun _=>Unit) (fun _=>Unit) (fun _=>d) (fun _ _=>d) (fun _ _=>d) (fun _ _ _=>d) (f) (fun _=>d) (fun _ _ _=>d) (fun _=>d) (fun _=>d) (fun _ _ _ _ _=>d) (d) (fun _ _ _=>d) (d) (fun _ _=>d) (fun _ _=>d) (fun _ _=>()) () (fun _ _ _ _=>()) x
def Rj {γ:Type}(x:Value)(d:γ)(f:Option Addr→γ):γ:=@Value.rec (fun _=>γ) (fun _=>Unit) (fun _=>Unit) (fun _=>d) (fun _ _=>d) (fun _ _=>d) (fun _ _ _=>d) (fun _=>d) (f) (fun _ _ _=>d) (fun _=>d) (fun _=>d) (fun _ _ _ _ _=>d) (d) (fun _ _ _=>d) (d) (fun _ _=>d) (fun _ _=>d) (fun _ _=>()) () (fun _ _ _ _=>()) x
def sG {γ:Type}(x:Value)(d:γ)(f:Option Addr→Nat→Nat→γ):γ:=@Value.rec (fun _=>γ) (fun _=>Unit) (fun _=>Unit) (fun _=>d) (fun _ _=>d) (fun _ _=>d) (fun _ _ _=>d) (fun _=>d) (fun _=>d) (f) (fun _=>d) (fun _=>d) (fun _ _ _ _ _=>d) (d) (fun _ _ _=>d) (d) (fun _ _=>d) (fun _ _=>d) (fun _ _=>()) () (fun _ _ _ _=>()) x
def AX {γ:Type}(x:Value)(d:γ)(f:Option Nat→γ):γ:=@Value.rec (fun _=>γ) (fun _=>Unit) (fun _=>Unit) (fun _=>d) (fun _ _=>d) (fun _ _=>d) (fun _ _ _=>d) (fun _=>d) (fun _=>d) (fun _ _ _=>d) (f) (fun _=>d) (fun _ _ _ _ _=>d) (d) (fun _ _ _=>d) (d) (fun _ _=>d) (fun _ _=>d) (fun _ _=>()) () (fun _ _ _ _=>()) x
def Ji {γ:Type}(x:Value)(d:γ)(f:Fn→Array Value→Array Value→γ):γ:=@Value.rec (fun _=>γ) (fun _=>Unit) (fun _=>Unit) (fun _=>d) (fun _ _=>d) (fun _ _=>d) (fun _ _ _=>d) (fun _=>d) (fun _=>d) (fun _ _ _=>d) (fun _=>d) (fun _=>d) (fun a b c _ _=>f a b c) (d) (fun _ _ _=>d) (d) (fun _ _=>d) (fun _ _=>d) (fun _ _=>()) () (fun _ _ _ _=>()) x
def vH {γ:Type}(x:Value)(d:γ)(f:Array Value→γ):γ:=@Value.rec (fun _=>γ) (fun _=>Unit) (fun _=>Unit) (fun _=>d) (fun _ _=>d) (fun _ _=>d) (fun _ _ _=>d) (fun _=>d) (fun _=>d) (fun _ _ _=>d) (fun _=>d) (fun _=>d) (fun _ _ _ _ _=>d) (d) (fun _ _ _=>d) (d) (fun a _=>f a) (fun _ _=>d) (fun _ _=>()) () (fun _ _ _ _=>()) x
def xR {γ:Type}(x:Value)(d:γ)(f:Array Value→γ):γ:=@Value.rec (fun _=>γ) (fun _=>Unit) (fun _=>Unit) (fun _=>d) (fun _ _=>d) (fun _ _=>d) (fun _ _ _=>d) (fun _=>d) (fun _=>d) (fun _ _ _=>d) (fun _=>d) (fun _=>d) (fun _ _ _ _ _=>d) (d) (fun _ _ _=>d) (d) (fun _ _=>d) (fun a _=>f a) (fun _ _=>()) () (fun _ _ _ _=>()) x
def aO {α:Type}(b:Bool)(x:Option α):Option α:=bB b x none
def o9 (v:Value):Bool:=xR v true fun _=>false
def lK (x:Value):List Value:=vH x [x] aL
abbrev En:=Nat→Option Value
abbrev Hp:=Nat→Option Obj
structure S where
 c:Nat
 h:Hp
 ds:List (FuncId × List Value)
def sB {γ:Type}(s:S)(f:Nat→Hp→List (FuncId × List Value)→γ):γ:=@S.rec (fun _=>γ) f s
abbrev Cl:=FuncId→List Value→S→Option (Value × S)
abbrev F:=Cl→En→S→Nat→Option (Value × S)
def dead:Obj:=.coro none
def nA {α:Type}(x:Option α):Option α:=@Option.rec α (fun _=>Option α) none (fun a=>some a) x
def setH (h:Hp)(b:Nat)(o:Obj):Hp:=fun x=>bB (Nat.beq x b) (some o) (nA (h x))
def dE (e:En)(d:Nat)(v:Value):En:=fun t=>bB (Nat.beq t d) (some v) (nA (e t))
def fN {α:Type}(n:Nat)(k:Nat→Option α):Option α:=nB n (k 0) (fun m=>k (Nat.succ m))
def pg (q:IntKind)(i:Int):Option Value:=iB i (fun n=>fN n fun n=>some (.int q (.ofNat n))) (fun n=>fN n fun n=>some (.int q (.negSucc n)))
def pq (b:Bool):Option Value:=bB b (some (.bool true)) (some (.bool false))
def D6 (a:Addr):Option Value:=aB a fun b o sp=>fN o fun o=>some (.pointer (some ⟨b,o,sp⟩))
def D7 (a:Addr)(n z:Nat):Option Value:=aB a fun b o sp=>fN o fun o=>fN n fun n=>some (.slice (some ⟨b,o,sp⟩) n z)
def ic (x:Option Value):Value:=@Option.rec Value (fun _=>Value) undef (fun v=>v) x
def und (P:Program)(t:TypeId):Option TypeDesc:=P.underlying t
def dF (P:Program)(t:TypeId):Option Nat:=match P.info? t with | some i=>some i.size | none=>none
def pz (P:Program)(t:TypeId):Option Value:=match P.info? t with | some i=>i.zero | none=>none
def om (P:Program)(t:TypeId):Bool:=match und P t with
 | some (.struct _)=>true
 | some (.array _ _)=>true
 | _=>false
def AY {γ:Type}(o:Obj)(d:γ)(f:Array Value→TypeId→Nat × Nat→γ):γ:=@Obj.rec (fun _=>γ) f (fun _ _=>d) (fun _ _=>d) (fun _ _=>d) (fun _ _=>d) (fun _ _ _ _ _ _=>d) (fun _ _=>d) (fun _ _ _ _=>d) (fun _=>d) (fun _=>d) (fun _=>d) (fun _ _=>d) o
def Rk {γ:Type}(o:Obj)(d:γ)(f:Array MapEntry→Nat→γ):γ:=@Obj.rec (fun _=>γ) (fun _ _ _=>d) (fun _ _=>d) (fun _ _=>d) (fun _ _=>d) f (fun _ _ _ _ _ _=>d) (fun _ _=>d) (fun _ _ _ _=>d) (fun _=>d) (fun _=>d) (fun _=>d) (fun _ _=>d) o
def rowOf (o:Option Obj):Option (List Value):=oB o fun o=>AY o none fun c _ _=>some (aL c)
def mapOf (o:Option Obj):Option (List MapEntry × Nat):=oB o fun o=>Rk o none fun es k=>some (aL es,k)
def takeN {α:Type}(n:Nat):List α→Option (List α):=Nat.rec (motive:=fun _=>List α→Option (List α)) (fun _=>some []) (fun _ ih l=>lB l none fun a l=>oB (ih l) fun r=>some (a :: r)) n
def xS {α:Type}(n:Nat):List α→List α:=Nat.rec (motive:=fun _=>List α→List α) (fun l=>l) (fun _ ih l=>lB l [] fun _ l=>ih l) n
def xU {γ:Type}(sp:Option Nat)(x:Option γ):Option γ:=@Option.rec Nat (fun _=>Option γ) x (fun _=>none) sp
def oo (h:Hp)(a:Addr)(n:Nat):Option (List Value):=aB a fun b o sp=>xU sp (oB (rowOf (h b)) fun c=>takeN n (xS o c))
def over (c:List Value)(vs:List Value):Option (List Value):=@List.rec Value (fun _=>List Value→Option (List Value)) (fun c=>some c) (fun v _ ih c=>lB c none fun _ c=>oB (ih c) fun r=>some (v :: r)) vs c
def qO (n:Nat)(c vs:List Value):Option (List Value):=Nat.rec (motive:=fun _=>List Value→Option (List Value)) (fun c=>over c vs) (fun _ ih c=>lB c none fun x c=>oB (ih c) fun r=>some (x :: r)) n c
def AZ (s:S)(a:Addr)(vs:List Value):Option S:=aB a fun b o sp=>xU sp (sB s fun k h ds=>aO (Nat.ble 3 b) <| oB (h b) fun ob=>AY ob none fun c e f=>oB (qO o (aL c) vs) fun c'=>some ⟨k,setH h b (.cells c'.toArray e f),ds⟩)
def ev (e:En)(x:Operand):Value:=@Operand.rec (fun _=>Value) (fun t=>ic (e t)) (fun v=>v) (fun g=>.pointer (some ⟨g,0,none⟩)) (fun f=>.func (.func f) #[] #[]) x
def evs (e:En)(l:List Operand):List Value:=@List.rec Operand (fun _=>List Value) [] (fun x _ ih=>ev e x :: ih) l
def A7 (a:Addr)(n:Nat):Addr:=nB n a fun m=>aB a fun b o _=>⟨b,Nat.add o (Nat.succ m),none⟩
def pE (l:List UInt8):List UInt8→Bool:=@List.rec UInt8 (fun _=>List UInt8→Bool) (fun m=>lB m true fun _ _=>false) (fun a _ ih m=>lB m false fun b m=>bB (Nat.beq a.toNat b.toNat) (ih m) false) l
def oq:IntKind→Nat
 | .i8=>0 | .i16=>1 | .i32=>2 | .i64=>3 | .u8=>4 | .u16=>5 | .u32=>6 | .u64=>7
def vI (a b:Int):Bool:=iB a (fun a=>iB b (fun b=>Nat.beq a b) (fun _=>false)) (fun a=>iB b (fun _=>false) (fun b=>Nat.beq a b))
def leI (a b:Int):Bool:=iB a (fun a=>iB b (fun b=>Nat.ble a b) (fun _=>false)) (fun a=>iB b (fun _=>true) (fun b=>Nat.ble b a))
def top:IntKind→Nat
 | .i8=>128 | .i16=>32768 | .i32=>2147483648 | .i64=>9223372036854775808 | .u8=>256 | .u16=>65536 | .u32=>4294967296 | .u64=>18446744073709551616
def A8 (k:IntKind)(i:Int):Int:=iB i (fun n=>bB (Nat.ble (top k) n) (k.wrap (.ofNat n)) (.ofNat n)) (fun n=>k.wrap (.negSucc n))
def Rl (a b:Int):Int:=iB a (fun x=>iB b (fun y=>.ofNat (Nat.add x y)) (fun _=>Int.add a b)) (fun _=>Int.add a b)
def not' (b:Bool):Bool:=bB b false true
def A9 (op:BinOp)(k:IntKind)(a b:Int):Option Value:=match op with
 | .add=>pg k (A8 k (Rl a b))
 | .sub=>pg k (A8 k (Int.sub a b))
 | .mul=>pg k (A8 k (Int.mul a b))
 | .eql=>pq (vI a b)
 | .neq=>pq (not' (vI a b))
 | .lss=>pq (not' (leI b a))
 | .leq=>pq (leI a b)
 | .gtr=>pq (not' (leI a b))
 | .geq=>pq (leI b a)
 | _=>none
def Ba (op:BinOp)(a b:ByteArray):Option Value:=match op with
 | .eql=>pq (pE (sL a) (sL b))
 | .neq=>pq (not' (pE (sL a) (sL b)))
 | _=>none
def bin (op:BinOp)(x y:Value):Option Value :=
 jM x (lJ x none fun a=>lJ y none fun b=>Ba op a b)
  fun k a=>jM y none fun k' b=>bB (Nat.beq (oq k) (oq k')) (A9 op k a b) none
def xV (place:Nat→Option (Nat × Nat))(l:List (Nat × Value)):List Value→Option (List Value) :=
 @List.rec (Nat × Value) (fun _=>List Value→Option (List Value)) (fun c=>some c) (fun p _ ih c=>pB p fun i v=>oB (place i) fun q=>pB q fun off z=>aO (o9 v) (aO (Nat.beq z (lK v).length) (oB (qO off c (lK v)) fun c=>ih c))) l
def places (P:Program):List Field→List (Nat × Nat)
 | []=>[]
 | f :: l=>(f.offset,(dF P f.type).getD 0) :: places P l
def jk (z:List Value)(n:Nat):List Value:=Nat.rec (motive:=fun _=>List Value) [] (fun _ ih=>z++ih) n
def agg (l:Option (List Value)):Option Value:=oB l fun l=>some (.agg l.toArray)
def D8 (ag:Bool)(n:Nat)(cs:List Value)(off:Nat):Option Value:=bB ag (agg (takeN n (xS off cs))) (nth cs off)
def ou (x:Option Value)(d m:Nat):Option Nat:=@Option.rec Value (fun _=>Option Nat) (some d) (fun v=>jM v none fun _ i=>iB i (fun n=>bB (Nat.ble n m) (some n) none) (fun _=>none)) x
def lost:Value:=.slice (some ⟨0,0,some 0⟩) 0 0
def Jj (s:ByteArray)(lo hi:Option Value):Option Value :=
 oB (ou hi (sL s).length (sL s).length) fun h=>oB (ou lo 0 h) fun l=>oB (takeN (Nat.sub h l) (xS l (sL s))) fun r=>some (.string ⟨r.toArray⟩)
def D9 (z:Nat)(a:Addr)(n k:Nat)(lo hi:Option Value):Option Value :=
 oB (ou hi n n) fun h=>oB (ou lo 0 h) fun l=>aO (Nat.beq k z) (xU a.spot (bB (Nat.ble n l) (nB l (D7 a (Nat.sub h l) z) fun _=>some lost) (D7 (A7 a (Nat.mul l z)) (Nat.sub h l) z)))
def acM (z:Option Nat)(x:Value)(lo hi:Option Value):Option Value:=match z with
 | none=>lJ x none fun s=>Jj s lo hi
 | some z=>sG x none fun a n k=>@Option.rec Addr (fun _=>Option Value) (nB n (oB (ou hi 0 0) fun h=>oB (ou lo 0 h) fun _=>some (.slice none 0 0)) fun _=>none) (fun a=>D9 z a n k lo hi) a
def Bb (ks:Bool)(k:Value):Bool:=bB ks (lJ k false fun _=>true) (jM k false fun _ _=>true)
def vJ (P:Program)(t:TypeId):Option Bool:=match und P t with
 | some .string=>some true
 | some (.int _)=>some false
 | _=>none
def Rm (k l:Value):Option Bool:=lJ k (jM k none fun ka a=>jM l none fun kb b=>bB (Nat.beq (oq ka) (oq kb)) (some (vI a b)) none) fun a=>lJ l none fun b=>some (pE (sL a) (sL b))
def xW (k:Value)(es:List MapEntry):Nat→Option (Option (Nat × Value)):=@List.rec MapEntry (fun _=>Nat→Option (Option (Nat × Value))) (fun _=>some none)
 (fun e _ ih i=>oB (Rm k e.key) fun b=>bB b (some (some (i,e.val))) (ih (Nat.succ i))) es
def flat (x:Value):Bool:=@Value.rec (fun _=>Bool) (fun _=>Unit) (fun _=>Unit) (fun _=>true) (fun _ _=>true) (fun _ _=>false) (fun _ _ _=>false) (fun _=>true) (fun _=>true) (fun _ _ _=>true) (fun _=>true) (fun _=>false) (fun _ _ _ _ _=>false) true (fun _ _ _=>false) false (fun _ _=>false) (fun _ _=>false) (fun _ _=>()) () (fun _ _ _ _=>()) x
def Ea (l:List Value):Bool:=@List.rec Value (fun _=>Bool) true (fun v _ ih=>bB (flat v) ih false) l
def ret (v:Option Value)(s:S):Option (Value × S):=oB v fun v=>some (v,s)
def Eb (x:Operand):F:=fun _ e s _=>some (ev e x,s)
def acN (c a b:Value)(s:S):Option (Value × S):=vG c none fun t=>bB t (some (a,s)) (some (b,s))
def Rn (c a b:Operand):F:=fun _ e s _=>acN (ev e c) (ev e a) (ev e b) s
def one (l:List Value)(s:S):Option (Value × S):=lB l none fun v _=>some (v,s)
def ptr (x:Value):Option Addr:=Rj x none fun a=>a
def Ro (x:Operand):F:=fun _ e s _=>oB (ptr (ev e x)) fun a=>oB (oo s.h a 1) fun l=>one l s
def Rp (n:Nat)(x:Operand):F:=fun _ e s _=>oB (ptr (ev e x)) fun a=>oB (oo s.h a n) fun l=>some (.agg l.toArray,s)
def Rq (x:Operand):F:=fun _ e s _=>oB (ptr (ev e x)) fun a=>some (.pointer (some a),s)
def Jk (op:BinOp)(x y:Operand):F:=fun _ e s _=>ret (bin op (ev e x) (ev e y)) s
def Rs (x:Operand):F:=fun _ e s _=>vG (ev e x) none fun b=>ret (pq (not' b)) s
def Ru (k:IntKind)(x:Operand):F:=fun _ e s _=>jM (ev e x) none fun _ n=>ret (pg k (A8 k n)) s
def Jl (fn:Fn)(first captured:List Operand):F:=fun _ e s _=>aO (Ea (evs e first)) (aO (Ea (evs e captured)) (some (.func fn (evs e first).toArray (evs e captured).toArray,s)))
def kT (e:En)(x:Option Operand):Option Value:=oB x fun x=>some (ev e x)
def xX (z:Option Nat)(x:Operand)(lo hi:Option Operand):F:=fun _ e s _=>ret (acM z (ev e x) (kT e lo) (kT e hi)) s
def acO (off:Nat)(x:Operand):F:=fun _ e s _=>oB (ptr (ev e x)) fun a=>ret (D6 (A7 a off)) s
def acP (ag:Bool)(n off:Nat)(x:Operand):F:=fun _ e s _=>vH (ev e x) none fun cs=>ret (D8 ag n (aL cs) off) s
def Ec (z n:Nat)(a:Addr)(i:Value):Option Value:=jM i none fun _ i=>iB i (fun i=>bB (Nat.ble n i) none (D6 (A7 a (Nat.mul i z)))) (fun _=>none)
def qP (z:Nat)(x i:Operand):F:=fun _ e s _=>sG (ev e x) none fun a n _=>oB a fun a=>ret (Ec z n a (ev e i)) s
def acQ (z n:Nat)(x i:Operand):F:=fun _ e s _=>oB (ptr (ev e x)) fun a=>ret (Ec z n a (ev e i)) s
def Rv (b:ByteArray)(i:Value):Option Value:=jM i none fun _ i=>iB i (fun i=>oB (nth (sL b) i) fun c=>pg .u8 (.ofNat c.toNat)) (fun _=>none)
def acR (x i:Operand):F:=fun _ e s _=>lJ (ev e x) none fun b=>ret (Rv b (ev e i)) s
def Rw (ag:Bool)(z n:Nat)(cs:Array Value)(i:Value):Option Value:=jM i none fun _ i=>iB i (fun i=>bB (Nat.ble n i) none (D8 ag z (aL cs) (Nat.mul i z))) (fun _=>none)
def acS (ag:Bool)(z n:Nat)(x i:Operand):F:=fun _ e s _=>vH (ev e x) none fun cs=>ret (Rw ag z n cs (ev e i)) s
def Ee (h:Hp)(m:Value):Option (List MapEntry × Nat):=AX m none fun r=>@Option.rec Nat (fun _=>Option (List MapEntry × Nat)) (some ([],0)) (fun r=>mapOf (h r)) r
def okV (ok:Bool)(v:Value)(b:Bool):Value:=bB ok (.tuple #[v,.bool b]) v
def acT (z:Value)(ok:Bool)(r:Option (Nat × Value)):Value:=@Option.rec (Nat × Value) (fun _=>Value) (okV ok z false) (fun p=>pB p fun _ v=>okV ok v true) r
def Rx (ks:Bool)(z:Value)(ok:Bool)(x i:Operand):F:=fun _ e s _=>aO (Bb ks (ev e i)) <| oB (Ee s.h (ev e x)) fun es=>pB es fun es _=>oB (xW (ev e i) es 0) fun r=>some (acT z ok r,s)
def Ry (x:Operand)(i:Nat):F:=fun _ e s _=>xR (ev e x) none fun vs=>ret (nth (aL vs) i) s
def xY (e:En)(l:List (Nat × Operand)):List (Nat × Value):=@List.rec (Nat × Operand) (fun _=>List (Nat × Value)) [] (fun p _ ih=>pB p (fun i x=>(i,ev e x)) :: ih) l
def acU (pl:List (Nat × Nat))(z:List Value)(parts:List (Nat × Operand)):F:=fun _ e s _=>oB (xV (nth pl) (xY e parts) z) fun l=>some (.agg l.toArray,s)
def acV (x:Operand):F:=fun _ e s _=>lJ (ev e x) none fun b=>ret (pg .i64 (.ofNat (sL b).length)) s
def acW (x:Operand):F:=fun _ e s _=>sG (ev e x) none fun _ n _=>ret (pg .i64 (.ofNat n)) s
def acX (x:Operand):F:=fun _ e s _=>oB (Ee s.h (ev e x)) fun p=>pB p fun es _=>ret (pg .i64 (.ofNat es.length)) s
def newAt (s:S)(nm:Nat)(o:Obj)(f:Nat→Value):Option (Value × S):=fN nm fun nm=>sB s fun c h ds=>some (f nm,⟨c,setH h nm o,ds⟩)
def Jm (o:Obj):F:=fun _ _ s nm=>newAt s nm o fun nm=>.pointer (some ⟨nm,0,none⟩)
def Ef (t:TypeId)(x:Operand):F:=fun _ e s nm=>aO (o9 (ev e x)) <| newAt s nm (.cells (lK (ev e x)).toArray t) fun nm=>.pointer (some ⟨nm,0,none⟩)
def fRow (el z n:Nat)(zs:List Value)(parts:List (Nat × Operand)):F:=fun _ e s nm =>
 oB (xV (fun i=>some (Nat.mul i z,z)) (xY e parts) zs) fun l=>newAt s nm (.cells l.toArray el) fun nm=>.slice (some ⟨nm,0,none⟩) n z
def Jn:F:=fun _ _ s nm=>newAt s nm (.map #[] 0) fun nm=>.map (some nm)
def Eg (x:Value):Option Nat:=jM x none fun _ i=>iB i some fun _=>none
def Jo (el z by':Nat)(zs:List Value)(x c:Operand):F:=fun _ e s nm=>oB (Eg (ev e x)) fun n=>oB (Eg (ev e c)) fun k=>aO (Nat.beq n k) (aO (Nat.ble n 1000000) (aO (Nat.ble by' 1000000)
 (newAt s nm (.cells (jk zs n).toArray el) fun nm=>.slice (some ⟨nm,0,none⟩) n z)))
def unit (s:Option S):Option (Value × S):=oB s fun s=>some (undef,s)
def lL (n:Nat)(a x:Operand):F:=fun _ e s _=>oB (ptr (ev e a)) fun a=>aO (o9 (ev e x)) (aO (Nat.beq n (lK (ev e x)).length) (unit (AZ s a (lK (ev e x)))))
def acY (s:S)(r:Nat)(es:List MapEntry)(cl:Nat)(k v:Value)(f:Option (Nat × Value)):Option S:=@Option.rec (Nat × Value) (fun _=>Option S)
 (some ⟨s.c,setH s.h r (.map (es++[(⟨k,v,cl⟩:MapEntry)]).toArray (cl+1)),s.ds⟩)
 (fun p=>oB (nth es p.1) fun en=>some ⟨s.c,setH s.h r (.map (es.set p.1 (⟨k,v,en.born⟩:MapEntry)).toArray cl),s.ds⟩) f
def Eh (x:Value):Option Nat:=AX x none fun r=>r
def Ei (ks:Bool)(m k x:Operand):F:=fun _ e s _=>aO (o9 (ev e x)) <| aO (Bb ks (ev e k)) <| oB (Eh (ev e m)) fun r=>aO (Nat.ble 3 r) <| oB (mapOf (s.h r)) fun p=>pB p fun es cl=>oB (xW (ev e k) es 0) fun f=>unit (acY s r es cl (ev e k) (ev e x) f)
def Jp (el z:Nat)(s:S)(a:Option Addr)(n k m:Nat)(b:Addr)(new:List Value):Option (Value × S):=@Option.rec Addr (fun _=>Option (Value × S))
 (nB n (sB s fun c h ds=>fN c fun c=>some (.slice (some ⟨c,0,none⟩) m z,⟨Nat.succ c,setH h c (.cells new.toArray el),ds⟩)) fun _=>none)
 (fun a=>aB a fun ab ao sp=>xU sp (aO (Nat.beq k z) (aO (Nat.ble 3 ab) (nB ao (bB (Nat.beq ab b.block) none (oB (oo s.h a (Nat.mul n z)) fun old=>sB s fun c h ds=>fN c fun c=>fN (Nat.add n m) fun nm=>some (.slice (some ⟨c,0,none⟩) nm z,⟨Nat.succ c,setH (setH h ab dead) c (.cells (old++new).toArray el),ds⟩))) fun _=>none)))) a
def Jq (el z:Nat)(s:S)(x y:Value):Option (Value × S):=sG x none fun a n k=>sG y none fun b m _=>nB m (some (.slice a n k,s)) fun m=>aO (Nat.ble (Nat.add n (Nat.succ m)) 1000000) (oB b fun b=>oB (oo s.h b (Nat.mul (Nat.succ m) z)) fun new=>Jp el z s a n k (Nat.succ m) b new)
def acZ (el z:Nat)(x y:Operand):F:=fun _ e s _=>Jq el z s (ev e x) (ev e y)
def ac0 (s:S)(r:Nat)(es:List MapEntry)(cl:Nat)(f:Option (Nat × Value)):S:=@Option.rec (Nat × Value) (fun _=>S) s (fun p=>⟨s.c,setH s.h r (.map (es.eraseIdx p.1).toArray cl),s.ds⟩) f
def Rz (ks:Bool)(m k:Operand):F:=fun _ e s _=>aO (Bb ks (ev e k)) <| oB (Eh (ev e m)) fun r=>aO (Nat.ble 3 r) <| oB (mapOf (s.h r)) fun p=>pB p fun es cl=>oB (xW (ev e k) es 0) fun f=>some (.tuple #[],ac0 s r es cl f)
def callee (f:Value)(args:List Value):Option (FuncId × List Value):=Ji f none fun fn first cap=>match fn with
 | .func g=>some (g,aL first++(args++aL cap))
 | _=>none
def RA (f:Operand)(args:List Operand):F:=fun call e s _=>oB (callee (ev e f) (evs e args)) fun p=>pB p fun g as'=>call g as' s
def RB (f:Operand)(args:List Operand):F:=fun _ e s _=>oB (callee (ev e f) (evs e args)) fun p=>sB s fun c h ds=>some (undef,⟨c,h,p :: ds⟩)
def ok0 (x:Value):Bool:=Value.rec (motive_1:=fun _=>Bool) (motive_2:=fun _=>Unit) (motive_3:=fun _=>Unit) (fun _=>true) (fun _ _=>true) (fun _ _=>false) (fun _ _ _=>false) (fun _=>true) (fun a=>a.isNone) (fun a n c=>a.isNone && (Nat.beq n 0 && Nat.beq c 0)) (fun r=>r.isNone) (fun _=>false) (fun _ _ _ _ _=>false) true (fun _ _ _=>false) false (fun _ _=>false) (fun _ _=>false) (fun _ _=>()) () (fun _ _ _ _=>()) x
def qQ (x:Value):Bool:=ok0 x || vH x false fun cs=>(aL cs).all ok0
def sH (P:Program)(c:Call)(b:Builtin):Option F:=match b with
 | .len=>match c.args.toList,c.argTypes.toList with
  | [x],t :: _=>match und P t with
   | some .string=>some (acV x)
   | some (.slice _)=>some (acW x)
   | some (.map _ _)=>some (acX x)
   | _=>none
  | _,_=>none
 | .append=>match c.args.toList,c.argTypes.toList with
  | [x,y],[t,t']=>match und P t with
   | some (.slice el)=>oB (P.info? el) fun i=>oB i.zero fun zs=>aO (Nat.beq t t') (aO (Nat.beq zs.cells.size i.size) (aO (Nat.ble 1 i.size) (aO (Nat.ble i.bytes 1000000) (some (acZ el i.size x y)))))
   | _=>none
  | _,_=>none
 | .delete=>match c.args.toList,c.argTypes.toList with
  | [x,k],t :: _=>match und P t with
   | some (.map kt _)=>oB (vJ P kt) fun ks=>some (Rz ks x k)
   | _=>none
  | _,_=>none
 | _=>none
def RD (P:Program)(c:Call):Option F:=match c.callee with
 | .value f=>some (RA f c.args.toList)
 | .builtin b=>sH P c b
 | _=>none
def Jr (P:Program)(t:TypeId)(x:Operand)(f:Nat):Option F:=match und P t with
 | some (.struct fs)=>oB (nth fs.toList f) fun fd=>match dF P fd.type with
  | some (_+1)=>some (acO fd.offset x)
  | _=>none
 | _=>none
def Js (P:Program)(t:TypeId)(x:Operand)(f:Nat):Option F:=match und P t with
 | some (.struct fs)=>oB (nth fs.toList f) fun fd=>oB (und P fd.type) fun _=>oB (dF P fd.type) fun n=>some (acP (om P fd.type) n fd.offset x)
 | _=>none
def Bc (P:Program)(t:TypeId)(x i:Operand):Option F:=match und P t with
 | some (.slice el)=>oB (dF P el) fun z=>some (qP z x i)
 | some (.array n el)=>oB (dF P el) fun z=>some (acQ z n x i)
 | _=>none
def Jt (P:Program)(t:TypeId)(x i:Operand):Option F:=match und P t with
 | some .string=>some (acR x i)
 | some (.array n el)=>oB (und P el) fun _=>oB (dF P el) fun z=>some (acS (om P el) z n x i)
 | _=>none
def Ju (P:Program)(t:TypeId)(x i:Operand)(ok:Bool):Option F:=match und P t with
 | some (.map k el)=>oB (vJ P k) fun ks=>oB (pz P el) fun z=>aO (qQ z) (some (Rx ks z ok x i))
 | _=>none
def Jv (P:Program)(t:TypeId)(x:Operand)(lo hi:Option Operand):Option F:=match und P t with
 | some .string=>some (xX none x lo hi)
 | some (.slice el)=>oB (dF P el) fun z=>some (xX (some z) x lo hi)
 | _=>none
def Jw (P:Program)(t:TypeId)(parts:List (Nat × Operand)):Option F:=match und P t with
 | some (.struct fs)=>oB (pz P t) fun z=>aO (qQ z) (aO (fs.toList.all fun f=>(dF P f.type).isSome) (some (acU (places P fs.toList) z.cells.toList parts)))
 | _=>none
def Jy (P:Program)(t:TypeId)(n:Nat)(parts:List (Nat × Operand)):Option F:=match und P t with
 | some (.slice el)=>oB (dF P el) fun z=>oB (pz P el) fun zs=>aO (qQ zs) (aO (Nat.beq zs.cells.size z) (aO (Nat.ble (Nat.mul n z) 16777216) (aO (Nat.ble 1 z) (some (fRow el z n (jk zs.cells.toList n) parts)))))
 | _=>none
def Jz (P:Program)(t:TypeId)(x c:Operand):Option F:=match und P t with
 | some (.slice el)=>oB (P.info? el) fun i=>oB i.zero fun zs=>aO (qQ zs) (aO (Nat.beq zs.cells.size i.size) (aO (Nat.ble 1 i.size) (some (Jo el i.size i.bytes zs.cells.toList x c))))
 | _=>none
def comp (P:Program)(o:Op):Option F:=match o with
 | .move x=>some (Eb x)
 | .assign x=>some (Eb x)
 | .pick c a b=>some (Rn c a b)
 | .load t x=>oB (und P t) fun _=>match om P t with
  | true=>oB (dF P t) fun n=>some (Rp n x)
  | false=>some (Ro x)
 | .nilCheck x=>some (Rq x)
 | .binOp op _ x y _=>some (Jk op x y)
 | .unOp .not _ x=>some (Rs x)
 | .convert src dst x=>oB (und P src) fun _=>match und P dst with | some (.int k)=>some (Ru k x) | _=>none
 | .makeFunc fn first captured=>some (Jl fn first.toList captured.toList)
 | .slice t x lo hi none=>Jv P t x lo hi
 | .fieldAddr t x f=>Jr P t x f
 | .field t x f=>Js P t x f
 | .indexAddr t x i=>Bc P t x i
 | .index t x i=>Jt P t x i
 | .lookup t x i ok=>Ju P t x i ok
 | .extract t i=>some (Ry t i)
 | .build t parts=>Jw P t parts.toList
 | .call c=>RD P c
 | .alloc t=>oB (pz P t) fun z=>aO (qQ z) (some (Jm (.cells z.cells t)))
 | .box t x=>some (Ef t x)
 | .buildSlice t n parts=>Jy P t n parts.toList
 | .makeMap _ none=>some Jn
 | .makeSlice t l c=>Jz P t l c
 | .store t a x=>oB (dF P t) fun n=>some (lL n a x)
 | .mapUpdate t m k x=>match und P t with | some (.map kt _)=>oB (vJ P kt) fun ks=>some (Ei ks m k x) | _=>none
 | .insert t m k x=>match und P t with | some (.map kt _)=>oB (vJ P kt) fun ks=>some (Ei ks m k x) | _=>none
 | .defer c=>match c.callee with | .value f=>some (RB f c.args.toList) | _=>none
 | _=>none
structure St where
 g:Option (Nat × Bool)
 d:Option Nat
 f:F
def tB {γ:Type}(t:St)(k:Option (Nat × Bool)→Option Nat→F→γ):γ:=@St.rec (fun _=>γ) k t
def guardOf (ops:List Oper)(o:Oper):Option (Option (Nat × Bool)):=match o.guard with
 | none=>some none
 | some (j,b)=>oB (nth ops j) fun g=>oB g.dst fun d=>some (some (d,b))
def JA:Operand→Bool
 | .const v=>qQ v
 | .global g=>Nat.ble (Nat.succ g) 3
 | _=>true
def mr (o:Op):Bool:=(aL o.operands).all JA
def nC (nt:Nat)(d:Option Nat):Bool:=@Option.rec Nat (fun _=>Bool) true (fun d=>Nat.ble (Nat.succ d) nt) d
def vK (P:Program)(nt:Nat)(ops:List Oper):List Oper→Option (List St)
 | []=>some []
 | o :: l=>aO (mr o.op) <| aO (nC nt o.dst) (oB (guardOf ops o) fun g=>oB (comp P o.op) fun f=>oB (vK P nt ops l) fun r=>some (⟨g,o.dst,f⟩ :: r))
def put (e:En)(d:Option Tmp)(v:Value):En:=@Option.rec Tmp (fun _=>En) e (fun d=>dE e d v) d
def Bd (v:Value)(b:Bool):Bool:=vG v false fun x=>bB x b (not' b)
def want (g:Option (Nat × Bool))(e:En):Bool:=@Option.rec (Nat × Bool) (fun _=>Bool) true (fun p=>pB p fun d b=>Bd (ic (e d)) b) g
def lM {β:Type}(x:Option (Value × S))(f:Value→S→Option β):Option β:=oB x fun p=>pB p f
def Ej (call:Cl)(l:List St):Nat→En→S→Option (En × S):=@List.rec St (fun _=>Nat→En→S→Option (En × S)) (fun _ e s=>some (e,s))
 (fun t _ ih nm e s=>tB t fun g d f=>bB (want g e) (lM (f call e s nm) fun v s'=>ih (Nat.succ nm) (put e d v) s') (ih (Nat.succ nm) (put e d undef) s)) l
structure R where
 k:Nat
 e:En
 s:S
def rB {γ:Type}(r:R)(f:Nat→En→S→γ):γ:=@R.rec (fun _=>γ) f r
def onL (r:Option (En × S)):Option R:=oB r fun p=>pB p fun e s=>some ⟨0,e,s⟩
def El (r:Option R)(f:En→S→Option R):Option R:=oB r fun r=>rB r fun k e s=>nB k (f e s) fun k=>some ⟨Nat.succ k,e,s⟩
def JB (id:Nat)(r:Option R):Option R:=oB r fun r=>rB r fun k e s=>bB (Nat.beq k (Nat.add id 2)) (some ⟨0,e,s⟩) (some ⟨k,e,s⟩)
def JC (v:Value)(x y:Option R):Option R:=vG v none fun b=>bB b x y
def cls:Op→Nat
 | .alloc _ | .box .. | .buildSlice .. | .makeMap .. | .makeSlice ..=>1
 | .store .. | .mapUpdate .. | .insert .. | .defer _=>2
 | .call c=>match c.callee with
  | .builtin .len=>0
  | _=>2
 | _=>0
def JD:Option Addr→Option Addr→Bool
 | none,none=>true
 | some a,some b=>Nat.beq a.block b.block && (Nat.beq a.off b.off && (a.spot.isNone && b.spot.isNone))
 | _,_=>false
def vL:Option Nat→Option Nat→Bool
 | none,none=>true
 | some a,some b=>Nat.beq a b
 | _,_=>false
def all2 (p:Value→Value→Bool):List Value→List Value→Bool
 | [],[]=>true
 | a :: l,b :: m=>bB (p a b) (all2 p l m) false
 | _,_=>false
def Be:Value→Value→Bool
 | .bool a,.bool b=>bB a b (not' b)
 | .int k a,.int l b=>Nat.beq (oq k) (oq l) && vI a b
 | .string a,.string b=>pE (sL a) (sL b)
 | .pointer a,.pointer b=>JD a b
 | .slice a n c,.slice b m d=>JD a b && (Nat.beq n m && Nat.beq c d)
 | .map a,.map b=>vL a b
 | .nilFunc,.nilFunc=>true
 | _,_=>false
def qR (x y:Value):Bool:=Be x y || match x,y with
 | .func (.func f) a b,.func (.func g) c d=>Nat.beq f g && (all2 Be (aL a) (aL c) && all2 Be (aL b) (aL d))
 | _,_=>false
def Em (x y:Value):Bool:=qR x y || match x,y with
 | .agg a,.agg b=>all2 qR (aL a) (aL b)
 | _,_=>false
def Eo (x y:Value):Bool:=Em x y || match x,y with
 | .tuple a,.tuple b=>all2 Em (aL a) (aL b)
 | _,_=>false
def tb (m k:Nat):Bool:=Nat.beq (Nat.land (Nat.shiftRight m k) 1) 1
def ig (acc:List Nat):List Edge→Nat
 | []=>0
 | e :: l=>bB (Region.binds .any e) (Nat.lor (Nat.lor (Nat.shiftLeft 1 e.on) ((nth acc e.on).getD 0)) (ig acc l)) (ig acc l)
def bF (acc:List Nat):List Oper→List Nat
 | []=>acc
 | o :: l=>bF (acc++[ig acc (aL o.after)]) l
def aH (ms:List Nat)(i:Nat):Nat:=(nth ms i).getD 0
def countB (p:Nat→Bool):List Nat→Nat
 | []=>0
 | a :: l=>bB (p a) (Nat.succ (countB p l)) (countB p l)
def mD:List Oper→Nat→List Nat
 | [],_=>[]
 | o :: l,i=>bB (Nat.beq (cls o.op) 2) (i :: mD l (Nat.succ i)) (mD l (Nat.succ i))
def writer (t:Nat):List Oper→Nat→Option Nat
 | [],_=>none
 | o :: l,i=>bB (vL o.dst (some t)) (some i) (writer t l (Nat.succ i))
structure Dp where
 i:Nat
 st:St
 m:Nat
 c:Nat
 lo:Nat
 hi:Nat
def dB {γ:Type}(d:Dp)(f:Nat→St→Nat→Nat→Nat→Nat→γ):γ:=@Dp.rec (fun _=>γ) f d
def sI (ms es:List Nat):List St→List Oper→Nat→List Dp
 | t :: l,o :: r,i=>⟨i,t,aH ms i,cls o.op,countB (fun e=>tb (aH ms i) e) es,countB (fun e=>not' (tb (aH ms e) i)) es⟩ :: sI ms es l r (Nat.succ i)
 | _,_,_=>[]
def Ep (ops:Array Oper)(ms:List Nat)(i j:Nat)(x y:Oper):Bool:=match y.dst with
 | none=>true
 | some d=>not' (vL x.dst (some d)) && (not' ((x.looksAt ops).any fun t=>Nat.beq t d) || (tb (aH ms i) j || tb (aH ms j) i))
def RF (ops:Array Oper)(ms:List Nat)(i j:Nat)(x y:Oper):Bool :=
 Nat.beq i j || (Ep ops ms i j x y && (not' (tb (aH ms i) j) || Nat.beq (Nat.land (aH ms j) (aH ms i)) (aH ms j)))
def qU (ms:List Nat)(p:Nat × Oper):Bool:=Nat.beq (aH ms p.1) (ig ms (aL p.2.after)) && Nat.ble (Nat.succ (aH ms p.1)) (Nat.shiftLeft 1 p.1)
def RG (p:Nat→Nat→Oper→Oper→Bool)(l:List (Nat × Oper)):Bool:=l.all fun a=>l.all fun b=>p a.1 b.1 a.2 b.2
def number {α:Type}:List α→Nat→List (Nat × α)
 | [],_=>[]
 | a :: l,i=>(i,a) :: number l (Nat.succ i)
def xZ (ms:List Nat):List Nat→Bool
 | []=>true
 | e :: l=>l.all (fun f=>tb (aH ms f) e) && xZ ms l
def Bf (ops:Array Oper):Bool:=(number (aL ops) 0).all (qU (bF [] (aL ops))) && (RG (RF ops (bF [] (aL ops))) (number (aL ops) 0) && xZ (bF [] (aL ops)) (mD (aL ops) 0))
def dS (wr:Nat→Option Nat)(m:Nat)(vs e0:En):En:=fun t=>@Option.rec Nat (fun _=>Option Value) (nA (e0 t)) (fun j=>bB (tb m j) (nA (vs j)) (nA (e0 t))) (wr t)
def ko (call:Cl)(t:St)(e:En)(s:S)(nm:Nat):Option (Value × S):=tB t fun g _ f=>bB (want g e) (f call e s nm) (some (undef,s))
def seen (n m:Nat)(vs:En):Bool:=(List.range n).all fun j=>not' (tb m j) || (vs j).isSome
def ow (n:Nat)(wr:Nat→Option Nat)(call:Cl)(e0:En)(ak k:Nat)(s:S):List Dp→En→Option En
 | [],vs=>some vs
 | d :: l,vs=>dB d fun i t m c lo _=>bB (Nat.beq c 2) (ow n wr call e0 ak k s l vs) (bB (Nat.beq lo k)
   (aO (seen n m vs) (aO ((vs i).isNone) (lM (ko call t (dS wr m vs e0) s (Nat.add ak i)) fun v _=>ow n wr call e0 ak k s l (dE vs i v))))
   (ow n wr call e0 ak k s l vs))
def JE (wr:Nat→Option Nat)(call:Cl)(e0 vs:En)(ak:Nat)(s:S)(i:Nat)(t:St)(m:Nat):Bool:=@Option.rec (Value × S) (fun _=>Bool) false (fun p=>pB p fun v _=>Eo v (ic (vs i))) (ko call t (dS wr m vs e0) s (Nat.add ak i))
def vM (wr:Nat→Option Nat)(call:Cl)(e0 vs:En)(ak k:Nat)(s:S):List Dp→Bool
 | []=>true
 | d :: l=>dB d fun i t m c lo hi=>bB (bB (Nat.beq c 0 && (Nat.ble (Nat.succ lo) k && Nat.ble k hi)) (JE wr call e0 vs ak s i t m) (bB (Nat.beq c 1 && Nat.ble k hi) (s.h (Nat.add ak i)).isNone true)) (vM wr call e0 vs ak k s l) false
def qV (wr:Nat→Option Nat)(call:Cl)(e0 vs:En)(ak k:Nat):List Dp→S→Option S
 | [],s=>some s
 | d :: l,s=>dB d fun i t m c _ hi=>bB (Nat.beq c 1 && Nat.beq hi k) (lM (ko call t (dS wr m vs e0) s (Nat.add ak i)) fun _ s'=>qV wr call e0 vs ak k l s') (qV wr call e0 vs ak k l s)
def vN (ds:List Dp)(i:Nat):Option Dp:=nth ds i
def stages (n:Nat)(wr:Nat→Option Nat)(call:Cl)(e0:En)(ak:Nat)(ds:List Dp):List Nat→Nat→En→S→Option (En × S)
 | [],k,vs,s=>oB (ow n wr call e0 ak k s ds vs) fun vs=>aO (vM wr call e0 vs ak k s ds) (oB (qV wr call e0 vs ak k ds s) fun s=>some (vs,s))
 | e :: es,k,vs,s=>oB (ow n wr call e0 ak k s ds vs) fun vs=>aO (vM wr call e0 vs ak k s ds) (oB (qV wr call e0 vs ak k ds s) fun s=>oB (vN ds e) fun d=>dB d fun _ t m _ _ _ =>
   aO (seen n m vs) (aO ((vs e).isNone) (lM (ko call t (dS wr m vs e0) s (Nat.add ak e)) fun v s'=>stages n wr call e0 ak ds es (Nat.succ k) (dE vs e v) s')))
def vP (wr:Nat→Option Nat)(vs e0:En):En:=fun t=>@Option.rec Nat (fun _=>Option Value) (nA (e0 t)) (fun j=>nA (vs j)) (wr t)
def x8 (P:Program)(nt:Nat)(call:Cl)(ops:Array Oper)(e:En)(s:S):Option R :=
 aO (Bf ops) (sB s fun c h ds=>fN c fun c=>oB (vK P nt (aL ops) (aL ops)) fun l =>
  oB (stages (aL ops).length (fun t=>writer t (aL ops) 0) call e c (sI (bF [] (aL ops)) (mD (aL ops) 0) l (aL ops) 0) (mD (aL ops) 0) 0 (fun _=>none) ⟨Nat.add c (aL ops).length,h,ds⟩) fun p=>pB p fun vs s =>
   aO (seen (aL ops).length (Nat.sub (Nat.shiftLeft 1 (aL ops).length) 1) vs) (some ⟨0,vP (fun t=>writer t (aL ops) 0) vs e,s⟩))
def JF (P:Program)(nt:Nat)(call:Cl)(ops:List Oper)(e:En)(s:S):Option R :=
 sB s fun c h ds=>fN c fun c=>oB (vK P nt ops ops) fun l=>onL (Ej call l c e ⟨Nat.add c ops.length,h,ds⟩)
def RH (P:Program)(nt:Nat)(call:Cl)(ih:Code→En→S→Option R)(c:Code):En→S→Option R:=@Code.rec (fun _=>En→S→Option R)
 (fun e s=>some ⟨0,e,s⟩)
 (fun _ ops draw e s=>bB draw (x8 P nt call ops e s) (JF P nt call (aL ops) e s))
 (fun x y _ _ e s=>El (ih x e s) (ih y))
 (fun c x y _ _ e s=>JC (ev e c) (ih x e s) (ih y e s))
 (fun id c _ e s=>JB id (ih c e s))
 (fun c _ e s=>El (ih c e s) (ih (.loop c)))
 (fun _ _ _ _ _ _ _ _=>none)
 (fun id e s=>some ⟨Nat.add id 2,e,s⟩)
 (fun c _ e s=>ih c e s)
 (fun _ e s=>some ⟨0,e,s⟩)
 (fun _ _ _=>none)
 (fun e s=>some ⟨1,e,s⟩)
 (fun _ _ _=>none) c
def code (P:Program)(nt:Nat)(call:Cl)(n:Nat):Code→En→S→Option R:=Nat.rec (motive:=fun _=>Code→En→S→Option R) (fun _ _ _=>none) (fun _ ih=>RH P nt call ih) n
def defers (call:Cl)(l:List (FuncId × List Value)):S→Option S:=@List.rec (FuncId × List Value) (fun _=>S→Option S) (fun s=>some s) (fun d _ ih s=>pB d fun f args=>lM (call f args s) fun _ s=>ih s) l
def JG (P:Program)(e:En)(s:S):ResultVar→Option Value
 | .tmp t=>some (ic (e t))
 | .cell a t=>oB (comp P (.load t (.tmp a))) fun f=>oB (f (fun _ _ _=>none) e s 0) fun p=>pB p fun v _=>some v
def vQ (P:Program)(e:En)(s:S):List ResultVar→Option (List Value)
 | []=>some []
 | r :: l=>oB (JG P e s r) fun v=>aO (o9 v) (oB (vQ P e s l) fun vs=>some (v :: vs))
def enter (l:List Value):Nat→En→En:=@List.rec Value (fun _=>Nat→En→En) (fun _ e=>e) (fun v _ ih i e=>ih (Nat.succ i) (dE e i v)) l
def out (l:List Value):Value:=match l with
 | [v]=>v
 | l=>.tuple l.toArray
def fin (P:Program)(fn:Func)(ds:List (FuncId × List Value))(e:En)(s:S):Option (Value × S):=sB s fun c h _=>oB (vQ P e ⟨c,h,ds⟩ (aL fn.results)) fun l=>some (out l,⟨c,h,ds⟩)
def leave (P:Program)(oz:Cl)(qW:Bool)(fn:Func)(ds:List (FuncId × List Value))(r:Option R):Option (Value × S):=oB r fun r=>rB r fun k e s =>
 aO (Nat.ble k 1) (sB s fun _ _ d=>bB qW (lB d (fin P fn ds e s) fun _ _=>none) (oB (defers oz d s) fun s=>fin P fn ds e s))
def Er (P:Program)(f:FuncId):Option (Func × Code):=oB P.funcs[f]? fun fn=>oB fn.body fun c=>some (fn,c)
def fuel:Nat:=100000
def Bg (P:Program)(call oz:Cl)(qW:Bool)(args:List Value)(s:S)(p:Func × Code):Option (Value × S):=pB p fun fn c=>sB s fun k h ds=>aO (Nat.ble args.length fn.ntmps) (leave P oz qW fn ds (code P fn.ntmps call fuel c (enter args 0 (fun _=>none)) ⟨k,h,[]⟩))
abbrev Sp:=Cl→FuncId→List Value→S→Option (Option (Value × S))
def func (P:Program)(iJ:Sp)(n:Nat):Bool→Cl:=Nat.rec (motive:=fun _=>Bool→Cl) (fun _ _ _ _=>none)
 (fun _ ih qW f args s=>@Option.rec (Option (Value × S)) (fun _=>Option (Value × S)) (oB (Er P f) fun p=>Bg P (ih false) (ih true) qW args s p) (fun r=>r) (bB qW none (iJ (ih false) f args s))) n
def RJ (args:List Value)(s:S):Option (Value × S):=match args with | [.string b]=>aO (Nat.ble (sL b).length 1000000) (some (.string b,s)) | _=>none
def RL (call:Cl)(args:List Value)(s:S):Option (Value × S):=match args with
 | [.func (.func g) f cap]=>lB (aL f) (lM (call g (aL cap) s) fun v s=>xR v none fun a=>lB (aL a) (some (.agg #[.int .i64 0,.int .i64 0],s)) fun _ _=>none) fun _ _=>none
 | _=>none
def sJ (c:Nat):List UInt8→Nat→Int
 | [],_=>.negSucc 0
 | b :: l,i=>match Nat.beq b.toNat c with | true=>.ofNat i | false=>sJ c l (Nat.succ i)
def RN (args:List Value)(s:S):Option (Value × S):=match args with
 | [.string b,.int .u8 (.ofNat c)]=>aO (Nat.ble c 255) (some (.int .i64 (sJ c (sL b) 0),s))
 | _=>none
def iJ (clone ac2 index:Nat)(call:Cl)(f:FuncId)(args:List Value)(s:S):Option (Option (Value × S)) :=
 bB (Nat.beq f clone) (some (RJ args s)) (bB (Nat.beq f ac2) (some (RL call args s)) (bB (Nat.beq f index) (some (RN args s)) none))
end Xe
end
namespace Xe
structure Gh where
 b:Nat
 n:Nat
abbrev Ph:=Nat→Option Gh
def Sub (φ φ':Ph):Prop:=∀ x g,φ x=some g→φ' x=some g
theorem Sub.refl (φ:Ph):Sub φ φ:=fun _ _ h=>h
theorem Sub.trans {φ φ' ψ:Ph}(h:Sub φ φ')(h':Sub φ' ψ):Sub φ ψ:=fun x g hx=>h' x g (h x g hx)
def L {α β:Type}(R:α→β→Prop):List α→List β→Prop
 | [],[]=>True
 | a :: l,b :: m=>R a b∧L R l m
 | _,_=>False
theorem L.mono {α β:Type}{R R':α→β→Prop}(hR:∀ a b,R a b→R' a b):∀ {l:List α} {m:List β},L R l m→L R' l m
 | [],[],_=>trivial
 | _ :: _,_ :: _,h=>⟨hR _ _ h.1,L.mono hR h.2⟩
 | [],_ :: _,h=>h.elim
 | _ :: _,[],h=>h.elim
theorem L.length {α β:Type}{R:α→β→Prop}:∀ {l:List α} {m:List β},L R l m→l.length=m.length
 | [],[],_=>rfl
 | _ :: _,_ :: _,h=>by simp[L.length h.2]
 | [],_ :: _,h=>h.elim
 | _ :: _,[],h=>h.elim
theorem L.app {α β:Type}{R:α→β→Prop}:∀ {l:List α} {m:List β} {l':List α} {m':List β},L R l m→L R l' m'→L R (l++l') (m++m')
 | [],[],_,_,_,h'=>h'
 | _ :: _,_ :: _,_,_,h,h'=>⟨h.1,L.app h.2 h'⟩
 | [],_ :: _,_,_,h,_=>h.elim
 | _ :: _,[],_,_,h,_=>h.elim
theorem L.at {α β:Type}{R:α→β→Prop}:∀ {l:List α} {m:List β},L R l m→∀ {i:Nat} {x:α},l[i]?=some x→∃ y,m[i]?=some y∧R x y
 | [],[],_,i,x,h=>by simp at h
 | _ :: _,_ :: _,h,0,x,hx=>by simp at hx;subst hx;exact⟨_,rfl,h.1⟩
 | _ :: _,_ :: _,h,i+1,x,hx=>by simp at hx;simpa using L.at h.2 hx
 | [],_ :: _,h,_,_,_=>h.elim
 | _ :: _,[],h,_,_,_=>h.elim
theorem L.set {α β:Type}{R:α→β→Prop}:∀ {l:List α} {m:List β},L R l m→∀ (i:Nat) {x:α} {y:β},R x y→L R (l.set i x) (m.set i y)
 | [],[],_,_,_,_,_=>trivial
 | _ :: _,_ :: _,h,0,_,_,r=>⟨r,h.2⟩
 | _ :: _,_ :: _,h,i+1,_,_,r=>⟨h.1,L.set h.2 i r⟩
 | [],_ :: _,h,_,_,_,_=>h.elim
 | _ :: _,[],h,_,_,_,_=>h.elim
theorem L.erase {α β:Type}{R:α→β→Prop}:∀ {l:List α} {m:List β},L R l m→∀ (i:Nat),L R (l.eraseIdx i) (m.eraseIdx i)
 | [],[],_,_=>by simp[L]
 | _ :: _,_ :: _,h,0=>h.2
 | _ :: _,_ :: _,h,i+1=>⟨h.1,L.erase h.2 i⟩
 | [],_ :: _,h,_=>h.elim
 | _ :: _,[],h,_=>h.elim
theorem L.take {α β:Type}{R:α→β→Prop}:∀ {l:List α} {m:List β},L R l m→∀ (i:Nat),L R (l.take i) (m.take i)
 | [],[],_,_=>by simp[L]
 | _ :: _,_ :: _,_,0=>trivial
 | _ :: _,_ :: _,h,i+1=>⟨h.1,L.take h.2 i⟩
 | [],_ :: _,h,_=>h.elim
 | _ :: _,[],h,_=>h.elim
theorem L.drop {α β:Type}{R:α→β→Prop}:∀ {l:List α} {m:List β},L R l m→∀ (i:Nat),L R (l.drop i) (m.drop i)
 | [],[],_,_=>by simp[L]
 | _ :: _,_ :: _,h,0=>h
 | _ :: _,_ :: _,h,i+1=>L.drop h.2 i
 | [],_ :: _,h,_=>h.elim
 | _ :: _,[],h,_=>h.elim
theorem L.refl {α:Type}{R:α→α→Prop}:∀ (l:List α),(∀ x ∈ l,R x x)→L R l l
 | [],_=>trivial
 | a :: l,h=>⟨h a (by simp),L.refl l fun x hx=>h x (by simp[hx])⟩
def AR (φ:Ph)(a a':Addr):Prop:=a.spot=none∧∃ g,φ a.block=some g∧a'=⟨g.b,a.off,none⟩
def SR (φ:Ph)(a:Addr)(n z:Nat)(a':Option Addr)(c:Nat):Prop :=
 (a.spot≠none∧n=0)∨(a.spot=none∧n≤c∧∃ g,φ a.block=some g∧a'=some ⟨g.b,a.off,none⟩∧a.off+c * z≤g.n)
def V0 (φ:Ph)(v v':Value):Prop:=match v with
 | .bool b=>v'=.bool b
 | .int k n=>v'=.int k n
 | .string s=>v'=.string s
 | .pointer none=>v'=.pointer none
 | .pointer (some a)=>∃ a',v'=.pointer (some a')∧AR φ a a'
 | .slice none n _=>n=0∧v'=.slice none 0 0
 | .slice (some a) n z=>∃ a' c,v'=.slice a' n c∧SR φ a n z a' c
 | .map none=>v'=.map none
 | .map (some r)=>∃ g,φ r=some g∧v'=.map (some g.b)
 | .nilFunc=>v'=.nilFunc
 | _=>False
def V1 (φ:Ph)(v v':Value):Prop:=V0 φ v v'∨∃ fn f c f' c',v=.func fn f c∧v'=.func fn f' c'∧L (V0 φ) f.toList f'.toList∧L (V0 φ) c.toList c'.toList
def VA (φ:Ph)(v v':Value):Prop:=V1 φ v v'∨∃ c c',v=.agg c∧v'=.agg c'∧L (V1 φ) c.toList c'.toList
def V (φ:Ph)(v v':Value):Prop:=VA φ v v'∨∃ c c',v=.tuple c∧v'=.tuple c'∧L (VA φ) c.toList c'.toList
theorem AR.mono {φ φ':Ph}(h:Sub φ φ'){a a':Addr}(r:AR φ a a'):AR φ' a a':=⟨r.1,r.2.elim fun g hg=>⟨g,h _ _ hg.1,hg.2⟩⟩
theorem SR.mono {φ φ':Ph}(h:Sub φ φ'){a:Addr}{n z:Nat}{a':Option Addr}{c:Nat}(r:SR φ a n z a' c):SR φ' a n z a' c :=
 r.imp id fun⟨h0,h1,g,hg,h2⟩=>⟨h0,h1,g,h _ _ hg,h2⟩
theorem V0.mono {φ φ':Ph}(h:Sub φ φ'){v v':Value}(r:V0 φ v v'):V0 φ' v v':=by
 unfold V0 at *;split at r;case h_5=>obtain⟨a',h1,h2⟩:=r;exact⟨a',h1,h2.mono h⟩
 case h_7=>obtain⟨a',c,h1,h2⟩:=r;exact⟨a',c,h1,h2.mono h⟩
 case h_9=>obtain⟨g,h1,h2⟩:=r;exact⟨g,h _ _ h1,h2⟩
 case h_11=>exact r.elim
 all_goals exact r
theorem V1.mono {φ φ':Ph}(h:Sub φ φ'){v v':Value}(r:V1 φ v v'):V1 φ' v v' :=
 r.imp (V0.mono h) fun⟨fn,f,c,f',c',h1,h2,h3,h4⟩=>⟨fn,f,c,f',c',h1,h2,h3.mono fun _ _=>V0.mono h,h4.mono fun _ _=>V0.mono h⟩
theorem VA.mono {φ φ':Ph}(h:Sub φ φ'){v v':Value}(r:VA φ v v'):VA φ' v v' :=
 r.imp (V1.mono h) fun⟨c,c',h1,h2,h3⟩=>⟨c,c',h1,h2,h3.mono fun _ _=>V1.mono h⟩
theorem V.mono {φ φ':Ph}(h:Sub φ φ'){v v':Value}(r:V φ v v'):V φ' v v' :=
 r.imp (VA.mono h) fun⟨c,c',h1,h2,h3⟩=>⟨c,c',h1,h2,h3.mono fun _ _=>VA.mono h⟩
theorem V.dU {φ:Ph}{v v':Value}(r:V0 φ v v'):V φ v v':=.inl (.inl (.inl r))
theorem V.undef (φ:Ph):V φ undef undef:=.inr ⟨#[],#[],rfl,rfl,trivial⟩
def ER (φ:Ph)(e e':MapEntry):Prop:=V0 φ e.key e'.key∧VA φ e.val e'.val∧e'.born=e.born
theorem ER.mono {φ φ':Ph}(h:Sub φ φ'){e e':MapEntry}(r:ER φ e e'):ER φ' e e':=⟨r.1.mono h,r.2.1.mono h,r.2.2⟩
def OR (φ:Ph)(w:World)(x:Nat)(o:Obj):Prop:=match o with
 | .cells c _ _=>∃ g c' e fr,φ x=some g∧w.heap[g.b]?=some (.cells c' e fr)∧c'.size=g.n∧(3≤x→fr=(0,0))∧c.size≤c'.size∧L (V1 φ) c.toList (c'.toList.take c.size)
 | .map es k=>∃ g es',φ x=some g∧w.heap[g.b]?=some (.map es' k)∧L (ER φ) es.toList es'.toList
 | _=>True
def iQ (o:Obj):Prop:=match o with
 | .cells ..=>True
 | .map ..=>True
 | _=>False
def live (h:Hp)(x:Nat):Prop:=∃ o,h x=some o∧iQ o
theorem OR.ph {φ:Ph}{w:World}{x:Nat}{o:Obj}(h:OR φ w x o)(ho:iQ o):∃ g,φ x=some g:=by
 cases o<;>simp only[iQ] at ho
 ·obtain⟨g,_,_,_,hg,_⟩:=h;exact⟨g,hg⟩
 ·obtain⟨g,_,hg,_⟩:=h;exact⟨g,hg⟩
theorem OR.mono {φ φ':Ph}{w w':World}(h:Sub φ φ'){x:Nat}{o:Obj}(r:OR φ w x o)(hb:∀ g,φ x=some g→w'.heap[g.b]?=w.heap[g.b]?):OR φ' w' x o:=by
 cases o<;>try exact trivial
 ·obtain⟨g,c',e,fr,h1,h2,h3,h4,h5,h6⟩:=r
  exact⟨g,c',e,fr,h _ _ h1,(hb g h1).trans h2,h3,h4,h5,h6.mono fun _ _=>V1.mono h⟩
 ·obtain⟨g,es',h1,h2,h3⟩:=r
  exact⟨g,es',h _ _ h1,(hb g h1).trans h2,h3.mono fun _ _=>ER.mono h⟩
structure Rel (φ:Ph) (h:Hp) (w:World):Prop where
 obj:∀ x o,h x=some o→OR φ w x o
 inj:∀ x y g g',live h x→live h y→φ x=some g→φ y=some g'→g.b=g'.b→x=y
 bnd:∀ x g,φ x=some g→g.b<w.heap.size
 lN:∀ x,x<3→∃ n,φ x=some ⟨x,n⟩
theorem Rel.draws {φ:Ph}{h:Hp}{w w':World}(r:Rel φ h w)(e:w'.heap=w.heap):Rel φ h w' where
 obj x o hx:=(r.obj x o hx).mono (Sub.refl φ) fun g _=>by rw[e]
 inj:=r.inj
 bnd x g hx:=by rw[e];exact r.bnd x g hx
 lN:=r.lN
theorem Rel.less {φ:Ph}{h h':Hp}{w:World}(r:Rel φ h w)(hs:∀ x o,h' x=some o→iQ o→h x=some o):Rel φ h' w where
 obj x o hx:=by
  by_cases ho:iQ o
  ·exact r.obj x o (hs x o hx ho)
  ·cases o<;>simp only[iQ,not_true_eq_false] at ho<;>exact trivial
 inj x y g g' hx hy:=r.inj x y g g' (hx.elim fun o ho=>⟨o,hs x o ho.1 ho.2,ho.2⟩) (hy.elim fun o ho=>⟨o,hs y o ho.1 ho.2,ho.2⟩)
 bnd:=r.bnd
 lN:=r.lN
def Oe (w w':World):Prop:=w'.os=w.os∧w'.tape=w.tape∧w'.output=w.output
theorem Oe.refl (w:World):Oe w w:=⟨rfl,rfl,rfl⟩
structure Ext (φ:Ph) (h:Hp) (w:World) (φ':Ph) (w':World):Prop where
 sub:Sub φ φ'
 size:w.heap.size≤w'.heap.size
 news:∀ x g,φ x=none→φ' x=some g→w.heap.size≤g.b∨∃ y g',3≤y∧live h y∧φ y=some g'∧g'.b=g.b
 kept:∀ b,b<w.heap.size→(∀ x g,3≤x→live h x→φ x=some g→g.b≠b)→w'.heap[b]?=w.heap[b]?
 out:Oe w w'
theorem Ext.refl (φ:Ph)(h:Hp)(w:World):Ext φ h w φ w:=⟨Sub.refl φ,Nat.le_refl _,fun x g h0 h1=>(by rw[h0] at h1;cases h1),fun _ _ _=>rfl,Oe.refl w⟩
theorem Ext.trans {φ φ₁ φ₂:Ph}{h h₁:Hp}{w w₁ w₂:World}(a:Ext φ h w φ₁ w₁)(b:Ext φ₁ h₁ w₁ φ₂ w₂)
  (hl:∀ x,live h₁ x→live h x∨φ x=none) (hp:∀ x,live h x→∃ g,φ x=some g) (hp₁:∀ x,live h₁ x→∃ g,φ₁ x=some g):Ext φ h w φ₂ w₂:=by
 have key:∀ y g',3≤y→live h₁ y→φ₁ y=some g'→w.heap.size≤g'.b∨∃ z g,3≤z∧live h z∧φ z=some g∧g.b=g'.b:=by
  intro y g' h3 hy hg;rcases hl y hy with h0 | h0
  ·obtain⟨g,hg0⟩:=hp y h0
   have e:=a.sub y g hg0;rw[hg] at e;cases e;exact .inr ⟨y,g',h3,h0,hg0,rfl⟩
  ·exact a.news y g' h0 hg
 refine⟨a.sub.trans b.sub,Nat.le_trans a.size b.size,?_,?_,b.out.1.trans a.out.1,b.out.2.1.trans a.out.2.1,b.out.2.2.trans a.out.2.2⟩
 ·intro x g h0 h2
  cases h1:φ₁ x with
  | some g1 =>
   have e:=b.sub x g1 h1;rw[h2] at e;cases e;exact a.news x g h0 h1
  | none =>
   rcases b.news x g h1 h2 with hn | ⟨y,g',h3,hy,hg,he⟩
   ·exact .inl (Nat.le_trans a.size hn)
   ·rcases key y g' h3 hy hg with hk | ⟨z,gz,hz3,hz,hgz,sK⟩
    ·exact .inl (he ▸ hk)
    ·exact .inr ⟨z,gz,hz3,hz,hgz,sK.trans he⟩
 ·intro c hc hn
  have _:=hp₁;rw[b.kept c (Nat.lt_of_lt_of_le hc a.size) ?_,a.kept c hc hn];intro y g' h3 hy hg he;rcases key y g' h3 hy hg with hk | ⟨z,gz,hz3,hz,hgz,sK⟩
  ·omega
  ·exact hn z gz hz3 hz hgz (sK.trans he)
def Fr (φ:Ph)(c:Nat):Prop:=∀ x,c≤x→φ x=none
structure dG (φ:Ph) (s:S) (w:World):Prop where
 rel:Rel φ s.h w
 fr:Fr φ s.c
theorem Rel.has {φ:Ph}{h:Hp}{w:World}(r:Rel φ h w){x:Nat}(hx:live h x):∃ g,φ x=some g:=hx.elim fun o ho=>(r.obj x o ho.1).ph ho.2
structure Post (φ:Ph) (s:S) (w:World) (φ':Ph) (s':S) (w':World):Prop where
 stt:dG φ' s' w'
 ext:Ext φ s.h w φ' w'
 le:s.c≤s'.c
 new:∀ x,φ x=none→φ' x≠none→s.c≤x
 dx:∀ x,live s'.h x→live s.h x∨φ x=none
theorem Post.refl {φ:Ph}{s:S}{w:World}(h:dG φ s w):Post φ s w φ s w:=⟨h,Ext.refl φ s.h w,Nat.le_refl _,fun _ h0 h1=>(h1 h0).elim,fun _ hx=>.inl hx⟩
theorem Post.trans {φ φ₁ φ₂:Ph}{s s₁ s₂:S}{w w₁ w₂:World}(h0:dG φ s w)(a:Post φ s w φ₁ s₁ w₁)(b:Post φ₁ s₁ w₁ φ₂ s₂ w₂):Post φ s w φ₂ s₂ w₂ where
 stt:=b.stt
 ext:=a.ext.trans b.ext a.dx (fun _ hx=>h0.rel.has hx) (fun _ hx=>a.stt.rel.has hx)
 le:=Nat.le_trans a.le b.le
 new x hx hn:=by
  by_cases h1:φ₁ x=none
  ·exact Nat.le_trans a.le (b.new x h1 hn)
  ·exact a.new x hx h1
 dx x hx:=by
  rcases b.dx x hx with h1 | h1
  ·exact a.dx x h1
  ·cases h2:φ x with
   | none=>exact .inr rfl
   | some g=>rw[a.ext.sub x g h2] at h1;cases h1
theorem dG.draws {φ:Ph}{s:S}{w w':World}(h:dG φ s w)(e:w'.heap=w.heap):dG φ s w':=⟨h.rel.draws e,h.fr⟩
structure kr (φ:Ph) (nt:Nat) (e:En) (a:Act):Prop where
 size:a.tmps.size=nt
 val:∀ t,V φ (ic (e t)) (a.tmps.getD t undef)
theorem kr.mono {φ φ':Ph}(h:Sub φ φ'){nt:Nat}{e:En}{a:Act}(r:kr φ nt e a):kr φ' nt e a:=⟨r.size,fun t=>(r.val t).mono h⟩
theorem Bh (e:En)(d t:Nat)(v:Value):dE e d v t=if t=d then some v else e t:=by
 unfold dE bB;by_cases h:t=d
 ·subst h;simp
 ·have:Nat.beq t d=false:=by cases hb:Nat.beq t d with | true=>exact (h (Nat.eq_of_beq_eq_true hb)).elim | false=>rfl
  rw[this];simp only[h,if_false];cases e t<;>rfl
theorem ik (h:Hp)(b x:Nat)(o:Obj):setH h b o x=if x=b then some o else h x:=by
 unfold setH bB;by_cases hx:x=b
 ·subst hx;simp
 ·have:Nat.beq x b=false:=by cases hb:Nat.beq x b with | true=>exact (hx (Nat.eq_of_beq_eq_true hb)).elim | false=>rfl
  rw[this];simp only[hx,if_false];cases h x<;>rfl
theorem kr.put {φ:Ph}{nt:Nat}{e:En}{a:Act}(r:kr φ nt e a){d:Option Nat}(hd:nC nt d=true){v v':Value}(hv:V φ v v'):kr φ nt (put e d v) (a.put d v'):=by
 cases d with
 | none=>exact r
 | some d =>
  have hlt:d<nt:=by simpa[nC,Nat.ble_eq,Nat.succ_le_iff] using hd
  refine⟨by simp[Act.put,r.size],fun t=>?_⟩;show V φ (ic (dE e d v t)) ((a.tmps.setIfInBounds d v').getD t undef)
  rw[Bh];by_cases ht:t=d
  ·subst ht
   simp only[if_true];rw[Array.getD_eq_getD_getElem?,Array.getElem?_setIfInBounds_self_of_lt (by rw[r.size];exact hlt)];exact hv
  ·rw[if_neg ht,Array.getD_eq_getD_getElem?,Array.getElem?_setIfInBounds_ne (fun h=>ht h.symm),← Array.getD_eq_getD_getElem?]
   exact r.val t
end Xe
end Go.Proofs.YtfcpglhpolpdcaaGreatDoor
