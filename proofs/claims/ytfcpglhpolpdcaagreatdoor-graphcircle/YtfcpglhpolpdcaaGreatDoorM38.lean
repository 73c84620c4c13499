/- Structs that are built,lookups,slices,lengths. -/
import Derived.Test.YtfcpglhpolpdcaaGreatDoorM37
import Derived.Laws.Tables
import Derived.Great.BuildSlice
import Derived.Laws.MakeOwn
namespace Go.Proofs.YtfcpglhpolpdcaaGreatDoor
namespace Xe
variable {P:Program}
theorem JP:∀ (vs c r:List Value),over c vs=some r ↔ vs.length≤c.length∧r=vs++c.drop vs.length
 | [],c,r=>by show some c=some r ↔ _;simp[eq_comm]
 | v :: vs,[],r=>by simp[over,lB]
 | v :: vs,x :: c,r=>by
  show oB (over c vs) (fun r=>some (v :: r))=some r ↔ _
  rw[aj];constructor
  ·rintro⟨t,h,e⟩
   obtain⟨h1,rfl⟩:=(JP vs c t).1 h;cases e;exact⟨by simpa using h1,by simp⟩
  ·rintro⟨h1,rfl⟩
   exact⟨vs++c.drop vs.length,(JP vs c _).2 ⟨by simpa using h1,rfl⟩,by simp⟩
theorem Bz:∀ (n:Nat) (c vs r:List Value),qO n c vs=some r ↔ n≤c.length∧n+vs.length≤c.length∧r=c.take n++vs++c.drop (n+vs.length)
 | 0,c,vs,r=>by
  show over c vs=some r ↔ _
  rw[JP];simp
 | n+1,[],vs,r=>by simp[qO,lB]
 | n+1,x :: c,vs,r=>by
  show oB (qO n c vs) (fun r=>some (x :: r))=some r ↔ _
  rw[aj];constructor
  ·rintro⟨t,h,e⟩
   obtain⟨h1,h2,rfl⟩:=(Bz n c vs t).1 h;cases e;exact⟨by simpa using h1,by simp;omega,by simp[Nat.add_right_comm n 1]⟩
  ·rintro⟨h1,h2,rfl⟩
   exact⟨_,(Bz n c vs _).2 ⟨by simpa using h1,by simp at h2;omega,rfl⟩,by simp[Nat.add_right_comm n 1]⟩
theorem Sc (off:Nat):∀ (l:List Value) (k:Nat) (cs:Array Value),off+k+l.length≤cs.size →
  ((l.zipIdx k).foldl (fun cs p=>cs.setIfInBounds (off+p.2) p.1) cs).toList=cs.toList.take (off+k)++l++cs.toList.drop (off+k+l.length)
 | [],k,cs,h=>by simp
 | v :: l,k,cs,h=>by
  rw[List.zipIdx_cons,List.foldl_cons];have hlen:off+(k+1)+l.length≤(cs.setIfInBounds (off+k) v).size:=by simp at h ⊢;omega
  rw[Sc off l (k+1) _ hlen];have hlt:off+k<cs.toList.length:=by simp at h ⊢;omega
  have e:(cs.setIfInBounds (off+k) v).toList=cs.toList.take (off+k)++v :: cs.toList.drop (off+k+1):=by
   rw[Array.toList_setIfInBounds,List.set_eq_take_append_cons_drop,if_pos hlt]
  have hT:(cs.toList.take (off+k)).length=off+k:=by rw[List.length_take];omega
  have t1:(cs.toList.take (off+k)++v :: cs.toList.drop (off+k+1)).take (off+(k+1))=cs.toList.take (off+k)++[v]:=by
   rw[show off+(k+1)=(cs.toList.take (off+k)).length+1 by omega,List.take_length_add_append];simp
  have t2:(cs.toList.take (off+k)++v :: cs.toList.drop (off+k+1)).drop (off+(k+1)+l.length)=cs.toList.drop (off+k+1+l.length):=by
   rw[show off+(k+1)+l.length=(cs.toList.take (off+k)).length+(l.length+1) by omega,List.drop_length_add_append,List.drop_succ_cons,List.drop_drop]
  rw[e,t1,t2];simp[Nat.add_assoc,Nat.add_comm 1]
theorem L.over {φ:Ph}{c c' vs vs':List Value}(h:L (V1 φ) c c')(hv:L (V1 φ) vs vs')(n:Nat):L (V1 φ) (c.take n++vs++c.drop (n+vs.length)) (c'.take n++vs'++c'.drop (n+vs'.length)) :=
 ((h.take n).app hv).app (by rw[hv.length];exact h.drop _)
def PR (φ:Ph)(p p':Nat × Value):Prop:=p.1=p'.1∧V φ p.2 p'.2
theorem JQ {φ:Ph}{place:Nat→Option (Nat × Nat)}:∀ (ps ps':List (Nat × Value)) (c r:List Value) (c':Array Value),L (PR φ) ps ps'→L (V1 φ) c c'.toList →
  xV place ps c=some r→∃ r',Instr.fill place c' ps'=some r'∧L (V1 φ) r r'.toList
 | [],[],c,r,c',_,hc,h=>by
  have h':some c=some r:=h;cases h';exact⟨c',rfl,hc⟩
 | p :: ps,p' :: ps',c,r,c',hp,hc,h=>by
  obtain⟨i,v⟩:=p;obtain⟨i',v'⟩:=p';obtain⟨⟨hi,hv⟩,hps⟩:=hp;simp only at hi hv;subst hi;have h1:oB (place i) (fun q=>pB q fun off z=>aO (o9 v) (aO (Nat.beq z (lK v).length) (oB (qO off c (lK v)) fun c=>xV place ps c)))=some r:=h;obtain⟨⟨off,z⟩,hq,h2⟩:=aj.1 h1;rw[gQ,aN,aN] at h2;obtain⟨hn,hz,h3⟩:=h2;obtain⟨c2,h4,h5⟩:=aj.1 h3;obtain⟨_,hle,rfl⟩:=(Bz _ _ _ _).1 h4;have hcv:=vT (yj hv hn);have hzl:z=v'.cells.size:=by
   have:=hcv.length;have hz':=Nat.eq_of_beq_eq_true hz;simp at this;omega
  have qY:off+v'.cells.size≤c'.size:=by
   have e1:=hcv.length;have e2:=hc.length;simp at e1 e2;omega
  have adx:((v'.cells.zipIdx.foldl (fun cs (x:Value × Nat)=>cs.setIfInBounds (off+x.2) x.1) c').toList)=c'.toList.take off++v'.cells.toList++c'.toList.drop (off+v'.cells.toList.length):=by
   have:=Sc off v'.cells.toList 0 c' (by simpa using qY);rw[← Array.foldl_toList,Array.toList_zipIdx];simpa using this
  obtain⟨r',hr,hL⟩:=JQ ps ps' _ r (v'.cells.zipIdx.foldl (fun cs (x:Value × Nat)=>cs.setIfInBounds (off+x.2) x.1) c') hps (by rw[adx];exact hc.over hcv off) h5;refine⟨r',?_,hL⟩;show (match place i with
   | none=>none
   | some (off,size)=>if v'.cells.size≠size || off+v'.cells.size > c'.size then none else Instr.fill place (v'.cells.zipIdx.foldl (fun cs (x,j)=>cs.setIfInBounds (off+j) x) c') ps')=some r'
  rw[hq];simp only;rw[if_neg (by simp[hzl];omega)];exact hr
 | [],_ :: _,_,_,_,h,_,_=>h.elim
 | _ :: _,[],_,_,_,h,_,_=>h.elim
theorem JR (e:En):∀ l:List (Nat × Operand),xY e l=l.map fun p=>(p.1,ev e p.2)
 | []=>rfl
 | p :: l=>by
  show pB p (fun i x=>(i,ev e x)) :: xY e l=_
  rw[JR e l];cases p;rfl
theorem Sd {v:Value}(φ:Ph)(h:ok0 v=true):V0 φ v v:=by
 cases v<;>simp[ok0] at h<;>first | rfl | skip
 ·subst h;rfl
 ·rename_i a n c
  obtain⟨rfl,h1,h2⟩:=h;subst h1;subst h2;exact⟨rfl,rfl⟩
 ·subst h;rfl
theorem vV {v:Value}(φ:Ph)(h:qQ v=true):VA φ v v:=by
 unfold qQ at h;rw[Bool.or_eq_true] at h;rcases h with h | h
 ·exact .inl (.inl (Sd φ h))
 ·cases v<;>simp[vH] at h
  rename_i c;refine .inr ⟨c,c,rfl,rfl,L.refl _ fun x hx=>.inl (Sd φ ?_)⟩;rw[bK] at h;exact h x (by simpa using hx)
theorem Sg {φ:Ph}{nt:Nat}{e:En}{a:Act}{x:Operand}(h:JA x=true)(hE:kr φ nt e a)(hg:∀ x,x<3→∃ n,φ x=some ⟨x,n⟩):V φ (ev e x) (a.eval x):=by
 cases x with
 | tmp t=>exact hE.val t
 | const v=>exact .inl (vV φ h)
 | global g =>
  have:g<3:=by simp only[JA,dW,decide_eq_true_eq] at h;omega
  obtain⟨n,hn⟩:=hg g this;exact .dU ⟨⟨g,0,none⟩,rfl,rfl,⟨g,n⟩,hn,rfl⟩
 | func f=>exact .inl (.inl (.inr ⟨.func f,#[],#[],#[],#[],rfl,rfl,trivial,trivial⟩))
theorem JS {φ:Ph}{nt:Nat}{e:En}{a:Act}{op:Op}(h:mr op=true)(hE:kr φ nt e a)(hg:∀ x,x<3→∃ n,φ x=some ⟨x,n⟩):pG φ e a op:=by
 intro x hx;unfold mr at h;rw[bK,List.all_eq_true] at h;exact Sg (h x (by simpa using hx)) hE hg
theorem Si:∀ (fs:List Field),(fs.all fun f=>(dF P f.type).isSome)=true→fs.mapM (fun f=>(P.info? f.type).map fun i=>(f.offset,i.size))=some (places P fs)
 | [],_=>rfl
 | f :: fs,h=>by
  simp only[List.all_cons,Bool.and_eq_true] at h;obtain⟨n,hn⟩:=Option.isSome_iff_exists.1 h.1;have hi:∃ i,P.info? f.type=some i∧i.size=n:=by
   unfold dF at hn;split at hn
   ·rename_i i hi;cases hn;exact⟨i,hi,rfl⟩
   ·cases hn
  obtain⟨i,hi,rfl⟩:=hi;simp[List.mapM_cons,hi,Si fs h.2,places,hn]
theorem ady {t:TypeId}{parts:Array (Nat × Operand)}{f:F}(h:Jw P t parts.toList=some f):gT P (.build t parts) f:=by
 unfold Jw at h;split at h;case h_2=>cases h
 rename_i fs hd;obtain⟨z,hz,h⟩:=aj.1 h;rw[aN,aN] at h;obtain⟨hok,hall,h⟩:=h;cases h;intro call e s nm v s' h;obtain⟨r,hr,h⟩:=aj.1 h;cases h;refine⟨rfl,fun φ a w hE _=>?_⟩;have hparts:L (PR φ) (xY e parts.toList) ((parts.map fun (i,x)=>(i,a.eval x)).toList):=by
  rw[JR,Array.toList_map];exact yl fun p hp=>⟨rfl,hE p.2 (by simp[Op.operands];exact⟨p.1,by simpa using hp⟩)⟩
 have hz0:L (V1 φ) z.cells.toList z.cells.toList:=by
  have:=vT (vV φ hok);have e1:lK z=z.cells.toList:=by
   cases z<;>first | rfl | (show aL _=_;rw[bK];rfl)
  rw[e1] at this;exact this
 obtain⟨r',hf,hL⟩:=JQ _ _ _ r z.cells hparts hz0 hr;refine⟨.agg r',.inl (.inr ⟨_,_,rfl,rfl,by simpa using hL⟩),fun o ho=>?_⟩;have hb:P.built t (parts.map fun (i,x)=>(i,a.eval x)).toList=some r':=by
  unfold Program.built;unfold pz at hz;split at hz
  ·rename_i it hit
   unfold und at hd;rw[hit,hd];simp only[hz,Si _ hall];have e2:(fun x=>(places P fs.toList).toArray[x]?)=nth (places P fs.toList):=by funext x;rw[kv];simp
   rw[e2];exact hf
  ·cases hz
 simp only[execOp,ho];rw[Sem.run_bind,run_build w t _ r' hb];rfl
end Xe
namespace Xe
variable {P:Program}
theorem Sj {x:Option Value}{d m n:Nat}(h:ou x d m=some n):(x=none∧n=d)∨(n≤m∧∃ k:IntKind,x=some (.int k (n:Int))):=by
 cases x with
 | none=>have h':some d=some n:=h;cases h';exact .inl ⟨rfl,rfl⟩
 | some v =>
  have h':(jM v none fun _ i=>iB i (fun n=>bB (Nat.ble n m) (some n) none) (fun _=>none))=some n:=h;obtain⟨k,i,rfl,h2⟩:=sM.1 h';cases i with
  | negSucc i=>cases h2
  | ofNat i =>
   rw[Eu,bT,dW] at h2;split at h2
   ·rename_i hle;cases h2;exact .inr ⟨by simpa using hle,k,rfl⟩
   ·cases h2
def vW (x x':Option Value):Prop:=(x=none→x'=none)∧∀ (k:IntKind) (n:Int),x=some (.int k n)→x'=some (.int k n)
theorem Ez {φ:Ph}{e:En}{a:Act}{x:Option Operand}(h:∀ y,x=some y→V φ (ev e y) (a.eval y)):vW (kT e x) (x.map a.eval):=by
 cases x with
 | none=>exact⟨fun _=>rfl,fun k n h'=>by cases h'⟩
 | some y =>
  refine⟨fun h'=>(by cases h'),fun k n h'=>?_⟩;have e1:ev e y=.int k n:=Option.some.inj (show some (ev e y)=some (.int k n) from h');have:=h y rfl;rw[e1] at this;simp[nD this]
theorem EA {k:IntKind}{n m:Nat}(h:n≤m)(code:BoundsCode)(w:World):(Instr.sliceBound (.int k (n:Int)) m code).run P w=.ok n w:=by
 simp[Instr.sliceBound,asIntOf,h]
theorem JU {oD:Bool}{len cap l h:Nat}{lo hi lo' hi':Option Value}(hc:len≤cap)(hl:vW lo lo')(hh:vW hi hi')(h1:ou hi len len=some h)(h2:ou lo 0 h=some l)(w:World) :
  h≤len∧l≤h∧(Instr.sliceBounds oD len cap lo' hi' none).run P w=.ok (l,h,cap) w:=by
 rcases Sj h1 with⟨e1,rfl⟩ | ⟨b1,k1,e1⟩<;>rcases Sj h2 with⟨e2,rfl⟩ | ⟨b2,k2,e2⟩
 ·rw[hl.1 e2,hh.1 e1]
  exact⟨Nat.le_refl _,Nat.zero_le _,by simp[Instr.sliceBounds]⟩
 ·rw[hl.2 _ _ e2,hh.1 e1]
  exact⟨Nat.le_refl _,b2,by simp[Instr.sliceBounds,EA b2]⟩
 ·rw[hl.1 e2,hh.2 _ _ e1]
  exact⟨b1,Nat.zero_le _,by simp[Instr.sliceBounds,EA (Nat.le_trans b1 hc)]⟩
 ·rw[hl.2 _ _ e2,hh.2 _ _ e1]
  exact⟨b1,b2,by simp[Instr.sliceBounds,EA (Nat.le_trans b1 hc),EA b2]⟩
theorem adz {t:TypeId}(x:Operand)(lo hi:Option Operand)(hd:und P t=some .string):gT P (.slice t x lo hi none) (xX none x lo hi):=by
 intro call e s nm v s' h;rw[xX,kU] at h;obtain⟨h2,rfl⟩:=h;have h2':(lJ (ev e x) none fun b=>Jj b (kT e lo) (kT e hi))=some v:=h2;obtain⟨b,hb,h3⟩:=Bp.1 h2';unfold Jj at h3;obtain⟨hn,e1,h3⟩:=aj.1 h3;obtain⟨ln,e2,h3⟩:=aj.1 h3;obtain⟨r,hr,h3⟩:=aj.1 h3;cases h3;rw[yc,Bl,qX] at hr;obtain⟨_,rfl⟩:=hr;rw[qX] at e1;refine⟨rfl,fun φ a w hE _=>?_⟩;have hx:=hE x (by simp[Op.operands]);rw[hb] at hx;have hl:vW (kT e lo) (lo.map a.eval):=Ez (φ:=φ) fun y hy=>hE y (by simp[Op.operands,hy]);have hh:vW (kT e hi) (hi.map a.eval):=Ez (φ:=φ) fun y hy=>hE y (by simp[Op.operands,hy]);have hsz:b.data.toList.length=b.size:=by
  show b.data.toList.length=b.data.size
  simp
 rw[hsz] at e1;obtain⟨c1,c2,hrun⟩:=JU (P:=P) (oD:=false) (Nat.le_refl _) hl hh e1 e2 w;refine⟨.string (b.extract ln hn),?_,fun o ho=>?_⟩
 ·have:b.extract ln hn=⟨((b.data.toList.drop ln).take (Nat.sub hn ln)).toArray⟩:=by
   apply ByteArray.ext;rw[ByteArray.data_extract];apply Array.toList_inj.1;simp[Array.toList_extract]
  rw[this];exact .dU rfl
 ·simp only[execOp,ho,sN hx]
  simp[Instr.sliceAt,Instr.slice,dH hd,hrun]
theorem adA {t el:TypeId}{z:Nat}(x:Operand)(lo hi:Option Operand)(hd:und P t=some (.slice el))(hz:dF P el=some z):gT P (.slice t x lo hi none) (xX (some z) x lo hi):=by
 intro call e s nm v s' h;rw[xX,kU] at h;obtain⟨h2,rfl⟩:=h;have h2':(sG (ev e x) none fun a n k=>@Option.rec Addr (fun _=>Option Value) (nB n (oB (ou (kT e hi) 0 0) fun h=>oB (ou (kT e lo) 0 h) fun _=>some (.slice none 0 0)) fun _=>none) (fun a=>D9 z a n k (kT e lo) (kT e hi)) a)=some v:=h2;obtain⟨b,n,k,hb,h3⟩:=Br.1 h2';refine⟨rfl,fun φ a w hE _=>?_⟩;have hx:=hE x (by simp[Op.operands]);rw[hb] at hx;have hl:vW (kT e lo) (lo.map a.eval):=Ez (φ:=φ) fun y hy=>hE y (by simp[Op.operands,hy]);have hh:vW (kT e hi) (hi.map a.eval):=Ez (φ:=φ) fun y hy=>hE y (by simp[Op.operands,hy]);cases b with
 | none =>
  obtain⟨rfl,hx'⟩:=Bu hx;obtain⟨hn,e1,h4⟩:=aj.1 h3;obtain⟨ln,e2,h5⟩:=aj.1 h4;cases h5;obtain⟨c1,c2,hrun⟩:=JU (P:=P) (oD:=true) (Nat.le_refl _) hl hh e1 e2 w;refine⟨.slice none 0 0,.dU ⟨rfl,rfl⟩,fun o ho=>?_⟩;have:hn=0:=by omega
  have:ln=0:=by omega
  subst hn;subst ln;simp only[execOp,ho,hx'];simp[Instr.sliceAt,Instr.slice,dH hd,hrun,run_sizeOf hz]
 | some b =>
  obtain⟨a',c,hx',hs⟩:=pF hx;have h3':D9 z b n k (kT e lo) (kT e hi)=some v:=h3;unfold D9 at h3';obtain⟨hn,e1,h4⟩:=aj.1 h3';obtain⟨ln,e2,h5⟩:=aj.1 h4;rw[aN,x9] at h5;obtain⟨hk,hsp,h6⟩:=h5;have hk':=Nat.eq_of_beq_eq_true hk;subst hk';rcases hs with⟨h0,_⟩ | ⟨_,hnc,g,hg,rfl,hroom⟩
  ·exact absurd hsp h0
  obtain⟨c1,c2,hrun⟩:=JU (P:=P) (oD:=true) hnc hl hh e1 e2 w;have vX:∀ o:Oper,o.op=.slice t x lo hi none→(execOp a.eval o).run P w=.ok (.value (.slice (if c=ln then some ⟨g.b,b.off,none⟩ else some ((⟨g.b,b.off,none⟩:Addr).add (ln * k))) (hn - ln) (c - ln))) w:=by
   intro o ho;simp only[execOp,ho,hx'];simp[Instr.sliceAt,Instr.slice,dH hd,hrun,run_sizeOf hz]
  have JO:AR φ b ⟨g.b,b.off,none⟩:=⟨hsp,g,hg,rfl⟩;rw[bT,dW] at h6;split at h6
  ·rename_i hle
   have qY:n≤ln:=by simpa using hle
   cases ln with
   | zero =>
    rw[Bi,RP] at h6;cases h6;refine⟨_,.dU ⟨_,c,?_,.inr ⟨hsp,by show Nat.sub hn 0≤c;simp;omega,g,hg,rfl,hroom⟩⟩,fun o ho=>(vX o ho)⟩;simp[Addr.add]
   | succ ln =>
    rw[Bj] at h6;cases h6;have:hn - (ln+1)=0:=by omega
    exact⟨_,.dU ⟨_,c - (ln+1),by rw[this],.inl ⟨by simp,rfl⟩⟩,fun o ho=>vX o ho⟩
  ·rename_i hle
   have qY:ln<n:=by simpa using hle
   rw[RP,JH,show Nat.mul ln k=ln * k from rfl,show Nat.sub hn ln=hn - ln from rfl] at h6;cases h6;refine⟨_,.dU ⟨some ((⟨g.b,b.off,none⟩:Addr).add (ln * k)),c - ln,?_,.inr ?_⟩,fun o ho=>vX o ho⟩
   ·have:c≠ln:=by omega
    rw[if_neg this]
   ·obtain⟨q0,g',q1,q2⟩:=JO.add (ln * k)
    have hb1:(b.add (ln * k)).block=b.block:=by unfold Addr.add;split<;>rfl
    have hb2:(b.add (ln * k)).off=b.off+ln * k:=by
     unfold Addr.add;split
     ·simp_all
     ·rfl
    rw[hb1,hg] at q1;cases q1;refine⟨q0,by omega,g,by rw[hb1];exact hg,by rw[q2],?_⟩;rw[hb2];have:c * k=ln * k+(c - ln) * k:=by rw[← Nat.add_mul];congr 1;omega
    omega
theorem adB {t:TypeId}{x:Operand}{lo hi:Option Operand}{f:F}(h:Jv P t x lo hi=some f):gT P (.slice t x lo hi none) f:=by
 unfold Jv at h;split at h
 ·rename_i hd;cases h;exact adz x lo hi hd
 ·rename_i el hd
  obtain⟨z,hz,h⟩:=aj.1 h;cases h;exact adA x lo hi hd hz
 ·cases h
theorem Sl (a b:ByteArray):(a==b)=decide (a.data.toList=b.data.toList):=by
 have:(a==b)=(a.data==b.data):=rfl;rw[this,Bool.eq_iff_iff];simp
def JV (d:TypeDesc)(ks:Bool):Prop:=(d=.string∧ks=true)∨((∃ k,d=.int k)∧ks=false)
theorem JW {t:TypeId}{ks:Bool}(h:vJ P t=some ks):∃ d,und P t=some d∧JV d ks:=by
 unfold vJ at h;split at h
 ·rename_i hd;cases h;exact⟨_,hd,.inl ⟨rfl,rfl⟩⟩
 ·rename_i k hd;cases h;exact⟨_,hd,.inr ⟨⟨k,rfl⟩,rfl⟩⟩
 ·cases h
theorem JX {φ:Ph}{ks:Bool}{k k':Value}(h:Bb ks k=true)(hv:V φ k k'):k'=k∧V0 φ k k∧((ks=true∧∃ s,k=.string s)∨(ks=false∧∃ q n,k=.int q n)):=by
 unfold Bb at h;rw[bT] at h;split at h
 ·rename_i hk
  cases k<;>simp[lJ] at h;exact⟨sN hv,rfl,.inl ⟨hk,_,rfl⟩⟩
 ·rename_i hk
  cases k<;>simp[jM] at h;exact⟨nD hv,rfl,.inr ⟨by simpa using hk,_,_,rfl⟩⟩
theorem BA {φ:Ph}{d:TypeDesc}{ks:Bool}(hd:JV d ks){k:Value}(hk:(ks=true∧∃ s,k=.string s)∨(ks=false∧∃ q n,k=.int q n)) :
  ∀ (es es':List MapEntry) (i:Nat) (r:Option (Nat × Value)),L (ER φ) es es'→xW k es i=some r →
   (r=none∧Instr.findNow d k es' i=some none)∨∃ j v v' e,r=some (j,v)∧Instr.findNow d k es' i=some (some (j,v'))∧VA φ v v'∧i≤j∧es'[j - i]?=some e∧e.key=k
 | [],[],i,r,_,h=>by
  have h':some none=some r:=h;cases h';exact .inl ⟨rfl,rfl⟩
 | e :: es,e' :: es',i,r,hL,h=>by
  have h1:oB (Rm k e.key) (fun b=>bB b (some (some (i,e.val))) (xW k es (Nat.succ i)))=some r:=h;obtain⟨b,hb,h2⟩:=aj.1 h1;have hs:Instr.sameNow d k e'.key=some b∧(b=true→e'.key=k):=by
   have hkey:=hL.1.1;rcases hk with⟨rfl,s,rfl⟩ | ⟨rfl,q,n,rfl⟩
   ·have hb1:(lJ e.key none fun b=>some (pE (sL s) (sL b)))=some b:=hb
    obtain⟨c,hc,hb2⟩:=Bp.1 hb1;rw[hc] at hkey;have hc':e'.key=.string c:=hkey;have hd':d=.string:=by rcases hd with⟨h,_⟩ | ⟨_,h⟩;exact h;cases h
    rw[Ey,qX,qX] at hb2;cases hb2;rw[hc',hd'];refine⟨by simp only[Instr.sameNow,Sl],fun ht=>?_⟩;have:s.data.toList=c.data.toList:=by simpa using ht
    rw[ByteArray.ext (Array.toList_inj.1 this)]
   ·have hb1:(jM e.key none fun kb b=>bB (Nat.beq (oq q) (oq kb)) (some (vI n b)) none)=some b:=hb
    obtain⟨q',m,hc,hb2⟩:=sM.1 hb1;rw[hc] at hkey;have hc':e'.key=.int q' m:=hkey;obtain⟨kk,hd'⟩:∃ kk,d=.int kk:=by rcases hd with⟨_,h⟩ | ⟨h,_⟩;cases h;exact h
    rw[bT] at hb2;split at hb2
    ·rename_i hq
     have:=(JL _ _).1 hq;subst this;rw[JK] at hb2;cases hb2;rw[hc',hd'];refine⟨by simp only[Instr.sameNow,if_true];congr 1,fun ht=>?_⟩;have:n=m:=by simpa using ht
     rw[this]
    ·cases hb2
  cases b with
  | true =>
   have h3:some (some (i,e.val))=some r:=h2;cases h3;exact .inr ⟨i,e.val,e'.val,e',rfl,by simp[Instr.findNow,hs.1],hL.1.2.1,Nat.le_refl _,by simp,hs.2 rfl⟩
  | false =>
   have h3:xW k es (Nat.succ i)=some r:=h2;rcases BA hd hk es es' (i+1) r hL.2 h3 with⟨h4,h5⟩ | ⟨j,v,v',x,h4,h5,h6,h7,h8,h9⟩
   ·exact .inl ⟨h4,by simp[Instr.findNow,hs.1,h5]⟩
   ·refine .inr ⟨j,v,v',x,h4,by simp[Instr.findNow,hs.1,h5],h6,by omega,?_,h9⟩
    have:j - i=(j - (i+1))+1:=by omega
    rw[this,List.getElem?_cons_succ];exact h8
 | [],_ :: _,_,_,h,_=>h.elim
 | _ :: _,[],_,_,h,_=>h.elim
theorem run_checkKey {t:TypeId}{d:TypeDesc}{ks:Bool}(ht:und P t=some d)(hd:JV d ks)(b:Bool)(v:Value)(w:World):(Instr.checkKey b 10000 t v).run P w=.ok () w:=by
 show (Instr.checkKey b (9999+1) t v).run P w=_
 unfold Instr.checkKey;rcases hd with⟨rfl,_⟩ | ⟨⟨k,rfl⟩,_⟩<;>cases v<;>simp[dH ht]
theorem Sm {φ:Ph}{h:Hp}{w:World}(r:Rel φ h w){m m':Value}(hm:V φ m m'){es:List MapEntry}{k:Nat}(hh:Ee h m=some (es,k)) :
  (m'=.map none∧es=[])∨∃ b es',m'=.map (some b)∧w.heap[b]?=some (.map es' k)∧L (ER φ) es es'.toList:=by
 unfold Ee at hh;obtain⟨x,rfl,hh⟩:=ac3.1 hh;cases x with
 | none=>have h':some (([]:List MapEntry),0)=some (es,k):=hh;cases h';exact .inl ⟨ac7 hm,rfl⟩
 | some x =>
  have h':mapOf (h x)=some (es,k):=hh;obtain⟨es0,k0,h1,h2⟩:=JJ.1 h';cases h2;obtain⟨g,hg,rfl⟩:=JM hm;obtain⟨g',es',hg',hw,hL⟩:=r.obj _ _ h1;rw[hg] at hg';cases hg';exact .inr ⟨g.b,es',rfl,hw,hL⟩
theorem JY {φ:Ph}{ok b:Bool}{v v':Value}(h:VA φ v v'):V φ (okV ok v b) (if ok=true then .tuple #[v',.bool b] else v'):=by
 cases ok
 ·exact .inl h
 ·exact .inr ⟨#[v,.bool b],#[v',.bool b],rfl,rfl,h,.inl (.inl rfl),trivial⟩
theorem adC {t:TypeId}{x i:Operand}{ok:Bool}{f:F}(h:Ju P t x i ok=some f):gT P (.lookup t x i ok) f:=by
 unfold Ju at h;split at h;case h_2=>cases h
 rename_i kt el hd;obtain⟨ks,hks,h⟩:=aj.1 h;obtain⟨z,hz,h⟩:=aj.1 h;rw[aN] at h;obtain⟨hok,h⟩:=h;cases h;obtain⟨d,hkd,hD⟩:=JW hks;intro call e s nm v s' h;rw[Rx,aN] at h;obtain⟨hfit,h⟩:=h;obtain⟨⟨es,k⟩,hm,h⟩:=aj.1 h;rw[gQ] at h;obtain⟨r,hr,h⟩:=aj.1 h;cases h;refine⟨rfl,fun φ a w hE hR=>?_⟩;have hx:=hE x (by simp[Op.operands]);have hi:=hE i (by simp[Op.operands]);obtain⟨hki,_,hkk⟩:=JX hfit hi;have hzero:(zeroValue el).run P w=.ok z w:=by
  unfold pz at hz;split at hz
  ·rename_i it hit;simp[zeroValue,typeInfo,hit,hz]
  ·cases hz
 rcases Sm hR hx hm with⟨hm',rfl⟩ | ⟨b,es',hm',hw,hL⟩
 ·rcases BA (φ:=φ) hD hkk [] [] 0 r trivial hr with⟨rfl,h5⟩ | ⟨j,v,v',x,rfl,h5,h6,_⟩
  ·refine⟨_,JY (b:=false) (vV φ hok),fun o ho=>?_⟩
   simp only[execOp,ho,hm',hki];simp[Instr.lookup,dH hd,run_checkKey hkd hD,Instr.findKey,dH hkd,h5,hzero]
  ·cases h5
 ·have hg:(getObj b).run P w=.ok (.map es' k) w:=by simp[getObj,Sem.run,hw]
  rcases BA hD hkk es es'.toList 0 r hL hr with⟨rfl,h5⟩ | ⟨j,v,v',x,rfl,h5,h6,_⟩
  ·refine⟨_,JY (b:=false) (vV φ hok),fun o ho=>?_⟩
   simp only[execOp,ho,hm',hki];simp[Instr.lookup,dH hd,hg,run_checkKey hkd hD,Instr.findKey,dH hkd,h5,hzero]
  ·refine⟨_,JY (b:=true) h6,fun o ho=>?_⟩
   simp only[execOp,ho,hm',hki];simp[Instr.lookup,dH hd,hg,run_checkKey hkd hD,Instr.findKey,dH hkd,h5]
end Xe
namespace Xe
variable {P:Program}
theorem JZ {c:Call}{b:Builtin}(hc:c.callee=.builtin b){o:Oper}(ho:o.op=.call c)(ρ:Operand→Value) :
  execOp ρ o=builtin b c.argTypes o.type (c.args.map fun | .const _=>true | _=>false) (c.args.map ρ):=by
 obtain⟨cal,args,ats⟩:=c;simp only at hc;subst hc;simp only[execOp,ho];rfl
theorem adE {c:Call}{f:F}(hc:c.callee=.builtin .len)(h:sH P c .len=some f):gT P (.call c) f:=by
 unfold sH at h;simp only at h;split at h;case h_2=>cases h
 rename_i x t ts hargs BB;have hargs':c.args=#[x]:=Array.toList_inj.1 (by simpa using hargs);have qZ:c.argTypes[0]?=some t:=by rw[← Array.getElem?_toList,BB];rfl
 have hop:x ∈ (Op.call c).operands:=by simp[Op.operands,Call.operands,hc,hargs']
 have vX:∀ (a:Act) (w:World) (o:Oper) (r:Value),o.op=.call c→(Builtin.len_ c.argTypes o.type #[a.eval x]).run P w=.ok r w→(execOp a.eval o).run P w=.ok (.value r) w:=by
  intro a w o r ho hr;rw[JZ hc ho,hargs'];have:((#[x]:Array Operand).map a.eval)=#[a.eval x]:=by simp
  rw[this];show (do pure (.value (← Builtin.len_ c.argTypes o.type #[a.eval x])):Sem Next).run P w=_
  simp[hr]
 split at h
 ·rename_i hd
  cases h;intro call e s nm v s' h;obtain⟨b,hb,h⟩:=Bp.1 h;rw[kU,vS] at h;obtain⟨h2,rfl⟩:=h;cases h2;refine⟨rfl,fun φ a w hE _=>?_⟩;have hx:=hE x hop;rw[hb] at hx;refine⟨_,.dU rfl,fun o ho=>vX a w o _ ho ?_⟩;rw[sN hx,qX];simp[Builtin.len_,qZ,dH hd,goInt]
 ·rename_i el hd
  cases h;intro call e s nm v s' h;obtain⟨b,n,k,hb,h⟩:=Br.1 h;rw[kU,vS] at h;obtain⟨h2,rfl⟩:=h;cases h2;refine⟨rfl,fun φ a w hE _=>?_⟩;have hx:=hE x hop;rw[hb] at hx;have:∃ a' c',a.eval x=.slice a' n c':=by
   cases b with
   | none=>obtain⟨rfl,h'⟩:=Bu hx;exact⟨none,0,h'⟩
   | some b=>obtain⟨a',c',h',_⟩:=pF hx;exact⟨a',c',h'⟩
  obtain⟨a',c',hx'⟩:=this;refine⟨_,.dU rfl,fun o ho=>vX a w o _ ho ?_⟩;rw[hx'];simp[Builtin.len_,qZ,dH hd,goInt]
 ·rename_i kt el hd
  cases h;intro call e s nm v s' h;obtain⟨⟨es,k⟩,hm,h⟩:=aj.1 h;rw[gQ,kU,vS] at h;obtain⟨h2,rfl⟩:=h;cases h2;refine⟨rfl,fun φ a w hE hR=>?_⟩;have hx:=hE x hop;refine⟨_,.dU rfl,fun o ho=>vX a w o _ ho ?_⟩;rcases Sm hR hx hm with⟨hm',rfl⟩ | ⟨b,es',hm',hw,hL⟩
  ·rw[hm']
   simp[Builtin.len_,qZ,dH hd,goInt]
  ·have hg:(getObj b).run P w=.ok (.map es' k) w:=by simp[getObj,Sem.run,hw]
   have:=hL.length;simp at this;rw[hm'];simp[Builtin.len_,qZ,dH hd,goInt,hg,this]
 ·cases h
def upd (φ:Ph)(x:Nat)(g:Gh):Ph:=fun y=>if y=x then some g else φ y
theorem lU (φ:Ph)(x:Nat)(g:Gh):upd φ x g x=some g:=by simp[upd]
theorem ym {φ:Ph}{x:Nat}(h:φ x=none)(g:Gh):Sub φ (upd φ x g):=by
 intro y g' hy;unfold upd;split
 ·rename_i e;subst e;rw[h] at hy;cases hy
 ·exact hy
def yn (P:Program)(op:Op)(f:F):Prop:=∀ (call:Cl) (e:En) (s:S) (nm:Nat) (v:Value) (s':S),f call e s nm=some (v,s') →
 ∃ ob,iQ ob∧(∀ (call2:Cl) (s2:S),f call2 e s2 nm=some (v,⟨s2.c,setH s2.h nm ob,s2.ds⟩)) ∧
  ∀ (φ:Ph) (a:Act) (w:World),pG φ e a op→φ nm=none→∃ o' n v',(∀ o:Oper,o.op=op→(execOp a.eval o).run P w=.ok (.value v') (w.alloc o')) ∧
   V (upd φ nm ⟨w.heap.size,n⟩) v v'∧∀ w':World,w'.heap[w.heap.size]?=some o'→OR (upd φ nm ⟨w.heap.size,n⟩) w' nm ob
theorem pI (s:S)(nm:Nat)(o:Obj)(f:Nat→Value):newAt s nm o f=some (f nm,⟨s.c,setH s.h nm o,s.ds⟩):=by
 unfold newAt;rw[oC,jN]
theorem adF {t:TypeId}{z:Value}(hz:pz P t=some z)(w:World):(zeroValue t).run P w=.ok z w:=by
 unfold pz at hz;split at hz
 ·rename_i it hit;simp[zeroValue,typeInfo,hit,hz]
 ·cases hz
theorem J2 (z:Value):lK z=z.cells.toList:=by cases z<;>first | rfl | (show aL _=_;rw[bK];rfl)
theorem EC {φ:Ph}{w w':World}{nm:Nat}{c c':Array Value}{t t':TypeId}{fr:Nat × Nat}(hL:L (V1 φ) c.toList c'.toList)(h0:φ nm=none)(hw:w'.heap[w.heap.size]?=some (.cells c' t')) :
  OR (upd φ nm ⟨w.heap.size,c'.size⟩) w' nm (.cells c t fr):=by
 have hl:=hL.length;simp at hl;refine⟨⟨w.heap.size,c'.size⟩,c',t',(0,0),lU φ nm _,hw,rfl,fun _=>rfl,by omega,?_⟩;rw[hl,List.take_of_length_le (by simp)];exact hL.mono fun _ _=>V1.mono (ym h0 _)
theorem adG {t:TypeId}{z:Value}(hz:pz P t=some z)(hok:qQ z=true):yn P (.alloc t) (Jm (.cells z.cells t)):=by
 intro call e s nm v s' h;unfold Jm at h;rw[pI] at h;cases h;refine⟨.cells z.cells t,trivial,fun call2 s2=>pI _ _ _ _,fun φ a w _ h0=>⟨.cells z.cells t,z.cells.size,.pointer (some ⟨w.heap.size,0,none⟩),fun o ho=>?_,.dU ⟨_,rfl,rfl,_,lU φ nm _,rfl⟩,fun w' hw=>?_⟩⟩
 ·simp only[execOp,ho]
  simp[Instr.alloc,adF hz,newVar,newRow]
 ·have:=vT (vV φ hok)
  rw[J2] at this;exact EC this h0 hw
theorem adH (t:TypeId)(x:Operand):yn P (.box t x) (Ef t x):=by
 intro call e s nm v s' h;unfold Ef at h;rw[aN,pI] at h;obtain⟨hn,h⟩:=h;cases h;refine⟨.cells (lK (ev e x)).toArray t,trivial,fun call2 s2=>by unfold Ef;rw[aN];exact⟨hn,pI _ _ _ _⟩,fun φ a w hE h0=>⟨.cells (a.eval x).cells t,(a.eval x).cells.size,.pointer (some ⟨w.heap.size,0,none⟩),fun o ho=>?_,.dU ⟨_,rfl,rfl,_,lU φ nm _,rfl⟩,fun w' hw=>?_⟩⟩
 ·simp only[execOp,ho]
  simp[Instr.box,newVar,newRow]
 ·exact EC (by simpa using vT (yj (hE x (by simp[Op.operands])) hn)) h0 hw
theorem adI (t:TypeId):yn P (.makeMap t none) Jn:=by
 intro call e s nm v s' h;unfold Jn at h;rw[pI] at h;cases h;refine⟨.map #[] 0,trivial,fun call2 s2=>pI _ _ _ _,fun φ a w _ h0=>⟨.map #[] 0,0,.map (some w.heap.size),fun o ho=>?_,.dU ⟨_,lU φ nm _,rfl⟩,fun w' hw=>⟨_,#[],lU φ nm _,hw,trivial⟩⟩⟩;simp only[execOp,ho];simp[Instr.makeMap]
theorem Sn (z:List Value):∀ (n i:Nat),i<n * z.length→(jk z n)[i]?=z[i % z.length]?
 | 0,i,h=>by simp at h
 | n+1,i,h=>by
  show (z++jk z n)[i]?=_
  rw[List.getElem?_append];split
  ·rename_i hi;rw[Nat.mod_eq_of_lt hi]
  ·rename_i hi
   rw[Sn z n (i - z.length) (by rw[Nat.add_mul] at h;omega),← Nat.mod_eq_sub_mod (by omega)]
theorem ED (z:List Value):∀ n:Nat,(jk z n).length=n * z.length
 | 0=>by show ([]:List Value).length=_;simp
 | n+1=>by show (z++jk z n).length=_;rw[List.length_append,ED z n,Nat.add_mul];omega
theorem Sq (z:Array Value)(n:Nat)(hz:0<z.size):((Array.range (n * z.size)).map (z[· % z.size]!)).toList=jk z.toList n:=by
 apply List.ext_getElem?;intro i;rcases Nat.lt_or_ge i (n * z.size) with h | h
 ·rw[Sn z.toList n i (by simpa using h)]
  have hm:i % z.size<z.size:=Nat.mod_lt _ hz;simp[h,hm]
 ·rw[List.getElem?_eq_none (by simpa using h),List.getElem?_eq_none (by rw[ED];simpa using h)]
theorem J3 {φ:Ph}{z:List Value}(h:L (V1 φ) z z):∀ n,L (V1 φ) (jk z n) (jk z n)
 | 0=>trivial
 | n+1=>h.app (J3 h n)
theorem adJ {t:TypeId}{n:Nat}{parts:Array (Nat × Operand)}{f:F}(h:Jy P t n parts.toList=some f):yn P (.buildSlice t n parts) f:=by
 unfold Jy at h;split at h;case h_2=>cases h
 rename_i el hd;obtain⟨z,hz,h⟩:=aj.1 h;obtain⟨zs,hzs,h⟩:=aj.1 h;rw[aN,aN,aN,aN] at h;obtain⟨hok,hsz,hsm,hpos,h⟩:=h;cases h;intro call e s nm v s' h;unfold fRow at h;obtain⟨r,hr,h⟩:=aj.1 h;rw[pI] at h;cases h;have hinfo:∃ ie,P.info? el=some ie∧ie.size=z∧ie.zero=some zs:=by
  unfold dF at hz;unfold pz at hzs;split at hz
  ·rename_i ie hie
   rw[hie] at hzs;cases hz;exact⟨ie,hie,rfl,hzs⟩
  ·cases hz
 obtain⟨ie,hie,rfl,hzero⟩:=hinfo;have hsz':zs.cells.size=ie.size:=Nat.eq_of_beq_eq_true hsz;have hpos':0<ie.size:=by rw[dW] at hpos;simp at hpos;omega
 have ahx:n * ie.size≤16777216:=by rw[dW] at hsm;simpa using hsm
 refine⟨.cells r.toArray el,trivial,fun call2 s2=>by unfold fRow;rw[hr];exact pI _ _ _ _,fun φ a w hE h0=>?_⟩;have hparts:L (PR φ) (xY e parts.toList) ((parts.map fun (i,x)=>(i,a.eval x)).toList):=by
  rw[JR,Array.toList_map];exact yl fun p hp=>⟨rfl,hE p.2 (by simp[Op.operands];exact⟨p.1,by simpa using hp⟩)⟩
 have hz0:L (V1 φ) (jk zs.cells.toList n) ((Array.range (n * ie.size)).map (zs.cells[· % zs.cells.size]!)).toList:=by
  rw[← hsz',Sq zs.cells n (by omega)];have:=vT (vV φ hok);rw[J2] at this;exact J3 this n
 obtain⟨r',hf,hL⟩:=JQ _ _ _ r _ hparts hz0 hr;have hrlen:r'.size=n * ie.size:=by
  have h1:=hL.length;have h2:∀ (ps:List (Nat × Value)) (c r:List Value),xV (fun i=>some (Nat.mul i ie.size,ie.size)) ps c=some r→r.length=c.length:=by
   intro ps;induction ps with
   | nil=>intro c r h;have h':some c=some r:=h;cases h';rfl
   | cons p ps ih =>
    intro c r h;obtain⟨i,v⟩:=p;have h1:aO (o9 v) (aO (Nat.beq ie.size (lK v).length) (oB (qO (Nat.mul i ie.size) c (lK v)) fun c=>xV (fun i=>some (Nat.mul i ie.size,ie.size)) ps c))=some r:=h;rw[aN,aN] at h1;obtain⟨_,_,h1⟩:=h1;obtain⟨c2,h3,h4⟩:=aj.1 h1;obtain⟨_,hle,rfl⟩:=(Bz _ _ _ _).1 h3;rw[ih _ _ h4];simp only[List.length_append,List.length_take,List.length_drop];omega
  have h3:=h2 _ _ _ hr;rw[ED] at h3;simp at h1 h3;rw[hsz'] at h3;omega
 refine⟨.cells r' el,r'.size,.slice (some ⟨w.heap.size,0,none⟩) n n,fun o ho=>?_,.dU ⟨_,n,rfl,.inr ⟨rfl,Nat.le_refl _,_,lU φ nm _,rfl,?_⟩⟩,fun w' hw=>EC (by simpa using hL) h0 hw⟩
 ·simp only[execOp,ho]
  by_cases h0:n * ie.size=0
  ·have hn:n=0:=by rcases Nat.mul_eq_zero.1 h0 with h | h;exact h;omega
   subst hn;have hf':Instr.fill (fun i=>some (i * ie.size,ie.size)) #[] (parts.map fun (i,x)=>(i,a.eval x)).toList=some r':=by
    have e1:((Array.range (0 * ie.size)).map (zs.cells[· % zs.cells.size]!))=#[]:=by simp
    rw[e1] at hf;exact hf
   simp at hf';simp[Instr.buildSlice,dH hd,run_sizeOf hz,newRow,Array.range_zero',hf']
  ·have:=run_buildSlice (P:=P) w t el n (parts.map fun (i,x)=>(i,a.eval x)) r' ie zs hd hie hzero (by omega) h0 hf
   rw[Sem.run_bind,this];rfl
 ·show 0+n * ie.size≤r'.size
  omega
theorem Su {x:Value}{n:Nat}(h:Eg x=some n):∃ k:IntKind,x=.int k (n:Int):=by
 unfold Eg at h;obtain⟨k,i,rfl,h⟩:=sM.1 h;cases i with
 | negSucc i=>cases h
 | ofNat i=>have h':some i=some n:=h;cases h';exact⟨k,rfl⟩
theorem adK {t:TypeId}{x c:Operand}{f:F}(h:Jz P t x c=some f):yn P (.makeSlice t x c) f:=by
 unfold Jz at h;split at h;case h_2=>cases h
 rename_i el hd;obtain⟨ie,hie,h⟩:=aj.1 h;obtain⟨zs,hzero,h⟩:=aj.1 h;rw[aN,aN,aN] at h;obtain⟨hok,hsz,hpos,h⟩:=h;cases h;intro call e s nm v s' h;unfold Jo at h;obtain⟨n,hn,h⟩:=aj.1 h;obtain⟨k,hk,h⟩:=aj.1 h;rw[aN,aN,aN,pI] at h;obtain⟨hnk,hb1,hb2,h⟩:=h;cases h;have adL:=Nat.eq_of_beq_eq_true hnk;subst adL;have hsz':zs.cells.size=ie.size:=Nat.eq_of_beq_eq_true hsz;have hpos':0<ie.size:=by rw[dW] at hpos;simp at hpos;omega
 have hb1':n≤1000000:=by rw[dW] at hb1;simpa using hb1
 have hb2':ie.bytes≤1000000:=by rw[dW] at hb2;simpa using hb2
 refine⟨.cells (jk zs.cells.toList n).toArray el,trivial,fun call2 s2=>?_,fun φ a w hE h0=>?_⟩
 ·unfold Jo
  rw[hn,hk];show aO _ _=_
  rw[aN,aN,aN];exact⟨hnk,hb1,hb2,pI _ _ _ _⟩
 have hx:=hE x (by simp[Op.operands]);have hc:=hE c (by simp[Op.operands]);obtain⟨q1,e1⟩:=Su hn;obtain⟨q2,e2⟩:=Su hk;rw[e1] at hx;rw[e2] at hc;have hz0:L (V1 φ) (jk zs.cells.toList n) (jk zs.cells.toList n):=by
  have:=vT (vV φ hok);rw[J2] at this;exact J3 this n
 have hmul:n * ie.bytes≤1000000000000:=Nat.le_trans (Nat.mul_le_mul hb1' hb2') (by omega);have ahy:¬ ((2:Int) ^ 48<(ie.bytes:Int) * (n:Int)):=by
  have:((ie.bytes:Int) * (n:Int))=((n * ie.bytes:Nat):Int):=by rw[Int.natCast_mul,Int.mul_comm]
  rw[this];omega
 have hcells:madeCells zs.cells (n * ie.size)=(jk zs.cells.toList n).toArray:=by
  apply Array.toList_inj.1;rw[← hsz'];simpa[madeCells] using Sq zs.cells n (by omega)
 have hrun:=run_make (P:=P) w t el ie zs hd hie hzero q1 q2 (n:Int) (n:Int) (by omega) (Int.le_refl _) (by omega) (by omega);simp only[Int.toNat_natCast] at hrun;rw[hcells] at hrun;refine⟨.cells (jk zs.cells.toList n).toArray el,n * ie.size,.slice (some ⟨w.heap.size,0,none⟩) n n,fun o ho=>?_,.dU ⟨_,n,rfl,.inr ⟨rfl,Nat.le_refl _,_,lU φ nm _,rfl,by show 0+n * ie.size≤n * ie.size;omega⟩⟩,fun w' hw=>?_⟩
 ·simp only[execOp,ho,nD hx,nD hc]
  rw[Sem.run_bind,hrun];rfl
 ·have:=EC (nm:=nm) (t:=el) (t':=el) (fr:=(0,0)) (c:=(jk zs.cells.toList n).toArray) (c':=(jk zs.cells.toList n).toArray) (by simpa using hz0) h0 hw
  have hs:(jk zs.cells.toList n).toArray.size=n * ie.size:=by simp[ED,hsz']
  rw[hs] at this;exact this
end Xe
end Go.Proofs.YtfcpglhpolpdcaaGreatDoor
