/- Operations that change what is there: stores,maps,appends. -/
import Derived.Test.YtfcpglhpolpdcaaGreatDoorM38
import Derived.ArgAppend
namespace Go.Proofs.YtfcpglhpolpdcaaGreatDoor
namespace Xe
variable {P:Program}
def BC (P:Program)(op:Op)(f:F):Prop:=∀ (call:Cl) (e:En) (s:S) (nm:Nat) (v:Value) (s':S),f call e s nm=some (v,s') →
 s'.ds=s.ds∧∀ (φ:Ph) (a:Act) (w:World),pG φ e a op→dG φ s w→∃ φ' v' w',V φ' v v'∧Post φ s w φ' s' w' ∧
  ∀ o:Oper,o.op=op→(execOp a.eval o).run P w=.ok (.value v') w'∨(v'=undef∧(execOp a.eval o).run P w=.ok .skip w')
theorem Sv (w:World)(g:Nat)(cs:Array Value):Oe w (w.setRow g cs):=⟨rfl,rfl,rfl⟩
theorem Post.mod {φ:Ph}{s:S}{w w':World}{x:Nat}{o2:Obj}{g:Gh}(h:dG φ s w)(h3:3≤x)(hx:live s.h x)(hg:φ x=some g)(hsz:w'.heap.size=w.heap.size)(hout:Oe w w')
  (hkeep:∀ b,b≠g.b→w'.heap[b]?=w.heap[b]?) (hor:OR φ w' x o2):Post φ s w φ ⟨s.c,setH s.h x o2,s.ds⟩ w':=by
 have hl:∀ y,live (setH s.h x o2) y→live s.h y:=by
  rintro y ⟨o,hy,hi⟩;rw[ik] at hy;split at hy
  ·rename_i e;subst e;exact hx
  ·exact⟨o,hy,hi⟩
 refine⟨⟨⟨?_,?_,?_,h.rel.lN⟩,h.fr⟩,⟨Sub.refl φ,by omega,fun y g' h0 h1=>(by rw[h0] at h1;cases h1),?_,hout⟩,Nat.le_refl _,fun y h0 h1=>(h1 h0).elim,fun y hy=>.inl (hl y hy)⟩
 ·intro y o hy0
  have hy:setH s.h x o2 y=some o:=hy0;rw[ik] at hy;split at hy
  ·rename_i e
   subst e;cases hy;exact hor
  ·rename_i hne
   by_cases hi:iQ o
   ·refine (h.rel.obj y o hy).mono (Sub.refl φ) fun g' hg'=>hkeep g'.b fun e=>hne ?_
    exact h.rel.inj y x g' g ⟨o,hy,hi⟩ hx hg' hg e
   ·cases o<;>simp only[iQ,not_true_eq_false] at hi<;>exact trivial
 ·exact fun y z g1 g2 hy hz=>h.rel.inj y z g1 g2 (hl y hy) (hl z hz)
 ·intro y g' hy
  show g'.b<w'.heap.size
  rw[hsz];exact h.rel.bnd y g' hy
 ·intro b _ hn
  exact hkeep b fun e=>hn x g h3 hx hg e.symm
theorem adM {φ:Ph}{v v':Value}(h:V1 φ v v'):v'.oneCell'=true:=by
 rcases h with h | ⟨_,_,_,_,_,_,rfl,_⟩
 ·unfold V0 at h
  split at h;case h_1=>subst h;rfl
  case h_2=>subst h;rfl
  case h_3=>subst h;rfl
  case h_4=>subst h;rfl
  case h_5=>obtain⟨_,rfl,_⟩:=h;rfl
  case h_6=>obtain⟨_,rfl⟩:=h;rfl
  case h_7=>obtain⟨_,_,rfl,_⟩:=h;rfl
  case h_8=>subst h;rfl
  case h_9=>obtain⟨_,_,rfl⟩:=h;rfl
  case h_10=>subst h;rfl
  case h_11=>exact h.elim
 ·rfl
theorem EE {φ:Ph}:∀ {l l':List Value},L (V1 φ) l l'→∀ v ∈ l',v.oneCell'=true
 | [],[],_,_,h=>by cases h
 | a :: l,b :: l',h,v,hv=>by
  rcases List.mem_cons.1 hv with rfl | hv
  ·exact adM h.1
  ·exact EE h.2 v hv
 | [],_ :: _,h,_,_=>h.elim
 | _ :: _,[],h,_,_=>h.elim
theorem J4 {s s':S}{a:Addr}{vs:List Value}(h:AZ s a vs=some s') :
  a.spot=none∧3≤a.block∧∃ c e f c',s.h a.block=some (.cells c e f)∧qO a.off c.toList vs=some c'∧s'=⟨s.c,setH s.h a.block (.cells c'.toArray e f),s.ds⟩:=by
 unfold AZ at h;rw[Bn,x9,jN,aN] at h;obtain⟨h0,h1,h⟩:=h;obtain⟨ob,fQ,h⟩:=aj.1 h;cases ob<;>simp only[AY] at h<;>try cases h
 rename_i c e f;obtain⟨c',hc,h⟩:=aj.1 h;rw[bK] at hc;cases h;exact⟨h0,by rw[dW] at h1;simpa using h1,c,e,f,c',fQ,hc,rfl⟩
theorem OR.wrote {φ:Ph}{w w':World}{x:Nat}{c:Array Value}{e e2:TypeId}{f2:Nat × Nat}{vs vs':List Value}{off:Nat}{g:Gh}{cur:Array Value}{e':TypeId}(hg:φ x=some g)
  (hw:w.heap[g.b]?=some (.cells cur e' (0,0))) (hn:cur.size=g.n) (hle:c.size≤cur.size) (hL:L (V1 φ) c.toList (cur.toList.take c.size)) (hv:L (V1 φ) vs vs') (hoff:off+vs.length≤c.size)
  (hw':w'.heap[g.b]?=some (.cells (cur.toList.take off++vs'++cur.toList.drop (off+vs'.length)).toArray e2 (0,0))) :
  OR φ w' x (.cells (c.toList.take off++vs++c.toList.drop (off+vs.length)).toArray e f2):=by
 have _:=hw;have hvl:=hv.length;refine⟨g,_,e2,(0,0),hg,hw',?_,fun _=>rfl,?_,?_⟩
 ·simp;omega
 ·simp;omega
 ·have e1:(c.toList.take off++vs++c.toList.drop (off+vs.length)).toArray.size=c.size:=by simp;omega
  rw[e1];have key:((cur.toList.take off++vs'++cur.toList.drop (off+vs'.length))).take c.size=(cur.toList.take c.size).take off++vs'++(cur.toList.take c.size).drop (off+vs'.length):=by
   apply List.ext_getElem?;intro i;rcases Nat.lt_or_ge i c.size with hi | hi
   ·rw[List.getElem?_take_of_lt hi]
    simp only[List.getElem?_append,List.length_append,List.length_take,List.getElem?_take,List.getElem?_drop,Array.length_toList];split<;>(try split)<;>(try split)<;>(try split)<;>(try split)<;>first | rfl | omega | (congr 1;omega) | skip
    all_goals first | rfl | omega | (congr 1;omega) | skip
   ·rw[List.getElem?_eq_none (by simp;omega),List.getElem?_eq_none (by simp;omega)]
  show L (V1 φ) _ (List.take c.size (cur.toList.take off++vs'++cur.toList.drop (off+vs'.length)))
  rw[key];exact hL.over hv off
theorem adN {t:TypeId}{n:Nat}(x y:Operand)(hn:dF P t=some n):BC P (.store t x y) (lL n x y):=by
 intro call e s nm v s' h;obtain⟨b,hb,h⟩:=aj.1 h;rw[yg] at hb;rw[aN,aN] at h;obtain⟨ht,hlen,h⟩:=h;obtain⟨s1,h1,h⟩:=aj.1 h;cases h;obtain⟨hsp,h3,c,el,f,c',hc,hov,rfl⟩:=J4 h1;obtain⟨_,hle,rfl⟩:=(Bz _ _ _ _).1 hov;refine⟨rfl,fun φ a w hE hS=>?_⟩;have hx:=hE x (by simp[Op.operands]);have hy:=hE y (by simp[Op.operands]);rw[hb] at hx;obtain⟨a',ha,_,g,hg,rfl⟩:=yh hx;have hcv:=vT (yj hy ht);obtain⟨g',cur,e',fr,hg',hw,hn',hfr,qY,hL⟩:=hS.rel.obj _ _ hc;rw[hg] at hg';cases hg';have J5:=hfr h3;subst J5;have hvl:=hcv.length;have hfit:b.off+0+(a.eval y).cells.toList.length≤cur.size:=by
  simp at hle hvl ⊢;omega
 have hst:=run_storeCells_at P g.b b.off e' (a.eval y).cells.toList 0 cur w hw hfit (EE hcv);simp only[Nat.add_zero] at hst;refine⟨φ,undef,_,V.undef φ,Post.mod hS h3 ⟨_,hc,trivial⟩ hg (setRow_size _ _ _) (Sv _ _ _) (fun k hk=>setRow_other _ _ _ _ hk) (OR.wrote hg hw hn' qY hL hcv (by simpa using hle) (setRow_heap w g.b cur _ e' (0,0) hw)),fun o ho=>.inr ⟨rfl,?_⟩⟩;have hlen':(a.eval y).cells.size=n:=by
  have:=Nat.eq_of_beq_eq_true hlen;simp at hvl;omega
 simp only[execOp,ho,ha];simp[Instr.storeAt,Instr.sureAddr,storeVar,hlen',run_sizeOf hn,hst]
end Xe
namespace Xe
variable {P:Program}
theorem sameBits_self {k:Value}(h:(∃ s,k=.string s)∨∃ q n,k=.int q n)(m:Nat):Instr.sameBits m k k=true:=by
 rcases h with⟨s,rfl⟩ | ⟨q,n,rfl⟩
 ·unfold Instr.sameBits;simp[Sl]
 ·unfold Instr.sameBits;simp
theorem EF {w:World}{b:Nat}{es:Array MapEntry}{k:Nat}(hw:w.heap[b]?=some (.map es k))(o:Obj):(setObj b o).run P w=.ok () { w with heap:=w.heap.setIfInBounds b o }:=by
 simp[setObj,Sem.run,hw]
theorem Sw {t kt el:TypeId}{ks:Bool}(m k x:Operand)(hd:und P t=some (.map kt el))(hks:vJ P kt=some ks)(op:Op)(hop:op=.mapUpdate t m k x∨op=.insert t m k x):BC P op (Ei ks m k x):=by
 obtain⟨d,hkd,hD⟩:=JW hks;intro call e s nm v s' h;rw[Ei,aN,aN] at h;obtain⟨hn,hfit,h⟩:=h;obtain⟨r,hr,h⟩:=aj.1 h;rw[RV] at hr;rw[aN,dW] at h;obtain⟨h3,h⟩:=h;have h3:3≤r:=by simpa using h3
 obtain⟨⟨es,cl⟩,hm,h⟩:=aj.1 h;rw[gQ] at h;obtain⟨f,hf,h⟩:=aj.1 h;obtain⟨s1,h1,h⟩:=aj.1 h;cases h;obtain⟨es0,cl0,fQ,he⟩:=JJ.1 hm;cases he;have hops:m ∈ op.operands∧k ∈ op.operands∧x ∈ op.operands:=by rcases hop with rfl | rfl<;>simp[Op.operands]
 have hds:s'.ds=s.ds:=by
  cases f with
  | none=>have h':some (⟨s.c,setH s.h r (.map (es0.toList++[(⟨ev e k,ev e x,cl⟩:MapEntry)]).toArray (cl+1)),s.ds⟩:S)=some s':=h1;cases h';rfl
  | some p =>
   have h':oB (nth es0.toList p.1) (fun en=>some (⟨s.c,setH s.h r (.map (es0.toList.set p.1 (⟨ev e k,ev e x,en.born⟩:MapEntry)).toArray cl),s.ds⟩:S))=some s':=h1;obtain⟨en,_,h'⟩:=aj.1 h';cases h';rfl
 refine⟨hds,fun φ a w hE hS=>?_⟩;have hme:=hE m hops.1;have hke:=hE k hops.2.1;have hxe:=hE x hops.2.2;rw[hr] at hme;obtain⟨g,hg,hm'⟩:=JM hme;obtain⟨hki,hk0,hkk⟩:=JX hfit hke;obtain⟨g',es',hg',hw,hL⟩:=hS.rel.obj _ _ fQ;rw[hg] at hg';cases hg';have hgo:(getObj g.b).run P w=.ok (.map es' cl) w:=by simp[getObj,Sem.run,hw]
 have hlt:g.b<w.heap.size:=hS.rel.bnd _ _ hg;have adP:(∃ s,ev e k=.string s)∨∃ q n,ev e k=.int q n:=hkk.imp (fun h=>h.2) (fun h=>h.2);have jl:∀ (o:Oper),o.op=op→∀ w':World,(Instr.mapUpdate t (.map (some g.b)) (ev e k) (a.eval x)).run P w=.ok () w'→(execOp a.eval o).run P w=.ok .skip w':=by
  intro o ho w' hrun;have e1:(execOp a.eval o)=(do Instr.mapUpdate t (.map (some g.b)) (ev e k) (a.eval x);pure .skip):=by
   rcases hop with rfl | rfl<;>simp only[execOp,ho,hm',hki]
  rw[e1];simp[hrun]
 rcases BA hD hkk es0.toList es'.toList 0 f hL hf with⟨rfl,h5⟩ | ⟨j,u,u',en',rfl,h5,h6,_,h8,h9⟩
 ·have h':some (⟨s.c,setH s.h r (.map (es0.toList++[(⟨ev e k,ev e x,cl⟩:MapEntry)]).toArray (cl+1)),s.ds⟩:S)=some s':=h1
  cases h';refine⟨φ,undef,{ w with heap:=w.heap.setIfInBounds g.b (.map (es'.push ⟨ev e k,a.eval x,cl⟩) (cl+1)) },V.undef φ,Post.mod hS h3 ⟨_,fQ,trivial⟩ hg (by simp) ⟨rfl,rfl,rfl⟩ (fun b hb=>by simp[Array.getElem?_setIfInBounds_ne (Ne.symm hb)]) ?_,fun o ho=>.inr ⟨rfl,jl o ho _ ?_⟩⟩
  ·refine⟨g,es'.push ⟨ev e k,a.eval x,cl⟩,hg,by simp[hlt],?_⟩
   simp only[Array.toList_push];exact hL.app ⟨⟨hk0,yj hxe hn,rfl⟩,trivial⟩
  ·simp[Instr.mapUpdate,dH hd,hgo,run_checkKey hkd hD,Instr.findKey,dH hkd,h5,EF hw]
 ·have h':oB (nth es0.toList j) (fun en=>some (⟨s.c,setH s.h r (.map (es0.toList.set j (⟨ev e k,ev e x,en.born⟩:MapEntry)).toArray cl),s.ds⟩:S))=some s':=h1
  obtain⟨en,hen,h'⟩:=aj.1 h';cases h';rw[kv] at hen;obtain⟨y,hy,hER⟩:=hL.at hen;have h8':es'.toList[j]?=some en':=by simpa using h8
  rw[h8'] at hy;cases hy;have hkeys:(es'[j]?).map (·.key)=some (ev e k):=by
   have:es'[j]?=some en':=by simpa using h8'
   rw[this];simp[h9]
  have hmod:(es'.modify j fun e0=>{ e0 with key:=ev e k,val:=a.eval x }).toList=es'.toList.set j ⟨ev e k,a.eval x,en'.born⟩:=by
   apply List.ext_getElem?;intro i;have hj:es'[j]?=some en':=by simpa using h8'
   rw[Array.getElem?_toList,Array.getElem?_modify,List.getElem?_set];split
   ·rename_i e1;subst e1
    have hlt:j<es'.toList.length:=(List.getElem?_eq_some_iff.1 h8').1;rw[hj];simp at hlt;simp[hlt]
   ·simp
  refine⟨φ,undef,{ w with heap:=w.heap.setIfInBounds g.b (.map (es'.modify j fun e0=>{ e0 with key:=ev e k,val:=a.eval x }) cl) },V.undef φ,Post.mod hS h3 ⟨_,fQ,trivial⟩ hg (by simp) ⟨rfl,rfl,rfl⟩ (fun b hb=>by simp[Array.getElem?_setIfInBounds_ne (Ne.symm hb)]) ?_,fun o ho=>.inr ⟨rfl,jl o ho _ ?_⟩⟩
  ·refine⟨g,es'.modify j fun e0=>{ e0 with key:=ev e k,val:=a.eval x },hg,by simp[hlt],?_⟩
   rw[hmod];exact hL.set j ⟨hk0,yj hxe hn,hER.2.2⟩
  ·simp[Instr.mapUpdate,dH hd,hgo,run_checkKey hkd hD,Instr.findKey,dH hkd,h5,Instr.keyThatStays,hkeys,sameBits_self adP,EF hw]
theorem adR {c:Call}{f:F}(hc:c.callee=.builtin .delete)(h:sH P c .delete=some f):BC P (.call c) f:=by
 unfold sH at h;simp only at h;split at h;case h_2=>cases h
 rename_i x k t ts hargs BB;split at h;case h_2=>cases h
 rename_i kt el hd;obtain⟨ks,hks,h⟩:=aj.1 h;cases h;obtain⟨d,hkd,hD⟩:=JW hks;have hargs':c.args=#[x,k]:=Array.toList_inj.1 (by simpa using hargs);have qZ:c.argTypes[0]?=some t:=by rw[← Array.getElem?_toList,BB];rfl
 have EG:x ∈ (Op.call c).operands:=by simp[Op.operands,Call.operands,hc,hargs']
 have adS:k ∈ (Op.call c).operands:=by simp[Op.operands,Call.operands,hc,hargs']
 intro call e s nm v s' h;rw[Rz,aN] at h;obtain⟨hfit,h⟩:=h;obtain⟨r,hr,h⟩:=aj.1 h;rw[RV] at hr;rw[aN,dW] at h;obtain⟨h3,h⟩:=h;have h3:3≤r:=by simpa using h3
 obtain⟨⟨es,cl⟩,hm,h⟩:=aj.1 h;rw[gQ] at h;obtain⟨f,hf,h⟩:=aj.1 h;cases h;obtain⟨es0,cl0,fQ,he⟩:=JJ.1 hm;cases he;refine⟨by cases f<;>rfl,fun φ a w hE hS=>?_⟩;have hme:=hE x EG;have hke:=hE k adS;rw[hr] at hme;obtain⟨g,hg,hm'⟩:=JM hme;obtain⟨hki,hk0,hkk⟩:=JX hfit hke;obtain⟨g',es',hg',hw,hL⟩:=hS.rel.obj _ _ fQ;rw[hg] at hg';cases hg';have hgo:(getObj g.b).run P w=.ok (.map es' cl) w:=by simp[getObj,Sem.run,hw]
 have hlt:g.b<w.heap.size:=hS.rel.bnd _ _ hg;have jl:∀ (o:Oper),o.op=.call c→∀ w':World,(Builtin.delete_ c.argTypes o.type #[.map (some g.b),ev e k]).run P w=.ok (.tuple #[]) w'→(execOp a.eval o).run P w=.ok (.value (.tuple #[])) w':=by
  intro o ho w' hrun;rw[JZ hc ho,hargs'];have:((#[x,k]:Array Operand).map a.eval)=#[.map (some g.b),ev e k]:=by simp[hm',hki]
  rw[this];show (do pure (.value (← Builtin.delete_ c.argTypes o.type #[.map (some g.b),ev e k])):Sem Next).run P w=_
  simp[hrun]
 rcases BA hD hkk es0.toList es'.toList 0 f hL hf with⟨rfl,h5⟩ | ⟨j,u,u',en',rfl,h5,h6,_,h8,h9⟩
 ·have hsame:({ w with heap:=w.heap.setIfInBounds g.b (.map es' cl) }:World)=w:=by
   have:w.heap.setIfInBounds g.b (.map es' cl)=w.heap:=by
    apply Array.ext_getElem?;intro i;by_cases hi:g.b=i
    ·subst hi;simp[hlt]
     have:=(Array.getElem?_eq_some_iff.1 hw).2;exact this.symm
    ·simp[Array.getElem?_setIfInBounds_ne hi]
   rw[this]
  refine⟨φ,.tuple #[],w,.inr ⟨#[],#[],rfl,rfl,trivial⟩,Post.refl hS,fun o ho=>.inl (jl o ho _ ?_)⟩;have:=EF (P:=P) hw (.map es' cl);rw[hsame] at this;simp[Builtin.delete_,qZ,dH hd,hgo,run_checkKey hkd hD,Instr.findKey,dH hkd,h5,this]
 ·refine⟨φ,.tuple #[],{ w with heap:=w.heap.setIfInBounds g.b (.map (es'.eraseIdxIfInBounds j) cl) },.inr ⟨#[],#[],rfl,rfl,trivial⟩,Post.mod hS h3 ⟨_,fQ,trivial⟩ hg (by simp) ⟨rfl,rfl,rfl⟩ (fun b hb=>by simp[Array.getElem?_setIfInBounds_ne (Ne.symm hb)]) ?_,fun o ho=>.inl (jl o ho _ ?_)⟩
  ·refine⟨g,es'.eraseIdxIfInBounds j,hg,by simp[hlt],?_⟩
   have:(es'.eraseIdxIfInBounds j).toList=es'.toList.eraseIdx j:=by
    unfold Array.eraseIdxIfInBounds;split
    ·simp
    ·rw[List.eraseIdx_of_length_le (by simpa using by omega)]
   rw[this];exact hL.erase j
  ·simp[Builtin.delete_,qZ,dH hd,hgo,run_checkKey hkd hD,Instr.findKey,dH hkd,h5,EF hw]
end Xe
namespace Xe
variable {P:Program}
theorem Post.anew {φ:Ph}{s:S}{w w':World}{h':Hp}{o2:Obj}{g:Gh}(h:dG φ s w)(hh:∀ y o,h' y=some o→iQ o→s.h y=some o)
  (hsz:w.heap.size≤w'.heap.size) (hout:Oe w w') (hg:g.b<w'.heap.size)
  (hnew:w.heap.size≤g.b∨∃ y gy,3≤y∧live s.h y∧φ y=some gy∧gy.b=g.b∧¬ live h' y)
  (hkeep:∀ b,b<w.heap.size→b≠g.b→w'.heap[b]?=w.heap[b]?) (hor:OR (upd φ s.c g) w' s.c o2) :
  Post φ s w (upd φ s.c g) ⟨s.c+1,setH h' s.c o2,s.ds⟩ w':=by
 have h0:φ s.c=none:=h.fr s.c (Nat.le_refl _);have hsub:=ym h0 g;have hl:∀ y,live (setH h' s.c o2) y→y=s.c∨live h' y:=by
  rintro y ⟨o,hy,hi⟩;rw[ik] at hy;split at hy
  ·rename_i e;exact .inl e
  ·exact .inr ⟨o,hy,hi⟩
 have hl':∀ y,live h' y→live s.h y:=fun y ⟨o,hy,hi⟩=>⟨o,hh y o hy hi,hi⟩;have hne:∀ y gy,live h' y→φ y=some gy→gy.b≠g.b:=by
  intro y gy hy iR e;rcases hnew with h1 | ⟨z,gz,_,hz,hgz,he,hd⟩
  ·have:=h.rel.bnd y gy iR;omega
  ·exact hd (h.rel.inj y z gy gz (hl' y hy) hz iR hgz (e.trans he.symm) ▸ hy)
 have pJ:∀ y gy,live h' y→upd φ s.c g y=some gy→φ y=some gy:=by
  intro y gy hy iR;unfold upd at iR;split at iR
  ·rename_i e
   subst e;obtain⟨g',hg'⟩:=h.rel.has (hl' _ hy);rw[h0] at hg';cases hg'
  ·exact iR
 refine⟨⟨⟨?_,?_,?_,?_⟩,?_⟩,⟨hsub,hsz,?_,?_,hout⟩,Nat.le_succ _,?_,?_⟩
 ·intro y o hy0
  have hy:setH h' s.c o2 y=some o:=hy0;rw[ik] at hy;split at hy
  ·rename_i e
   subst e;cases hy;exact hor
  ·by_cases hi:iQ o
   ·have hs:=hh y o hy hi
    refine (h.rel.obj y o hs).mono hsub fun gy iR=>hkeep gy.b (h.rel.bnd y gy iR) (hne y gy ⟨o,hy,hi⟩ iR)
   ·cases o<;>simp only[iQ,not_true_eq_false] at hi<;>exact trivial
 ·intro y z g1 g2 hy hz h1 h2 e
  rcases hl y hy with rfl | hy'<;>rcases hl z hz with rfl | hz'
  ·rfl
  ·rw[lU] at h1;cases h1
   exact absurd e.symm (hne z g2 hz' (pJ z g2 hz' h2))
  ·rw[lU] at h2;cases h2
   exact absurd e (hne y g1 hy' (pJ y g1 hy' h1))
  ·exact h.rel.inj y z g1 g2 (hl' y hy') (hl' z hz') (pJ y g1 hy' h1) (pJ z g2 hz' h2) e
 ·intro y gy hy
  show gy.b<w'.heap.size
  unfold upd at hy;split at hy
  ·cases hy;exact hg
  ·exact Nat.lt_of_lt_of_le (h.rel.bnd y gy hy) hsz
 ·intro y hy
  obtain⟨n,hn⟩:=h.rel.lN y hy;exact⟨n,hsub _ _ hn⟩
 ·intro y hy
  show upd φ s.c g y=none
  have hy':s.c+1≤y:=hy;unfold upd;rw[if_neg (by omega)];exact h.fr y (by omega)
 ·intro y gy h1 h2
  unfold upd at h2;split at h2
  ·cases h2
   rcases hnew with h3 | ⟨z,gz,hz3,hz,hgz,he,_⟩
   ·exact .inl h3
   ·exact .inr ⟨z,gz,hz3,hz,hgz,he⟩
  ·rw[h1] at h2;cases h2
 ·intro b hb hn
  refine hkeep b hb fun e=>?_;rcases hnew with h3 | ⟨z,gz,hz3,hz,hgz,he,_⟩
  ·omega
  ·exact hn z gz hz3 hz hgz (he.trans e.symm)
 ·intro y h1 h2
  unfold upd at h2;split at h2
  ·rename_i e;subst e;exact Nat.le_refl _
  ·exact absurd h1 h2
 ·intro y hy
  rcases hl y hy with rfl | hy'
  ·exact .inr h0
  ·exact .inl (hl' y hy')
theorem J6 {φ:Ph}{w':World}{nm g cap n z N:Nat}{cur:Array Value}{e el:TypeId}{l xs:List Value}{fr:Nat × Nat}(h0:φ nm=none)(hw:w'.heap[g]?=some (.cells cur e (0,0)))(hc:cur.size=N)(hN:cap * z≤N)(hnc:n≤cap)
  (hx:cur.toList.take (n * z)=xs) (hL:L (V1 φ) l xs) (hl:l.length=n * z) :
  OR (upd φ nm ⟨g,N⟩) w' nm (.cells l.toArray el fr)∧V (upd φ nm ⟨g,N⟩) (.slice (some ⟨nm,0,none⟩) n z) (.slice (some ⟨g,0,none⟩) n cap):=by
 refine⟨⟨_,cur,e,(0,0),lU φ nm _,hw,hc,fun _=>rfl,?_,?_⟩,.dU ⟨_,cap,rfl,.inr ⟨rfl,hnc,_,lU φ nm _,rfl,by show 0+cap * z≤N;omega⟩⟩⟩
 ·have:n * z≤cap * z:=Nat.mul_le_mul_right z hnc
  simp;omega
 ·have e1:l.toArray.size=n * z:=by simpa using hl
  rw[e1,hx];exact hL.mono fun _ _=>V1.mono (ym h0 _)
theorem adT {t ty e e2:TypeId}{i:TypeInfo}(ht:P.underlying t=some (.slice e))(hi:P.info? e=some i)(w:World)
  (g sLen sCap:Nat) (cur:Array Value) (hg:w.heap[g]?=some (.cells cur e2 (0,0)))
  (a:Addr) (m c:Nat) (news:List Value) (hl:news.length=m * i.size) (hnews:∀ j u,news[j]?=some u→w.cell? (a.add j)=some u) (h1:∀ u ∈ news,u.oneCell'=true)
  (hroom:sLen+m≤sCap) (hfit:sLen * i.size+news.length≤cur.size) :
  (Builtin.append_ #[t,t] ty #[.slice (some ⟨g,0,none⟩) sLen sCap,.slice (some a) m c]).run P w =
   .ok (.slice (some ⟨g,0,none⟩) (sLen+m) sCap) (w.setRow g (cur.toList.take (sLen * i.size)++news++cur.toList.drop (sLen * i.size+news.length)).toArray):=by
 have hf:=run_firstCells_some (P:=P) w i.size m a m c news hl hnews;have hst:=run_storeCells_at P g (sLen * i.size) e2 news 0 cur w hg (by simpa using hfit) h1;simp only[Nat.add_zero] at hst;simp[Builtin.append_,run_underlying ht,sizeOf,typeInfo,hi,Builtin.lenOf,hroom,hf,Addr.add_lit,hst]
theorem J7 {t ty e:TypeId}{i:TypeInfo}(ht:P.underlying t=some (.slice e))(hi:P.info? e=some i)(w:World)(a b:Option Addr)(n k c:Nat)(hk:n≤k) :
  (Builtin.append_ #[t,t] ty #[.slice a n k,.slice b 0 c]).run P w=.ok (.slice a n k) w:=by
 cases a<;>cases b<;>simp[Builtin.append_,run_underlying ht,sizeOf,typeInfo,hi,Builtin.lenOf,hk,Builtin.firstCells,loadCells,loadCellsFrom,storeCells]
theorem adU {c:Call}{f:F}(hc:c.callee=.builtin .append)(h:sH P c .append=some f):BC P (.call c) f:=by
 unfold sH at h;simp only at h;split at h;case h_2=>cases h
 rename_i x y t t' hargs BB;split at h;case h_2=>cases h
 rename_i el hd;obtain⟨i,hi,h⟩:=aj.1 h;obtain⟨zs,hz,h⟩:=aj.1 h;rw[aN,aN,aN,aN] at h;obtain⟨ht,hzs,hpos,hby,h⟩:=h;cases h;have ht':=Nat.eq_of_beq_eq_true ht;subst ht';have hzs':zs.cells.size=i.size:=Nat.eq_of_beq_eq_true hzs;have hpos':0<i.size:=by rw[dW] at hpos;simp at hpos;omega
 have adV:i.bytes≤1000000:=by rw[dW] at hby;simpa using hby
 have hargs':c.args=#[x,y]:=Array.toList_inj.1 (by simpa using hargs);have qZ:c.argTypes=#[t,t]:=Array.toList_inj.1 (by simpa using BB);have EG:x ∈ (Op.call c).operands:=by simp[Op.operands,Call.operands,hc,hargs']
 have Sy:y ∈ (Op.call c).operands:=by simp[Op.operands,Call.operands,hc,hargs']
 have jl:∀ (a:Act) (w w':World) (o:Oper) (r:Value),o.op=.call c→(Builtin.append_ #[t,t] 0 #[a.eval x,a.eval y]).run P w=.ok r w'→(execOp a.eval o).run P w=.ok (.value r) w':=by
  intro a w w' o r ho hrun;rw[JZ hc ho,hargs',qZ];have:((#[x,y]:Array Operand).map a.eval)=#[a.eval x,a.eval y]:=by simp
  rw[this];show (do pure (.value (← Builtin.append_ #[t,t] 0 #[a.eval x,a.eval y])):Sem Next).run P w=_
  simp[hrun]
 intro call e s nm v s' h;have h1:Jq el i.size s (ev e x) (ev e y)=some (v,s'):=h;unfold Jq at h1;obtain⟨xa,n,k,hx,h1⟩:=Br.1 h1;obtain⟨yb,m,k2,hy,h1⟩:=Br.1 h1;cases m with
 | zero =>
  have h2:some (Value.slice xa n k,s)=some (v,s'):=h1;cases h2;refine⟨rfl,fun φ a w hE hS=>?_⟩;have hxe:=hE x EG;have hye:=hE y Sy;rw[hx] at hxe;rw[hy] at hye;have vY:∃ b c',a.eval y=.slice b 0 c':=by
   cases yb with
   | none=>exact⟨none,0,(Bu hye).2⟩
   | some b=>obtain⟨b',c',h',_⟩:=pF hye;exact⟨b',c',h'⟩
  obtain⟨b,c',vY⟩:=vY;refine⟨φ,a.eval x,w,hxe,Post.refl hS,fun o ho=>.inl (jl a w w o _ ho ?_)⟩;rw[vY];cases xa with
  | none =>
   rw[(Bu hxe).2];exact J7 hd hi w none b 0 0 c' (Nat.le_refl _)
  | some xa =>
   obtain⟨a',cc,h',hs⟩:=pF hxe;rw[h'];rcases hs with⟨_,rfl⟩ | ⟨_,hle,g,hg,rfl,_⟩
   ·exact J7 hd hi w a' b 0 cc c' (Nat.zero_le _)
   ·exact J7 hd hi w _ b n cc c' hle
 | succ m =>
  rw[Bj,aN] at h1;obtain⟨hbd,h2⟩:=h1;obtain⟨b,hyb,h3⟩:=aj.1 h2;subst hyb;obtain⟨new,hnew,h1⟩:=aj.1 h3;clear h2 h3;have adW:n+(m+1)≤1000000:=by rw[dW] at hbd;simpa using hbd
  have hbytes:(n+(m+1)) * i.bytes≤140737488355328:=Nat.le_trans (Nat.mul_le_mul adW adV) (by omega);have h63:n+(m+1)≤maxLen:=by simp[maxLen];omega
  rw[show Nat.mul (Nat.succ m) i.size=(m+1) * i.size from rfl] at hnew;have hds:s'.ds=s.ds:=by
   unfold Jp at h1;cases xa with
   | none =>
    cases n with
    | zero=>simp only[Bi,jN,oC] at h1;cases h1;rfl
    | succ n=>cases h1
   | some xa =>
    simp only[Bn] at h1;rw[x9,aN,aN] at h1;obtain⟨_,_,_,h1⟩:=h1;cases ho:xa.off with
    | succ q=>rw[ho,Bj] at h1;cases h1
    | zero =>
     rw[ho,Bi,bT] at h1;split at h1
     ·cases h1
     ·obtain⟨old,_,h1⟩:=aj.1 h1
      simp only[jN,oC] at h1;cases h1;rfl
  refine⟨hds,fun φ a w hE hS=>?_⟩;have hxe:=hE x EG;have hye:=hE y Sy;rw[hx] at hxe;rw[hy] at hye;obtain⟨b',cb,vY,hsb⟩:=pF hye;rcases hsb with⟨_,h0⟩ | ⟨adX,hcb,gb,hgb,rfl,_⟩
  ·cases h0
  have adY:AR φ b ⟨gb.b,b.off,none⟩:=⟨adX,gb,hgb,rfl⟩;obtain⟨new',hLn,BD,hcell⟩:=Bv hnew hS.rel adY;have hnl:new.length=(m+1) * i.size:=by rw[hLn.length];exact BD
  have EH:φ s.c=none:=hS.fr s.c (Nat.le_refl _);have hc3:3≤s.c:=by
   rcases Nat.lt_or_ge s.c 3 with h | h
   ·obtain⟨q,hq⟩:=hS.rel.lN s.c h;rw[EH] at hq;cases hq
   ·exact h
  unfold Jp at h1;cases xa with
  | none =>
   obtain⟨rfl,BF⟩:=Bu hxe;have h2:(sB s fun c h ds=>fN c fun c=>some (Value.slice (some ⟨c,0,none⟩) (Nat.succ m) i.size,(⟨Nat.succ c,setH h c (.cells new.toArray el),ds⟩:S)))=some (v,s'):=h1;rw[jN,oC] at h2;cases h2;have hb0:(0+(m+1)) * i.bytes≤140737488355328:=by simpa using hbytes
   obtain⟨v',w',hrun,hown,hgr,_⟩:=run_append_own (P:=P) w w.heap.size t 0 el i zs i.size i.bytes hd hi hz rfl rfl hzs' hpos' (.slice none 0 0) 0 [] (World.ownsRow_nil w w.heap.size el i.size) ⟨gb.b,b.off,none⟩ (m+1) cb new' BD hcell (EE hLn) (by omega) hb0 (Nat.le_refl _);obtain⟨_,⟨_,hz0⟩ | ⟨g,cap,cur,rfl,hgb',hgw,hnc,_,J8,htake⟩⟩:=hown
   ·omega
   rw[Nat.zero_add] at hnc htake hrun;obtain⟨o1,o2⟩:=J6 (nm:=s.c) (el:=el) (fr:=(0,0)) (w':=w') EH hgw J8 (Nat.le_refl _) hnc htake (by simpa using hLn) hnl;refine⟨_,_,w',o2,Post.anew hS (fun _ _ h _=>h) hgr.size ⟨hgr.os,hgr.tape,hgr.output⟩ (Array.getElem?_eq_some_iff.1 hgw).1 (.inl hgb') (fun k hk _=>hgr.block k hk (by simp[Value.ownBlock])) o1,fun o ho=>.inl (jl a w w' o _ ho ?_)⟩;rw[BF,vY];exact hrun
  | some xa =>
   simp only[Bn] at h1;rw[x9,aN,aN] at h1;obtain⟨hsp,hk,h3,h9⟩:=h1;clear h1;have hk':=Nat.eq_of_beq_eq_true hk;subst hk';have h3':3≤xa.block:=by rw[dW] at h3;simpa using h3
   cases hoff:xa.off with
   | succ q=>rw[hoff,Bj] at h9;cases h9
   | zero =>
    rw[hoff,Bi,bT] at h9;split at h9
    ·cases h9
    obtain⟨old,hold,h8⟩:=aj.1 h9;clear h9;simp only[jN,oC] at h8;cases h8;rw[show Nat.mul n i.size=n * i.size from rfl] at hold;obtain⟨xa',cx,BF,hsx⟩:=pF hxe;rcases hsx with⟨hq,_⟩ | ⟨_,ahA,gx,hgx,rfl,adZ⟩
    ·exact absurd hsp hq
    rw[hoff] at BF adZ;obtain⟨_,cc,ec,fc,hcc,hcl,hold'⟩:=Ew.1 hold;rw[hoff] at hcl hold';simp only[List.drop_zero] at hcl hold';obtain⟨gx',cur,e2,fr,Sz,hwx,hnx,ad1,hlex,hLx⟩:=hS.rel.obj _ _ hcc;rw[hgx] at Sz;cases Sz;have J5:=ad1 h3';subst J5;have ad3:n * i.size≤cc.size:=by simpa using hcl
    have hLo:L (V1 φ) old (cur.toList.take (n * i.size)):=by
     rw[hold'];have:=hLx.take (n * i.size);rw[List.take_take,Nat.min_eq_left ad3] at this;exact this
    have SA:old.length=n * i.size:=by rw[hold'];simp;omega
    have J9:L (V1 φ) (old++new) (cur.toList.take (n * i.size)++new'):=hLo.app hLn;have Ka:(old++new).length=(n+(m+1)) * i.size:=by simp only[List.length_append,SA,hnl];rw[← Nat.add_mul]
    have ad4:live s.h xa.block:=⟨_,hcc,trivial⟩;have hh:∀ y o,setH s.h xa.block dead y=some o→iQ o→s.h y=some o:=by
     intro y o hy hi';rw[ik] at hy;split at hy
     ·cases hy;exact hi'.elim
     ·exact hy
    have ad5:¬ live (setH s.h xa.block dead) xa.block:=by
     rintro⟨o,hy,hi'⟩;rw[ik,if_pos rfl] at hy;cases hy;exact hi'
    have hxl:xa.block<s.c:=by
     rcases Nat.lt_or_ge xa.block s.c with h | h
     ·exact h
     ·have:=hS.fr _ h;rw[hgx] at this;cases this
    have ad6:∀ j u,(cur.toList.take (n * i.size))[j]?=some u→w.cell? ((⟨gx.b,0,none⟩:Addr).add j)=some u:=by
     intro j u hj;have hadd:(⟨gx.b,0,none⟩:Addr).add j=⟨gx.b,j,none⟩:=by unfold Addr.add;split<;>simp_all
     rw[hadd];rw[List.getElem?_take] at hj;split at hj
     ·simp[World.cell?,hwx];simpa using hj
     ·cases hj
    by_cases hroom:n+(m+1)≤cx
    ·have hfit:n * i.size+new'.length≤cur.size:=by
      rw[BD,← Nat.add_mul,hnx];exact Nat.le_trans (Nat.mul_le_mul_right _ hroom) (by omega)
     have hrun:=adT (P:=P) (ty:=0) hd hi w gx.b n cx cur hwx ⟨gb.b,b.off,none⟩ (m+1) cb new' BD hcell (EE hLn) hroom hfit;have htake:(cur.toList.take (n * i.size)++new'++cur.toList.drop (n * i.size+new'.length)).toArray.toList.take ((n+(m+1)) * i.size)=cur.toList.take (n * i.size)++new':=by
      have e1:(cur.toList.take (n * i.size)++new').length=(n+(m+1)) * i.size:=by rw[← J9.length,Ka]
      simp only;rw[← e1,List.take_append_of_le_length (Nat.le_refl _),List.take_length]
     have hsize:(cur.toList.take (n * i.size)++new'++cur.toList.drop (n * i.size+new'.length)).toArray.size=gx.n:=by simp;omega
     obtain⟨o1,o2⟩:=J6 (nm:=s.c) (el:=el) (fr:=(0,0)) (w':=w.setRow gx.b _) EH (setRow_heap w gx.b cur _ e2 (0,0) hwx) hsize (by omega) hroom htake J9 Ka;refine⟨_,_,_,o2,Post.anew hS hh (by simp) (Sv _ _ _) (by simpa using hS.rel.bnd _ _ hgx) (.inr ⟨xa.block,gx,h3',ad4,hgx,rfl,ad5⟩) (fun k _ hk=>setRow_other _ _ _ _ hk) o1,fun o ho=>.inl (jl a w _ o _ ho ?_)⟩;rw[BF,vY];exact hrun
    ·obtain⟨v',w',hrun,hown,hgr⟩:=run_append_arg_grows (P:=P) w t 0 el i zs i.size i.bytes hd hi hz rfl rfl hzs' hpos' ⟨gx.b,0,none⟩ n cx (cur.toList.take (n * i.size)) (by rw[← hLo.length,SA]) ad6 ⟨gb.b,b.off,none⟩ (m+1) cb new' BD hcell (by omega) h63 hbytes
     obtain⟨_,⟨_,hz0⟩ | ⟨g,cap,IZ,rfl,hgb',hgw,hnc,_,J8,htake⟩⟩:=hown
     ·omega
     obtain⟨o1,o2⟩:=J6 (nm:=s.c) (el:=el) (fr:=(0,0)) (w':=w') EH hgw J8 (Nat.le_refl _) hnc htake J9 Ka;refine⟨_,_,w',o2,Post.anew hS hh hgr.size ⟨hgr.os,hgr.tape,hgr.output⟩ (Array.getElem?_eq_some_iff.1 hgw).1 (.inl hgb') (fun k hk _=>hgr.block k hk (by simp)) o1,fun o ho=>.inl (jl a w w' o _ ho ?_)⟩;rw[BF,vY];exact hrun
end Xe
end Go.Proofs.YtfcpglhpolpdcaaGreatDoor
